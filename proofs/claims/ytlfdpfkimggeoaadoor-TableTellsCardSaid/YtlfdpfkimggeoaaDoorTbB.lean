/-
  Package table: copied, New, Size, Get, Find.
-/
import Derived.Test.YtlfdpfkimggeoaaDoorTbA
namespace Go.Proofs.YtlfdpfkimggeoaaDoor
open Go.RowKit
set_option linter.unusedVariables false
set_option linter.unusedSimpArgs false

set_option maxHeartbeats 4000000 in
set_option maxRecDepth 100000 in
theorem copied_any (r : Rt) (hr4 : r.path.length ≤ 4096) {A : Option Addr} (ca : Nat) {w : World} (h : RtAt w r A r.path.length) :
    Calls Tryd.prog 25 #[.agg #[.int .i64 r.kind, .int .i64 r.cost, .slice A r.path.length ca]] w (RtGives r w) := by
  obtain ⟨k, c, l⟩ := r
  dsimp only at hr4 h ⊢
  obtain ⟨n, hn⟩ : ∃ n, l.length = n := ⟨_, rfl⟩
  rw [hn] at hr4 h ⊢
  have HN := Lib.hid hn
  have h0 := Rt2.new w k c A n ca 0 0 none 0 0
  have HC := Lib.hid (h.on h0.up).2.1
  obtain ⟨q0, q1, q2, p0, p1, p2⟩ := h0.cells
  have f0 := h0.one.frozen 2
  obtain ⟨i0, hi, hz0, hz1, hz2⟩ := info_parts numInfoA
  clear h hn
  go_enter Tryd.func25, Tryd.ntmps25
  go_wp2_with (refine wpList_append_cells _ rfl _ _ 23 rfl w.heap.size 3 i0 (.int .i64 0) 1 8 Tryd.underlying23 hi hz0 hz1 hz2 rfl (by decide) _ 0 [] rfl (World.ownsRow_nil _ _ _ _) _ A n ca (l.map (Value.int .i64)) rfl (by rw [List.length_map, HN.out, Nat.mul_one]) HC.out (fun u hu => by obtain ⟨y, _, rfl⟩ := List.mem_map.1 hu; rfl) (by omega) (by omega) (by have := h0.up.size; omega) ?_; intro v' w2 hown hgrow; rw [Nat.zero_add, List.nil_append] at hown; obtain ⟨A2, c2, rfl, hc2⟩ := own_formA hown; have k1 := h0.one.grown hgrow (fun e => by cases e); have k2 := h0.two.grown hgrow (fun e => by cases e); have f1 := k1.frozen 2; have s0 := k1.cell 0; have s1 := k1.cell 1; have s2 := k1.cell 2; have g0 := k2.frozen 0; have g1 := k2.frozen 1; have g2 := k2.frozen 2; have m0 := k2.cell 0; have m1 := k2.cell 1; have m2 := k2.cell 2)
  have u2 : Below w.heap.size w w2 := h0.up.grown hgrow (by have := h0.up.size; exact this) (fun k e => by cases e)
  have e1 : Blk (w2.setCell ⟨w.heap.size, 2, none⟩ (.slice A2 n c2)) w.heap.size 25 #[.int .i64 k, .int .i64 c, .slice A2 n c2] := k1.set_ 2 (.slice A2 n c2)
  have e2 := k2.far (p := ⟨w.heap.size, 2, none⟩) (by simp) (.slice A2 n c2)
  have e3 := e2.set_ 0 (.int .i64 k)
  have e4 := e3.set_ 1 (.int .i64 c)
  have e5 := e4.set_ 2 (.slice A2 n c2)
  have o1 := own_setA hown k1 (by decide) 2 (.slice A2 n c2)
  have o2 := own_setA o1 e2 (by decide) 0 (.int .i64 k)
  have o3 := own_setA o2 e3 (by decide) 1 (.int .i64 c)
  have o4 := own_setA o3 e4 (by decide) 2 (.slice A2 n c2)
  have u4 := (((u2.setCell (p := ⟨w.heap.size, 2, none⟩) (Nat.le_refl _) (.slice A2 n c2)).setCell (p := ⟨w.heap.size + 1, 0, none⟩) (by simp) (.int .i64 k)).setCell (p := ⟨w.heap.size + 1, 1, none⟩) (by simp) (.int .i64 c)).setCell (p := ⟨w.heap.size + 1, 2, none⟩) (by simp) (.slice A2 n c2)
  obtain ⟨W4, hW4⟩ : ∃ W4, W4 = (((w2.setCell ⟨w.heap.size, 2, none⟩ (.slice A2 n c2)).setCell ⟨w.heap.size + 1, 0, none⟩ (.int .i64 k)).setCell ⟨w.heap.size + 1, 1, none⟩ (.int .i64 c)).setCell ⟨w.heap.size + 1, 2, none⟩ (.slice A2 n c2) := ⟨_, rfl⟩
  rw [← hW4] at e5 o4 u4 ⊢
  have x0 : W4.cell? ⟨w.heap.size + 1, 0, none⟩ = some (.int .i64 k) := e5.cell 0
  have x1 : W4.cell? ⟨w.heap.size + 1, 1, none⟩ = some (.int .i64 c) := e5.cell 1
  have x2 : W4.cell? ⟨w.heap.size + 1, 2, none⟩ = some (.slice A2 n c2) := e5.cell 2
  clear hW4 k1 k2 e1 e2 e3 e4 e5 o1 o2 o3 s0 s1 s2 m0 m1 m2 g0 g1 g2 f1 hown hgrow
  refine bodyPost_ret (v := .agg #[.int .i64 k, .int .i64 c, .slice A2 n c2]) (by simp [results, Tryd.results25, go_sem, x0, x1, x2]) rfl ?_
  rw [← HN.out] at o4 hc2 ⊢
  exact ⟨A2, c2, rfl, o4, hc2, u4⟩

theorem tSize_any {F : Nat → Prop} {tb : Nat} {most : Int} {l : List Rt} {w : World} (h : TabAt F w tb most l) :
    Calls Tryd.prog 15 #[.pointer (some ⟨tb, 0, none⟩)] w fun e w' => e = .returned (.int .i64 (l.length : Int)) ∧ w = w' := by
  obtain ⟨A, c, mb, D, hs, h⟩ := h
  obtain ⟨c0, c1, c2⟩ := h.cells
  obtain ⟨n, hn⟩ : ∃ n, l.length = n := ⟨_, rfl⟩
  rw [hn] at c1 ⊢
  clear h hn
  go_enter Tryd.func15, Tryd.ntmps15
  go_wp2
  go_ret
  exact ⟨rfl, rfl⟩
theorem tSize_nil (w : World) : Calls Tryd.prog 15 #[.pointer none] w fun e w' => e = .returned (.int .i64 0) ∧ w = w' := by
  go_enter Tryd.func15, Tryd.ntmps15
  go_wp2
  go_ret
  exact ⟨rfl, rfl⟩

/-- The route of a number; none, if there is none of it. -/
def getR (l : List Rt) (id : Int) : Rt := if id < 0 then Rt.none else (l[id.toNat]?).getD Rt.none
theorem tSize_is {F : Nat → Prop} {tb : Nat} {most : Int} {l : List Rt} {n : Nat} (HN : Hid (l.length = n)) {w : World} (h : TabAt F w tb most l) :
    Calls Tryd.prog 15 #[.pointer (some ⟨tb, 0, none⟩)] w fun e w' => e = .returned (.int .i64 (n : Int)) ∧ w = w' := by
  have := tSize_any h; rwa [HN.out] at this
theorem none_gives (w w' : World) (h : Below w.heap.size w w') : RtGives Rt.none w (.returned (.agg #[.int .i64 0, .int .i64 0, .slice none 0 0])) w' := ⟨none, 0, rfl, World.ownsRow_nil _ _ _ _, Nat.le_refl _, h⟩

theorem copied_is (r : Rt) {n : Nat} (HN : Hid (r.path.length = n)) (hr4 : n ≤ 4096) {A : Option Addr} {ca : Nat} {w : World} (h : RtAt w r A n) :
    Calls Tryd.prog 25 #[.agg #[.int .i64 r.kind, .int .i64 r.cost, .slice A n ca]] w fun e w' => ∃ A2 c2, e = .returned (.agg #[.int .i64 r.kind, .int .i64 r.cost, .slice A2 n c2]) ∧ w'.ownsRow w.heap.size 3 1 (.slice A2 n c2) n (r.path.map (Value.int .i64)) ∧ n ≤ c2 ∧ Below w.heap.size w w' := by
  have e := HN.out
  subst e
  exact copied_any r hr4 ca h
theorem TabIn.rts {F : Nat → Prop} {w : World} {tb : Nat} {most : Int} {l : List Rt} {A : Option Addr} {c mb : Nat} {D : DataW Unit} {hs : List (Option Addr × Nat)} (h : TabIn F w tb most l A c mb D hs) : RtsAt w A l :=
  ⟨hs, h.hl, CellsAt.of_own h.rows, fun i r q h1 h2 => (h.paths i r q h1 h2).1⟩

set_option maxHeartbeats 4000000 in
set_option maxRecDepth 100000 in
theorem tGet_any {F : Nat → Prop} {tb : Nat} {most : Int} {l : List Rt} {w : World} (h : TabAt F w tb most l) (id : Int) (hid : InI id) :
    Calls Tryd.prog 19 #[.pointer (some ⟨tb, 0, none⟩), .int .i64 id] w (RtGives (getR l id) w) := by
  obtain ⟨n, hn⟩ : ∃ n, l.length = n := ⟨_, rfl⟩
  have HN := Lib.hid hn
  obtain ⟨hid1, hid2⟩ := hid
  have hk0 := Blk.new w 25 #[.int .i64 0, .int .i64 0, .slice none 0 0]
  have f0 := hk0.frozen 0
  have f1 := hk0.frozen 1
  have f2 := hk0.frozen 2
  have m0 := hk0.cell 0
  have m1 := hk0.cell 1
  have m2 := hk0.cell 2
  by_cases h0 : id < 0
  · have HG : Hid (getR l id = Rt.none) := Lib.hid (by unfold getR; rw [if_pos h0])
    rw [HG.out]
    clear h hn
    go_enter Tryd.func19, Tryd.ntmps19
    go_wp2
    refine bodyPost_ret (v := .agg #[.int .i64 0, .int .i64 0, .slice none 0 0]) (by simp [results, Tryd.results19, go_sem]) rfl (none_gives _ _ ?_)
    exact below_new w _
  · by_cases h1 : id < n
    · obtain ⟨i, rfl⟩ := Int.eq_ofNat_of_zero_le (show 0 ≤ id by omega)
      obtain ⟨r, hr⟩ : ∃ r, l[i]? = some r := ⟨_, List.getElem?_eq_getElem (by omega)⟩
      have HG : Hid (getR l i = r) := Lib.hid (by unfold getR; rw [if_neg (by omega)]; simp [hr])
      rw [HG.out]
      have h1 := h.go (below_new w (.cells #[.int .i64 0, .int .i64 0, .slice none 0 0] 25))
      have H1 := h1
      obtain ⟨A, c, mb, D, hs, h1⟩ := h1
      obtain ⟨c0, c1, c2⟩ := h1.cells
      have h12 : r.path.length ≤ 12 := rt_len (h1.right r (List.mem_of_getElem? hr))
      obtain ⟨ad, Ao, co, rfl, hadl, d0, d1, d2, hra⟩ := h1.rts.get hr
      obtain ⟨m, hm⟩ : ∃ m, r.path.length = m := ⟨_, rfl⟩
      have HM := Lib.hid hm
      rw [hm] at d2 hra h12
      rw [hn] at c1
      have hi0 : (0 : Int) ≤ (i : Int) := by omega
      have hi1 : (i : Int) < (n : Int) := by omega
      have hw0 : (w.alloc (.cells #[.int .i64 0, .int .i64 0, .slice none 0 0] 25)).heap.size = w.heap.size + 1 := by simp
      have HS0 := Lib.hid hw0
      clear h hn hm hr h1 hk0 hw0
      go_enter Tryd.func19, Tryd.ntmps19
      go_wp2_with (first
        | (go_at_call 15; (with_reducible refine (tSize_is HN H1).mono ?_); rintro e w1 ⟨rfl, rfl⟩)
        | (go_at_call 25; (with_reducible refine (copied_is r HM (by omega) hra).mono ?_); rintro e w2 ⟨A2, c2', rfl, ho, hle, hb⟩; have hk2 := (Blk.new w 25 #[.int .i64 0, .int .i64 0, .slice none 0 0]).up hb; have g0 := hk2.frozen 0; have g1 := hk2.frozen 1; have g2 := hk2.frozen 2; have n0 := hk2.cell 0; have n1 := hk2.cell 1; have n2 := hk2.cell 2))
      have e3 := hk2.set_ 0 (.int .i64 r.kind)
      have e4 := e3.set_ 1 (.int .i64 r.cost)
      have e5 := e4.set_ 2 (.slice A2 m c2')
      have o2 := own_setA ho hk2 (by decide) 0 (.int .i64 r.kind)
      have o3 := own_setA o2 e3 (by decide) 1 (.int .i64 r.cost)
      have o4 := own_setA o3 e4 (by decide) 2 (.slice A2 m c2')
      have u4 := (((below_on (below_new w _) hb).setCell (p := ⟨w.heap.size, 0, none⟩) (Nat.le_refl _) (.int .i64 r.kind)).setCell (p := ⟨w.heap.size, 1, none⟩) (Nat.le_refl _) (.int .i64 r.cost)).setCell (p := ⟨w.heap.size, 2, none⟩) (Nat.le_refl _) (.slice A2 m c2')
      obtain ⟨W4, hW4⟩ : ∃ W4, W4 = ((w2.setCell ⟨w.heap.size, 0, none⟩ (.int .i64 r.kind)).setCell ⟨w.heap.size, 1, none⟩ (.int .i64 r.cost)).setCell ⟨w.heap.size, 2, none⟩ (.slice A2 m c2') := ⟨_, rfl⟩
      rw [← hW4] at e5 o4 u4 ⊢
      have x0 : W4.cell? ⟨w.heap.size, 0, none⟩ = some (.int .i64 r.kind) := e5.cell 0
      have x1 : W4.cell? ⟨w.heap.size, 1, none⟩ = some (.int .i64 r.cost) := e5.cell 1
      have x2 : W4.cell? ⟨w.heap.size, 2, none⟩ = some (.slice A2 m c2') := e5.cell 2
      clear hW4 e3 e4 e5 o2 o3 n0 n1 n2 g0 g1 g2 hk2
      refine bodyPost_ret (v := .agg #[.int .i64 r.kind, .int .i64 r.cost, .slice A2 m c2']) (by simp [results, Tryd.results19, go_sem, x0, x1, x2]) rfl ?_
      rw [← HM.out] at o4 hle ⊢
      exact ⟨A2, c2', rfl, own_base o4 (by rw [HS0.out]; omega), hle, u4⟩
    · have HG : Hid (getR l id = Rt.none) := Lib.hid (by unfold getR; rw [if_neg h0, List.getElem?_eq_none (by omega)]; rfl)
      rw [HG.out]
      have h1' := h.go (below_new w (.cells #[.int .i64 0, .int .i64 0, .slice none 0 0] 25))
      clear h hn
      go_enter Tryd.func19, Tryd.ntmps19
      go_wp2_with (go_at_call 15; (with_reducible refine (tSize_is HN h1').mono ?_); rintro e w1 ⟨rfl, rfl⟩)
      refine bodyPost_ret (v := .agg #[.int .i64 0, .int .i64 0, .slice none 0 0]) (by simp [results, Tryd.results19, go_sem]) rfl (none_gives _ _ ?_)
      exact below_new w _

theorem tGet_nil (w : World) (id : Int) (hid : InI id) : Calls Tryd.prog 19 #[.pointer none, .int .i64 id] w (RtGives Rt.none w) := by
  obtain ⟨hid1, hid2⟩ := hid
  by_cases h0 : id < 0
  · go_enter Tryd.func19, Tryd.ntmps19
    go_wp2
    exact bodyPost_ret (v := .agg #[.int .i64 0, .int .i64 0, .slice none 0 0]) (by simp [results, Tryd.results19, go_sem]) rfl (none_gives _ _ (below_new w _))
  · go_enter Tryd.func19, Tryd.ntmps19
    go_wp2_with (go_at_call 15; (with_reducible refine (tSize_nil _).mono ?_); rintro e w1 ⟨rfl, rfl⟩)
    exact bodyPost_ret (v := .agg #[.int .i64 0, .int .i64 0, .slice none 0 0]) (by simp [results, Tryd.results19, go_sem]) rfl (none_gives _ _ (below_new w _))

/-- A table, a route's box, what else a call on them leans on. -/
structure TS (F : Nat → Prop) (w : World) (tb : Nat) (most : Int) (l : List Rt) (A : Option Addr) (c mb : Nat) (D : DataW Unit) (hs : List (Option Addr × Nat)) (r : Rt) (Ar : Option Addr) (n ca : Nat) (W : World) : Prop where
  tab : TabIn F W tb most l A c mb D hs
  box : Rt1 w r.kind r.cost Ar n ca W
  at_ : RtAt W r Ar n
  pow : PowTab W
section
variable {F : Nat → Prop} {w W W' : World} {tb : Nat} {most : Int} {l : List Rt} {A : Option Addr} {c mb : Nat} {D : DataW Unit} {hs : List (Option Addr × Nat)} {r : Rt} {Ar : Option Addr} {n ca : Nat}
theorem TS.go (h : TS F w tb most l A c mb D hs r Ar n ca W) (hb : Below W.heap.size W W') : TS F w tb most l A c mb D hs r Ar n ca W' := ⟨h.tab.go hb, h.box.go hb, h.at_.on hb, h.pow.on hb⟩
theorem TS.drew (h : TS F w tb most l A c mb D hs r Ar n ca W) : TS F w tb most l A c mb D hs r Ar n ca W.drew := h.go ((Below.refl _ _).drew)
theorem TS.new (h : TabIn F w tb most l A c mb D hs) (hr : RtAt w r Ar n) (PT : PowTab w) : TS F w tb most l A c mb D hs r Ar n ca (w.alloc (.cells #[.int .i64 r.kind, .int .i64 r.cost, .slice Ar n ca] 25)) :=
  ⟨h.go (below_new _ _), Rt1.new _ _ _ _ _ _, hr.box _, PT.on (below_new _ _)⟩
theorem TS.cells (h : TS F w tb most l A c mb D hs r Ar n ca W) : W.cell? ⟨tb, 0, none⟩ = some (.int .i64 most) ∧ W.cell? ⟨tb, 1, none⟩ = some (.slice A l.length c) ∧ W.cell? ⟨tb, 2, none⟩ = some (.map (some mb)) ∧ W.cell? ⟨w.heap.size, 0, none⟩ = some (.int .i64 r.kind) ∧ W.cell? ⟨w.heap.size, 1, none⟩ = some (.int .i64 r.cost) ∧ W.cell? ⟨w.heap.size, 2, none⟩ = some (.slice Ar n ca) :=
  ⟨h.tab.cells.1, h.tab.cells.2.1, h.tab.cells.2.2, h.box.cells.1, h.box.cells.2.1, h.box.cells.2.2⟩
end

set_option maxHeartbeats 4000000 in
set_option maxRecDepth 100000 in
theorem tFind_any {F : Nat → Prop} {tb : Nat} {most : Int} {l : List Rt} {w : World} (h : TabAt F w tb most l) (r : Rt) {Ar : Option Addr} {n : Nat} (ca : Nat) (hr : RtAt w r Ar n) (hl : n ≤ ca) (hc : ca ≤ 9223372036854775807) (PT : PowTab w) :
    Calls Tryd.prog 16 #[.pointer (some ⟨tb, 0, none⟩), .agg #[.int .i64 r.kind, .int .i64 r.cost, .slice Ar n ca]] w fun e w' => e = .returned (.int .i64 (ixR r l)) ∧ Below w.heap.size w w' := by
  obtain ⟨A, c, mb, D, hs, h⟩ := h
  obtain ⟨v, hv⟩ : ∃ v, ixR r l = v := ⟨_, rfl⟩
  rw [hv]
  have HV := Lib.hid hv
  obtain ⟨ln, hln⟩ : ∃ ln, l.length = ln := ⟨_, rfl⟩
  have h1 := TS.new (ca := ca) h hr PT
  obtain ⟨c0, c1, c2, b0, b1, b2⟩ := h1.cells
  rw [hln] at c1
  by_cases hR : rtRight r = true
  · have HR := Lib.hid hR
    obtain ⟨s, hs'⟩ : ∃ s, rtS r = s := ⟨_, rfl⟩
    have HS := Lib.hid hs'
    by_cases hm : r ∈ l
    · obtain ⟨i, hi, hil⟩ := ixR_some hm
      have HI := Lib.hid hi
      have HVI : Hid (v = (i : Int)) := Lib.hid (by rw [← hv]; exact ixR_at h.nodup hi)
      clear h hr PT hv hln hR hs' hm hi
      go_enter Tryd.func16, Tryd.ntmps16
      go_wp2_with (go_at_call 23; (with_reducible refine (atRight_is r true HR h1.at_ hl hc).mono ?_); rintro e w2 ⟨rfl, hb2⟩; have h2 := h1.go hb2; obtain ⟨d0, d1, d2, x0, x1, x2⟩ := h2.cells; have h2d := h2.drew; have L2 := h2d.tab.look HR.out HS.out HI.out)
      go_region_held3 (fun w' => w'.cell? ⟨tb, 2, none⟩ = some (.map (some mb)) ∧ w'.cell? ⟨w.heap.size, 0, none⟩ = some (.int .i64 r.kind) ∧ w'.cell? ⟨w.heap.size, 1, none⟩ = some (.int .i64 r.cost) ∧ w'.cell? ⟨w.heap.size, 2, none⟩ = some (.slice Ar n ca)) (go_keep) (first
        | (go_at_call 24; (with_reducible refine (atPrint_is r s HS HR h2d.at_ h2d.pow).mono ?_); rintro e w3 ⟨rfl, hb3⟩; have h3 := h2d.go hb3; obtain ⟨e0, e1, e2, y0, y1, y2⟩ := h3.cells; have L3 := h3.tab.look HR.out HS.out HI.out))
      go_step
      go_wp2
      go_ret
      exact ⟨ret_int HVI.out.symm, h3.box.up⟩
    · have HI := Lib.hid hm
      have HVI : Hid (v = -1) := Lib.hid (by rw [← hv]; exact ixR_not hm)
      clear h hr PT hv hln hR hs' hm
      go_enter Tryd.func16, Tryd.ntmps16
      go_wp2_with (go_at_call 23; (with_reducible refine (atRight_is r true HR h1.at_ hl hc).mono ?_); rintro e w2 ⟨rfl, hb2⟩; have h2 := h1.go hb2; obtain ⟨d0, d1, d2, x0, x1, x2⟩ := h2.cells; have h2d := h2.drew)
      go_region_held3 (fun w' => w'.cell? ⟨tb, 2, none⟩ = some (.map (some mb)) ∧ w'.cell? ⟨w.heap.size, 0, none⟩ = some (.int .i64 r.kind) ∧ w'.cell? ⟨w.heap.size, 1, none⟩ = some (.int .i64 r.cost) ∧ w'.cell? ⟨w.heap.size, 2, none⟩ = some (.slice Ar n ca)) (go_keep) (first
        | (go_at_call 24; (with_reducible refine (atPrint_is r s HS HR h2d.at_ h2d.pow).mono ?_); rintro e w3 ⟨rfl, hb3⟩; have h3 := h2d.go hb3; obtain ⟨e0, e1, e2, y0, y1, y2⟩ := h3.cells; have L3 := h3.tab.look_no HR.out HS.out HI.out))
      go_step
      go_wp2
      go_ret
      exact ⟨ret_int HVI.out.symm, h3.box.up⟩
  · have hR' : rtRight r = false := by simpa using hR
    have HR := Lib.hid hR'
    have HVI : Hid (v = -1) := Lib.hid (by rw [← hv]; exact ixR_not fun hm => hR (h.right r hm))
    clear h hr PT hv hln hR hR'
    go_enter Tryd.func16, Tryd.ntmps16
    go_wp2_with (go_at_call 23; (with_reducible refine (atRight_is r false HR h1.at_ hl hc).mono ?_); rintro e w2 ⟨rfl, hb2⟩)
    go_ret
    exact ⟨ret_int HVI.out.symm, below_on h1.box.up hb2⟩
theorem tFind_nil (w : World) (r : Rt) {Ar : Option Addr} {n : Nat} (ca : Nat) :
    Calls Tryd.prog 16 #[.pointer none, .agg #[.int .i64 r.kind, .int .i64 r.cost, .slice Ar n ca]] w fun e w' => e = .returned (.int .i64 (-1)) ∧ Below w.heap.size w w' := by
  go_enter Tryd.func16, Tryd.ntmps16
  go_wp2
  go_ret
  exact ⟨rfl, below_new _ _⟩
end Go.Proofs.YtlfdpfkimggeoaaDoor
