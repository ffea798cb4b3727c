/-
  The document's table: Find, Add.
-/
import Derived.Deep.RegionHeld3
import Derived.Test.YtlfdpfkimggeoaaDoorTbI
namespace Go.Proofs.YtlfdpfkimggeoaaDoor
open Go.RowKit
set_option linter.unusedVariables false
set_option linter.unusedSimpArgs false

structure RS (F : Nat → Prop) (w : World) (sb : Nat) (most : Int) (l : List Rt) (A : Option Addr) (c : Nat) (hs : List (Option Addr × Nat)) (r : Rt) (Ar : Option Addr) (n ca : Nat) (W : World) : Prop where
  ref : RefIn F W sb most l A c hs
  box : Rt1 w r.kind r.cost Ar n ca W
  at_ : RtAt W r Ar n
section
variable {F : Nat → Prop} {w W W' : World} {sb : Nat} {most : Int} {l : List Rt} {A : Option Addr} {c : Nat} {hs : List (Option Addr × Nat)} {r : Rt} {Ar : Option Addr} {n ca : Nat}
theorem RS.go (h : RS F w sb most l A c hs r Ar n ca W) (hb : Below W.heap.size W W') : RS F w sb most l A c hs r Ar n ca W' := ⟨h.ref.go hb, h.box.go hb, h.at_.on hb⟩
theorem RS.drew (h : RS F w sb most l A c hs r Ar n ca W) : RS F w sb most l A c hs r Ar n ca W.drew := h.go ((Below.refl _ _).drew)
theorem RS.new (h : RefIn F w sb most l A c hs) (hr : RtAt w r Ar n) : RS F w sb most l A c hs r Ar n ca (w.alloc (.cells #[.int .i64 r.kind, .int .i64 r.cost, .slice Ar n ca] 25)) := ⟨h.go (below_new _ _), Rt1.new _ _ _ _ _ _, hr.box _⟩
theorem RS.cells (h : RS F w sb most l A c hs r Ar n ca W) : W.cell? ⟨sb, 0, none⟩ = some (.int .i64 most) ∧ W.cell? ⟨sb, 1, none⟩ = some (.slice A l.length c) ∧ W.cell? ⟨w.heap.size, 0, none⟩ = some (.int .i64 r.kind) ∧ W.cell? ⟨w.heap.size, 1, none⟩ = some (.int .i64 r.cost) ∧ W.cell? ⟨w.heap.size, 2, none⟩ = some (.slice Ar n ca) :=
  ⟨h.ref.blk.cell 0, h.ref.blk.cell 1, h.box.cells.1, h.box.cells.2.1, h.box.cells.2.2⟩
theorem RS.ref2 (h : RS F w sb most l A c hs r Ar n ca W) : RefAt F W sb most l := ⟨_, _, _, h.ref⟩
end
theorem ixR_first {r : Rt} {l : List Rt} {i : Nat} (h : l[i]? = some r) (hf : ∀ j : Nat, j < i → l[j]? ≠ some r) : ixR r l = (i : Int) := by
  have hm : r ∈ l := List.mem_of_getElem? h
  obtain ⟨hi, e⟩ := List.getElem?_eq_some_iff.1 h
  have : (l.findIdx fun x => decide (x = r)) = i := by
    rw [List.findIdx_eq hi]
    refine ⟨by simp [e], fun j hj => decide_eq_false fun e1 => hf j hj ?_⟩
    rw [List.getElem?_eq_getElem (by omega), e1]
  rw [ixR, if_pos hm, this]

set_option maxHeartbeats 4000000 in
set_option maxRecDepth 100000 in
theorem refFind_any {F : Nat → Prop} {sb : Nat} {most : Int} {l : List Rt} {w : World} (h : RefAt F w sb most l) (r : Rt) (v : Int) (hv : Hid (ixR r l = v)) {Ar : Option Addr} {n ca : Nat} (hr : RtAt w r Ar n) :
    Calls Tryd.prog 17 #[.pointer (some ⟨sb, 0, none⟩), .agg #[.int .i64 r.kind, .int .i64 r.cost, .slice Ar n ca]] w fun e w' => e = .returned (.int .i64 v) ∧ Below w.heap.size w w' := by
  obtain ⟨A, c, hs, h⟩ := h
  have h1 := RS.new (ca := ca) h hr
  obtain ⟨ln, hln⟩ : ∃ n, l.length = n := ⟨_, rfl⟩
  have HLN := Lib.hid hln
  have hlm := h.len
  rw [hln] at hlm
  obtain ⟨s0, s1, b0, b1, b2⟩ := h1.cells
  rw [hln] at s1
  clear h hr hln
  go_enter Tryd.func17, Tryd.ntmps17
  go_wp2
  go_loopw [5] (fun s5 wr => ∃ k : Nat, k ≤ ln ∧ s5 = .int .i64 (k : Nat) ∧ (∀ j : Nat, j < k → l[j]? ≠ some r) ∧ RS F w sb most l A c hs r Ar n ca wr) (fun s5 _ => ln - (intOf s5).toNat)
  case atStart => exact ⟨0, Nat.zero_le _, rfl, fun j hj => by omega, h1⟩
  case round =>
    clear h1 s0 s1 b0 b1 b2
    obtain ⟨k, hk, rfl, hf, h1⟩ := hrel
    have HF := Lib.hid hf
    clear hf
    obtain ⟨s0, s1, b0, b1, b2⟩ := h1.cells
    rw [HLN.out] at s1
    by_cases hlt : k < ln
    · obtain ⟨x, hx⟩ : ∃ x, l[k]? = some x := ⟨_, List.getElem?_eq_getElem (by rw [HLN.out]; exact hlt)⟩
      have h1d := h1.drew
      obtain ⟨ad, Ao, co, rfl, hadl, d0, d1, d2, hra⟩ := h1d.ref.rts.get hx
      obtain ⟨m, hm⟩ : ∃ m, x.path.length = m := ⟨_, rfl⟩
      rw [hm] at d2 hra
      have k0 : (0 : Int) ≤ (k : Int) := by omega
      have k1 : (k : Int) < (ln : Int) := by omega
      obtain ⟨b, hb⟩ : ∃ b, rtSame x r = b := ⟨_, rfl⟩
      have HB := Lib.hid hb
      have HX := Lib.hid hx
      have HD := Lib.hid (fun W (hW : Below wr.drew.heap.size wr.drew W) => (⟨(hW.cell (p := ad.add (k * 3)) (by rw [block_of_add]; exact hadl)).trans d0, (hW.cell (p := ⟨(ad.add (k * 3)).block, (ad.add (k * 3)).off + 1, none⟩) (by show (ad.add (k * 3)).block < _; rw [block_of_add]; exact hadl)).trans d1, (hW.cell (p := ⟨(ad.add (k * 3)).block, (ad.add (k * 3)).off + 2, none⟩) (by show (ad.add (k * 3)).block < _; rw [block_of_add]; exact hadl)).trans d2⟩ : _ ∧ _ ∧ _))
      clear hx hm hb
      cases b
      · have HNE : Hid (x ≠ r) := Lib.hid fun e => by have h2 := HB.out; rw [same_iff.2 e] at h2; cases h2
        go_wp2_with fail
        go_region_held3 (fun w' => w'.cell? ⟨sb, 1, none⟩ = some (.slice (some ad) ln c) ∧ w'.cell? ⟨w.heap.size, 0, none⟩ = some (.int .i64 r.kind) ∧ w'.cell? ⟨w.heap.size, 1, none⟩ = some (.int .i64 r.cost) ∧ w'.cell? ⟨w.heap.size, 2, none⟩ = some (.slice Ar n ca) ∧ w'.cell? (ad.add (k * 3)) = some (.int .i64 x.kind) ∧ w'.cell? ⟨(ad.add (k * 3)).block, (ad.add (k * 3)).off + 1, none⟩ = some (.int .i64 x.cost) ∧ w'.cell? ⟨(ad.add (k * 3)).block, (ad.add (k * 3)).off + 2, none⟩ = some (.slice Ao m co)) (go_keep) (first
          | (go_at_call 18; (with_reducible refine (refSame6_is x r false HB hra h1d.at_).mono ?_); rintro e w2 ⟨rfl, hb2⟩; have h2 := h1d.go hb2; obtain ⟨q0, q1, q2, q3, q4⟩ := h2.cells; rw [HLN.out] at q1; obtain ⟨f0, f1, f2⟩ := HD.out _ hb2)
          | fail)
        go_step
        go_wp2
        go_roundw
        case rel => exact ⟨k + 1, by omega, by go_num, fun j hj e => by
          rcases Nat.lt_or_ge j k with h3 | h3
          · exact HF.out j h3 e
          · have : j = k := by omega
            subst this
            have h4 := HX.out
            rw [h4] at e
            injection e with e
            exact HNE.out e, h2⟩
        case measure => simp [intOf]; omega
      · have HE : Hid (v = (k : Int)) := Lib.hid (by rw [← hv.out]; exact ixR_first (by have := same_iff.1 HB.out; rw [← this]; exact HX.out) HF.out)
        go_wp2_with fail
        go_region_held3 (fun w' => w'.cell? ⟨sb, 1, none⟩ = some (.slice (some ad) ln c) ∧ w'.cell? ⟨w.heap.size, 0, none⟩ = some (.int .i64 r.kind) ∧ w'.cell? ⟨w.heap.size, 1, none⟩ = some (.int .i64 r.cost) ∧ w'.cell? ⟨w.heap.size, 2, none⟩ = some (.slice Ar n ca) ∧ w'.cell? (ad.add (k * 3)) = some (.int .i64 x.kind) ∧ w'.cell? ⟨(ad.add (k * 3)).block, (ad.add (k * 3)).off + 1, none⟩ = some (.int .i64 x.cost) ∧ w'.cell? ⟨(ad.add (k * 3)).block, (ad.add (k * 3)).off + 2, none⟩ = some (.slice Ao m co)) (go_keep) (first
          | (go_at_call 18; (with_reducible refine (refSame6_is x r true HB hra h1d.at_).mono ?_); rintro e w2 ⟨rfl, hb2⟩; have h2 := h1d.go hb2; obtain ⟨q0, q1, q2, q3, q4⟩ := h2.cells; rw [HLN.out] at q1; obtain ⟨f0, f1, f2⟩ := HD.out _ hb2)
          | fail)
        go_step
        go_wp2
        go_ret
        exact ⟨ret_int HE.out.symm, h2.box.up⟩
    · have HE : Hid (v = -1) := Lib.hid (by
        rw [← hv.out]
        refine ixR_not fun hm => ?_
        obtain ⟨i, hi, hil⟩ := ixR_some hm
        exact HF.out i (by have := HLN.out; omega) hi)
      go_wp2
      go_ret
      exact ⟨ret_int HE.out.symm, h1.box.up⟩

def RefTells (F : Nat → Prop) (w : World) (sb : Nat) (most : Int) (l : List Rt) (r : Rt) (e : Ending) (w' : World) : Prop :=
  e = .returned (.tuple #[.int .i64 (addK most l r), .int .i64 (addE most l r)]) ∧ Sep F w w' ∧ RefAt (grewF F w w') w' sb most (addL most l r)
theorem RefAt.wide {F : Nat → Prop} {w w' : World} {sb : Nat} {most : Int} {l : List Rt} (h : RefAt F w sb most l) (hb : Below w.heap.size w w') : RefAt (grewF F w w') w' sb most l := by
  obtain ⟨A, c, hs, h⟩ := h
  have h' := h.go hb
  exact ⟨A, c, hs,
    { lt := fun k hk => hk.elim (fun h1 => h'.lt k h1) (fun h1 => h1.2)
      fS := .inl h'.fS, fR := fun g hg => ⟨.inl (h'.fR g hg).1, (h'.fR g hg).2⟩, blk := h'.blk, rows := h'.rows, hl := h'.hl
      paths := fun i r q h1 h2 => ⟨(h'.paths i r q h1 h2).1, fun a ha => ⟨.inl ((h'.paths i r q h1 h2).2 a ha).1, ((h'.paths i r q h1 h2).2 a ha).2⟩⟩
      len := h'.len, zero := h'.zero }⟩
theorem RefTells.same {F : Nat → Prop} {w w' : World} {sb : Nat} {most : Int} {l : List Rt} {r : Rt} {K E : Int} (h : RefAt F w sb most l) (hK : addK most l r = K) (hE : addE most l r = E) (hL : addL most l r = l) (hb : Below w.heap.size w w') : RefTells F w sb most l r (.returned (.tuple #[.int .i64 K, .int .i64 E])) w' :=
  ⟨by rw [hK, hE], Sep.of_below hb, by rw [hL]; exact h.wide hb⟩
theorem step_append_cells {P : Program} {ops : Array Oper} {o : Oper} {a : Act} {w : World} {K : Act → World → Prop} {Q : Exit → Act → World → Prop} {E : Prop} (hgd : o.guard = none) (s x : Operand) (t : TypeId)
    (ho : o.op = .call { callee := .builtin .append, args := #[s, x], argTypes := #[t, t] })
    (base : Nat) (e : TypeId) (i : TypeInfo) (z : Value) (size bytes : Nat) (ht : P.underlying t = some (.slice e)) (hi : P.info? e = some i) (hz : i.zero = some z)
    (hsize : i.size = size) (hby : i.bytes = bytes) (hzs : z.cells.size = size) (hsz : 0 < size)
    (v : Value) (n : Nat) (xs : List Value) (hs : a.eval s = v) (hown : w.ownsRow base e size v n xs)
    (B : Nat) (A : Option Addr) (m c : Nat) (news : List Value) (hx : a.eval x = .slice A m c) (hl : news.length = m * size) (hr : CellsAt w B A news) (h1 : ∀ u ∈ news, u.oneCell' = true) (hb : n + m ≤ 1000000) (hb2 : (n + m) * bytes ≤ 140737488355328) (hbase : base ≤ w.heap.size)
    (h : ∀ v' w', w'.ownsRow base e size v' (n + m) (xs ++ news) → w.grownBy w' v.ownBlock → K (a.put o.dst v') w') :
    if Region.wanted o (yielded ops a.tmps) = true then Oper.wp P o a w K Q else E := by
  have hw : Region.wanted o (yielded ops a.tmps) = true := by simp [Region.wanted, hgd]
  rw [if_pos hw]
  obtain ⟨v', w', hr', h2, h3⟩ := run_append_cells (P := P) w base t o.type e i z size bytes ht hi hz hsize hby hzs hsz v n xs hown B A m c news hl hr h1 hb hb2 hbase
  unfold Oper.wp execOp
  simp only [ho, resolve, invoke, builtin, Sem.run_bind, Sem.run_pure, Result.andThen_ok, List.map_toArray, List.map_cons, List.map_nil, hs, hx, hr']
  exact h v' w' h2 h3
theorem below_grown0 {w w' : World} (h : w.grownBy w' none) : Below w.heap.size w w' := ⟨h.os, h.tape, h.output, h.size, fun k hk => h.block k hk (fun e => by cases e)⟩

set_option maxHeartbeats 8000000 in
set_option maxRecDepth 100000 in
theorem refAdd_bad {F : Nat → Prop} {sb : Nat} {most : Int} {l : List Rt} {w : World} (h : RefAt F w sb most l) (r : Rt) (hR : rtRight r = false) {Ar : Option Addr} {n : Nat} (ca : Nat) (hr : RtAt w r Ar n) :
    Calls Tryd.prog 14 #[.pointer (some ⟨sb, 0, none⟩), .agg #[.int .i64 r.kind, .int .i64 r.cost, .slice Ar n ca]] w (RefTells F w sb most l r) := by
  have HR := Lib.hid hR
  have HFIN := Lib.hid (fun w' (hb : Below w.heap.size w w') => RefTells.same (r := r) h (by unfold addK; rw [if_neg (by simp [hR])] : addK most l r = 0) (by unfold addE; rw [if_neg (by simp [hR])] : addE most l r = 1) (by unfold addL; rw [if_neg (by simp [hR])]) hb)
  obtain ⟨A, c, hs, h⟩ := h
  obtain ⟨ln, hln⟩ : ∃ n, l.length = n := ⟨_, rfl⟩
  have HLN := Lib.hid hln
  have h1 := RS.new (ca := ca) h hr
  obtain ⟨c0, c1, b0, b1, b2⟩ := h1.cells
  rw [hln] at c1
  clear h hr hR hln
  go_enter Tryd.func14, Tryd.ntmps14
  go_wp2_with (go_at_call 26; (with_reducible refine (refRight6_is r false HR h1.at_).mono ?_); rintro e w2 ⟨rfl, hb2⟩; have h2 := h1.go hb2; obtain ⟨d0, d1, x0, x1, x2⟩ := h2.cells; rw [HLN.out] at d1)
  go_ret2
  exact HFIN.out _ h2.box.up

set_option maxHeartbeats 8000000 in
set_option maxRecDepth 100000 in
theorem refAdd_zero {F : Nat → Prop} {sb : Nat} {most : Int} {l : List Rt} {w : World} (h : RefAt F w sb most l) (r : Rt) (hR : rtRight r = true) (hz : most = 0) {Ar : Option Addr} {n : Nat} (ca : Nat) (hr : RtAt w r Ar n) :
    Calls Tryd.prog 14 #[.pointer (some ⟨sb, 0, none⟩), .agg #[.int .i64 r.kind, .int .i64 r.cost, .slice Ar n ca]] w (RefTells F w sb most l r) := by
  have HR := Lib.hid hR
  have hl0 : l = [] := by obtain ⟨A, c, hs, h⟩ := h; exact h.zero hz
  have HFIN := Lib.hid (fun w' (hb : Below w.heap.size w w') => RefTells.same (r := r) h (by rw [hz, hl0]; exact addK_nil r : addK most l r = 0) (by rw [hz, hl0, addE_nil, if_pos hR] : addE most l r = 60) (by rw [hz, hl0]; exact addL_nil r) hb)
  obtain ⟨A, c, hs, h⟩ := h
  obtain ⟨ln, hln⟩ : ∃ n, l.length = n := ⟨_, rfl⟩
  have HLN := Lib.hid hln
  have h1 := RS.new (ca := ca) h hr
  obtain ⟨c0, c1, b0, b1, b2⟩ := h1.cells
  rw [hln] at c1
  have t0 : (most == 0) = true := by simp [hz]
  clear h hr hR hln hz hl0
  go_enter Tryd.func14, Tryd.ntmps14
  go_wp2_with (go_at_call 26; (with_reducible refine (refRight6_is r true HR h1.at_).mono ?_); rintro e w2 ⟨rfl, hb2⟩; have h2 := h1.go hb2; obtain ⟨d0, d1, x0, x1, x2⟩ := h2.cells; rw [HLN.out] at d1)
  go_ret2
  exact HFIN.out _ h2.box.up

set_option maxHeartbeats 8000000 in
set_option maxRecDepth 100000 in
theorem refAdd_old {F : Nat → Prop} {sb : Nat} {most : Int} {l : List Rt} {w : World} (h : RefAt F w sb most l) (r : Rt) (hR : rtRight r = true) (hz : most ≠ 0) (hm : r ∈ l) {Ar : Option Addr} {n : Nat} (ca : Nat) (hr : RtAt w r Ar n) :
    Calls Tryd.prog 14 #[.pointer (some ⟨sb, 0, none⟩), .agg #[.int .i64 r.kind, .int .i64 r.cost, .slice Ar n ca]] w (RefTells F w sb most l r) := by
  have HR := Lib.hid hR
  obtain ⟨v, hv⟩ : ∃ v, ixR r l = v := ⟨_, rfl⟩
  have HV := Lib.hid hv
  have v0 : 0 ≤ v := by rw [← hv]; unfold ixR; rw [if_pos hm]; omega
  obtain ⟨a1, a2, a3⟩ := add_old (most := most) hR hm
  have HFIN := Lib.hid (fun w' (hb : Below w.heap.size w w') => RefTells.same (r := r) h (by rw [a1, hv] : addK most l r = v) a2 a3 hb)
  obtain ⟨A, c, hs, h⟩ := h
  obtain ⟨ln, hln⟩ : ∃ n, l.length = n := ⟨_, rfl⟩
  have HLN := Lib.hid hln
  have h1 := RS.new (ca := ca) h hr
  obtain ⟨c0, c1, b0, b1, b2⟩ := h1.cells
  rw [hln] at c1
  have t0 : (most == 0) = false := by simp [hz]
  clear h hr hR hln hz hm hv a1 a2 a3
  go_enter Tryd.func14, Tryd.ntmps14
  go_wp2_with (first
    | (go_at_call 26; (with_reducible refine (refRight6_is r true HR h1.at_).mono ?_); rintro e w2 ⟨rfl, hb2⟩; have h2 := h1.go hb2; obtain ⟨d0, d1, x0, x1, x2⟩ := h2.cells; rw [HLN.out] at d1)
    | (go_at_call 17; (with_reducible refine (refFind_any h2.ref2 r v HV h2.at_).mono ?_); rintro e w3 ⟨rfl, hb3⟩; have h3 := h2.go hb3; obtain ⟨e0, e1, y0, y1, y2⟩ := h3.cells; rw [HLN.out] at e1))
  go_ret2
  exact HFIN.out _ h3.box.up

set_option maxHeartbeats 8000000 in
set_option maxRecDepth 100000 in
theorem refAdd_full {F : Nat → Prop} {sb : Nat} {most : Int} {l : List Rt} {w : World} (h : RefAt F w sb most l) (r : Rt) (hR : rtRight r = true) (hz : most ≠ 0) (hm : r ∉ l) (hf : ¬ (l.length : Int) < most) {Ar : Option Addr} {n : Nat} (ca : Nat) (hr : RtAt w r Ar n) :
    Calls Tryd.prog 14 #[.pointer (some ⟨sb, 0, none⟩), .agg #[.int .i64 r.kind, .int .i64 r.cost, .slice Ar n ca]] w (RefTells F w sb most l r) := by
  have HR := Lib.hid hR
  have HV : Hid (ixR r l = -1) := Lib.hid (ixR_not hm)
  obtain ⟨a1, a2, a3⟩ := add_full (most := most) hR hm hf
  have HFIN := Lib.hid (fun w' (hb : Below w.heap.size w w') => RefTells.same (r := r) h a1 a2 a3 hb)
  obtain ⟨A, c, hs, h⟩ := h
  obtain ⟨ln, hln⟩ : ∃ n, l.length = n := ⟨_, rfl⟩
  have HLN := Lib.hid hln
  have h1 := RS.new (ca := ca) h hr
  obtain ⟨c0, c1, b0, b1, b2⟩ := h1.cells
  rw [hln] at c1
  have t0 : (most == 0) = false := by simp [hz]
  have t1 : most ≤ (ln : Int) := by omega
  have t2 : decide (most ≤ (ln : Int)) = true := by simpa using t1
  clear h hr hR hln hz hm hf a1 a2 a3
  go_enter Tryd.func14, Tryd.ntmps14
  go_wp2_with (first
    | (go_at_call 26; (with_reducible refine (refRight6_is r true HR h1.at_).mono ?_); rintro e w2 ⟨rfl, hb2⟩; have h2 := h1.go hb2; obtain ⟨d0, d1, x0, x1, x2⟩ := h2.cells; rw [HLN.out] at d1)
    | (go_at_call 17; (with_reducible refine (refFind_any h2.ref2 r (-1) HV h2.at_).mono ?_); rintro e w3 ⟨rfl, hb3⟩; have h3 := h2.go hb3; obtain ⟨e0, e1, y0, y1, y2⟩ := h3.cells; rw [HLN.out] at e1))
  go_quiet (fail)
  go_wp2
  go_ret2
  exact HFIN.out _ (below_draws h3.box.up _)
end Go.Proofs.YtlfdpfkimggeoaaDoor
