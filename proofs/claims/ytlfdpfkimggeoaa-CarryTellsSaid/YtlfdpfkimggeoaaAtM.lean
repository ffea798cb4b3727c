/-
  The law's Route, walked.
-/
import Derived.Test.YtlfdpfkimggeoaaAtI
namespace Go.Proofs.Ytlfdpfkimggeoaa
open Go.RowKit
set_option linter.unusedVariables false
set_option linter.unusedSimpArgs false

/-- The best route so far, in its box; the answer's box. -/
structure BestSt (w : World) (k c : Int) (A : Option Addr) (n ca : Nat) (W : World) : Prop where
  res : Blk W w.heap.size 42 #[.int .i64 0, .int .i64 0, .slice none 0 0]
  best : Blk W (w.heap.size + 1) 42 #[.int .i64 k, .int .i64 c, .slice A n ca]
  up : Below w.heap.size w W
section
variable {w : World} {k c : Int} {A : Option Addr} {n ca : Nat} {W W' : World}
theorem BestSt.new (w : World) : BestSt w 0 0 none 0 0 ((w.alloc (.cells #[.int .i64 0, .int .i64 0, .slice none 0 0] 42)).alloc (.cells #[.int .i64 0, .int .i64 0, .slice none 0 0] 42)) :=
  ⟨(Blk.new w _ _).alloc _, by have := Blk.new (w.alloc (.cells #[.int .i64 0, .int .i64 0, .slice none 0 0] 42)) 42 #[.int .i64 0, .int .i64 0, .slice none 0 0]; rwa [World.size_alloc] at this, below_2 w _ _⟩
theorem BestSt.go (h : BestSt w k c A n ca W) (hb : Below W.heap.size W W') : BestSt w k c A n ca W' := ⟨h.res.up hb, h.best.up hb, below_on h.up hb⟩
theorem BestSt.cells (h : BestSt w k c A n ca W) : W.cell? ⟨w.heap.size + 1, 0, none⟩ = some (.int .i64 k) ∧ W.cell? ⟨w.heap.size + 1, 1, none⟩ = some (.int .i64 c) ∧ W.cell? ⟨w.heap.size + 1, 2, none⟩ = some (.slice A n ca) :=
  ⟨h.best.cell 0, h.best.cell 1, h.best.cell 2⟩
theorem BestSt.put (h : BestSt w k c A n ca W) (k' c' : Int) (A' : Option Addr) (n' ca' : Nat) :
    BestSt w k' c' A' n' ca' (((W.setCell ⟨w.heap.size + 1, 0, none⟩ (.int .i64 k')).setCell ⟨w.heap.size + 1, 1, none⟩ (.int .i64 c')).setCell ⟨w.heap.size + 1, 2, none⟩ (.slice A' n' ca')) := by
  have hne : w.heap.size ≠ w.heap.size + 1 := by omega
  exact ⟨((h.res.far (p := ⟨w.heap.size + 1, 0, none⟩) hne _).far (p := ⟨w.heap.size + 1, 1, none⟩) hne _).far (p := ⟨w.heap.size + 1, 2, none⟩) hne _,
    ((h.best.set_ 0 _).set_ 1 _).set_ 2 _,
    ((h.up.setCell (p := ⟨w.heap.size + 1, 0, none⟩) (by simp) _).setCell (p := ⟨w.heap.size + 1, 1, none⟩) (by simp) _).setCell (p := ⟨w.heap.size + 1, 2, none⟩) (by simp) _⟩
theorem BestSt.put2 (h : BestSt w k c A n ca W) (A' : Option Addr) (n' ca' : Nat) : BestSt w k c A' n' ca' (W.setCell ⟨w.heap.size + 1, 2, none⟩ (.slice A' n' ca')) := by
  have hne : w.heap.size ≠ w.heap.size + 1 := by omega
  exact ⟨h.res.far (p := ⟨w.heap.size + 1, 2, none⟩) hne _, h.best.set_ 2 _, h.up.setCell (p := ⟨w.heap.size + 1, 2, none⟩) (by simp) _⟩
theorem BestSt.grown (h : BestSt w k c A n ca W) (hg : W.grownBy W' none) (hs : w.heap.size ≤ W.heap.size) : BestSt w k c A n ca W' :=
  ⟨h.res.grown hg (by simp), h.best.grown hg (by simp), h.up.grown hg hs (fun g hg => by cases hg)⟩
end
theorem RtsAt.get_on {w W : World} {A : Option Addr} {l : List Rt} (h : RtsAt w A l) (hb : Below w.heap.size w W) {k : Nat} {r : Rt} (hk : l[k]? = some r) :
    ∃ ad Ao c, A = some ad ∧ W.cell? (ad.add (k * 3)) = some (.int .i64 r.kind) ∧ W.cell? ⟨(ad.add (k * 3)).block, (ad.add (k * 3)).off + 1, none⟩ = some (.int .i64 r.cost) ∧ W.cell? ⟨(ad.add (k * 3)).block, (ad.add (k * 3)).off + 2, none⟩ = some (.slice Ao r.path.length c) ∧ RtAt w r Ao r.path.length := by
  obtain ⟨ad, Ao, c, hA, hl, c0, c1, c2, hr⟩ := h.get hk
  have hbl : (ad.add (k * 3)).block < w.heap.size := by rw [block_of_add]; exact hl
  exact ⟨ad, Ao, c, hA, (hb.cell (p := ad.add (k * 3)) hbl).trans c0, (hb.cell (p := ⟨(ad.add (k * 3)).block, (ad.add (k * 3)).off + 1, none⟩) hbl).trans c1, (hb.cell (p := ⟨(ad.add (k * 3)).block, (ad.add (k * 3)).off + 2, none⟩) hbl).trans c2, hr⟩

end Go.Proofs.Ytlfdpfkimggeoaa
namespace Go.Proofs.Ytlfdpfkimggeoaa
open Go.RowKit
set_option linter.unusedVariables false
set_option linter.unusedSimpArgs false

/-- A route told: its numbers lie anywhere. -/
def RtTells (r : Rt) (w : World) (e : Ending) (w' : World) : Prop :=
  ∃ A c, e = .returned (.agg #[.int .i64 r.kind, .int .i64 r.cost, .slice A r.path.length c]) ∧ RtAt w' r A r.path.length ∧ Below w.heap.size w w'
theorem RtsAt.gets {w : World} {A : Option Addr} {l : List Rt} (h : RtsAt w A l) {k : Nat} {r : Rt} (hk : l[k]? = some r) :
    ∃ ad Ao c, A = some ad ∧ RtAt w r Ao r.path.length ∧ ∀ W, Below w.heap.size w W → W.cell? (ad.add (k * 3)) = some (.int .i64 r.kind) ∧ W.cell? ⟨(ad.add (k * 3)).block, (ad.add (k * 3)).off + 1, none⟩ = some (.int .i64 r.cost) ∧ W.cell? ⟨(ad.add (k * 3)).block, (ad.add (k * 3)).off + 2, none⟩ = some (.slice Ao r.path.length c) := by
  obtain ⟨ad, Ao, c, hA, hl, c0, c1, c2, hr⟩ := h.get hk
  have hbl : (ad.add (k * 3)).block < w.heap.size := by rw [block_of_add]; exact hl
  exact ⟨ad, Ao, c, hA, hr, fun W hb => ⟨(hb.cell (p := ad.add (k * 3)) hbl).trans c0, (hb.cell (p := ⟨(ad.add (k * 3)).block, (ad.add (k * 3)).off + 1, none⟩) hbl).trans c1, (hb.cell (p := ⟨(ad.add (k * 3)).block, (ad.add (k * 3)).off + 2, none⟩) hbl).trans c2⟩⟩
theorem BestSt.drew {w : World} {k c : Int} {A : Option Addr} {n ca : Nat} {W : World} (h : BestSt w k c A n ca W) : BestSt w k c A n ca W.drew := h.go ((Below.refl _ _).drew)
theorem BestSt.drewN {w : World} {k c : Int} {A : Option Addr} {n ca : Nat} {W : World} (h : BestSt w k c A n ca W) (q : Nat) : BestSt w k c A n ca (W.drewN q) := h.go (below_drewN _ q)

end Go.Proofs.Ytlfdpfkimggeoaa
namespace Go.Proofs.Ytlfdpfkimggeoaa
open Go.RowKit
set_option linter.unusedVariables false
set_option linter.unusedSimpArgs false

def numR (x : Int) : Int := if 1000 < x then 1 + pickN x 65535 else 1 + pickN x 9
def pathG (p : List Int) : List Int → List Int
  | [] => p
  | x :: l => if p.length < 12 then pathG (if memI (numR x) p = true then p else p ++ [numR x]) l else p
def vecC : List Int → Int
  | [] => 0
  | y :: _ => pickN y 16
def rtOf : List Int → Rt
  | [] => Rt.none
  | x :: l => if pickN x 4 = 0 then Rt.none else if pickN x 4 = 1 then ⟨1, vecC l, []⟩ else ⟨2, 0, pathG [] l⟩

theorem numR_in (x : Int) : 1 ≤ numR x ∧ numR x ≤ 65535 := by
  unfold numR
  have h1 := pickN_in x 65535 (by omega)
  have h2 := pickN_in x 9 (by omega)
  split <;> omega
structure PGood (p : List Int) : Prop where
  len : p.length ≤ 12
  ok : pathOk p = true
theorem PGood.nil : PGood [] := ⟨by simp, by simp [pathOk]⟩
theorem PGood.next {p : List Int} (h : PGood p) (hl : p.length < 12) (x : Int) (hm : memI (numR x) p = false) : PGood (p ++ [numR x]) := by
  refine ⟨by simp; omega, ?_⟩
  have h1 := h.ok
  have hn := numR_in x
  unfold pathOk at h1 ⊢
  unfold memI at hm
  rw [Bool.and_eq_true] at h1 ⊢
  rw [decide_eq_true_eq] at h1
  rw [decide_eq_false_iff_not] at hm
  refine ⟨by rw [List.all_append, h1.1]; simp [hn], ?_⟩
  rw [decide_eq_true_eq, List.nodup_append]
  refine ⟨h1.2, by simp, fun a ha b hb => ?_⟩
  rw [List.mem_singleton] at hb
  subst hb
  exact fun e => hm (e ▸ ha)
theorem pathG_good : ∀ (l p : List Int), PGood p → PGood (pathG p l)
  | [], p, h => h
  | x :: l, p, h => by
    rw [pathG]
    by_cases hl : p.length < 12
    · rw [if_pos hl]
      by_cases hm : memI (numR x) p = true
      · rw [if_pos hm]; exact pathG_good l p h
      · rw [if_neg hm]; exact pathG_good l _ (h.next hl x (by simpa using hm))
    · rw [if_neg hl]; exact h
theorem rtOf_right (l : List Int) : rtRight (rtOf l) = true := by
  cases l with
  | nil => rfl
  | cons x l =>
    rw [rtOf]
    by_cases h0 : pickN x 4 = 0
    · rw [if_pos h0]; rfl
    · rw [if_neg h0]
      by_cases h1 : pickN x 4 = 1
      · rw [if_pos h1]
        cases l with
        | nil => rfl
        | cons y l =>
          have := pickN_in y 16 (by omega)
          show (decide (0 ≤ pickN y 16) && (decide (pickN y 16 ≤ 15) && decide (([] : List Int).length = 0))) = true
          simp; omega
      · rw [if_neg h1]
        have := pathG_good l [] PGood.nil
        show (decide ((0 : Int) = 0) && pathB (pathG [] l)) = true
        unfold pathB
        rw [decide_eq_true this.len, this.ok]; rfl
theorem rt_len {r : Rt} (h : rtRight r = true) : r.path.length ≤ 12 := by
  unfold rtRight at h
  by_cases h0 : r.kind = 0
  · rw [if_pos h0] at h; simp at h; simp [h.2]
  · rw [if_neg h0] at h
    by_cases h1 : r.kind = 1
    · rw [if_pos h1] at h; simp at h; simp [h.2.2]
    · rw [if_neg h1] at h
      by_cases h2 : r.kind = 2
      · rw [if_pos h2] at h
        unfold pathB at h
        simp at h; omega
      · rw [if_neg h2] at h; cases h

/-- The path so far, in its box; the answer's box. -/
structure PathSt (w : World) (p : List Int) (A : Option Addr) (n ca : Nat) (W : World) : Prop where
  res : Blk W w.heap.size 42 #[.int .i64 0, .int .i64 0, .slice none 0 0]
  box : Blk W (w.heap.size + 1) 42 #[.int .i64 2, .int .i64 0, .slice A n ca]
  own : W.ownsRow w.heap.size 3 1 (.slice A n ca) n (p.map (Value.int .i64))
  len : p.length = n
  le : n ≤ ca
  up : Below w.heap.size w W
section
variable {w : World} {p : List Int} {A : Option Addr} {n ca : Nat} {W W' : World}
theorem PathSt.new (w : World) : PathSt w [] none 0 0 ((w.alloc (.cells #[.int .i64 0, .int .i64 0, .slice none 0 0] 42)).alloc (.cells #[.int .i64 2, .int .i64 0, .slice none 0 0] 42)) :=
  ⟨(Blk.new w _ _).alloc _, by have := Blk.new (w.alloc (.cells #[.int .i64 0, .int .i64 0, .slice none 0 0] 42)) 42 #[.int .i64 2, .int .i64 0, .slice none 0 0]; rwa [World.size_alloc] at this, World.ownsRow_nil _ _ _ _, rfl, Nat.le_refl _, below_2 w _ _⟩
theorem PathSt.cells (h : PathSt w p A n ca W) : W.cell? ⟨w.heap.size + 1, 0, none⟩ = some (.int .i64 2) ∧ W.cell? ⟨w.heap.size + 1, 1, none⟩ = some (.int .i64 0) ∧ W.cell? ⟨w.heap.size + 1, 2, none⟩ = some (.slice A n ca) :=
  ⟨h.box.cell 0, h.box.cell 1, h.box.cell 2⟩
theorem PathSt.at_ (h : PathSt w p A n ca W) {k : Nat} {x : Int} (hx : p[k]? = some x) : ∃ g, A = some ⟨g, 0, none⟩ ∧ W.cell? ⟨g, k, none⟩ = some (.int .i64 x) := by
  obtain ⟨g, hA, hg, hc⟩ := RowAt.of_own h.own (by intro e; rw [List.map_eq_nil_iff] at e; rw [e] at hx; simp at hx)
  exact ⟨g, hA, hc k _ (by rw [List.getElem?_map, hx]; rfl)⟩
end
end Go.Proofs.Ytlfdpfkimggeoaa
namespace Go.Proofs.Ytlfdpfkimggeoaa
open Go.RowKit
set_option linter.unusedVariables false
set_option linter.unusedSimpArgs false

theorem zip_drop {l : List Int} {k : Nat} {x : Int} (hx : l[k]? = some x) : l.drop k = x :: l.drop (k + 1) := drop_cons hx

theorem flat_gives (w : World) (k c : Int) : RtGives ⟨k, c, []⟩ w (.returned (.agg #[.int .i64 k, .int .i64 c, .slice none 0 0])) (w.alloc (.cells #[.int .i64 k, .int .i64 c, .slice none 0 0] 42)) :=
  ⟨none, 0, rfl, World.ownsRow_nil _ _ _ _, Nat.le_refl _, below_new _ _⟩
theorem flat_cells (w : World) (k c : Int) (o : Obj) (h : o = .cells #[.int .i64 k, .int .i64 c, .slice none 0 0] 42) :
    (w.alloc o).cell? ⟨w.heap.size, 0, none⟩ = some (.int .i64 k) ∧ (w.alloc o).cell? ⟨w.heap.size, 1, none⟩ = some (.int .i64 c) ∧ (w.alloc o).cell? ⟨w.heap.size, 2, none⟩ = some (.slice none 0 0) := by
  subst h
  have hb := Blk.new w 42 #[.int .i64 k, .int .i64 c, .slice none 0 0]
  exact ⟨hb.cell 0, hb.cell 1, hb.cell 2⟩

set_option maxHeartbeats 8000000 in
set_option maxRecDepth 100000 in
theorem Route_any (l : List Int) (hwf : ∀ v ∈ l, InI v) (A : Option Addr) (c : Nat) (hm : l.length ≤ 9223372036854775807) (w : World) (hA : CellsAt w w.heap.size A (l.map (Value.int .i64))) :
    Calls Try.prog 26 #[.slice A l.length c] w (RtGives (rtOf l) w) := by
  obtain ⟨n, hn⟩ : ∃ n, l.length = n := ⟨_, rfl⟩
  rw [hn] at hm ⊢
  have HN := Lib.hid hn
  have HWF := Lib.hid hwf
  have HA := Lib.hid hA
  have hb0 := Blk.new w 42 #[.int .i64 0, .int .i64 0, .slice none 0 0]
  obtain ⟨i0, hi, hz0, hz1, hz2⟩ := info_parts numInfoA
  -- the answer's box, filled
  have hfill : ∀ (W : World) (k cc : Int) (Ar : Option Addr) (p : List Int) (nr cr : Nat), Blk W w.heap.size 42 #[.int .i64 0, .int .i64 0, .slice none 0 0] → W.ownsRow w.heap.size 3 1 (.slice Ar nr cr) nr (p.map (Value.int .i64)) → p.length = nr → nr ≤ cr → Below w.heap.size w W → ∀ W4, W4 = ((W.setCell ⟨w.heap.size, 0, none⟩ (.int .i64 k)).setCell ⟨w.heap.size, 1, none⟩ (.int .i64 cc)).setCell ⟨w.heap.size, 2, none⟩ (.slice Ar nr cr) →
      (W4.cell? ⟨w.heap.size, 0, none⟩ = some (.int .i64 k) ∧ W4.cell? ⟨w.heap.size, 1, none⟩ = some (.int .i64 cc) ∧ W4.cell? ⟨w.heap.size, 2, none⟩ = some (.slice Ar nr cr)) ∧ RtGives ⟨k, cc, p⟩ w (.returned (.agg #[.int .i64 k, .int .i64 cc, .slice Ar nr cr])) W4 := by
    intro W k cc Ar p nr cr h ho hl hle hup W4 hW4
    subst hl
    have k1 := h.set_ 0 (.int .i64 k)
    have k2 := k1.set_ 1 (.int .i64 cc)
    have k3 := k2.set_ 2 (.slice Ar p.length cr)
    have o2 := own_setA ho h (by decide) 0 (.int .i64 k)
    have o3 := own_setA o2 k1 (by decide) 1 (.int .i64 cc)
    have o4 := own_setA o3 k2 (by decide) 2 (.slice Ar p.length cr)
    have u4 := ((hup.setCell (p := ⟨w.heap.size, 0, none⟩) (Nat.le_refl _) (.int .i64 k)).setCell (p := ⟨w.heap.size, 1, none⟩) (Nat.le_refl _) (.int .i64 cc)).setCell (p := ⟨w.heap.size, 2, none⟩) (Nat.le_refl _) (.slice Ar p.length cr)
    rw [← hW4] at k3 o4 u4
    exact ⟨⟨k3.cell 0, k3.cell 1, k3.cell 2⟩, Ar, cr, rfl, o4, hle, u4⟩
  have HFILL := Lib.hid hfill
  clear hfill hn hwf hA
  have q0 := hb0.cell 0
  have q1 := hb0.cell 1
  have q2 := hb0.cell 2
  have f0 := hb0.frozen 0
  have f1 := hb0.frozen 1
  have f2 := hb0.frozen 2
  by_cases hn0 : n = 0
  · have t0 : ((n : Int) == 0) = true := by simp [hn0]
    have t0' : (n == 0) = true := by simp [hn0]
    have HR : Hid (rtOf l = ⟨0, 0, []⟩) := Lib.hid (by rw [List.eq_nil_of_length_eq_zero (HN.out.trans hn0)]; rfl)
    have HB := Lib.hid hb0
    clear hn0 hb0
    go_enter Try.func26, Try.ntmps26
    go_wp2
    have hG := flat_gives w 0 0
    obtain ⟨x0, x1, x2⟩ := flat_cells w 0 0 _ rfl
    obtain ⟨W4, hW4⟩ : ∃ W4, W4 = w.alloc (.cells #[.int .i64 0, .int .i64 0, .slice none 0 0] 42) := ⟨_, rfl⟩
    rw [← hW4] at x0 x1 x2 hG ⊢
    clear hW4 HB q0 q1 q2 f0 f1 f2
    refine bodyPost_ret (v := .agg #[.int .i64 0, .int .i64 0, .slice none 0 0]) (by simp [results, Try.results26, go_sem, x0, x1, x2]) rfl ?_
    rw [HR.out]
    exact hG
  · have t0 : ((n : Int) == 0) = false := by simp [hn0]
    have t0' : (n == 0) = false := by simp [hn0]
    obtain ⟨x, hx⟩ : ∃ x, l[0]? = some x := ⟨_, List.getElem?_eq_getElem (by rw [HN.out]; omega)⟩
    obtain ⟨ad, rfl, hg, c0⟩ := (HA.out.on (below_new w (.cells #[.int .i64 0, .int .i64 0, .slice none 0 0] 42))).int hx
    have ea : ad.add 0 = ad := rfl
    rw [ea] at c0
    have hxi := HWF.out x (List.mem_of_getElem? hx)
    obtain ⟨m, hl⟩ : ∃ m, l = x :: m := by
      cases l with
      | nil => simp at hx
      | cons y m => simp at hx; exact ⟨m, by rw [hx]⟩
    have hp0 : (0 : Int) < (n : Int) := by omega
    obtain ⟨k, hk⟩ : ∃ k, pickN x 4 = k := ⟨_, rfl⟩
    have HK := Lib.hid hk
    have HXI := Lib.hid hxi
    have HLM := Lib.hid hl
    have HN0 := Lib.hid hn0
    clear hx hxi hl ea hn0
    by_cases k0 : k = 0
    · have t1 : (k == 0) = true := by simp [k0]
      have HR : Hid (rtOf l = ⟨0, 0, []⟩) := Lib.hid (by rw [HLM.out, rtOf, if_pos (HK.out.trans k0)]; rfl)
      clear k0 hk hb0
      go_enter Try.func26, Try.ntmps26
      go_wp2_with (go_at_call 48; (with_reducible refine (pick6_is x 4 k HXI.out (by omega) (by omega) HK _).mono ?_); rintro e w2 ⟨rfl, rfl⟩)
      have hG := flat_gives w 0 0
      obtain ⟨x0, x1, x2⟩ := flat_cells w 0 0 _ rfl
      obtain ⟨W4, hW4⟩ : ∃ W4, W4 = w.alloc (.cells #[.int .i64 0, .int .i64 0, .slice none 0 0] 42) := ⟨_, rfl⟩
      rw [← hW4] at x0 x1 x2 hG ⊢
      clear hW4 q0 q1 q2 f0 f1 f2
      refine bodyPost_ret (v := .agg #[.int .i64 0, .int .i64 0, .slice none 0 0]) (by simp [results, Try.results26, go_sem, x0, x1, x2]) rfl ?_
      rw [HR.out]
      exact hG
    · have t1 : (k == 0) = false := by simp [k0]
      by_cases k1 : k = 1
      · have t2 : (k == 1) = true := by simp [k1]
        have HR : Hid (rtOf l = ⟨1, vecC m, []⟩) := Lib.hid (by rw [HLM.out, rtOf, if_neg (by rw [HK.out]; exact k0), if_pos (HK.out.trans k1)])
        clear k0 k1 hk hb0
        by_cases hn1 : n = 1
        · have hlt : ¬ (1 : Int) < (n : Int) := by omega
          have HR2 : Hid (rtOf l = ⟨1, 0, []⟩) := Lib.hid (by
            rw [HR.out]
            have := HN.out
            rw [HLM.out, List.length_cons] at this
            rw [List.eq_nil_of_length_eq_zero (show m.length = 0 by omega)]; rfl)
          clear hn1
          go_enter Try.func26, Try.ntmps26
          go_wp2_with (go_at_call 48; (with_reducible refine (pick6_is x 4 k HXI.out (by omega) (by omega) HK _).mono ?_); rintro e w2 ⟨rfl, rfl⟩)
          have hG := flat_gives w 1 0
          obtain ⟨x0, x1, x2⟩ := flat_cells w 1 0 _ rfl
          obtain ⟨W4, hW4⟩ : ∃ W4, W4 = w.alloc (.cells #[.int .i64 1, .int .i64 0, .slice none 0 0] 42) := ⟨_, rfl⟩
          rw [← hW4] at x0 x1 x2 hG ⊢
          clear hW4 q0 q1 q2 f0 f1 f2
          refine bodyPost_ret (v := .agg #[.int .i64 1, .int .i64 0, .slice none 0 0]) (by simp [results, Try.results26, go_sem, x0, x1, x2]) rfl ?_
          rw [HR2.out]
          exact hG
        · have hlt : (1 : Int) < (n : Int) := by have := HN0.out; omega
          obtain ⟨y, hy⟩ : ∃ y, l[1]? = some y := ⟨_, List.getElem?_eq_getElem (by rw [HN.out]; omega)⟩
          obtain ⟨ad2, e2, _, c1⟩ := (HA.out.on (below_new w (.cells #[.int .i64 0, .int .i64 0, .slice none 0 0] 42))).int hy
          obtain rfl := Option.some.inj e2
          have c1 : (w.alloc (.cells #[.int .i64 0, .int .i64 0, .slice none 0 0] 42)).cell? ⟨ad.block, ad.off + 1, none⟩ = some (.int .i64 y) := c1
          have hyi := HWF.out y (List.mem_of_getElem? hy)
          obtain ⟨v, hv⟩ : ∃ v, pickN y 16 = v := ⟨_, rfl⟩
          have HV := Lib.hid hv
          have HYI := Lib.hid hyi
          have HR2 : Hid (rtOf l = ⟨1, v, []⟩) := Lib.hid (by
            rw [HR.out]
            rw [HLM.out] at hy
            cases m with
            | nil => simp at hy
            | cons z m => simp at hy; subst hy; rw [← hv]; rfl)
          clear hn1 hv hyi hy e2
          go_enter Try.func26, Try.ntmps26
          go_wp2_with (first
            | (go_at_call 48; (with_reducible refine (pick6_is x 4 k HXI.out (by omega) (by omega) HK _).mono ?_); rintro e w2 ⟨rfl, rfl⟩)
            | (go_at_call 48; (with_reducible refine (pick6_is y 16 v HYI.out (by omega) (by omega) HV _).mono ?_); rintro e w2 ⟨rfl, rfl⟩))
          have hG := flat_gives w 1 v
          obtain ⟨x0, x1, x2⟩ := flat_cells w 1 v _ rfl
          obtain ⟨W4, hW4⟩ : ∃ W4, W4 = w.alloc (.cells #[.int .i64 1, .int .i64 v, .slice none 0 0] 42) := ⟨_, rfl⟩
          rw [← hW4] at x0 x1 x2 hG ⊢
          clear hW4 q0 q1 q2 f0 f1 f2
          refine bodyPost_ret (v := .agg #[.int .i64 1, .int .i64 v, .slice none 0 0]) (by simp [results, Try.results26, go_sem, x0, x1, x2]) rfl ?_
          rw [HR2.out]
          exact hG
      · have t2 : (k == 1) = false := by simp [k1]
        have HR : Hid (rtOf l = ⟨2, 0, pathG [] m⟩) := Lib.hid (by rw [HLM.out, rtOf, if_neg (by rw [HK.out]; exact k0), if_neg (by rw [HK.out]; exact k1)])
        have h0 := PathSt.new w
        clear k0 k1 hk hb0 q0 q1 q2 f0 f1 f2
        go_enter Try.func26, Try.ntmps26
        go_wp2_with (go_at_call 48; (with_reducible refine (pick6_is x 4 k HXI.out (by omega) (by omega) HK _).mono ?_); rintro e w2 ⟨rfl, rfl⟩)
        go_loopw [5] (fun i wr => ∃ (j : Nat) (p : List Int) (Ap : Option Addr) (np cp : Nat), 1 ≤ j ∧ j ≤ n ∧ i = .int .i64 (j : Nat) ∧ PathSt w p Ap np cp wr ∧ np ≤ 12 ∧ Hid (pathG [] m = pathG p (l.drop j))) (fun i _ => n - (intOf i).toNat)
        case atStart => exact ⟨1, [], none, 0, 0, Nat.le_refl _, by have := HN0.out; omega, rfl, h0, by omega, Lib.hid (by rw [HLM.out]; rfl)⟩
        case round =>
          clear h0
          obtain ⟨j, p, Ap, np, cp, hj1, hj, rfl, h0, hp12, HG⟩ := hrel
          obtain ⟨q0, q1, q2⟩ := h0.cells
          have hlen := h0.len
          by_cases hgo : j < n ∧ np < 12
          · obtain ⟨hlt, hlt12⟩ := hgo
            have hlt12' : (np : Int) < 12 := by omega
            have hjn : (j : Int) < (n : Int) := by omega
            have hj0 : (0 : Int) ≤ (j : Int) := by omega
            obtain ⟨z, hz⟩ : ∃ z, l[j]? = some z := ⟨_, List.getElem?_eq_getElem (by rw [HN.out]; exact hlt)⟩
            obtain ⟨ad2, e2, _, cz⟩ := (HA.out.on h0.up).int hz
            obtain rfl := Option.some.inj e2
            have hzi := HWF.out z (List.mem_of_getElem? hz)
            obtain ⟨v9, hv9⟩ : ∃ v, pickN z 9 = v := ⟨_, rfl⟩
            obtain ⟨v6, hv6⟩ : ∃ v, pickN z 65535 = v := ⟨_, rfl⟩
            have b9 := pickN_in z 9 (by omega)
            have b6 := pickN_in z 65535 (by omega)
            rw [hv9] at b9
            rw [hv6] at b6
            obtain ⟨b90, b91⟩ := b9
            obtain ⟨b60, b61⟩ := b6
            have hnx : pathG [] m = pathG (if memI (numR z) p = true then p else p ++ [numR z]) (l.drop (j + 1)) := by
              rw [HG.out, drop_cons hz, pathG, if_pos (by omega)]
            have hnr : numR z = if 1000 < z then 1 + v6 else 1 + v9 := by unfold numR; rw [hv6, hv9]
            have HV9 := Lib.hid hv9
            have HV6 := Lib.hid hv6
            have HZI := Lib.hid hzi
            have HS := Lib.hid h0
            have HPL := Lib.hid hlen
            clear hv9 hv6 hzi hz e2 h0 hlen HG
            by_cases hk : 1000 < z
            · rw [if_pos hk] at hnr
              obtain ⟨N, hN⟩ : ∃ N, 1 + v6 = N := ⟨_, rfl⟩
              rw [hnr, hN] at hnx
              have HNX := Lib.hid hnx
              have HNN := Lib.hid hN
              clear hnx hnr hN
              go_upto_region 18 with (first
                | (go_at_call 48; (with_reducible refine (pick6_is z 9 v9 HZI.out (by omega) (by omega) HV9 _).mono ?_); rintro e w2 ⟨rfl, rfl⟩)
                | (go_at_call 48; (with_reducible refine (pick6_is z 65535 v6 HZI.out (by omega) (by omega) HV6 _).mono ?_); rintro e w2 ⟨rfl, rfl⟩))
              rw [HNN.out]
              go_wp2_with fail
              go_loop [7, 8] (fun s7 s8 => ∃ (t : Nat) (here : Bool), t ≤ np ∧ s8 = .int .i64 (t : Nat) ∧ s7 = .bool here ∧ Hid (memI N (p.take t) = here)) (fun _ s8 => np - (intOf s8).toNat)
              case atStart => exact ⟨0, false, Nat.zero_le _, rfl, rfl, Lib.hid (by simp [memI])⟩
              case round =>
                obtain ⟨t, here, ht, rfl, rfl, HH⟩ := hrel
                by_cases htl : t < np
                · obtain ⟨y, hy⟩ : ∃ y, p[t]? = some y := ⟨_, List.getElem?_eq_getElem (by rw [HPL.out]; exact htl)⟩
                  obtain ⟨g, rfl, cg⟩ := HS.out.at_ hy
                  have hmn : memI N (p.take (t + 1)) = (here || decide (N = y)) := by
                    rw [← HH.out]
                    unfold memI
                    rw [List.take_add_one, hy]
                    simp [List.mem_append, Bool.decide_or]
                  have HMN := Lib.hid hmn
                  clear hmn hy
                  have htl' : (t : Int) < (np : Int) := by omega
                  cases here
                  · by_cases e : y = N
                    · have tt : (y == N) = true := by simpa using e
                      have HM2 : Hid (memI N (p.take (t + 1)) = true) := Lib.hid (by rw [HMN.out, decide_eq_true e.symm]; rfl)
                      clear e
                      go_wp2
                      go_round
                      case rel => exact ⟨t + 1, true, by omega, by go_num, rfl, HM2⟩
                      case measure => simp [intOf]; omega
                    · have tt : (y == N) = false := by simpa using e
                      have HM2 : Hid (memI N (p.take (t + 1)) = false) := Lib.hid (by rw [HMN.out, decide_eq_false (fun h => e h.symm)]; rfl)
                      clear e
                      go_wp2
                      go_round
                      case rel => exact ⟨t + 1, false, by omega, by go_num, rfl, HM2⟩
                      case measure => simp [intOf]; omega
                  · have HM2 : Hid (memI N (p.take (t + 1)) = true) := Lib.hid (by rw [HMN.out]; rfl)
                    go_wp2
                    go_round
                    case rel => exact ⟨t + 1, true, by omega, by go_num, rfl, HM2⟩
                    case measure => simp [intOf]; omega
                · have htl' : ¬ (t : Int) < (np : Int) := by omega
                  have HMP : Hid (memI N p = here) := Lib.hid (by have := HH.out; rwa [List.take_of_length_le (by rw [HPL.out]; omega)] at this)
                  cases here
                  · have HG2 : Hid (pathG [] m = pathG (p ++ [N]) (l.drop (j + 1))) := Lib.hid (by rw [HNX.out, if_neg (by rw [HMP.out]; simp)])
                    go_wp2_with (refine wpList_append_own _ rfl _ _ 22 rfl w.heap.size 3 i0 (.int .i64 0) 1 8 Try.underlying22 hi hz0 hz1 hz2 rfl (by decide) _ _ _ rfl (HS.out.own.alloc _) ⟨wr.heap.size, 0, none⟩ 1 1 [.int .i64 N] rfl rfl (cell_one_new _ _ _) (by simp [Value.oneCell']) (by unfold maxLen; omega) (by omega) (by have := HS.out.up.size; simp; omega) ?_; intro v' w4 hown4 hgrow4 _; obtain ⟨A4, c4, rfl, hc4⟩ := own_formA hown4; have hsz := HS.out.up.size; have hbx := HS.out.box; have hrs := HS.out.res; have hb4 := (hbx.alloc (.cells #[.int .i64 N] 3)).grown hgrow4 (fun e => own_blk_ne HS.out.own hbx (by decide) e.symm); have hr4 := (hrs.alloc (.cells #[.int .i64 N] 3)).grown hgrow4 (fun e => own_blk_ne HS.out.own hrs (by decide) e.symm); have hu4 := (below_on HS.out.up (below_new wr (.cells #[.int .i64 N] 3))).grown hgrow4 (by simp; omega) (fun g hg => (HS.out.own.lt g hg).1); have s0 := hb4.cell 2; have s1 := hb4.frozen 2)
                    go_roundw
                    case rel =>
                      have hne : w.heap.size ≠ w.heap.size + 1 := by omega
                      exact ⟨j + 1, p ++ [N], A4, np + 1, c4, by omega, by omega, by go_num, ⟨hr4.far (p := ⟨w.heap.size + 1, 2, none⟩) hne _, hb4.set_ 2 _, by rw [List.map_append]; exact own_setA hown4 hb4 (by decide) 2 _, by rw [List.length_append, HPL.out]; rfl, hc4, hu4.setCell (p := ⟨w.heap.size + 1, 2, none⟩) (by simp) _⟩, by omega, HG2⟩
                    case measure => simp [intOf]; omega
                  · have HG2 : Hid (pathG [] m = pathG p (l.drop (j + 1))) := Lib.hid (by rw [HNX.out, if_pos HMP.out])
                    go_wp2
                    go_roundw
                    case rel => exact ⟨j + 1, p, Ap, np, cp, by omega, by omega, by go_num, HS.out, by omega, HG2⟩
                    case measure => simp [intOf]; omega
            · rw [if_neg hk] at hnr
              obtain ⟨N, hN⟩ : ∃ N, 1 + v9 = N := ⟨_, rfl⟩
              rw [hnr, hN] at hnx
              have HNX := Lib.hid hnx
              have HNN := Lib.hid hN
              clear hnx hnr hN
              go_upto_region 18 with (first
                | (go_at_call 48; (with_reducible refine (pick6_is z 9 v9 HZI.out (by omega) (by omega) HV9 _).mono ?_); rintro e w2 ⟨rfl, rfl⟩))
              rw [HNN.out]
              go_wp2_with fail
              go_loop [7, 8] (fun s7 s8 => ∃ (t : Nat) (here : Bool), t ≤ np ∧ s8 = .int .i64 (t : Nat) ∧ s7 = .bool here ∧ Hid (memI N (p.take t) = here)) (fun _ s8 => np - (intOf s8).toNat)
              case atStart => exact ⟨0, false, Nat.zero_le _, rfl, rfl, Lib.hid (by simp [memI])⟩
              case round =>
                obtain ⟨t, here, ht, rfl, rfl, HH⟩ := hrel
                by_cases htl : t < np
                · obtain ⟨y, hy⟩ : ∃ y, p[t]? = some y := ⟨_, List.getElem?_eq_getElem (by rw [HPL.out]; exact htl)⟩
                  obtain ⟨g, rfl, cg⟩ := HS.out.at_ hy
                  have hmn : memI N (p.take (t + 1)) = (here || decide (N = y)) := by
                    rw [← HH.out]
                    unfold memI
                    rw [List.take_add_one, hy]
                    simp [List.mem_append, Bool.decide_or]
                  have HMN := Lib.hid hmn
                  clear hmn hy
                  have htl' : (t : Int) < (np : Int) := by omega
                  cases here
                  · by_cases e : y = N
                    · have tt : (y == N) = true := by simpa using e
                      have HM2 : Hid (memI N (p.take (t + 1)) = true) := Lib.hid (by rw [HMN.out, decide_eq_true e.symm]; rfl)
                      clear e
                      go_wp2
                      go_round
                      case rel => exact ⟨t + 1, true, by omega, by go_num, rfl, HM2⟩
                      case measure => simp [intOf]; omega
                    · have tt : (y == N) = false := by simpa using e
                      have HM2 : Hid (memI N (p.take (t + 1)) = false) := Lib.hid (by rw [HMN.out, decide_eq_false (fun h => e h.symm)]; rfl)
                      clear e
                      go_wp2
                      go_round
                      case rel => exact ⟨t + 1, false, by omega, by go_num, rfl, HM2⟩
                      case measure => simp [intOf]; omega
                  · have HM2 : Hid (memI N (p.take (t + 1)) = true) := Lib.hid (by rw [HMN.out]; rfl)
                    go_wp2
                    go_round
                    case rel => exact ⟨t + 1, true, by omega, by go_num, rfl, HM2⟩
                    case measure => simp [intOf]; omega
                · have htl' : ¬ (t : Int) < (np : Int) := by omega
                  have HMP : Hid (memI N p = here) := Lib.hid (by have := HH.out; rwa [List.take_of_length_le (by rw [HPL.out]; omega)] at this)
                  cases here
                  · have HG2 : Hid (pathG [] m = pathG (p ++ [N]) (l.drop (j + 1))) := Lib.hid (by rw [HNX.out, if_neg (by rw [HMP.out]; simp)])
                    go_wp2_with (refine wpList_append_own _ rfl _ _ 22 rfl w.heap.size 3 i0 (.int .i64 0) 1 8 Try.underlying22 hi hz0 hz1 hz2 rfl (by decide) _ _ _ rfl (HS.out.own.alloc _) ⟨wr.heap.size, 0, none⟩ 1 1 [.int .i64 N] rfl rfl (cell_one_new _ _ _) (by simp [Value.oneCell']) (by unfold maxLen; omega) (by omega) (by have := HS.out.up.size; simp; omega) ?_; intro v' w4 hown4 hgrow4 _; obtain ⟨A4, c4, rfl, hc4⟩ := own_formA hown4; have hsz := HS.out.up.size; have hbx := HS.out.box; have hrs := HS.out.res; have hb4 := (hbx.alloc (.cells #[.int .i64 N] 3)).grown hgrow4 (fun e => own_blk_ne HS.out.own hbx (by decide) e.symm); have hr4 := (hrs.alloc (.cells #[.int .i64 N] 3)).grown hgrow4 (fun e => own_blk_ne HS.out.own hrs (by decide) e.symm); have hu4 := (below_on HS.out.up (below_new wr (.cells #[.int .i64 N] 3))).grown hgrow4 (by simp; omega) (fun g hg => (HS.out.own.lt g hg).1); have s0 := hb4.cell 2; have s1 := hb4.frozen 2)
                    go_roundw
                    case rel =>
                      have hne : w.heap.size ≠ w.heap.size + 1 := by omega
                      exact ⟨j + 1, p ++ [N], A4, np + 1, c4, by omega, by omega, by go_num, ⟨hr4.far (p := ⟨w.heap.size + 1, 2, none⟩) hne _, hb4.set_ 2 _, by rw [List.map_append]; exact own_setA hown4 hb4 (by decide) 2 _, by rw [List.length_append, HPL.out]; rfl, hc4, hu4.setCell (p := ⟨w.heap.size + 1, 2, none⟩) (by simp) _⟩, by omega, HG2⟩
                    case measure => simp [intOf]; omega
                  · have HG2 : Hid (pathG [] m = pathG p (l.drop (j + 1))) := Lib.hid (by rw [HNX.out, if_pos HMP.out])
                    go_wp2
                    go_roundw
                    case rel => exact ⟨j + 1, p, Ap, np, cp, by omega, by omega, by go_num, HS.out, by omega, HG2⟩
                    case measure => simp [intOf]; omega
          · have hfin : pathG p (l.drop j) = p := by
              by_cases hjn : j < n
              · obtain ⟨z, hz⟩ : ∃ z, l[j]? = some z := ⟨_, List.getElem?_eq_getElem (by rw [HN.out]; exact hjn)⟩
                rw [drop_cons hz, pathG, if_neg (by omega)]
              · rw [List.drop_of_length_le (by rw [HN.out]; omega)]; rfl
            have HR2 : Hid (rtOf l = ⟨2, 0, p⟩) := Lib.hid (by rw [HR.out, HG.out, hfin])
            have d0 := h0.res.cell 0
            have d1 := h0.res.cell 1
            have d2 := h0.res.cell 2
            have f0 := h0.res.frozen 0
            have f1 := h0.res.frozen 1
            have f2 := h0.res.frozen 2
            clear hfin
            have hcase : ¬ (j : Int) < (n : Int) ∨ ((j : Int) < (n : Int) ∧ ¬ (np : Int) < 12) := by omega
            rcases hcase with hc | ⟨hc, hc2⟩
            all_goals
              go_wp2
              obtain ⟨⟨x0, x1, x2⟩, hG⟩ := HFILL.out _ 2 0 Ap p np cp h0.res h0.own h0.len h0.le h0.up _ rfl
              obtain ⟨W4, hW4⟩ : ∃ W4, W4 = ((wr.setCell ⟨w.heap.size, 0, none⟩ (.int .i64 2)).setCell ⟨w.heap.size, 1, none⟩ (.int .i64 0)).setCell ⟨w.heap.size, 2, none⟩ (.slice Ap np cp) := ⟨_, rfl⟩
              rw [← hW4] at x0 x1 x2 hG ⊢
              clear hW4 q0 q1 q2 d0 d1 d2 f0 f1 f2
              refine bodyPost_ret (v := .agg #[.int .i64 2, .int .i64 0, .slice Ap np cp]) (by simp [results, Try.results26, go_sem, x0, x1, x2]) rfl ?_
              rw [HR2.out]
              exact hG
end Go.Proofs.Ytlfdpfkimggeoaa
