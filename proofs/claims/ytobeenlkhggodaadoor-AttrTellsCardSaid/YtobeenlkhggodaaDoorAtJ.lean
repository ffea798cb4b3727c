/-
  Package attr: Best.
-/
import Derived.Test.YtobeenlkhggodaaDoorAtI
namespace Go.Proofs.YtobeenlkhggodaaDoor
open Go.RowKit
set_option linter.unusedVariables false
set_option linter.unusedSimpArgs false

/-- The best route so far, in its box; the answer's box. -/
structure BestSt (w : World) (k c : Int) (A : Option Addr) (n ca : Nat) (W : World) : Prop where
  res : Blk W w.heap.size 24 #[.int .i64 0, .int .i64 0, .slice none 0 0]
  best : Blk W (w.heap.size + 1) 24 #[.int .i64 k, .int .i64 c, .slice A n ca]
  up : Below w.heap.size w W
section
variable {w : World} {k c : Int} {A : Option Addr} {n ca : Nat} {W W' : World}
theorem BestSt.new (w : World) : BestSt w 0 0 none 0 0 ((w.alloc (.cells #[.int .i64 0, .int .i64 0, .slice none 0 0] 24)).alloc (.cells #[.int .i64 0, .int .i64 0, .slice none 0 0] 24)) :=
  ⟨(Blk.new w _ _).alloc _, by have := Blk.new (w.alloc (.cells #[.int .i64 0, .int .i64 0, .slice none 0 0] 24)) 24 #[.int .i64 0, .int .i64 0, .slice none 0 0]; rwa [World.size_alloc] at this, below_2 w _ _⟩
theorem BestSt.go (h : BestSt w k c A n ca W) (hb : Below W.heap.size W W') : BestSt w k c A n ca W' := ⟨h.res.up hb, h.best.up hb, below_on h.up hb⟩
theorem BestSt.cells (h : BestSt w k c A n ca W) : W.cell? ⟨w.heap.size + 1, 0, none⟩ = some (.int .i64 k) ∧ W.cell? ⟨w.heap.size + 1, 1, none⟩ = some (.int .i64 c) ∧ W.cell? ⟨w.heap.size + 1, 2, none⟩ = some (.slice A n ca) :=
  ⟨h.best.cell 0, h.best.cell 1, h.best.cell 2⟩
theorem BestSt.put (h : BestSt w k c A n ca W) (k' c' : Int) (A' : Option Addr) (n' ca' : Nat) :
    BestSt w k' c' A' n' ca' (((W.setCell ⟨w.heap.size + 1, 0, none⟩ (.int .i64 k')).setCell ⟨w.heap.size + 1, 1, none⟩ (.int .i64 c')).setCell ⟨w.heap.size + 1, 2, none⟩ (.slice A' n' ca')) := by
  have hne : w.heap.size ≠ w.heap.size + 1 := by omega
  exact ⟨((h.res.far (p := ⟨w.heap.size + 1, 0, none⟩) hne _).far (p := ⟨w.heap.size + 1, 1, none⟩) hne _).far (p := ⟨w.heap.size + 1, 2, none⟩) hne _,
    ((h.best.set_ 0 _).set_ 1 _).set_ 2 _,
    ((h.up.setCell (p := ⟨w.heap.size + 1, 0, none⟩) (by simp) _).setCell (p := ⟨w.heap.size + 1, 1, none⟩) (by simp) _).setCell (p := ⟨w.heap.size + 1, 2, none⟩) (by simp) _⟩
theorem BestSt.put2 (h : BestSt w k c A n ca W) (A' : Option Addr) (n' ca' : Nat) : BestSt w k c A' n' ca' (W.setCell ⟨w.heap.size + 1, 2, none⟩ (.slice A' n' ca')) := by
  have hne : w.heap.size ≠ w.heap.size + 1 := by omega
  exact ⟨h.res.far (p := ⟨w.heap.size + 1, 2, none⟩) hne _, h.best.set_ 2 _, h.up.setCell (p := ⟨w.heap.size + 1, 2, none⟩) (by simp) _⟩
theorem BestSt.grown (h : BestSt w k c A n ca W) (hg : W.grownBy W' none) (hs : w.heap.size ≤ W.heap.size) : BestSt w k c A n ca W' :=
  ⟨h.res.grown hg (by simp), h.best.grown hg (by simp), h.up.grown hg hs (fun g hg => by cases hg)⟩
end
theorem RtsAt.get_on {w W : World} {A : Option Addr} {l : List Rt} (h : RtsAt w A l) (hb : Below w.heap.size w W) {k : Nat} {r : Rt} (hk : l[k]? = some r) :
    ∃ ad Ao c, A = some ad ∧ W.cell? (ad.add (k * 3)) = some (.int .i64 r.kind) ∧ W.cell? ⟨(ad.add (k * 3)).block, (ad.add (k * 3)).off + 1, none⟩ = some (.int .i64 r.cost) ∧ W.cell? ⟨(ad.add (k * 3)).block, (ad.add (k * 3)).off + 2, none⟩ = some (.slice Ao r.path.length c) ∧ RtAt w r Ao r.path.length := by
  obtain ⟨ad, Ao, c, hA, hl, c0, c1, c2, hr⟩ := h.get hk
  have hbl : (ad.add (k * 3)).block < w.heap.size := by rw [block_of_add]; exact hl
  exact ⟨ad, Ao, c, hA, (hb.cell (p := ad.add (k * 3)) hbl).trans c0, (hb.cell (p := ⟨(ad.add (k * 3)).block, (ad.add (k * 3)).off + 1, none⟩) hbl).trans c1, (hb.cell (p := ⟨(ad.add (k * 3)).block, (ad.add (k * 3)).off + 2, none⟩) hbl).trans c2, hr⟩

set_option maxHeartbeats 4000000 in
set_option maxRecDepth 100000 in
theorem atBest_any (l : List Rt) (hp : ∀ r ∈ l, r.path.length ≤ 4096) (A : Option Addr) (cl : Nat) (w : World) (h : RtsAt w A l) (hl : l.length ≤ 4096) :
    Calls Tryd.prog 23 #[.slice A l.length cl] w (RtGives (rtBest l) w) := by
  obtain ⟨n, hn⟩ : ∃ n, l.length = n := ⟨_, rfl⟩
  rw [hn] at hl ⊢
  have HN := Lib.hid hn
  have HPB : Hid ((rtBest l).path.length ≤ 4096) := Lib.hid (by
    cases hl0 : l with
    | nil => simp [rtBest, Rt.none]
    | cons x r => rw [← hl0]; exact hp _ (rtBest_mem (by rw [hl0]; simp)))
  have HL := Lib.hid h
  clear hn hp h
  have h0 := BestSt.new w
  obtain ⟨q0, q1, q2⟩ := h0.cells
  obtain ⟨i0, hi, hz0, hz1, hz2⟩ := info_parts numInfoA
  go_enter Tryd.func23, Tryd.ntmps23
  go_wp2
  go_loopw [8] (fun i wr => ∃ (j : Nat) (Ab : Option Addr) (cb : Nat), j ≤ n ∧ i = .int .i64 (j : Nat) ∧ BestSt w (rtBest (l.take j)).kind (rtBest (l.take j)).cost Ab (rtBest (l.take j)).path.length cb wr ∧ RtAt w (rtBest (l.take j)) Ab (rtBest (l.take j)).path.length) (fun i _ => n - (intOf i).toNat)
  case atStart => exact ⟨0, none, 0, Nat.zero_le _, rfl, h0, rfl, CellsAt.nil _ _ _, by simp [rtBest, Rt.none]⟩
  case round =>
    clear h0 q0 q1 q2
    obtain ⟨j, Ab, cb, hj, rfl, h0, hb⟩ := hrel
    obtain ⟨b, hbb⟩ : ∃ b, rtBest (l.take j) = b := ⟨_, rfl⟩
    rw [hbb] at h0 hb
    have HB := Lib.hid hbb
    clear hbb
    by_cases hlt : j < n
    · obtain ⟨r, hr⟩ : ∃ r, l[j]? = some r := ⟨_, List.getElem?_eq_getElem (by rw [HN.out]; exact hlt)⟩
      obtain ⟨ad, Ao, co, rfl, c0, c1, c2, hra⟩ := HL.out.get_on h0.up hr
      obtain ⟨W1, hW1⟩ : ∃ W1, W1 = wr.alloc (.cells #[.int .i64 r.kind, .int .i64 r.cost, .slice Ao r.path.length co] 24) := ⟨_, rfl⟩
      have h1 : BestSt w b.kind b.cost Ab b.path.length cb W1 := by rw [hW1]; exact h0.go (below_new _ _)
      have hk1 : Blk W1 wr.heap.size 24 #[.int .i64 r.kind, .int .i64 r.cost, .slice Ao r.path.length co] := by rw [hW1]; exact Blk.new _ _ _
      have hb1 := hb.on h1.up
      have hr1 := hra.on h1.up
      have HTK := Lib.hid (rtBest_take hr)
      have HW := Lib.hid hW1
      obtain ⟨p0, p1, p2⟩ := h1.cells
      have f0 := h1.best.frozen 0
      have f1 := h1.best.frozen 1
      have f2 := h1.best.frozen 2
      have g0 := hk1.cell 0
      have g1 := hk1.cell 1
      have g2 := hk1.cell 2
      by_cases hj0 : j = 0
      · have t0 : ((j : Int) == 0) = true := by simp [hj0]
        have HBB : Hid (rtBest (l.take (j + 1)) = r) := Lib.hid (by rw [HTK.out, if_pos hj0])
        clear hj0 hr hW1 h0
        go_upto_region 5 with (fail)
        rw [← HW.out]
        go_wp2_with fail
        go_roundw
        case rel => exact ⟨j + 1, Ao, co, by omega, by go_num, by rw [HBB.out]; exact h1.put _ _ _ _ _, by rw [HBB.out]; exact hra⟩
        case measure => simp [intOf]; omega
      · have t0 : ((j : Int) == 0) = false := by simp [hj0]
        obtain ⟨v, hv⟩ : ∃ v, rtBetter r b = v := ⟨_, rfl⟩
        have HV := Lib.hid hv
        have HBB : Hid (rtBest (l.take (j + 1)) = if v = true then r else b) := Lib.hid (by rw [HTK.out, if_neg hj0, HB.out, hv])
        clear hj0 hr hW1 h0 hv
        go_upto_region 5 with (fail)
        rw [← HW.out]
        cases v
        · have HBF := Lib.hid (show rtBest (l.take (j + 1)) = b from HBB.out)
          go_wp2_with (go_at_call 21; (with_reducible refine (atBetter_is r b false HV hr1 hb1).mono ?_); rintro e w2 ⟨rfl, hb2⟩)
          go_roundw
          case rel => exact ⟨j + 1, Ab, cb, by omega, by go_num, by rw [HBF.out]; exact h1.go hb2, by rw [HBF.out]; exact hb⟩
          case measure => simp [intOf]; omega
        · have HBF := Lib.hid (show rtBest (l.take (j + 1)) = r from HBB.out)
          go_wp2_with (go_at_call 21; (with_reducible refine (atBetter_is r b true HV hr1 hb1).mono ?_); rintro e w2 ⟨rfl, hb2⟩; have h2 := h1.go hb2; obtain ⟨r0, r1, r2⟩ := h2.cells; have e0 := h2.best.frozen 0; have e1 := h2.best.frozen 1; have e2 := h2.best.frozen 2; have k2 := hk1.up hb2; have d0 := k2.cell 0; have d1 := k2.cell 1; have d2 := k2.cell 2)
          go_roundw
          case rel => exact ⟨j + 1, Ao, co, by omega, by go_num, by rw [HBF.out]; exact h2.put _ _ _ _ _, by rw [HBF.out]; exact hra⟩
          case measure => simp [intOf]; omega
    · have hbl : rtBest l = b := by rw [← HB.out, List.take_of_length_le (by rw [HN.out]; omega)]
      have hpl := HPB.out
      rw [hbl] at hpl
      have HBL := Lib.hid hbl
      obtain ⟨p0, p1, p2⟩ := h0.cells
      obtain ⟨hr1, hr2, hr3⟩ := hb.on h0.up
      have HC := Lib.hid hr2
      obtain ⟨m, hm⟩ : ∃ m, b.path.length = m := ⟨_, rfl⟩
      have HM := Lib.hid hm
      rw [hm] at h0 p2 hpl hr3
      clear hb hr1 hr2 hbl hm
      go_wp2_with (refine wpList_append_cells _ rfl _ _ 22 rfl w.heap.size 3 i0 (.int .i64 0) 1 8 Tryd.underlying22 hi hz0 hz1 hz2 rfl (by decide) _ 0 [] rfl (World.ownsRow_nil _ _ _ _) _ Ab m cb (b.path.map (Value.int .i64)) rfl (by rw [List.length_map, HM.out, Nat.mul_one]) HC.out (fun u hu => by obtain ⟨y, _, rfl⟩ := List.mem_map.1 hu; rfl) (by omega) (by omega) (by have := h0.up.size; omega) ?_; intro v' w2 hown hgrow; rw [Nat.zero_add, List.nil_append] at hown; obtain ⟨A2, c2, rfl, hc2⟩ := own_formA hown; have h2 := h0.grown hgrow h0.up.size; have h3 := h2.put2 A2 m c2; have f2 := h2.best.frozen 2; obtain ⟨s0, s1, s2⟩ := h2.cells; obtain ⟨r0, r1, r2⟩ := h3.cells; have d0 := h2.res.frozen 0; have d1 := h2.res.frozen 1; have d2 := h2.res.frozen 2; have e0 := h2.res.cell 0; have e1 := h2.res.cell 1; have e2 := h2.res.cell 2)
      have k1 := h3.res.set_ 0 (.int .i64 b.kind)
      have k2 := k1.set_ 1 (.int .i64 b.cost)
      have k3 := k2.set_ 2 (.slice A2 m c2)
      have o1 := own_setA hown h2.best (by decide) 2 (.slice A2 m c2)
      have o2 := own_setA o1 h3.res (by decide) 0 (.int .i64 b.kind)
      have o3 := own_setA o2 k1 (by decide) 1 (.int .i64 b.cost)
      have o4 := own_setA o3 k2 (by decide) 2 (.slice A2 m c2)
      have u4 := ((h3.up.setCell (p := ⟨w.heap.size, 0, none⟩) (Nat.le_refl _) (.int .i64 b.kind)).setCell (p := ⟨w.heap.size, 1, none⟩) (Nat.le_refl _) (.int .i64 b.cost)).setCell (p := ⟨w.heap.size, 2, none⟩) (Nat.le_refl _) (.slice A2 m c2)
      obtain ⟨W4, hW4⟩ : ∃ W4, W4 = (((w2.setCell ⟨w.heap.size + 1, 2, none⟩ (.slice A2 m c2)).setCell ⟨w.heap.size, 0, none⟩ (.int .i64 b.kind)).setCell ⟨w.heap.size, 1, none⟩ (.int .i64 b.cost)).setCell ⟨w.heap.size, 2, none⟩ (.slice A2 m c2) := ⟨_, rfl⟩
      rw [← hW4] at k3 o4 u4 ⊢
      have x0 : W4.cell? ⟨w.heap.size, 0, none⟩ = some (.int .i64 b.kind) := k3.cell 0
      have x1 : W4.cell? ⟨w.heap.size, 1, none⟩ = some (.int .i64 b.cost) := k3.cell 1
      have x2 : W4.cell? ⟨w.heap.size, 2, none⟩ = some (.slice A2 m c2) := k3.cell 2
      clear hW4 k1 k2 k3 o1 o2 o3 s0 s1 s2 r0 r1 r2 d0 d1 d2 e0 e1 e2 h2 h3 hown hgrow f2
      refine bodyPost_ret (v := .agg #[.int .i64 b.kind, .int .i64 b.cost, .slice A2 m c2]) (by simp [results, Tryd.results23, go_sem, x0, x1, x2]) rfl ?_
      rw [HBL.out]
      rw [← HM.out] at o4 hc2 ⊢
      exact ⟨A2, c2, rfl, o4, hc2, u4⟩
end Go.Proofs.YtobeenlkhggodaaDoor
