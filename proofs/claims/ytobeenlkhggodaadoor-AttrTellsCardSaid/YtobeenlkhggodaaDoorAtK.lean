/-
  The document's Best of routes.
-/
import Derived.Test.YtobeenlkhggodaaDoorAtJ
namespace Go.Proofs.YtobeenlkhggodaaDoor
open Go.RowKit
set_option linter.unusedVariables false
set_option linter.unusedSimpArgs false

/-- A route told: its numbers lie anywhere. -/
def RtTells (r : Rt) (w : World) (e : Ending) (w' : World) : Prop :=
  ∃ A c, e = .returned (.agg #[.int .i64 r.kind, .int .i64 r.cost, .slice A r.path.length c]) ∧ RtAt w' r A r.path.length ∧ Below w.heap.size w w'
theorem RtsAt.gets {w : World} {A : Option Addr} {l : List Rt} (h : RtsAt w A l) {k : Nat} {r : Rt} (hk : l[k]? = some r) :
    ∃ ad Ao c, A = some ad ∧ RtAt w r Ao r.path.length ∧ ∀ W, Below w.heap.size w W → W.cell? (ad.add (k * 3)) = some (.int .i64 r.kind) ∧ W.cell? ⟨(ad.add (k * 3)).block, (ad.add (k * 3)).off + 1, none⟩ = some (.int .i64 r.cost) ∧ W.cell? ⟨(ad.add (k * 3)).block, (ad.add (k * 3)).off + 2, none⟩ = some (.slice Ao r.path.length c) := by
  obtain ⟨ad, Ao, c, hA, hl, c0, c1, c2, hr⟩ := h.get hk
  have hbl : (ad.add (k * 3)).block < w.heap.size := by rw [block_of_add]; exact hl
  exact ⟨ad, Ao, c, hA, hr, fun W hb => ⟨(hb.cell (p := ad.add (k * 3)) hbl).trans c0, (hb.cell (p := ⟨(ad.add (k * 3)).block, (ad.add (k * 3)).off + 1, none⟩) hbl).trans c1, (hb.cell (p := ⟨(ad.add (k * 3)).block, (ad.add (k * 3)).off + 2, none⟩) hbl).trans c2⟩⟩
theorem BestSt.drew {w : World} {k c : Int} {A : Option Addr} {n ca : Nat} {W : World} (h : BestSt w k c A n ca W) : BestSt w k c A n ca W.drew := h.go ((Below.refl _ _).drew)
theorem BestSt.drewN {w : World} {k c : Int} {A : Option Addr} {n ca : Nat} {W : World} (h : BestSt w k c A n ca W) (q : Nat) : BestSt w k c A n ca (W.drewN q) := h.go (below_drewN _ q)

set_option maxHeartbeats 4000000 in
set_option maxRecDepth 100000 in
theorem refBest6_any (l : List Rt) (hp : ∀ r ∈ l, rtRight r = true) (A : Option Addr) (cl : Nat) (w : World) (h : RtsAt w A l) (hl : l.length ≤ 4096) :
    Calls Tryd.prog 24 #[.slice A l.length cl] w (RtTells (rtBest l) w) := by
  obtain ⟨n, hn⟩ : ∃ n, l.length = n := ⟨_, rfl⟩
  rw [hn] at hl ⊢
  have HN := Lib.hid hn
  have HP := Lib.hid hp
  have HPT : Hid (∀ j, 0 < j → j ≤ n → rtRight (rtBest (l.take j)) = true) := Lib.hid fun j h0 hj => hp _ (List.mem_of_mem_take (rtBest_mem (l := l.take j) (by
    intro e
    have := congrArg List.length e
    rw [List.length_take, hn] at this
    simp at this
    omega)))
  have HL := Lib.hid h
  clear hn hp h
  have h0 := BestSt.new w
  obtain ⟨q0, q1, q2⟩ := h0.cells
  go_enter Tryd.func24, Tryd.ntmps24
  go_wp2
  go_loopw [4] (fun i wr => ∃ (j : Nat) (Ab : Option Addr) (cb : Nat), j ≤ n ∧ i = .int .i64 (j : Nat) ∧ BestSt w (rtBest (l.take j)).kind (rtBest (l.take j)).cost Ab (rtBest (l.take j)).path.length cb wr ∧ RtAt w (rtBest (l.take j)) Ab (rtBest (l.take j)).path.length) (fun i _ => n - (intOf i).toNat)
  case atStart => exact ⟨0, none, 0, Nat.zero_le _, rfl, h0, rfl, CellsAt.nil _ _ _, by simp [rtBest, Rt.none]⟩
  case round =>
    clear h0 q0 q1 q2
    obtain ⟨j, Ab, cb, hj, rfl, h0, hb⟩ := hrel
    obtain ⟨b, hbb⟩ : ∃ b, rtBest (l.take j) = b := ⟨_, rfl⟩
    rw [hbb] at h0 hb
    have HB := Lib.hid hbb
    clear hbb
    by_cases hlt : j < n
    · obtain ⟨r, hr⟩ : ∃ r, l[j]? = some r := ⟨_, List.getElem?_eq_getElem (by rw [HN.out]; exact hlt)⟩
      have hlt' : (j : Int) < (n : Int) := by omega
      have hj0' : (0 : Int) ≤ (j : Int) := by omega
      have HRR := Lib.hid (HP.out r (List.mem_of_getElem? hr))
      obtain ⟨ad, Ao, co, rfl, hra, hcc⟩ := HL.out.gets hr
      obtain ⟨c0, c1, c2⟩ := hcc wr h0.up
      have HCC := Lib.hid hcc
      clear hcc
      have HTK := Lib.hid (rtBest_take hr)
      obtain ⟨p0, p1, p2⟩ := h0.cells
      have f0 := h0.best.frozen 0
      have f1 := h0.best.frozen 1
      have f2 := h0.best.frozen 2
      by_cases hj0 : j = 0
      · have t0 : ((j : Int) == 0) = true := by simp [hj0]
        have HBB : Hid (rtBest (l.take (j + 1)) = r) := Lib.hid (by rw [HTK.out, if_pos hj0])
        clear hj0 hr
        go_upto_region 5 with (fail)
        go_quiet (fail)
        go_wp2_with fail
        go_roundw
        case rel => exact ⟨j + 1, Ao, co, by omega, by go_num, by rw [HBB.out]; exact (h0.drewN _).put _ _ _ _ _, by rw [HBB.out]; exact hra⟩
        case measure => simp [intOf]; omega
      · have t0 : ((j : Int) == 0) = false := by simp [hj0]
        obtain ⟨v, hv⟩ : ∃ v, rtBetter r b = v := ⟨_, rfl⟩
        have HV := Lib.hid hv
        have HRB : Hid (rtRight b = true) := Lib.hid (by rw [← HB.out]; exact HPT.out j (by omega) hj)
        have HBB : Hid (rtBest (l.take (j + 1)) = if v = true then r else b) := Lib.hid (by rw [HTK.out, if_neg hj0, HB.out, hv])
        have h0d := h0.drew
        have hbd := hb.on h0d.up
        have hrd := hra.on h0d.up
        clear hj0 hr hv
        cases v
        · have HBF := Lib.hid (show rtBest (l.take (j + 1)) = b from HBB.out)
          go_upto_region 5 with (fail)
          go_region_held3 (fun w' => w'.cell? (ad.add (j * 3)) = some (.int .i64 r.kind) ∧ w'.cell? ⟨(ad.add (j * 3)).block, (ad.add (j * 3)).off + 1, none⟩ = some (.int .i64 r.cost) ∧ w'.cell? ⟨(ad.add (j * 3)).block, (ad.add (j * 3)).off + 2, none⟩ = some (.slice Ao r.path.length co) ∧ w'.cell? ⟨w.heap.size + 1, 0, none⟩ = some (.int .i64 b.kind) ∧ w'.cell? ⟨w.heap.size + 1, 1, none⟩ = some (.int .i64 b.cost) ∧ w'.cell? ⟨w.heap.size + 1, 2, none⟩ = some (.slice Ab b.path.length cb)) (go_keep) (first
            | (go_at_call 22; (with_reducible refine (refBetter6_is r b false HV HRR HRB hrd hbd).mono ?_); rintro e w2 ⟨rfl, hb2⟩; have h2 := h0d.go hb2; obtain ⟨r0, r1, r2⟩ := h2.cells; obtain ⟨d0, d1, d2⟩ := HCC.out _ h2.up; have e0 := h2.best.frozen 0; have e1 := h2.best.frozen 1; have e2 := h2.best.frozen 2))
          go_step
          go_wp2_with fail
          go_roundw
          case rel => exact ⟨j + 1, Ab, cb, by omega, by go_num, by rw [HBF.out]; exact h2, by rw [HBF.out]; exact hb⟩
          case measure => simp [intOf]; omega
        · have HBF := Lib.hid (show rtBest (l.take (j + 1)) = r from HBB.out)
          go_upto_region 5 with (fail)
          go_region_held3 (fun w' => w'.cell? (ad.add (j * 3)) = some (.int .i64 r.kind) ∧ w'.cell? ⟨(ad.add (j * 3)).block, (ad.add (j * 3)).off + 1, none⟩ = some (.int .i64 r.cost) ∧ w'.cell? ⟨(ad.add (j * 3)).block, (ad.add (j * 3)).off + 2, none⟩ = some (.slice Ao r.path.length co) ∧ w'.cell? ⟨w.heap.size + 1, 0, none⟩ = some (.int .i64 b.kind) ∧ w'.cell? ⟨w.heap.size + 1, 1, none⟩ = some (.int .i64 b.cost) ∧ w'.cell? ⟨w.heap.size + 1, 2, none⟩ = some (.slice Ab b.path.length cb)) (go_keep) (first
            | (go_at_call 22; (with_reducible refine (refBetter6_is r b true HV HRR HRB hrd hbd).mono ?_); rintro e w2 ⟨rfl, hb2⟩; have h2 := h0d.go hb2; obtain ⟨r0, r1, r2⟩ := h2.cells; obtain ⟨d0, d1, d2⟩ := HCC.out _ h2.up; have e0 := h2.best.frozen 0; have e1 := h2.best.frozen 1; have e2 := h2.best.frozen 2))
          go_step
          go_wp2_with fail
          go_roundw
          case rel => exact ⟨j + 1, Ao, co, by omega, by go_num, by rw [HBF.out]; exact h2.put _ _ _ _ _, by rw [HBF.out]; exact hra⟩
          case measure => simp [intOf]; omega
    · have hbl : rtBest l = b := by rw [← HB.out, List.take_of_length_le (by rw [HN.out]; omega)]
      have HBL := Lib.hid hbl
      obtain ⟨p0, p1, p2⟩ := h0.cells
      have d0 := h0.res.frozen 0
      have d1 := h0.res.frozen 1
      have d2 := h0.res.frozen 2
      have e0 := h0.res.cell 0
      have e1 := h0.res.cell 1
      have e2 := h0.res.cell 2
      clear hbl
      go_wp2
      have k1 := h0.res.set_ 0 (.int .i64 b.kind)
      have k2 := k1.set_ 1 (.int .i64 b.cost)
      have k3 := k2.set_ 2 (.slice Ab b.path.length cb)
      have u4 := ((h0.up.setCell (p := ⟨w.heap.size, 0, none⟩) (Nat.le_refl _) (.int .i64 b.kind)).setCell (p := ⟨w.heap.size, 1, none⟩) (Nat.le_refl _) (.int .i64 b.cost)).setCell (p := ⟨w.heap.size, 2, none⟩) (Nat.le_refl _) (.slice Ab b.path.length cb)
      obtain ⟨W4, hW4⟩ : ∃ W4, W4 = ((wr.setCell ⟨w.heap.size, 0, none⟩ (.int .i64 b.kind)).setCell ⟨w.heap.size, 1, none⟩ (.int .i64 b.cost)).setCell ⟨w.heap.size, 2, none⟩ (.slice Ab b.path.length cb) := ⟨_, rfl⟩
      rw [← hW4] at k3 u4 ⊢
      have x0 : W4.cell? ⟨w.heap.size, 0, none⟩ = some (.int .i64 b.kind) := k3.cell 0
      have x1 : W4.cell? ⟨w.heap.size, 1, none⟩ = some (.int .i64 b.cost) := k3.cell 1
      have x2 : W4.cell? ⟨w.heap.size, 2, none⟩ = some (.slice Ab b.path.length cb) := k3.cell 2
      clear hW4 k1 k2 k3 d0 d1 d2 e0 e1 e2 h0 p0 p1 p2
      refine bodyPost_ret (v := .agg #[.int .i64 b.kind, .int .i64 b.cost, .slice Ab b.path.length cb]) (by simp [results, Tryd.results24, go_sem, x0, x1, x2]) rfl ?_
      rw [HBL.out]
      exact ⟨Ab, cb, rfl, hb.on u4, u4⟩
end Go.Proofs.YtobeenlkhggodaaDoor
