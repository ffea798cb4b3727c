/-
  The laws' awake, walked.
-/
import Derived.Test.YtobeenlkhggodaaDoorAtN
namespace Go.Proofs.YtobeenlkhggodaaDoor
open Go.RowKit
set_option linter.unusedVariables false
set_option linter.unusedSimpArgs false

theorem awBest (w W : World) (h : AwSt w W) : Calls Tryd.prog 23 #[.slice (some ⟨W.heap.size, 0, none⟩) 3 3] (W.alloc (.cells #[.int .i64 2, .int .i64 0, .slice (some ⟨w.heap.size + 2, 0, none⟩) 2 2, .int .i64 2, .int .i64 0, .slice (some ⟨w.heap.size, 0, none⟩) 2 2, .int .i64 0, .int .i64 0, .slice none 0 0] 24)) fun e w' => ∃ A c, e = .returned (.agg #[.int .i64 2, .int .i64 0, .slice A 2 c]) ∧ RtAt w' exA A 2 ∧ AwSt w w' := by
  have h1 := h.alloc (.cells #[.int .i64 2, .int .i64 0, .slice (some ⟨w.heap.size + 2, 0, none⟩) 2 2, .int .i64 2, .int .i64 0, .slice (some ⟨w.heap.size, 0, none⟩) 2 2, .int .i64 0, .int .i64 0, .slice none 0 0] 24)
  have hk := Blk.new W 24 #[.int .i64 2, .int .i64 0, .slice (some ⟨w.heap.size + 2, 0, none⟩) 2 2, .int .i64 2, .int .i64 0, .slice (some ⟨w.heap.size, 0, none⟩) 2 2, .int .i64 0, .int .i64 0, .slice none 0 0]
  have hr : RtsAt (W.alloc (.cells #[.int .i64 2, .int .i64 0, .slice (some ⟨w.heap.size + 2, 0, none⟩) 2 2, .int .i64 2, .int .i64 0, .slice (some ⟨w.heap.size, 0, none⟩) 2 2, .int .i64 0, .int .i64 0, .slice none 0 0] 24)) (some ⟨W.heap.size, 0, none⟩) [exB, exA, Rt.none] := by
    refine ⟨[(some ⟨w.heap.size + 2, 0, none⟩, 2), (some ⟨w.heap.size, 0, none⟩, 2), (none, 0)], rfl, RowAt.cells (fun _ => ⟨W.heap.size, rfl, hk.lt, fun j u hu => by rw [hk.cell, ← hu]; simp [rtC, exA, exB, Rt.none]⟩), fun i r q e1 e2 => ?_⟩
    match i with
    | 0 => simp at e1 e2; subst e1 e2; exact h1.b
    | 1 => simp at e1 e2; subst e1 e2; exact h1.a
    | 2 => simp at e1 e2; subst e1 e2; exact RtAt.flat _ _ _
    | i + 3 => simp at e1
  have hb : rtBest [exB, exA, Rt.none] = exA := by
    show rtBestF exB [exA, Rt.none] = exA
    have e1 : rtBetter exA exB = true := by decide
    have e2 : rtBetter Rt.none exA = false := by decide
    rw [rtBestF, if_pos e1, rtBestF, if_neg (by rw [e2]; simp)]; rfl
  have hB := atBest_any [exB, exA, Rt.none] (by simp [exA, exB, Rt.none]) (some ⟨W.heap.size, 0, none⟩) 3 _ hr (by simp)
  rw [hb] at hB
  refine hB.mono fun e w' ⟨A, c, he, ho, _, hbl⟩ => ⟨A, c, he, ?_, h1.go hbl⟩
  exact ⟨rfl, (RowAt.of_own ho).cells, by omega⟩

theorem awSame (w W : World) (A : Option Addr) (c : Nat) (hb : RtAt W exA A 2) (h : AwSt w W) : Calls Tryd.prog 19 #[.agg #[.int .i64 2, .int .i64 0, .slice A 2 c], .agg #[.int .i64 2, .int .i64 0, .slice (some ⟨w.heap.size, 0, none⟩) 2 2]] W fun e w' => e = .returned (.bool true) ∧ AwSt w w' :=
  (atSame_is exA exA true (Lib.hid (by decide)) hb h.a).mono fun _ _ ⟨he, hb⟩ => ⟨he, h.go hb⟩

set_option maxHeartbeats 8000000 in
set_option maxRecDepth 100000 in
theorem awake6_any (w : World) (hT : PowTab w) : Calls Tryd.prog 11 #[] w fun e w' => e = .returned (.bool true) ∧ Below w.heap.size w w' := by
  have h0 := AwSt.new w hT
  have c0 := h0.cells
  obtain ⟨a0, a1, a2, b0, b1, b2, d0, d1, d2, v0, v1, v2⟩ := c0
  have hst := h0.drew
  go_enter Tryd.func11, Tryd.ntmps11
  go_wp2
  go_region_held3 (fun w' => w'.cell? ⟨w.heap.size + 1, 0, none⟩ = some (.int .i64 2) ∧ w'.cell? ⟨w.heap.size + 1, 1, none⟩ = some (.int .i64 0) ∧ w'.cell? ⟨w.heap.size + 1, 2, none⟩ = some (.slice (some ⟨w.heap.size, 0, none⟩) 2 2) ∧ w'.cell? ⟨w.heap.size + 3, 0, none⟩ = some (.int .i64 2) ∧ w'.cell? ⟨w.heap.size + 3, 1, none⟩ = some (.int .i64 0) ∧ w'.cell? ⟨w.heap.size + 3, 2, none⟩ = some (.slice (some ⟨w.heap.size + 2, 0, none⟩) 2 2) ∧ w'.cell? ⟨w.heap.size + 5, 0, none⟩ = some (.int .i64 2) ∧ w'.cell? ⟨w.heap.size + 5, 1, none⟩ = some (.int .i64 0) ∧ w'.cell? ⟨w.heap.size + 5, 2, none⟩ = some (.slice (some ⟨w.heap.size + 4, 0, none⟩) 1 1) ∧ w'.cell? ⟨w.heap.size + 6, 0, none⟩ = some (.int .i64 1) ∧ w'.cell? ⟨w.heap.size + 6, 1, none⟩ = some (.int .i64 15) ∧ w'.cell? ⟨w.heap.size + 6, 2, none⟩ = some (.slice none 0 0)) (go_keep) (first
    | (go_at_call 15; (with_reducible refine (awP1 w _ hst).mono ?_); clear hst; rintro e w1 ⟨rfl, hst⟩; have hsz := hst.b6.lt; obtain ⟨a0, a1, a2, b0, b1, b2, d0, d1, d2, v0, v1, v2⟩ := hst.cells)
    | (go_at_call 15; (with_reducible refine (awP2 w _ hst).mono ?_); clear hst; rintro e w1 ⟨rfl, hst⟩; have hsz := hst.b6.lt; obtain ⟨a0, a1, a2, b0, b1, b2, d0, d1, d2, v0, v1, v2⟩ := hst.cells)
    | (go_at_call 21; (with_reducible refine (awQ1 w _ hst).mono ?_); clear hst; rintro e w1 ⟨rfl, hst⟩; have hsz := hst.b6.lt; obtain ⟨a0, a1, a2, b0, b1, b2, d0, d1, d2, v0, v1, v2⟩ := hst.cells)
    | (go_at_call 21; (with_reducible refine (awQ2 w _ hst).mono ?_); clear hst; rintro e w1 ⟨rfl, hst⟩; have hsz := hst.b6.lt; obtain ⟨a0, a1, a2, b0, b1, b2, d0, d1, d2, v0, v1, v2⟩ := hst.cells)
    | (go_at_call 21; (with_reducible refine (awQ3 w _ hst).mono ?_); clear hst; rintro e w1 ⟨rfl, hst⟩; have hsz := hst.b6.lt; obtain ⟨a0, a1, a2, b0, b1, b2, d0, d1, d2, v0, v1, v2⟩ := hst.cells)
    | (go_at_call 21; (with_reducible refine (awQ4 w _ hst).mono ?_); clear hst; rintro e w1 ⟨rfl, hst⟩; have hsz := hst.b6.lt; obtain ⟨a0, a1, a2, b0, b1, b2, d0, d1, d2, v0, v1, v2⟩ := hst.cells)
    | (go_at_call 21; (with_reducible refine (awQ5 w _ hst).mono ?_); clear hst; rintro e w1 ⟨rfl, hst⟩; have hsz := hst.b6.lt; obtain ⟨a0, a1, a2, b0, b1, b2, d0, d1, d2, v0, v1, v2⟩ := hst.cells)
    | (go_at_call 17; (with_reducible refine (awL1 w _ hst).mono ?_); clear hst; rintro e w1 ⟨rfl, hst⟩; have hsz := hst.b6.lt; obtain ⟨a0, a1, a2, b0, b1, b2, d0, d1, d2, v0, v1, v2⟩ := hst.cells)
    | (go_at_call 17; (with_reducible refine (awL2 w _ hst).mono ?_); clear hst; rintro e w1 ⟨rfl, hst⟩; have hsz := hst.b6.lt; obtain ⟨a0, a1, a2, b0, b1, b2, d0, d1, d2, v0, v1, v2⟩ := hst.cells)
    | (go_at_call 17; (with_reducible refine (awL3 w _ hst).mono ?_); clear hst; rintro e w1 ⟨rfl, hst⟩; have hsz := hst.b6.lt; obtain ⟨a0, a1, a2, b0, b1, b2, d0, d1, d2, v0, v1, v2⟩ := hst.cells)
    | (go_at_call 12; (with_reducible refine (awR1 w _ hst).mono ?_); clear hst; rintro e w1 ⟨rfl, hst⟩; have hsz := hst.b6.lt; obtain ⟨a0, a1, a2, b0, b1, b2, d0, d1, d2, v0, v1, v2⟩ := hst.cells)
    | (go_at_call 23; (with_reducible refine (awBest w _ hst).mono ?_); clear hst; rintro e w1 ⟨A8, c8, rfl, hbst, hst⟩; have hsz := hst.b6.lt; obtain ⟨a0, a1, a2, b0, b1, b2, d0, d1, d2, v0, v1, v2⟩ := hst.cells)
    | (go_at_call 19; (with_reducible refine (awSame w _ A8 c8 hbst hst).mono ?_); clear hst; rintro e w1 ⟨rfl, hst⟩; have hsz := hst.b6.lt; obtain ⟨a0, a1, a2, b0, b1, b2, d0, d1, d2, v0, v1, v2⟩ := hst.cells))
  go_step
  go_wp2
  go_ret
  exact ⟨rfl, hst.up⟩
end Go.Proofs.YtobeenlkhggodaaDoor
