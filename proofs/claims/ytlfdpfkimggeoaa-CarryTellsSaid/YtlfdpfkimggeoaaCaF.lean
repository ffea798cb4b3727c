/-
  Layer 7's laws: the network of the examples.
-/
import Derived.Test.YtlfdpfkimggeoaaCaE
namespace Go.Proofs.Ytlfdpfkimggeoaa
open Go.RowKit
set_option linter.unusedVariables false
set_option linter.unusedSimpArgs false

theorem RowAt.of_blkC {w : World} {g : Nat} {t : TypeId} {cs : Array Value} (h : Blk w g t cs) : RowAt w w.heap.size (some ⟨g, 0, none⟩) cs.toList := fun _ => ⟨g, rfl, h.lt, fun j u hu => by rw [h.cell, ← hu]; simp⟩
def pairP (pr ca : Int) : PPlan := ⟨pr, ca, 0, [⟨⟨#[97]⟩, 7⟩, ⟨⟨#[98]⟩, 8⟩, ⟨⟨#[99]⟩, 9⟩], [⟨0, 1, 3⟩, ⟨0, 2, 1⟩], [⟨⟨#[120]⟩, [2]⟩], []⟩
/-- Its rows in memory. -/
structure PairSt (w0 : World) (gn gl go gd : Nat) (w : World) : Prop where
  bn : Blk w gn 56 #[.string ⟨#[97]⟩, .int .i64 7, .string ⟨#[98]⟩, .int .i64 8, .string ⟨#[99]⟩, .int .i64 9]
  bl : Blk w gl 53 #[.int .i64 0, .int .i64 1, .int .i64 3, .int .i64 0, .int .i64 2, .int .i64 1]
  bo : Blk w go 3 #[.int .i64 2]
  bd : Blk w gd 65 #[.string ⟨#[120]⟩, .slice (some ⟨go, 0, none⟩) 1 1]
  up : Below w0.heap.size w0 w
theorem PairSt.go {w0 w w' : World} {gn gl go gd : Nat} (h : PairSt w0 gn gl go gd w) (hb : Below w.heap.size w w') : PairSt w0 gn gl go gd w' := ⟨h.bn.up hb, h.bl.up hb, h.bo.up hb, h.bd.up hb, below_on h.up hb⟩
theorem PairSt.p {w0 w : World} {gn gl go gd : Nat} (h : PairSt w0 gn gl go gd w) (pr ca : Int) : PAt w (pairP pr ca) (pairP pr ca).proto (pairP pr ca).cap (pairP pr ca).k (some ⟨gn, 0, none⟩) (pairP pr ca).nodes.length (some ⟨gl, 0, none⟩) (pairP pr ca).links.length (some ⟨gd, 0, none⟩) (pairP pr ca).dests.length none (pairP pr ca).checks.length := by
  refine ⟨rfl, rfl, rfl, rfl, rfl, rfl, rfl, RowAt.of_blkC h.bn, RowAt.of_blkC h.bl, ⟨[(some ⟨go, 0, none⟩, 1)], rfl, RowAt.of_blkC h.bd, fun i d q e1 e2 => ?_⟩, RowAt.nil _ _ _⟩
  cases i with
  | zero => obtain rfl := Option.some.inj e1; obtain rfl := Option.some.inj e2; exact RowAt.of_blkC h.bo
  | succ i => simp [pairP] at e1
theorem pair_world (w : World) (R X : Array Value) : PairSt w (w.heap.size + 1) (w.heap.size + 1 + 1) (w.heap.size + 1 + 1 + 1) (w.heap.size + 1 + 1 + 1 + 1) ((((((w.alloc (.cells R 29)).alloc (.cells #[.string ⟨#[97]⟩, .int .i64 7, .string ⟨#[98]⟩, .int .i64 8, .string ⟨#[99]⟩, .int .i64 9] 56)).alloc (.cells #[.int .i64 0, .int .i64 1, .int .i64 3, .int .i64 0, .int .i64 2, .int .i64 1] 53)).alloc (.cells #[.int .i64 2] 3)).alloc (.cells #[.string ⟨#[120]⟩, .slice (some ⟨w.heap.size + 1 + 1 + 1, 0, none⟩) 1 1] 65)).alloc (.cells X 29)) ∧ Blk ((((((w.alloc (.cells R 29)).alloc (.cells #[.string ⟨#[97]⟩, .int .i64 7, .string ⟨#[98]⟩, .int .i64 8, .string ⟨#[99]⟩, .int .i64 9] 56)).alloc (.cells #[.int .i64 0, .int .i64 1, .int .i64 3, .int .i64 0, .int .i64 2, .int .i64 1] 53)).alloc (.cells #[.int .i64 2] 3)).alloc (.cells #[.string ⟨#[120]⟩, .slice (some ⟨w.heap.size + 1 + 1 + 1, 0, none⟩) 1 1] 65)).alloc (.cells X 29)) w.heap.size 29 R := by
  refine ⟨⟨?_, ?_, ?_, ?_, ?_⟩, ?_⟩
  · simpa using ((((Blk.new (w.alloc (.cells R 29)) 56 #[.string ⟨#[97]⟩, .int .i64 7, .string ⟨#[98]⟩, .int .i64 8, .string ⟨#[99]⟩, .int .i64 9]).alloc (.cells #[.int .i64 0, .int .i64 1, .int .i64 3, .int .i64 0, .int .i64 2, .int .i64 1] 53)).alloc (.cells #[.int .i64 2] 3)).alloc (.cells #[.string ⟨#[120]⟩, .slice (some ⟨w.heap.size + 1 + 1 + 1, 0, none⟩) 1 1] 65)).alloc (.cells X 29)
  · simpa using (((Blk.new ((w.alloc (.cells R 29)).alloc (.cells #[.string ⟨#[97]⟩, .int .i64 7, .string ⟨#[98]⟩, .int .i64 8, .string ⟨#[99]⟩, .int .i64 9] 56)) 53 #[.int .i64 0, .int .i64 1, .int .i64 3, .int .i64 0, .int .i64 2, .int .i64 1]).alloc (.cells #[.int .i64 2] 3)).alloc (.cells #[.string ⟨#[120]⟩, .slice (some ⟨w.heap.size + 1 + 1 + 1, 0, none⟩) 1 1] 65)).alloc (.cells X 29)
  · simpa using ((Blk.new (((w.alloc (.cells R 29)).alloc (.cells #[.string ⟨#[97]⟩, .int .i64 7, .string ⟨#[98]⟩, .int .i64 8, .string ⟨#[99]⟩, .int .i64 9] 56)).alloc (.cells #[.int .i64 0, .int .i64 1, .int .i64 3, .int .i64 0, .int .i64 2, .int .i64 1] 53)) 3 #[.int .i64 2]).alloc (.cells #[.string ⟨#[120]⟩, .slice (some ⟨w.heap.size + 1 + 1 + 1, 0, none⟩) 1 1] 65)).alloc (.cells X 29)
  · simpa using (Blk.new ((((w.alloc (.cells R 29)).alloc (.cells #[.string ⟨#[97]⟩, .int .i64 7, .string ⟨#[98]⟩, .int .i64 8, .string ⟨#[99]⟩, .int .i64 9] 56)).alloc (.cells #[.int .i64 0, .int .i64 1, .int .i64 3, .int .i64 0, .int .i64 2, .int .i64 1] 53)).alloc (.cells #[.int .i64 2] 3)) 65 #[.string ⟨#[120]⟩, .slice (some ⟨w.heap.size + 1 + 1 + 1, 0, none⟩) 1 1]).alloc (.cells X 29)
  · exact below_on (below_5 w _ _ _ _ _) (below_new _ _)
  · exact (((((Blk.new w 29 R).alloc _).alloc _).alloc _).alloc _).alloc _
set_option maxHeartbeats 8000000 in
set_option maxRecDepth 100000 in
theorem pair_1 (w : World) : Calls Try.prog 43 #[.int .i64 1] w fun e w' => ∃ gn gl go gd, e = .returned (.agg #[.int .i64 1, .int .i64 0, .int .i64 0, .slice (some ⟨gn, 0, none⟩) 3 3, .slice (some ⟨gl, 0, none⟩) 2 2, .slice (some ⟨gd, 0, none⟩) 1 1, .slice none 0 0]) ∧ PairSt w gn gl go gd w' := by
  obtain ⟨hP, hR⟩ := pair_world w #[.int .i64 1, .int .i64 0, .int .i64 0, .slice (some ⟨w.heap.size + 1, 0, none⟩) 3 3, .slice (some ⟨w.heap.size + 1 + 1, 0, none⟩) 2 2, .slice (some ⟨w.heap.size + 1 + 1 + 1 + 1, 0, none⟩) 1 1, .slice none 0 0] #[.int .i64 1, .int .i64 0, .int .i64 0, .slice (some ⟨w.heap.size + 1, 0, none⟩) 3 3, .slice (some ⟨w.heap.size + 1 + 1, 0, none⟩) 2 2, .slice (some ⟨w.heap.size + 1 + 1 + 1 + 1, 0, none⟩) 1 1, .slice none 0 0]
  have z0 := hR.cell 0
  have z1 := hR.cell 1
  have z2 := hR.cell 2
  have z3 := hR.cell 3
  have z4 := hR.cell 4
  have z5 := hR.cell 5
  have z6 := hR.cell 6
  obtain ⟨W4, hW4⟩ : ∃ W4, W4 = ((((((w.alloc (.cells #[.int .i64 1, .int .i64 0, .int .i64 0, .slice (some ⟨w.heap.size + 1, 0, none⟩) 3 3, .slice (some ⟨w.heap.size + 1 + 1, 0, none⟩) 2 2, .slice (some ⟨w.heap.size + 1 + 1 + 1 + 1, 0, none⟩) 1 1, .slice none 0 0] 29)).alloc (.cells #[.string ⟨#[97]⟩, .int .i64 7, .string ⟨#[98]⟩, .int .i64 8, .string ⟨#[99]⟩, .int .i64 9] 56)).alloc (.cells #[.int .i64 0, .int .i64 1, .int .i64 3, .int .i64 0, .int .i64 2, .int .i64 1] 53)).alloc (.cells #[.int .i64 2] 3)).alloc (.cells #[.string ⟨#[120]⟩, .slice (some ⟨w.heap.size + 1 + 1 + 1, 0, none⟩) 1 1] 65)).alloc (.cells #[.int .i64 1, .int .i64 0, .int .i64 0, .slice (some ⟨w.heap.size + 1, 0, none⟩) 3 3, .slice (some ⟨w.heap.size + 1 + 1, 0, none⟩) 2 2, .slice (some ⟨w.heap.size + 1 + 1 + 1 + 1, 0, none⟩) 1 1, .slice none 0 0] 29)) := ⟨_, rfl⟩
  rw [← hW4] at z0 z1 z2 z3 z4 z5 z6 hP
  replace hW4 := Lib.hid hW4
  clear hR
  go_enter Try.func43, Try.ntmps43
  go_wp2
  rw [← hW4.out]
  clear hW4
  refine bodyPost_ret (v := .agg #[.int .i64 1, .int .i64 0, .int .i64 0, .slice (some ⟨w.heap.size + 1, 0, none⟩) 3 3, .slice (some ⟨w.heap.size + 1 + 1, 0, none⟩) 2 2, .slice (some ⟨w.heap.size + 1 + 1 + 1 + 1, 0, none⟩) 1 1, .slice none 0 0]) (by first | (simp [results, Try.results43, go_sem] at z0 z1 z2 z3 z4 z5 z6 ⊢; simp [z0, z1, z2, z3, z4, z5, z6]; done) | (simp [results, Try.results43, go_sem, z0, z1, z2, z3, z4, z5, z6]; done)) rfl ?_
  exact ⟨_, _, _, _, rfl, hP⟩
set_option maxHeartbeats 8000000 in
set_option maxRecDepth 100000 in
theorem pair_2 (w : World) : Calls Try.prog 43 #[.int .i64 2] w fun e w' => ∃ gn gl go gd, e = .returned (.agg #[.int .i64 2, .int .i64 2, .int .i64 0, .slice (some ⟨gn, 0, none⟩) 3 3, .slice (some ⟨gl, 0, none⟩) 2 2, .slice (some ⟨gd, 0, none⟩) 1 1, .slice none 0 0]) ∧ PairSt w gn gl go gd w' := by
  obtain ⟨hP, hR⟩ := pair_world w #[.int .i64 2, .int .i64 2, .int .i64 0, .slice (some ⟨w.heap.size + 1, 0, none⟩) 3 3, .slice (some ⟨w.heap.size + 1 + 1, 0, none⟩) 2 2, .slice (some ⟨w.heap.size + 1 + 1 + 1 + 1, 0, none⟩) 1 1, .slice none 0 0] #[.int .i64 2, .int .i64 2, .int .i64 0, .slice (some ⟨w.heap.size + 1, 0, none⟩) 3 3, .slice (some ⟨w.heap.size + 1 + 1, 0, none⟩) 2 2, .slice (some ⟨w.heap.size + 1 + 1 + 1 + 1, 0, none⟩) 1 1, .slice none 0 0]
  have z0 := hR.cell 0
  have z1 := hR.cell 1
  have z2 := hR.cell 2
  have z3 := hR.cell 3
  have z4 := hR.cell 4
  have z5 := hR.cell 5
  have z6 := hR.cell 6
  obtain ⟨W4, hW4⟩ : ∃ W4, W4 = ((((((w.alloc (.cells #[.int .i64 2, .int .i64 2, .int .i64 0, .slice (some ⟨w.heap.size + 1, 0, none⟩) 3 3, .slice (some ⟨w.heap.size + 1 + 1, 0, none⟩) 2 2, .slice (some ⟨w.heap.size + 1 + 1 + 1 + 1, 0, none⟩) 1 1, .slice none 0 0] 29)).alloc (.cells #[.string ⟨#[97]⟩, .int .i64 7, .string ⟨#[98]⟩, .int .i64 8, .string ⟨#[99]⟩, .int .i64 9] 56)).alloc (.cells #[.int .i64 0, .int .i64 1, .int .i64 3, .int .i64 0, .int .i64 2, .int .i64 1] 53)).alloc (.cells #[.int .i64 2] 3)).alloc (.cells #[.string ⟨#[120]⟩, .slice (some ⟨w.heap.size + 1 + 1 + 1, 0, none⟩) 1 1] 65)).alloc (.cells #[.int .i64 2, .int .i64 2, .int .i64 0, .slice (some ⟨w.heap.size + 1, 0, none⟩) 3 3, .slice (some ⟨w.heap.size + 1 + 1, 0, none⟩) 2 2, .slice (some ⟨w.heap.size + 1 + 1 + 1 + 1, 0, none⟩) 1 1, .slice none 0 0] 29)) := ⟨_, rfl⟩
  rw [← hW4] at z0 z1 z2 z3 z4 z5 z6 hP
  replace hW4 := Lib.hid hW4
  clear hR
  go_enter Try.func43, Try.ntmps43
  go_wp2
  rw [← hW4.out]
  clear hW4
  refine bodyPost_ret (v := .agg #[.int .i64 2, .int .i64 2, .int .i64 0, .slice (some ⟨w.heap.size + 1, 0, none⟩) 3 3, .slice (some ⟨w.heap.size + 1 + 1, 0, none⟩) 2 2, .slice (some ⟨w.heap.size + 1 + 1 + 1 + 1, 0, none⟩) 1 1, .slice none 0 0]) (by first | (simp [results, Try.results43, go_sem] at z0 z1 z2 z3 z4 z5 z6 ⊢; simp [z0, z1, z2, z3, z4, z5, z6]; done) | (simp [results, Try.results43, go_sem, z0, z1, z2, z3, z4, z5, z6]; done)) rfl ?_
  exact ⟨_, _, _, _, rfl, hP⟩
end Go.Proofs.Ytlfdpfkimggeoaa
