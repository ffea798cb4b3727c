/-
  The laws' awake: the chapter's example.
-/
import Derived.Test.YtlfdpfkimggeoaaDoorAtM
namespace Go.Proofs.YtlfdpfkimggeoaaDoor
open Go.RowKit
set_option linter.unusedVariables false
set_option linter.unusedSimpArgs false

def exA : Rt := ⟨2, 0, [7, 9]⟩
def exB : Rt := ⟨2, 0, [9, 7]⟩
def exC : Rt := ⟨2, 0, [9]⟩
def exV : Rt := ⟨1, 15, []⟩
theorem RtAt.of_blk {w : World} {g : Nat} {k c : Int} {l : List Int} {n : Nat} (h : Blk w g 3 ((l.map (Value.int .i64)).toArray)) (hn : l.length = n) (hm : n ≤ 4096) : RtAt w ⟨k, c, l⟩ (some ⟨g, 0, none⟩) n :=
  ⟨hn, (show RowAt w w.heap.size (some ⟨g, 0, none⟩) (l.map (Value.int .i64)) from fun _ => ⟨g, rfl, h.lt, fun j u hu => by rw [h.cell]; simpa using hu⟩).cells, by omega⟩
theorem RtAt.flat (w : World) (k c : Int) : RtAt w ⟨k, c, []⟩ none 0 := ⟨rfl, CellsAt.nil _ _ _, by omega⟩
/-- The example's routes in memory. -/
structure AwSt (w W : World) : Prop where
  b0 : Blk W w.heap.size 3 #[.int .i64 7, .int .i64 9]
  b1 : Blk W (w.heap.size + 1) 25 #[.int .i64 2, .int .i64 0, .slice (some ⟨w.heap.size, 0, none⟩) 2 2]
  b2 : Blk W (w.heap.size + 2) 3 #[.int .i64 9, .int .i64 7]
  b3 : Blk W (w.heap.size + 3) 25 #[.int .i64 2, .int .i64 0, .slice (some ⟨w.heap.size + 2, 0, none⟩) 2 2]
  b4 : Blk W (w.heap.size + 4) 3 #[.int .i64 9]
  b5 : Blk W (w.heap.size + 5) 25 #[.int .i64 2, .int .i64 0, .slice (some ⟨w.heap.size + 4, 0, none⟩) 1 1]
  b6 : Blk W (w.heap.size + 6) 25 #[.int .i64 1, .int .i64 15, .slice none 0 0]
  up : Below w.heap.size w W
  tab : PowTab W
theorem AwSt.go {w W W' : World} (h : AwSt w W) (hb : Below W.heap.size W W') : AwSt w W' := ⟨h.b0.up hb, h.b1.up hb, h.b2.up hb, h.b3.up hb, h.b4.up hb, h.b5.up hb, h.b6.up hb, below_on h.up hb, h.tab.on hb⟩
theorem AwSt.alloc {w W : World} (h : AwSt w W) (o : Obj) : AwSt w (W.alloc o) := h.go (below_new _ _)
theorem AwSt.drew {w W : World} (h : AwSt w W) : AwSt w W.drew := h.go ((Below.refl _ _).drew)
theorem AwSt.a {w W : World} (h : AwSt w W) : RtAt W exA (some ⟨w.heap.size, 0, none⟩) 2 := RtAt.of_blk h.b0 rfl (by omega)
theorem AwSt.b {w W : World} (h : AwSt w W) : RtAt W exB (some ⟨w.heap.size + 2, 0, none⟩) 2 := RtAt.of_blk h.b2 rfl (by omega)
theorem AwSt.c {w W : World} (h : AwSt w W) : RtAt W exC (some ⟨w.heap.size + 4, 0, none⟩) 1 := RtAt.of_blk h.b4 rfl (by omega)
theorem AwSt.v {w W : World} (h : AwSt w W) : RtAt W exV none 0 := RtAt.flat _ _ _
theorem AwSt.new (w : World) (hT : PowTab w) : AwSt w (((((((w.alloc (.cells #[.int .i64 7, .int .i64 9] 3)).alloc (.cells #[.int .i64 2, .int .i64 0, .slice (some ⟨w.heap.size, 0, none⟩) 2 2] 25)).alloc (.cells #[.int .i64 9, .int .i64 7] 3)).alloc (.cells #[.int .i64 2, .int .i64 0, .slice (some ⟨w.heap.size + 2, 0, none⟩) 2 2] 25)).alloc (.cells #[.int .i64 9] 3)).alloc (.cells #[.int .i64 2, .int .i64 0, .slice (some ⟨w.heap.size + 4, 0, none⟩) 1 1] 25)).alloc (.cells #[.int .i64 1, .int .i64 15, .slice none 0 0] 25)) := by
  have e0 := Blk.new w 3 #[.int .i64 7, .int .i64 9]
  have e1 := Blk.new (w.alloc (.cells #[.int .i64 7, .int .i64 9] 3)) 25 #[.int .i64 2, .int .i64 0, .slice (some ⟨w.heap.size, 0, none⟩) 2 2]
  simp only [World.size_alloc, Nat.add_assoc, Nat.reduceAdd] at e1
  have e2 := Blk.new ((w.alloc (.cells #[.int .i64 7, .int .i64 9] 3)).alloc (.cells #[.int .i64 2, .int .i64 0, .slice (some ⟨w.heap.size, 0, none⟩) 2 2] 25)) 3 #[.int .i64 9, .int .i64 7]
  simp only [World.size_alloc, Nat.add_assoc, Nat.reduceAdd] at e2
  have e3 := Blk.new (((w.alloc (.cells #[.int .i64 7, .int .i64 9] 3)).alloc (.cells #[.int .i64 2, .int .i64 0, .slice (some ⟨w.heap.size, 0, none⟩) 2 2] 25)).alloc (.cells #[.int .i64 9, .int .i64 7] 3)) 25 #[.int .i64 2, .int .i64 0, .slice (some ⟨w.heap.size + 2, 0, none⟩) 2 2]
  simp only [World.size_alloc, Nat.add_assoc, Nat.reduceAdd] at e3
  have e4 := Blk.new ((((w.alloc (.cells #[.int .i64 7, .int .i64 9] 3)).alloc (.cells #[.int .i64 2, .int .i64 0, .slice (some ⟨w.heap.size, 0, none⟩) 2 2] 25)).alloc (.cells #[.int .i64 9, .int .i64 7] 3)).alloc (.cells #[.int .i64 2, .int .i64 0, .slice (some ⟨w.heap.size + 2, 0, none⟩) 2 2] 25)) 3 #[.int .i64 9]
  simp only [World.size_alloc, Nat.add_assoc, Nat.reduceAdd] at e4
  have e5 := Blk.new (((((w.alloc (.cells #[.int .i64 7, .int .i64 9] 3)).alloc (.cells #[.int .i64 2, .int .i64 0, .slice (some ⟨w.heap.size, 0, none⟩) 2 2] 25)).alloc (.cells #[.int .i64 9, .int .i64 7] 3)).alloc (.cells #[.int .i64 2, .int .i64 0, .slice (some ⟨w.heap.size + 2, 0, none⟩) 2 2] 25)).alloc (.cells #[.int .i64 9] 3)) 25 #[.int .i64 2, .int .i64 0, .slice (some ⟨w.heap.size + 4, 0, none⟩) 1 1]
  simp only [World.size_alloc, Nat.add_assoc, Nat.reduceAdd] at e5
  have e6 := Blk.new ((((((w.alloc (.cells #[.int .i64 7, .int .i64 9] 3)).alloc (.cells #[.int .i64 2, .int .i64 0, .slice (some ⟨w.heap.size, 0, none⟩) 2 2] 25)).alloc (.cells #[.int .i64 9, .int .i64 7] 3)).alloc (.cells #[.int .i64 2, .int .i64 0, .slice (some ⟨w.heap.size + 2, 0, none⟩) 2 2] 25)).alloc (.cells #[.int .i64 9] 3)).alloc (.cells #[.int .i64 2, .int .i64 0, .slice (some ⟨w.heap.size + 4, 0, none⟩) 1 1] 25)) 25 #[.int .i64 1, .int .i64 15, .slice none 0 0]
  simp only [World.size_alloc, Nat.add_assoc, Nat.reduceAdd] at e6
  have hb := (show Below w.heap.size w (((((((w.alloc (.cells #[.int .i64 7, .int .i64 9] 3)).alloc (.cells #[.int .i64 2, .int .i64 0, .slice (some ⟨w.heap.size, 0, none⟩) 2 2] 25)).alloc (.cells #[.int .i64 9, .int .i64 7] 3)).alloc (.cells #[.int .i64 2, .int .i64 0, .slice (some ⟨w.heap.size + 2, 0, none⟩) 2 2] 25)).alloc (.cells #[.int .i64 9] 3)).alloc (.cells #[.int .i64 2, .int .i64 0, .slice (some ⟨w.heap.size + 4, 0, none⟩) 1 1] 25)).alloc (.cells #[.int .i64 1, .int .i64 15, .slice none 0 0] 25)) from below_on (below_on (below_on (below_on (below_on (below_on (below_new w _) (below_new _ _)) (below_new _ _)) (below_new _ _)) (below_new _ _)) (below_new _ _)) (below_new _ _))
  exact ⟨((((((e0).alloc _).alloc _).alloc _).alloc _).alloc _).alloc _, (((((e1).alloc _).alloc _).alloc _).alloc _).alloc _, ((((e2).alloc _).alloc _).alloc _).alloc _, (((e3).alloc _).alloc _).alloc _, ((e4).alloc _).alloc _, (e5).alloc _, e6, hb, hT.on hb⟩
def AwCells (w W : World) : Prop := W.cell? ⟨w.heap.size + 1, 0, none⟩ = some (.int .i64 2) ∧ W.cell? ⟨w.heap.size + 1, 1, none⟩ = some (.int .i64 0) ∧ W.cell? ⟨w.heap.size + 1, 2, none⟩ = some (.slice (some ⟨w.heap.size, 0, none⟩) 2 2) ∧ W.cell? ⟨w.heap.size + 3, 0, none⟩ = some (.int .i64 2) ∧ W.cell? ⟨w.heap.size + 3, 1, none⟩ = some (.int .i64 0) ∧ W.cell? ⟨w.heap.size + 3, 2, none⟩ = some (.slice (some ⟨w.heap.size + 2, 0, none⟩) 2 2) ∧ W.cell? ⟨w.heap.size + 5, 0, none⟩ = some (.int .i64 2) ∧ W.cell? ⟨w.heap.size + 5, 1, none⟩ = some (.int .i64 0) ∧ W.cell? ⟨w.heap.size + 5, 2, none⟩ = some (.slice (some ⟨w.heap.size + 4, 0, none⟩) 1 1) ∧ W.cell? ⟨w.heap.size + 6, 0, none⟩ = some (.int .i64 1) ∧ W.cell? ⟨w.heap.size + 6, 1, none⟩ = some (.int .i64 15) ∧ W.cell? ⟨w.heap.size + 6, 2, none⟩ = some (.slice none 0 0)
theorem AwSt.cells {w W : World} (h : AwSt w W) : W.cell? ⟨w.heap.size + 1, 0, none⟩ = some (.int .i64 2) ∧ W.cell? ⟨w.heap.size + 1, 1, none⟩ = some (.int .i64 0) ∧ W.cell? ⟨w.heap.size + 1, 2, none⟩ = some (.slice (some ⟨w.heap.size, 0, none⟩) 2 2) ∧ W.cell? ⟨w.heap.size + 3, 0, none⟩ = some (.int .i64 2) ∧ W.cell? ⟨w.heap.size + 3, 1, none⟩ = some (.int .i64 0) ∧ W.cell? ⟨w.heap.size + 3, 2, none⟩ = some (.slice (some ⟨w.heap.size + 2, 0, none⟩) 2 2) ∧ W.cell? ⟨w.heap.size + 5, 0, none⟩ = some (.int .i64 2) ∧ W.cell? ⟨w.heap.size + 5, 1, none⟩ = some (.int .i64 0) ∧ W.cell? ⟨w.heap.size + 5, 2, none⟩ = some (.slice (some ⟨w.heap.size + 4, 0, none⟩) 1 1) ∧ W.cell? ⟨w.heap.size + 6, 0, none⟩ = some (.int .i64 1) ∧ W.cell? ⟨w.heap.size + 6, 1, none⟩ = some (.int .i64 15) ∧ W.cell? ⟨w.heap.size + 6, 2, none⟩ = some (.slice none 0 0) :=
  ⟨h.b1.cell 0, h.b1.cell 1, h.b1.cell 2, h.b3.cell 0, h.b3.cell 1, h.b3.cell 2, h.b5.cell 0, h.b5.cell 1, h.b5.cell 2, h.b6.cell 0, h.b6.cell 1, h.b6.cell 2⟩
theorem awP1 (w W : World) (h : AwSt w W) : Calls Tryd.prog 24 #[.agg #[.int .i64 2, .int .i64 0, .slice (some ⟨w.heap.size, 0, none⟩) 2 2]] W fun e w' => e = .returned (.string ⟨#[91, 55, 32, 57, 93]⟩) ∧ AwSt w w' :=
  (atPrint_is exA _ (Lib.hid rfl) (Lib.hid (by decide)) h.a h.tab).mono fun _ _ ⟨he, hb⟩ => ⟨by rw [he]; exact congrArg Ending.returned (congrArg Value.string (by decide +kernel)), h.go hb⟩
theorem awR1 (w W : World) (h : AwSt w W) : Calls Tryd.prog 23 #[.agg #[.int .i64 2, .int .i64 0, .slice (some ⟨w.heap.size, 0, none⟩) 2 2]] W fun e w' => e = .returned (.bool true) ∧ AwSt w w' :=
  (atRight_is exA true (Lib.hid (by decide)) h.a (by omega) (by omega)).mono fun _ _ ⟨he, hb⟩ => ⟨he, h.go hb⟩
theorem awP2 (w W : World) (h : AwSt w W) : Calls Tryd.prog 24 #[.agg #[.int .i64 0, .int .i64 0, .slice none 0 0]] W fun e w' => e = .returned (.string ⟨#[45]⟩) ∧ AwSt w w' :=
  (atPrint_is Rt.none _ (Lib.hid rfl) (Lib.hid (by decide)) (RtAt.flat _ _ _) h.tab).mono fun _ _ ⟨he, hb⟩ => ⟨by rw [he]; exact congrArg Ending.returned (congrArg Value.string (by decide +kernel)), h.go hb⟩
end Go.Proofs.YtlfdpfkimggeoaaDoor
