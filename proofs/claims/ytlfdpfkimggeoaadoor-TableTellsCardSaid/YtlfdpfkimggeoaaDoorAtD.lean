/-
  Package attr: Better; the document's Same and Better.
-/
import Derived.Deep.RegionHeld3
import Derived.Test.YtlfdpfkimggeoaaDoorAtC
namespace Go.Proofs.YtlfdpfkimggeoaaDoor
open Go.RowKit
set_option linter.unusedVariables false
set_option linter.unusedSimpArgs false

theorem below_2 (w : World) (o o' : Obj) : Below w.heap.size w ((w.alloc o).alloc o') := (below_new w o).trans ((below_new (w.alloc o) o').mono (below_new w o).size)
theorem below_on {w w1 w2 : World} (h : Below w.heap.size w w1) (h2 : Below w1.heap.size w1 w2) : Below w.heap.size w w2 := h.trans (h2.mono h.size)

/-- Two routes in boxes. -/
structure Rt2 (w : World) (k c : Int) (A : Option Addr) (n ca : Nat) (k' c' : Int) (B : Option Addr) (m cb : Nat) (W : World) : Prop where
  one : Blk W w.heap.size 25 #[.int .i64 k, .int .i64 c, .slice A n ca]
  two : Blk W (w.heap.size + 1) 25 #[.int .i64 k', .int .i64 c', .slice B m cb]
  up : Below w.heap.size w W
section
variable {w : World} {k c : Int} {A : Option Addr} {n ca : Nat} {k' c' : Int} {B : Option Addr} {m cb : Nat} {W W' : World}
theorem Rt2.new (w : World) (k c : Int) (A : Option Addr) (n ca : Nat) (k' c' : Int) (B : Option Addr) (m cb : Nat) : Rt2 w k c A n ca k' c' B m cb ((w.alloc (.cells #[.int .i64 k, .int .i64 c, .slice A n ca] 25)).alloc (.cells #[.int .i64 k', .int .i64 c', .slice B m cb] 25)) :=
  ⟨(Blk.new w _ _).alloc _, by have := Blk.new (w.alloc (.cells #[.int .i64 k, .int .i64 c, .slice A n ca] 25)) 25 #[.int .i64 k', .int .i64 c', .slice B m cb]; rwa [World.size_alloc] at this, below_2 w _ _⟩
theorem Rt2.go (h : Rt2 w k c A n ca k' c' B m cb W) (hb : Below W.heap.size W W') : Rt2 w k c A n ca k' c' B m cb W' := ⟨h.one.up hb, h.two.up hb, below_on h.up hb⟩
theorem Rt2.drew (h : Rt2 w k c A n ca k' c' B m cb W) : Rt2 w k c A n ca k' c' B m cb W.drew := h.go ((Below.refl _ _).drew)
theorem Rt2.cells (h : Rt2 w k c A n ca k' c' B m cb W) :
    W.cell? ⟨w.heap.size, 0, none⟩ = some (.int .i64 k) ∧ W.cell? ⟨w.heap.size, 1, none⟩ = some (.int .i64 c) ∧ W.cell? ⟨w.heap.size, 2, none⟩ = some (.slice A n ca) ∧ W.cell? ⟨w.heap.size + 1, 0, none⟩ = some (.int .i64 k') ∧ W.cell? ⟨w.heap.size + 1, 1, none⟩ = some (.int .i64 c') ∧ W.cell? ⟨w.heap.size + 1, 2, none⟩ = some (.slice B m cb) :=
  ⟨h.one.cell 0, h.one.cell 1, h.one.cell 2, h.two.cell 0, h.two.cell 1, h.two.cell 2⟩
end

end Go.Proofs.YtlfdpfkimggeoaaDoor
