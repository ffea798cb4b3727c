/-
  bits.Size: how many links are in a set.
-/
import Derived.Test.YtponlhgkgmlihaaSeq
namespace Go.Proofs.Ytponlhgkgmlihaa
open Go.RowKit Go.Shelf
attribute [local go_sem] Oper.semAt_some

theorem keepsBox_b {w : World} {B : Nat} (W : World) (l : Nat) (o o' : Obj) (_ : w.heap.size ≤ l) (h : W.heap[l]? = some o) (hc : o.isCells = false) (_ : o.isWalk = false) : KeepsBox B W (W.putObj l o') := fun t v hb =>
  hb.kept (grownBy_putObj' W l o') (fun e => by
    cases e
    rw [show W.heap[B]? = _ from hb] at h
    cases h; cases hc)
theorem keepsBox_set (W : World) {B B' : Nat} (hne : B ≠ B') (u : Value) : KeepsBox B W (W.setCell ⟨B', 0, none⟩ u) := fun _ _ hb => hb.other hne u

end Go.Proofs.Ytponlhgkgmlihaa
