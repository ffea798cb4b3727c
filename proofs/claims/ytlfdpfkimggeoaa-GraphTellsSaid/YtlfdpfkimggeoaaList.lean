/-
  bits.List: a set's links in a new slice, by slices.Collect over the iterator.
-/
import Derived.RangeFuncBox
import Derived.Maps.AppendAt
import Derived.Test.YtlfdpfkimggeoaaSize
namespace Go.Proofs.Ytlfdpfkimggeoaa
open Go.RowKit Go.Shelf
attribute [local go_sem] Oper.semAt_some

theorem intInfo : (Try.prog.info? 3).map (fun i => (i.zero, i.size, i.bytes)) = some (some (.int .i64 0), 1, 8) := by kernel_rfl

theorem keepsBox_below {n₀ B : Nat} {W W' : World} (h : Below n₀ W W') (hB : B < n₀) : KeepsBox B W W' := fun _ _ hb => (h.block B hB).trans hb

/-- The numbers of a list as cells. -/
def intCells (l : List Nat) : List Value := l.map fun x : Nat => .int .i64 (x : Int)

/-- What lies from one block on lies from an earlier one on. -/
theorem ownsRow_lower {W : World} {base base' : Nat} {e : TypeId} {size : Nat} {v : Value} {k : Nat} {xs : List Value} (h : W.ownsRow base e size v k xs) (hb : base' ≤ base) : W.ownsRow base' e size v k xs := by
  obtain ⟨h1, h2⟩ := h
  refine ⟨h1, ?_⟩
  rcases h2 with h2 | ⟨g, cap, cur, hv, hg, h3⟩
  · exact .inl h2
  · exact .inr ⟨g, cap, cur, hv, Nat.le_trans hb hg, h3⟩

end Go.Proofs.Ytlfdpfkimggeoaa
