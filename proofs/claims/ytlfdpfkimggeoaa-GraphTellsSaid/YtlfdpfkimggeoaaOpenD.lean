/-
  A slice of ints that came in, with its capacity.
-/
import Derived.Test.YtlfdpfkimggeoaaOpen
namespace Go.Proofs.Ytlfdpfkimggeoaa
open Go.RowKit Go.WideShapes Go.ChangeShapes Go.Deep

section
variable {H : Type} {enc : TypeId × Value → H} {P : Program} {w : World} {base : Nat} {spare : Nat → Bool} {held : Bool}
/-- A slice of ints that came in, with its capacity. -/
theorem open_intsD {t e : TypeId} {fuel : Nat} {A : Option Addr} {len cap : Nat} {x : DataW H × List MemPlace} (ht : P.underlying t = some (.slice e)) (he : P.underlying e = some (.int .i64)) (hc : P.cellsOf e = 1)
    (h : DataW.trod enc P w base spare held fuel t [.slice A len cap] = some x) : ∃ l : List Int, l.length = len ∧ CellsAt w w.heap.size A (l.map (Value.int .i64)) ∧ (∀ v ∈ l, InI v) ∧ l.length ≤ 9223372036854775807 ∧ l.length ≤ cap ∧ cap ≤ 9223372036854775807 := by
  obtain ⟨l, h1, h2, h3, h4⟩ := open_intsC ht he hc h
  refine ⟨l, h1, h2, h3, h4, ?_⟩
  rcases open_ints ht he hc h with ⟨hcs, _⟩ | ⟨a, len', cap', zs, hcs, _, hl, hm, _⟩
  · simp at hcs
    obtain ⟨rfl, rfl, rfl⟩ := hcs
    omega
  · simp at hcs
    obtain ⟨rfl, rfl, rfl⟩ := hcs
    unfold maxLen at hm
    omega
end
end Go.Proofs.Ytlfdpfkimggeoaa
