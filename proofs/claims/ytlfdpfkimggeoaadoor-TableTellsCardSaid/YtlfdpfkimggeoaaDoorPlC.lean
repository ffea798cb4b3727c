/-
  Package plan: who has a name (Node, Dest); which link joins two.
-/
import Derived.Laws.StructEq
import Derived.Test.YtlfdpfkimggeoaaDoorPlA
namespace Go.Proofs.YtlfdpfkimggeoaaDoor
open Go.RowKit

theorem below_box {w w' : World} {o : Obj} (hb : Below (w.alloc o).heap.size (w.alloc o) w') : Below w.heap.size w w' := ((Below.refl _ _).alloc (Nat.le_refl _) _).trans (hb.mono (by simp))
theorem below_new (w : World) (o : Obj) : Below w.heap.size w (w.alloc o) := (Below.refl _ _).alloc (Nat.le_refl _) _
theorem RowAt.box {w : World} {A : Option Addr} {xs : List Value} (h : RowAt w w.heap.size A xs) (o : Obj) : RowAt (w.alloc o) (w.alloc o).heap.size A xs := h.up (below_new w o)
theorem DestsAt.box {w : World} {A : Option Addr} {ds : List PDest} (h : DestsAt w w.heap.size A ds) (o : Obj) : DestsAt (w.alloc o) (w.alloc o).heap.size A ds := h.up (below_new w o)

theorem str_ne {a b : ByteArray} (h : a ≠ b) : (a.toList == b.toList) = false := by
  rw [beq_eq_false_iff_ne]
  intro e
  apply h
  rw [ByteArray.toList_eq, ByteArray.toList_eq] at e
  obtain ⟨⟨x⟩⟩ := a
  obtain ⟨⟨y⟩⟩ := b
  exact congrArg (fun l : List UInt8 => (⟨⟨l⟩⟩ : ByteArray)) e

/-- The place of the first one of which p is so; -1, if there is none. -/
def ixF {α : Type} (p : α → Bool) : List α → Nat → Int
  | [], _ => -1
  | x :: r, i => if p x = true then (i : Int) else ixF p r (i + 1)
def ixB {α : Type} (p : α → Bool) (l : List α) : Int := ixF p l 0
def IxAt {α : Type} (p : α → Bool) (l : List α) (k : Nat) : Prop := ixB p l = ixF p (l.drop k) k
section
variable {α : Type} {p : α → Bool} {l : List α}
theorem IxAt.start (p : α → Bool) (l : List α) : IxAt p l 0 := rfl
theorem drop_cons {k : Nat} {x : α} (hx : l[k]? = some x) : l.drop k = x :: l.drop (k + 1) := by
  have h := (List.getElem?_eq_some_iff.1 hx)
  obtain ⟨hl, he⟩ := h
  rw [List.drop_eq_getElem_cons hl, he]
theorem IxAt.hit {k : Nat} {x : α} (h : IxAt p l k) (hx : l[k]? = some x) (hp : p x = true) : ixB p l = k := by
  unfold IxAt at h
  rw [h, drop_cons hx, ixF, if_pos hp]
theorem IxAt.next {k : Nat} {x : α} (h : IxAt p l k) (hx : l[k]? = some x) (hp : p x = false) : IxAt p l (k + 1) := by
  unfold IxAt at h ⊢
  rw [h, drop_cons hx, ixF, if_neg (by rw [hp]; simp)]
theorem IxAt.miss {k : Nat} (h : IxAt p l k) (hk : l.length ≤ k) : ixB p l = -1 := by
  unfold IxAt at h
  rw [h, List.drop_of_length_le hk]; rfl
theorem ixF_le (p : α → Bool) : ∀ (l : List α) (i : Nat), -1 ≤ ixF p l i ∧ ixF p l i < i + l.length + 1
  | [], i => by rw [ixF]; simp; omega
  | x :: r, i => by
    rw [ixF]
    have := ixF_le p r (i + 1)
    split
    · simp; omega
    · rw [List.length_cons]; omega
theorem ixB_in (p : α → Bool) (l : List α) (h : l.length ≤ 9223372036854775806) : -1 ≤ ixB p l ∧ ixB p l ≤ 9223372036854775807 := by
  have := ixF_le p l 0
  unfold ixB; omega
end

/-! ### Nodes -/
def nameIs (x : ByteArray) (n : PNode) : Bool := decide (n.name = x)
end Go.Proofs.YtlfdpfkimggeoaaDoor

namespace Go.Proofs.YtlfdpfkimggeoaaDoor
open Go.RowKit

/-! ### Destinations -/
def destIs (x : ByteArray) (d : PDest) : Bool := decide (d.name = x)
/-! ### Links -/
def linkIs (a b : Int) (o : PLink) : Bool := decide (o.a = a) && decide (o.b = b)
/-! ### Origins -/
def origF (m : Nat) : List Int → Int → Bool
  | [], _ => true
  | x :: r, least => withinB x least ((m : Int) - 1) && origF m r (x + 1)
def OrigAt (m : Nat) (l : List Int) (k : Nat) (least : Int) : Prop := origF m l 0 = origF m (l.drop k) least
def origB (m : Nat) (l : List Int) : Bool := origF m l 0 && decide (0 < l.length)
end Go.Proofs.YtlfdpfkimggeoaaDoor
