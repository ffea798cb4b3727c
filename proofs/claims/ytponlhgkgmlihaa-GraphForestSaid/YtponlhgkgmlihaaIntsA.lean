/-
  Lists of links as slices of ints.
-/
import Derived.Test.YtponlhgkgmlihaaOf
import Derived.Test.YtponlhgkgmlihaaList
namespace Go.Proofs.Ytponlhgkgmlihaa
open Go.RowKit Go.Sort

/-- The links as ints. -/
def asInts (l : List Nat) : List Int := l.map fun x : Nat => (x : Int)

theorem intsAt_own {W : World} {base c : Nat} {A : Option Addr} {l : List Nat} (h : W.ownsRow base 3 1 (.slice A l.length c) l.length (intCells l)) : IntsAt W W.heap.size A (asInts l) := by
  intro hn
  have hl : 0 < l.length := by
    cases l with
    | nil => exact absurd rfl hn
    | cons x l => simp
  obtain ⟨g, cap, hv, _, hlt⟩ := h.form hl
  have hA : A = some ⟨g, 0, none⟩ := by injection hv
  subst hA
  refine ⟨_, rfl, hlt, fun j x hx => ?_⟩
  refine h.cells (g := g) rfl j _ ?_
  rw [asInts, List.getElem?_map] at hx
  rw [intCells, List.getElem?_map]
  cases hj : l[j]? with
  | none => rw [hj] at hx; cases hx
  | some y => rw [hj] at hx; simp at hx ⊢; exact hx

/-- List: a slice of a set's links. -/
def ListsAs (B : Nat) (w0 w : World) (l : List Nat) (e : Ending) (w' : World) : Prop :=
  ∃ A c, e = .returned (.slice A l.length c) ∧ IntsAt w' w'.heap.size A (asInts l) ∧ Below w.heap.size w w' ∧ Below B w0 w'
theorem List_acc (f : Int) {B : Nat} {w0 w : World} (hb : Below B w0 w) (hB : B ≤ w0.heap.size) :
    Calls Try.prog 26 #[.int .i64 f] w (ListsAs B w0 w (setB f)) :=
  (List_any f w).mono fun e w' ⟨v, he, ho, _, hb'⟩ => by
    rcases ho.2 with ⟨rfl, h0⟩ | ⟨g, cap, _, rfl, _⟩
    · have hl : setB f = [] := List.eq_nil_of_length_eq_zero h0
      exact ⟨none, 0, by rw [he, hl]; rfl, by rw [hl]; exact IntsAt.nil _ _ _, hb', hb.trans (hb'.mono (Nat.le_trans hB hb.size))⟩
    · exact ⟨some ⟨g, 0, none⟩, cap, he, intsAt_own ho, hb', hb.trans (hb'.mono (Nat.le_trans hB hb.size))⟩

theorem asInts_len (l : List Nat) : (asInts l).length = l.length := by simp [asInts]
theorem asInts_inj {a b : List Nat} (h : asInts a = asInts b) : a = b := by
  have : ∀ x y : Nat, (x : Int) = (y : Int) → x = y := fun x y h => by omega
  exact List.map_inj_right (f := fun x : Nat => (x : Int)) (fun x y h => this x y h) |>.1 h

end Go.Proofs.Ytponlhgkgmlihaa
