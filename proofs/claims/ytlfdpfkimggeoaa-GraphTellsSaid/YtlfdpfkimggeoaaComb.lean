/-
  Plain facts: the sets of just s links, in order.
-/
import Derived.Test.YtlfdpfkimggeoaaMath
namespace Go.Proofs.Ytlfdpfkimggeoaa

/-- g, and s links of those from link on, of which there are rem. -/
def combos : Nat → Nat → Nat → Nat → List Nat
  | _, 0, _, g => [g]
  | 0, _ + 1, _, _ => []
  | rem + 1, s + 1, link, g => combos rem s (link + 1) (g + 2 ^ link) ++ combos rem (s + 1) (link + 1) g

theorem combos_len : ∀ rem s link g, (combos rem s link g).length = chN rem s
  | 0, 0, _, _ => rfl
  | _ + 1, 0, _, _ => rfl
  | 0, _ + 1, _, _ => rfl
  | rem + 1, s + 1, link, g => by
    show (combos rem s (link + 1) (g + 2 ^ link) ++ combos rem (s + 1) (link + 1) g).length = chN rem s + chN rem (s + 1)
    rw [List.length_append, combos_len rem s, combos_len rem (s + 1)]

theorem combos_zero (rem link g : Nat) : combos rem 0 link g = [g] := by cases rem <;> rfl

/-- The first part: those with the link. -/
theorem combos_with {rem s link g pl r : Nat} (h : (combos (rem + 1) (s + 1) link g)[pl]? = some r) (hp : pl < chN rem s) : (combos rem s (link + 1) (g + 2 ^ link))[pl]? = some r := by
  have h' : (combos rem s (link + 1) (g + 2 ^ link) ++ combos rem (s + 1) (link + 1) g)[pl]? = some r := h
  rwa [List.getElem?_append_left (by rw [combos_len]; exact hp)] at h'
theorem combos_without {rem s link g pl r : Nat} (h : (combos (rem + 1) (s + 1) link g)[pl]? = some r) (hp : chN rem s ≤ pl) : (combos rem (s + 1) (link + 1) g)[pl - chN rem s]? = some r := by
  have h' : (combos rem s (link + 1) (g + 2 ^ link) ++ combos rem (s + 1) (link + 1) g)[pl]? = some r := h
  rwa [List.getElem?_append_right (by rw [combos_len]; exact hp), combos_len] at h'
theorem combos_some {s link g pl r : Nat} (h : (combos 0 (s + 1) link g)[pl]? = some r) : False := by simp [combos] at h
theorem combos_lt {rem s link g pl r : Nat} (h : (combos rem s link g)[pl]? = some r) : pl < chN rem s := by
  rw [← combos_len rem s link g]; exact (List.getElem?_eq_some_iff.1 h).1
theorem combos_done {rem link g pl r : Nat} (h : (combos rem 0 link g)[pl]? = some r) : r = g := by
  rw [combos_zero] at h
  cases pl with
  | zero => simpa using h.symm
  | succ _ => simp at h

/-- All sets of fewer than k links, in order. -/
def allS (n : Nat) : Nat → List Nat
  | 0 => []
  | k + 1 => allS n k ++ combos n k 0 0
theorem allS_len (n : Nat) : ∀ k, (allS n k).length = sumC n k
  | 0 => rfl
  | k + 1 => by simp [allS, sumC, allS_len n k, combos_len]

theorem add_or (g link : Nat) (h : g < 2 ^ link) : g ||| 2 ^ link = g + 2 ^ link := by
  have := Nat.two_pow_add_eq_or_of_lt h 1
  rw [Nat.mul_one] at this
  rw [Nat.or_comm, ← this, Nat.add_comm]

end Go.Proofs.Ytlfdpfkimggeoaa
