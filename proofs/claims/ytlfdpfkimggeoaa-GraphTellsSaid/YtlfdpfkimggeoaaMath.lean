/-
  Plain facts on sets of links as numbers: no program is named here.
-/
namespace Go.Proofs.Ytlfdpfkimggeoaa

/-- How many sets of k out of n there are. -/
def chN : Nat → Nat → Nat
  | _, 0 => 1
  | 0, _ + 1 => 0
  | n + 1, k + 1 => chN n k + chN n (k + 1)

/-- How many sets of fewer than k out of n there are. -/
def sumC (n : Nat) : Nat → Nat
  | 0 => 0
  | k + 1 => sumC n k + chN n k

/-- How many sets of so many links, of at most so many each, there are. -/
def countB (links most : Int) : Nat := if 0 ≤ links ∧ links ≤ 16 ∧ 0 ≤ most then sumC links.toNat ((min most links).toNat + 1) else 0

theorem sumC_le : ∀ n, n ≤ 16 → ∀ k, k ≤ 18 → sumC n k ≤ 65536 := by
  intro n hn k hk
  have h : ∀ n, n < 17 → ∀ k, k < 19 → sumC n k ≤ 65536 := by decide +kernel
  exact h n (by omega) k (by omega)

/-- Is the link in the set? -/
def hasB (f link : Int) : Bool := decide (0 ≤ link) && decide (link < 16) && decide (f / 2 ^ link.toNat % 2 = 1)

/-- The links of a set below a bound, rising; all of them. -/
def uptoB (f : Int) (j : Nat) : List Nat := (List.range j).filter fun i => hasB f (i : Int)
def setB (f : Int) : List Nat := uptoB f 16

theorem uptoB_len (f : Int) (j : Nat) : (uptoB f j).length ≤ j := by
  unfold uptoB
  have := List.length_filter_le (fun i : Nat => hasB f (i : Int)) (List.range j)
  simpa using this
theorem uptoB_yes (f : Int) (j : Nat) (h : hasB f (j : Int) = true) : uptoB f (j + 1) = uptoB f j ++ [j] := by
  simp [uptoB, List.range_succ, List.filter_append, h]
theorem uptoB_no (f : Int) (j : Nat) (h : hasB f (j : Int) = false) : uptoB f (j + 1) = uptoB f j := by
  simp [uptoB, List.range_succ, List.filter_append, h]

theorem uptoB_pre (f : Int) {i j : Nat} (h : i ≤ j) : uptoB f i <+: uptoB f j := by
  induction j with
  | zero => exact (show i = 0 by omega) ▸ List.prefix_refl _
  | succ k ih =>
    by_cases e : i = k + 1
    · subst e; exact List.prefix_refl _
    · refine (ih (by omega)).trans ?_
      cases hh : hasB f (k : Int) with
      | true => rw [uptoB_yes f k hh]; exact List.prefix_append _ _
      | false => rw [uptoB_no f k hh]; exact List.prefix_refl _

/-- The same links, as things of a type that tells which link each is. -/
def uptoA {α : Type} (mk : (i : Nat) → i < 16 → α) (f : Int) : Nat → List α
  | 0 => []
  | j + 1 => if h : j < 16 ∧ hasB f (j : Int) = true then uptoA mk f j ++ [mk j h.1] else uptoA mk f j
theorem uptoA_yes {α : Type} (mk : (i : Nat) → i < 16 → α) (f : Int) (j : Nat) (hj : j < 16) (h : hasB f (j : Int) = true) : uptoA mk f (j + 1) = uptoA mk f j ++ [mk j hj] := by
  rw [uptoA, dif_pos ⟨hj, h⟩]
theorem uptoA_no {α : Type} (mk : (i : Nat) → i < 16 → α) (f : Int) (j : Nat) (h : hasB f (j : Int) = false) : uptoA mk f (j + 1) = uptoA mk f j := by
  rw [uptoA, dif_neg]; rw [h]; simp
theorem uptoA_map {α : Type} (v : α → Nat) (mk : (i : Nat) → i < 16 → α) (hmk : ∀ i h, v (mk i h) = i) (f : Int) : ∀ j, j ≤ 16 → (uptoA mk f j).map v = uptoB f j
  | 0, _ => rfl
  | j + 1, hj => by
    have ih := uptoA_map v mk hmk f j (by omega)
    cases h : hasB f (j : Int) with
    | true => rw [uptoA_yes mk f j (by omega) h, uptoB_yes f j h, List.map_append, ih]; simp [hmk]
    | false => rw [uptoA_no mk f j h, uptoB_no f j h, ih]
theorem uptoA_len {α : Type} (mk : (i : Nat) → i < 16 → α) (f : Int) : ∀ j, (uptoA mk f j).length ≤ j
  | 0 => Nat.le_refl _
  | j + 1 => by
    have ih := uptoA_len mk f j
    rw [uptoA]
    split
    · simp; omega
    · omega

theorem chN_step : ∀ n, n ≤ 16 → ∀ i, i ≤ 20 → chN n (i + 1) * (i + 1) = chN n i * (n - i) := by
  intro n hn i hi
  have h : ∀ n, n < 17 → ∀ i, i < 21 → chN n (i + 1) * (i + 1) = chN n i * (n - i) := by decide +kernel
  exact h n (by omega) i (by omega)

theorem chN_le : ∀ n, n ≤ 16 → ∀ i, i ≤ 21 → chN n i ≤ 12870 := by
  intro n hn i hi
  have h : ∀ n, n < 17 → ∀ i, i < 22 → chN n i ≤ 12870 := by decide +kernel
  exact h n (by omega) i (by omega)

theorem chN_big : ∀ n, n ≤ 16 → ∀ i, i ≤ 21 → n < i → chN n i = 0 := by
  intro n hn i hi
  have h : ∀ n, n < 17 → ∀ i, i < 22 → n < i → chN n i = 0 := by decide +kernel
  exact h n (by omega) i (by omega)

/-- One step of the program's product. -/
theorem chN_tdiv (n i : Nat) (hn : n ≤ 16) (hi : i ≤ 20) : ((chN n i : Int) * ((n : Int) - (i : Int))).tdiv ((i : Int) + 1) = (chN n (i + 1) : Int) := by
  have h := chN_step n hn i hi
  by_cases hle : i ≤ n
  · have e : (chN n i : Int) * ((n : Int) - (i : Int)) = (chN n (i + 1) : Int) * ((i : Int) + 1) := by
      have : ((n - i : Nat) : Int) = (n : Int) - (i : Int) := by omega
      rw [← this]
      have := congrArg (fun x : Nat => (x : Int)) h
      simp only [Int.natCast_mul, Int.natCast_add] at this
      simpa using this.symm
    rw [e]
    exact Int.mul_tdiv_cancel _ (by omega)
  · rw [chN_big n hn i (by omega) (by omega), chN_big n hn (i + 1) (by omega) (by omega)]
    simp

end Go.Proofs.Ytlfdpfkimggeoaa
