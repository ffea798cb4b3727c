/-
  Plain facts: the order of sets, by bits and by lists.
-/
import Derived.Test.YtlfdpfkimggeoaaComb
namespace Go.Proofs.Ytlfdpfkimggeoaa

/-- A number's lowest sixteen bits. -/
def cleanB (f : Int) : Nat := (f % 65536).toNat
theorem cleanB_lt (f : Int) : cleanB f < 65536 := by unfold cleanB; omega
theorem cleanB_nat (x : Nat) (h : x < 65536) : cleanB (x : Int) = x := by unfold cleanB; omega

theorem hasB_clean (f : Int) (i : Nat) (h : i < 16) : hasB f (i : Int) = (cleanB f).testBit i := by
  rw [Nat.testBit_eq_decide_div_mod_eq]
  have h1 : decide ((0 : Int) ≤ (i : Int)) = true := by simp
  have h2 : decide ((i : Int) < 16) = true := by simp; omega
  unfold hasB
  rw [h1, h2, Bool.true_and, Bool.true_and, Int.toNat_natCast]
  congr 1
  rw [eq_iff_iff]
  unfold cleanB
  rcases (by omega : i = 0 ∨ i = 1 ∨ i = 2 ∨ i = 3 ∨ i = 4 ∨ i = 5 ∨ i = 6 ∨ i = 7 ∨ i = 8 ∨ i = 9 ∨ i = 10 ∨ i = 11 ∨ i = 12 ∨ i = 13 ∨ i = 14 ∨ i = 15) with
    rfl | rfl | rfl | rfl | rfl | rfl | rfl | rfl | rfl | rfl | rfl | rfl | rfl | rfl | rfl | rfl <;> simp only [Nat.reducePow, Int.reducePow] <;> omega

/-- The places of n bits that are 1, from k on. -/
def bitsL : Nat → Nat → Nat → List Nat
  | 0, _, _ => []
  | n + 1, k, A => if A % 2 = 1 then k :: bitsL n (k + 1) (A / 2) else bitsL n (k + 1) (A / 2)

theorem bitsL_range' : ∀ (n k A : Nat), bitsL n k A = (List.range' k n).filter fun i => A.testBit (i - k)
  | 0, _, _ => rfl
  | n + 1, k, A => by
    have h : (List.range' (k + 1) n).filter (fun i => (A / 2).testBit (i - (k + 1))) = (List.range' (k + 1) n).filter (fun i => A.testBit (i - k)) := by
      refine List.filter_congr fun i hi => ?_
      have := (List.mem_range'_1.1 hi).1
      rw [show i - k = (i - (k + 1)) + 1 from by omega, Nat.testBit_succ]
    rw [bitsL, bitsL_range' n (k + 1) (A / 2), h, List.range'_succ, List.filter_cons]
    have e : A.testBit (k - k) = decide (A % 2 = 1) := by rw [Nat.sub_self, Nat.testBit_zero]
    rw [e]
    by_cases hA : A % 2 = 1 <;> simp [hA]

theorem setB_bitsL (f : Int) : setB f = bitsL 16 0 (cleanB f) := by
  rw [bitsL_range', setB, uptoB, ← List.range_eq_range']
  exact List.filter_congr fun i hi => by rw [hasB_clean f i (List.mem_range.1 hi), Nat.sub_zero]

theorem bitsL_ge : ∀ (n k A i : Nat), i ∈ bitsL n k A → k ≤ i ∧ i < k + n
  | 0, _, _, _, h => by simp [bitsL] at h
  | n + 1, k, A, i, h => by
    rw [bitsL] at h
    by_cases hA : A % 2 = 1
    · rw [if_pos hA] at h
      rcases List.mem_cons.1 h with e | h
      · omega
      · have := bitsL_ge n (k + 1) (A / 2) i h; omega
    · rw [if_neg hA] at h
      have := bitsL_ge n (k + 1) (A / 2) i h; omega

/-- Is a list ahead of another one of the same length? -/
def lexL : List Nat → List Nat → Bool
  | x :: xs, y :: ys => if x ≠ y then decide (x < y) else lexL xs ys
  | _, _ => false

/-- Which of two numbers has the lowest bit that but one of both has? -/
def cmpB : Nat → Nat → Nat → Bool
  | 0, _, _ => false
  | n + 1, A, B => if A % 2 ≠ B % 2 then decide (A % 2 = 1) else cmpB n (A / 2) (B / 2)

theorem cmpB_lexL : ∀ (n k A B : Nat), (bitsL n k A).length = (bitsL n k B).length → cmpB n A B = lexL (bitsL n k A) (bitsL n k B)
  | 0, _, _, _, _ => rfl
  | n + 1, k, A, B, h => by
    rw [cmpB]
    rw [bitsL, bitsL] at h ⊢
    by_cases hA : A % 2 = 1 <;> by_cases hB : B % 2 = 1
    · rw [if_pos hA, if_pos hB] at h ⊢
      rw [if_neg (by omega), cmpB_lexL n (k + 1) (A / 2) (B / 2) (by simpa using h)]
      simp [lexL]
    · rw [if_pos hA, if_neg hB] at h ⊢
      rw [if_pos (by omega)]
      cases hl : bitsL n (k + 1) (B / 2) with
      | nil => rw [hl] at h; simp at h
      | cons y ys =>
        have := bitsL_ge n (k + 1) (B / 2) y (by rw [hl]; simp)
        simp only [lexL, hA]
        rw [if_pos (by omega)]
        simp; omega
    · rw [if_neg hA, if_pos hB] at h ⊢
      rw [if_pos (by omega)]
      cases hl : bitsL n (k + 1) (A / 2) with
      | nil => rw [hl] at h; simp at h
      | cons y ys =>
        have := bitsL_ge n (k + 1) (A / 2) y (by rw [hl]; simp)
        simp only [lexL]
        rw [if_pos (by omega)]
        simp; omega
    · rw [if_neg hA, if_neg hB] at h ⊢
      rw [if_neg (by omega), cmpB_lexL n (k + 1) (A / 2) (B / 2) h]

theorem testBit_div2 (x i : Nat) : (x / 2).testBit i = x.testBit (i + 1) := (Nat.testBit_succ ..).symm

theorem half_pred (x : Nat) (h : x % 2 = 0) (_ : x ≠ 0) : (x - 1) / 2 = x / 2 - 1 := by omega
theorem odd_of {x a b : Nat} (h : decide (x % 2 = 1) = (decide (a % 2 = 1) ^^ decide (b % 2 = 1))) (hp : a % 2 ≠ b % 2) : x % 2 = 1 := by
  rcases (by omega : a % 2 = 1 ∧ b % 2 = 0 ∨ a % 2 = 0 ∧ b % 2 = 1) with ⟨h1, h2⟩ | ⟨h1, h2⟩ <;> rw [h1, h2] at h <;> simpa using h
theorem even_of {x a b : Nat} (h : decide (x % 2 = 1) = (decide (a % 2 = 1) ^^ decide (b % 2 = 1))) (hp : a % 2 = b % 2) : x % 2 = 0 := by
  rw [hp] at h
  simp at h
  omega
theorem half_pred_odd {x : Nat} (h : x % 2 = 1) : (x - 1) / 2 = x / 2 ∧ (x - 1) % 2 = 0 ∧ x ≠ 0 := by omega
theorem ne_of_half {x : Nat} (h : x / 2 ≠ 0) : x ≠ 0 := by omega
theorem half_ne {x : Nat} (h : x % 2 = 0) (h0 : x ≠ 0) : x / 2 ≠ 0 := by omega

/-- The lowest bit of a number is the one that it loses where one is taken. -/
theorem cmpB_bits : ∀ (n A B : Nat), A < 2 ^ n → B < 2 ^ n → (cmpB n A B = true ↔ ∃ i, A.testBit i = true ∧ (A ^^^ B).testBit i = true ∧ ((A ^^^ B) - 1).testBit i = false ∧ A ^^^ B ≠ 0)
  | 0, A, B, hA, hB => by
    obtain rfl : A = 0 := by omega
    obtain rfl : B = 0 := by omega
    simp [cmpB]
  | n + 1, A, B, hA, hB => by
    have ih := cmpB_bits n (A / 2) (B / 2) (by rw [Nat.pow_succ] at hA; omega) (by rw [Nat.pow_succ] at hB; omega)
    have hx : (A ^^^ B) / 2 = A / 2 ^^^ B / 2 := Nat.xor_div_two
    have h0 : (A ^^^ B).testBit 0 = (A.testBit 0 ^^ B.testBit 0) := Nat.testBit_xor ..
    rw [Nat.testBit_zero, Nat.testBit_zero, Nat.testBit_zero] at h0
    rw [cmpB]
    by_cases hp : A % 2 ≠ B % 2
    · have hodd := odd_of h0 hp
      obtain ⟨hq1, hq2, hq3⟩ := half_pred_odd hodd
      rw [if_pos hp]
      constructor
      · intro h
        refine ⟨0, by rw [Nat.testBit_zero]; exact h, by rw [Nat.testBit_zero]; simpa using hodd, by rw [Nat.testBit_zero, hq2]; rfl, hq3⟩
      · rintro ⟨i, h1, h2, h3, h4⟩
        cases i with
        | zero => rw [Nat.testBit_zero] at h1; exact h1
        | succ j =>
          rw [← testBit_div2] at h2 h3
          rw [hq1, h2] at h3
          cases h3
    · have heven := even_of h0 (Decidable.not_not.1 hp)
      rw [if_neg hp, ih]
      constructor
      · rintro ⟨i, h1, h2, h3, h4⟩
        rw [← hx] at h2 h3 h4
        refine ⟨i + 1, by rwa [← testBit_div2], by rwa [← testBit_div2], ?_, ne_of_half h4⟩
        rw [← testBit_div2, half_pred _ heven (ne_of_half h4)]
        exact h3
      · rintro ⟨i, h1, h2, h3, h4⟩
        cases i with
        | zero => rw [Nat.testBit_zero] at h2; simp at h2; omega
        | succ j =>
          rw [← testBit_div2] at h1 h2 h3
          have hn := half_ne heven h4
          rw [half_pred _ heven h4, hx] at h3
          rw [hx] at h2 hn
          exact ⟨j, h1, h2, h3, hn⟩

/-- Is a set ahead of another one? -/
def beforeB (a b : Int) : Bool :=
  if (setB a).length ≠ (setB b).length then decide ((setB a).length < (setB b).length) else lexL (setB a) (setB b)

end Go.Proofs.Ytlfdpfkimggeoaa
