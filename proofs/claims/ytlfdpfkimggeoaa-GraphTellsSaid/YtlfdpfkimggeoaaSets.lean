/-
  Plain facts: sets and their lists; how many links two sets have, alone and together.
-/
import Derived.Test.YtlfdpfkimggeoaaPlace
import Derived.Test.YtlfdpfkimggeoaaOf
namespace Go.Proofs.Ytlfdpfkimggeoaa

theorem foldOf_bits : ∀ (l : List Int) (f i : Nat), (l.foldl (fun f x => if 0 ≤ x ∧ x < 16 then f ||| 2 ^ x.toNat else f) f).testBit i = (f.testBit i || decide (i < 16 ∧ (i : Int) ∈ l))
  | [], f, i => by simp
  | x :: l, f, i => by
    rw [List.foldl_cons, foldOf_bits l _ i]
    by_cases hx : 0 ≤ x ∧ x < 16
    · rw [if_pos hx, Nat.testBit_or, Nat.testBit_two_pow, Bool.or_assoc]
      congr 1
      rw [Bool.eq_iff_iff]
      simp only [Bool.or_eq_true, decide_eq_true_eq, List.mem_cons]
      constructor
      · rintro (e | ⟨h1, h2⟩)
        · exact ⟨by omega, .inl (by omega)⟩
        · exact ⟨h1, .inr h2⟩
      · rintro ⟨h1, h2 | h2⟩
        · exact .inl (by omega)
        · exact .inr ⟨h1, h2⟩
    · rw [if_neg hx]
      congr 1
      rw [Bool.eq_iff_iff]
      simp only [decide_eq_true_eq, List.mem_cons]
      constructor
      · rintro ⟨h1, h2⟩; exact ⟨h1, .inr h2⟩
      · rintro ⟨h1, h2 | h2⟩
        · omega
        · exact ⟨h1, h2⟩
theorem ofB_bits (l : List Int) (i : Nat) : (ofB l).testBit i = decide (i < 16 ∧ (i : Int) ∈ l) := by
  unfold ofB; rw [foldOf_bits]; simp

theorem testBit_big (x i : Nat) (hx : x < 65536) (hi : ¬ i < 16) : x.testBit i = false :=
  Nat.testBit_lt_two_pow (Nat.lt_of_lt_of_le hx (by have := Nat.pow_le_pow_right (n := 2) (by omega) (Nat.le_of_not_lt hi); omega))

/-- A set is what its list is. -/
theorem ofB_links (x : Nat) (hx : x < 65536) : ofB ((setB (x : Int)).map fun i : Nat => (i : Int)) = x := by
  apply Nat.eq_of_testBit_eq
  intro i
  have hm := mem_linksB (x : Int) i
  rw [cleanB_nat x hx] at hm
  rw [ofB_bits]
  by_cases hi : i < 16
  · cases hb : x.testBit i with
    | true => exact decide_eq_true ⟨hi, List.mem_map.2 ⟨i, hm.2 ⟨hi, hb⟩, rfl⟩⟩
    | false =>
      refine decide_eq_false ?_
      rintro ⟨_, h⟩
      obtain ⟨j, hj, e⟩ := List.mem_map.1 h
      obtain rfl : j = i := by omega
      have := (hm.1 hj).2
      rw [hb] at this; cases this
  · rw [testBit_big x i hx hi]
    exact decide_eq_false (fun h => hi h.1)
theorem ofB_more (x i : Nat) (hx : x < 65536) (hi : i < 16) : ofB (((setB (x : Int)).map fun i : Nat => (i : Int)) ++ [(i : Int)]) = x ||| 2 ^ i := by
  rw [ofB_snoc_yes _ _ (by omega), ofB_links x hx, Int.toNat_natCast]

/-- How many links a set has. -/
def szB (x : Nat) : Nat := (setB (x : Int)).length
theorem szB_count (x : Nat) (hx : x < 65536) : szB x = (List.range 16).countP fun i => x.testBit i := by
  unfold szB setB uptoB
  rw [List.countP_eq_length_filter]
  congr 1
  exact List.filter_congr fun i hi => by rw [hasB_clean _ _ (List.mem_range.1 hi), cleanB_nat x hx]

theorem countP_or_and (p q : Nat → Bool) : ∀ l : List Nat, l.countP (fun i => p i || q i) + l.countP (fun i => p i && q i) = l.countP p + l.countP q
  | [] => rfl
  | x :: l => by
    have ih := countP_or_and p q l
    rw [List.countP_cons, List.countP_cons, List.countP_cons, List.countP_cons]
    cases p x <;> cases q x <;> simp <;> omega
theorem countP_not (p : Nat → Bool) : ∀ l : List Nat, l.countP (fun i => !p i) + l.countP p = l.length
  | [] => rfl
  | x :: l => by
    have ih := countP_not p l
    rw [List.countP_cons, List.countP_cons, List.length_cons]
    cases p x <;> simp <;> omega

theorem sz_le (x : Nat) : szB x ≤ 16 := uptoB_len _ 16
theorem and_lt16 (x y : Nat) (hx : x < 65536) : x &&& y < 65536 := Nat.lt_of_le_of_lt Nat.and_le_left hx
theorem or_lt16 (x y : Nat) (hx : x < 65536) (hy : y < 65536) : x ||| y < 65536 := Nat.or_lt_two_pow (n := 16) hx hy
theorem xor_lt16 (x y : Nat) (hx : x < 65536) (hy : y < 65536) : x ^^^ y < 65536 := Nat.xor_lt_two_pow (n := 16) hx hy

theorem szB_and (x y : Nat) (hx : x < 65536) : szB (x &&& y) = (List.range 16).countP fun i => x.testBit i && y.testBit i := by
  rw [szB_count _ (and_lt16 x y hx)]
  exact List.countP_congr fun i _ => by rw [Nat.testBit_and]
theorem szB_or (x y : Nat) (hx : x < 65536) (hy : y < 65536) : szB (x ||| y) + szB (x &&& y) = szB x + szB y := by
  have e : ((List.range 16).countP fun i => (x ||| y).testBit i) = (List.range 16).countP fun i => x.testBit i || y.testBit i :=
    List.countP_congr fun i _ => by rw [Nat.testBit_or]
  have h := countP_or_and (fun i => x.testBit i) (fun i => y.testBit i) (List.range 16)
  rw [szB_and x y hx, szB_count _ (or_lt16 x y hx hy), szB_count x hx, szB_count y hy, e]
  exact h
theorem szB_not (x : Nat) (hx : x < 65536) : szB (x ^^^ 65535) + szB x = 16 := by
  have e : ((List.range 16).countP fun i => (x ^^^ 65535).testBit i) = (List.range 16).countP fun i => !x.testBit i := by
    refine List.countP_congr fun i hi => ?_
    rw [Nat.testBit_xor, show (65535 : Nat) = 2 ^ 16 - 1 from rfl, Nat.testBit_two_pow_sub_one]
    simp [List.mem_range.1 hi]
  have h := countP_not (fun i => x.testBit i) (List.range 16)
  rw [szB_count _ (xor_lt16 x 65535 hx (by omega)), szB_count x hx, e]
  exact h

theorem szB_more (x i : Nat) (hx : x < 65536) (hi : i < 16) : szB (x ||| 2 ^ i) = szB x + (if x.testBit i then 0 else 1) := by
  have hp : 2 ^ i < 65536 := by have := Nat.pow_lt_pow_right (a := 2) (by omega) hi; omega
  have h := szB_or x (2 ^ i) hx hp
  have h1 : ∀ i, i < 16 → szB (2 ^ i) = 1 := by decide +kernel
  have h2 : szB (x &&& 2 ^ i) = if x.testBit i then 1 else 0 := by
    have e : x &&& 2 ^ i = if x.testBit i then 2 ^ i else 0 := by
      apply Nat.eq_of_testBit_eq
      intro j
      rw [Nat.testBit_and, Nat.testBit_two_pow]
      by_cases hij : i = j
      · subst hij; cases hb : x.testBit i <;> simp
      · cases x.testBit i <;> simp [hij]
    rw [e]
    cases x.testBit i
    · have : szB 0 = 0 := by decide +kernel
      simpa using this
    · simpa using h1 i hi
  rw [h1 i hi, h2] at h
  cases hb : x.testBit i <;> rw [hb] at h <;> simp at h ⊢ <;> omega

/-- How many of the first links are in both sets. -/
def bothB (x y : Nat) : Nat → Nat
  | 0 => 0
  | k + 1 => bothB x y k + if x.testBit k && y.testBit k then 1 else 0
theorem bothB_count (x y : Nat) : ∀ k, bothB x y k = (List.range k).countP fun i => x.testBit i && y.testBit i
  | 0 => rfl
  | k + 1 => by
    rw [bothB, bothB_count x y k, List.range_succ, List.countP_append]
    congr 1
    simp [List.countP_cons]
theorem bothB_le (x y : Nat) : ∀ k, bothB x y k ≤ k
  | 0 => Nat.le_refl _
  | k + 1 => by have := bothB_le x y k; rw [bothB]; split <;> omega

theorem hasB_nat (x i : Nat) (hx : x < 65536) (hi : i < 16) : hasB (x : Int) (i : Int) = x.testBit i := by rw [hasB_clean _ _ hi, cleanB_nat x hx]

end Go.Proofs.Ytlfdpfkimggeoaa
