/-
  Plain facts: places of sets, by their lists of links.
-/
import Derived.Test.YtlfdpfkimggeoaaRankM
namespace Go.Proofs.Ytlfdpfkimggeoaa

/-- The lists of s rising links among rem from link on, in order. -/
def combL : Nat → Nat → Nat → List (List Nat)
  | _, 0, _ => [[]]
  | 0, _ + 1, _ => []
  | rem + 1, s + 1, link => (combL rem s (link + 1)).map (link :: ·) ++ combL rem (s + 1) (link + 1)
/-- The number of a list of links, from g on. -/
def setF (g : Nat) (l : List Nat) : Nat := l.foldl (fun a x => a + 2 ^ x) g

theorem combL_zero (rem link : Nat) : combL rem 0 link = [[]] := by cases rem <;> rfl
theorem combL_len : ∀ rem s link, (combL rem s link).length = chN rem s
  | 0, 0, _ => rfl
  | _ + 1, 0, _ => rfl
  | 0, _ + 1, _ => rfl
  | rem + 1, s + 1, link => by
    show ((combL rem s (link + 1)).map (link :: ·) ++ combL rem (s + 1) (link + 1)).length = chN rem s + chN rem (s + 1)
    rw [List.length_append, List.length_map, combL_len rem s, combL_len rem (s + 1)]

theorem combos_combL : ∀ rem s link g, combos rem s link g = (combL rem s link).map (setF g)
  | 0, 0, _, _ => rfl
  | _ + 1, 0, _, _ => rfl
  | 0, _ + 1, _, _ => rfl
  | rem + 1, s + 1, link, g => by
    show combos rem s (link + 1) (g + 2 ^ link) ++ combos rem (s + 1) (link + 1) g = ((combL rem s (link + 1)).map (link :: ·) ++ combL rem (s + 1) (link + 1)).map (setF g)
    rw [combos_combL rem s, combos_combL rem (s + 1), List.map_append, List.map_map]
    rfl

/-- What a list of these is like. -/
theorem combL_like : ∀ rem s link l, l ∈ combL rem s link → l.length = s ∧ l.Pairwise (· < ·) ∧ ∀ x ∈ l, link ≤ x ∧ x < link + rem
  | 0, 0, _, l, h => by obtain rfl : l = [] := by simpa [combL] using h
                        simp
  | _ + 1, 0, _, l, h => by obtain rfl : l = [] := by simpa [combL] using h
                            simp
  | 0, _ + 1, _, l, h => by simp [combL] at h
  | rem + 1, s + 1, link, l, h => by
    have h' : l ∈ (combL rem s (link + 1)).map (link :: ·) ++ combL rem (s + 1) (link + 1) := h
    rcases List.mem_append.1 h' with h1 | h1
    · obtain ⟨l', hl', rfl⟩ := List.mem_map.1 h1
      obtain ⟨a, b, c⟩ := combL_like rem s (link + 1) l' hl'
      refine ⟨by simp [a], List.pairwise_cons.2 ⟨fun x hx => by have := c x hx; omega, b⟩, fun x hx => ?_⟩
      rcases List.mem_cons.1 hx with rfl | hx
      · omega
      · have := c x hx; omega
    · obtain ⟨a, b, c⟩ := combL_like rem (s + 1) (link + 1) l h1
      exact ⟨a, b, fun x hx => by have := c x hx; omega⟩

/-- All of these are there. -/
theorem combL_all : ∀ rem s link l, l.length = s → l.Pairwise (· < ·) → (∀ x ∈ l, link ≤ x ∧ x < link + rem) → l ∈ combL rem s link
  | rem, 0, link, l, h, _, _ => by
    rw [combL_zero, List.eq_nil_of_length_eq_zero h]; simp
  | 0, s + 1, link, l, h, _, hb => by
    cases l with
    | nil => simp at h
    | cons x l => have := hb x (by simp); omega
  | rem + 1, s + 1, link, l, h, hp, hb => by
    show l ∈ (combL rem s (link + 1)).map (link :: ·) ++ combL rem (s + 1) (link + 1)
    cases l with
    | nil => simp at h
    | cons x l =>
      rw [List.pairwise_cons] at hp
      by_cases e : x = link
      · subst e
        refine List.mem_append.2 (.inl (List.mem_map.2 ⟨l, combL_all rem s (x + 1) l (by simpa using h) hp.2 (fun y hy => ?_), rfl⟩))
        have h1 := hp.1 y hy
        have h2 := hb y (by simp [hy])
        omega
      · have hx := hb x (by simp)
        refine List.mem_append.2 (.inr (combL_all rem (s + 1) (link + 1) (x :: l) h (List.pairwise_cons.2 hp) (fun y hy => ?_)))
        have h2 := hb y hy
        rcases List.mem_cons.1 hy with rfl | hy
        · omega
        · have h1 := hp.1 y hy; omega

/-- What stands earlier is ahead. -/
theorem combL_sorted : ∀ rem s link, (combL rem s link).Pairwise (fun a b => lexL a b = true)
  | 0, 0, _ => by simp [combL]
  | _ + 1, 0, _ => by simp [combL]
  | 0, _ + 1, _ => by simp [combL]
  | rem + 1, s + 1, link => by
    show ((combL rem s (link + 1)).map (link :: ·) ++ combL rem (s + 1) (link + 1)).Pairwise (fun a b => lexL a b = true)
    refine List.pairwise_append.2 ⟨?_, combL_sorted rem (s + 1) (link + 1), ?_⟩
    · refine List.pairwise_map.2 ((combL_sorted rem s (link + 1)).imp fun {a b} h => ?_)
      simpa [lexL] using h
    · intro a ha b hb
      obtain ⟨a', _, rfl⟩ := List.mem_map.1 ha
      obtain ⟨h1, _, h3⟩ := combL_like rem (s + 1) (link + 1) b hb
      cases b with
      | nil => simp at h1
      | cons y b =>
        have := h3 y (by simp)
        simp only [lexL]
        rw [if_pos (by omega)]
        exact decide_eq_true (by omega)

/-- The place of a list, link by link, is its place in order. -/
theorem foldR_comb : ∀ (rem s link n nx p k : Nat) (l : List Nat), n = link + rem → nx ≤ link → (combL rem (s + 1) link)[k]? = some l →
    (l.foldl (stepR n) (s + 1, nx, p)).2.2 = p + gapS n s nx (link - nx) + k
  | 0, s, link, n, nx, p, k, l, _, _, h => by simp [combL] at h
  | rem + 1, s, link, n, nx, p, k, l, hn, hx, h => by
    have h' : ((combL rem s (link + 1)).map (link :: ·) ++ combL rem (s + 1) (link + 1))[k]? = some l := h
    by_cases hk : k < chN rem s
    · rw [List.getElem?_append_left (by rw [List.length_map, combL_len]; exact hk), List.getElem?_map] at h'
      obtain ⟨l', hl', rfl⟩ := Option.map_eq_some_iff.1 h'
      rw [List.foldl_cons]
      have e : stepR n (s + 1, nx, p) link = (s, link + 1, p + gapS n s nx (link - nx)) := rfl
      rw [e]
      cases s with
      | zero =>
        rw [combL_zero] at hl'
        have hk0 : k < 1 := by have : chN rem 0 = 1 := by cases rem <;> rfl
                               omega
        obtain rfl : k = 0 := by omega
        obtain rfl : l' = [] := by simpa using hl'.symm
        rfl
      | succ s =>
        rw [foldR_comb rem s (link + 1) n (link + 1) _ k l' (by omega) (Nat.le_refl _) hl', Nat.sub_self]
        rfl
    · rw [List.getElem?_append_right (by rw [List.length_map, combL_len]; omega), List.length_map, combL_len] at h'
      rw [foldR_comb rem s (link + 1) n nx p (k - chN rem s) l (by omega) (by omega) h']
      have e : link + 1 - nx = (link - nx) + 1 := by omega
      rw [e]
      show p + (gapS n s nx (link - nx) + chN (n - (nx + (link - nx)) - 1) s) + (k - chN rem s) = _
      rw [show n - (nx + (link - nx)) - 1 = rem from by omega]
      omega

theorem rankL_comb (n s k : Nat) (l : List Nat) (h : (combL n s 0)[k]? = some l) : rankL n l = sumC n s + k := by
  have hl := (combL_like n s 0 l (List.mem_of_getElem? h)).1
  unfold rankL runR
  rw [hl]
  cases s with
  | zero =>
    rw [combL_zero] at h
    cases k with
    | zero => obtain rfl : l = [] := by simpa using h.symm
              rfl
    | succ k => simp at h
  | succ s =>
    rw [foldR_comb n s 0 n 0 (sumC n (s + 1)) k l (by omega) (Nat.le_refl _) h, Nat.sub_self]
    rfl

/-- Rising lists of the same links are the same. -/
theorem rising_ext : ∀ (a b : List Nat), a.Pairwise (· < ·) → b.Pairwise (· < ·) → (∀ i, i ∈ a ↔ i ∈ b) → a = b
  | [], [], _, _, _ => rfl
  | [], y :: b, _, _, h => by have := (h y).2 (by simp); simp at this
  | x :: a, [], _, _, h => by have := (h x).1 (by simp); simp at this
  | x :: a, y :: b, ha, hb, h => by
    rw [List.pairwise_cons] at ha hb
    have e : x = y := by
      have h1 := (h x).1 (by simp)
      have h2 := (h y).2 (by simp)
      rcases List.mem_cons.1 h1 with e | h1
      · exact e
      · rcases List.mem_cons.1 h2 with e | h2
        · exact e.symm
        · have := ha.1 y h2; have := hb.1 x h1; omega
    subst e
    congr 1
    refine rising_ext a b ha.2 hb.2 fun i => ⟨fun hi => ?_, fun hi => ?_⟩
    · rcases List.mem_cons.1 ((h i).1 (by simp [hi])) with e | h'
      · have := ha.1 i hi; omega
      · exact h'
    · rcases List.mem_cons.1 ((h i).2 (by simp [hi])) with e | h'
      · have := hb.1 i hi; omega
      · exact h'

theorem setF_bits : ∀ (l : List Nat) (g k : Nat), g < 2 ^ k → l.Pairwise (· < ·) → (∀ x ∈ l, k ≤ x) → ∀ i, (setF g l).testBit i = (g.testBit i || decide (i ∈ l))
  | [], g, k, _, _, _, i => by simp [setF]
  | x :: l, g, k, hg, hp, hb, i => by
    rw [List.pairwise_cons] at hp
    have hgx : g < 2 ^ x := Nat.lt_of_lt_of_le hg (Nat.pow_le_pow_right (by omega) (hb x (by simp)))
    have h1 : g + 2 ^ x < 2 ^ (x + 1) := by rw [Nat.pow_succ]; omega
    have ih := setF_bits l (g + 2 ^ x) (x + 1) h1 hp.2 (fun y hy => hp.1 y hy) i
    show (setF (g + 2 ^ x) l).testBit i = _
    rw [ih, ← add_or g x hgx, Nat.testBit_or, Nat.testBit_two_pow, Bool.or_assoc]
    congr 1
    by_cases e : x = i
    · subst e; simp
    · simp [e, Ne.symm e]
theorem setF_lt : ∀ (l : List Nat) (g k n : Nat), g < 2 ^ k → k ≤ n → l.Pairwise (· < ·) → (∀ x ∈ l, k ≤ x ∧ x < n) → setF g l < 2 ^ n
  | [], g, k, n, hg, hk, _, _ => Nat.lt_of_lt_of_le hg (Nat.pow_le_pow_right (by omega) hk)
  | x :: l, g, k, n, hg, _, hp, hb => by
    rw [List.pairwise_cons] at hp
    have hx := hb x (by simp)
    have hgx : g < 2 ^ x := Nat.lt_of_lt_of_le hg (Nat.pow_le_pow_right (by omega) hx.1)
    exact setF_lt l (g + 2 ^ x) (x + 1) n (by rw [Nat.pow_succ]; omega) (by omega) hp.2 (fun y hy => ⟨hp.1 y hy, (hb y (by simp [hy])).2⟩)

theorem mem_linksB (f : Int) (i : Nat) : i ∈ setB f ↔ i < 16 ∧ (cleanB f).testBit i = true := by
  unfold setB uptoB
  rw [List.mem_filter, List.mem_range]
  constructor
  · rintro ⟨h1, h2⟩; exact ⟨h1, by rwa [hasB_clean f i h1] at h2⟩
  · rintro ⟨h1, h2⟩; exact ⟨h1, by rwa [hasB_clean f i h1]⟩

/-- The links of a list's number are the list. -/
theorem linksB_setF (l : List Nat) (n : Nat) (hn : n ≤ 16) (hp : l.Pairwise (· < ·)) (hb : ∀ x ∈ l, x < n) : setB ((setF 0 l : Nat) : Int) = l := by
  have hlt : setF 0 l < 2 ^ n := setF_lt l 0 0 n (by omega) (by omega) hp (fun x hx => ⟨by omega, hb x hx⟩)
  have h16 : (2 : Nat) ^ n ≤ 65536 := Nat.pow_le_pow_right (n := 2) (by omega) hn
  refine rising_ext _ _ (linksB_rising _) hp fun i => ?_
  rw [mem_linksB, cleanB_nat _ (by omega), setF_bits l 0 0 (by omega) hp (fun x _ => by omega)]
  simp
  intro hi
  have := hb i hi
  omega
/-- The number of a set's links is the set. -/
theorem setF_linksB (x : Nat) (h : x < 65536) : setF 0 (setB (x : Int)) = x := by
  apply Nat.eq_of_testBit_eq
  intro i
  rw [setF_bits _ 0 0 (by omega) (linksB_rising _) (fun x _ => by omega)]
  simp only [Nat.zero_testBit, Bool.false_or]
  have := mem_linksB (x : Int) i
  rw [cleanB_nat x h] at this
  by_cases hi : i < 16
  · cases hb : x.testBit i with
    | true => exact decide_eq_true (this.2 ⟨hi, hb⟩)
    | false => exact decide_eq_false (fun hm => by have := (this.1 hm).2; rw [hb] at this; cases this)
  · rw [Nat.testBit_lt_two_pow (Nat.lt_of_lt_of_le h (by have := Nat.pow_le_pow_right (n := 2) (by omega) (Nat.le_of_not_lt hi); omega))]
    exact decide_eq_false (fun hm => hi (this.1 hm).1)

end Go.Proofs.Ytlfdpfkimggeoaa
