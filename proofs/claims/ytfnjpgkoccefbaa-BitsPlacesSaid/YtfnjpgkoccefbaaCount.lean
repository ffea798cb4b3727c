/-
  Plain facts: sets counted one by one.
-/
import Derived.Test.YtfnjpgkoccefbaaSets
import Derived.Test.YtfnjpgkoccefbaaPlaceB
namespace Go.Proofs.Ytfnjpgkoccefbaa

theorem sumC_rec (n : Nat) : ∀ k, sumC (n + 1) (k + 1) = sumC n (k + 1) + sumC n k
  | 0 => by cases n <;> rfl
  | k + 1 => by
    have ih := sumC_rec n k
    show sumC (n + 1) (k + 1) + chN (n + 1) (k + 1) = (sumC n (k + 1) + chN n (k + 1)) + (sumC n k + chN n k)
    rw [ih]
    show _ + (chN n k + chN n (k + 1)) = _
    omega
/-- Beyond all links there is nothing more to count. -/
theorem chN_zero : ∀ n k, n < k → chN n k = 0
  | 0, _ + 1, _ => rfl
  | n + 1, k + 1, h => by show chN n k + chN n (k + 1) = 0; rw [chN_zero n k (by omega), chN_zero n (k + 1) (by omega)]
theorem sumC_all (n : Nat) : ∀ m, sumC n (n + 1 + m) = sumC n (n + 1)
  | 0 => rfl
  | m + 1 => by
    show sumC n (n + 1 + m) + chN n (n + 1 + m) = _
    rw [chN_zero n _ (by omega), sumC_all n m]; rfl
theorem sumC_min (n m : Nat) : sumC n (min m n + 1) = sumC n (m + 1) := by
  by_cases h : m ≤ n
  · rw [Nat.min_eq_left h]
  · rw [Nat.min_eq_right (by omega)]
    have := sumC_all n (m - n)
    rw [← this]; congr 1; omega

theorem range_double (N : Nat) : List.range (N + N) = List.range N ++ (List.range N).map (N + ·) := by
  rw [List.range_add]

theorem szB_high (n g : Nat) (hn : n < 16) (hg : g < 2 ^ n) : szB (2 ^ n + g) = szB g + 1 := by
  have hp := Nat.pow_le_pow_right (n := 2) (by omega) (show n ≤ 15 by omega)
  have h := szB_more g n (by omega) hn
  rw [Nat.testBit_lt_two_pow hg] at h
  rw [Nat.add_comm, ← add_or g n hg]
  simpa using h

/-- How many sets of n links have at most m. -/
theorem count_sets : ∀ n, n ≤ 16 → ∀ m, (List.range (2 ^ n)).countP (fun f => decide (szB f ≤ m)) = sumC n (m + 1)
  | 0, _, m => by
    have e : sumC 0 (m + 1) = 1 := by have := sumC_all 0 m; rw [show 0 + 1 + m = m + 1 from by omega] at this; rw [this]; rfl
    have h0 : szB 0 = 0 := by decide +kernel
    rw [e]
    simp [h0]
  | n + 1, hn, m => by
    have ih := count_sets n (by omega)
    rw [show 2 ^ (n + 1) = 2 ^ n + 2 ^ n from by rw [Nat.pow_succ]; omega, range_double, List.countP_append, ih m, List.countP_map]
    have e : (List.range (2 ^ n)).countP ((fun f => decide (szB f ≤ m)) ∘ (2 ^ n + ·)) = sumC n m := by
      cases m with
      | zero =>
        rw [show sumC n 0 = 0 from rfl, List.countP_eq_zero]
        intro g hg
        simp only [Function.comp_apply]
        rw [szB_high n g (by omega) (List.mem_range.1 hg)]
        simp
      | succ m =>
        rw [← ih m]
        refine List.countP_congr fun g hg => ?_
        simp only [Function.comp_apply]
        rw [szB_high n g (by omega) (List.mem_range.1 hg)]
        simp
    rw [e, sumC_rec]

/-- Counted by the document's loop. -/
def cntLe (m : Int) : Nat → Nat
  | 0 => 0
  | f + 1 => cntLe m f + if (szB f : Int) ≤ m then 1 else 0
theorem cntLe_countP (m : Nat) : ∀ k, cntLe (m : Int) k = (List.range k).countP fun f => decide (szB f ≤ m)
  | 0 => rfl
  | k + 1 => by
    rw [cntLe, cntLe_countP m k, List.range_succ, List.countP_append]
    congr 1
    simp [List.countP_cons]
theorem cntLe_le (m : Int) : ∀ k, cntLe m k ≤ k
  | 0 => Nat.le_refl _
  | k + 1 => by have := cntLe_le m k; rw [cntLe]; split <;> omega
theorem cntLe_all (n : Nat) (m : Int) (hn : n ≤ 16) (hm : 0 ≤ m) : cntLe m (2 ^ n) = countB (n : Int) m := by
  obtain ⟨m, rfl⟩ := Int.eq_ofNat_of_zero_le hm
  rw [cntLe_countP, count_sets n hn m, countB_nat n m hn, sumC_min]

/-- How many sets are ahead, by the document's loop. -/
def cntBe (f : Int) : Nat → Nat
  | 0 => 0
  | g + 1 => cntBe f g + if beforeB (g : Int) f = true then 1 else 0
theorem cntBe_countP (f : Int) : ∀ k, cntBe f k = (List.range k).countP fun g : Nat => beforeB (g : Int) f
  | 0 => rfl
  | k + 1 => by
    rw [cntBe, cntBe_countP f k, List.range_succ, List.countP_append]
    congr 1
    simp [List.countP_cons]
theorem cntBe_le (f : Int) : ∀ k, cntBe f k ≤ k
  | 0 => Nat.le_refl _
  | k + 1 => by have := cntBe_le f k; rw [cntBe]; split <;> omega

theorem sumC_full : ∀ n, n ≤ 16 → sumC n (n + 1) = 2 ^ n := by
  intro n hn
  have h : ∀ n, n < 17 → sumC n (n + 1) = 2 ^ n := by decide +kernel
  exact h n (by omega)

/-- A list of numbers below N, each once, N of them, is all of them. -/
theorem count_nodup (l : List Nat) (h : l.Nodup) (a : Nat) : l.count a = if a ∈ l then 1 else 0 := by
  by_cases ha : a ∈ l
  · rw [if_pos ha]
    have := List.nodup_iff_count.1 h a
    have := List.count_pos_iff.2 ha
    omega
  · rw [if_neg ha]; exact List.count_eq_zero_of_not_mem ha

theorem countP_below (r : Nat) : ∀ N, (List.range N).countP (fun k => decide (k < r)) = min r N
  | 0 => by simp
  | N + 1 => by
    rw [List.range_succ, List.countP_append, countP_below r N]
    by_cases h : N < r
    · simp [h]; omega
    · simp [h]; omega

/-- The set at a place among all sets of n links. -/
def atN (n k : Nat) : Nat := (atB (n : Int) (n : Int) (k : Int)).toNat

theorem count_full (n : Nat) (hn : n ≤ 16) : countB (n : Int) (n : Int) = 2 ^ n := by rw [countB_nat n n hn, Nat.min_self, sumC_full n hn]

theorem atN_is (n k : Nat) (hn : n ≤ 16) (hk : k < 2 ^ n) : ∃ s j l, AtIs n n k s j l (atN n k) := by
  obtain ⟨s, j, l, x, h⟩ := at_is n n k hn (by rw [count_full n hn]; exact hk)
  refine ⟨s, j, l, ?_⟩
  have e : atN n k = x := by unfold atN; rw [h.tells]; rfl
  rw [e]; exact h

theorem atN_perm (n : Nat) (hn : n ≤ 16) : ((List.range (2 ^ n)).map (atN n)).Perm (List.range (2 ^ n)) := by
  have hd : ((List.range (2 ^ n)).map (atN n)).Nodup := by
    refine List.pairwise_map.2 ?_
    refine (List.nodup_range (n := 2 ^ n)).imp_of_mem ?_
    intro a b ha hb hne e
    obtain ⟨s, j, l, h⟩ := atN_is n a hn (List.mem_range.1 ha)
    obtain ⟨s', j', l', h'⟩ := atN_is n b hn (List.mem_range.1 hb)
    exact hne ((h.same h').1 e)
  rw [List.perm_iff_count]
  intro y
  rw [count_nodup _ hd, count_nodup _ List.nodup_range]
  congr 1
  rw [eq_iff_iff, List.mem_range, List.mem_map]
  constructor
  · rintro ⟨k, hk, rfl⟩
    obtain ⟨s, j, l, h⟩ := atN_is n k hn (List.mem_range.1 hk)
    exact h.lt
  · intro hy
    obtain ⟨s, j, h, hk⟩ := rank_is n n y hn hy (linksB_short y n hn hy)
    rw [count_full n hn] at hk
    exact ⟨_, List.mem_range.2 hk, by unfold atN; rw [h.tells]; rfl⟩

theorem cntBe_all (n m f : Nat) (hn : n ≤ 16) (hf : f < 2 ^ n) (hm : (linksB (f : Int)).length ≤ m) : (cntBe (f : Int) (2 ^ n) : Int) = rankB (n : Int) (m : Int) (f : Int) := by
  obtain ⟨s, j, h, hk⟩ := rank_is n m f hn hf hm
  obtain ⟨s', j', h', hk'⟩ := rank_is n n f hn hf (linksB_short f n hn hf)
  rw [h.rank hn]
  have e : sumC n s + j = sumC n s' + j' := by
    have h1 := rankL_comb n s j _ h.list
    have h2 := rankL_comb n s' j' _ h'.list
    omega
  rw [e, cntBe_countP, ← List.Perm.countP_eq _ (atN_perm n hn), List.countP_map]
  have e2 : (List.range (2 ^ n)).countP ((fun g : Nat => beforeB (g : Int) (f : Int)) ∘ atN n) = (List.range (2 ^ n)).countP fun k => decide (k < sumC n s' + j') := by
    refine List.countP_congr fun k hk => ?_
    obtain ⟨s2, j2, l2, h2⟩ := atN_is n k hn (List.mem_range.1 hk)
    simp only [Function.comp_apply]
    rw [h2.before h']
  rw [count_full n hn] at hk'
  rw [e2, countP_below, Nat.min_eq_left (by omega)]

end Go.Proofs.Ytfnjpgkoccefbaa
