/-
  Plain facts: At and Rank undo each other; what stands earlier is ahead.
-/
import Derived.Test.YtfnjpgkoccefbaaPlace
import Derived.Test.YtfnjpgkoccefbaaRankB
namespace Go.Proofs.Ytfnjpgkoccefbaa

theorem sumC_mono (n : Nat) {a b : Nat} (h : a ≤ b) : sumC n a ≤ sumC n b := by
  induction b with
  | zero => rw [show a = 0 from by omega]; exact Nat.le_refl _
  | succ b ih =>
    by_cases e : a = b + 1
    · subst e; exact Nat.le_refl _
    · exact Nat.le_trans (ih (by omega)) (Nat.le_add_right _ _)

theorem place_split (n : Nat) : ∀ K k, k < sumC n K → ∃ s j, s < K ∧ j < chN n s ∧ k = sumC n s + j
  | 0, k, h => by simp [sumC] at h
  | K + 1, k, h => by
    by_cases hk : k < sumC n K
    · obtain ⟨s, j, h1, h2, h3⟩ := place_split n K k hk
      exact ⟨s, j, by omega, h2, h3⟩
    · have h' : k < sumC n K + chN n K := h
      exact ⟨K, k - sumC n K, by omega, by omega, by omega⟩

theorem allS_at (n : Nat) : ∀ K s j, s < K → j < chN n s → (allS n K)[sumC n s + j]? = (combos n s 0 0)[j]?
  | 0, s, j, h, _ => by omega
  | K + 1, s, j, h, hj => by
    show (allS n K ++ combos n K 0 0)[sumC n s + j]? = _
    by_cases e : s = K
    · subst e
      rw [List.getElem?_append_right (by rw [allS_len]; omega), allS_len]
      congr 1; omega
    · have h1 : sumC n (s + 1) ≤ sumC n K := sumC_mono n (by omega)
      have h2 : sumC n (s + 1) = sumC n s + chN n s := rfl
      rw [List.getElem?_append_left (by rw [allS_len]; omega)]
      exact allS_at n K s j (by omega) hj

theorem countB_nat (n : Nat) (m : Nat) (hn : n ≤ 16) : countB (n : Int) (m : Int) = sumC n (min m n + 1) := by
  unfold countB
  rw [if_pos (by omega), Int.toNat_natCast]
  congr 2
  omega

/-- What stands at a place: the place's parts, the links, the set. -/
structure AtIs (n m k s j : Nat) (l : List Nat) (x : Nat) : Prop where
  size : s ≤ min m n
  place : k = sumC n s + j
  small : j < chN n s
  list : (combL n s 0)[j]? = some l
  links : linksB (x : Int) = l
  lt : x < 2 ^ n
  tells : atB (n : Int) (m : Int) (k : Int) = (x : Int)

theorem AtIs.len {n m k s j : Nat} {l : List Nat} {x : Nat} (h : AtIs n m k s j l x) : l.length = s := (combL_like n s 0 l (List.mem_of_getElem? h.list)).1

theorem at_of_list (n m s j : Nat) (l : List Nat) (hn : n ≤ 16) (hs : s ≤ min m n) (hl : (combL n s 0)[j]? = some l) : AtIs n m (sumC n s + j) s j l (setF 0 l) := by
  have hj : j < chN n s := by rw [← combL_len n s 0]; exact (List.getElem?_eq_some_iff.1 hl).1
  obtain ⟨_, h2, h3⟩ := combL_like n s 0 l (List.mem_of_getElem? hl)
  have h4 : sumC n (s + 1) ≤ sumC n (min m n + 1) := sumC_mono n (by omega)
  have h5 : sumC n (s + 1) = sumC n s + chN n s := rfl
  refine ⟨hs, rfl, hj, hl, linksB_setF l n hn h2 (fun x hx => by have := h3 x hx; omega), setF_lt l 0 0 n (by omega) (by omega) h2 (fun x hx => by have := h3 x hx; omega), ?_⟩
  unfold atB
  rw [countB_nat n m hn, if_pos (by omega), Int.toNat_natCast, Int.toNat_natCast, show (min (m : Int) (n : Int)).toNat + 1 = min m n + 1 from by omega, allS_at n _ s j (by omega) hj, combos_combL, List.getElem?_map, hl]
  rfl

theorem at_is (n m k : Nat) (hn : n ≤ 16) (hk : k < countB (n : Int) (m : Int)) : ∃ s j l x, AtIs n m k s j l x := by
  rw [countB_nat n m hn] at hk
  obtain ⟨s, j, h1, h2, rfl⟩ := place_split n _ k hk
  obtain ⟨l, hl⟩ : ∃ l, (combL n s 0)[j]? = some l := ⟨_, List.getElem?_eq_getElem (by rw [combL_len]; exact h2)⟩
  exact ⟨s, j, l, _, at_of_list n m s j l hn (by omega) hl⟩

theorem count_pos (n m : Nat) (hn : n ≤ 16) : 1 ≤ countB (n : Int) (m : Int) := by
  rw [countB_nat n m hn]
  have : sumC n 1 ≤ sumC n (min m n + 1) := sumC_mono n (by omega)
  have e : sumC n 1 = 1 := by cases n <;> rfl
  omega

theorem AtIs.rank {n m k s j : Nat} {l : List Nat} {x : Nat} (h : AtIs n m k s j l x) (hn : n ≤ 16) : rankB (n : Int) (m : Int) (x : Int) = (k : Int) := by
  have hl := h.len
  have hs := h.size
  have hx := h.lt
  unfold rankB
  rw [h.links, Int.toNat_natCast, if_pos ⟨by omega, by omega, by omega, by exact_mod_cast hx, by omega⟩, rankL_comb n s j l h.list, h.place]

/-- A set of those that are counted has its place. -/
theorem rank_is (n m y : Nat) (hn : n ≤ 16) (hy : y < 2 ^ n) (hm : (linksB (y : Int)).length ≤ m) : ∃ s j, AtIs n m (sumC n s + j) s j (linksB (y : Int)) y ∧ sumC n s + j < countB (n : Int) (m : Int) := by
  have hs := linksB_short y n hn hy
  have h16 : y < 65536 := Nat.lt_of_lt_of_le hy (Nat.pow_le_pow_right (n := 2) (by omega) hn)
  have hm' := combL_all n _ 0 (linksB (y : Int)) rfl (linksB_rising _) (fun x hx => by have := linksB_below y n hy x hx; omega)
  obtain ⟨j, hj⟩ := List.getElem?_of_mem hm'
  have h := at_of_list n m _ j _ hn (by omega) hj
  rw [setF_linksB y h16] at h
  refine ⟨_, j, h, ?_⟩
  rw [countB_nat n m hn]
  have h4 : sumC n ((linksB (y : Int)).length + 1) ≤ sumC n (min m n + 1) := sumC_mono n (by omega)
  have h5 : sumC n ((linksB (y : Int)).length + 1) = sumC n (linksB (y : Int)).length + chN n (linksB (y : Int)).length := rfl
  have h6 := h.small
  omega

theorem lexL_irrefl : ∀ l, lexL l l = false
  | [] => rfl
  | x :: l => by simp [lexL, lexL_irrefl l]
theorem lexL_asymm : ∀ a b, lexL a b = true → lexL b a = false
  | [], _, h => by simp [lexL] at h
  | _ :: _, [], h => by simp [lexL] at h
  | x :: a, y :: b, h => by
    simp only [lexL] at h ⊢
    by_cases e : x = y
    · subst e
      rw [if_neg (by simp)] at h ⊢
      exact lexL_asymm a b h
    · rw [if_pos e] at h
      rw [if_pos (Ne.symm e)]
      have := of_decide_eq_true h
      exact decide_eq_false (by omega)

theorem comb_before {n s i j : Nat} {a b : List Nat} (ha : (combL n s 0)[i]? = some a) (hb : (combL n s 0)[j]? = some b) (h : i < j) : lexL a b = true := by
  obtain ⟨hi, rfl⟩ := List.getElem?_eq_some_iff.1 ha
  obtain ⟨hj, rfl⟩ := List.getElem?_eq_some_iff.1 hb
  exact List.pairwise_iff_getElem.1 (combL_sorted n s 0) i j hi hj h

theorem AtIs.before {n m a s j : Nat} {l : List Nat} {x b s' j' : Nat} {l' : List Nat} {y : Nat} (h : AtIs n m a s j l x) (h' : AtIs n m b s' j' l' y) : beforeB (x : Int) (y : Int) = decide (a < b) := by
  have hl := h.len
  have hl' := h'.len
  have hp := h.place
  have hp' := h'.place
  have hj := h.small
  have hj' := h'.small
  unfold beforeB
  rw [h.links, h'.links, hl, hl']
  by_cases e : s = s'
  · subst e
    rw [if_neg (by simp)]
    rcases Nat.lt_trichotomy j j' with hlt | rfl | hlt
    · rw [comb_before h.list h'.list hlt]; exact (decide_eq_true (by omega)).symm
    · have : l = l' := by have := h.list.symm.trans h'.list; simpa using this
      subst this
      rw [lexL_irrefl]; exact (decide_eq_false (by omega)).symm
    · rw [lexL_asymm _ _ (comb_before h'.list h.list hlt)]; exact (decide_eq_false (by omega)).symm
  · rw [if_pos e]
    have mono : ∀ u v, u < v → sumC n u + chN n u ≤ sumC n v := fun u v huv => sumC_mono n (a := u + 1) huv
    rcases Nat.lt_or_ge s s' with hlt | hge
    · have := mono s s' hlt
      rw [decide_eq_true hlt]; exact (decide_eq_true (by omega)).symm
    · have := mono s' s (by omega)
      rw [decide_eq_false (by omega)]; exact (decide_eq_false (by omega)).symm

theorem AtIs.same {n m a s j : Nat} {l : List Nat} {x b s' j' : Nat} {l' : List Nat} {y : Nat} (h : AtIs n m a s j l x) (h' : AtIs n m b s' j' l' y) : x = y ↔ a = b := by
  constructor
  · rintro rfl
    have h1 := h.before h'
    have h2 := h'.before h
    have h0 : beforeB (x : Int) (x : Int) = false := by unfold beforeB; rw [if_neg (by simp), lexL_irrefl]
    rw [h0] at h1 h2
    have := of_decide_eq_false h1.symm
    have := of_decide_eq_false h2.symm
    omega
  · rintro rfl
    have := h.tells.symm.trans h'.tells
    omega

end Go.Proofs.Ytfnjpgkoccefbaa
