/-
  Plain facts: the place of a set, reckoned link by link.
-/
import Derived.Test.YtlfdpfkimggeoaaLex
namespace Go.Proofs.Ytlfdpfkimggeoaa

/-- How many sets begin with one of d links from a on, where s more links are to come behind it. -/
def gapS (n s a : Nat) : Nat → Nat
  | 0 => 0
  | d + 1 => gapS n s a d + chN (n - (a + d) - 1) s
/-- What is counted when one link more has come: how many are left, the link behind, the place. -/
def stepR (n : Nat) (st : Nat × Nat × Nat) (x : Nat) : Nat × Nat × Nat := (st.1 - 1, x + 1, st.2.2 + gapS n (st.1 - 1) st.2.1 (x - st.2.1))
def runR (n s0 : Nat) (l : List Nat) : Nat × Nat × Nat := l.foldl (stepR n) (s0, 0, sumC n s0)
def rankL (n : Nat) (l : List Nat) : Nat := (runR n l.length l).2.2

theorem runR_snoc (n s0 : Nat) (l : List Nat) (x : Nat) : runR n s0 (l ++ [x]) = stepR n (runR n s0 l) x := by simp [runR]
theorem foldR_left (n : Nat) : ∀ (l : List Nat) (st : Nat × Nat × Nat), (l.foldl (stepR n) st).1 = st.1 - l.length
  | [], st => by simp
  | x :: l, st => by rw [List.foldl_cons, foldR_left n l]; simp [stepR]; omega
theorem runR_left (n s0 : Nat) (l : List Nat) : (runR n s0 l).1 = s0 - l.length := foldR_left n l _

/-- In a rising list what has come ends ahead of what comes. -/
theorem foldR_next (n : Nat) : ∀ (l : List Nat) (st : Nat × Nat × Nat) (x : Nat), (l ++ [x]).Pairwise (· < ·) → st.2.1 ≤ x → (∀ y ∈ l, st.2.1 ≤ y) → (l.foldl (stepR n) st).2.1 ≤ x
  | [], _, _, _, h, _ => h
  | y :: l, st, x, hp, _, _ => by
    rw [List.cons_append, List.pairwise_cons] at hp
    refine foldR_next n l _ x hp.2 (hp.1 x (by simp)) (fun z hz => hp.1 z (by simp [hz]))
theorem runR_next (n s0 : Nat) (l : List Nat) (x : Nat) (h : (l ++ [x]).Pairwise (· < ·)) : (runR n s0 l).2.1 ≤ x := foldR_next n l _ x h (Nat.zero_le _) (fun _ _ => Nat.zero_le _)

theorem gapS_le (n s a : Nat) (hn : n ≤ 16) (hs : s ≤ 21) : ∀ d, gapS n s a d ≤ d * 12870
  | 0 => Nat.le_refl _
  | d + 1 => by
    have := gapS_le n s a hn hs d
    have := chN_le (n - (a + d) - 1) (by omega) s hs
    show gapS n s a d + chN (n - (a + d) - 1) s ≤ (d + 1) * 12870
    omega
theorem foldR_place (n : Nat) (hn : n ≤ 16) : ∀ (l : List Nat) (st : Nat × Nat × Nat), (∀ y ∈ l, y < 16) → st.1 ≤ 16 → (l.foldl (stepR n) st).2.2 ≤ st.2.2 + l.length * 205920
  | [], st, _, _ => by simp
  | x :: l, st, h, hs => by
    rw [List.foldl_cons]
    have ih := foldR_place n hn l (stepR n st x) (fun y hy => h y (by simp [hy])) (by simp [stepR]; omega)
    have hx := h x (by simp)
    have hg := gapS_le n (st.1 - 1) st.2.1 hn (by omega) (x - st.2.1)
    have he : (stepR n st x).2.2 = st.2.2 + gapS n (st.1 - 1) st.2.1 (x - st.2.1) := rfl
    rw [he] at ih
    simp only [List.length_cons]
    omega
theorem runR_place (n s0 : Nat) (l : List Nat) (hn : n ≤ 16) (hs : s0 ≤ 16) (h : ∀ y ∈ l, y < 16) (hl : l.length ≤ 16) : (runR n s0 l).2.2 ≤ 4000000 := by
  have h1 := foldR_place n hn l (s0, 0, sumC n s0) h hs
  have h2 := sumC_le n hn s0 (by omega)
  show (l.foldl (stepR n) (s0, 0, sumC n s0)).2.2 ≤ 4000000
  have h3 : (s0, 0, sumC n s0).2.2 = sumC n s0 := rfl
  rw [h3] at h1
  omega

theorem linksB_rising (f : Int) : (setB f).Pairwise (· < ·) := by
  unfold setB uptoB
  exact List.Pairwise.filter _ (List.pairwise_lt_range)
theorem linksB_lt (f : Int) (y : Nat) (h : y ∈ setB f) : y < 16 := by
  unfold setB uptoB at h
  exact List.mem_range.1 (List.mem_filter.1 h).1
theorem linksB_below (f n : Nat) (h : f < 2 ^ n) (y : Nat) (hy : y ∈ setB (f : Int)) : y < n := by
  have h16 := linksB_lt _ _ hy
  unfold setB uptoB at hy
  have hh := (List.mem_filter.1 hy).2
  rw [hasB_clean _ _ h16] at hh
  rcases Nat.lt_or_ge y n with hlt | hge
  · exact hlt
  · have h2 : f < 2 ^ y := Nat.lt_of_lt_of_le h (Nat.pow_le_pow_right (by omega) hge)
    have h3 : cleanB (f : Int) ≤ f := by unfold cleanB; omega
    rw [Nat.testBit_lt_two_pow (by omega)] at hh
    cases hh

theorem uptoB_more (f n : Nat) (h : f < 2 ^ n) : ∀ d, n + d ≤ 16 → uptoB (f : Int) (n + d) = uptoB (f : Int) n
  | 0, _ => rfl
  | d + 1, hd => by
    rw [← uptoB_more f n h d (by omega), ← Nat.add_assoc]
    refine uptoB_no _ _ ?_
    cases hh : hasB (f : Int) ((n + d : Nat) : Int) with
    | false => rfl
    | true =>
      have hm : n + d ∈ setB (f : Int) := by
        unfold setB uptoB
        exact List.mem_filter.2 ⟨List.mem_range.2 (by omega), hh⟩
      have := linksB_below f n h _ hm
      omega
theorem linksB_upto (f n : Nat) (hn : n ≤ 16) (h : f < 2 ^ n) : setB (f : Int) = uptoB (f : Int) n := by
  have := uptoB_more f n h (16 - n) (by omega)
  rwa [show n + (16 - n) = 16 from by omega] at this
theorem linksB_short (f n : Nat) (hn : n ≤ 16) (h : f < 2 ^ n) : (setB (f : Int)).length ≤ n := by
  rw [linksB_upto f n hn h]; exact uptoB_len _ _

theorem countB_less (n s : Nat) (hn : n ≤ 16) (hs : s ≤ n) : countB (n : Int) ((s : Int) - 1) = sumC n s := by
  unfold countB
  cases s with
  | zero => rw [if_neg (by omega)]; rfl
  | succ k =>
    rw [if_pos (by omega), Int.toNat_natCast]
    congr 1
    omega

end Go.Proofs.Ytlfdpfkimggeoaa
