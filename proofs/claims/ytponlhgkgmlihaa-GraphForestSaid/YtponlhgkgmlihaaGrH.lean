/-
  Plain facts on networks' joined nodes: fewer links, parts, cuts.
-/
import Derived.Test.YtponlhgkgmlihaaGrG
namespace Go.Proofs.Ytponlhgkgmlihaa
open Go.RowKit
set_option linter.unusedVariables false

theorem hops_nat {p : PPlan} {f : Int} {a b : Nat} (ha : a < p.nodes.length) (hb : b < p.nodes.length) : hopsB p f (a : Int) (b : Int) = distB (adjB p f) p.nodes.length a b := by
  unfold hopsB isNodeB
  simp [ha, hb]
theorem filter_le {p q : Nat → Bool} {l : List Nat} (h : ∀ x ∈ l, p x = true → q x = true) : (l.filter p).length ≤ (l.filter q).length := by
  rw [← List.countP_eq_length_filter, ← List.countP_eq_length_filter]
  exact List.countP_mono_left h
theorem hasB_or2 (f : Int) (n i : Nat) (hi : i < 16) : hasB (bits .or .i64 f (n : Int)) (i : Int) = (hasB f (i : Int) || hasB (n : Int) (i : Int)) := by
  rw [hasB_clean _ _ hi, hasB_clean _ _ hi, hasB_clean _ _ hi, cleanB_or, Nat.testBit_or]
theorem hasB_big (f : Int) {i : Nat} (hi : ¬ i < 16) : hasB f (i : Int) = false := by
  unfold hasB
  simp
  omega
/-- More links have failed. -/
def MoreF (x y : Int) : Prop := ∀ i : Nat, hasB y (i : Int) = false → hasB x (i : Int) = false
theorem moreF_or (x : Int) (n : Nat) : MoreF x (bits .or .i64 x (n : Int)) := fun i h => by
  by_cases hi : i < 16
  · rw [hasB_or2 _ _ _ hi] at h
    simp at h
    exact h.1
  · exact hasB_big x hi
theorem adj_more {p : PPlan} {x y : Int} (h : MoreF x y) (u v : Nat) (ha : adjB p y u v = true) : adjB p x u v = true := by
  obtain ⟨i, l, h1, h2, h3⟩ := adj_links.1 ha
  exact adj_links.2 ⟨i, l, h1, h i h2, h3⟩
theorem dist_more {p : PPlan} (hg : GPlan p) {x y : Int} (h : MoreF x y) {a : Nat} (ha : a < p.nodes.length) (b : Nat) : distB (adjB p y) p.nodes.length a b < 0 ∨ 0 ≤ distB (adjB p x) p.nodes.length a b ∧ distB (adjB p x) p.nodes.length a b ≤ distB (adjB p y) p.nodes.length a b := by
  by_cases h0 : distB (adjB p y) p.nodes.length a b < 0
  · exact .inl h0
  · have h1 := dist_to (gok hg y) ha (Int.not_lt.1 h0)
    have h2 := ball_sub (N := p.nodes.length) (s := a) (adj_more h) _ h1
    have h3 := dist_le (gok hg x) ha h2
    exact .inr (by omega)
theorem reach_more {p : PPlan} (hg : GPlan p) {x y : Int} (h : MoreF x y) {a : Nat} (ha : a < p.nodes.length) : (reachB p y (a : Int)).length ≤ (reachB p x (a : Int)).length := by
  unfold reachB
  rw [show isNodeB p.nodes.length (a : Int) = true by unfold isNodeB; simp [ha]]
  refine filter_le fun v _ hv => ?_
  rw [Int.toNat_natCast] at hv ⊢
  simp at hv ⊢
  have := dist_in (adjB p y) p.nodes.length a v
  rcases dist_more hg h ha v with h1 | h1 <;> omega
theorem around_more {p : PPlan} {x y : Int} (h : MoreF x y) (a : Int) : (aroundB p y a).length ≤ (aroundB p x a).length := by
  refine filter_le fun i _ hi => ?_
  unfold arB at hi ⊢
  cases hl : p.links[i]? with
  | none => rw [hl] at hi; cases hi
  | some l =>
    rw [hl] at hi
    simp at hi ⊢
    exact ⟨hi.1, h i hi.2⟩
theorem reach_mem {p : PPlan} (hg : GPlan p) {f : Int} {a v : Nat} (ha : a < p.nodes.length) : v ∈ reachB p f (a : Int) ↔ 0 ≤ distB (adjB p f) p.nodes.length a v := by
  unfold reachB
  rw [show isNodeB p.nodes.length (a : Int) = true by unfold isNodeB; simp [ha], if_pos rfl, Int.toNat_natCast]
  unfold reachK
  rw [List.mem_filter, List.mem_range]
  have h1 := dist_in (adjB p f) p.nodes.length a v
  constructor
  · rintro ⟨_, h⟩
    simp at h; omega
  · intro h
    refine ⟨?_, by simp; omega⟩
    have := ball_lt (gok hg f) ha _ (dist_to (gok hg f) ha h)
    exact this
theorem reach_rises (p : PPlan) (f : Int) (a : Int) : (reachB p f a).Pairwise (· < ·) := by
  unfold reachB
  split
  · exact List.Pairwise.filter _ List.pairwise_lt_range
  · exact List.Pairwise.nil
/-- One node of both: all of both. -/
theorem reach_same {p : PPlan} (hg : GPlan p) {f : Int} {a b v : Nat} (ha : a < p.nodes.length) (hb : b < p.nodes.length) (h1 : v ∈ reachB p f (a : Int)) (h2 : v ∈ reachB p f (b : Int)) : reachB p f (a : Int) = reachB p f (b : Int) := by
  have hG := gok hg f
  rw [reach_mem hg ha] at h1
  rw [reach_mem hg hb] at h2
  have hv := ball_lt hG ha _ (dist_to hG ha h1)
  have hab := dist_tri hG ha hv h1 (by rw [dist_sym hG hv hb]; exact h2)
  have hba := dist_sym hG ha hb
  unfold reachB
  rw [show isNodeB p.nodes.length (a : Int) = true by unfold isNodeB; simp [ha], show isNodeB p.nodes.length (b : Int) = true by unfold isNodeB; simp [hb], if_pos rfl, if_pos rfl, Int.toNat_natCast, Int.toNat_natCast]
  unfold reachK
  refine List.filter_congr fun u _ => ?_
  have i1 := dist_in (adjB p f) p.nodes.length a u
  have i2 := dist_in (adjB p f) p.nodes.length b u
  have e : 0 ≤ distB (adjB p f) p.nodes.length a u ↔ 0 ≤ distB (adjB p f) p.nodes.length b u := by
    constructor
    · intro h
      exact (dist_tri hG hb ha (by omega) h).1
    · intro h
      exact (dist_tri hG ha hb hab.1 h).1
  have : (distB (adjB p f) p.nodes.length a u = -1) ↔ (distB (adjB p f) p.nodes.length b u = -1) := by omega
  simp [this]
theorem hasB_orI (f : Int) (k i : Nat) (hk : k < 16) : hasB (orI f k) (i : Int) = (hasB f (i : Int) || decide (i = k)) := by
  by_cases hi : i < 16
  · exact hasB_or f k i hk hi
  · rw [hasB_big _ hi, hasB_big _ hi]
    have : i ≠ k := by omega
    simp [this]
/-- Steps with a link less. -/
theorem adj_orI {p : PPlan} (hg : GPlan p) {f : Int} {k : Nat} {lk : PLink} (hl : p.links[k]? = some lk) {u v : Nat} (h : adjB p f u v = true) : adjB p (orI f k) u v = true ∨ (lk.a = u ∧ lk.b = v) ∨ (lk.a = v ∧ lk.b = u) := by
  have hk : k < 16 := by have := (List.getElem?_eq_some_iff.1 hl).1; have := hg.l16; omega
  obtain ⟨i, l, h1, h2, h3⟩ := adj_links.1 h
  by_cases e : i = k
  · subst e
    rw [hl] at h1; injection h1 with h1; subst h1
    exact .inr h3
  · refine .inl (adj_links.2 ⟨i, l, h1, ?_, h3⟩)
    rw [hasB_orI _ _ _ hk, h2]
    simp [e]
theorem moreF_orI (f : Int) {k : Nat} (hk : k < 16) : MoreF f (orI f k) := fun i h => by
  rw [hasB_orI _ _ _ hk] at h
  simp at h
  exact h.1
/-- Joined without the link: nobody is parted. -/
theorem ball_orI {p : PPlan} (hg : GPlan p) {f : Int} {k a b : Nat} {lk : PLink} (hl : p.links[k]? = some lk) (ha : lk.a = a) (hb : lk.b = b) (hj : 0 ≤ distB (adjB p (orI f k)) p.nodes.length a b) {s : Nat} (hs : s < p.nodes.length) :
    ∀ (j : Nat) {v : Nat}, ballB (adjB p f) p.nodes.length s j v = true → 0 ≤ distB (adjB p (orI f k)) p.nodes.length s v
  | 0, v, h => by rw [ball_zero] at h; subst h; rw [dist_self hs]; omega
  | j + 1, v, h => by
    have hG := gok hg (orI f k)
    have hbl : a < p.nodes.length ∧ b < p.nodes.length := by
      obtain ⟨a', b', e1, e2, h1, h2⟩ := hg.link k lk hl
      omega
    rcases ball_succ.1 h with h | ⟨u, hu, hbu, hadj⟩
    · exact ball_orI hg hl ha hb hj hs j h
    · have h0 := ball_orI hg hl ha hb hj hs j hbu
      rcases adj_orI hg hl hadj with h1 | ⟨h1, h2⟩ | ⟨h1, h2⟩
      · exact (dist_step hG hs h1 h0).1
      · have e1 : u = a := by omega
        have e2 : v = b := by omega
        subst e1 e2
        exact (dist_tri hG hs hbl.1 h0 hj).1
      · have e1 : u = b := by omega
        have e2 : v = a := by omega
        subst e1 e2
        exact (dist_tri hG hs hbl.2 h0 (by rw [dist_sym hG hbl.2 hbl.1]; exact hj)).1
theorem dist_same {p : PPlan} {f g : Int} (h : ∀ u v, adjB p f u v = adjB p g u v) : distB (adjB p f) = distB (adjB p g) := by
  rw [show adjB p f = adjB p g from funext fun u => funext fun v => h u v]
theorem adj_failed {p : PPlan} (hg : GPlan p) {f : Int} {k : Nat} (hk : k < 16) (hh : hasB f (k : Int) = true) : adjB p (orI f k) = adjB p f := by
  funext u v
  rw [Bool.eq_iff_iff, adj_links, adj_links]
  have : ∀ i : Nat, hasB (orI f k) (i : Int) = hasB f (i : Int) := fun i => by
    rw [hasB_orI _ _ _ hk]
    by_cases e : i = k
    · subst e; simp [hh]
    · simp [e]
  simp only [this]
theorem reach_len {p : PPlan} {f : Int} {a : Nat} (ha : a < p.nodes.length) : (reachB p f (a : Int)).length = (List.range p.nodes.length).countP fun v => !decide (distB (adjB p f) p.nodes.length a v = -1) := by
  unfold reachB
  rw [show isNodeB p.nodes.length (a : Int) = true by unfold isNodeB; simp [ha], if_pos rfl, Int.toNat_natCast, List.countP_eq_length_filter]
  rfl
theorem cut_fewer {p : PPlan} (hg : GPlan p) {f : Int} {k a b : Nat} {lk : PLink} (hl : p.links[k]? = some lk) (ha : lk.a = a) (hb : lk.b = b) :
    cutB p f k = true ↔ (reachB p (orI f k) (a : Int)).length < (reachB p f (a : Int)).length := by
  have hk : k < 16 := by have := (List.getElem?_eq_some_iff.1 hl).1; have := hg.l16; omega
  have hbl : a < p.nodes.length ∧ b < p.nodes.length := by
    obtain ⟨a', b', e1, e2, h1, h2⟩ := hg.link k lk hl
    omega
  have hle := reach_more hg (moreF_orI f hk) hbl.1
  rw [cutB_at hl, ha, hb, Int.toNat_natCast, Int.toNat_natCast]
  cases hh : hasB f (k : Int) with
  | true =>
    have : reachB p (orI f k) (a : Int) = reachB p f (a : Int) := by
      unfold reachB reachK
      rw [adj_failed hg hk hh]
    rw [this]
    simp
  | false =>
    by_cases hd : distB (adjB p (orI f k)) p.nodes.length a b = -1
    · rw [hd]
      simp only [Bool.not_false, decide_true, Bool.and_self, true_iff]
      rw [reach_len hbl.1, reach_len hbl.1]
      refine count_lt (fun v _ hv => ?_) ⟨b, List.mem_range.2 hbl.2, by simp [hd], ?_⟩
      · simp at hv ⊢
        have i1 := dist_in (adjB p (orI f k)) p.nodes.length a v
        rcases dist_more hg (moreF_orI f hk) hbl.1 v with h1 | h1 <;> omega
      · have hadj : adjB p f a b = true := adj_links.2 ⟨k, lk, hl, hh, .inl ⟨ha, hb⟩⟩
        have := dist_step (gok hg f) hbl.1 hadj (by rw [dist_self hbl.1]; omega)
        simp; omega
    · rw [decide_eq_false hd]
      simp only [Bool.not_false, Bool.and_false, Bool.false_eq_true, false_iff]
      have hj : 0 ≤ distB (adjB p (orI f k)) p.nodes.length a b := by have := dist_in (adjB p (orI f k)) p.nodes.length a b; omega
      have : (reachB p f (a : Int)).length ≤ (reachB p (orI f k) (a : Int)).length := by
        rw [reach_len hbl.1, reach_len hbl.1]
        refine count_le fun v _ hv => ?_
        simp at hv ⊢
        have i1 := dist_in (adjB p f) p.nodes.length a v
        have := ball_orI hg hl ha hb hj hbl.1 _ (dist_to (gok hg f) hbl.1 (v := v) (by omega))
        omega
      omega
theorem cut_stands {p : PPlan} {f : Int} {k : Nat} (h : cutB p f k = true) : hasB f (k : Int) = false := by
  unfold cutB at h
  cases hl : p.links[k]? with
  | none => rw [hl] at h; cases h
  | some l =>
    rw [hl] at h
    simp at h
    exact h.1
theorem cuts_mem {p : PPlan} {f : Int} {k : Nat} : k ∈ cutsB p f ↔ cutB p f k = true := by
  unfold cutsB cutsK
  rw [List.mem_filter, List.mem_range]
  constructor
  · exact fun h => h.2
  · intro h
    refine ⟨?_, h⟩
    unfold cutB at h
    cases hl : p.links[k]? with
    | none => rw [hl] at h; cases h
    | some l => exact (List.getElem?_eq_some_iff.1 hl).1
theorem orI_nat (x k : Nat) (hx : x < 65536) (hk : k < 16) : orI (x : Int) k = ((x ||| 2 ^ k : Nat) : Int) := by
  unfold orI
  have h1 : ofB [(k : Int)] = 2 ^ k := by
    have := ofB_snoc_yes [] (k : Int) (by omega)
    simpa [ofB] using this
  have hp := pow16 k (by omega)
  rw [h1, or64 _ _ (by omega) (by omega)]
end Go.Proofs.Ytponlhgkgmlihaa
