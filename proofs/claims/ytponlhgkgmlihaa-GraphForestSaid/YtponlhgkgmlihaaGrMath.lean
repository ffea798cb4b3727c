/-
  Plain facts on graphs: who is joined with whom, and how far. No program is named here.
-/
namespace Go.Proofs.Ytponlhgkgmlihaa
set_option linter.unusedVariables false

/-- Is v come to from s by at most so many steps? -/
def ballB (adj : Nat → Nat → Bool) (N s : Nat) : Nat → Nat → Bool
  | 0, v => v == s
  | k + 1, v => ballB adj N s k v || (List.range N).any fun u => ballB adj N s k u && adj u v
/-- By how many steps at least; -1, if by none. -/
def distB (adj : Nat → Nat → Bool) (N s v : Nat) : Int := match (List.range N).find? (fun k => ballB adj N s k v) with
  | some k => (k : Int)
  | none => -1

/-- A graph of N nodes: steps go both ways, and lie within. -/
structure GOk (adj : Nat → Nat → Bool) (N : Nat) : Prop where
  sym : ∀ u v, adj u v = true → adj v u = true
  lt : ∀ u v, adj u v = true → u < N ∧ v < N

section
variable {adj : Nat → Nat → Bool} {N s : Nat}
theorem ball_zero {v : Nat} : ballB adj N s 0 v = true ↔ v = s := by simp [ballB]
theorem ball_succ {k v : Nat} : ballB adj N s (k + 1) v = true ↔ ballB adj N s k v = true ∨ ∃ u, u < N ∧ ballB adj N s k u = true ∧ adj u v = true := by
  simp [ballB]
theorem ball_self (k : Nat) : ballB adj N s k s = true := by
  induction k with
  | zero => simp [ballB]
  | succ k ih => exact ball_succ.2 (.inl ih)
theorem ball_mono {i j v : Nat} (h : i ≤ j) (hb : ballB adj N s i v = true) : ballB adj N s j v = true := by
  induction j with
  | zero => exact (show i = 0 by omega) ▸ hb
  | succ j ih =>
    by_cases e : i = j + 1
    · exact e ▸ hb
    · exact ball_succ.2 (.inl (ih (by omega)))
theorem ball_step (hg : GOk adj N) {k u v : Nat} (hb : ballB adj N s k u = true) (ha : adj u v = true) : ballB adj N s (k + 1) v = true :=
  ball_succ.2 (.inr ⟨u, (hg.lt _ _ ha).1, hb, ha⟩)
theorem ball_lt (hg : GOk adj N) (hs : s < N) : ∀ (k : Nat) {v : Nat}, ballB adj N s k v = true → v < N
  | 0, v, h => by rw [ball_zero] at h; omega
  | k + 1, v, h => by
    rcases ball_succ.1 h with h | ⟨u, _, _, ha⟩
    · exact ball_lt hg hs k h
    · exact (hg.lt _ _ ha).2
/-- On. -/
theorem ball_trans (hg : GOk adj N) {i a b : Nat} (h1 : ballB adj N a i b = true) : ∀ (j : Nat) {c : Nat}, ballB adj N b j c = true → ballB adj N a (i + j) c = true
  | 0, c, h => by rw [ball_zero] at h; subst h; exact h1
  | j + 1, c, h => by
    rcases ball_succ.1 h with h | ⟨u, _, hu, ha⟩
    · exact ball_mono (by omega) (ball_trans hg h1 j h)
    · exact ball_step hg (ball_trans hg h1 j hu) ha
/-- Both ways. -/
theorem ball_sym (hg : GOk adj N) {a : Nat} : ∀ (k : Nat) {b : Nat}, ballB adj N a k b = true → ballB adj N b k a = true
  | 0, b, h => by rw [ball_zero] at h ⊢; exact h.symm
  | k + 1, b, h => by
    rcases ball_succ.1 h with h | ⟨u, _, hu, ha⟩
    · exact ball_mono (by omega) (ball_sym hg k h)
    · have h1 : ballB adj N b 1 u = true := ball_step hg (ball_self 0) (hg.sym _ _ ha)
      have h2 := ball_trans hg h1 k (ball_sym hg k hu)
      rwa [Nat.add_comm] at h2
/-- The first step. -/
theorem ball_first (hg : GOk adj N) {a k b : Nat} (h : ballB adj N a (k + 1) b = true) : ballB adj N a k b = true ∨ ∃ u, adj a u = true ∧ ballB adj N u k b = true := by
  rcases ball_succ.1 (ball_sym hg _ h) with h | ⟨u, _, hu, ha⟩
  · exact .inl (ball_sym hg _ h)
  · exact .inr ⟨u, hg.sym _ _ ha, ball_sym hg _ hu⟩

/-! ### There are no more steps than nodes -/
def sizeB (adj : Nat → Nat → Bool) (N s k : Nat) : Nat := (List.range N).countP fun v => ballB adj N s k v
theorem count_le {p q : Nat → Bool} {l : List Nat} (h : ∀ x ∈ l, p x = true → q x = true) : l.countP p ≤ l.countP q := List.countP_mono_left h
theorem count_lt {p q : Nat → Bool} : ∀ {l : List Nat}, (∀ x ∈ l, p x = true → q x = true) → (∃ x ∈ l, p x = false ∧ q x = true) → l.countP p < l.countP q
  | [], _, ⟨x, hx, _⟩ => by simp at hx
  | a :: r, h, ⟨x, hx, hp, hq⟩ => by
    have hr := count_le (l := r) fun y hy => h y (List.mem_cons_of_mem _ hy)
    rw [List.countP_cons, List.countP_cons]
    rcases List.mem_cons.1 hx with rfl | hx
    · rw [hp, hq]; simp; omega
    · have := count_lt (l := r) (fun y hy => h y (List.mem_cons_of_mem _ hy)) ⟨x, hx, hp, hq⟩
      have ha := h a (List.mem_cons_self)
      cases e : p a <;> cases e' : q a <;> simp_all <;> omega
theorem size_le (k : Nat) : sizeB adj N s k ≤ N := by
  unfold sizeB
  have := List.countP_le_length (p := fun v => ballB adj N s k v) (l := List.range N)
  simpa using this
/-- Nothing comes any more. -/
def Still (adj : Nat → Nat → Bool) (N s k : Nat) : Prop := ∀ v, ballB adj N s (k + 1) v = true → ballB adj N s k v = true
theorem Still.on {k : Nat} (h : Still adj N s k) : ∀ (j : Nat) {v : Nat}, ballB adj N s (k + j) v = true → ballB adj N s k v = true
  | 0, v, hv => hv
  | j + 1, v, hv => by
    rcases ball_succ.1 hv with hv | ⟨u, hu, hb, ha⟩
    · exact h.on j hv
    · exact h v (ball_succ.2 (.inr ⟨u, hu, h.on j hb, ha⟩))
theorem still_or (hg : GOk adj N) (hs : s < N) : ∀ k, (∃ j, j ≤ k ∧ Still adj N s j) ∨ k + 1 ≤ sizeB adj N s k
  | 0 => by
    refine .inr ?_
    unfold sizeB
    exact List.countP_pos_iff.2 ⟨s, List.mem_range.2 hs, ball_self 0⟩
  | k + 1 => by
    rcases still_or hg hs k with ⟨j, hj, h⟩ | h
    · exact .inl ⟨j, by omega, h⟩
    · by_cases hk : Still adj N s k
      · exact .inl ⟨k, by omega, hk⟩
      · refine .inr ?_
        have : sizeB adj N s k < sizeB adj N s (k + 1) := by
          unfold Still at hk
          have ⟨v, hv⟩ : ∃ v, ¬ (ballB adj N s (k + 1) v = true → ballB adj N s k v = true) := Classical.not_forall.1 hk
          have h1 : ballB adj N s (k + 1) v = true := by
            cases e : ballB adj N s (k + 1) v
            · exact absurd (fun h => by rw [e] at h; cases h) hv
            · rfl
          have h2 : ballB adj N s k v = false := by
            cases e : ballB adj N s k v
            · rfl
            · exact absurd (fun _ => e) hv
          exact count_lt (fun x _ hx => ball_succ.2 (.inl hx)) ⟨v, List.mem_range.2 (ball_lt hg hs _ h1), h2, h1⟩
        omega
theorem ball_enough (hg : GOk adj N) (hs : s < N) {k v : Nat} (h : ballB adj N s k v = true) : ballB adj N s (N - 1) v = true := by
  have key : ∀ j, j ≤ N - 1 → Still adj N s j → ballB adj N s (N - 1) v = true := fun j hj hst => by
    have h1 : ballB adj N s (j + k) v = true := ball_mono (by omega) h
    exact ball_mono hj (hst.on k h1)
  rcases still_or hg hs (N - 1) with ⟨j, hj, hst⟩ | hsz
  · exact key j hj hst
  · have hle := size_le (adj := adj) (N := N) (s := s) (N - 1)
    cases e : ballB adj N s (N - 1) v
    · exfalso
      have : sizeB adj N s (N - 1) < (List.range N).countP fun _ => true := count_lt (fun _ _ _ => rfl) ⟨v, List.mem_range.2 (ball_lt hg hs _ h), e, rfl⟩
      simp at this
      omega
    · rfl

/-! ### The least number of steps -/
theorem dist_some {v k : Nat} (hk : k < N) (h : ballB adj N s k v = true) (hn : ∀ j, j < k → ballB adj N s j v = false) : distB adj N s v = (k : Int) := by
  unfold distB
  have : (List.range N).find? (fun k => ballB adj N s k v) = some k := by
    rw [List.find?_eq_some_iff_append]
    refine ⟨h, List.range k, (List.range' (k + 1) (N - k - 1)), ?_, fun a ha => by simp [hn a (List.mem_range.1 ha)]⟩
    rw [List.range_eq_range', List.range_eq_range', show k :: List.range' (k + 1) (N - k - 1) = List.range' k (N - k) by rw [show N - k = (N - k - 1) + 1 by omega]; rfl]
    have := List.range'_append_1 (s := 0) (m := k) (n := N - k)
    rw [show k + (N - k) = N by omega, Nat.zero_add] at this
    exact this.symm
  rw [this]
theorem dist_none (hg : GOk adj N) (hs : s < N) {v : Nat} (h : ∀ k, k < N → ballB adj N s k v = false) : distB adj N s v = -1 := by
  unfold distB
  rw [List.find?_eq_none.2 fun k hk => by rw [h k (List.mem_range.1 hk)]; simp]
/-- What the number says. -/
theorem dist_cases (adj : Nat → Nat → Bool) (N s v : Nat) : (∃ k : Nat, distB adj N s v = (k : Int) ∧ k < N ∧ ballB adj N s k v = true ∧ ∀ j, j < k → ballB adj N s j v = false) ∨ (distB adj N s v = -1 ∧ ∀ k, k < N → ballB adj N s k v = false) := by
  unfold distB
  cases h : (List.range N).find? (fun k => ballB adj N s k v) with
  | none =>
    refine .inr ⟨rfl, fun k hk => ?_⟩
    have := List.find?_eq_none.1 h k (List.mem_range.2 hk)
    simpa using this
  | some k =>
    refine .inl ⟨k, rfl, List.mem_range.1 (List.mem_of_find?_eq_some h), by simpa using List.find?_some h, fun j hj => ?_⟩
    rw [List.find?_eq_some_iff_append] at h
    obtain ⟨_, as, bs, e, hall⟩ := h
    have hjm : j ∈ as := by
      have h1 : (List.range N)[j]? = some j := by
        have hN : k < N := by
          have : k ∈ List.range N := by rw [e]; simp
          exact List.mem_range.1 this
        rw [List.getElem?_range (by omega)]
      have h2 : as.length = k := by
        have hl : as.length < (as ++ k :: bs).length := by simp
        have : (List.range N)[as.length]? = some k := by rw [e]; simp
        rw [← e] at hl
        rw [List.getElem?_range (by simpa using hl)] at this
        exact Option.some.inj this
      rw [e, List.getElem?_append_left (by omega)] at h1
      exact List.mem_of_getElem? h1
    simpa using hall j hjm
theorem dist_ball (hg : GOk adj N) (hs : s < N) {v k : Nat} (h : ballB adj N s k v = true) : ∃ j : Nat, distB adj N s v = (j : Int) ∧ j ≤ k ∧ j < N := by
  rcases dist_cases adj N s v with ⟨j, h1, h2, h3, h4⟩ | ⟨_, hn⟩
  · refine ⟨j, h1, ?_, h2⟩
    by_cases hjk : j ≤ k
    · exact hjk
    · have := h4 k (by omega)
      rw [h] at this; cases this
  · have := hn (N - 1) (by omega)
    rw [ball_enough hg hs h] at this; cases this
theorem dist_nonneg (hg : GOk adj N) (hs : s < N) {v : Nat} : 0 ≤ distB adj N s v ↔ ∃ k, ballB adj N s k v = true := by
  constructor
  · intro h
    rcases dist_cases adj N s v with ⟨j, h1, h2, h3, h4⟩ | ⟨h1, _⟩
    · exact ⟨j, h3⟩
    · omega
  · rintro ⟨k, h⟩
    obtain ⟨j, h1, _⟩ := dist_ball hg hs h
    omega
theorem dist_in (adj : Nat → Nat → Bool) (N s v : Nat) : -1 ≤ distB adj N s v ∧ (distB adj N s v < N ∨ distB adj N s v = -1) := by
  rcases dist_cases adj N s v with ⟨j, h1, h2, _⟩ | ⟨h1, _⟩ <;> omega
theorem dist_self (hs : s < N) : distB adj N s s = 0 := dist_some (k := 0) (by omega) (ball_self 0) fun j hj => by omega
/-- It's the least. -/
theorem dist_le (hg : GOk adj N) (hs : s < N) {v k : Nat} (h : ballB adj N s k v = true) : 0 ≤ distB adj N s v ∧ distB adj N s v ≤ k := by
  obtain ⟨j, h1, h2, _⟩ := dist_ball hg hs h
  omega
theorem dist_to (hg : GOk adj N) (hs : s < N) {v : Nat} (h : 0 ≤ distB adj N s v) : ballB adj N s (distB adj N s v).toNat v = true := by
  rcases dist_cases adj N s v with ⟨j, h1, h2, h3, _⟩ | ⟨h1, _⟩
  · rw [h1]; exact h3
  · omega
theorem dist_zero (hs : s < N) {v : Nat} : distB adj N s v = 0 ↔ v = s := by
  constructor
  · intro h
    rcases dist_cases adj N s v with ⟨j, h1, h2, h3, _⟩ | ⟨h1, _⟩
    · have : j = 0 := by omega
      subst this
      exact ball_zero.1 h3
    · omega
  · rintro rfl; exact dist_self hs
theorem dist_sym (hg : GOk adj N) {a b : Nat} (ha : a < N) (hb : b < N) : distB adj N a b = distB adj N b a := by
  have key : ∀ a b, a < N → b < N → 0 ≤ distB adj N a b → 0 ≤ distB adj N b a ∧ distB adj N b a ≤ distB adj N a b := fun a b ha hb h => by
    have h1 := dist_le hg hb (ball_sym hg _ (dist_to hg ha h))
    omega
  have h1 := dist_in adj N a b
  have h2 := dist_in adj N b a
  by_cases h : 0 ≤ distB adj N a b
  · have e1 := key a b ha hb h
    have e2 := key b a hb ha e1.1
    omega
  · by_cases h' : 0 ≤ distB adj N b a
    · have := key b a hb ha h'; omega
    · omega
theorem dist_tri (hg : GOk adj N) {a b c : Nat} (ha : a < N) (hb : b < N) (h1 : 0 ≤ distB adj N a b) (h2 : 0 ≤ distB adj N b c) : 0 ≤ distB adj N a c ∧ distB adj N a c ≤ distB adj N a b + distB adj N b c := by
  have := dist_le hg ha (ball_trans hg (dist_to hg ha h1) _ (dist_to hg hb h2))
  omega
/-- With fewer steps there are no more ways. -/
theorem ball_sub {adj' : Nat → Nat → Bool} (h : ∀ u v, adj' u v = true → adj u v = true) : ∀ (k : Nat) {v : Nat}, ballB adj' N s k v = true → ballB adj N s k v = true
  | 0, v, hv => hv
  | k + 1, v, hv => by
    rcases ball_succ.1 hv with hv | ⟨u, hu, hb, ha⟩
    · exact ball_succ.2 (.inl (ball_sub h k hv))
    · exact ball_succ.2 (.inr ⟨u, hu, ball_sub h k hb, h _ _ ha⟩)
theorem dist_step (hg : GOk adj N) (hs : s < N) {u v : Nat} (ha : adj u v = true) (h : 0 ≤ distB adj N s u) : 0 ≤ distB adj N s v ∧ distB adj N s v ≤ distB adj N s u + 1 := by
  have := dist_le hg hs (ball_step hg (dist_to hg hs h) ha)
  omega
/-- One further than a neighbour. -/
theorem dist_pred (hg : GOk adj N) (hs : s < N) {v : Nat} (h : 0 < distB adj N s v) : ∃ u, adj u v = true ∧ distB adj N s u = distB adj N s v - 1 := by
  rcases dist_cases adj N s v with ⟨j, h1, h2, h3, h4⟩ | ⟨h1, _⟩
  · cases j with
    | zero => omega
    | succ k =>
      rcases ball_succ.1 h3 with h3 | ⟨u, hu, hb, ha⟩
      · have := h4 k (by omega)
        rw [h3] at this; cases this
      · refine ⟨u, ha, ?_⟩
        have e1 := dist_le hg hs hb
        have e2 := (dist_step hg hs ha e1.1).2
        omega
  · omega
end
end Go.Proofs.Ytponlhgkgmlihaa
