/-
  A queue: a slice that is cut at its head and appended to; a network's neighbours.
-/
import Derived.Maps.AppendAt
import Derived.Test.YtlfdpfkimggeoaaGrO
import Derived.Test.YtlfdpfkimggeoaaPlV
import Derived.Test.YtlfdpfkimggeoaaList
import Derived.ArgAppend
import Derived.Deep.Upon
namespace Go.Proofs.Ytlfdpfkimggeoaa
set_option linter.unusedVariables false

/-- Is v come to from s by at most so many steps? -/
def ballB (adj : Nat → Nat → Bool) (N s : Nat) : Nat → Nat → Bool
  | 0, v => v == s
  | k + 1, v => ballB adj N s k v || (List.range N).any fun u => ballB adj N s k u && adj u v
/-- By how many steps at least; -1, if by none. -/
def distB (adj : Nat → Nat → Bool) (N s v : Nat) : Int := match (List.range N).find? (fun k => ballB adj N s k v) with
  | some k => (k : Int)
  | none => -1

/-- A graph of N nodes: steps go both ways, and lie within. -/
structure GOk (adj : Nat → Nat → Bool) (N : Nat) : Prop where
  sym : ∀ u v, adj u v = true → adj v u = true
  lt : ∀ u v, adj u v = true → u < N ∧ v < N

section
variable {adj : Nat → Nat → Bool} {N s : Nat}
theorem ball_zero {v : Nat} : ballB adj N s 0 v = true ↔ v = s := by simp [ballB]
theorem ball_succ {k v : Nat} : ballB adj N s (k + 1) v = true ↔ ballB adj N s k v = true ∨ ∃ u, u < N ∧ ballB adj N s k u = true ∧ adj u v = true := by
  simp [ballB]
theorem ball_self (k : Nat) : ballB adj N s k s = true := by
  induction k with
  | zero => simp [ballB]
  | succ k ih => exact ball_succ.2 (.inl ih)
theorem ball_mono {i j v : Nat} (h : i ≤ j) (hb : ballB adj N s i v = true) : ballB adj N s j v = true := by
  induction j with
  | zero => exact (show i = 0 by omega) ▸ hb
  | succ j ih =>
    by_cases e : i = j + 1
    · exact e ▸ hb
    · exact ball_succ.2 (.inl (ih (by omega)))
theorem ball_step (hg : GOk adj N) {k u v : Nat} (hb : ballB adj N s k u = true) (ha : adj u v = true) : ballB adj N s (k + 1) v = true :=
  ball_succ.2 (.inr ⟨u, (hg.lt _ _ ha).1, hb, ha⟩)
theorem ball_lt (hg : GOk adj N) (hs : s < N) : ∀ (k : Nat) {v : Nat}, ballB adj N s k v = true → v < N
  | 0, v, h => by rw [ball_zero] at h; omega
  | k + 1, v, h => by
    rcases ball_succ.1 h with h | ⟨u, _, _, ha⟩
    · exact ball_lt hg hs k h
    · exact (hg.lt _ _ ha).2
/-- On. -/
theorem ball_trans (hg : GOk adj N) {i a b : Nat} (h1 : ballB adj N a i b = true) : ∀ (j : Nat) {c : Nat}, ballB adj N b j c = true → ballB adj N a (i + j) c = true
  | 0, c, h => by rw [ball_zero] at h; subst h; exact h1
  | j + 1, c, h => by
    rcases ball_succ.1 h with h | ⟨u, _, hu, ha⟩
    · exact ball_mono (by omega) (ball_trans hg h1 j h)
    · exact ball_step hg (ball_trans hg h1 j hu) ha
/-- Both ways. -/
theorem ball_sym (hg : GOk adj N) {a : Nat} : ∀ (k : Nat) {b : Nat}, ballB adj N a k b = true → ballB adj N b k a = true
  | 0, b, h => by rw [ball_zero] at h ⊢; exact h.symm
  | k + 1, b, h => by
    rcases ball_succ.1 h with h | ⟨u, _, hu, ha⟩
    · exact ball_mono (by omega) (ball_sym hg k h)
    · have h1 : ballB adj N b 1 u = true := ball_step hg (ball_self 0) (hg.sym _ _ ha)
      have h2 := ball_trans hg h1 k (ball_sym hg k hu)
      rwa [Nat.add_comm] at h2
/-- The first step. -/
theorem ball_first (hg : GOk adj N) {a k b : Nat} (h : ballB adj N a (k + 1) b = true) : ballB adj N a k b = true ∨ ∃ u, adj a u = true ∧ ballB adj N u k b = true := by
  rcases ball_succ.1 (ball_sym hg _ h) with h | ⟨u, _, hu, ha⟩
  · exact .inl (ball_sym hg _ h)
  · exact .inr ⟨u, hg.sym _ _ ha, ball_sym hg _ hu⟩

/-! ### There are no more steps than nodes -/
def sizeB (adj : Nat → Nat → Bool) (N s k : Nat) : Nat := (List.range N).countP fun v => ballB adj N s k v
theorem count_le {p q : Nat → Bool} {l : List Nat} (h : ∀ x ∈ l, p x = true → q x = true) : l.countP p ≤ l.countP q := List.countP_mono_left h
theorem count_lt {p q : Nat → Bool} : ∀ {l : List Nat}, (∀ x ∈ l, p x = true → q x = true) → (∃ x ∈ l, p x = false ∧ q x = true) → l.countP p < l.countP q
  | [], _, ⟨x, hx, _⟩ => by simp at hx
  | a :: r, h, ⟨x, hx, hp, hq⟩ => by
    have hr := count_le (l := r) fun y hy => h y (List.mem_cons_of_mem _ hy)
    rw [List.countP_cons, List.countP_cons]
    rcases List.mem_cons.1 hx with rfl | hx
    · rw [hp, hq]; simp; omega
    · have := count_lt (l := r) (fun y hy => h y (List.mem_cons_of_mem _ hy)) ⟨x, hx, hp, hq⟩
      have ha := h a (List.mem_cons_self)
      cases e : p a <;> cases e' : q a <;> simp_all <;> omega
theorem size_le (k : Nat) : sizeB adj N s k ≤ N := by
  unfold sizeB
  have := List.countP_le_length (p := fun v => ballB adj N s k v) (l := List.range N)
  simpa using this
/-- Nothing comes any more. -/
def Still (adj : Nat → Nat → Bool) (N s k : Nat) : Prop := ∀ v, ballB adj N s (k + 1) v = true → ballB adj N s k v = true
theorem Still.on {k : Nat} (h : Still adj N s k) : ∀ (j : Nat) {v : Nat}, ballB adj N s (k + j) v = true → ballB adj N s k v = true
  | 0, v, hv => hv
  | j + 1, v, hv => by
    rcases ball_succ.1 hv with hv | ⟨u, hu, hb, ha⟩
    · exact h.on j hv
    · exact h v (ball_succ.2 (.inr ⟨u, hu, h.on j hb, ha⟩))
theorem still_or (hg : GOk adj N) (hs : s < N) : ∀ k, (∃ j, j ≤ k ∧ Still adj N s j) ∨ k + 1 ≤ sizeB adj N s k
  | 0 => by
    refine .inr ?_
    unfold sizeB
    exact List.countP_pos_iff.2 ⟨s, List.mem_range.2 hs, ball_self 0⟩
  | k + 1 => by
    rcases still_or hg hs k with ⟨j, hj, h⟩ | h
    · exact .inl ⟨j, by omega, h⟩
    · by_cases hk : Still adj N s k
      · exact .inl ⟨k, by omega, hk⟩
      · refine .inr ?_
        have : sizeB adj N s k < sizeB adj N s (k + 1) := by
          unfold Still at hk
          have ⟨v, hv⟩ : ∃ v, ¬ (ballB adj N s (k + 1) v = true → ballB adj N s k v = true) := Classical.not_forall.1 hk
          have h1 : ballB adj N s (k + 1) v = true := by
            cases e : ballB adj N s (k + 1) v
            · exact absurd (fun h => by rw [e] at h; cases h) hv
            · rfl
          have h2 : ballB adj N s k v = false := by
            cases e : ballB adj N s k v
            · rfl
            · exact absurd (fun _ => e) hv
          exact count_lt (fun x _ hx => ball_succ.2 (.inl hx)) ⟨v, List.mem_range.2 (ball_lt hg hs _ h1), h2, h1⟩
        omega
theorem ball_enough (hg : GOk adj N) (hs : s < N) {k v : Nat} (h : ballB adj N s k v = true) : ballB adj N s (N - 1) v = true := by
  have key : ∀ j, j ≤ N - 1 → Still adj N s j → ballB adj N s (N - 1) v = true := fun j hj hst => by
    have h1 : ballB adj N s (j + k) v = true := ball_mono (by omega) h
    exact ball_mono hj (hst.on k h1)
  rcases still_or hg hs (N - 1) with ⟨j, hj, hst⟩ | hsz
  · exact key j hj hst
  · have hle := size_le (adj := adj) (N := N) (s := s) (N - 1)
    cases e : ballB adj N s (N - 1) v
    · exfalso
      have : sizeB adj N s (N - 1) < (List.range N).countP fun _ => true := count_lt (fun _ _ _ => rfl) ⟨v, List.mem_range.2 (ball_lt hg hs _ h), e, rfl⟩
      simp at this
      omega
    · rfl

/-! ### The least number of steps -/
theorem dist_some {v k : Nat} (hk : k < N) (h : ballB adj N s k v = true) (hn : ∀ j, j < k → ballB adj N s j v = false) : distB adj N s v = (k : Int) := by
  unfold distB
  have : (List.range N).find? (fun k => ballB adj N s k v) = some k := by
    rw [List.find?_eq_some_iff_append]
    refine ⟨h, List.range k, (List.range' (k + 1) (N - k - 1)), ?_, fun a ha => by simp [hn a (List.mem_range.1 ha)]⟩
    rw [List.range_eq_range', List.range_eq_range', show k :: List.range' (k + 1) (N - k - 1) = List.range' k (N - k) by rw [show N - k = (N - k - 1) + 1 by omega]; rfl]
    have := List.range'_append_1 (s := 0) (m := k) (n := N - k)
    rw [show k + (N - k) = N by omega, Nat.zero_add] at this
    exact this.symm
  rw [this]
theorem dist_none (hg : GOk adj N) (hs : s < N) {v : Nat} (h : ∀ k, k < N → ballB adj N s k v = false) : distB adj N s v = -1 := by
  unfold distB
  rw [List.find?_eq_none.2 fun k hk => by rw [h k (List.mem_range.1 hk)]; simp]
/-- What the number says. -/
theorem dist_cases (adj : Nat → Nat → Bool) (N s v : Nat) : (∃ k : Nat, distB adj N s v = (k : Int) ∧ k < N ∧ ballB adj N s k v = true ∧ ∀ j, j < k → ballB adj N s j v = false) ∨ (distB adj N s v = -1 ∧ ∀ k, k < N → ballB adj N s k v = false) := by
  unfold distB
  cases h : (List.range N).find? (fun k => ballB adj N s k v) with
  | none =>
    refine .inr ⟨rfl, fun k hk => ?_⟩
    have := List.find?_eq_none.1 h k (List.mem_range.2 hk)
    simpa using this
  | some k =>
    refine .inl ⟨k, rfl, List.mem_range.1 (List.mem_of_find?_eq_some h), by simpa using List.find?_some h, fun j hj => ?_⟩
    rw [List.find?_eq_some_iff_append] at h
    obtain ⟨_, as1, bs, e, hall⟩ := h
    have hjm : j ∈ as1 := by
      have h1 : (List.range N)[j]? = some j := by
        have hN : k < N := by
          have : k ∈ List.range N := by rw [e]; simp
          exact List.mem_range.1 this
        rw [List.getElem?_range (by omega)]
      have h2 : as1.length = k := by
        have hl : as1.length < (as1 ++ k :: bs).length := by simp
        have : (List.range N)[as1.length]? = some k := by rw [e]; simp
        rw [← e] at hl
        rw [List.getElem?_range (by simpa using hl)] at this
        exact Option.some.inj this
      rw [e, List.getElem?_append_left (by omega)] at h1
      exact List.mem_of_getElem? h1
    simpa using hall j hjm
theorem dist_ball (hg : GOk adj N) (hs : s < N) {v k : Nat} (h : ballB adj N s k v = true) : ∃ j : Nat, distB adj N s v = (j : Int) ∧ j ≤ k ∧ j < N := by
  rcases dist_cases adj N s v with ⟨j, h1, h2, h3, h4⟩ | ⟨_, hn⟩
  · refine ⟨j, h1, ?_, h2⟩
    by_cases hjk : j ≤ k
    · exact hjk
    · have := h4 k (by omega)
      rw [h] at this; cases this
  · have := hn (N - 1) (by omega)
    rw [ball_enough hg hs h] at this; cases this
theorem dist_nonneg (hg : GOk adj N) (hs : s < N) {v : Nat} : 0 ≤ distB adj N s v ↔ ∃ k, ballB adj N s k v = true := by
  constructor
  · intro h
    rcases dist_cases adj N s v with ⟨j, h1, h2, h3, h4⟩ | ⟨h1, _⟩
    · exact ⟨j, h3⟩
    · omega
  · rintro ⟨k, h⟩
    obtain ⟨j, h1, _⟩ := dist_ball hg hs h
    omega
theorem dist_in (adj : Nat → Nat → Bool) (N s v : Nat) : -1 ≤ distB adj N s v ∧ (distB adj N s v < N ∨ distB adj N s v = -1) := by
  rcases dist_cases adj N s v with ⟨j, h1, h2, _⟩ | ⟨h1, _⟩ <;> omega
theorem dist_self (hs : s < N) : distB adj N s s = 0 := dist_some (k := 0) (by omega) (ball_self 0) fun j hj => by omega
/-- It's the least. -/
theorem dist_le (hg : GOk adj N) (hs : s < N) {v k : Nat} (h : ballB adj N s k v = true) : 0 ≤ distB adj N s v ∧ distB adj N s v ≤ k := by
  obtain ⟨j, h1, h2, _⟩ := dist_ball hg hs h
  omega
theorem dist_to (hg : GOk adj N) (hs : s < N) {v : Nat} (h : 0 ≤ distB adj N s v) : ballB adj N s (distB adj N s v).toNat v = true := by
  rcases dist_cases adj N s v with ⟨j, h1, h2, h3, _⟩ | ⟨h1, _⟩
  · rw [h1]; exact h3
  · omega
theorem dist_zero (hs : s < N) {v : Nat} : distB adj N s v = 0 ↔ v = s := by
  constructor
  · intro h
    rcases dist_cases adj N s v with ⟨j, h1, h2, h3, _⟩ | ⟨h1, _⟩
    · have : j = 0 := by omega
      subst this
      exact ball_zero.1 h3
    · omega
  · rintro rfl; exact dist_self hs
theorem dist_sym (hg : GOk adj N) {a b : Nat} (ha : a < N) (hb : b < N) : distB adj N a b = distB adj N b a := by
  have key : ∀ a b, a < N → b < N → 0 ≤ distB adj N a b → 0 ≤ distB adj N b a ∧ distB adj N b a ≤ distB adj N a b := fun a b ha hb h => by
    have h1 := dist_le hg hb (ball_sym hg _ (dist_to hg ha h))
    omega
  have h1 := dist_in adj N a b
  have h2 := dist_in adj N b a
  by_cases h : 0 ≤ distB adj N a b
  · have e1 := key a b ha hb h
    have e2 := key b a hb ha e1.1
    omega
  · by_cases h' : 0 ≤ distB adj N b a
    · have := key b a hb ha h'; omega
    · omega
theorem dist_tri (hg : GOk adj N) {a b c : Nat} (ha : a < N) (hb : b < N) (h1 : 0 ≤ distB adj N a b) (h2 : 0 ≤ distB adj N b c) : 0 ≤ distB adj N a c ∧ distB adj N a c ≤ distB adj N a b + distB adj N b c := by
  have := dist_le hg ha (ball_trans hg (dist_to hg ha h1) _ (dist_to hg hb h2))
  omega
/-- With fewer steps there are no more ways. -/
theorem ball_sub {adj' : Nat → Nat → Bool} (h : ∀ u v, adj' u v = true → adj u v = true) : ∀ (k : Nat) {v : Nat}, ballB adj' N s k v = true → ballB adj N s k v = true
  | 0, v, hv => hv
  | k + 1, v, hv => by
    rcases ball_succ.1 hv with hv | ⟨u, hu, hb, ha⟩
    · exact ball_succ.2 (.inl (ball_sub h k hv))
    · exact ball_succ.2 (.inr ⟨u, hu, ball_sub h k hb, h _ _ ha⟩)
theorem dist_step (hg : GOk adj N) (hs : s < N) {u v : Nat} (ha : adj u v = true) (h : 0 ≤ distB adj N s u) : 0 ≤ distB adj N s v ∧ distB adj N s v ≤ distB adj N s u + 1 := by
  have := dist_le hg hs (ball_step hg (dist_to hg hs h) ha)
  omega
/-- One further than a neighbour. -/
theorem dist_pred (hg : GOk adj N) (hs : s < N) {v : Nat} (h : 0 < distB adj N s v) : ∃ u, adj u v = true ∧ distB adj N s u = distB adj N s v - 1 := by
  rcases dist_cases adj N s v with ⟨j, h1, h2, h3, h4⟩ | ⟨h1, _⟩
  · cases j with
    | zero => omega
    | succ k =>
      rcases ball_succ.1 h3 with h3 | ⟨u, hu, hb, ha⟩
      · have := h4 k (by omega)
        rw [h3] at this; cases this
      · refine ⟨u, ha, ?_⟩
        have e1 := dist_le hg hs hb
        have e2 := (dist_step hg hs ha e1.1).2
        omega
  · omega
end
end Go.Proofs.Ytlfdpfkimggeoaa
namespace Go.Proofs.Ytlfdpfkimggeoaa
set_option linter.unusedVariables false

/-- A function that is another one at one place. -/
def updF (far : Nat → Int) (u : Nat) (d : Int) : Nat → Int := fun v => if v = u then d else far v
theorem updF_at (far : Nat → Int) (u : Nat) (d : Int) : updF far u d u = d := by simp [updF]
theorem updF_ne {far : Nat → Int} {u v : Nat} {d : Int} (h : v ≠ u) : updF far u d v = far v := by simp [updF, h]
/-- How many nodes have not been come to. -/
def leftF (N : Nat) (far : Nat → Int) : Nat := (List.range N).countP fun v => decide (far v = -1)
theorem leftF_upd {N : Nat} {far : Nat → Int} {u : Nat} {d : Int} (hu : u < N) (h : far u = -1) (hd : 0 ≤ d) : leftF N (updF far u d) + 1 = leftF N far := by
  have key : ∀ (l : List Nat), l.Nodup → u ∈ l → (l.countP fun v => decide (updF far u d v = -1)) + 1 = l.countP fun v => decide (far v = -1) := by
    intro l
    induction l with
    | nil => intro _ h; simp at h
    | cons a r ih =>
      intro hn hm
      rw [List.countP_cons, List.countP_cons]
      have hn' := List.nodup_cons.1 hn
      by_cases e : a = u
      · subst e
        have : (r.countP fun v => decide (updF far a d v = -1)) = r.countP fun v => decide (far v = -1) := by
          refine List.countP_congr fun x hx => ?_
          have : x ≠ a := fun e => hn'.1 (e ▸ hx)
          rw [updF_ne this]
        rw [this, updF_at, h]
        have : ¬ d = -1 := by omega
        simp [this]
      · have hm' : u ∈ r := by rcases List.mem_cons.1 hm with h | h; exact absurd h.symm e; exact h
        have := ih hn'.2 hm'
        rw [updF_ne e]
        omega
  exact key _ List.nodup_range (List.mem_range.2 hu)

/-- What has been told so far is so. -/
def FarOk (adj : Nat → Nat → Bool) (N s : Nat) (far : Nat → Int) : Prop := ∀ v, far v = -1 ∨ ∃ k : Nat, far v = k ∧ ballB adj N s k v = true ∧ ∀ j, j < k → ballB adj N s j v = false
/-- Between two rounds. -/
structure Bfs (adj : Nat → Nat → Bool) (N s : Nat) (far : Nat → Int) (q : List Nat) : Prop where
  ok : FarOk adj N s far
  start : 0 ≤ far s
  found : ∀ v ∈ q, 0 ≤ far v ∧ v < N
  rises : q.Pairwise fun a b => far a ≤ far b
  near : ∀ x r, q = x :: r → ∀ v ∈ q, far v ≤ far x + 1
  done : ∀ v, 0 ≤ far v → v ∉ q → ∀ u, adj v u = true → 0 ≤ far u
  left : leftF N far + q.length ≤ N
/-- Within a round: the node x has been taken; those of D have been looked at. -/
structure BfsIn (adj : Nat → Nat → Bool) (N s : Nat) (far : Nat → Int) (q : List Nat) (x : Nat) (D : Nat → Prop) : Prop where
  ok : FarOk adj N s far
  start : 0 ≤ far s
  x0 : 0 ≤ far x
  xN : x < N
  found : ∀ v ∈ q, far x ≤ far v ∧ far v ≤ far x + 1 ∧ v < N
  rises : q.Pairwise fun a b => far a ≤ far b
  level : ∀ v, ballB adj N s (far x).toNat v = true → 0 ≤ far v
  done : ∀ v, 0 ≤ far v → v ∉ q → v ≠ x → ∀ u, adj v u = true → 0 ≤ far u
  seen : ∀ u, D u → 0 ≤ far u
  left : leftF N far + q.length < N

section
variable {adj : Nat → Nat → Bool} {N s : Nat} {far : Nat → Int} {q : List Nat} {x : Nat} {D : Nat → Prop}
theorem FarOk.le (h : FarOk adj N s far) {v k : Nat} (hv : 0 ≤ far v) (hb : ballB adj N s k v = true) : far v ≤ k := by
  rcases h v with e | ⟨j, e, h1, h2⟩
  · omega
  · by_cases hjk : j ≤ k
    · omega
    · have := h2 k (by omega)
      rw [hb] at this; cases this
theorem FarOk.lt (hg : GOk adj N) (hs : s < N) (h : FarOk adj N s far) (v : Nat) : -1 ≤ far v ∧ far v < N := by
  rcases h v with e | ⟨k, e, h1, h2⟩
  · omega
  · obtain ⟨j, h3, h4, h5⟩ := dist_ball hg hs h1
    rcases dist_cases adj N s v with ⟨i, g1, g2, g3, g4⟩ | ⟨g1, _⟩
    · by_cases hjk : j < k
      · have h6 := h2 j hjk
        have : i = j := by omega
        subst this
        rw [g3] at h6; cases h6
      · omega
    · omega
theorem Bfs.begin (hs : s < N) (h : ∀ v, far v = if v = s then 0 else -1) : Bfs adj N s far [s] := by
  have hss : far s = 0 := by rw [h, if_pos rfl]
  refine ⟨fun v => ?_, by omega, fun v hv => ?_, List.pairwise_singleton _ _, fun x r e v hv => ?_, fun v hv hn u _ => ?_, ?_⟩
  · by_cases e : v = s
    · subst e
      exact .inr ⟨0, hss, ball_self 0, fun j hj => by omega⟩
    · exact .inl (by rw [h, if_neg e])
  · simp at hv; subst hv; exact ⟨by omega, hs⟩
  · simp at hv e; obtain ⟨rfl, _⟩ := e; subst hv; omega
  · have : v ≠ s := fun e => hn (by simp [e])
    rw [h, if_neg this] at hv; omega
  · have h1 : leftF N far + 1 = leftF N (fun _ => -1) := by
      have h2 := leftF_upd (N := N) (far := fun _ => (-1 : Int)) (u := s) (d := 0) hs rfl (by omega)
      have h3 : updF (fun _ => (-1 : Int)) s 0 = far := by funext v; rw [h]; unfold updF; rfl
      rw [h3] at h2; exact h2
    have h4 : leftF N (fun _ => (-1 : Int)) ≤ N := by
      unfold leftF
      simp
    simp; omega
theorem Bfs.level (hg : GOk adj N) (hs : s < N) {r : List Nat} (h : Bfs adj N s far (x :: r)) : ∀ (k : Nat), (k : Int) ≤ far x → ∀ v, ballB adj N s k v = true → 0 ≤ far v
  | 0, _, v, hv => by rw [ball_zero] at hv; subst hv; exact h.start
  | k + 1, hk, v, hv => by
    rcases ball_succ.1 hv with hv | ⟨u, hu, hb, ha⟩
    · exact h.level hg hs k (by omega) v hv
    · have h1 := h.level hg hs k (by omega) u hb
      have h2 := h.ok.le h1 hb
      have hr := List.pairwise_cons.1 h.rises
      refine h.done u h1 (fun hm => ?_) v ha
      rcases List.mem_cons.1 hm with rfl | hm
      · omega
      · have := hr.1 u hm; omega
theorem Bfs.take (hg : GOk adj N) (hs : s < N) {r : List Nat} (h : Bfs adj N s far (x :: r)) : BfsIn adj N s far r x (fun _ => False) := by
  have hx := h.found x (List.mem_cons_self)
  have hr := List.pairwise_cons.1 h.rises
  refine ⟨h.ok, h.start, hx.1, hx.2, fun v hv => ⟨hr.1 v hv, h.near x r rfl v (List.mem_cons_of_mem _ hv), (h.found v (List.mem_cons_of_mem _ hv)).2⟩, hr.2, fun v hv => ?_, fun v hv hn hne => h.done v hv (fun hm => ?_), fun u hu => hu.elim, ?_⟩
  · exact h.level hg hs (far x).toNat (by omega) v hv
  · rcases List.mem_cons.1 hm with rfl | hm
    · exact hne rfl
    · exact hn hm
  · have := h.left
    rw [List.length_cons] at this
    omega
theorem BfsIn.known (h : BfsIn adj N s far q x D) {u : Nat} (hu : 0 ≤ far u) : BfsIn adj N s far q x (fun v => D v ∨ v = u) :=
  { h with seen := fun v hv => by rcases hv with hv | rfl; exact h.seen v hv; exact hu }
theorem BfsIn.come (hg : GOk adj N) (h : BfsIn adj N s far q x D) {u : Nat} (ha : adj x u = true) (hu : far u = -1) : BfsIn adj N s (updF far u (far x + 1)) (q ++ [u]) x (fun v => D v ∨ v = u) := by
  have hx0 := h.x0
  have hxu : x ≠ u := fun e => by rw [e] at hx0; omega
  have hup : ∀ v, 0 ≤ far v → updF far u (far x + 1) v = far v := fun v hv => updF_ne (fun e => by rw [e] at hv; omega)
  have hge : ∀ v, 0 ≤ far v → 0 ≤ updF far u (far x + 1) v := fun v hv => by rw [hup v hv]; exact hv
  have hx' := hup x hx0
  refine ⟨fun v => ?_, hge s h.start, hge x hx0, h.xN, fun v hv => ?_, ?_, fun v hv => ?_, fun v hv hn hne w hw => ?_, fun v hv => ?_, ?_⟩
  · by_cases e : v = u
    · subst e
      rw [updF_at]
      refine .inr ⟨(far x).toNat + 1, by omega, ?_, fun j hj => ?_⟩
      · rcases h.ok x with e | ⟨k, e, h1, _⟩
        · omega
        · rw [e, Int.toNat_natCast]; exact ball_step hg h1 ha
      · cases hb : ballB adj N s j v with
        | false => rfl
        | true => have := h.level v (ball_mono (by omega) hb); omega
    · rw [updF_ne e]; exact h.ok v
  · rw [hx']
    rcases List.mem_append.1 hv with hv | hv
    · have := h.found v hv
      rw [hup v (by omega)]; exact this
    · simp at hv; subst hv
      rw [updF_at]
      exact ⟨by omega, by omega, (hg.lt _ _ ha).2⟩
  · rw [List.pairwise_append]
    refine ⟨h.rises.imp_of_mem fun {a b} hma hmb hab => ?_, List.pairwise_singleton _ _, fun a hma b hmb => ?_⟩
    · have h1 := h.found a hma
      have h2 := h.found b hmb
      rw [hup a (by omega), hup b (by omega)]; exact hab
    · simp at hmb; subst hmb
      have h1 := h.found a hma
      rw [updF_at, hup a (by omega)]; omega
  · rw [hx'] at hv
    exact hge v (h.level v hv)
  · by_cases e : v = u
    · subst e; exact absurd (List.mem_append.2 (.inr (by simp))) hn
    · rw [updF_ne e] at hv
      exact hge w (h.done v hv (fun hm => hn (List.mem_append.2 (.inl hm))) hne w hw)
  · rcases hv with hv | rfl
    · exact hge v (h.seen v hv)
    · rw [updF_at]; omega
  · have h1 := leftF_upd (N := N) (far := far) (u := u) (d := far x + 1) (hg.lt _ _ ha).2 hu (by omega)
    have := h.left
    rw [List.length_append, List.length_singleton]
    omega
theorem BfsIn.finish (h : BfsIn adj N s far q x D) (hD : ∀ u, adj x u = true → D u) : Bfs adj N s far q := by
  refine ⟨h.ok, h.start, fun v hv => ⟨?_, (h.found v hv).2.2⟩, h.rises, fun y r e v hv => ?_, fun v hv hn u hu => ?_, by have := h.left; omega⟩
  · have := h.found v hv; have := h.x0; omega
  · have h1 := h.found v hv
    have h2 := h.found y (by rw [e]; exact List.mem_cons_self)
    omega
  · by_cases e : v = x
    · subst e; exact h.seen u (hD u hu)
    · exact h.done v hv hn e u hu
theorem Bfs.over (hg : GOk adj N) (hs : s < N) (h : Bfs adj N s far []) (v : Nat) : far v = distB adj N s v := by
  have key : ∀ (k : Nat) (v : Nat), ballB adj N s k v = true → 0 ≤ far v := by
    intro k
    induction k with
    | zero => intro v hv; rw [ball_zero] at hv; subst hv; exact h.start
    | succ k ih =>
      intro v hv
      rcases ball_succ.1 hv with hv | ⟨u, hu, hb, ha⟩
      · exact ih v hv
      · exact h.done u (ih u hb) (by simp) v ha
  rcases h.ok v with e | ⟨k, e, h1, h2⟩
  · rw [e, dist_none hg hs fun k _ => ?_]
    cases hb : ballB adj N s k v with
    | false => rfl
    | true => have := key k v hb; omega
  · obtain ⟨j, h3, h4, h5⟩ := dist_ball hg hs h1
    rw [h3, e]
    by_cases hjk : j < k
    · have h6 := h2 j hjk
      rcases dist_cases adj N s v with ⟨i, g1, g2, g3, g4⟩ | ⟨g1, _⟩
      · have : i = j := by omega
        subst this
        rw [g3] at h6; cases h6
      · omega
    · omega
end
end Go.Proofs.Ytlfdpfkimggeoaa
namespace Go.Proofs.Ytlfdpfkimggeoaa
open Go.RowKit
set_option linter.unusedVariables false

/-- Is the node one of so many? -/
def isNodeB (n : Nat) (x : Int) : Bool := decide (0 ≤ x) && decide (x < n)
theorem isNode_any (pr ca kk x : Int) (An Al Ad Ac : Option Addr) (ln cn ll cl ld cd lc cc : Nat) (w : World) :
    Calls Try.prog 38 #[.agg #[.int .i64 pr, .int .i64 ca, .int .i64 kk, .slice An ln cn, .slice Al ll cl, .slice Ad ld cd, .slice Ac lc cc], .int .i64 x] w fun e w' => e = .returned (.bool (isNodeB ln x)) ∧ Below w.heap.size w w' := by
  have hbx := fun o => below_new w o
  by_cases h0 : 0 ≤ x
  · have HR := Lib.hid (show isNodeB ln x = decide (x < (ln : Int)) by unfold isNodeB; rw [decide_eq_true h0]; rfl)
    by_cases h1 : x < (ln : Int)
    · go_enter Try.func38, Try.ntmps38
      go_wp2
      go_ret
      exact ⟨ret_bool (by rw [HR.out]; simp [h1]), hbx _⟩
    · go_enter Try.func38, Try.ntmps38
      go_wp2
      go_ret
      exact ⟨ret_bool (by rw [HR.out]; simp; omega), hbx _⟩
  · have HR := Lib.hid (show isNodeB ln x = false by unfold isNodeB; rw [decide_eq_false h0]; rfl)
    go_enter Try.func38, Try.ntmps38
    go_wp2
    go_ret
    exact ⟨ret_bool HR.out.symm, hbx _⟩
theorem isNode_is (b : Bool) (pr ca kk x : Int) (An Al Ad Ac : Option Addr) (ln cn ll cl ld cd lc cc : Nat) (H : Hid (isNodeB ln x = b)) (w : World) :
    Calls Try.prog 38 #[.agg #[.int .i64 pr, .int .i64 ca, .int .i64 kk, .slice An ln cn, .slice Al ll cl, .slice Ad ld cd, .slice Ac lc cc], .int .i64 x] w fun e w' => e = .returned (.bool b) ∧ Below w.heap.size w w' :=
  (isNode_any pr ca kk x An Al Ad Ac ln cn ll cl ld cd lc cc w).mono fun _ _ ⟨he, hw⟩ => ⟨by rw [he, H.out], hw⟩

/-- Does the link stand, and is the node one of its ends? -/
def arB (p : PPlan) (f node : Int) (i : Nat) : Bool := match p.links[i]? with
  | some l => decide (0 ≤ otherI l node) && !hasB f (i : Int)
  | none => false
def aroundK (p : PPlan) (f node : Int) (k : Nat) : List Nat := (List.range k).filter (arB p f node)
def aroundB (p : PPlan) (f node : Int) : List Nat := aroundK p f node p.links.length
theorem aroundK_yes {p : PPlan} {f node : Int} {k : Nat} (h : arB p f node k = true) : aroundK p f node (k + 1) = aroundK p f node k ++ [k] := by
  simp [aroundK, List.range_succ, List.filter_append, h]
theorem aroundK_no {p : PPlan} {f node : Int} {k : Nat} (h : arB p f node k = false) : aroundK p f node (k + 1) = aroundK p f node k := by
  simp [aroundK, List.range_succ, List.filter_append, h]
theorem aroundK_len (p : PPlan) (f node : Int) (k : Nat) : (aroundK p f node k).length ≤ k := by
  have := List.length_filter_le (arB p f node) (List.range k)
  simpa [aroundK] using this
theorem arB_at {p : PPlan} {f node : Int} {i : Nat} {l : PLink} (h : p.links[i]? = some l) : arB p f node i = (decide (0 ≤ otherI l node) && !hasB f (i : Int)) := by
  unfold arB; rw [h]

/-- A slice of links. -/
def LinksAs (l : List Nat) (w : World) (e : Ending) (w' : World) : Prop := ∃ v, e = .returned v ∧ w'.ownsRow w.heap.size 3 1 v l.length (intCells l) ∧ Below w.heap.size w w'

set_option maxRecDepth 100000 in
set_option maxHeartbeats 2000000 in
theorem around_any (p : PPlan) (f node : Int) {pr ca kk : Int} {An Al Ad Ac : Option Addr} {ln cn ll cl ld cd lc cc : Nat} {w : World} (h : RowAt w w.heap.size Al (p.links.flatMap linkC)) (hl : Hid (p.links.length = ll)) (hm : ll ≤ 4096) :
    Calls Try.prog 34 #[.agg #[.int .i64 pr, .int .i64 ca, .int .i64 kk, .slice An ln cn, .slice Al ll cl, .slice Ad ld cd, .slice Ac lc cc], .int .i64 f, .int .i64 node] w (LinksAs (aroundB p f node) w) := by
  obtain ⟨i0, hi, hz0, hz1, hz2'⟩ := info_parts intInfo
  have hbx := fun o => below_new w o
  go_enter Try.func34, Try.ntmps34
  go_wp2
  go_loopw [7, 8, 9, 13] (fun s7 _ _ i wr => ∃ k : Nat, k ≤ ll ∧ i = .int .i64 (k : Nat) ∧ wr.ownsRow w.heap.size 3 1 s7 (aroundK p f node k).length (intCells (aroundK p f node k)) ∧ Below w.heap.size w wr) (fun _ _ _ i _ => ll - (intOf i).toNat)
  case atStart => exact ⟨0, Nat.zero_le _, rfl, World.ownsRow_nil _ _ _ _, hbx _⟩
  case round =>
    clear hbx
    obtain ⟨k, hk, rfl, hown, hbw⟩ := hrel
    have hkl := aroundK_len p f node k
    by_cases hlt : k < ll
    · obtain ⟨⟨la, lb, lco⟩, hn'⟩ : ∃ n, p.links[k]? = some n := ⟨_, List.getElem?_eq_getElem (by rw [hl.out]; exact hlt)⟩
      have hup := h.up hbw
      obtain ⟨g, hAg, hg, c0, c1, c2⟩ := hup.link hn'
      dsimp only at c0 c1 c2
      have har := arB_at (f := f) (node := node) hn'
      obtain ⟨v, hv⟩ : ∃ v, otherI ⟨la, lb, lco⟩ node = v := ⟨_, rfl⟩
      obtain ⟨b, hb⟩ : ∃ b, hasB f (k : Int) = b := ⟨_, rfl⟩
      rw [hv, hb] at har
      have HV := Lib.hid hv
      have HB := Lib.hid hb
      clear hv hb hn' hup h
      subst hAg
      have n0 : (0 : Int) ≤ (k : Int) := by omega
      have n1 : (k : Int) < (ll : Int) := by omega
      by_cases hv0 : 0 ≤ v
      · cases b
        · have HY := Lib.hid (aroundK_yes (har.trans (by simp [hv0])))
          clear har
          go_wp2_with (first
            | (go_at_call 37; (with_reducible refine (other_is ⟨la, lb, lco⟩ node v HV _).mono ?_); rintro e w2 ⟨rfl, hb2⟩; have hown2 := own_below (own_alloc hown _) hb2; have hbw2 := hbw.trans ((below_box hb2).mono hbw.size); have hz2 := hbw2.size)
            | (go_at_call 41; (with_reducible refine (Has_is f (k : Int) false HB _).mono ?_); rintro e w3 ⟨rfl, rfl⟩)
            | (at_builtin; refine wpList_append_own _ rfl _ _ 22 rfl w.heap.size 3 i0 (.int .i64 0) 1 8 Try.underlying22 hi hz0 hz1 hz2' rfl (by decide) _ _ _ rfl (own_alloc hown2 _) ⟨w2.heap.size, 0, none⟩ 1 1 [.int .i64 (k : Nat)] rfl rfl (cell_one_new _ _ _) (by simp [Value.oneCell']) (by unfold maxLen; omega) (by omega) (by simp; omega) ?_; intro v' w4 hown4 hgrow4 _; have hbw4 := (hbw2.trans ((below_new w2 _).mono hz2)).grown hgrow4 (by simp; omega) (fun g hg => (hown2.lt g hg).1)))
          go_roundw
          case rel => exact ⟨k + 1, by omega, by go_num, by rw [HY.out]; simpa [intCells] using hown4, hbw4⟩
          case measure => simp [intOf]; omega
        · have HN := Lib.hid (aroundK_no (har.trans (by simp)))
          clear har
          go_wp2_with (first
            | (go_at_call 37; (with_reducible refine (other_is ⟨la, lb, lco⟩ node v HV _).mono ?_); rintro e w2 ⟨rfl, hb2⟩)
            | (go_at_call 41; (with_reducible refine (Has_is f (k : Int) true HB _).mono ?_); rintro e w3 ⟨rfl, rfl⟩))
          go_roundw
          case rel => exact ⟨k + 1, by omega, by go_num, by rw [HN.out]; exact own_below (own_alloc hown _) hb2, hbw.trans ((below_box hb2).mono hbw.size)⟩
          case measure => simp [intOf]; omega
      · have HN := Lib.hid (aroundK_no (har.trans (by simp [hv0])))
        clear har
        go_wp2_with (first
          | (go_at_call 37; (with_reducible refine (other_is ⟨la, lb, lco⟩ node v HV _).mono ?_); rintro e w2 ⟨rfl, hb2⟩))
        go_roundw
        case rel => exact ⟨k + 1, by omega, by go_num, by rw [HN.out]; exact own_below (own_alloc hown _) hb2, hbw.trans ((below_box hb2).mono hbw.size)⟩
        case measure => simp [intOf]; omega
    · have hkk : k = ll := by omega
      have HK := Lib.hid (show aroundK p f node k = aroundB p f node by unfold aroundB; rw [hl.out, hkk])
      have hge : ¬ (k : Int) < (ll : Int) := by omega
      clear hkk
      go_wp2
      go_ret
      exact ⟨_, rfl, by rw [HK.out] at hown; exact hown, hbw⟩
end Go.Proofs.Ytlfdpfkimggeoaa
namespace Go.Proofs.Ytlfdpfkimggeoaa
open Go.RowKit
set_option linter.unusedVariables false

/-- A queue of numbers, in a block of the call's own. -/
structure QAt (w : World) (B b off n cap : Nat) (q : List Nat) : Prop where
  lo : B ≤ b
  hi : b < w.heap.size
  len : q.length = n
  le : n ≤ cap
  max : cap ≤ maxLen
  cells : ∀ j u, q[j]? = some u → w.cell? ⟨b, off + j, none⟩ = some (.int .i64 (u : Nat))
  there : ∀ j, j < cap → (w.cell? ⟨b, off + j, none⟩).isSome = true ∧ w.frozen? ⟨b, off + j, none⟩ = false
section
variable {w w' : World} {B b off n cap : Nat} {q : List Nat}
theorem QAt.keep (h : QAt w B b off n cap q) (hs : w.heap.size ≤ w'.heap.size) (hk : w'.heap[b]? = w.heap[b]?) : QAt w' B b off n cap q :=
  ⟨h.lo, Nat.lt_of_lt_of_le h.hi hs, h.len, h.le, h.max, fun j u hu => (World.cell?_of_block (a := ⟨b, off + j, none⟩) hk).trans (h.cells j u hu), fun j hj => by
    rw [World.cell?_of_block (a := ⟨b, off + j, none⟩) hk, World.frozen?_of_block (a := ⟨b, off + j, none⟩) hk]; exact h.there j hj⟩
theorem QAt.up (h : QAt w B b off n cap q) (hb : Below w.heap.size w w') : QAt w' B b off n cap q := h.keep hb.size (hb.block b h.hi)
theorem QAt.alloc (h : QAt w B b off n cap q) (o : Obj) : QAt (w.alloc o) B b off n cap q := h.up ((Below.refl _ _).alloc (Nat.le_refl _) _)
theorem QAt.set_ (h : QAt w B b off n cap q) {p : Addr} (hp : p.block < B) (u : Value) : QAt (w.setCell p u) B b off n cap q :=
  h.keep (by simp [World.setCell]) (Below.heap_setCell w p u b (by have := h.lo; omega))
/-- Its head is taken. -/
theorem QAt.tail {x : Nat} {r : List Nat} (h : QAt w B b off n cap (x :: r)) : QAt w B b (if cap = 1 then off else off + 1) (n - 1) (cap - 1) r := by
  have hl := h.len
  have hle := h.le
  rw [List.length_cons] at hl
  by_cases hc : cap = 1
  · have hr : r = [] := List.eq_nil_of_length_eq_zero (by omega)
    subst hr
    exact ⟨h.lo, h.hi, by simp at hl ⊢; omega, by omega, by have := h.max; omega, fun j u hu => by simp at hu, fun j hj => by omega⟩
  · rw [if_neg hc]
    refine ⟨h.lo, h.hi, by omega, by omega, by have := h.max; omega, fun j u hu => ?_, fun j hj => ?_⟩
    · have := h.cells (j + 1) u (by simpa using hu)
      rwa [show off + (j + 1) = off + 1 + j by omega] at this
    · have := h.there (j + 1) (by omega)
      rwa [show off + (j + 1) = off + 1 + j by omega] at this
theorem QAt.of_own {e : TypeId} {c : Nat} {A : Option Addr} (h : w.ownsRow B e 1 (.slice A n c) q.length (intCells q)) (hq : 0 < q.length) (hn : q.length = n) : ∃ g, A = some ⟨g, 0, none⟩ ∧ QAt w B g 0 n c q := by
  rcases h.2 with ⟨hv, hz⟩ | ⟨g, cap, cur, hv, hg, hb, hnc, hcm, hsz, hpre⟩
  · omega
  · injection hv with h1 h2 h3
    subst h1 h3
    have hlt : g < w.heap.size := by
      rcases Nat.lt_or_ge g w.heap.size with hlt | hge
      · exact hlt
      · rw [Array.getElem?_eq_none hge] at hb; cases hb
    refine ⟨g, rfl, hg, hlt, hn, by omega, hcm, fun j u hu => ?_, fun j hj => ?_⟩
    · have := h.cells (g := g) rfl j (.int .i64 (u : Nat)) (by rw [intCells, List.getElem?_map, hu]; rfl)
      rw [Addr.add_lit] at this
      exact this
    · rw [cell_of_row _ _ _ _ _ _ hb]
      refine ⟨?_, by simp [World.frozen?, hb]⟩
      rw [Array.getElem?_eq_getElem (by omega)]
      rfl
end

/-- A number more, behind. -/
theorem wpList_append_queue {P : Program} (w : World) {ops : Array Oper} {rest : List Oper} {o : Oper} {a : Act} {Q : Exit → Act → World → Prop}
    (hg : o.guard = none) (s x : Operand) (t : TypeId) (hop : o.op = Op.call { callee := Callee.builtin Builtin.append, args := #[s, x], argTypes := #[t, t] })
    (e : TypeId) (i : TypeInfo) (h1 : P.underlying t = some (.slice e)) (h2 : P.info? e = some i) (h3 : i.zero = some (.int .i64 0)) (h4 : i.size = 1) (h5 : i.bytes = 8)
    (B b off n cap : Nat) (q : List Nat) (hs : a.eval s = .slice (some ⟨b, off, none⟩) n cap) (hq : QAt w B b off n cap q)
    (ad : Addr) (c u : Nat) (hx : a.eval x = .slice (some ad) 1 c) (hc : w.cell? ad = some (.int .i64 (u : Nat))) (hn : n ≤ 1000) (hB : B ≤ w.heap.size)
    (hK : ∀ b' off' cap' w', QAt w' B b' off' (n + 1) cap' (q ++ [u]) → w.grownBy w' (some b) → (b' = b ∨ w.heap.size ≤ b') → wpList P ops Q rest (a.put o.dst (.slice (some ⟨b', off', none⟩) (n + 1) cap')) w') :
    wpList P ops Q (o :: rest) a w := by
  have hnews : ∀ j v, [Value.int .i64 (u : Nat)][j]? = some v → w.cell? (ad.add j) = some v := fun j v hv => by
    have hj : j = 0 := by
      have := (List.getElem?_eq_some_iff.1 hv).1
      simp at this; exact this
    subst hj
    simp at hv
    subst hv
    simpa [Addr.add] using hc
  refine wpList_append_arg w hg s x t hop e i (.int .i64 0) 1 8 h1 h2 h3 h4 h5 rfl (by decide) b off n cap (intCells q) hs (by rw [intCells, List.length_map, hq.len]; omega) (fun j v hv => ?_) ad 1 c [.int .i64 (u : Nat)] hx rfl hnews (by simp [Value.oneCell']) (fun hle j hj => ?_) (by unfold maxLen; omega) (by omega) (fun hle => ?_) (fun hlt v' w' ho hgr => ?_)
  · rw [intCells, List.getElem?_map] at hv
    cases hj : q[j]? with
    | none => rw [hj] at hv; cases hv
    | some y => rw [hj] at hv; simp at hv; subst hv; exact hq.cells j y hj
  · have hj0 : j = 0 := by simp at hj; exact hj
    subst hj0
    have ht := hq.there n (by omega)
    rw [show off + n = off + n * 1 + 0 by omega] at ht
    exact ht
  · refine hK b off cap _ ⟨hq.lo, ?_, by rw [List.length_append, hq.len]; rfl, by omega, hq.max, fun j v hv => ?_, fun j hj => ?_⟩ ⟨?_, ?_, ?_, ?_, fun k hk hne => ?_⟩ (.inl rfl)
    · exact Nat.lt_of_lt_of_le hq.hi (by show _ ≤ (w.setCell _ _).heap.size; simp [World.setCell])
    · rcases Nat.lt_or_ge j n with hj | hj
      · rw [List.getElem?_append_left (by rw [hq.len]; exact hj)] at hv
        rw [World.cell?_setCells_out b _ _ _ _ (fun _ _ => Or.inl (by show off + j < off + n * 1; omega))]
        exact hq.cells j v hv
      · rw [List.getElem?_append_right (by rw [hq.len]; exact hj), hq.len] at hv
        have hjn : j = n := by
          have := (List.getElem?_eq_some_iff.1 hv).1
          simp at this; omega
        subst hjn
        simp at hv
        subst hv
        have hsome : ∀ i, i < [Value.int .i64 (u : Nat)].length → (w.cell? ⟨b, off + j * 1 + i, none⟩).isSome = true := fun i hi => by
          have : i = 0 := by simp at hi; exact hi
          subst this
          have := (hq.there j (by omega)).1
          simpa using this
        have := World.cell?_setCells_in b [Value.int .i64 (u : Nat)] (off + j * 1) w hsome 0 (by simp)
        simpa using this
    · have ht := hq.there j hj
      refine ⟨?_, ?_⟩
      · by_cases hjn : j = n
        · subst hjn
          have hsome : ∀ i, i < [Value.int .i64 (u : Nat)].length → (w.cell? ⟨b, off + j * 1 + i, none⟩).isSome = true := fun i hi => by
            have : i = 0 := by simp at hi; exact hi
            subst this
            have := (hq.there j (by omega)).1
            simpa using this
          have := World.cell?_setCells_in b [Value.int .i64 (u : Nat)] (off + j * 1) w hsome 0 (by simp)
          have e : off + j * 1 + 0 = off + j := by omega
          rw [e] at this
          rw [this]; rfl
        · rw [World.cell?_setCells_out b _ _ _ _ (fun _ _ => by show off + j < off + n * 1 ∨ off + n * 1 + 1 ≤ off + j; omega)]
          exact ht.1
      · rw [World.frozen?_setCells]; exact ht.2
    · exact World.os_setCells _ _ _ _
    · rfl
    · exact World.output_setCells _ _ _ _
    · show _ ≤ (w.setCell _ _).heap.size; simp [World.setCell]
    · exact World.heap_setCells_other _ _ _ _ hk (fun e => hne (by rw [e]))
  · have hlen : (q ++ [u]).length = n + 1 := by rw [List.length_append, hq.len]; rfl
    obtain ⟨A, c', rfl, _⟩ := own_form ho
    have ho' : w'.ownsRow B e 1 (.slice A (n + 1) c') (q ++ [u]).length (intCells (q ++ [u])) := by
      rw [hlen]
      have := ownsRow_lower ho hB
      simpa [intCells] using this
    obtain ⟨g, rfl, hQ⟩ := QAt.of_own ho' (by omega) hlen
    exact hK g 0 c' w' hQ ⟨hgr.os, hgr.tape, hgr.output, hgr.size, fun k hk _ => hgr.block k hk (by simp)⟩ (.inr (ho.lt g rfl).1)

/-- A network with room for the calls of layer 5. -/
structure GPlan (p : PPlan) : Prop where
  n1 : 1 ≤ p.nodes.length
  n12 : p.nodes.length ≤ 12
  l16 : p.links.length ≤ 16
  link : ∀ (i : Nat) (l : PLink), p.links[i]? = some l → ∃ a b : Nat, l.a = a ∧ l.b = b ∧ a < b ∧ b < p.nodes.length
theorem gplan_right {p : PPlan} (h : rightB p = true) : GPlan p := by
  unfold rightB at h
  simp only [Bool.and_eq_true] at h
  obtain ⟨_, _, h1, h2, _⟩ := h
  unfold nodesB at h1
  unfold linksB at h2
  simp only [Bool.and_eq_true, decide_eq_true_eq] at h1 h2
  have h3 := h1.1
  unfold withinB at h3
  simp only [Bool.and_eq_true, decide_eq_true_eq] at h3
  refine ⟨by omega, by omega, h2.1, fun i l hl => ?_⟩
  have := (allF_iff _ _ _).1 h2.2 i l hl
  unfold linkOk placeB withinB at this
  simp only [Bool.and_eq_true, decide_eq_true_eq] at this
  obtain ⟨⟨b0, b1⟩, ⟨a0, a1⟩, _⟩ := this
  exact ⟨l.a.toNat, l.b.toNat, by omega, by omega, by omega, by omega⟩

/-- Is there a link between them that stands? -/
def adjB (p : PPlan) (f : Int) (u v : Nat) : Bool := (List.range p.links.length).any fun i => match p.links[i]? with
  | some l => !hasB f (i : Int) && (decide (l.a = u ∧ l.b = v) || decide (l.a = v ∧ l.b = u))
  | none => false
theorem adj_links {p : PPlan} {f : Int} {u v : Nat} : adjB p f u v = true ↔ ∃ (i : Nat) (l : PLink), p.links[i]? = some l ∧ hasB f (i : Int) = false ∧ ((l.a = u ∧ l.b = v) ∨ (l.a = v ∧ l.b = u)) := by
  unfold adjB
  rw [List.any_eq_true]
  constructor
  · rintro ⟨i, hi, h⟩
    cases hl : p.links[i]? with
    | none => rw [hl] at h; cases h
    | some l =>
      rw [hl] at h
      simp at h
      exact ⟨i, l, hl, h.1, h.2⟩
  · rintro ⟨i, l, hl, h1, h2⟩
    refine ⟨i, List.mem_range.2 (List.getElem?_eq_some_iff.1 hl).1, ?_⟩
    rw [hl]
    simp [h1, h2]
theorem gok {p : PPlan} (hg : GPlan p) (f : Int) : GOk (adjB p f) p.nodes.length :=
  ⟨fun u v h => by
    obtain ⟨i, l, h1, h2, h3⟩ := adj_links.1 h
    exact adj_links.2 ⟨i, l, h1, h2, h3.symm⟩, fun u v h => by
    obtain ⟨i, l, h1, h2, h3⟩ := adj_links.1 h
    obtain ⟨a, b, e1, e2, h4, h5⟩ := hg.link i l h1
    omega⟩
/-- The other end of a link, as a node. -/
def nextN (p : PPlan) (x : Int) (i : Nat) : Nat := match p.links[i]? with
  | some l => (otherI l x).toNat
  | none => 0
theorem next_at {p : PPlan} {x : Int} {i : Nat} {l : PLink} (h : p.links[i]? = some l) : nextN p x i = (otherI l x).toNat := by unfold nextN; rw [h]
theorem around_mem {p : PPlan} {f x : Int} {i : Nat} : i ∈ aroundB p f x ↔ ∃ l, p.links[i]? = some l ∧ 0 ≤ otherI l x ∧ hasB f (i : Int) = false := by
  unfold aroundB aroundK
  rw [List.mem_filter, List.mem_range]
  constructor
  · rintro ⟨h1, h2⟩
    obtain ⟨l, hl⟩ : ∃ l, p.links[i]? = some l := ⟨_, List.getElem?_eq_getElem h1⟩
    rw [arB_at hl] at h2
    simp at h2
    exact ⟨l, hl, h2⟩
  · rintro ⟨l, hl, h1, h2⟩
    exact ⟨(List.getElem?_eq_some_iff.1 hl).1, by rw [arB_at hl]; simp [h1, h2]⟩
theorem other_ends {p : PPlan} (hg : GPlan p) {i : Nat} {l : PLink} (hl : p.links[i]? = some l) {x : Nat} (h : 0 ≤ otherI l (x : Int)) : ∃ u : Nat, otherI l (x : Int) = u ∧ u < p.nodes.length ∧ ((l.a = x ∧ l.b = u) ∨ (l.a = u ∧ l.b = x)) := by
  obtain ⟨a, b, e1, e2, h4, h5⟩ := hg.link i l hl
  unfold otherI at h ⊢
  by_cases h1 : (x : Int) = l.a
  · rw [if_pos h1] at h ⊢
    exact ⟨b, e2, h5, .inl ⟨h1.symm, e2⟩⟩
  · rw [if_neg h1] at h ⊢
    by_cases h2 : (x : Int) = l.b
    · rw [if_pos h2] at h ⊢
      exact ⟨a, e1, by omega, .inr ⟨e1, h2.symm⟩⟩
    · rw [if_neg h2] at h; omega
theorem other_of {p : PPlan} (hg : GPlan p) {i : Nat} {l : PLink} (hl : p.links[i]? = some l) {x u : Nat} (h : (l.a = x ∧ l.b = u) ∨ (l.a = u ∧ l.b = x)) : otherI l (x : Int) = u := by
  obtain ⟨a, b, e1, e2, h4, h5⟩ := hg.link i l hl
  unfold otherI
  rcases h with ⟨h1, h2⟩ | ⟨h1, h2⟩
  · rw [if_pos h1.symm, h2]
  · rw [if_neg (by omega), if_pos h2.symm, h1]
theorem adj_next {p : PPlan} (hg : GPlan p) {f : Int} {x u : Nat} : adjB p f x u = true ↔ ∃ i, i ∈ aroundB p f (x : Int) ∧ nextN p (x : Int) i = u := by
  rw [adj_links]
  constructor
  · rintro ⟨i, l, hl, h1, h2⟩
    have h3 := other_of hg hl h2
    exact ⟨i, around_mem.2 ⟨l, hl, by omega, h1⟩, by rw [next_at hl, h3]; omega⟩
  · rintro ⟨i, hi, h⟩
    obtain ⟨l, hl, h1, h2⟩ := around_mem.1 hi
    obtain ⟨v, h3, _, h4⟩ := other_ends hg hl h1
    rw [next_at hl, h3] at h
    have : v = u := by omega
    subst this
    exact ⟨i, l, hl, h2, h4⟩
end Go.Proofs.Ytlfdpfkimggeoaa
