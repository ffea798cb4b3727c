/-
  Going outwards from a node, nearer nodes first: what holds on the way.
-/
import Derived.Test.YtponlhgkgmlihaaGrMath
namespace Go.Proofs.Ytponlhgkgmlihaa
set_option linter.unusedVariables false

/-- A function that is another one at one place. -/
def updF (far : Nat → Int) (u : Nat) (d : Int) : Nat → Int := fun v => if v = u then d else far v
theorem updF_at (far : Nat → Int) (u : Nat) (d : Int) : updF far u d u = d := by simp [updF]
theorem updF_ne {far : Nat → Int} {u v : Nat} {d : Int} (h : v ≠ u) : updF far u d v = far v := by simp [updF, h]
/-- How many nodes have not been come to. -/
def leftF (N : Nat) (far : Nat → Int) : Nat := (List.range N).countP fun v => decide (far v = -1)
theorem leftF_upd {N : Nat} {far : Nat → Int} {u : Nat} {d : Int} (hu : u < N) (h : far u = -1) (hd : 0 ≤ d) : leftF N (updF far u d) + 1 = leftF N far := by
  have key : ∀ (l : List Nat), l.Nodup → u ∈ l → (l.countP fun v => decide (updF far u d v = -1)) + 1 = l.countP fun v => decide (far v = -1) := by
    intro l
    induction l with
    | nil => intro _ h; simp at h
    | cons a r ih =>
      intro hn hm
      rw [List.countP_cons, List.countP_cons]
      have hn' := List.nodup_cons.1 hn
      by_cases e : a = u
      · subst e
        have : (r.countP fun v => decide (updF far a d v = -1)) = r.countP fun v => decide (far v = -1) := by
          refine List.countP_congr fun x hx => ?_
          have : x ≠ a := fun e => hn'.1 (e ▸ hx)
          rw [updF_ne this]
        rw [this, updF_at, h]
        have : ¬ d = -1 := by omega
        simp [this]
      · have hm' : u ∈ r := by rcases List.mem_cons.1 hm with h | h; exact absurd h.symm e; exact h
        have := ih hn'.2 hm'
        rw [updF_ne e]
        omega
  exact key _ List.nodup_range (List.mem_range.2 hu)

/-- What has been told so far is so. -/
def FarOk (adj : Nat → Nat → Bool) (N s : Nat) (far : Nat → Int) : Prop := ∀ v, far v = -1 ∨ ∃ k : Nat, far v = k ∧ ballB adj N s k v = true ∧ ∀ j, j < k → ballB adj N s j v = false
/-- Between two rounds. -/
structure Bfs (adj : Nat → Nat → Bool) (N s : Nat) (far : Nat → Int) (q : List Nat) : Prop where
  ok : FarOk adj N s far
  start : 0 ≤ far s
  found : ∀ v ∈ q, 0 ≤ far v ∧ v < N
  rises : q.Pairwise fun a b => far a ≤ far b
  near : ∀ x r, q = x :: r → ∀ v ∈ q, far v ≤ far x + 1
  done : ∀ v, 0 ≤ far v → v ∉ q → ∀ u, adj v u = true → 0 ≤ far u
  left : leftF N far + q.length ≤ N
/-- Within a round: the node x has been taken; those of D have been looked at. -/
structure BfsIn (adj : Nat → Nat → Bool) (N s : Nat) (far : Nat → Int) (q : List Nat) (x : Nat) (D : Nat → Prop) : Prop where
  ok : FarOk adj N s far
  start : 0 ≤ far s
  x0 : 0 ≤ far x
  xN : x < N
  found : ∀ v ∈ q, far x ≤ far v ∧ far v ≤ far x + 1 ∧ v < N
  rises : q.Pairwise fun a b => far a ≤ far b
  level : ∀ v, ballB adj N s (far x).toNat v = true → 0 ≤ far v
  done : ∀ v, 0 ≤ far v → v ∉ q → v ≠ x → ∀ u, adj v u = true → 0 ≤ far u
  seen : ∀ u, D u → 0 ≤ far u
  left : leftF N far + q.length < N

section
variable {adj : Nat → Nat → Bool} {N s : Nat} {far : Nat → Int} {q : List Nat} {x : Nat} {D : Nat → Prop}
theorem FarOk.le (h : FarOk adj N s far) {v k : Nat} (hv : 0 ≤ far v) (hb : ballB adj N s k v = true) : far v ≤ k := by
  rcases h v with e | ⟨j, e, h1, h2⟩
  · omega
  · by_cases hjk : j ≤ k
    · omega
    · have := h2 k (by omega)
      rw [hb] at this; cases this
theorem FarOk.lt (hg : GOk adj N) (hs : s < N) (h : FarOk adj N s far) (v : Nat) : -1 ≤ far v ∧ far v < N := by
  rcases h v with e | ⟨k, e, h1, h2⟩
  · omega
  · obtain ⟨j, h3, h4, h5⟩ := dist_ball hg hs h1
    rcases dist_cases adj N s v with ⟨i, g1, g2, g3, g4⟩ | ⟨g1, _⟩
    · by_cases hjk : j < k
      · have h6 := h2 j hjk
        have : i = j := by omega
        subst this
        rw [g3] at h6; cases h6
      · omega
    · omega
theorem Bfs.begin (hs : s < N) (h : ∀ v, far v = if v = s then 0 else -1) : Bfs adj N s far [s] := by
  have hss : far s = 0 := by rw [h, if_pos rfl]
  refine ⟨fun v => ?_, by omega, fun v hv => ?_, List.pairwise_singleton _ _, fun x r e v hv => ?_, fun v hv hn u _ => ?_, ?_⟩
  · by_cases e : v = s
    · subst e
      exact .inr ⟨0, hss, ball_self 0, fun j hj => by omega⟩
    · exact .inl (by rw [h, if_neg e])
  · simp at hv; subst hv; exact ⟨by omega, hs⟩
  · simp at hv e; obtain ⟨rfl, _⟩ := e; subst hv; omega
  · have : v ≠ s := fun e => hn (by simp [e])
    rw [h, if_neg this] at hv; omega
  · have h1 : leftF N far + 1 = leftF N (fun _ => -1) := by
      have h2 := leftF_upd (N := N) (far := fun _ => (-1 : Int)) (u := s) (d := 0) hs rfl (by omega)
      have h3 : updF (fun _ => (-1 : Int)) s 0 = far := by funext v; rw [h]; unfold updF; rfl
      rw [h3] at h2; exact h2
    have h4 : leftF N (fun _ => (-1 : Int)) ≤ N := by
      unfold leftF
      simp
    simp; omega
theorem Bfs.level (hg : GOk adj N) (hs : s < N) {r : List Nat} (h : Bfs adj N s far (x :: r)) : ∀ (k : Nat), (k : Int) ≤ far x → ∀ v, ballB adj N s k v = true → 0 ≤ far v
  | 0, _, v, hv => by rw [ball_zero] at hv; subst hv; exact h.start
  | k + 1, hk, v, hv => by
    rcases ball_succ.1 hv with hv | ⟨u, hu, hb, ha⟩
    · exact h.level hg hs k (by omega) v hv
    · have h1 := h.level hg hs k (by omega) u hb
      have h2 := h.ok.le h1 hb
      have hr := List.pairwise_cons.1 h.rises
      refine h.done u h1 (fun hm => ?_) v ha
      rcases List.mem_cons.1 hm with rfl | hm
      · omega
      · have := hr.1 u hm; omega
theorem Bfs.take (hg : GOk adj N) (hs : s < N) {r : List Nat} (h : Bfs adj N s far (x :: r)) : BfsIn adj N s far r x (fun _ => False) := by
  have hx := h.found x (List.mem_cons_self)
  have hr := List.pairwise_cons.1 h.rises
  refine ⟨h.ok, h.start, hx.1, hx.2, fun v hv => ⟨hr.1 v hv, h.near x r rfl v (List.mem_cons_of_mem _ hv), (h.found v (List.mem_cons_of_mem _ hv)).2⟩, hr.2, fun v hv => ?_, fun v hv hn hne => h.done v hv (fun hm => ?_), fun u hu => hu.elim, ?_⟩
  · exact h.level hg hs (far x).toNat (by omega) v hv
  · rcases List.mem_cons.1 hm with rfl | hm
    · exact hne rfl
    · exact hn hm
  · have := h.left
    rw [List.length_cons] at this
    omega
theorem BfsIn.known (h : BfsIn adj N s far q x D) {u : Nat} (hu : 0 ≤ far u) : BfsIn adj N s far q x (fun v => D v ∨ v = u) :=
  { h with seen := fun v hv => by rcases hv with hv | rfl; exact h.seen v hv; exact hu }
theorem BfsIn.come (hg : GOk adj N) (h : BfsIn adj N s far q x D) {u : Nat} (ha : adj x u = true) (hu : far u = -1) : BfsIn adj N s (updF far u (far x + 1)) (q ++ [u]) x (fun v => D v ∨ v = u) := by
  have hx0 := h.x0
  have hxu : x ≠ u := fun e => by rw [e] at hx0; omega
  have hup : ∀ v, 0 ≤ far v → updF far u (far x + 1) v = far v := fun v hv => updF_ne (fun e => by rw [e] at hv; omega)
  have hge : ∀ v, 0 ≤ far v → 0 ≤ updF far u (far x + 1) v := fun v hv => by rw [hup v hv]; exact hv
  have hx' := hup x hx0
  refine ⟨fun v => ?_, hge s h.start, hge x hx0, h.xN, fun v hv => ?_, ?_, fun v hv => ?_, fun v hv hn hne w hw => ?_, fun v hv => ?_, ?_⟩
  · by_cases e : v = u
    · subst e
      rw [updF_at]
      refine .inr ⟨(far x).toNat + 1, by omega, ?_, fun j hj => ?_⟩
      · rcases h.ok x with e | ⟨k, e, h1, _⟩
        · omega
        · rw [e, Int.toNat_natCast]; exact ball_step hg h1 ha
      · cases hb : ballB adj N s j v with
        | false => rfl
        | true => have := h.level v (ball_mono (by omega) hb); omega
    · rw [updF_ne e]; exact h.ok v
  · rw [hx']
    rcases List.mem_append.1 hv with hv | hv
    · have := h.found v hv
      rw [hup v (by omega)]; exact this
    · simp at hv; subst hv
      rw [updF_at]
      exact ⟨by omega, by omega, (hg.lt _ _ ha).2⟩
  · rw [List.pairwise_append]
    refine ⟨h.rises.imp_of_mem fun {a b} hma hmb hab => ?_, List.pairwise_singleton _ _, fun a hma b hmb => ?_⟩
    · have h1 := h.found a hma
      have h2 := h.found b hmb
      rw [hup a (by omega), hup b (by omega)]; exact hab
    · simp at hmb; subst hmb
      have h1 := h.found a hma
      rw [updF_at, hup a (by omega)]; omega
  · rw [hx'] at hv
    exact hge v (h.level v hv)
  · by_cases e : v = u
    · subst e; exact absurd (List.mem_append.2 (.inr (by simp))) hn
    · rw [updF_ne e] at hv
      exact hge w (h.done v hv (fun hm => hn (List.mem_append.2 (.inl hm))) hne w hw)
  · rcases hv with hv | rfl
    · exact hge v (h.seen v hv)
    · rw [updF_at]; omega
  · have h1 := leftF_upd (N := N) (far := far) (u := u) (d := far x + 1) (hg.lt _ _ ha).2 hu (by omega)
    have := h.left
    rw [List.length_append, List.length_singleton]
    omega
theorem BfsIn.finish (h : BfsIn adj N s far q x D) (hD : ∀ u, adj x u = true → D u) : Bfs adj N s far q := by
  refine ⟨h.ok, h.start, fun v hv => ⟨?_, (h.found v hv).2.2⟩, h.rises, fun y r e v hv => ?_, fun v hv hn u hu => ?_, by have := h.left; omega⟩
  · have := h.found v hv; have := h.x0; omega
  · have h1 := h.found v hv
    have h2 := h.found y (by rw [e]; exact List.mem_cons_self)
    omega
  · by_cases e : v = x
    · subst e; exact h.seen u (hD u hu)
    · exact h.done v hv hn e u hu
theorem Bfs.over (hg : GOk adj N) (hs : s < N) (h : Bfs adj N s far []) (v : Nat) : far v = distB adj N s v := by
  have key : ∀ (k : Nat) (v : Nat), ballB adj N s k v = true → 0 ≤ far v := by
    intro k
    induction k with
    | zero => intro v hv; rw [ball_zero] at hv; subst hv; exact h.start
    | succ k ih =>
      intro v hv
      rcases ball_succ.1 hv with hv | ⟨u, hu, hb, ha⟩
      · exact ih v hv
      · exact h.done u (ih u hb) (by simp) v ha
  rcases h.ok v with e | ⟨k, e, h1, h2⟩
  · rw [e, dist_none hg hs fun k _ => ?_]
    cases hb : ballB adj N s k v with
    | false => rfl
    | true => have := key k v hb; omega
  · obtain ⟨j, h3, h4, h5⟩ := dist_ball hg hs h1
    rw [h3, e]
    by_cases hjk : j < k
    · have h6 := h2 j hjk
      rcases dist_cases adj N s v with ⟨i, g1, g2, g3, g4⟩ | ⟨g1, _⟩
      · have : i = j := by omega
        subst this
        rw [g3] at h6; cases h6
      · omega
    · omega
end
end Go.Proofs.Ytponlhgkgmlihaa
