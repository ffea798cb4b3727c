/-
  A queue: a slice that is cut at its head and appended to; a network's neighbours.
-/
import Derived.ArgAppend
import Derived.Deep.Upon
import Derived.Test.YtponlhgkgmlihaaGrA
namespace Go.Proofs.Ytponlhgkgmlihaa
open Go.RowKit
set_option linter.unusedVariables false

/-- A queue of numbers, in a block of the call's own. -/
structure QAt (w : World) (B b off n cap : Nat) (q : List Nat) : Prop where
  lo : B ≤ b
  hi : b < w.heap.size
  len : q.length = n
  le : n ≤ cap
  max : cap ≤ maxLen
  cells : ∀ j u, q[j]? = some u → w.cell? ⟨b, off + j, none⟩ = some (.int .i64 (u : Nat))
  there : ∀ j, j < cap → (w.cell? ⟨b, off + j, none⟩).isSome = true ∧ w.frozen? ⟨b, off + j, none⟩ = false
section
variable {w w' : World} {B b off n cap : Nat} {q : List Nat}
theorem QAt.keep (h : QAt w B b off n cap q) (hs : w.heap.size ≤ w'.heap.size) (hk : w'.heap[b]? = w.heap[b]?) : QAt w' B b off n cap q :=
  ⟨h.lo, Nat.lt_of_lt_of_le h.hi hs, h.len, h.le, h.max, fun j u hu => (World.cell?_of_block (a := ⟨b, off + j, none⟩) hk).trans (h.cells j u hu), fun j hj => by
    rw [World.cell?_of_block (a := ⟨b, off + j, none⟩) hk, World.frozen?_of_block (a := ⟨b, off + j, none⟩) hk]; exact h.there j hj⟩
theorem QAt.up (h : QAt w B b off n cap q) (hb : Below w.heap.size w w') : QAt w' B b off n cap q := h.keep hb.size (hb.block b h.hi)
theorem QAt.alloc (h : QAt w B b off n cap q) (o : Obj) : QAt (w.alloc o) B b off n cap q := h.up ((Below.refl _ _).alloc (Nat.le_refl _) _)
theorem QAt.set_ (h : QAt w B b off n cap q) {p : Addr} (hp : p.block < B) (u : Value) : QAt (w.setCell p u) B b off n cap q :=
  h.keep (by simp [World.setCell]) (Below.heap_setCell w p u b (by have := h.lo; omega))
/-- Its head is taken. -/
theorem QAt.tail {x : Nat} {r : List Nat} (h : QAt w B b off n cap (x :: r)) : QAt w B b (if cap = 1 then off else off + 1) (n - 1) (cap - 1) r := by
  have hl := h.len
  have hle := h.le
  rw [List.length_cons] at hl
  by_cases hc : cap = 1
  · have hr : r = [] := List.eq_nil_of_length_eq_zero (by omega)
    subst hr
    exact ⟨h.lo, h.hi, by simp at hl ⊢; omega, by omega, by have := h.max; omega, fun j u hu => by simp at hu, fun j hj => by omega⟩
  · rw [if_neg hc]
    refine ⟨h.lo, h.hi, by omega, by omega, by have := h.max; omega, fun j u hu => ?_, fun j hj => ?_⟩
    · have := h.cells (j + 1) u (by simpa using hu)
      rwa [show off + (j + 1) = off + 1 + j by omega] at this
    · have := h.there (j + 1) (by omega)
      rwa [show off + (j + 1) = off + 1 + j by omega] at this
theorem QAt.of_own {e : TypeId} {c : Nat} {A : Option Addr} (h : w.ownsRow B e 1 (.slice A n c) q.length (intCells q)) (hq : 0 < q.length) (hn : q.length = n) : ∃ g, A = some ⟨g, 0, none⟩ ∧ QAt w B g 0 n c q := by
  rcases h.2 with ⟨hv, hz⟩ | ⟨g, cap, cur, hv, hg, hb, hnc, hcm, hsz, hpre⟩
  · omega
  · injection hv with h1 h2 h3
    subst h1 h3
    have hlt : g < w.heap.size := by
      rcases Nat.lt_or_ge g w.heap.size with hlt | hge
      · exact hlt
      · rw [Array.getElem?_eq_none hge] at hb; cases hb
    refine ⟨g, rfl, hg, hlt, hn, by omega, hcm, fun j u hu => ?_, fun j hj => ?_⟩
    · have := h.cells (g := g) rfl j (.int .i64 (u : Nat)) (by rw [intCells, List.getElem?_map, hu]; rfl)
      rw [Addr.add_lit] at this
      exact this
    · rw [cell_of_row _ _ _ _ _ _ hb]
      refine ⟨?_, by simp [World.frozen?, hb]⟩
      rw [Array.getElem?_eq_getElem (by omega)]
      rfl
end

/-- A number more, behind. -/
theorem wpList_append_queue {P : Program} (w : World) {ops : Array Oper} {rest : List Oper} {o : Oper} {a : Act} {Q : Exit → Act → World → Prop}
    (hg : o.guard = none) (s x : Operand) (t : TypeId) (hop : o.op = Op.call { callee := Callee.builtin Builtin.append, args := #[s, x], argTypes := #[t, t] })
    (e : TypeId) (i : TypeInfo) (h1 : P.underlying t = some (.slice e)) (h2 : P.info? e = some i) (h3 : i.zero = some (.int .i64 0)) (h4 : i.size = 1) (h5 : i.bytes = 8)
    (B b off n cap : Nat) (q : List Nat) (hs : a.eval s = .slice (some ⟨b, off, none⟩) n cap) (hq : QAt w B b off n cap q)
    (ad : Addr) (c u : Nat) (hx : a.eval x = .slice (some ad) 1 c) (hc : w.cell? ad = some (.int .i64 (u : Nat))) (hn : n ≤ 1000) (hB : B ≤ w.heap.size)
    (hK : ∀ b' off' cap' w', QAt w' B b' off' (n + 1) cap' (q ++ [u]) → w.grownBy w' (some b) → (b' = b ∨ w.heap.size ≤ b') → wpList P ops Q rest (a.put o.dst (.slice (some ⟨b', off', none⟩) (n + 1) cap')) w') :
    wpList P ops Q (o :: rest) a w := by
  have hnews : ∀ j v, [Value.int .i64 (u : Nat)][j]? = some v → w.cell? (ad.add j) = some v := fun j v hv => by
    have hj : j = 0 := by
      have := (List.getElem?_eq_some_iff.1 hv).1
      simp at this; exact this
    subst hj
    simp at hv
    subst hv
    simpa [Addr.add] using hc
  refine wpList_append_arg w hg s x t hop e i (.int .i64 0) 1 8 h1 h2 h3 h4 h5 rfl (by decide) b off n cap (intCells q) hs (by rw [intCells, List.length_map, hq.len]; omega) (fun j v hv => ?_) ad 1 c [.int .i64 (u : Nat)] hx rfl hnews (by simp [Value.oneCell']) (fun hle j hj => ?_) (by unfold maxLen; omega) (by omega) (fun hle => ?_) (fun hlt v' w' ho hgr => ?_)
  · rw [intCells, List.getElem?_map] at hv
    cases hj : q[j]? with
    | none => rw [hj] at hv; cases hv
    | some y => rw [hj] at hv; simp at hv; subst hv; exact hq.cells j y hj
  · have hj0 : j = 0 := by simp at hj; exact hj
    subst hj0
    have ht := hq.there n (by omega)
    rw [show off + n = off + n * 1 + 0 by omega] at ht
    exact ht
  · refine hK b off cap _ ⟨hq.lo, ?_, by rw [List.length_append, hq.len]; rfl, by omega, hq.max, fun j v hv => ?_, fun j hj => ?_⟩ ⟨?_, ?_, ?_, ?_, fun k hk hne => ?_⟩ (.inl rfl)
    · exact Nat.lt_of_lt_of_le hq.hi (by show _ ≤ (w.setCell _ _).heap.size; simp [World.setCell])
    · rcases Nat.lt_or_ge j n with hj | hj
      · rw [List.getElem?_append_left (by rw [hq.len]; exact hj)] at hv
        rw [World.cell?_setCells_out b _ _ _ _ (fun _ _ => Or.inl (by show off + j < off + n * 1; omega))]
        exact hq.cells j v hv
      · rw [List.getElem?_append_right (by rw [hq.len]; exact hj), hq.len] at hv
        have hjn : j = n := by
          have := (List.getElem?_eq_some_iff.1 hv).1
          simp at this; omega
        subst hjn
        simp at hv
        subst hv
        have hsome : ∀ i, i < [Value.int .i64 (u : Nat)].length → (w.cell? ⟨b, off + j * 1 + i, none⟩).isSome = true := fun i hi => by
          have : i = 0 := by simp at hi; exact hi
          subst this
          have := (hq.there j (by omega)).1
          simpa using this
        have := World.cell?_setCells_in b [Value.int .i64 (u : Nat)] (off + j * 1) w hsome 0 (by simp)
        simpa using this
    · have ht := hq.there j hj
      refine ⟨?_, ?_⟩
      · by_cases hjn : j = n
        · subst hjn
          have hsome : ∀ i, i < [Value.int .i64 (u : Nat)].length → (w.cell? ⟨b, off + j * 1 + i, none⟩).isSome = true := fun i hi => by
            have : i = 0 := by simp at hi; exact hi
            subst this
            have := (hq.there j (by omega)).1
            simpa using this
          have := World.cell?_setCells_in b [Value.int .i64 (u : Nat)] (off + j * 1) w hsome 0 (by simp)
          have e : off + j * 1 + 0 = off + j := by omega
          rw [e] at this
          rw [this]; rfl
        · rw [World.cell?_setCells_out b _ _ _ _ (fun _ _ => by show off + j < off + n * 1 ∨ off + n * 1 + 1 ≤ off + j; omega)]
          exact ht.1
      · rw [World.frozen?_setCells]; exact ht.2
    · exact World.os_setCells _ _ _ _
    · rfl
    · exact World.output_setCells _ _ _ _
    · show _ ≤ (w.setCell _ _).heap.size; simp [World.setCell]
    · exact World.heap_setCells_other _ _ _ _ hk (fun e => hne (by rw [e]))
  · have hlen : (q ++ [u]).length = n + 1 := by rw [List.length_append, hq.len]; rfl
    obtain ⟨A, c', rfl, _⟩ := own_form ho
    have ho' : w'.ownsRow B e 1 (.slice A (n + 1) c') (q ++ [u]).length (intCells (q ++ [u])) := by
      rw [hlen]
      have := ownsRow_lower ho hB
      simpa [intCells] using this
    obtain ⟨g, rfl, hQ⟩ := QAt.of_own ho' (by omega) hlen
    exact hK g 0 c' w' hQ ⟨hgr.os, hgr.tape, hgr.output, hgr.size, fun k hk _ => hgr.block k hk (by simp)⟩ (.inr (ho.lt g rfl).1)

/-- A network with room for the calls of layer 5. -/
structure GPlan (p : PPlan) : Prop where
  n1 : 1 ≤ p.nodes.length
  n12 : p.nodes.length ≤ 12
  l16 : p.links.length ≤ 16
  link : ∀ (i : Nat) (l : PLink), p.links[i]? = some l → ∃ a b : Nat, l.a = a ∧ l.b = b ∧ a < b ∧ b < p.nodes.length
theorem gplan_right {p : PPlan} (h : rightB p = true) : GPlan p := by
  unfold rightB at h
  simp only [Bool.and_eq_true] at h
  obtain ⟨_, _, h1, h2, _⟩ := h
  unfold nodesB at h1
  unfold linksB at h2
  simp only [Bool.and_eq_true, decide_eq_true_eq] at h1 h2
  have h3 := h1.1
  unfold withinB at h3
  simp only [Bool.and_eq_true, decide_eq_true_eq] at h3
  refine ⟨by omega, by omega, h2.1, fun i l hl => ?_⟩
  have := (allF_iff _ _ _).1 h2.2 i l hl
  unfold linkOk placeB withinB at this
  simp only [Bool.and_eq_true, decide_eq_true_eq] at this
  obtain ⟨⟨b0, b1⟩, ⟨a0, a1⟩, _⟩ := this
  exact ⟨l.a.toNat, l.b.toNat, by omega, by omega, by omega, by omega⟩

/-- Is there a link between them that stands? -/
def adjB (p : PPlan) (f : Int) (u v : Nat) : Bool := (List.range p.links.length).any fun i => match p.links[i]? with
  | some l => !hasB f (i : Int) && (decide (l.a = u ∧ l.b = v) || decide (l.a = v ∧ l.b = u))
  | none => false
theorem adj_links {p : PPlan} {f : Int} {u v : Nat} : adjB p f u v = true ↔ ∃ (i : Nat) (l : PLink), p.links[i]? = some l ∧ hasB f (i : Int) = false ∧ ((l.a = u ∧ l.b = v) ∨ (l.a = v ∧ l.b = u)) := by
  unfold adjB
  rw [List.any_eq_true]
  constructor
  · rintro ⟨i, hi, h⟩
    cases hl : p.links[i]? with
    | none => rw [hl] at h; cases h
    | some l =>
      rw [hl] at h
      simp at h
      exact ⟨i, l, hl, h.1, h.2⟩
  · rintro ⟨i, l, hl, h1, h2⟩
    refine ⟨i, List.mem_range.2 (List.getElem?_eq_some_iff.1 hl).1, ?_⟩
    rw [hl]
    simp [h1, h2]
theorem gok {p : PPlan} (hg : GPlan p) (f : Int) : GOk (adjB p f) p.nodes.length :=
  ⟨fun u v h => by
    obtain ⟨i, l, h1, h2, h3⟩ := adj_links.1 h
    exact adj_links.2 ⟨i, l, h1, h2, h3.symm⟩, fun u v h => by
    obtain ⟨i, l, h1, h2, h3⟩ := adj_links.1 h
    obtain ⟨a, b, e1, e2, h4, h5⟩ := hg.link i l h1
    omega⟩
/-- The other end of a link, as a node. -/
def nextN (p : PPlan) (x : Int) (i : Nat) : Nat := match p.links[i]? with
  | some l => (otherI l x).toNat
  | none => 0
theorem next_at {p : PPlan} {x : Int} {i : Nat} {l : PLink} (h : p.links[i]? = some l) : nextN p x i = (otherI l x).toNat := by unfold nextN; rw [h]
theorem around_mem {p : PPlan} {f x : Int} {i : Nat} : i ∈ aroundB p f x ↔ ∃ l, p.links[i]? = some l ∧ 0 ≤ otherI l x ∧ hasB f (i : Int) = false := by
  unfold aroundB aroundK
  rw [List.mem_filter, List.mem_range]
  constructor
  · rintro ⟨h1, h2⟩
    obtain ⟨l, hl⟩ : ∃ l, p.links[i]? = some l := ⟨_, List.getElem?_eq_getElem h1⟩
    rw [arB_at hl] at h2
    simp at h2
    exact ⟨l, hl, h2⟩
  · rintro ⟨l, hl, h1, h2⟩
    exact ⟨(List.getElem?_eq_some_iff.1 hl).1, by rw [arB_at hl]; simp [h1, h2]⟩
theorem other_ends {p : PPlan} (hg : GPlan p) {i : Nat} {l : PLink} (hl : p.links[i]? = some l) {x : Nat} (h : 0 ≤ otherI l (x : Int)) : ∃ u : Nat, otherI l (x : Int) = u ∧ u < p.nodes.length ∧ ((l.a = x ∧ l.b = u) ∨ (l.a = u ∧ l.b = x)) := by
  obtain ⟨a, b, e1, e2, h4, h5⟩ := hg.link i l hl
  unfold otherI at h ⊢
  by_cases h1 : (x : Int) = l.a
  · rw [if_pos h1] at h ⊢
    exact ⟨b, e2, h5, .inl ⟨h1.symm, e2⟩⟩
  · rw [if_neg h1] at h ⊢
    by_cases h2 : (x : Int) = l.b
    · rw [if_pos h2] at h ⊢
      exact ⟨a, e1, by omega, .inr ⟨e1, h2.symm⟩⟩
    · rw [if_neg h2] at h; omega
theorem other_of {p : PPlan} (hg : GPlan p) {i : Nat} {l : PLink} (hl : p.links[i]? = some l) {x u : Nat} (h : (l.a = x ∧ l.b = u) ∨ (l.a = u ∧ l.b = x)) : otherI l (x : Int) = u := by
  obtain ⟨a, b, e1, e2, h4, h5⟩ := hg.link i l hl
  unfold otherI
  rcases h with ⟨h1, h2⟩ | ⟨h1, h2⟩
  · rw [if_pos h1.symm, h2]
  · rw [if_neg (by omega), if_pos h2.symm, h1]
theorem adj_next {p : PPlan} (hg : GPlan p) {f : Int} {x u : Nat} : adjB p f x u = true ↔ ∃ i, i ∈ aroundB p f (x : Int) ∧ nextN p (x : Int) i = u := by
  rw [adj_links]
  constructor
  · rintro ⟨i, l, hl, h1, h2⟩
    have h3 := other_of hg hl h2
    exact ⟨i, around_mem.2 ⟨l, hl, by omega, h1⟩, by rw [next_at hl, h3]; omega⟩
  · rintro ⟨i, hi, h⟩
    obtain ⟨l, hl, h1, h2⟩ := around_mem.1 hi
    obtain ⟨v, h3, _, h4⟩ := other_ends hg hl h1
    rw [next_at hl, h3] at h
    have : v = u := by omega
    subst this
    exact ⟨i, l, hl, h2, h4⟩
end Go.Proofs.Ytponlhgkgmlihaa
