/-
  GraphForest: the walk.
-/
import Derived.Deep.RegionHeld3
import Derived.Test.YtponlhgkgmlihaaGrH
import Derived.Test.YtponlhgkgmlihaaGrI
namespace Go.Proofs.Ytponlhgkgmlihaa
open Go.RowKit
set_option linter.unusedVariables false
set_option linter.unusedSimpArgs false

/-- Joined. -/
def JB (p : PPlan) (f : Int) (u v : Nat) : Prop := 0 ≤ distB (adjB p f) p.nodes.length u v
section
variable {p : PPlan} {f : Int}
theorem JB.refl {u : Nat} (hu : u < p.nodes.length) : JB p f u u := by unfold JB; rw [dist_self hu]; omega
theorem JB.lt (hg : GPlan p) {u v : Nat} (hu : u < p.nodes.length) (h : JB p f u v) : v < p.nodes.length := ball_lt (gok hg f) hu _ (dist_to (gok hg f) hu h)
theorem JB.symm (hg : GPlan p) {u v : Nat} (hu : u < p.nodes.length) (h : JB p f u v) : JB p f v u := by
  have hv := h.lt hg hu
  unfold JB at h ⊢
  rw [dist_sym (gok hg f) hv hu]; exact h
theorem JB.trans (hg : GPlan p) {u v w : Nat} (hu : u < p.nodes.length) (h : JB p f u v) (k : JB p f v w) : JB p f u w := (dist_tri (gok hg f) hu (h.lt hg hu) h k).1
theorem JB.neg {u v : Nat} (h : ¬ JB p f u v) : distB (adjB p f) p.nodes.length u v = -1 := by
  unfold JB at h
  have := dist_in (adjB p f) p.nodes.length u v
  omega
/-- With a link less. -/
theorem JB.orI (hg : GPlan p) {k a b : Nat} {lk : PLink} (hl : p.links[k]? = some lk) (ha : lk.a = a) (hb : lk.b = b) {s : Nat} (hs : s < p.nodes.length) {v : Nat} (h : JB p f s v) :
    JB p (orI f k) s v ∨ (JB p (orI f k) s a ∧ JB p (orI f k) b v) ∨ (JB p (orI f k) s b ∧ JB p (orI f k) a v) := by
  have hbl : a < p.nodes.length ∧ b < p.nodes.length := by
    obtain ⟨a', b', e1, e2, h1, h2⟩ := hg.link k lk hl
    omega
  have key : ∀ (j : Nat) (v : Nat), ballB (adjB p f) p.nodes.length s j v = true → JB p (Go.Proofs.Ytponlhgkgmlihaa.orI f k) s v ∨ (JB p (Go.Proofs.Ytponlhgkgmlihaa.orI f k) s a ∧ JB p (Go.Proofs.Ytponlhgkgmlihaa.orI f k) b v) ∨ (JB p (Go.Proofs.Ytponlhgkgmlihaa.orI f k) s b ∧ JB p (Go.Proofs.Ytponlhgkgmlihaa.orI f k) a v) := by
    intro j
    induction j with
    | zero => intro v hv; rw [ball_zero] at hv; subst hv; exact .inl (JB.refl hs)
    | succ j ih =>
      intro v hv
      rcases ball_succ.1 hv with hv | ⟨u, hu, hbu, hadj⟩
      · exact ih v hv
      · have hG := gok hg (Go.Proofs.Ytponlhgkgmlihaa.orI f k)
        rcases adj_orI hg hl hadj with h1 | ⟨h1, h2⟩ | ⟨h1, h2⟩
        · rcases ih u hbu with i1 | ⟨i1, i2⟩ | ⟨i1, i2⟩
          · exact .inl (dist_step hG hs h1 i1).1
          · exact .inr (.inl ⟨i1, (dist_step hG hbl.2 h1 i2).1⟩)
          · exact .inr (.inr ⟨i1, (dist_step hG hbl.1 h1 i2).1⟩)
        · have e1 : u = a := by omega
          have e2 : v = b := by omega
          subst e1 e2
          rcases ih u hbu with i1 | ⟨i1, i2⟩ | ⟨i1, i2⟩
          · exact .inr (.inl ⟨i1, JB.refl hbl.2⟩)
          · exact .inr (.inl ⟨i1, JB.refl hbl.2⟩)
          · exact .inl i1
        · have e1 : u = b := by omega
          have e2 : v = a := by omega
          subst e1 e2
          rcases ih u hbu with i1 | ⟨i1, i2⟩ | ⟨i1, i2⟩
          · exact .inr (.inr ⟨i1, JB.refl hbl.1⟩)
          · exact .inl i1
          · exact .inr (.inr ⟨i1, JB.refl hbl.1⟩)
  exact key _ v (dist_to (gok hg f) hs h)
theorem JB.more (hg : GPlan p) {g : Int} (hm : MoreF f g) {u v : Nat} (hu : u < p.nodes.length) (h : JB p g u v) : JB p f u v := by
  rcases dist_more hg hm hu v with h1 | h1
  · unfold JB at h; omega
  · exact h1.1
end
/-- The first one of its part. -/
def repB (p : PPlan) (f : Int) (v : Nat) : Bool := (List.range v).all fun u => decide (distB (adjB p f) p.nodes.length v u = -1)
def partsK (p : PPlan) (f : Int) (k : Nat) : Nat := (List.range k).countP (repB p f)
def upK (p : PPlan) (f : Int) (k : Nat) : Nat := (List.range k).countP fun i : Nat => !hasB f (i : Int)
section
variable {p : PPlan} {f : Int}
theorem rep_iff (hg : GPlan p) {v : Nat} : repB p f v = true ↔ ∀ u, u < v → ¬ JB p f v u := by
  unfold repB
  rw [List.all_eq_true]
  constructor
  · intro h u hu hj
    have := h u (List.mem_range.2 hu)
    simp at this
    unfold JB at hj
    omega
  · intro h u hu
    have := JB.neg (h u (List.mem_range.1 hu))
    simp [this]
theorem count_one {q r : Nat → Bool} {l : List Nat} (hn : l.Nodup) (hqr : ∀ x ∈ l, q x = true → r x = true) {m : Nat} (hm : m ∈ l) (h1 : r m = true) (h2 : q m = false) (h3 : ∀ x ∈ l, r x = true → q x = false → x = m) : l.countP r = l.countP q + 1 := by
  induction l with
  | nil => simp at hm
  | cons a t ih =>
    have hn' := List.nodup_cons.1 hn
    rw [List.countP_cons, List.countP_cons]
    by_cases e : a = m
    · subst e
      have : t.countP r = t.countP q := List.countP_congr fun x hx => by
        constructor
        · intro h
          cases hq : q x with
          | true => rfl
          | false => exact absurd (h3 x (List.mem_cons_of_mem _ hx) h hq ▸ hx) hn'.1
        · exact hqr x (List.mem_cons_of_mem _ hx)
      rw [this, h1, h2]; simp
    · have hm' : m ∈ t := by rcases List.mem_cons.1 hm with h | h; exact absurd h.symm e; exact h
      have ih' := ih hn'.2 (fun x hx => hqr x (List.mem_cons_of_mem _ hx)) hm' (fun x hx => h3 x (List.mem_cons_of_mem _ hx))
      have ha : r a = q a := by
        cases hr : r a with
        | true =>
          cases hq : q a with
          | true => rfl
          | false => exact absurd (h3 a List.mem_cons_self hr hq) e
        | false =>
          cases hq : q a with
          | true => have := hqr a List.mem_cons_self hq; rw [hr] at this; cases this
          | false => rfl
      rw [ih', ha]; omega
/-- The least node of a part. -/
theorem least (hg : GPlan p) {a : Nat} (ha : a < p.nodes.length) : ∃ m, JB p f a m ∧ ∀ u, u < m → ¬ JB p f a u := by
  have key : ∀ n, (∃ m, m ≤ n ∧ JB p f a m ∧ ∀ u, u < m → ¬ JB p f a u) ∨ ∀ u, u ≤ n → ¬ JB p f a u := by
    intro n
    induction n with
    | zero =>
      by_cases h : JB p f a 0
      · exact .inl ⟨0, Nat.le_refl _, h, fun u hu => by omega⟩
      · exact .inr fun u hu => by rw [show u = 0 by omega]; exact h
    | succ n ih =>
      rcases ih with ⟨m, h1, h2⟩ | h
      · exact .inl ⟨m, by omega, h2⟩
      · by_cases h' : JB p f a (n + 1)
        · exact .inl ⟨n + 1, Nat.le_refl _, h', fun u hu => h u (by omega)⟩
        · refine .inr fun u hu => ?_
          by_cases e : u = n + 1
          · subst e; exact h'
          · exact h u (by omega)
  rcases key a with ⟨m, _, h⟩ | h
  · exact ⟨m, h⟩
  · exact absurd (JB.refl ha) (h a (Nat.le_refl _))
theorem rep_more (hg : GPlan p) {g : Int} (hm : MoreF f g) {v : Nat} (hv : v < p.nodes.length) (h : repB p f v = true) : repB p g v = true := by
  rw [rep_iff hg] at h ⊢
  exact fun u hu hj => h u hu (hj.more hg hm hv)
/-- A link less: as many parts, if its ends are joined without it; else one more. -/
theorem parts_orI (hg : GPlan p) {k a b : Nat} {lk : PLink} (hl : p.links[k]? = some lk) (ha : lk.a = a) (hb : lk.b = b) (hh : hasB f (k : Int) = false) :
    partsK p (orI f k) p.nodes.length = partsK p f p.nodes.length + (if cutB p f k then 1 else 0) := by
  have hk : k < 16 := by have := (List.getElem?_eq_some_iff.1 hl).1; have := hg.l16; omega
  have hbl : a < p.nodes.length ∧ b < p.nodes.length := by
    obtain ⟨a', b', e1, e2, h1, h2⟩ := hg.link k lk hl
    omega
  have hm := moreF_orI f hk
  have hct : cutB p f k = decide (distB (adjB p (orI f k)) p.nodes.length a b = -1) := by
    rw [cutB_at hl, ha, hb, hh, Int.toNat_natCast, Int.toNat_natCast]; rfl
  have hab : JB p f a b := by
    have hadj : adjB p f a b = true := adj_links.2 ⟨k, lk, hl, hh, .inl ⟨ha, hb⟩⟩
    exact (dist_step (gok hg f) hbl.1 hadj (by rw [dist_self hbl.1]; omega)).1
  by_cases hj : JB p (orI f k) a b
  · have hc : cutB p f k = false := by
      rw [hct]
      unfold JB at hj
      exact decide_eq_false (by omega)
    rw [hc]
    unfold partsK
    simp only [Bool.false_eq_true, if_false, Nat.add_zero]
    refine List.countP_congr fun v hv => ?_
    have hvn := List.mem_range.1 hv
    constructor
    · intro h
      rw [rep_iff hg] at h ⊢
      intro u hu hju
      refine h u hu ?_
      rcases hju.orI hg hl ha hb hvn with h1 | ⟨h1, h2⟩ | ⟨h1, h2⟩
      · exact h1
      · exact (h1.trans hg hvn hj).trans hg hvn h2
      · exact (h1.trans hg hvn (hj.symm hg hbl.1)).trans hg hvn h2
    · exact rep_more hg hm hvn
  · have hc : cutB p f k = true := by rw [hct]; exact decide_eq_true (JB.neg hj)
    rw [hc]
    simp only [if_true]
    obtain ⟨ma, a1, a2⟩ := least (f := orI f k) hg hbl.1
    obtain ⟨mb, b1, b2⟩ := least (f := orI f k) hg hbl.2
    have man := a1.lt hg hbl.1
    have mbn := b1.lt hg hbl.2
    have repa : repB p (orI f k) ma = true := (rep_iff hg).2 fun u hu h => a2 u hu (a1.trans hg hbl.1 h)
    have repb : repB p (orI f k) mb = true := (rep_iff hg).2 fun u hu h => b2 u hu (b1.trans hg hbl.2 h)
    have hne : ma ≠ mb := fun e => hj (a1.trans hg hbl.1 (e ▸ (b1.symm hg hbl.2)))
    have hmm : JB p f ma mb := (((a1.more hg hm hbl.1).symm hg hbl.1).trans hg man hab).trans hg man (b1.more hg hm hbl.2)
    have huniq : ∀ v, v < p.nodes.length → repB p (orI f k) v = true → repB p f v = false → (v = ma ∧ mb < ma) ∨ (v = mb ∧ ma < mb) := by
      intro v hv h1 h2
      have h2' : ¬ (∀ u, u < v → ¬ JB p f v u) := fun h => by rw [(rep_iff hg).2 h] at h2; cases h2
      obtain ⟨u, hu⟩ := Classical.not_forall.1 h2'
      have hu1 : u < v := Classical.byContradiction fun h => hu fun h' => absurd h' h
      have hu2 : JB p f v u := Classical.byContradiction fun h => hu fun _ => h
      have h1' := (rep_iff hg).1 h1
      rcases hu2.orI hg hl ha hb hv with i1 | ⟨i1, i2⟩ | ⟨i1, i2⟩
      · exact absurd i1 (h1' u hu1)
      · refine .inl ?_
        have hva : JB p (orI f k) a v := i1.symm hg hv
        have e : v = ma := by
          rcases Nat.lt_trichotomy v ma with h | h | h
          · exact absurd hva (a2 v h)
          · exact h
          · exact absurd (i1.trans hg hv a1) (h1' ma h)
        refine ⟨e, ?_⟩
        have : mb ≤ u := Nat.not_lt.1 fun h => b2 u h i2
        omega
      · refine .inr ?_
        have hvb : JB p (orI f k) b v := i1.symm hg hv
        have e : v = mb := by
          rcases Nat.lt_trichotomy v mb with h | h | h
          · exact absurd hvb (b2 v h)
          · exact h
          · exact absurd (i1.trans hg hv b1) (h1' mb h)
        refine ⟨e, ?_⟩
        have : ma ≤ u := Nat.not_lt.1 fun h => a2 u h i2
        omega
    unfold partsK
    rcases Nat.lt_or_gt_of_ne hne with hlt | hlt
    · refine count_one List.nodup_range (fun x hx => rep_more hg hm (List.mem_range.1 hx)) (List.mem_range.2 mbn) repb ?_ fun x hx h1 h2 => ?_
      · cases h : repB p f mb with
        | false => rfl
        | true => exact absurd (hmm.symm hg man) ((rep_iff hg).1 h ma hlt)
      · rcases huniq x (List.mem_range.1 hx) h1 h2 with ⟨_, h⟩ | ⟨h, _⟩
        · omega
        · exact h
    · refine count_one List.nodup_range (fun x hx => rep_more hg hm (List.mem_range.1 hx)) (List.mem_range.2 man) repa ?_ fun x hx h1 h2 => ?_
      · cases h : repB p f ma with
        | false => rfl
        | true => exact absurd hmm ((rep_iff hg).1 h mb hlt)
      · rcases huniq x (List.mem_range.1 hx) h1 h2 with ⟨h, _⟩ | ⟨_, h⟩
        · exact h
        · omega
theorem up_orI (hg : GPlan p) {k : Nat} (hk : k < p.links.length) (hh : hasB f (k : Int) = false) : upK p f p.links.length = upK p (orI f k) p.links.length + 1 := by
  have hk16 : k < 16 := by have := hg.l16; omega
  unfold upK
  refine count_one List.nodup_range (fun i _ h => ?_) (List.mem_range.2 hk) (by simp [hh]) (by rw [hasB_orI _ _ _ hk16]; simp) fun i _ h1 h2 => ?_
  · rw [hasB_orI _ _ _ hk16] at h
    simp at h ⊢
    exact h.1
  · rw [hasB_orI _ _ _ hk16] at h2
    simp at h1 h2
    exact h2 h1
theorem cut_more (hg : GPlan p) {k j : Nat} (hk : k < 16) (hkj : j ≠ k) (h : cutB p f j = true) : cutB p (orI f k) j = true := by
  unfold cutB at h ⊢
  cases hl : p.links[j]? with
  | none => rw [hl] at h; cases h
  | some l =>
    rw [hl] at h
    simp only [Bool.and_eq_true, decide_eq_true_eq] at h ⊢
    have hj : j < 16 := by have := (List.getElem?_eq_some_iff.1 hl).1; have := hg.l16; omega
    have hh : hasB f (j : Int) = false := by simpa using h.1
    obtain ⟨a, b, e1, e2, h1, h2⟩ := hg.link j l hl
    have hm : MoreF (orI f j) (orI (orI f k) j) := fun i hi => by
      rw [hasB_orI _ _ _ hj, hasB_orI _ _ _ hk] at hi
      rw [hasB_orI _ _ _ hj]
      simp at hi ⊢
      exact ⟨hi.1.1, hi.2⟩
    refine ⟨by rw [hasB_orI _ _ _ hk, hh]; simp [hkj], ?_⟩
    rw [e1, e2, Int.toNat_natCast, Int.toNat_natCast] at h ⊢
    have hd := dist_in (adjB p (orI (orI f k) j)) p.nodes.length a b
    rcases dist_more hg hm (show a < p.nodes.length by omega) b with h3 | h3
    · omega
    · have := h.2; omega
theorem forest (hg : GPlan p) : ∀ (m : Nat) (f : Int), upK p f p.links.length = m → p.nodes.length ≤ partsK p f p.nodes.length + m ∧ (p.nodes.length = partsK p f p.nodes.length + m ↔ ∀ i, i < p.links.length → hasB f (i : Int) = false → cutB p f i = true)
  | 0, f, hu => by
    have hall : ∀ i, i < p.links.length → hasB f (i : Int) = true := fun i hi => by
      unfold upK at hu
      rw [List.countP_eq_zero] at hu
      have := hu i (List.mem_range.2 hi)
      simpa using this
    have hno : ∀ u v, adjB p f u v = true → False := fun u v h => by
      obtain ⟨i, l, h1, h2, _⟩ := adj_links.1 h
      rw [hall i (List.getElem?_eq_some_iff.1 h1).1] at h2; cases h2
    have hball : ∀ (j : Nat) {s v : Nat}, ballB (adjB p f) p.nodes.length s j v = true → v = s := by
      intro j
      induction j with
      | zero => intro s v h; exact ball_zero.1 h
      | succ j ih =>
        intro s v h
        rcases ball_succ.1 h with h | ⟨u, _, _, ha⟩
        · exact ih h
        · exact (hno _ _ ha).elim
    have hp : partsK p f p.nodes.length = p.nodes.length := by
      unfold partsK
      have : (List.range p.nodes.length).countP (repB p f) = (List.range p.nodes.length).length := by
        rw [List.countP_eq_length]
        intro v hv
        refine (rep_iff hg).2 fun u hu hj => ?_
        have := hball _ (dist_to (gok hg f) (List.mem_range.1 hv) hj)
        omega
      rw [this, List.length_range]
    rw [hp]
    exact ⟨by omega, ⟨fun _ i hi h => (by rw [hall i hi] at h; cases h), fun _ => by omega⟩⟩
  | m + 1, f, hu => by
    have step : ∀ i, i < p.links.length → hasB f (i : Int) = false → p.nodes.length ≤ partsK p f p.nodes.length + (if cutB p f i then 1 else 0) + m ∧ (p.nodes.length = partsK p f p.nodes.length + (if cutB p f i then 1 else 0) + m ↔ ∀ j, j < p.links.length → hasB (orI f i) (j : Int) = false → cutB p (orI f i) j = true) := fun i hi hh => by
      obtain ⟨lk, hl⟩ : ∃ l, p.links[i]? = some l := ⟨_, List.getElem?_eq_getElem hi⟩
      obtain ⟨a, b, e1, e2, _, _⟩ := hg.link i lk hl
      have h1 := up_orI hg hi hh
      have h2 := forest hg m (orI f i) (by omega)
      rw [parts_orI hg hl e1 e2 hh] at h2
      exact h2
    have hex : ∃ i, i < p.links.length ∧ hasB f (i : Int) = false := by
      unfold upK at hu
      have : 0 < (List.range p.links.length).countP fun i : Nat => !hasB f (i : Int) := by omega
      obtain ⟨i, hi, h⟩ := List.countP_pos_iff.1 this
      exact ⟨i, List.mem_range.1 hi, by simpa using h⟩
    obtain ⟨i, hi, hh⟩ := hex
    have h1 := (step i hi hh).1
    refine ⟨by split at h1 <;> omega, ⟨fun he j hj hjh => ?_, fun hall => ?_⟩⟩
    · have h2 := (step j hj hjh).1
      cases hc : cutB p f j with
      | true => rfl
      | false =>
        rw [hc] at h2
        simp at h2
        omega
    · have hi16 : i < 16 := by have := hg.l16; omega
      have h2 := (step i hi hh).2.2 fun j hj hjh => by
        rw [hasB_orI _ _ _ hi16] at hjh
        simp at hjh
        exact cut_more hg hi16 hjh.2 (hall j hj hjh.1)
      rw [hall i hi hh] at h2
      simp at h2
      omega
/-- Each link that stands has two ends. -/
theorem ends_count (hg : GPlan p) (f : Int) : ∀ K, K ≤ p.links.length → ((List.range p.nodes.length).map fun n : Nat => (aroundK p f (n : Int) K).length).sum = 2 * upK p f K
  | 0, _ => by
    unfold upK
    have : ((List.range p.nodes.length).map fun n : Nat => (aroundK p f (n : Int) 0).length) = (List.range p.nodes.length).map fun _ => 0 := by
      refine List.map_congr_left fun n _ => ?_
      rfl
    have h0 : ∀ l : List Nat, (l.map fun _ => 0).sum = 0 := fun l => by induction l <;> simp_all
    rw [this, h0]
    simp
  | K + 1, hK => by
    have ih := ends_count hg f K (by omega)
    obtain ⟨lk, hl⟩ : ∃ l, p.links[K]? = some l := ⟨_, List.getElem?_eq_getElem hK⟩
    obtain ⟨a, b, e1, e2, h1, h2⟩ := hg.link K lk hl
    have hup : upK p f (K + 1) = upK p f K + (if hasB f (K : Int) then 0 else 1) := by
      unfold upK
      rw [List.range_succ, List.countP_append, List.countP_singleton]
      cases hasB f (K : Int) <;> simp
    have har : ∀ n : Nat, arB p f (n : Int) K = (!hasB f (K : Int) && (decide (n = a) || decide (n = b))) := fun n => by
      rw [arB_at hl]
      unfold otherI
      rw [e1, e2]
      by_cases c1 : (n : Int) = (a : Int)
      · have : n = a := by omega
        subst this
        simp [Bool.and_comm]
      · rw [if_neg c1]
        by_cases c2 : (n : Int) = (b : Int)
        · have : n = b := by omega
          subst this
          simp [Bool.and_comm]
        · rw [if_neg c2]
          have : ¬ n = a := by omega
          have : ¬ n = b := by omega
          simp [*]
    have hlen : ∀ n : Nat, (aroundK p f (n : Int) (K + 1)).length = (aroundK p f (n : Int) K).length + (if arB p f (n : Int) K then 1 else 0) := fun n => by
      cases h : arB p f (n : Int) K with
      | true => rw [aroundK_yes h]; simp
      | false => rw [aroundK_no h]; simp
    have hsum : ∀ (l : List Nat), (l.map fun n : Nat => (aroundK p f (n : Int) (K + 1)).length).sum = (l.map fun n : Nat => (aroundK p f (n : Int) K).length).sum + l.countP fun n : Nat => arB p f (n : Int) K := fun l => by
      induction l with
      | nil => rfl
      | cons x r ih => rw [List.map_cons, List.sum_cons, List.map_cons, List.sum_cons, List.countP_cons, ih, hlen x]; omega
    have htwo : (List.range p.nodes.length).countP (fun n : Nat => arB p f (n : Int) K) = if hasB f (K : Int) then 0 else 2 := by
      cases hh : hasB f (K : Int) with
      | true =>
        rw [if_pos rfl, List.countP_eq_zero]
        intro n _
        rw [har, hh]; simp
      | false =>
        simp only [Bool.false_eq_true, if_false]
        have c1 : (List.range p.nodes.length).countP (fun n : Nat => decide (n = a)) = 1 := by
          have := count_one (q := fun _ => false) (r := fun n : Nat => decide (n = a)) (l := List.range p.nodes.length) List.nodup_range (fun _ _ h => by cases h) (List.mem_range.2 (show a < _ by omega)) (by simp) rfl (fun x _ h _ => by simpa using h)
          rw [this]; simp
        have c2 := count_one (q := fun n : Nat => decide (n = a)) (r := fun n : Nat => arB p f (n : Int) K) (l := List.range p.nodes.length) List.nodup_range (fun x _ h => by simp at h; subst h; rw [har, hh]; simp) (List.mem_range.2 (show b < _ by omega)) (by rw [har, hh]; simp) (by simp; omega) (fun x _ h h' => by rw [har, hh] at h; simp at h h'; rcases h with h | h; exact absurd h h'; exact h)
        rw [c2, c1]
    rw [hsum, ih, htwo, hup]
    split <;> omega
/-- The first node that is told is the node itself, if it's the first one of its part. -/
theorem reach_head (hg : GPlan p) {v : Nat} (hv : v < p.nodes.length) : ∃ u, (reachB p f (v : Int))[0]? = some u ∧ (u = v ↔ repB p f v = true) := by
  have hself : v ∈ reachB p f (v : Int) := by rw [reach_mem hg hv, dist_self hv]; omega
  have hpos := List.length_pos_of_mem hself
  obtain ⟨u, hu⟩ : ∃ u, (reachB p f (v : Int))[0]? = some u := ⟨_, List.getElem?_eq_getElem hpos⟩
  refine ⟨u, hu, ?_⟩
  have hum := List.mem_of_getElem? hu
  have hle : ∀ x ∈ reachB p f (v : Int), u ≤ x := fun x hx => by
    obtain ⟨j, hj, hj2⟩ := List.getElem_of_mem hx
    have e : (reachB p f (v : Int))[0] = u := by rw [List.getElem?_eq_getElem hpos] at hu; injection hu
    by_cases h0 : j = 0
    · subst h0; omega
    · have := List.pairwise_iff_getElem.1 (reach_rises p f (v : Int)) 0 j hpos hj (by omega)
      omega
  rw [reach_mem hg hv] at hum
  constructor
  · intro e
    refine (rep_iff hg).2 fun x hx hj => ?_
    have := hle x ((reach_mem hg hv).2 hj)
    omega
  · intro h
    have h1 := hle v hself
    by_cases e : u = v
    · exact e
    · exact absurd hum ((rep_iff hg).1 h u (by omega))
end

def endsK (p : PPlan) (f : Int) (k : Nat) : Nat := ((List.range k).map fun n : Nat => (aroundB p f (n : Int)).length).sum
theorem endsK_succ (p : PPlan) (f : Int) (k : Nat) : endsK p f (k + 1) = endsK p f k + (aroundB p f (k : Int)).length := by
  unfold endsK
  rw [List.range_succ, List.map_append, List.sum_append]
  simp
theorem partsK_succ (p : PPlan) (f : Int) (k : Nat) : partsK p f (k + 1) = partsK p f k + (if repB p f k then 1 else 0) := by
  unfold partsK
  rw [List.range_succ, List.countP_append, List.countP_singleton]
theorem partsK_le (p : PPlan) (f : Int) (k : Nat) : partsK p f k ≤ k := by
  have := List.countP_le_length (p := repB p f) (l := List.range k)
  simpa [partsK] using this
theorem upK_succ (p : PPlan) (f : Int) (k : Nat) : upK p f (k + 1) = upK p f k + (if hasB f (k : Int) then 0 else 1) := by
  unfold upK
  rw [List.range_succ, List.countP_append, List.countP_singleton]
  cases hasB f (k : Int) <;> simp
theorem upK_le (p : PPlan) (f : Int) (k : Nat) : upK p f k ≤ k := by
  have := List.countP_le_length (p := fun i : Nat => !hasB f (i : Int)) (l := List.range k)
  simpa [upK] using this
theorem endsK_le (p : PPlan) (f : Int) (k : Nat) : endsK p f k ≤ k * p.links.length := by
  induction k with
  | zero => simp [endsK]
  | succ k ih =>
    rw [endsK_succ, Nat.succ_mul]
    have := aroundK_len p f (k : Int) p.links.length
    unfold aroundB
    omega
theorem filter_count (q : Nat → Bool) (l : List Nat) : (l.filter q).length = l.countP q := by
  rw [List.countP_eq_length_filter]
/-- As many cuts as links stand: each of these is a cut. -/
theorem cuts_all {p : PPlan} (hg : GPlan p) (f : Int) : (cutsB p f).length = upK p f p.links.length ↔ ∀ i, i < p.links.length → hasB f (i : Int) = false → cutB p f i = true := by
  have hc : (cutsB p f).length = (List.range p.links.length).countP (cutB p f) := by
    unfold cutsB cutsK
    rw [List.countP_eq_length_filter]
  rw [hc]
  unfold upK
  have key : ∀ l : List Nat, (∀ i ∈ l, cutB p f i = true → (!hasB f (i : Int)) = true) → l.countP (cutB p f) ≤ l.countP (fun i : Nat => !hasB f (i : Int)) ∧ (l.countP (cutB p f) = l.countP (fun i : Nat => !hasB f (i : Int)) ↔ ∀ i ∈ l, hasB f (i : Int) = false → cutB p f i = true) := by
    intro l
    induction l with
    | nil => intro _; simp
    | cons a t ih =>
      intro h
      obtain ⟨i1, i2⟩ := ih fun i hi => h i (List.mem_cons_of_mem _ hi)
      have ha := h a List.mem_cons_self
      rw [List.countP_cons, List.countP_cons]
      cases h1 : cutB p f a with
      | true =>
        have h2 := ha h1
        rw [h2]
        refine ⟨by simp; omega, ?_⟩
        constructor
        · intro e i hi hh
          rcases List.mem_cons.1 hi with rfl | hi
          · exact h1
          · exact i2.1 (by simp at e; omega) i hi hh
        · intro hall
          have := i2.2 fun i hi => hall i (List.mem_cons_of_mem _ hi)
          simp; omega
      | false =>
        cases h2 : hasB f (a : Int) with
        | true =>
          refine ⟨by simp; omega, ?_⟩
          constructor
          · intro e i hi hh
            rcases List.mem_cons.1 hi with rfl | hi
            · rw [h2] at hh; cases hh
            · exact i2.1 (by simp at e; omega) i hi hh
          · intro hall
            have := i2.2 fun i hi => hall i (List.mem_cons_of_mem _ hi)
            simp; omega
        | false =>
          refine ⟨by simp; omega, ?_⟩
          constructor
          · intro e
            simp at e
            omega
          · intro hall
            have := hall a List.mem_cons_self h2
            rw [h1] at this; cases this
  have h := (key (List.range p.links.length) fun i _ h => by
    obtain ⟨a, b⟩ : hasB f (i : Int) = false ∧ True := ⟨cut_stands h, trivial⟩
    simp [a]).2
  rw [h]
  exact ⟨fun h i hi => h i (List.mem_range.2 hi), fun h i hi => h i (List.mem_range.1 hi)⟩
set_option maxHeartbeats 4000000 in
set_option maxRecDepth 100000 in
theorem graphForest_walk (A : Option Addr) (c : Nat) (l : List Int) (hwf : ∀ v ∈ l, InI v) (hm : l.length ≤ 9223372036854775807) (hc : l.length ≤ c) (hcm : c ≤ 9223372036854775807) (f0 : Int) (hf0 : InI f0) (w : World) (hA : CellsAt w w.heap.size A (l.map (Value.int .i64))) :
    Calls Try.prog 9 #[.slice A l.length c, .int .i64 f0] w fun e w' => e = .returned (.bool true) ∧ Below w.heap.size w w' := by
  obtain ⟨p, hp⟩ : ∃ p, netOf l = p := ⟨_, rfl⟩
  have hk := netOk l
  rw [hp] at hk
  have HP := Lib.hid hp
  have HM := Lib.hid hwf
  clear hp hwf
  obtain ⟨n, hn⟩ : ∃ n, l.length = n := ⟨_, rfl⟩
  rw [hn] at hm hc ⊢
  have HLEN := Lib.hid hn
  clear hn
  have hn1 := hk.nodes1
  have hg := gplan_right hk.right.out
  obtain ⟨f, hf, hfl⟩ := pickN_nat f0 512 (by omega)
  have Pf := Lib.hid (show pickN f0 512 = (f : Int) from hf)
  clear hf
  have hfor := forest hg (upK p (f : Int) p.links.length) (f : Int) rfl
  have hcu := cuts_all hg (f : Int)
  have hen : endsK p (f : Int) p.nodes.length = 2 * upK p (f : Int) p.links.length := ends_count hg (f : Int) p.links.length (Nat.le_refl _)
  rw [← hcu] at hfor
  have hl16 := hg.l16
  have hn12 := hg.n12
  have hup := upK_le p (f : Int) p.links.length
  have hpa := partsK_le p (f : Int) p.nodes.length
  obtain ⟨C, hC⟩ : ∃ L, cutsB p (f : Int) = L := ⟨_, rfl⟩
  obtain ⟨nc, hnc⟩ : ∃ m, C.length = m := ⟨_, rfl⟩
  have hnc16 : nc ≤ 16 := by
    have h1 := cutsK_len p f p.links.length
    rw [← hnc, ← hC]
    unfold cutsB
    omega
  rw [hC, hnc] at hfor
  have HC := Lib.hid hC
  have HNC := Lib.hid hnc
  have HFOR := Lib.hid hfor
  have HEN := Lib.hid hen
  have HUP := Lib.hid hup
  have HPA := Lib.hid hpa
  clear hcu hC hnc hfor hen hup hpa
  obtain ⟨ii, hi, hz0, hz1, hz2⟩ := info_parts intInfo
  go_enter Try.func9, Try.ntmps9
  go_wp2_with (first
    | (go_at_call 10; refine (awake5_any _).mono ?_; rintro e w1 ⟨rfl, hb1⟩; have hA1 := (hA.below hb1).more hb1.size)
    | (go_at_call 11; refine (Net_at p l HP A n c HLEN.out HM.out hm hc hcm _ hA1).mono ?_; rintro e w2 ⟨An, cn, Al, cl, Ad, cd, Ac, cc, rfl, ho, hb2⟩; have h0 := PBox.new hb1 hb2 ho; obtain ⟨q0, q1, q2, q3, q4, q5, q6⟩ := h0.cells)
    | (go_at_call 13; (with_reducible refine (pick5_is f0 512 f hf0 (by omega) (by omega) Pf _).mono ?_); rintro e w3 ⟨rfl, rfl⟩))
  clear hA1 q0 q1 q2 q3 q4 q5 q6 ho hb2 hb1 hA
  go_loopw [8, 9, 10] (fun s8 s9 s10 wr => ∃ k : Nat, k ≤ p.nodes.length ∧ s10 = .int .i64 (k : Nat) ∧ s8 = .int .i64 (partsK p f k : Nat) ∧ s9 = .int .i64 (endsK p f k : Nat) ∧ PBox w.heap.size w w2.heap.size p An p.nodes.length cn Al p.links.length cl Ad p.dests.length cd Ac p.checks.length cc wr) (fun _ _ s10 _ => p.nodes.length - (intOf s10).toNat)
  case atStart => exact ⟨0, Nat.zero_le _, rfl, rfl, rfl, h0⟩
  case round =>
    clear h0
    obtain ⟨k, hkm, rfl, rfl, rfl, hx⟩ := hrel
    obtain ⟨q0, q1, q2, q3, q4, q5, q6⟩ := hx.cells
    have hpk := partsK_le p (f : Int) k
    have hek := endsK_le p (f : Int) k
    have hek2 : k * p.links.length ≤ 12 * 16 := Nat.mul_le_mul (by omega) hl16
    by_cases hlt : k < p.nodes.length
    · obtain ⟨u, hu, hrep⟩ := reach_head hg (f := (f : Int)) hlt
      obtain ⟨L, hL⟩ : ∃ L, reachB p (f : Int) (k : Int) = L := ⟨_, rfl⟩
      rw [hL] at hu
      obtain ⟨nl, hnl⟩ : ∃ m, L.length = m := ⟨_, rfl⟩
      have hnl1 : 1 ≤ nl := by rw [← hnl]; have := (List.getElem?_eq_some_iff.1 hu).1; omega
      have hps := partsK_succ p (f : Int) k
      have hes := endsK_succ p (f : Int) k
      obtain ⟨M, hM⟩ : ∃ L, aroundB p (f : Int) (k : Int) = L := ⟨_, rfl⟩
      obtain ⟨nm, hnm⟩ : ∃ m, M.length = m := ⟨_, rfl⟩
      have hm16 : nm ≤ 16 := by
        have h1 := aroundK_len p f (k : Int) p.links.length
        rw [← hnm, ← hM]
        unfold aroundB
        omega
      rw [hM, hnm] at hes
      have HL := Lib.hid hL
      have HNL := Lib.hid hnl
      have HMM := Lib.hid hM
      have HNM := Lib.hid hnm
      have HES := Lib.hid hes
      have HU := Lib.hid hu
      have n0 : (0 : Int) ≤ (k : Int) := by omega
      have n1 : (k : Int) < (p.nodes.length : Int) := by omega
      clear hL hnl hM hnm hes hu
      have t1 : ((u : Int) == (k : Int)) = repB p (f : Int) k := by
        rw [Bool.eq_iff_iff, beq_iff_eq, ← hrep]
        omega
      cases hr : repB p (f : Int) k
      all_goals
        rw [hr] at hps t1
        simp only [if_true, if_false, Bool.false_eq_true, Nat.add_zero] at hps
        have HPS := Lib.hid hps
        clear hps
        clear hrep hr
        go_wp2_with (first
          | (go_at_call 19; (with_reducible refine (Reach_ok f k L nl HL HNL hk.right hk.small hx.at_).mono ?_); rintro e w4 ⟨AL, cL, rfl, ho4, hb4⟩; have hx4 := hx.go hb4; have hrl := RowAt.of_own ho4; obtain ⟨q0, q1, q2, q3, q4, q5, q6⟩ := hx4.cells; obtain ⟨gL, hAL, hgL, hcL⟩ := hrl.nat HU.out; subst hAL; have cu := hcL 0 u HU.out)
          | (go_at_call 15; (with_reducible refine (Around_ok f k M nm HMM HNM hk.right hk.small hx4.at_).mono ?_); rintro e w5 ⟨AM, cM, rfl, ho5, hb5⟩; have hx5 := hx4.go hb5; obtain ⟨q0, q1, q2, q3, q4, q5, q6⟩ := hx5.cells))
        go_roundw
        case rel => exact ⟨k + 1, by omega, by go_num, by rw [HPS.out] <;> first | rfl | go_num, by rw [HES.out] <;> first | rfl | (rw [← Int.natCast_add]; rfl) | (go_outline; go_num), hx5⟩
        case measure => simp [intOf]; omega
    · have hkk : k = p.nodes.length := by omega
      have hge : ¬ (k : Int) < (p.nodes.length : Int) := by omega
      subst hkk
      go_wp2
      go_loopw [12, 13] (fun s12 s13 wr => ∃ i : Nat, i ≤ p.links.length ∧ s13 = .int .i64 (i : Nat) ∧ s12 = .int .i64 (upK p f i : Nat) ∧ PBox w.heap.size w w2.heap.size p An p.nodes.length cn Al p.links.length cl Ad p.dests.length cd Ac p.checks.length cc wr) (fun _ s13 _ => p.links.length - (intOf s13).toNat)
      case atStart => exact ⟨0, Nat.zero_le _, rfl, rfl, hx⟩
      case round =>
        clear hx q0 q1 q2 q3 q4 q5 q6
        obtain ⟨i, hil, rfl, rfl, hx⟩ := hrel
        obtain ⟨q0, q1, q2, q3, q4, q5, q6⟩ := hx.cells
        have hui := upK_le p (f : Int) i
        by_cases hlt : i < p.links.length
        · have n0 : (0 : Int) ≤ (i : Int) := by omega
          have n1 : (i : Int) < (p.links.length : Int) := by omega
          have hus := upK_succ p (f : Int) i
          obtain ⟨hb, hhb⟩ : ∃ hb, hasB (f : Int) (i : Int) = hb := ⟨_, rfl⟩
          have HB := Lib.hid hhb
          rw [hhb] at hus
          clear hhb
          cases hb
          all_goals
            simp only [if_true, if_false, Bool.false_eq_true, Nat.add_zero] at hus
            have HUS := Lib.hid hus
            clear hus
            go_wp2_with (go_at_call 27; (with_reducible refine (Has_is f (i : Int) _ HB _).mono ?_); rintro e w6 ⟨rfl, rfl⟩)
            go_roundw
            case rel => exact ⟨i + 1, by omega, by go_num, by rw [HUS.out] <;> first | rfl | go_num, hx⟩
            case measure => simp [intOf]; omega
        · have hii : i = p.links.length := by omega
          have hge : ¬ (i : Int) < (p.links.length : Int) := by omega
          subst hii
          obtain ⟨U, hU⟩ : ∃ U, upK p (f : Int) p.links.length = U := ⟨_, rfl⟩
          obtain ⟨P, hP⟩ : ∃ P, partsK p (f : Int) p.nodes.length = P := ⟨_, rfl⟩
          have e1 := HEN.out
          have e2 := HFOR.out
          have e3 := HUP.out
          have e4 := HPA.out
          rw [hU] at e1 e2 e3
          rw [hP] at e2 e4
          rw [e1, hU, hP]
          obtain ⟨e5, e6⟩ := e2
          clear hU hP e1
          have g1 : IntKind.i64.wrap (2 * (U : Int)) = ((2 * U : Nat) : Int) := by
            rw [IntWalk.i64_in _ (by omega)]
            omega
          have g2 : IntKind.i64.wrap ((P : Int) + (U : Int)) = ((P + U : Nat) : Int) := by
            rw [IntWalk.i64_in _ (by omega)]
            omega
          have g3 : decide ((p.nodes.length : Int) ≤ ((P + U : Nat) : Int)) = true := by
            apply decide_eq_true
            omega
          have g5 : ((p.nodes.length : Int) ≤ ((P + U : Nat) : Int)) := by omega
          have g4 : (((p.nodes.length : Int) == ((P + U : Nat) : Int)) == ((nc : Int) == (U : Int))) = true := by
            rw [beq_iff_eq, Bool.eq_iff_iff, beq_iff_eq, beq_iff_eq]
            omega
          generalize hPU : P + U = PU at g2 g3 g4 g5
          generalize hUU : 2 * U = UU at g1 ⊢
          clear e3 e4 e5 e6 hPU hUU HEN HFOR
          go_upto_region 33 with (fail)
          have hxd := hx.go ((Below.refl _ _).drew)
          go_region_held3 (fun w' => w'.cell? ⟨w2.heap.size, 0, none⟩ = some (.int .i64 p.proto) ∧ w'.cell? ⟨w2.heap.size, 1, none⟩ = some (.int .i64 p.cap) ∧ w'.cell? ⟨w2.heap.size, 2, none⟩ = some (.int .i64 p.k) ∧ w'.cell? ⟨w2.heap.size, 3, none⟩ = some (.slice An p.nodes.length cn) ∧ w'.cell? ⟨w2.heap.size, 4, none⟩ = some (.slice Al p.links.length cl) ∧ w'.cell? ⟨w2.heap.size, 5, none⟩ = some (.slice Ad p.dests.length cd) ∧ w'.cell? ⟨w2.heap.size, 6, none⟩ = some (.slice Ac p.checks.length cc)) (go_keep) (first
            | (go_at_call 23; (with_reducible refine (Cuts_ok f C nc HC HNC hk.right hk.small hxd.at_).mono ?_); rintro e w6 ⟨AC, cC, rfl, ho6, hb6⟩; have hx6 := hxd.go hb6; obtain ⟨q0, q1, q2, q3, q4, q5, q6⟩ := hx6.cells))
          go_step
          go_wp2
          go_ret
          exact ⟨ret_bool (by first | rfl | (simp; done) | (simp; omega)), hx6.up⟩
end Go.Proofs.Ytponlhgkgmlihaa
