/-
  Networks that may be, turned in some place: plain facts; two elements of a row turned in memory.
-/
import Derived.Test.YtponlhgkgmlihaaDoorPlZc
namespace Go.Proofs.YtponlhgkgmlihaaDoor
open Go.RowKit
set_option linter.unusedVariables false

/-- More of a network that Net makes. -/
structure NetFine (p : PPlan) : Prop where
  links : LinksOk p.nodes.length p.links
  dests : DestsOk p.nodes.length p.dests
  names : ∀ (i : Nat) (x : PNode), p.nodes[i]? = some x → x.name = nmG i ∧ 1 ≤ x.num ∧ x.num ≤ 10 + i
  checks : ChecksOk p.nodes.length p.dests.length p.checks
theorem netFine (l : List Int) : NetFine (netOf l) := by
  have hn : (netOf l).nodes.length = nG (l.take 200) := nodesOf_len _
  have hd : (netOf l).dests.length = ndG (l.take 200) := (destsOf_ok _).2
  exact ⟨by rw [hn]; exact (linksOf_ok _).1, by rw [hn]; exact (destsOf_ok _).1, fun i x h => (nodesOf_at _ h).2, by rw [hn, hd]; exact (checksOf_ok _).1⟩

/-! ### Two neighbours turned -/
def turnAt (i k : Nat) : Nat := if k = i then i + 1 else if k = i + 1 then i else k
theorem turnAt_inj {i j k : Nat} (h : turnAt i j = turnAt i k) : j = k := by unfold turnAt at h; split at h <;> split at h <;> (try split at h) <;> (try split at h) <;> omega
def turned {α : Type} (l : List α) (i : Nat) (x y : α) : List α := (l.set i y).set (i + 1) x
theorem turned_len {α : Type} (l : List α) (i : Nat) (x y : α) : (turned l i x y).length = l.length := by unfold turned; rw [List.length_set, List.length_set]
theorem turned_get {α : Type} {l : List α} {i : Nat} {x y : α} (hx : l[i]? = some x) (hy : l[i + 1]? = some y) (k : Nat) : (turned l i x y)[k]? = l[turnAt i k]? := by
  have h1 := (List.getElem?_eq_some_iff.1 hx).1
  have h2 := (List.getElem?_eq_some_iff.1 hy).1
  unfold turned turnAt
  by_cases e1 : k = i + 1
  · subst e1
    rw [List.getElem?_set_self (by rw [List.length_set]; omega), if_neg (by omega), if_pos rfl, hx]
  · rw [List.getElem?_set_ne (by omega)]
    by_cases e2 : k = i
    · subst e2
      rw [List.getElem?_set_self h1, if_pos rfl, hy]
    · rw [List.getElem?_set_ne (by omega), if_neg e2, if_neg e1]
theorem LinksOk.apart {n : Nat} {ls : List PLink} (h : LinksOk n ls) {i j : Nat} {x y : PLink} (hx : ls[i]? = some x) (hy : ls[j]? = some y) (hij : i ≠ j) : linkIs x.a x.b y = false := by
  rcases Nat.lt_or_ge j i with hlt | hge
  · exact (h i x hx).2 j y hlt hy
  · have := (h j y hy).2 i x (by omega) hx
    cases hc : linkIs x.a x.b y
    · rfl
    · obtain ⟨e1, e2⟩ := (linkIs_iff _ _ _).1 hc
      rw [(linkIs_iff _ _ _).2 ⟨e1.symm, e2.symm⟩] at this
      exact this
theorem LinksOk.turned {n : Nat} {ls : List PLink} (h : LinksOk n ls) {i : Nat} {x y : PLink} (hx : ls[i]? = some x) (hy : ls[i + 1]? = some y) : LinksOk n (turned ls i x y) := by
  intro k z hz
  rw [turned_get hx hy] at hz
  refine ⟨(h _ z hz).1, fun j u hj hu => ?_⟩
  rw [turned_get hx hy] at hu
  exact h.apart hz hu (fun e => by have := turnAt_inj e; omega)
theorem turned_mem {α : Type} {l : List α} {i : Nat} {x y : α} (hx : l[i]? = some x) (hy : l[i + 1]? = some y) {z : α} (hz : z ∈ turned l i x y) : z ∈ l := by
  obtain ⟨k, hk⟩ := List.mem_iff_getElem?.1 hz
  rw [turned_get hx hy] at hk
  exact List.mem_of_getElem? hk
theorem turned_ne {α : Type} {l : List α} {i : Nat} {x y : α} (hx : l[i]? = some x) (hy : l[i + 1]? = some y) (hne : x ≠ y) : turned l i x y ≠ l := fun e => by
  have h := turned_get hx hy i
  rw [e, hx] at h
  unfold turnAt at h
  rw [if_pos rfl, hy] at h
  injection h with h
  exact hne h
theorem turned_same {α : Type} {l : List α} {i : Nat} {x : α} (hx : l[i]? = some x) (hy : l[i + 1]? = some x) : turned l i x x = l := by
  apply List.ext_getElem?
  intro k
  rw [turned_get hx hy]
  unfold turnAt
  by_cases e1 : k = i
  · subst e1; rw [if_pos rfl, hy, hx]
  · rw [if_neg e1]
    by_cases e2 : k = i + 1
    · subst e2; rw [if_pos rfl, hx, hy]
    · rw [if_neg e2]

theorem right_parts {p : PPlan} (h : Hid (rightB p = true)) : protoB p.proto p.cap = true ∧ withinB p.k 0 (min 4 (p.links.length : Int)) = true ∧ nodesB p.nodes = true ∧ linksB p.nodes.length p.links = true ∧ destsB p.nodes p.dests = true ∧ checksB p.nodes.length p.dests.length p.checks = true := by
  have := h.out
  unfold rightB at this
  simpa only [Bool.and_eq_true] using this
theorem right_of {p : PPlan} (h1 : protoB p.proto p.cap = true) (h2 : withinB p.k 0 (min 4 (p.links.length : Int)) = true) (h3 : nodesB p.nodes = true) (h4 : linksB p.nodes.length p.links = true) (h5 : destsB p.nodes p.dests = true) (h6 : checksB p.nodes.length p.dests.length p.checks = true) : Hid (rightB p = true) :=
  Lib.hid (by unfold rightB; simp only [h1, h2, h3, h4, h5, h6, Bool.and_self])
theorem right_turnLinks {p : PPlan} (h : Hid (rightB p = true)) (hf : NetFine p) (hl : p.links.length ≤ 9) {i : Nat} {x y : PLink} (hx : p.links[i]? = some x) (hy : p.links[i + 1]? = some y) : Hid (rightB { p with links := turned p.links i x y } = true) := by
  obtain ⟨h1, h2, h3, h4, h5, h6⟩ := right_parts h
  exact right_of h1 (by show withinB p.k 0 (min 4 ((turned p.links i x y).length : Int)) = true; rw [turned_len]; exact h2) h3 (linksB_ok (hf.links.turned hx hy) (by rw [turned_len]; omega)) h5 h6
theorem right_turnChecks {p : PPlan} (h : Hid (rightB p = true)) {i : Nat} {x y : PCheck} (hx : p.checks[i]? = some x) (hy : p.checks[i + 1]? = some y) : Hid (rightB { p with checks := turned p.checks i x y } = true) := by
  obtain ⟨h1, h2, h3, h4, h5, h6⟩ := right_parts h
  refine right_of h1 h2 h3 h4 h5 ?_
  unfold checksB at h6 ⊢
  rw [Bool.and_eq_true, decide_eq_true_iff] at h6 ⊢
  refine ⟨by rw [turned_len]; exact h6.1, (allF_iff _ _ _).2 fun k z hz => ?_⟩
  rw [turned_get hx hy] at hz
  exact (allF_iff _ _ _).1 h6.2 _ z hz
theorem right_turnDests {p : PPlan} (h : Hid (rightB p = true)) (hf : NetFine p) {d e : PDest} (hd : p.dests = [d, e]) : Hid (rightB { p with dests := [e, d] } = true) := by
  obtain ⟨h1, h2, h3, h4, h5, h6⟩ := right_parts h
  have hde : d.name ≠ e.name := by
    have e1 := (hf.dests 0 d (by rw [hd]; rfl)).1
    have e2 := (hf.dests 1 e (by rw [hd]; rfl)).1
    rw [e1, e2]
    decide
  have hlen : ([e, d] : List PDest).length = p.dests.length := by rw [hd]; rfl
  refine right_of h1 h2 h3 h4 ?_ (by show checksB p.nodes.length ([e, d] : List PDest).length p.checks = true; rw [hlen]; exact h6)
  unfold destsB at h5 ⊢
  rw [hd] at h5
  simp only [allF, Bool.and_true, Bool.and_eq_true] at h5 ⊢
  obtain ⟨_, g1, g2⟩ := h5
  refine ⟨by simp, ?_, ?_⟩
  · unfold destOk at g2 ⊢
    simp only [Bool.and_eq_true, decide_eq_true_iff] at g2 ⊢
    refine ⟨g2.1, g2.2.1, ?_, g2.2.2.2⟩
    exact ixB_eq _ _ 0 e rfl (by unfold destIs; simp) (fun j y hj _ => by omega)
  · unfold destOk at g1 ⊢
    simp only [Bool.and_eq_true, decide_eq_true_iff] at g1 ⊢
    refine ⟨g1.1, g1.2.1, ?_, g1.2.2.2⟩
    exact ixB_eq _ _ 1 d rfl (by unfold destIs; simp) (fun j y hj hy => by
      obtain rfl : j = 0 := by omega
      injection hy with hy
      subst hy
      unfold destIs
      exact decide_eq_false (fun h => hde h.symm))
theorem same_of_ne {p q : PPlan} (h : q ≠ p) : Hid (sameB p q = false) ∧ Hid (sameB q p = false) :=
  ⟨Lib.hid (by cases e : sameB p q; rfl; exact absurd ((sameB_iff _ _).1 e).symm h), Lib.hid (by cases e : sameB q p; rfl; exact absurd ((sameB_iff _ _).1 e) h)⟩
theorem same_of_eq {p q : PPlan} (h : q = p) : Hid (sameB p q = true) ∧ Hid (sameB q p = true) :=
  ⟨Lib.hid ((sameB_iff _ _).2 h.symm), Lib.hid ((sameB_iff _ _).2 h)⟩

theorem check_eql (a b : PCheck) (r : Bool) (H : Hid (checkEq a b = r)) (w : World) : (binOp .eql 43 (.agg #[.int .i64 a.kind, .int .i64 a.node, .int .i64 a.dest, .int .i64 a.limit, .int .i64 a.other]) (.agg #[.int .i64 b.kind, .int .i64 b.node, .int .i64 b.dest, .int .i64 b.limit, .int .i64 b.other])).run Tryd.prog w = .ok (.bool r) w := by
  have u3 := Tryd.underlying3
  have hS : Tryd.prog.underlying 43 = some (.struct (Tryd.prog.fieldsOf 43)) := by kernel_rfl
  have hp : Tryd.prog.stoodInHeld 43 = false := by kernel_rfl
  rw [run_eql_struct, show (10000 : Nat) = 9999 + 1 from rfl, run_equalIn_agg w 9999 43 _ _ hS hp]
  simp only [Program.fieldsOf, Tryd.underlying43]
  rw [← H.out]
  unfold checkEq
  go_simp
  by_cases h1 : a.kind = b.kind <;> by_cases h2 : a.node = b.node <;> by_cases h3 : a.dest = b.dest <;> by_cases h4 : a.limit = b.limit <;> by_cases h5 : a.other = b.other <;> simp [h1, h2, h3, h4, h5]

/-! ### In memory -/
section
variable {w0 w w' w'' : World} {g : Nat} {p : PPlan} {vn vl vd vc : Value}
theorem own_frozen {B : Nat} {e : TypeId} {size n ln c gb : Nat} {xs : List Value} (h : w.ownsRow B e size (.slice (some ⟨gb, 0, none⟩) ln c) n xs) (j : Nat) : w.frozen? ⟨gb, j, none⟩ = false := by
  have hl := slice_len h
  subst hl
  exact h.frozenAt j
theorem grown_trans {row : Option Nat} (h : w.grownBy w' row) (k : w'.grownBy w'' row) : w.grownBy w'' row :=
  ⟨k.os.trans h.os, k.tape.trans h.tape, k.output.trans h.output, Nat.le_trans h.size k.size, fun i hi hr => (k.block i (Nat.lt_of_lt_of_le hi h.size) hr).trans (h.block i hi hr)⟩
theorem flat_link (l : List PLink) (i : Nat) (hi : i < l.length) (x : PLink) : (((l.flatMap linkC).set (i * 3) (.int .i64 x.a)).set (i * 3 + 1) (.int .i64 x.b)).set (i * 3 + 2) (.int .i64 x.cost) = (l.set i x).flatMap linkC := by
  induction l generalizing i with
  | nil => simp at hi
  | cons y l ih =>
    cases i with
    | zero => rfl
    | succ i =>
      have := ih i (by simpa using hi)
      rw [List.set_cons_succ, List.flatMap_cons, List.flatMap_cons, ← this]
      rw [show (i + 1) * 3 = i * 3 + 1 + 1 + 1 by omega]
      rfl
theorem flat_check (l : List PCheck) (i : Nat) (hi : i < l.length) (x : PCheck) : (((((l.flatMap checkC).set (i * 5) (.int .i64 x.kind)).set (i * 5 + 1) (.int .i64 x.node)).set (i * 5 + 2) (.int .i64 x.dest)).set (i * 5 + 3) (.int .i64 x.limit)).set (i * 5 + 4) (.int .i64 x.other) = (l.set i x).flatMap checkC := by
  induction l generalizing i with
  | nil => simp at hi
  | cons y l ih =>
    cases i with
    | zero => rfl
    | succ i =>
      have := ih i (by simpa using hi)
      rw [List.set_cons_succ, List.flatMap_cons, List.flatMap_cons, ← this]
      rw [show (i + 1) * 5 = i * 5 + 1 + 1 + 1 + 1 + 1 by omega]
      rfl
theorem HSt.linkSet {gl ll cl : Nat} (h : HSt w0 g p vn (.slice (some ⟨gl, 0, none⟩) ll cl) vd vc w) {i : Nat} (hi : i < p.links.length) (x : PLink) :
    HSt w0 g { p with links := p.links.set i x } vn (.slice (some ⟨gl, 0, none⟩) ll cl) vd vc (((w.setCell ⟨gl, i * 3, none⟩ (.int .i64 x.a)).setCell ⟨gl, i * 3 + 1, none⟩ (.int .i64 x.b)).setCell ⟨gl, i * 3 + 2, none⟩ (.int .i64 x.cost)) := by
  have hl := slice_len h.own.links
  have ho := h.own.links
  rw [hl] at ho
  obtain ⟨h1, g1⟩ := ho.stored (i * 3) (.int .i64 x.a)
  obtain ⟨h2, g2⟩ := h1.stored (i * 3 + 1) (.int .i64 x.b)
  obtain ⟨h3, g3⟩ := h2.stored (i * 3 + 2) (.int .i64 x.cost)
  exact h.linksIn (by rw [List.length_set, hl, ← flat_link _ _ hi]; exact h3) (grown_trans (grown_trans g1 g2) g3)
theorem HSt.checkSet {gc lc cc : Nat} (h : HSt w0 g p vn vl vd (.slice (some ⟨gc, 0, none⟩) lc cc) w) {i : Nat} (hi : i < p.checks.length) (x : PCheck) :
    HSt w0 g { p with checks := p.checks.set i x } vn vl vd (.slice (some ⟨gc, 0, none⟩) lc cc) (((((w.setCell ⟨gc, i * 5, none⟩ (.int .i64 x.kind)).setCell ⟨gc, i * 5 + 1, none⟩ (.int .i64 x.node)).setCell ⟨gc, i * 5 + 2, none⟩ (.int .i64 x.dest)).setCell ⟨gc, i * 5 + 3, none⟩ (.int .i64 x.limit)).setCell ⟨gc, i * 5 + 4, none⟩ (.int .i64 x.other)) := by
  have hl := slice_len h.own.checks
  have ho := h.own.checks
  rw [hl] at ho
  obtain ⟨h1, g1⟩ := ho.stored (i * 5) (.int .i64 x.kind)
  obtain ⟨h2, g2⟩ := h1.stored (i * 5 + 1) (.int .i64 x.node)
  obtain ⟨h3, g3⟩ := h2.stored (i * 5 + 2) (.int .i64 x.dest)
  obtain ⟨h4, g4⟩ := h3.stored (i * 5 + 3) (.int .i64 x.limit)
  obtain ⟨h5, g5⟩ := h4.stored (i * 5 + 4) (.int .i64 x.other)
  exact h.checksIn (by rw [List.length_set, hl, ← flat_check _ _ hi]; exact h5) (grown_trans (grown_trans (grown_trans (grown_trans g1 g2) g3) g4) g5)
/-- Two destinations of another network, the second one ahead, in this one's place. -/
theorem HSt.destsTurn {W2 W3 : World} {gq gm ln cn ll cl ld cd lc cc : Nat} {An Al Ac : Option Addr} (h : HSt W2 gq p (.slice An ln cn) (.slice Al ll cl) (.slice (some ⟨gm, 0, none⟩) ld cd) (.slice Ac lc cc) W3) {d e : PDest} (hd : p.dests = [d, e]) {h0 h1 : Option Addr × Nat}
    (R0 : RowAt W2 W2.heap.size h0.1 (d.orig.map (Value.int .i64))) (R1 : RowAt W2 W2.heap.size h1.1 (e.orig.map (Value.int .i64))) :
    PAt ((((W3.setCell ⟨gm, 0, none⟩ (.string e.name)).setCell ⟨gm, 1, none⟩ (.slice h1.1 e.orig.length h1.2)).setCell ⟨gm, 2, none⟩ (.string d.name)).setCell ⟨gm, 3, none⟩ (.slice h0.1 d.orig.length h0.2)) { p with dests := [e, d] } p.proto p.cap p.k An ln Al ll (some ⟨gm, 0, none⟩) ld Ac lc ∧
    Blk ((((W3.setCell ⟨gm, 0, none⟩ (.string e.name)).setCell ⟨gm, 1, none⟩ (.slice h1.1 e.orig.length h1.2)).setCell ⟨gm, 2, none⟩ (.string d.name)).setCell ⟨gm, 3, none⟩ (.slice h0.1 d.orig.length h0.2)) gq 29 #[.int .i64 p.proto, .int .i64 p.cap, .int .i64 p.k, .slice An ln cn, .slice Al ll cl, .slice (some ⟨gm, 0, none⟩) ld cd, .slice Ac lc cc] ∧
    Below W2.heap.size W2 ((((W3.setCell ⟨gm, 0, none⟩ (.string e.name)).setCell ⟨gm, 1, none⟩ (.slice h1.1 e.orig.length h1.2)).setCell ⟨gm, 2, none⟩ (.string d.name)).setCell ⟨gm, 3, none⟩ (.slice h0.1 d.orig.length h0.2)) := by
  obtain ⟨hs, e1, e2, e3⟩ := h.own.dests
  have hl := slice_len e2
  have hl2 : ld = 2 := by rw [← hl, hd]; rfl
  have ho := e2
  rw [hl] at ho
  obtain ⟨o1, g1⟩ := ho.stored 0 (.string e.name)
  obtain ⟨o2, g2⟩ := o1.stored 1 (.slice h1.1 e.orig.length h1.2)
  obtain ⟨o3, g3⟩ := o2.stored 2 (.string d.name)
  obtain ⟨o4, g4⟩ := o3.stored 3 (.slice h0.1 d.orig.length h0.2)
  have hg := grown_trans (grown_trans (grown_trans g1 g2) g3) g4
  have hbw := h.below.trans (own_below0 e2 h.below.size hg)
  have hcells : ((((((p.dests.zip hs).flatMap destC).set 0 (.string e.name)).set 1 (.slice h1.1 e.orig.length h1.2)).set 2 (.string d.name)).set 3 (.slice h0.1 d.orig.length h0.2)) = (([e, d] : List PDest).zip [h1, h0]).flatMap destC := by
    have hl3 : hs.length = 2 := by rw [e1, hd]; rfl
    match hs, hl3 with
    | [a, b], _ => rw [hd]; rfl
  rw [hcells] at o4
  refine ⟨⟨rfl, rfl, rfl, slice_len h.own.nodes, slice_len h.own.links, by rw [hl2]; rfl, slice_len h.own.checks, RowAt.of_own' (own_far h.own.nodes e2 (by decide) hg), RowAt.of_own' (own_far h.own.links e2 (by decide) hg), ⟨[h1, h0], rfl, RowAt.of_own' o4, fun i x q hx hq => ?_⟩, RowAt.of_own' (own_far h.own.checks e2 (by decide) hg)⟩, h.blk.grown hg (fun e => own_blk_ne e2 h.blk (by decide) e.symm), hbw⟩
  match i with
  | 0 =>
    injection hx with hx
    injection hq with hq
    subst hx hq
    exact R1.up hbw
  | 1 =>
    injection hx with hx
    injection hq with hq
    subst hx hq
    exact R0.up hbw
  | i + 2 => simp at hx
/-- A destination more; its numbers lie in a row of the law's own. -/
theorem HSt.pushDest (h : HSt w0 g p vn vl vd vc w) {hs : List (Option Addr × Nat)} (h1 : hs.length = p.dests.length) (h2 : w.ownsRow w0.heap.size 47 2 vd p.dests.length ((p.dests.zip hs).flatMap destC))
    (h3 : ∀ (i : Nat) (d : PDest) (h : Option Addr × Nat), p.dests[i]? = some d → hs[i]? = some h → w.ownsRow w0.heap.size 3 1 (.slice h.1 d.orig.length h.2) d.orig.length (d.orig.map (Value.int .i64)))
    {v' : Value} {x : PDest} {A : Option Addr} {c : Nat} (hx : w.ownsRow w0.heap.size 3 1 (.slice A x.orig.length c) x.orig.length (x.orig.map (Value.int .i64)))
    (ho : w'.ownsRow w0.heap.size 47 2 v' (p.dests.length + 1) ((p.dests.zip hs).flatMap destC ++ destC (x, (A, c)))) (hg : w.grownBy w' vd.ownBlock) :
    HSt w0 g { p with dests := p.dests ++ [x] } vn vl v' vc (w'.setCell ⟨g, 5, none⟩ v') := by
  have hblk := h.blk.grown hg (fun e1 => own_blk_ne h2 h.blk (by decide) e1.symm)
  have hw := h.below.trans (own_below0 h2 h.below.size hg)
  refine ⟨⟨own_set (own_far h.own.nodes h2 (by decide) hg) hblk (by decide) 5 v', own_set (own_far h.own.links h2 (by decide) hg) hblk (by decide) 5 v', ⟨hs ++ [(A, c)], by simp [h1], ?_, fun i d q e1 e2 => ?_⟩, own_set (own_far h.own.checks h2 (by decide) hg) hblk (by decide) 5 v'⟩, hblk.set_ 5 v', h.lo, hw.trans ((Below.refl _ _).setCell (p := ⟨g, 5, none⟩) h.lo _)⟩
  · have := own_set ho hblk (by decide) 5 v'
    show (w'.setCell ⟨g, 5, none⟩ v').ownsRow w0.heap.size 47 2 v' (p.dests ++ [x]).length (((p.dests ++ [x]).zip (hs ++ [(A, c)])).flatMap destC)
    rw [List.length_append, List.zip_append h1.symm, List.flatMap_append]
    simpa using this
  · rcases Nat.lt_or_ge i p.dests.length with hi | hi
    · rw [List.getElem?_append_left hi] at e1
      rw [List.getElem?_append_left (by omega)] at e2
      exact own_set (own_far (h3 i d q e1 e2) h2 (by decide) hg) hblk (by decide) 5 v'
    · rw [List.getElem?_append_right hi] at e1
      rw [List.getElem?_append_right (by omega)] at e2
      have h0 : i - p.dests.length = 0 := by
        have := (List.getElem?_eq_some_iff.1 e1).1
        simp at this; omega
      rw [h0] at e1
      rw [h1, h0] at e2
      simp at e1 e2
      subst e1 e2
      exact own_set (own_far hx h2 (by decide) hg) hblk (by decide) 5 v'
end
end Go.Proofs.YtponlhgkgmlihaaDoor
