/-
  A network held by the law: its block, its rows; what changes of it.
-/
import Derived.Test.YtponlhgkgmlihaaDoorPlQ
import Derived.Test.YtponlhgkgmlihaaDoorPlZb
import Derived.Laws.OwnMore
namespace Go.Proofs.YtponlhgkgmlihaaDoor
open Go.RowKit
set_option linter.unusedVariables false

structure HSt (w0 : World) (g : Nat) (p : PPlan) (vn vl vd vc : Value) (w : World) : Prop where
  own : POwn w0.heap.size p vn vl vd vc w
  blk : Blk w g 29 #[.int .i64 p.proto, .int .i64 p.cap, .int .i64 p.k, vn, vl, vd, vc]
  lo : w0.heap.size ≤ g
  below : Below w0.heap.size w0 w

section
variable {w0 w w' : World} {g : Nat} {p : PPlan} {vn vl vd vc v' : Value}
theorem HSt.start (ho : POwn w0.heap.size p vn vl vd vc w) (hb : Below w0.heap.size w0 w) : HSt w0 w.heap.size p vn vl vd vc (w.alloc (.cells #[.int .i64 p.proto, .int .i64 p.cap, .int .i64 p.k, vn, vl, vd, vc] 29)) :=
  ⟨⟨own_alloc ho.nodes _, own_alloc ho.links _, ho.dests.map fun _ hx => own_alloc hx _, own_alloc ho.checks _⟩, Blk.new _ _ _, hb.size, hb.trans ((below_new _ _).mono hb.size)⟩
theorem HSt.up (h : HSt w0 g p vn vl vd vc w) (hb : Below w.heap.size w w') : HSt w0 g p vn vl vd vc w' :=
  ⟨⟨own_below h.own.nodes hb, own_below h.own.links hb, h.own.dests.map fun _ hx => own_below hx hb, own_below h.own.checks hb⟩, h.blk.up hb, h.lo, h.below.trans (hb.mono h.below.size)⟩
theorem HSt.put (h : HSt w0 g p vn vl vd vc w) (i : Nat) (u : Value) (p' : PPlan) (e1 : p'.nodes = p.nodes) (e2 : p'.links = p.links) (e3 : p'.dests = p.dests) (e4 : p'.checks = p.checks)
    (hx : (#[.int .i64 p.proto, .int .i64 p.cap, .int .i64 p.k, vn, vl, vd, vc] : Array Value).setIfInBounds i u = #[.int .i64 p'.proto, .int .i64 p'.cap, .int .i64 p'.k, vn, vl, vd, vc]) : HSt w0 g p' vn vl vd vc (w.setCell ⟨g, i, none⟩ u) :=
  ⟨⟨by rw [e1]; exact own_set h.own.nodes h.blk (by decide) i u, by rw [e2]; exact own_set h.own.links h.blk (by decide) i u, by rw [e3]; exact h.own.dests.map fun he ho => own_set ho h.blk (by rcases he with rfl | rfl <;> decide) i u, by rw [e4]; exact own_set h.own.checks h.blk (by decide) i u⟩,
    by have := h.blk.set_ i u; rwa [hx] at this, h.lo, h.below.trans ((Below.refl _ _).setCell (p := ⟨g, i, none⟩) h.lo _)⟩
/-- A row's value more, or another one, in the network's block. -/
theorem HSt.cellTo (h : HSt w0 g p vn vl vd vc w) (i : Nat) {vn' vl' vd' vc' u : Value} (hx : (#[.int .i64 p.proto, .int .i64 p.cap, .int .i64 p.k, vn, vl, vd, vc] : Array Value).setIfInBounds i u = #[.int .i64 p.proto, .int .i64 p.cap, .int .i64 p.k, vn', vl', vd', vc'])
    (p' : PPlan) (e0 : p'.proto = p.proto ∧ p'.cap = p.cap ∧ p'.k = p.k) (ho : POwn w0.heap.size p' vn' vl' vd' vc' w) : HSt w0 g p' vn' vl' vd' vc' (w.setCell ⟨g, i, none⟩ u) :=
  ⟨⟨own_set ho.nodes h.blk (by decide) i u, own_set ho.links h.blk (by decide) i u, ho.dests.map fun he hx => own_set hx h.blk (by rcases he with rfl | rfl <;> decide) i u, own_set ho.checks h.blk (by decide) i u⟩,
    by have := h.blk.set_ i u; rw [hx] at this; rw [e0.1, e0.2.1, e0.2.2]; exact this, h.lo, h.below.trans ((Below.refl _ _).setCell (p := ⟨g, i, none⟩) h.lo _)⟩
theorem grown_any {row : Option Nat} (hg : w.grownBy w' none) : w.grownBy w' row := ⟨hg.os, hg.tape, hg.output, hg.size, fun k hk _ => hg.block k hk (by simp)⟩
theorem own_below0 {e : TypeId} {size n B : Nat} {v : Value} {xs : List Value} (h : w.ownsRow B e size v n xs) (hB : B ≤ w.heap.size) (hg : w.grownBy w' v.ownBlock) : Below B w w' := (Below.refl _ _).grown hg hB (fun g hg => (h.lt g hg).1)
/-- The row of links, turned where it lies. -/
theorem HSt.linksIn (h : HSt w0 g p vn vl vd vc w) {xs : List PLink} (ho : w'.ownsRow w0.heap.size 51 3 vl xs.length (xs.flatMap linkC)) (hg : w.grownBy w' vl.ownBlock) : HSt w0 g { p with links := xs } vn vl vd vc w' :=
  ⟨⟨own_far h.own.nodes h.own.links (by decide) hg, ho, h.own.dests.map fun he hx => own_far hx h.own.links (by rcases he with rfl | rfl <;> decide) hg, own_far h.own.checks h.own.links (by decide) hg⟩, h.blk.grown hg (fun e1 => own_blk_ne h.own.links h.blk (by decide) e1.symm), h.lo, h.below.trans (own_below0 h.own.links h.below.size hg)⟩
/-- Another row of links. -/
theorem HSt.linksTo (h : HSt w0 g p vn vl vd vc w) {xs : List PLink} (ho : w'.ownsRow w0.heap.size 51 3 v' xs.length (xs.flatMap linkC)) (hg : w.grownBy w' vl.ownBlock) : HSt w0 g { p with links := xs } vn v' vd vc (w'.setCell ⟨g, 4, none⟩ v') := by
  have hb := h.blk.grown hg (fun e1 => own_blk_ne h.own.links h.blk (by decide) e1.symm)
  have hw := h.below.trans (own_below0 h.own.links h.below.size hg)
  have ow : POwn w0.heap.size { p with links := xs } vn v' vd vc w' := ⟨own_far h.own.nodes h.own.links (by decide) hg, ho, h.own.dests.map fun he hx => own_far hx h.own.links (by rcases he with rfl | rfl <;> decide) hg, own_far h.own.checks h.own.links (by decide) hg⟩
  exact ⟨⟨own_set ow.nodes hb (by decide) 4 v', own_set ow.links hb (by decide) 4 v', ow.dests.map fun he hx => own_set hx hb (by rcases he with rfl | rfl <;> decide) 4 v', own_set ow.checks hb (by decide) 4 v'⟩,
    hb.set_ 4 v', h.lo, hw.trans ((Below.refl _ _).setCell (p := ⟨g, 4, none⟩) h.lo _)⟩
/-- The row of checks, turned where it lies. -/
theorem HSt.checksIn (h : HSt w0 g p vn vl vd vc w) {xs : List PCheck} (ho : w'.ownsRow w0.heap.size 43 5 vc xs.length (xs.flatMap checkC)) (hg : w.grownBy w' vc.ownBlock) : HSt w0 g { p with checks := xs } vn vl vd vc w' :=
  ⟨⟨own_far h.own.nodes h.own.checks (by decide) hg, own_far h.own.links h.own.checks (by decide) hg, h.own.dests.map fun he hx => own_far hx h.own.checks (by rcases he with rfl | rfl <;> decide) hg, ho⟩, h.blk.grown hg (fun e1 => own_blk_ne h.own.checks h.blk (by decide) e1.symm), h.lo, h.below.trans (own_below0 h.own.checks h.below.size hg)⟩
/-- Another row of checks. -/
theorem HSt.checksTo (h : HSt w0 g p vn vl vd vc w) {xs : List PCheck} (ho : w'.ownsRow w0.heap.size 43 5 v' xs.length (xs.flatMap checkC)) (hg : w.grownBy w' vc.ownBlock) : HSt w0 g { p with checks := xs } vn vl vd v' (w'.setCell ⟨g, 6, none⟩ v') := by
  have hb := h.blk.grown hg (fun e1 => own_blk_ne h.own.checks h.blk (by decide) e1.symm)
  have hw := h.below.trans (own_below0 h.own.checks h.below.size hg)
  have ow : POwn w0.heap.size { p with checks := xs } vn vl vd v' w' := ⟨own_far h.own.nodes h.own.checks (by decide) hg, own_far h.own.links h.own.checks (by decide) hg, h.own.dests.map fun he hx => own_far hx h.own.checks (by rcases he with rfl | rfl <;> decide) hg, ho⟩
  exact ⟨⟨own_set ow.nodes hb (by decide) 6 v', own_set ow.links hb (by decide) 6 v', ow.dests.map fun he hx => own_set hx hb (by rcases he with rfl | rfl <;> decide) 6 v', own_set ow.checks hb (by decide) 6 v'⟩,
    hb.set_ 6 v', h.lo, hw.trans ((Below.refl _ _).setCell (p := ⟨g, 6, none⟩) h.lo _)⟩
/-- The row of nodes, turned where it lies. -/
theorem HSt.nodesIn (h : HSt w0 g p vn vl vd vc w) {xs : List PNode} (ho : w'.ownsRow w0.heap.size 45 2 vn xs.length (xs.flatMap nodeC)) (hg : w.grownBy w' vn.ownBlock) : HSt w0 g { p with nodes := xs } vn vl vd vc w' :=
  ⟨⟨ho, own_far h.own.links h.own.nodes (by decide) hg, h.own.dests.map fun he hx => own_far hx h.own.nodes (by rcases he with rfl | rfl <;> decide) hg, own_far h.own.checks h.own.nodes (by decide) hg⟩, h.blk.grown hg (fun e1 => own_blk_ne h.own.nodes h.blk (by decide) e1.symm), h.lo, h.below.trans (own_below0 h.own.nodes h.below.size hg)⟩
/-- Another row of nodes. -/
theorem HSt.nodesTo (h : HSt w0 g p vn vl vd vc w) {xs : List PNode} (ho : w'.ownsRow w0.heap.size 45 2 v' xs.length (xs.flatMap nodeC)) (hg : w.grownBy w' vn.ownBlock) : HSt w0 g { p with nodes := xs } v' vl vd vc (w'.setCell ⟨g, 3, none⟩ v') := by
  have hb := h.blk.grown hg (fun e1 => own_blk_ne h.own.nodes h.blk (by decide) e1.symm)
  have hw := h.below.trans (own_below0 h.own.nodes h.below.size hg)
  have ow : POwn w0.heap.size { p with nodes := xs } v' vl vd vc w' := ⟨ho, own_far h.own.links h.own.nodes (by decide) hg, h.own.dests.map fun he hx => own_far hx h.own.nodes (by rcases he with rfl | rfl <;> decide) hg, own_far h.own.checks h.own.nodes (by decide) hg⟩
  exact ⟨⟨own_set ow.nodes hb (by decide) 3 v', own_set ow.links hb (by decide) 3 v', ow.dests.map fun he hx => own_set hx hb (by rcases he with rfl | rfl <;> decide) 3 v', own_set ow.checks hb (by decide) 3 v'⟩,
    hb.set_ 3 v', h.lo, hw.trans ((Below.refl _ _).setCell (p := ⟨g, 3, none⟩) h.lo _)⟩
/-- One more. -/
theorem HSt.pushLink (h : HSt w0 g p vn vl vd vc w) {x : PLink} (ho : w'.ownsRow w0.heap.size 51 3 v' (p.links.length + 1) (p.links.flatMap linkC ++ linkC x)) (hg : w.grownBy w' vl.ownBlock) : HSt w0 g { p with links := p.links ++ [x] } vn v' vd vc (w'.setCell ⟨g, 4, none⟩ v') :=
  h.linksTo (by rw [List.length_append, List.flatMap_append]; simpa using ho) hg
theorem HSt.pushCheck (h : HSt w0 g p vn vl vd vc w) {x : PCheck} (ho : w'.ownsRow w0.heap.size 43 5 v' (p.checks.length + 1) (p.checks.flatMap checkC ++ checkC x)) (hg : w.grownBy w' vc.ownBlock) : HSt w0 g { p with checks := p.checks ++ [x] } vn vl vd v' (w'.setCell ⟨g, 6, none⟩ v') :=
  h.checksTo (by rw [List.length_append, List.flatMap_append]; simpa using ho) hg
theorem slice_len {B : Nat} {e : TypeId} {size n ln c : Nat} {A : Option Addr} {xs : List Value} (h : w.ownsRow B e size (.slice A ln c) n xs) : n = ln := by
  obtain ⟨A', c', hv, _⟩ := own_form h
  injection hv with _ e2 _
  exact e2.symm
theorem RowAt.of_own' {B : Nat} {e : TypeId} {size n ln c : Nat} {A : Option Addr} {xs : List Value} (h : w.ownsRow B e size (.slice A ln c) n xs) : RowAt w w.heap.size A xs := by
  have hl := slice_len h
  subst hl
  exact RowAt.of_own h
theorem HSt.pat {An Al Ad Ac : Option Addr} {ln cn ll cl ld cd lc cc : Nat} (h : HSt w0 g p (.slice An ln cn) (.slice Al ll cl) (.slice Ad ld cd) (.slice Ac lc cc) w) : PAt w p p.proto p.cap p.k An ln Al ll Ad ld Ac lc := by
  obtain ⟨hs, h1, h2, h3⟩ := h.own.dests
  exact ⟨rfl, rfl, rfl, slice_len h.own.nodes, slice_len h.own.links, slice_len h2, slice_len h.own.checks, RowAt.of_own' h.own.nodes, RowAt.of_own' h.own.links, ⟨hs, h1, RowAt.of_own' h2, fun i d q e1 e2 => RowAt.of_own' (h3 i d q e1 e2)⟩, RowAt.of_own' h.own.checks⟩
theorem HSt.forms (h : HSt w0 g p vn vl vd vc w) : ∃ An ln cn Al ll cl Ad ld cd Ac lc cc, vn = .slice An ln cn ∧ vl = .slice Al ll cl ∧ vd = .slice Ad ld cd ∧ vc = .slice Ac lc cc := by
  obtain ⟨An, cn, e1, _⟩ := own_form h.own.nodes
  obtain ⟨Al, cl, e2, _⟩ := own_form h.own.links
  obtain ⟨hs, _, h2, _⟩ := h.own.dests
  obtain ⟨Ad, cd, e3, _⟩ := own_form h2
  obtain ⟨Ac, cc, e4, _⟩ := own_form h.own.checks
  exact ⟨An, _, cn, Al, _, cl, Ad, _, cd, Ac, _, cc, e1, e2, e3, e4⟩
theorem flat_num (l : List PNode) (i : Nat) (x : PNode) (h : l[i]? = some x) (m : Int) : (l.flatMap nodeC).set (i * 2 + 1) (.int .i64 m) = (l.set i ⟨x.name, m⟩).flatMap nodeC := by
  induction l generalizing i with
  | nil => simp at h
  | cons y l ih =>
    cases i with
    | zero => simp at h; subst h; rfl
    | succ i =>
      have := ih i (by simpa using h)
      rw [List.set_cons_succ, List.flatMap_cons, List.flatMap_cons, ← this]
      show (nodeC y ++ l.flatMap nodeC).set ((i + 1) * 2 + 1) _ = nodeC y ++ _
      rw [show (i + 1) * 2 + 1 = (i * 2 + 1) + 1 + 1 by omega]
      rfl
theorem flat_name (l : List PNode) (i : Nat) (x : PNode) (h : l[i]? = some x) (s : ByteArray) : (l.flatMap nodeC).set (i * 2) (.string s) = (l.set i ⟨s, x.num⟩).flatMap nodeC := by
  induction l generalizing i with
  | nil => simp at h
  | cons y l ih =>
    cases i with
    | zero => simp at h; subst h; rfl
    | succ i =>
      have := ih i (by simpa using h)
      rw [List.set_cons_succ, List.flatMap_cons, List.flatMap_cons, ← this]
      show (nodeC y ++ l.flatMap nodeC).set ((i + 1) * 2) _ = nodeC y ++ _
      rw [show (i + 1) * 2 = (i * 2) + 1 + 1 by omega]
      rfl
/-- A node's number, or name, turned. -/
theorem HSt.nodeNum {gn ln cn : Nat} (h : HSt w0 g p (.slice (some ⟨gn, 0, none⟩) ln cn) vl vd vc w) {i : Nat} {x : PNode} (hx : p.nodes[i]? = some x) (m : Int) : HSt w0 g { p with nodes := p.nodes.set i ⟨x.name, m⟩ } (.slice (some ⟨gn, 0, none⟩) ln cn) vl vd vc (w.setCell ⟨gn, i * 2 + 1, none⟩ (.int .i64 m)) := by
  have hl := slice_len h.own.nodes
  have ho := h.own.nodes
  rw [hl] at ho
  obtain ⟨h1, h2⟩ := ho.stored (i * 2 + 1) (.int .i64 m)
  exact h.nodesIn (by rw [List.length_set, hl, ← flat_num _ _ _ hx]; exact h1) h2
theorem HSt.nodeName {gn ln cn : Nat} (h : HSt w0 g p (.slice (some ⟨gn, 0, none⟩) ln cn) vl vd vc w) {i : Nat} {x : PNode} (hx : p.nodes[i]? = some x) (s : ByteArray) : HSt w0 g { p with nodes := p.nodes.set i ⟨s, x.num⟩ } (.slice (some ⟨gn, 0, none⟩) ln cn) vl vd vc (w.setCell ⟨gn, i * 2, none⟩ (.string s)) := by
  have hl := slice_len h.own.nodes
  have ho := h.own.nodes
  rw [hl] at ho
  obtain ⟨h1, h2⟩ := ho.stored (i * 2) (.string s)
  exact h.nodesIn (by rw [List.length_set, hl, ← flat_name _ _ _ hx]; exact h1) h2
theorem flat_orig (l : List (PDest × (Option Addr × Nat))) (i : Nat) (x : PDest × (Option Addr × Nat)) (h : l[i]? = some x) (og : List Int) (A : Option Addr) (c : Nat) : (l.flatMap destC).set (i * 2 + 1) (.slice A og.length c) = (l.set i (⟨x.1.name, og⟩, (A, c))).flatMap destC := by
  induction l generalizing i with
  | nil => simp at h
  | cons y l ih =>
    cases i with
    | zero => simp at h; subst h; rfl
    | succ i =>
      have := ih i (by simpa using h)
      rw [List.set_cons_succ, List.flatMap_cons, List.flatMap_cons, ← this]
      show (destC y ++ l.flatMap destC).set ((i + 1) * 2 + 1) _ = destC y ++ _
      rw [show (i + 1) * 2 + 1 = (i * 2 + 1) + 1 + 1 by omega]
      rfl
theorem zip_set {α β : Type} (l : List α) (m : List β) (i : Nat) (a : α) (b : β) : (l.set i a).zip (m.set i b) = (l.zip m).set i (a, b) := by
  induction l generalizing m i with
  | nil => simp
  | cons x l ih =>
    cases m with
    | nil => simp
    | cons y m => cases i with
      | zero => simp
      | succ i => simp [ih]
/-- A destination's numbers, others, in a row that is new. -/
theorem HSt.destOrig {gd ld cd : Nat} (h : HSt w0 g p vn vl (.slice (some ⟨gd, 0, none⟩) ld cd) vc w) (hb : Below w.heap.size w w') {i : Nat} {d : PDest} (hd : p.dests[i]? = some d) {og : List Int} {A : Option Addr} {c : Nat}
    (hn : w'.ownsRow w0.heap.size 3 1 (.slice A og.length c) og.length (og.map (Value.int .i64))) :
    HSt w0 g { p with dests := p.dests.set i ⟨d.name, og⟩ } vn vl (.slice (some ⟨gd, 0, none⟩) ld cd) vc (w'.setCell ⟨gd, i * 2 + 1, none⟩ (.slice A og.length c)) := by
  have h' := h.up hb
  obtain ⟨hs, h1, h2, h3⟩ := h'.own.dests
  have hl := slice_len h2
  obtain ⟨h4, h5⟩ := (hl ▸ h2 : w'.ownsRow w0.heap.size 47 2 (.slice (some ⟨gd, 0, none⟩) ld cd) ld _).stored (i * 2 + 1) (.slice A og.length c)
  have hbd : Below w0.heap.size w' (w'.setCell ⟨gd, i * 2 + 1, none⟩ (.slice A og.length c)) := (Below.refl _ _).setCell (p := ⟨gd, i * 2 + 1, none⟩) (h2.lt gd rfl).1 _
  have hi := (List.getElem?_eq_some_iff.1 hd).1
  obtain ⟨q, hq⟩ : ∃ q, hs[i]? = some q := ⟨_, List.getElem?_eq_getElem (by omega)⟩
  have hz : (p.dests.zip hs)[i]? = some (d, q) := by rw [List.getElem?_zip_eq_some]; exact ⟨hd, hq⟩
  refine ⟨⟨own_far h'.own.nodes h2 (by decide) h5, own_far h'.own.links h2 (by decide) h5, ⟨hs.set i (A, c), by simp [h1], ?_, fun j e r e1 e2 => ?_⟩, own_far h'.own.checks h2 (by decide) h5⟩, h'.blk.grown h5 (fun e1 => own_blk_ne h2 h'.blk (by decide) e1.symm), h.lo, h'.below.trans hbd⟩
  · rw [zip_set, ← flat_orig _ _ _ hz og A c, List.length_set, hl]; exact h4
  · by_cases hj : i = j
    · subst hj
      rw [List.getElem?_set_self hi] at e1
      rw [List.getElem?_set_self (by omega)] at e2
      injection e1 with e1
      injection e2 with e2
      subst e1 e2
      exact own_far hn h2 (by decide) h5
    · rw [List.getElem?_set_ne hj] at e1
      rw [List.getElem?_set_ne hj] at e2
      exact own_far (h3 j e r e1 e2) h2 (by decide) h5
/-- Two cells of two blocks, written in either order. -/
theorem setCell_turn (w : World) {a b : Addr} (hab : a.block ≠ b.block) (u v : Value) : (w.setCell a u).setCell b v = (w.setCell b v).setCell a u := by
  unfold World.setCell
  congr 1
  apply Array.ext_getElem?
  intro i
  simp only [Array.getElem?_modify]
  by_cases h1 : a.block = i <;> by_cases h2 : b.block = i
  · exact absurd (h1.trans h2.symm) hab
  · simp [h1, h2]
  · simp [h1, h2]
  · simp [h1, h2]
end
end Go.Proofs.YtponlhgkgmlihaaDoor
