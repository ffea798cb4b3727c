/-
  Networks that may be, turned in some place: plain facts; two elements of a row turned in memory.
-/
import Derived.Test.YtlfdpfkimggeoaaPlQ
import Derived.Test.YtlfdpfkimggeoaaPlZb
import Derived.Laws.OwnMore
namespace Go.Proofs.Ytlfdpfkimggeoaa
open Go.RowKit
set_option linter.unusedVariables false

structure HSt (w0 : World) (g : Nat) (p : PPlan) (vn vl vd vc : Value) (w : World) : Prop where
  own : POwn w0.heap.size p vn vl vd vc w
  blk : Blk w g 29 #[.int .i64 p.proto, .int .i64 p.cap, .int .i64 p.k, vn, vl, vd, vc]
  lo : w0.heap.size ≤ g
  below : Below w0.heap.size w0 w

section
variable {w0 w w' : World} {g : Nat} {p : PPlan} {vn vl vd vc v' : Value}
theorem HSt.start (ho : POwn w0.heap.size p vn vl vd vc w) (hb : Below w0.heap.size w0 w) : HSt w0 w.heap.size p vn vl vd vc (w.alloc (.cells #[.int .i64 p.proto, .int .i64 p.cap, .int .i64 p.k, vn, vl, vd, vc] 29)) :=
  ⟨⟨own_alloc ho.nodes _, own_alloc ho.links _, ho.dests.map fun _ hx => own_alloc hx _, own_alloc ho.checks _⟩, Blk.new _ _ _, hb.size, hb.trans ((below_new _ _).mono hb.size)⟩
theorem HSt.up (h : HSt w0 g p vn vl vd vc w) (hb : Below w.heap.size w w') : HSt w0 g p vn vl vd vc w' :=
  ⟨⟨own_below h.own.nodes hb, own_below h.own.links hb, h.own.dests.map fun _ hx => own_below hx hb, own_below h.own.checks hb⟩, h.blk.up hb, h.lo, h.below.trans (hb.mono h.below.size)⟩
theorem HSt.put (h : HSt w0 g p vn vl vd vc w) (i : Nat) (u : Value) (p' : PPlan) (e1 : p'.nodes = p.nodes) (e2 : p'.links = p.links) (e3 : p'.dests = p.dests) (e4 : p'.checks = p.checks)
    (hx : (#[.int .i64 p.proto, .int .i64 p.cap, .int .i64 p.k, vn, vl, vd, vc] : Array Value).setIfInBounds i u = #[.int .i64 p'.proto, .int .i64 p'.cap, .int .i64 p'.k, vn, vl, vd, vc]) : HSt w0 g p' vn vl vd vc (w.setCell ⟨g, i, none⟩ u) :=
  ⟨⟨by rw [e1]; exact own_set h.own.nodes h.blk (by decide) i u, by rw [e2]; exact own_set h.own.links h.blk (by decide) i u, by rw [e3]; exact h.own.dests.map fun he ho => own_set ho h.blk (by rcases he with rfl | rfl <;> decide) i u, by rw [e4]; exact own_set h.own.checks h.blk (by decide) i u⟩,
    by have := h.blk.set_ i u; rwa [hx] at this, h.lo, h.below.trans ((Below.refl _ _).setCell (p := ⟨g, i, none⟩) h.lo _)⟩
/-- A row's value more, or another one, in the network's block. -/
theorem HSt.cellTo (h : HSt w0 g p vn vl vd vc w) (i : Nat) {vn' vl' vd' vc' u : Value} (hx : (#[.int .i64 p.proto, .int .i64 p.cap, .int .i64 p.k, vn, vl, vd, vc] : Array Value).setIfInBounds i u = #[.int .i64 p.proto, .int .i64 p.cap, .int .i64 p.k, vn', vl', vd', vc'])
    (p' : PPlan) (e0 : p'.proto = p.proto ∧ p'.cap = p.cap ∧ p'.k = p.k) (ho : POwn w0.heap.size p' vn' vl' vd' vc' w) : HSt w0 g p' vn' vl' vd' vc' (w.setCell ⟨g, i, none⟩ u) :=
  ⟨⟨own_set ho.nodes h.blk (by decide) i u, own_set ho.links h.blk (by decide) i u, ho.dests.map fun he hx => own_set hx h.blk (by rcases he with rfl | rfl <;> decide) i u, own_set ho.checks h.blk (by decide) i u⟩,
    by have := h.blk.set_ i u; rw [hx] at this; rw [e0.1, e0.2.1, e0.2.2]; exact this, h.lo, h.below.trans ((Below.refl _ _).setCell (p := ⟨g, i, none⟩) h.lo _)⟩
theorem grown_any {row : Option Nat} (hg : w.grownBy w' none) : w.grownBy w' row := ⟨hg.os, hg.tape, hg.output, hg.size, fun k hk _ => hg.block k hk (by simp)⟩
theorem own_below0 {e : TypeId} {size n B : Nat} {v : Value} {xs : List Value} (h : w.ownsRow B e size v n xs) (hB : B ≤ w.heap.size) (hg : w.grownBy w' v.ownBlock) : Below B w w' := (Below.refl _ _).grown hg hB (fun g hg => (h.lt g hg).1)
/-- The row of links, turned where it lies. -/
theorem HSt.linksIn (h : HSt w0 g p vn vl vd vc w) {xs : List PLink} (ho : w'.ownsRow w0.heap.size 53 3 vl xs.length (xs.flatMap linkC)) (hg : w.grownBy w' vl.ownBlock) : HSt w0 g { p with links := xs } vn vl vd vc w' :=
  ⟨⟨own_far h.own.nodes h.own.links (by decide) hg, ho, h.own.dests.map fun he hx => own_far hx h.own.links (by rcases he with rfl | rfl <;> decide) hg, own_far h.own.checks h.own.links (by decide) hg⟩, h.blk.grown hg (fun e1 => own_blk_ne h.own.links h.blk (by decide) e1.symm), h.lo, h.below.trans (own_below0 h.own.links h.below.size hg)⟩
/-- Another row of links. -/
theorem HSt.linksTo (h : HSt w0 g p vn vl vd vc w) {xs : List PLink} (ho : w'.ownsRow w0.heap.size 53 3 v' xs.length (xs.flatMap linkC)) (hg : w.grownBy w' vl.ownBlock) : HSt w0 g { p with links := xs } vn v' vd vc (w'.setCell ⟨g, 4, none⟩ v') := by
  have hb := h.blk.grown hg (fun e1 => own_blk_ne h.own.links h.blk (by decide) e1.symm)
  have hw := h.below.trans (own_below0 h.own.links h.below.size hg)
  have ow : POwn w0.heap.size { p with links := xs } vn v' vd vc w' := ⟨own_far h.own.nodes h.own.links (by decide) hg, ho, h.own.dests.map fun he hx => own_far hx h.own.links (by rcases he with rfl | rfl <;> decide) hg, own_far h.own.checks h.own.links (by decide) hg⟩
  exact ⟨⟨own_set ow.nodes hb (by decide) 4 v', own_set ow.links hb (by decide) 4 v', ow.dests.map fun he hx => own_set hx hb (by rcases he with rfl | rfl <;> decide) 4 v', own_set ow.checks hb (by decide) 4 v'⟩,
    hb.set_ 4 v', h.lo, hw.trans ((Below.refl _ _).setCell (p := ⟨g, 4, none⟩) h.lo _)⟩
/-- The row of checks, turned where it lies. -/
theorem HSt.checksIn (h : HSt w0 g p vn vl vd vc w) {xs : List PCheck} (ho : w'.ownsRow w0.heap.size 67 5 vc xs.length (xs.flatMap checkC)) (hg : w.grownBy w' vc.ownBlock) : HSt w0 g { p with checks := xs } vn vl vd vc w' :=
  ⟨⟨own_far h.own.nodes h.own.checks (by decide) hg, own_far h.own.links h.own.checks (by decide) hg, h.own.dests.map fun he hx => own_far hx h.own.checks (by rcases he with rfl | rfl <;> decide) hg, ho⟩, h.blk.grown hg (fun e1 => own_blk_ne h.own.checks h.blk (by decide) e1.symm), h.lo, h.below.trans (own_below0 h.own.checks h.below.size hg)⟩
/-- Another row of checks. -/
theorem HSt.checksTo (h : HSt w0 g p vn vl vd vc w) {xs : List PCheck} (ho : w'.ownsRow w0.heap.size 67 5 v' xs.length (xs.flatMap checkC)) (hg : w.grownBy w' vc.ownBlock) : HSt w0 g { p with checks := xs } vn vl vd v' (w'.setCell ⟨g, 6, none⟩ v') := by
  have hb := h.blk.grown hg (fun e1 => own_blk_ne h.own.checks h.blk (by decide) e1.symm)
  have hw := h.below.trans (own_below0 h.own.checks h.below.size hg)
  have ow : POwn w0.heap.size { p with checks := xs } vn vl vd v' w' := ⟨own_far h.own.nodes h.own.checks (by decide) hg, own_far h.own.links h.own.checks (by decide) hg, h.own.dests.map fun he hx => own_far hx h.own.checks (by rcases he with rfl | rfl <;> decide) hg, ho⟩
  exact ⟨⟨own_set ow.nodes hb (by decide) 6 v', own_set ow.links hb (by decide) 6 v', ow.dests.map fun he hx => own_set hx hb (by rcases he with rfl | rfl <;> decide) 6 v', own_set ow.checks hb (by decide) 6 v'⟩,
    hb.set_ 6 v', h.lo, hw.trans ((Below.refl _ _).setCell (p := ⟨g, 6, none⟩) h.lo _)⟩
/-- The row of nodes, turned where it lies. -/
theorem HSt.nodesIn (h : HSt w0 g p vn vl vd vc w) {xs : List PNode} (ho : w'.ownsRow w0.heap.size 56 2 vn xs.length (xs.flatMap nodeC)) (hg : w.grownBy w' vn.ownBlock) : HSt w0 g { p with nodes := xs } vn vl vd vc w' :=
  ⟨⟨ho, own_far h.own.links h.own.nodes (by decide) hg, h.own.dests.map fun he hx => own_far hx h.own.nodes (by rcases he with rfl | rfl <;> decide) hg, own_far h.own.checks h.own.nodes (by decide) hg⟩, h.blk.grown hg (fun e1 => own_blk_ne h.own.nodes h.blk (by decide) e1.symm), h.lo, h.below.trans (own_below0 h.own.nodes h.below.size hg)⟩
/-- Another row of nodes. -/
theorem HSt.nodesTo (h : HSt w0 g p vn vl vd vc w) {xs : List PNode} (ho : w'.ownsRow w0.heap.size 56 2 v' xs.length (xs.flatMap nodeC)) (hg : w.grownBy w' vn.ownBlock) : HSt w0 g { p with nodes := xs } v' vl vd vc (w'.setCell ⟨g, 3, none⟩ v') := by
  have hb := h.blk.grown hg (fun e1 => own_blk_ne h.own.nodes h.blk (by decide) e1.symm)
  have hw := h.below.trans (own_below0 h.own.nodes h.below.size hg)
  have ow : POwn w0.heap.size { p with nodes := xs } v' vl vd vc w' := ⟨ho, own_far h.own.links h.own.nodes (by decide) hg, h.own.dests.map fun he hx => own_far hx h.own.nodes (by rcases he with rfl | rfl <;> decide) hg, own_far h.own.checks h.own.nodes (by decide) hg⟩
  exact ⟨⟨own_set ow.nodes hb (by decide) 3 v', own_set ow.links hb (by decide) 3 v', ow.dests.map fun he hx => own_set hx hb (by rcases he with rfl | rfl <;> decide) 3 v', own_set ow.checks hb (by decide) 3 v'⟩,
    hb.set_ 3 v', h.lo, hw.trans ((Below.refl _ _).setCell (p := ⟨g, 3, none⟩) h.lo _)⟩
/-- One more. -/
theorem HSt.pushLink (h : HSt w0 g p vn vl vd vc w) {x : PLink} (ho : w'.ownsRow w0.heap.size 53 3 v' (p.links.length + 1) (p.links.flatMap linkC ++ linkC x)) (hg : w.grownBy w' vl.ownBlock) : HSt w0 g { p with links := p.links ++ [x] } vn v' vd vc (w'.setCell ⟨g, 4, none⟩ v') :=
  h.linksTo (by rw [List.length_append, List.flatMap_append]; simpa using ho) hg
theorem HSt.pushCheck (h : HSt w0 g p vn vl vd vc w) {x : PCheck} (ho : w'.ownsRow w0.heap.size 67 5 v' (p.checks.length + 1) (p.checks.flatMap checkC ++ checkC x)) (hg : w.grownBy w' vc.ownBlock) : HSt w0 g { p with checks := p.checks ++ [x] } vn vl vd v' (w'.setCell ⟨g, 6, none⟩ v') :=
  h.checksTo (by rw [List.length_append, List.flatMap_append]; simpa using ho) hg
theorem slice_len {B : Nat} {e : TypeId} {size n ln c : Nat} {A : Option Addr} {xs : List Value} (h : w.ownsRow B e size (.slice A ln c) n xs) : n = ln := by
  obtain ⟨A', c', hv, _⟩ := own_form h
  injection hv with _ e2 _
  exact e2.symm
theorem RowAt.of_own' {B : Nat} {e : TypeId} {size n ln c : Nat} {A : Option Addr} {xs : List Value} (h : w.ownsRow B e size (.slice A ln c) n xs) : RowAt w w.heap.size A xs := by
  have hl := slice_len h
  subst hl
  exact RowAt.of_own h
theorem HSt.pat {An Al Ad Ac : Option Addr} {ln cn ll cl ld cd lc cc : Nat} (h : HSt w0 g p (.slice An ln cn) (.slice Al ll cl) (.slice Ad ld cd) (.slice Ac lc cc) w) : PAt w p p.proto p.cap p.k An ln Al ll Ad ld Ac lc := by
  obtain ⟨hs, h1, h2, h3⟩ := h.own.dests
  exact ⟨rfl, rfl, rfl, slice_len h.own.nodes, slice_len h.own.links, slice_len h2, slice_len h.own.checks, RowAt.of_own' h.own.nodes, RowAt.of_own' h.own.links, ⟨hs, h1, RowAt.of_own' h2, fun i d q e1 e2 => RowAt.of_own' (h3 i d q e1 e2)⟩, RowAt.of_own' h.own.checks⟩
theorem HSt.forms (h : HSt w0 g p vn vl vd vc w) : ∃ An ln cn Al ll cl Ad ld cd Ac lc cc, vn = .slice An ln cn ∧ vl = .slice Al ll cl ∧ vd = .slice Ad ld cd ∧ vc = .slice Ac lc cc := by
  obtain ⟨An, cn, e1, _⟩ := own_form h.own.nodes
  obtain ⟨Al, cl, e2, _⟩ := own_form h.own.links
  obtain ⟨hs, _, h2, _⟩ := h.own.dests
  obtain ⟨Ad, cd, e3, _⟩ := own_form h2
  obtain ⟨Ac, cc, e4, _⟩ := own_form h.own.checks
  exact ⟨An, _, cn, Al, _, cl, Ad, _, cd, Ac, _, cc, e1, e2, e3, e4⟩
theorem flat_num (l : List PNode) (i : Nat) (x : PNode) (h : l[i]? = some x) (m : Int) : (l.flatMap nodeC).set (i * 2 + 1) (.int .i64 m) = (l.set i ⟨x.name, m⟩).flatMap nodeC := by
  induction l generalizing i with
  | nil => simp at h
  | cons y l ih =>
    cases i with
    | zero => simp at h; subst h; rfl
    | succ i =>
      have := ih i (by simpa using h)
      rw [List.set_cons_succ, List.flatMap_cons, List.flatMap_cons, ← this]
      show (nodeC y ++ l.flatMap nodeC).set ((i + 1) * 2 + 1) _ = nodeC y ++ _
      rw [show (i + 1) * 2 + 1 = (i * 2 + 1) + 1 + 1 by omega]
      rfl
theorem flat_name (l : List PNode) (i : Nat) (x : PNode) (h : l[i]? = some x) (s : ByteArray) : (l.flatMap nodeC).set (i * 2) (.string s) = (l.set i ⟨s, x.num⟩).flatMap nodeC := by
  induction l generalizing i with
  | nil => simp at h
  | cons y l ih =>
    cases i with
    | zero => simp at h; subst h; rfl
    | succ i =>
      have := ih i (by simpa using h)
      rw [List.set_cons_succ, List.flatMap_cons, List.flatMap_cons, ← this]
      show (nodeC y ++ l.flatMap nodeC).set ((i + 1) * 2) _ = nodeC y ++ _
      rw [show (i + 1) * 2 = (i * 2) + 1 + 1 by omega]
      rfl
/-- A node's number, or name, turned. -/
theorem HSt.nodeNum {gn ln cn : Nat} (h : HSt w0 g p (.slice (some ⟨gn, 0, none⟩) ln cn) vl vd vc w) {i : Nat} {x : PNode} (hx : p.nodes[i]? = some x) (m : Int) : HSt w0 g { p with nodes := p.nodes.set i ⟨x.name, m⟩ } (.slice (some ⟨gn, 0, none⟩) ln cn) vl vd vc (w.setCell ⟨gn, i * 2 + 1, none⟩ (.int .i64 m)) := by
  have hl := slice_len h.own.nodes
  have ho := h.own.nodes
  rw [hl] at ho
  obtain ⟨h1, h2⟩ := ho.stored (i * 2 + 1) (.int .i64 m)
  exact h.nodesIn (by rw [List.length_set, hl, ← flat_num _ _ _ hx]; exact h1) h2
theorem HSt.nodeName {gn ln cn : Nat} (h : HSt w0 g p (.slice (some ⟨gn, 0, none⟩) ln cn) vl vd vc w) {i : Nat} {x : PNode} (hx : p.nodes[i]? = some x) (s : ByteArray) : HSt w0 g { p with nodes := p.nodes.set i ⟨s, x.num⟩ } (.slice (some ⟨gn, 0, none⟩) ln cn) vl vd vc (w.setCell ⟨gn, i * 2, none⟩ (.string s)) := by
  have hl := slice_len h.own.nodes
  have ho := h.own.nodes
  rw [hl] at ho
  obtain ⟨h1, h2⟩ := ho.stored (i * 2) (.string s)
  exact h.nodesIn (by rw [List.length_set, hl, ← flat_name _ _ _ hx]; exact h1) h2
theorem flat_orig (l : List (PDest × (Option Addr × Nat))) (i : Nat) (x : PDest × (Option Addr × Nat)) (h : l[i]? = some x) (og : List Int) (A : Option Addr) (c : Nat) : (l.flatMap destC).set (i * 2 + 1) (.slice A og.length c) = (l.set i (⟨x.1.name, og⟩, (A, c))).flatMap destC := by
  induction l generalizing i with
  | nil => simp at h
  | cons y l ih =>
    cases i with
    | zero => simp at h; subst h; rfl
    | succ i =>
      have := ih i (by simpa using h)
      rw [List.set_cons_succ, List.flatMap_cons, List.flatMap_cons, ← this]
      show (destC y ++ l.flatMap destC).set ((i + 1) * 2 + 1) _ = destC y ++ _
      rw [show (i + 1) * 2 + 1 = (i * 2 + 1) + 1 + 1 by omega]
      rfl
theorem zip_set {α β : Type} (l : List α) (m : List β) (i : Nat) (a : α) (b : β) : (l.set i a).zip (m.set i b) = (l.zip m).set i (a, b) := by
  induction l generalizing m i with
  | nil => simp
  | cons x l ih =>
    cases m with
    | nil => simp
    | cons y m => cases i with
      | zero => simp
      | succ i => simp [ih]
/-- A destination's numbers, others, in a row that is new. -/
theorem HSt.destOrig {gd ld cd : Nat} (h : HSt w0 g p vn vl (.slice (some ⟨gd, 0, none⟩) ld cd) vc w) (hb : Below w.heap.size w w') {i : Nat} {d : PDest} (hd : p.dests[i]? = some d) {og : List Int} {A : Option Addr} {c : Nat}
    (hn : w'.ownsRow w0.heap.size 3 1 (.slice A og.length c) og.length (og.map (Value.int .i64))) :
    HSt w0 g { p with dests := p.dests.set i ⟨d.name, og⟩ } vn vl (.slice (some ⟨gd, 0, none⟩) ld cd) vc (w'.setCell ⟨gd, i * 2 + 1, none⟩ (.slice A og.length c)) := by
  have h' := h.up hb
  obtain ⟨hs, h1, h2, h3⟩ := h'.own.dests
  have hl := slice_len h2
  obtain ⟨h4, h5⟩ := (hl ▸ h2 : w'.ownsRow w0.heap.size 65 2 (.slice (some ⟨gd, 0, none⟩) ld cd) ld _).stored (i * 2 + 1) (.slice A og.length c)
  have hbd : Below w0.heap.size w' (w'.setCell ⟨gd, i * 2 + 1, none⟩ (.slice A og.length c)) := (Below.refl _ _).setCell (p := ⟨gd, i * 2 + 1, none⟩) (h2.lt gd rfl).1 _
  have hi := (List.getElem?_eq_some_iff.1 hd).1
  obtain ⟨q, hq⟩ : ∃ q, hs[i]? = some q := ⟨_, List.getElem?_eq_getElem (by omega)⟩
  have hz : (p.dests.zip hs)[i]? = some (d, q) := by rw [List.getElem?_zip_eq_some]; exact ⟨hd, hq⟩
  refine ⟨⟨own_far h'.own.nodes h2 (by decide) h5, own_far h'.own.links h2 (by decide) h5, ⟨hs.set i (A, c), by simp [h1], ?_, fun j e r e1 e2 => ?_⟩, own_far h'.own.checks h2 (by decide) h5⟩, h'.blk.grown h5 (fun e1 => own_blk_ne h2 h'.blk (by decide) e1.symm), h.lo, h'.below.trans hbd⟩
  · rw [zip_set, ← flat_orig _ _ _ hz og A c, List.length_set, hl]; exact h4
  · by_cases hj : i = j
    · subst hj
      rw [List.getElem?_set_self hi] at e1
      rw [List.getElem?_set_self (by omega)] at e2
      injection e1 with e1
      injection e2 with e2
      subst e1 e2
      exact own_far hn h2 (by decide) h5
    · rw [List.getElem?_set_ne hj] at e1
      rw [List.getElem?_set_ne hj] at e2
      exact own_far (h3 j e r e1 e2) h2 (by decide) h5
/-- Two cells of two blocks, written in either order. -/
theorem setCell_turn (w : World) {a b : Addr} (hab : a.block ≠ b.block) (u v : Value) : (w.setCell a u).setCell b v = (w.setCell b v).setCell a u := by
  unfold World.setCell
  congr 1
  apply Array.ext_getElem?
  intro i
  simp only [Array.getElem?_modify]
  by_cases h1 : a.block = i <;> by_cases h2 : b.block = i
  · exact absurd (h1.trans h2.symm) hab
  · simp [h1, h2]
  · simp [h1, h2]
  · simp [h1, h2]
end
end Go.Proofs.Ytlfdpfkimggeoaa
namespace Go.Proofs.Ytlfdpfkimggeoaa
open Go.RowKit
set_option linter.unusedVariables false

/-- More of a network that Net makes. -/
structure NetFine (p : PPlan) : Prop where
  links : LinksOk p.nodes.length p.links
  dests : DestsOk p.nodes.length p.dests
  names : ∀ (i : Nat) (x : PNode), p.nodes[i]? = some x → x.name = nmG i ∧ 1 ≤ x.num ∧ x.num ≤ 10 + i
  checks : ChecksOk p.nodes.length p.dests.length p.checks
theorem netFine (l : List Int) : NetFine (netOf l) := by
  have hn : (netOf l).nodes.length = nG (l.take 200) := nodesOf_len _
  have hd : (netOf l).dests.length = ndG (l.take 200) := (destsOf_ok _).2
  exact ⟨by rw [hn]; exact (linksOf_ok _).1, by rw [hn]; exact (destsOf_ok _).1, fun i x h => (nodesOf_at _ h).2, by rw [hn, hd]; exact (checksOf_ok _).1⟩

/-! ### Two neighbours turned -/
def turnAt (i k : Nat) : Nat := if k = i then i + 1 else if k = i + 1 then i else k
theorem turnAt_inj {i j k : Nat} (h : turnAt i j = turnAt i k) : j = k := by unfold turnAt at h; split at h <;> split at h <;> (try split at h) <;> (try split at h) <;> omega
def turned {α : Type} (l : List α) (i : Nat) (x y : α) : List α := (l.set i y).set (i + 1) x
theorem turned_len {α : Type} (l : List α) (i : Nat) (x y : α) : (turned l i x y).length = l.length := by unfold turned; rw [List.length_set, List.length_set]
theorem turned_get {α : Type} {l : List α} {i : Nat} {x y : α} (hx : l[i]? = some x) (hy : l[i + 1]? = some y) (k : Nat) : (turned l i x y)[k]? = l[turnAt i k]? := by
  have h1 := (List.getElem?_eq_some_iff.1 hx).1
  have h2 := (List.getElem?_eq_some_iff.1 hy).1
  unfold turned turnAt
  by_cases e1 : k = i + 1
  · subst e1
    rw [List.getElem?_set_self (by rw [List.length_set]; omega), if_neg (by omega), if_pos rfl, hx]
  · rw [List.getElem?_set_ne (by omega)]
    by_cases e2 : k = i
    · subst e2
      rw [List.getElem?_set_self h1, if_pos rfl, hy]
    · rw [List.getElem?_set_ne (by omega), if_neg e2, if_neg e1]
theorem LinksOk.apart {n : Nat} {ls : List PLink} (h : LinksOk n ls) {i j : Nat} {x y : PLink} (hx : ls[i]? = some x) (hy : ls[j]? = some y) (hij : i ≠ j) : linkIs x.a x.b y = false := by
  rcases Nat.lt_or_ge j i with hlt | hge
  · exact (h i x hx).2 j y hlt hy
  · have := (h j y hy).2 i x (by omega) hx
    cases hc : linkIs x.a x.b y
    · rfl
    · obtain ⟨e1, e2⟩ := (linkIs_iff _ _ _).1 hc
      rw [(linkIs_iff _ _ _).2 ⟨e1.symm, e2.symm⟩] at this
      exact this
theorem LinksOk.turned {n : Nat} {ls : List PLink} (h : LinksOk n ls) {i : Nat} {x y : PLink} (hx : ls[i]? = some x) (hy : ls[i + 1]? = some y) : LinksOk n (turned ls i x y) := by
  intro k z hz
  rw [turned_get hx hy] at hz
  refine ⟨(h _ z hz).1, fun j u hj hu => ?_⟩
  rw [turned_get hx hy] at hu
  exact h.apart hz hu (fun e => by have := turnAt_inj e; omega)
theorem turned_mem {α : Type} {l : List α} {i : Nat} {x y : α} (hx : l[i]? = some x) (hy : l[i + 1]? = some y) {z : α} (hz : z ∈ turned l i x y) : z ∈ l := by
  obtain ⟨k, hk⟩ := List.mem_iff_getElem?.1 hz
  rw [turned_get hx hy] at hk
  exact List.mem_of_getElem? hk
theorem turned_ne {α : Type} {l : List α} {i : Nat} {x y : α} (hx : l[i]? = some x) (hy : l[i + 1]? = some y) (hne : x ≠ y) : turned l i x y ≠ l := fun e => by
  have h := turned_get hx hy i
  rw [e, hx] at h
  unfold turnAt at h
  rw [if_pos rfl, hy] at h
  injection h with h
  exact hne h
theorem turned_same {α : Type} {l : List α} {i : Nat} {x : α} (hx : l[i]? = some x) (hy : l[i + 1]? = some x) : turned l i x x = l := by
  apply List.ext_getElem?
  intro k
  rw [turned_get hx hy]
  unfold turnAt
  by_cases e1 : k = i
  · subst e1; rw [if_pos rfl, hy, hx]
  · rw [if_neg e1]
    by_cases e2 : k = i + 1
    · subst e2; rw [if_pos rfl, hx, hy]
    · rw [if_neg e2]

theorem right_parts {p : PPlan} (h : Hid (rightB p = true)) : protoB p.proto p.cap = true ∧ withinB p.k 0 (min 4 (p.links.length : Int)) = true ∧ nodesB p.nodes = true ∧ linksB p.nodes.length p.links = true ∧ destsB p.nodes p.dests = true ∧ checksB p.nodes.length p.dests.length p.checks = true := by
  have := h.out
  unfold rightB at this
  simpa only [Bool.and_eq_true] using this
theorem right_of {p : PPlan} (h1 : protoB p.proto p.cap = true) (h2 : withinB p.k 0 (min 4 (p.links.length : Int)) = true) (h3 : nodesB p.nodes = true) (h4 : linksB p.nodes.length p.links = true) (h5 : destsB p.nodes p.dests = true) (h6 : checksB p.nodes.length p.dests.length p.checks = true) : Hid (rightB p = true) :=
  Lib.hid (by unfold rightB; simp only [h1, h2, h3, h4, h5, h6, Bool.and_self])
theorem right_turnLinks {p : PPlan} (h : Hid (rightB p = true)) (hf : NetFine p) (hl : p.links.length ≤ 9) {i : Nat} {x y : PLink} (hx : p.links[i]? = some x) (hy : p.links[i + 1]? = some y) : Hid (rightB { p with links := turned p.links i x y } = true) := by
  obtain ⟨h1, h2, h3, h4, h5, h6⟩ := right_parts h
  exact right_of h1 (by show withinB p.k 0 (min 4 ((turned p.links i x y).length : Int)) = true; rw [turned_len]; exact h2) h3 (linksB_ok (hf.links.turned hx hy) (by rw [turned_len]; omega)) h5 h6
theorem right_turnChecks {p : PPlan} (h : Hid (rightB p = true)) {i : Nat} {x y : PCheck} (hx : p.checks[i]? = some x) (hy : p.checks[i + 1]? = some y) : Hid (rightB { p with checks := turned p.checks i x y } = true) := by
  obtain ⟨h1, h2, h3, h4, h5, h6⟩ := right_parts h
  refine right_of h1 h2 h3 h4 h5 ?_
  unfold checksB at h6 ⊢
  rw [Bool.and_eq_true, decide_eq_true_iff] at h6 ⊢
  refine ⟨by rw [turned_len]; exact h6.1, (allF_iff _ _ _).2 fun k z hz => ?_⟩
  rw [turned_get hx hy] at hz
  exact (allF_iff _ _ _).1 h6.2 _ z hz
theorem right_turnDests {p : PPlan} (h : Hid (rightB p = true)) (hf : NetFine p) {d e : PDest} (hd : p.dests = [d, e]) : Hid (rightB { p with dests := [e, d] } = true) := by
  obtain ⟨h1, h2, h3, h4, h5, h6⟩ := right_parts h
  have hde : d.name ≠ e.name := by
    have e1 := (hf.dests 0 d (by rw [hd]; rfl)).1
    have e2 := (hf.dests 1 e (by rw [hd]; rfl)).1
    rw [e1, e2]
    decide
  have hlen : ([e, d] : List PDest).length = p.dests.length := by rw [hd]; rfl
  refine right_of h1 h2 h3 h4 ?_ (by show checksB p.nodes.length ([e, d] : List PDest).length p.checks = true; rw [hlen]; exact h6)
  unfold destsB at h5 ⊢
  rw [hd] at h5
  simp only [allF, Bool.and_true, Bool.and_eq_true] at h5 ⊢
  obtain ⟨_, g1, g2⟩ := h5
  refine ⟨by simp, ?_, ?_⟩
  · unfold destOk at g2 ⊢
    simp only [Bool.and_eq_true, decide_eq_true_iff] at g2 ⊢
    refine ⟨g2.1, g2.2.1, ?_, g2.2.2.2⟩
    exact ixB_eq _ _ 0 e rfl (by unfold destIs; simp) (fun j y hj _ => by omega)
  · unfold destOk at g1 ⊢
    simp only [Bool.and_eq_true, decide_eq_true_iff] at g1 ⊢
    refine ⟨g1.1, g1.2.1, ?_, g1.2.2.2⟩
    exact ixB_eq _ _ 1 d rfl (by unfold destIs; simp) (fun j y hj hy => by
      obtain rfl : j = 0 := by omega
      injection hy with hy
      subst hy
      unfold destIs
      exact decide_eq_false (fun h => hde h.symm))
theorem same_of_ne {p q : PPlan} (h : q ≠ p) : Hid (sameB p q = false) ∧ Hid (sameB q p = false) :=
  ⟨Lib.hid (by cases e : sameB p q; rfl; exact absurd ((sameB_iff _ _).1 e).symm h), Lib.hid (by cases e : sameB q p; rfl; exact absurd ((sameB_iff _ _).1 e) h)⟩
theorem same_of_eq {p q : PPlan} (h : q = p) : Hid (sameB p q = true) ∧ Hid (sameB q p = true) :=
  ⟨Lib.hid ((sameB_iff _ _).2 h.symm), Lib.hid ((sameB_iff _ _).2 h)⟩

theorem check_eql (a b : PCheck) (r : Bool) (H : Hid (checkEq a b = r)) (w : World) : (binOp .eql 67 (.agg #[.int .i64 a.kind, .int .i64 a.node, .int .i64 a.dest, .int .i64 a.limit, .int .i64 a.other]) (.agg #[.int .i64 b.kind, .int .i64 b.node, .int .i64 b.dest, .int .i64 b.limit, .int .i64 b.other])).run Try.prog w = .ok (.bool r) w := by
  have u3 := Try.underlying3
  have hS : Try.prog.underlying 67 = some (.struct (Try.prog.fieldsOf 67)) := by kernel_rfl
  have hp : Try.prog.stoodInHeld 67 = false := by kernel_rfl
  rw [run_eql_struct, show (10000 : Nat) = 9999 + 1 from rfl, run_equalIn_agg w 9999 67 _ _ hS hp]
  simp only [Program.fieldsOf, Try.underlying67]
  rw [← H.out]
  unfold checkEq
  go_simp
  by_cases h1 : a.kind = b.kind <;> by_cases h2 : a.node = b.node <;> by_cases h3 : a.dest = b.dest <;> by_cases h4 : a.limit = b.limit <;> by_cases h5 : a.other = b.other <;> simp [h1, h2, h3, h4, h5]

/-! ### In memory -/
section
variable {w0 w w' w'' : World} {g : Nat} {p : PPlan} {vn vl vd vc : Value}
theorem own_frozen {B : Nat} {e : TypeId} {size n ln c gb : Nat} {xs : List Value} (h : w.ownsRow B e size (.slice (some ⟨gb, 0, none⟩) ln c) n xs) (j : Nat) : w.frozen? ⟨gb, j, none⟩ = false := by
  have hl := slice_len h
  subst hl
  exact h.frozenAt j
theorem grown_trans {row : Option Nat} (h : w.grownBy w' row) (k : w'.grownBy w'' row) : w.grownBy w'' row :=
  ⟨k.os.trans h.os, k.tape.trans h.tape, k.output.trans h.output, Nat.le_trans h.size k.size, fun i hi hr => (k.block i (Nat.lt_of_lt_of_le hi h.size) hr).trans (h.block i hi hr)⟩
theorem flat_link (l : List PLink) (i : Nat) (hi : i < l.length) (x : PLink) : (((l.flatMap linkC).set (i * 3) (.int .i64 x.a)).set (i * 3 + 1) (.int .i64 x.b)).set (i * 3 + 2) (.int .i64 x.cost) = (l.set i x).flatMap linkC := by
  induction l generalizing i with
  | nil => simp at hi
  | cons y l ih =>
    cases i with
    | zero => rfl
    | succ i =>
      have := ih i (by simpa using hi)
      rw [List.set_cons_succ, List.flatMap_cons, List.flatMap_cons, ← this]
      rw [show (i + 1) * 3 = i * 3 + 1 + 1 + 1 by omega]
      rfl
theorem flat_check (l : List PCheck) (i : Nat) (hi : i < l.length) (x : PCheck) : (((((l.flatMap checkC).set (i * 5) (.int .i64 x.kind)).set (i * 5 + 1) (.int .i64 x.node)).set (i * 5 + 2) (.int .i64 x.dest)).set (i * 5 + 3) (.int .i64 x.limit)).set (i * 5 + 4) (.int .i64 x.other) = (l.set i x).flatMap checkC := by
  induction l generalizing i with
  | nil => simp at hi
  | cons y l ih =>
    cases i with
    | zero => rfl
    | succ i =>
      have := ih i (by simpa using hi)
      rw [List.set_cons_succ, List.flatMap_cons, List.flatMap_cons, ← this]
      rw [show (i + 1) * 5 = i * 5 + 1 + 1 + 1 + 1 + 1 by omega]
      rfl
theorem HSt.linkSet {gl ll cl : Nat} (h : HSt w0 g p vn (.slice (some ⟨gl, 0, none⟩) ll cl) vd vc w) {i : Nat} (hi : i < p.links.length) (x : PLink) :
    HSt w0 g { p with links := p.links.set i x } vn (.slice (some ⟨gl, 0, none⟩) ll cl) vd vc (((w.setCell ⟨gl, i * 3, none⟩ (.int .i64 x.a)).setCell ⟨gl, i * 3 + 1, none⟩ (.int .i64 x.b)).setCell ⟨gl, i * 3 + 2, none⟩ (.int .i64 x.cost)) := by
  have hl := slice_len h.own.links
  have ho := h.own.links
  rw [hl] at ho
  obtain ⟨h1, g1⟩ := ho.stored (i * 3) (.int .i64 x.a)
  obtain ⟨h2, g2⟩ := h1.stored (i * 3 + 1) (.int .i64 x.b)
  obtain ⟨h3, g3⟩ := h2.stored (i * 3 + 2) (.int .i64 x.cost)
  exact h.linksIn (by rw [List.length_set, hl, ← flat_link _ _ hi]; exact h3) (grown_trans (grown_trans g1 g2) g3)
theorem HSt.checkSet {gc lc cc : Nat} (h : HSt w0 g p vn vl vd (.slice (some ⟨gc, 0, none⟩) lc cc) w) {i : Nat} (hi : i < p.checks.length) (x : PCheck) :
    HSt w0 g { p with checks := p.checks.set i x } vn vl vd (.slice (some ⟨gc, 0, none⟩) lc cc) (((((w.setCell ⟨gc, i * 5, none⟩ (.int .i64 x.kind)).setCell ⟨gc, i * 5 + 1, none⟩ (.int .i64 x.node)).setCell ⟨gc, i * 5 + 2, none⟩ (.int .i64 x.dest)).setCell ⟨gc, i * 5 + 3, none⟩ (.int .i64 x.limit)).setCell ⟨gc, i * 5 + 4, none⟩ (.int .i64 x.other)) := by
  have hl := slice_len h.own.checks
  have ho := h.own.checks
  rw [hl] at ho
  obtain ⟨h1, g1⟩ := ho.stored (i * 5) (.int .i64 x.kind)
  obtain ⟨h2, g2⟩ := h1.stored (i * 5 + 1) (.int .i64 x.node)
  obtain ⟨h3, g3⟩ := h2.stored (i * 5 + 2) (.int .i64 x.dest)
  obtain ⟨h4, g4⟩ := h3.stored (i * 5 + 3) (.int .i64 x.limit)
  obtain ⟨h5, g5⟩ := h4.stored (i * 5 + 4) (.int .i64 x.other)
  exact h.checksIn (by rw [List.length_set, hl, ← flat_check _ _ hi]; exact h5) (grown_trans (grown_trans (grown_trans (grown_trans g1 g2) g3) g4) g5)
/-- Two destinations of another network, the second one ahead, in this one's place. -/
theorem HSt.destsTurn {W2 W3 : World} {gq gm ln cn ll cl ld cd lc cc : Nat} {An Al Ac : Option Addr} (h : HSt W2 gq p (.slice An ln cn) (.slice Al ll cl) (.slice (some ⟨gm, 0, none⟩) ld cd) (.slice Ac lc cc) W3) {d e : PDest} (hd : p.dests = [d, e]) {h0 h1 : Option Addr × Nat}
    (R0 : RowAt W2 W2.heap.size h0.1 (d.orig.map (Value.int .i64))) (R1 : RowAt W2 W2.heap.size h1.1 (e.orig.map (Value.int .i64))) :
    PAt ((((W3.setCell ⟨gm, 0, none⟩ (.string e.name)).setCell ⟨gm, 1, none⟩ (.slice h1.1 e.orig.length h1.2)).setCell ⟨gm, 2, none⟩ (.string d.name)).setCell ⟨gm, 3, none⟩ (.slice h0.1 d.orig.length h0.2)) { p with dests := [e, d] } p.proto p.cap p.k An ln Al ll (some ⟨gm, 0, none⟩) ld Ac lc ∧
    Blk ((((W3.setCell ⟨gm, 0, none⟩ (.string e.name)).setCell ⟨gm, 1, none⟩ (.slice h1.1 e.orig.length h1.2)).setCell ⟨gm, 2, none⟩ (.string d.name)).setCell ⟨gm, 3, none⟩ (.slice h0.1 d.orig.length h0.2)) gq 29 #[.int .i64 p.proto, .int .i64 p.cap, .int .i64 p.k, .slice An ln cn, .slice Al ll cl, .slice (some ⟨gm, 0, none⟩) ld cd, .slice Ac lc cc] ∧
    Below W2.heap.size W2 ((((W3.setCell ⟨gm, 0, none⟩ (.string e.name)).setCell ⟨gm, 1, none⟩ (.slice h1.1 e.orig.length h1.2)).setCell ⟨gm, 2, none⟩ (.string d.name)).setCell ⟨gm, 3, none⟩ (.slice h0.1 d.orig.length h0.2)) := by
  obtain ⟨hs, e1, e2, e3⟩ := h.own.dests
  have hl := slice_len e2
  have hl2 : ld = 2 := by rw [← hl, hd]; rfl
  have ho := e2
  rw [hl] at ho
  obtain ⟨o1, g1⟩ := ho.stored 0 (.string e.name)
  obtain ⟨o2, g2⟩ := o1.stored 1 (.slice h1.1 e.orig.length h1.2)
  obtain ⟨o3, g3⟩ := o2.stored 2 (.string d.name)
  obtain ⟨o4, g4⟩ := o3.stored 3 (.slice h0.1 d.orig.length h0.2)
  have hg := grown_trans (grown_trans (grown_trans g1 g2) g3) g4
  have hbw := h.below.trans (own_below0 e2 h.below.size hg)
  have hcells : ((((((p.dests.zip hs).flatMap destC).set 0 (.string e.name)).set 1 (.slice h1.1 e.orig.length h1.2)).set 2 (.string d.name)).set 3 (.slice h0.1 d.orig.length h0.2)) = (([e, d] : List PDest).zip [h1, h0]).flatMap destC := by
    have hl3 : hs.length = 2 := by rw [e1, hd]; rfl
    match hs, hl3 with
    | [a, b], _ => rw [hd]; rfl
  rw [hcells] at o4
  refine ⟨⟨rfl, rfl, rfl, slice_len h.own.nodes, slice_len h.own.links, by rw [hl2]; rfl, slice_len h.own.checks, RowAt.of_own' (own_far h.own.nodes e2 (by decide) hg), RowAt.of_own' (own_far h.own.links e2 (by decide) hg), ⟨[h1, h0], rfl, RowAt.of_own' o4, fun i x q hx hq => ?_⟩, RowAt.of_own' (own_far h.own.checks e2 (by decide) hg)⟩, h.blk.grown hg (fun e => own_blk_ne e2 h.blk (by decide) e.symm), hbw⟩
  match i with
  | 0 =>
    injection hx with hx
    injection hq with hq
    subst hx hq
    exact R1.up hbw
  | 1 =>
    injection hx with hx
    injection hq with hq
    subst hx hq
    exact R0.up hbw
  | i + 2 => simp at hx
/-- A destination more; its numbers lie in a row of the law's own. -/
theorem HSt.pushDest (h : HSt w0 g p vn vl vd vc w) {hs : List (Option Addr × Nat)} (h1 : hs.length = p.dests.length) (h2 : w.ownsRow w0.heap.size 65 2 vd p.dests.length ((p.dests.zip hs).flatMap destC))
    (h3 : ∀ (i : Nat) (d : PDest) (h : Option Addr × Nat), p.dests[i]? = some d → hs[i]? = some h → w.ownsRow w0.heap.size 3 1 (.slice h.1 d.orig.length h.2) d.orig.length (d.orig.map (Value.int .i64)))
    {v' : Value} {x : PDest} {A : Option Addr} {c : Nat} (hx : w.ownsRow w0.heap.size 3 1 (.slice A x.orig.length c) x.orig.length (x.orig.map (Value.int .i64)))
    (ho : w'.ownsRow w0.heap.size 65 2 v' (p.dests.length + 1) ((p.dests.zip hs).flatMap destC ++ destC (x, (A, c)))) (hg : w.grownBy w' vd.ownBlock) :
    HSt w0 g { p with dests := p.dests ++ [x] } vn vl v' vc (w'.setCell ⟨g, 5, none⟩ v') := by
  have hblk := h.blk.grown hg (fun e1 => own_blk_ne h2 h.blk (by decide) e1.symm)
  have hw := h.below.trans (own_below0 h2 h.below.size hg)
  refine ⟨⟨own_set (own_far h.own.nodes h2 (by decide) hg) hblk (by decide) 5 v', own_set (own_far h.own.links h2 (by decide) hg) hblk (by decide) 5 v', ⟨hs ++ [(A, c)], by simp [h1], ?_, fun i d q e1 e2 => ?_⟩, own_set (own_far h.own.checks h2 (by decide) hg) hblk (by decide) 5 v'⟩, hblk.set_ 5 v', h.lo, hw.trans ((Below.refl _ _).setCell (p := ⟨g, 5, none⟩) h.lo _)⟩
  · have := own_set ho hblk (by decide) 5 v'
    show (w'.setCell ⟨g, 5, none⟩ v').ownsRow w0.heap.size 65 2 v' (p.dests ++ [x]).length (((p.dests ++ [x]).zip (hs ++ [(A, c)])).flatMap destC)
    rw [List.length_append, List.zip_append h1.symm, List.flatMap_append]
    simpa using this
  · rcases Nat.lt_or_ge i p.dests.length with hi | hi
    · rw [List.getElem?_append_left hi] at e1
      rw [List.getElem?_append_left (by omega)] at e2
      exact own_set (own_far (h3 i d q e1 e2) h2 (by decide) hg) hblk (by decide) 5 v'
    · rw [List.getElem?_append_right hi] at e1
      rw [List.getElem?_append_right (by omega)] at e2
      have h0 : i - p.dests.length = 0 := by
        have := (List.getElem?_eq_some_iff.1 e1).1
        simp at this; omega
      rw [h0] at e1
      rw [h1, h0] at e2
      simp at e1 e2
      subst e1 e2
      exact own_set (own_far hx h2 (by decide) hg) hblk (by decide) 5 v'
end
end Go.Proofs.Ytlfdpfkimggeoaa
