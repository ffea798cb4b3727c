/-
  What the law's Net has at hand: its source, its network in the making.
-/
import Derived.Test.YtdmilbfdiebjgaaPlR
namespace Go.Proofs.Ytdmilbfdiebjgaa
open Go.RowKit Go.WideShapes Go.ChangeShapes Go.Deep

/-! ### Rows of the call's own -/
theorem own_form {w : World} {base : Nat} {e : TypeId} {size : Nat} {v : Value} {n : Nat} {xs : List Value} (h : w.ownsRow base e size v n xs) : ∃ A c, v = .slice A n c ∧ n ≤ c := by
  rcases h.2 with ⟨hv, h0⟩ | ⟨g, cap, cur, hv, _, _, hc, _⟩
  · exact ⟨none, 0, by rw [hv, h0], by omega⟩
  · exact ⟨_, cap, hv, hc⟩
theorem own_far {w w' : World} {base base' : Nat} {e e' : TypeId} {size size' : Nat} {v v' : Value} {n n' : Nat} {xs xs' : List Value} (h : w.ownsRow base e size v n xs) (k : w.ownsRow base' e' size' v' n' xs') (hne : e ≠ e') (hg : w.grownBy w' v'.ownBlock) : w'.ownsRow base e size v n xs := by
  refine h.kept (row := v'.ownBlock) ⟨hg.os, hg.tape, hg.output, hg.size, hg.block⟩ ?_
  cases hv : v.ownBlock with
  | none => exact .inl rfl
  | some g =>
    refine .inr fun e1 => ?_
    rcases k.2 with ⟨hv', _⟩ | ⟨g', cap, cur, hv', _, hb', _⟩
    · rw [hv'] at e1; simp [Value.ownBlock] at e1
    · rw [hv'] at e1
      have hgg : g = g' := by simpa [Value.ownBlock] using e1
      subst hgg
      exact own_blk_ne h hb' hne hv
theorem own_alloc {w : World} {base : Nat} {e : TypeId} {size : Nat} {v : Value} {n : Nat} {xs : List Value} (h : w.ownsRow base e size v n xs) (o : Obj) : (w.alloc o).ownsRow base e size v n xs := h.alloc _
theorem own_set {w : World} {base : Nat} {e : TypeId} {size : Nat} {v : Value} {n : Nat} {xs : List Value} (h : w.ownsRow base e size v n xs) {g : Nat} {t : TypeId} {cs : Array Value} (hb : Blk w g t cs) (hne : e ≠ t) (i : Nat) (u : Value) : (w.setCell ⟨g, i, none⟩ u).ownsRow base e size v n xs := by
  refine h.kept (row := some g) ⟨rfl, rfl, rfl, by simp [World.setCell], fun k _ hk => Below.heap_setCell w ⟨g, i, none⟩ u k (fun e1 => hk (by rw [e1]))⟩ ?_
  cases hv : v.ownBlock with
  | none => exact .inl rfl
  | some g' => exact .inr (fun e1 => own_blk_ne h hb hne (by rw [hv]; exact e1))

/-- Destinations, rows of the call's own. -/
def DestsOwn (B : Nat) (v : Value) (ds : List PDest) (w : World) : Prop :=
  ∃ hs : List (Option Addr × Nat), hs.length = ds.length ∧ w.ownsRow B 62 2 v ds.length ((ds.zip hs).flatMap destC) ∧ ∀ (i : Nat) (d : PDest) (h : Option Addr × Nat), ds[i]? = some d → hs[i]? = some h → w.ownsRow B 3 1 (.slice h.1 d.orig.length h.2) d.orig.length (d.orig.map (Value.int .i64))
theorem DestsOwn.map {B : Nat} {v : Value} {ds : List PDest} {w w' : World} (h : DestsOwn B v ds w) (f : ∀ {e : TypeId} {size n : Nat} {u : Value} {xs : List Value}, (e = 62 ∨ e = 3) → w.ownsRow B e size u n xs → w'.ownsRow B e size u n xs) : DestsOwn B v ds w' := by
  obtain ⟨hs, h1, h2, h3⟩ := h
  exact ⟨hs, h1, f (.inl rfl) h2, fun i d q e1 e2 => f (.inr rfl) (h3 i d q e1 e2)⟩

/-- The network in the making. -/
structure NetSt (w0 : World) (sb pb : Nat) (l : List Int) (pr ca kk : Int) (vn vl vd vc : Value) (ns : List PNode) (ls : List PLink) (ds : List PDest) (cs : List PCheck) (w : World) : Prop where
  below : Below w0.heap.size w0 w
  src : SrcAt w0.heap.size sb l w
  blk : Blk w pb 29 #[.int .i64 pr, .int .i64 ca, .int .i64 kk, vn, vl, vd, vc]
  nodes : w.ownsRow w0.heap.size 59 2 vn ns.length (ns.flatMap nodeC)
  links : w.ownsRow w0.heap.size 53 3 vl ls.length (ls.flatMap linkC)
  dests : DestsOwn w0.heap.size vd ds w
  checks : w.ownsRow w0.heap.size 72 5 vc cs.length (cs.flatMap checkC)
  sb : w0.heap.size ≤ sb
  pb' : w0.heap.size < pb
  res : Blk w w0.heap.size 29 #[.int .i64 0, .int .i64 0, .int .i64 0, .slice none 0 0, .slice none 0 0, .slice none 0 0, .slice none 0 0]
theorem NetSt.pb {w0 : World} {sb pb : Nat} {l : List Int} {pr ca kk : Int} {vn vl vd vc : Value} {ns : List PNode} {ls : List PLink} {ds : List PDest} {cs : List PCheck} {w : World} (h : NetSt w0 sb pb l pr ca kk vn vl vd vc ns ls ds cs w) : w0.heap.size ≤ pb := Nat.le_of_lt h.pb'

section
variable {w0 : World} {sb pb : Nat} {l : List Int} {pr ca kk : Int} {vn vl vd vc : Value} {ns : List PNode} {ls : List PLink} {ds : List PDest} {cs : List PCheck} {w w' : World}
theorem SrcAt.blk {B : Nat} (h : SrcAt B sb l w) : ∃ v, Blk w sb 67 #[v] := by
  obtain ⟨A, c, hb, _⟩ := h
  exact ⟨_, hb⟩
theorem SrcAt.keep {B : Nat} (h : SrcAt B sb l w) (hb : Below B w w') (hk : ∀ v, Blk w sb 67 #[v] → Blk w' sb 67 #[v]) : SrcAt B sb l w' := by
  obtain ⟨A, c, h1, h2, h3⟩ := h
  exact ⟨A, c, hk _ h1, h2, h3.below hb⟩
theorem NetSt.lt (h : NetSt w0 sb pb l pr ca kk vn vl vd vc ns ls ds cs w) : w0.heap.size ≤ w.heap.size := h.below.size
theorem NetSt.ne (h : NetSt w0 sb pb l pr ca kk vn vl vd vc ns ls ds cs w) : pb ≠ sb := by
  obtain ⟨v, hv⟩ := h.src.blk
  exact h.blk.ne_ hv (by decide)
/-- A number less. -/
theorem NetSt.turned (h : NetSt w0 sb pb l pr ca kk vn vl vd vc ns ls ds cs w) {l' : List Int} (hs : SrcAt w0.heap.size sb l' w') (ht : Turned sb w w') : NetSt w0 sb pb l' pr ca kk vn vl vd vc ns ls ds cs w' := by
  obtain ⟨v, hv⟩ := h.src.blk
  have hk : ∀ {e : TypeId} {size n : Nat} {u : Value} {xs : List Value}, e ≠ 67 → w.ownsRow w0.heap.size e size u n xs → w'.ownsRow w0.heap.size e size u n xs := fun hne ho => ht.own ho (own_blk_ne ho hv hne)
  exact ⟨ht.below h.below h.sb (Nat.le_refl _), hs, ht.blk h.blk h.ne, hk (by decide) h.nodes, hk (by decide) h.links, h.dests.map fun he ho => hk (by rcases he with rfl | rfl <;> decide) ho, hk (by decide) h.checks, h.sb, h.pb', ht.blk h.res (h.res.ne_ hv (by decide))⟩
/-- New blocks. -/
theorem NetSt.up (h : NetSt w0 sb pb l pr ca kk vn vl vd vc ns ls ds cs w) (hb : Below w.heap.size w w') : NetSt w0 sb pb l pr ca kk vn vl vd vc ns ls ds cs w' :=
  ⟨h.below.trans (hb.mono h.lt), h.src.keep (hb.mono h.lt) (fun _ hk => hk.up hb), h.blk.up hb, own_below h.nodes hb, own_below h.links hb, h.dests.map fun _ ho => own_below ho hb, own_below h.checks hb, h.sb, h.pb', h.res.up hb⟩
/-- A row of another type has turned, or come. -/
theorem NetSt.far (h : NetSt w0 sb pb l pr ca kk vn vl vd vc ns ls ds cs w) {e : TypeId} {size n : Nat} {u : Value} {xs : List Value} (ho : w.ownsRow w0.heap.size e size u n xs) (hg : w.grownBy w' u.ownBlock)
    (hN : e ≠ 59) (hL : e ≠ 53) (hD : e ≠ 62) (hC : e ≠ 72) (hI : e ≠ 3) (hP : e ≠ 29) (hS : e ≠ 67) : NetSt w0 sb pb l pr ca kk vn vl vd vc ns ls ds cs w' := by
  have hb : Below w0.heap.size w w' := (Below.refl _ _).grown hg h.lt (fun g hg => (ho.lt g hg).1)
  exact ⟨h.below.trans hb, h.src.keep hb (fun _ hk => hk.grown hg (fun e1 => own_blk_ne ho hk hS e1.symm)), h.blk.grown hg (fun e1 => own_blk_ne ho h.blk hP e1.symm), own_far h.nodes ho (Ne.symm hN) hg, own_far h.links ho (Ne.symm hL) hg,
    h.dests.map fun he hx => own_far hx ho (by rcases he with rfl | rfl; exact Ne.symm hD; exact Ne.symm hI) hg, own_far h.checks ho (Ne.symm hC) hg, h.sb, h.pb', h.res.grown hg (fun e1 => own_blk_ne ho h.res hP e1.symm)⟩
/-- One of the network's own cells is written. -/
theorem NetSt.put (h : NetSt w0 sb pb l pr ca kk vn vl vd vc ns ls ds cs w) (i : Nat) (u : Value) (pr' ca' kk' : Int) (hx : (#[.int .i64 pr, .int .i64 ca, .int .i64 kk, vn, vl, vd, vc] : Array Value).setIfInBounds i u = #[.int .i64 pr', .int .i64 ca', .int .i64 kk', vn, vl, vd, vc]) : NetSt w0 sb pb l pr' ca' kk' vn vl vd vc ns ls ds cs (w.setCell ⟨pb, i, none⟩ u) := by
  have hb : Below w0.heap.size w (w.setCell ⟨pb, i, none⟩ u) := (Below.refl _ _).setCell (p := ⟨pb, i, none⟩) h.pb _
  exact ⟨h.below.trans hb, h.src.keep hb (fun _ hk => hk.far (p := ⟨pb, i, none⟩) (Ne.symm h.ne) _), by have := h.blk.set_ i u; rwa [hx] at this, own_set h.nodes h.blk (by decide) i u, own_set h.links h.blk (by decide) i u,
    h.dests.map fun he ho => own_set ho h.blk (by rcases he with rfl | rfl <;> decide) i u, own_set h.checks h.blk (by decide) i u, h.sb, h.pb', h.res.far (p := ⟨pb, i, none⟩) (Nat.ne_of_lt h.pb') _⟩
/-- A node more. -/
theorem NetSt.pushNode (h : NetSt w0 sb pb l pr ca kk vn vl vd vc ns ls ds cs w) {v' : Value} {x : PNode} (ho : w'.ownsRow w0.heap.size 59 2 v' (ns.length + 1) (ns.flatMap nodeC ++ nodeC x)) (hg : w.grownBy w' vn.ownBlock) :
    NetSt w0 sb pb l pr ca kk v' vl vd vc (ns ++ [x]) ls ds cs (w'.setCell ⟨pb, 3, none⟩ v') := by
  have hb : Below w0.heap.size w w' := (Below.refl _ _).grown hg h.lt (fun g hg => (h.nodes.lt g hg).1)
  have hblk : Blk w' pb _ _ := h.blk.grown hg (fun e1 => own_blk_ne h.nodes h.blk (by decide) e1.symm)
  have hsrc : SrcAt w0.heap.size sb l w' := h.src.keep hb (fun _ hk => hk.grown hg (fun e1 => own_blk_ne h.nodes hk (by decide) e1.symm))
  have hb2 : Below w0.heap.size w' (w'.setCell ⟨pb, 3, none⟩ v') := (Below.refl _ _).setCell (p := ⟨pb, 3, none⟩) h.pb _
  refine ⟨(h.below.trans hb).trans hb2, hsrc.keep hb2 (fun _ hk => hk.far (p := ⟨pb, 3, none⟩) (Ne.symm h.ne) _), hblk.set_ 3 v', ?_, own_set (own_far h.links h.nodes (by decide) hg) hblk (by decide) 3 v',
    h.dests.map fun he hx => own_set (own_far hx h.nodes (by rcases he with rfl | rfl <;> decide) hg) hblk (by rcases he with rfl | rfl <;> decide) 3 v', own_set (own_far h.checks h.nodes (by decide) hg) hblk (by decide) 3 v', h.sb, h.pb', (h.res.grown hg (fun e1 => own_blk_ne h.nodes h.res (by decide) e1.symm)).far (p := ⟨pb, 3, none⟩) (Nat.ne_of_lt h.pb') _⟩
  have := own_set ho hblk (by decide) 3 v'
  rw [List.length_append, List.flatMap_append]
  simpa using this
/-- A link more. -/
theorem NetSt.pushLink (h : NetSt w0 sb pb l pr ca kk vn vl vd vc ns ls ds cs w) {v' : Value} {x : PLink} (ho : w'.ownsRow w0.heap.size 53 3 v' (ls.length + 1) (ls.flatMap linkC ++ linkC x)) (hg : w.grownBy w' vl.ownBlock) :
    NetSt w0 sb pb l pr ca kk vn v' vd vc ns (ls ++ [x]) ds cs (w'.setCell ⟨pb, 4, none⟩ v') := by
  have hb : Below w0.heap.size w w' := (Below.refl _ _).grown hg h.lt (fun g hg => (h.links.lt g hg).1)
  have hblk : Blk w' pb _ _ := h.blk.grown hg (fun e1 => own_blk_ne h.links h.blk (by decide) e1.symm)
  have hsrc : SrcAt w0.heap.size sb l w' := h.src.keep hb (fun _ hk => hk.grown hg (fun e1 => own_blk_ne h.links hk (by decide) e1.symm))
  have hb2 : Below w0.heap.size w' (w'.setCell ⟨pb, 4, none⟩ v') := (Below.refl _ _).setCell (p := ⟨pb, 4, none⟩) h.pb _
  refine ⟨(h.below.trans hb).trans hb2, hsrc.keep hb2 (fun _ hk => hk.far (p := ⟨pb, 4, none⟩) (Ne.symm h.ne) _), hblk.set_ 4 v', own_set (own_far h.nodes h.links (by decide) hg) hblk (by decide) 4 v', ?_,
    h.dests.map fun he hx => own_set (own_far hx h.links (by rcases he with rfl | rfl <;> decide) hg) hblk (by rcases he with rfl | rfl <;> decide) 4 v', own_set (own_far h.checks h.links (by decide) hg) hblk (by decide) 4 v', h.sb, h.pb', (h.res.grown hg (fun e1 => own_blk_ne h.links h.res (by decide) e1.symm)).far (p := ⟨pb, 4, none⟩) (Nat.ne_of_lt h.pb') _⟩
  have := own_set ho hblk (by decide) 4 v'
  rw [List.length_append, List.flatMap_append]
  simpa using this
/-- A check more. -/
theorem NetSt.pushCheck (h : NetSt w0 sb pb l pr ca kk vn vl vd vc ns ls ds cs w) {v' : Value} {x : PCheck} (ho : w'.ownsRow w0.heap.size 72 5 v' (cs.length + 1) (cs.flatMap checkC ++ checkC x)) (hg : w.grownBy w' vc.ownBlock) :
    NetSt w0 sb pb l pr ca kk vn vl vd v' ns ls ds (cs ++ [x]) (w'.setCell ⟨pb, 6, none⟩ v') := by
  have hb : Below w0.heap.size w w' := (Below.refl _ _).grown hg h.lt (fun g hg => (h.checks.lt g hg).1)
  have hblk : Blk w' pb _ _ := h.blk.grown hg (fun e1 => own_blk_ne h.checks h.blk (by decide) e1.symm)
  have hsrc : SrcAt w0.heap.size sb l w' := h.src.keep hb (fun _ hk => hk.grown hg (fun e1 => own_blk_ne h.checks hk (by decide) e1.symm))
  have hb2 : Below w0.heap.size w' (w'.setCell ⟨pb, 6, none⟩ v') := (Below.refl _ _).setCell (p := ⟨pb, 6, none⟩) h.pb _
  refine ⟨(h.below.trans hb).trans hb2, hsrc.keep hb2 (fun _ hk => hk.far (p := ⟨pb, 6, none⟩) (Ne.symm h.ne) _), hblk.set_ 6 v', own_set (own_far h.nodes h.checks (by decide) hg) hblk (by decide) 6 v', own_set (own_far h.links h.checks (by decide) hg) hblk (by decide) 6 v',
    h.dests.map fun he hx => own_set (own_far hx h.checks (by rcases he with rfl | rfl <;> decide) hg) hblk (by rcases he with rfl | rfl <;> decide) 6 v', ?_, h.sb, h.pb', (h.res.grown hg (fun e1 => own_blk_ne h.checks h.res (by decide) e1.symm)).far (p := ⟨pb, 6, none⟩) (Nat.ne_of_lt h.pb') _⟩
  have := own_set ho hblk (by decide) 6 v'
  rw [List.length_append, List.flatMap_append]
  simpa using this
/-- A destination more; its numbers lie in a row of the call's own. -/
theorem NetSt.pushDest (h : NetSt w0 sb pb l pr ca kk vn vl vd vc ns ls ds cs w) (hs : List (Option Addr × Nat)) (h1 : hs.length = ds.length) (h2 : w.ownsRow w0.heap.size 62 2 vd ds.length ((ds.zip hs).flatMap destC))
    (h3 : ∀ (i : Nat) (d : PDest) (h : Option Addr × Nat), ds[i]? = some d → hs[i]? = some h → w.ownsRow w0.heap.size 3 1 (.slice h.1 d.orig.length h.2) d.orig.length (d.orig.map (Value.int .i64)))
    {v' : Value} {x : PDest} {A : Option Addr} {c : Nat} (hx : w.ownsRow w0.heap.size 3 1 (.slice A x.orig.length c) x.orig.length (x.orig.map (Value.int .i64)))
    (ho : w'.ownsRow w0.heap.size 62 2 v' (ds.length + 1) ((ds.zip hs).flatMap destC ++ destC (x, (A, c)))) (hg : w.grownBy w' vd.ownBlock) :
    NetSt w0 sb pb l pr ca kk vn vl v' vc ns ls (ds ++ [x]) cs (w'.setCell ⟨pb, 5, none⟩ v') := by
  have hb : Below w0.heap.size w w' := (Below.refl _ _).grown hg h.lt (fun g hg => (h2.lt g hg).1)
  have hblk : Blk w' pb _ _ := h.blk.grown hg (fun e1 => own_blk_ne h2 h.blk (by decide) e1.symm)
  have hsrc : SrcAt w0.heap.size sb l w' := h.src.keep hb (fun _ hk => hk.grown hg (fun e1 => own_blk_ne h2 hk (by decide) e1.symm))
  have hb2 : Below w0.heap.size w' (w'.setCell ⟨pb, 5, none⟩ v') := (Below.refl _ _).setCell (p := ⟨pb, 5, none⟩) h.pb _
  refine ⟨(h.below.trans hb).trans hb2, hsrc.keep hb2 (fun _ hk => hk.far (p := ⟨pb, 5, none⟩) (Ne.symm h.ne) _), hblk.set_ 5 v', own_set (own_far h.nodes h2 (by decide) hg) hblk (by decide) 5 v', own_set (own_far h.links h2 (by decide) hg) hblk (by decide) 5 v',
    ⟨hs ++ [(A, c)], by simp [h1], ?_, fun i d q e1 e2 => ?_⟩, own_set (own_far h.checks h2 (by decide) hg) hblk (by decide) 5 v', h.sb, h.pb', (h.res.grown hg (fun e1 => own_blk_ne h2 h.res (by decide) e1.symm)).far (p := ⟨pb, 5, none⟩) (Nat.ne_of_lt h.pb') _⟩
  · have := own_set ho hblk (by decide) 5 v'
    rw [List.length_append, List.zip_append h1.symm, List.flatMap_append]
    simpa using this
  · rcases Nat.lt_or_ge i ds.length with hi | hi
    · rw [List.getElem?_append_left hi] at e1
      rw [List.getElem?_append_left (by omega)] at e2
      exact own_set (own_far (h3 i d q e1 e2) h2 (by decide) hg) hblk (by decide) 5 v'
    · rw [List.getElem?_append_right hi] at e1
      rw [List.getElem?_append_right (by omega)] at e2
      have h0 : i - ds.length = 0 := by
        have := (List.getElem?_eq_some_iff.1 e1).1
        simp at this; omega
      rw [h0] at e1
      rw [h1, h0] at e2
      simp at e1 e2
      subst e1 e2
      exact own_set (own_far hx h2 (by decide) hg) hblk (by decide) 5 v'
end

end Go.Proofs.Ytdmilbfdiebjgaa
