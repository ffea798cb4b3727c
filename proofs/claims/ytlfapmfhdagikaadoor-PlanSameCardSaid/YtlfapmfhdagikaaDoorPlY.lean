/-
  The check under way, for the law's Net: its own block is there, or it is not yet.
-/
import Derived.Test.YtlfapmfhdagikaaDoorPlX
namespace Go.Proofs.YtlfapmfhdagikaaDoor
open Go.RowKit

section
variable {w0 : World} {sb pb : Nat} {l : List Int} {pr ca kk : Int} {vn vl vd vc : Value} {ns : List PNode} {ls : List PLink} {ds : List PDest} {cs : List PCheck} {B : Nat} {bo : Option Nat} {w w' : World}

/-- The network while a check is drawn. -/
structure CSt (w0 : World) (sb pb : Nat) (l : List Int) (pr ca kk : Int) (vn vl vd vc : Value) (ns : List PNode) (ls : List PLink) (ds : List PDest) (cs : List PCheck) (B : Nat) (bo : Option Nat) (w : World) : Prop where
  st : NetSt w0 sb pb l pr ca kk vn vl vd vc ns ls ds cs w
  lo : sb < B ∧ B ≤ w.heap.size
  own : ∀ b, bo = some b → B ≤ b ∧ Blk w b 55 #[.int .i64 0, .int .i64 0, .int .i64 0, .int .i64 0, .int .i64 0]

theorem CSt.start (h : NetSt w0 sb pb l pr ca kk vn vl vd vc ns ls ds cs w) : CSt w0 sb pb l pr ca kk vn vl vd vc ns ls ds cs w.heap.size none w := by
  obtain ⟨v, hv⟩ := h.src.blk
  exact ⟨h, ⟨hv.lt, Nat.le_refl _⟩, fun b hb => by cases hb⟩
theorem CSt.up (h : CSt w0 sb pb l pr ca kk vn vl vd vc ns ls ds cs B bo w) (hb : Below w.heap.size w w') : CSt w0 sb pb l pr ca kk vn vl vd vc ns ls ds cs B bo w' :=
  ⟨h.st.up hb, ⟨h.lo.1, Nat.le_trans h.lo.2 hb.size⟩, fun b hbo => ⟨(h.own b hbo).1, (h.own b hbo).2.up hb⟩⟩
theorem CSt.alloc (h : CSt w0 sb pb l pr ca kk vn vl vd vc ns ls ds cs B none w) : CSt w0 sb pb l pr ca kk vn vl vd vc ns ls ds cs B (some w.heap.size) (w.alloc (.cells #[.int .i64 0, .int .i64 0, .int .i64 0, .int .i64 0, .int .i64 0] 55)) :=
  ⟨h.st.up (below_new _ _), ⟨h.lo.1, Nat.le_trans h.lo.2 (below_new w _).size⟩, fun b hbo => by
    injection hbo with hbo
    subst hbo
    exact ⟨h.lo.2, Blk.new _ _ _⟩⟩
theorem CSt.turned (h : CSt w0 sb pb l pr ca kk vn vl vd vc ns ls ds cs B bo w) {l' : List Int} (hs : NetSt w0 sb pb l' pr ca kk vn vl vd vc ns ls ds cs w') (ht : Turned sb w w') : CSt w0 sb pb l' pr ca kk vn vl vd vc ns ls ds cs B bo w' :=
  ⟨hs, ⟨h.lo.1, Nat.le_trans h.lo.2 ht.grown.size⟩, fun b hbo => ⟨(h.own b hbo).1, ht.blk (h.own b hbo).2 (by have := (h.own b hbo).1; have := h.lo.1; omega)⟩⟩

/-- The next number while a check is drawn. -/
theorem next_c (n : Int) (m v : Nat) (l' : List Int) (HV : Hid (nx l m = v)) (HT : Hid (l.tail = l')) (h : CSt w0 sb pb l pr ca kk vn vl vd vc ns ls ds cs B bo w) (hG : SrcOk l) (hn : n = (m : Int)) (h0 : 0 < m) (hm : m ≤ 4096) :
    Calls Tryd.prog 26 #[.pointer (some ⟨sb, 0, none⟩), .int .i64 n] w fun e w' => e = .returned (.int .i64 (v : Int)) ∧ CSt w0 sb pb l' pr ca kk vn vl vd vc ns ls ds cs B bo w' ∧ SrcOk l' :=
  (next_st n m v l' HV HT h.st hG hn h0 hm).mono fun _ _ ⟨he, hs, hok, ht⟩ => ⟨he, h.turned hs ht, hok⟩
end

/-- The result's own block is of a plan: rows of nodes, links, destinations and checks stay. -/
theorem POwn.set_ {B : Nat} {p : PPlan} {vn vl vd vc : Value} {w : World} (h : POwn B p vn vl vd vc w) {g : Nat} {xs : Array Value} (hb : Blk w g 29 xs) (i : Nat) (u : Value) : POwn B p vn vl vd vc (w.setCell ⟨g, i, none⟩ u) :=
  ⟨own_set h.nodes hb (by decide) i u, own_set h.links hb (by decide) i u, h.dests.map fun he ho => own_set ho hb (by rcases he with rfl | rfl <;> decide) i u, own_set h.checks hb (by decide) i u⟩
/-- A plan's block with the plan, its rows and what lay there. -/
structure PRes (B g : Nat) (p : PPlan) (vn vl vd vc : Value) (xs : Array Value) (w0 w : World) : Prop where
  own : POwn B p vn vl vd vc w
  blk : Blk w g 29 xs
  up : Below B w0 w
theorem PRes.set_ {B g : Nat} {p : PPlan} {vn vl vd vc : Value} {xs : Array Value} {w0 w : World} (h : PRes B g p vn vl vd vc xs w0 w) (hg : B ≤ g) (i : Nat) (u : Value) : PRes B g p vn vl vd vc (xs.setIfInBounds i u) w0 (w.setCell ⟨g, i, none⟩ u) :=
  ⟨h.own.set_ h.blk i u, h.blk.set_ i u, h.up.setCell (p := ⟨g, i, none⟩) hg _⟩
/-- The result's block as it is at the end. -/
theorem NetSt.result {w0 : World} {sb pb : Nat} {l : List Int} {pr ca kk : Int} {vn vl vd vc : Value} {ns : List PNode} {ls : List PLink} {ds : List PDest} {cs : List PCheck} {w : World} (h : NetSt w0 sb pb l pr ca kk vn vl vd vc ns ls ds cs w) :
    PRes w0.heap.size w0.heap.size ⟨pr, ca, kk, ns, ls, ds, cs⟩ vn vl vd vc #[.int .i64 pr, .int .i64 ca, .int .i64 kk, vn, vl, vd, vc] w0 (w.setCells w0.heap.size 0 [.int .i64 pr, .int .i64 ca, .int .i64 kk, vn, vl, vd, vc]) := by
  have h0 : PRes w0.heap.size w0.heap.size ⟨pr, ca, kk, ns, ls, ds, cs⟩ vn vl vd vc _ w0 w := ⟨⟨h.nodes, h.links, h.dests, h.checks⟩, h.res, h.below⟩
  have r := Nat.le_refl w0.heap.size
  exact ((((((h0.set_ r 0 (.int .i64 pr)).set_ r 1 (.int .i64 ca)).set_ r 2 (.int .i64 kk)).set_ r 3 vn).set_ r 4 vl).set_ r 5 vd).set_ r 6 vc

/-- The network of numbers, out of its parts. -/
theorem net_is {l0 l2 l3 l4 La l5 Lb l6 Lc l7 Ld : List Int} {pr ca : Int} {v3 v4 v5 v6 v7 : Nat} {ns : List PNode} {ls : List PLink} {ds : List PDest} {cs : List PCheck}
    (hP : protoG l0 = ((pr, ca), l2)) (hv3 : nx l2 4 = v3) (hl3 : l2.tail = l3) (hv4 : nx l3 6 = v4) (hl4 : l3.tail = l4) (hN : nodesG l4 (2 + v4) = (ns, La)) (hv5 : nx La 10 = v5) (hl5 : La.tail = l5)
    (hL : linksG (2 + v4) l5 v5 = (ls, Lb)) (hv6 : nx Lb 2 = v6) (hl6 : Lb.tail = l6) (hD : destsG (2 + v4) l6 (v6 + 1) = (ds, Lc)) (hdl : ds.length = v6 + 1) (hv7 : nx Lc 7 = v7) (hl7 : Lc.tail = l7) (hC : checksG (2 + v4) ds.length l7 v7 = (cs, Ld)) :
    netL l0 = ⟨pr, ca, min (v3 : Int) (ls.length : Int), ns, ls, ds, cs⟩ := by
  have e1 : nG l0 = 2 + v4 := by unfold nG; rw [hP, hl3, hv4]
  have e2 : nodesOf l0 = (ns, La) := by unfold nodesOf; rw [e1, hP, hl3, hl4]; exact hN
  have e3 : linksOf l0 = (ls, Lb) := by unfold linksOf; rw [e1, e2, hl5, hv5]; exact hL
  have e4 : ndG l0 = v6 + 1 := by unfold ndG; rw [e3, hv6]
  have e5 : destsOf l0 = (ds, Lc) := by unfold destsOf; rw [e1, e3, e4, hl6]; exact hD
  have e6 : checksOf l0 = (cs, Ld) := by unfold checksOf; rw [e1, e4, e5, hl7, hv7, ← hdl]; exact hC
  unfold netL
  rw [e2, e3, e5, e6, hP, hv3]

end Go.Proofs.YtlfapmfhdagikaaDoor
