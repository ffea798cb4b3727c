/-
  A table beside the document's: what a law carries.
-/
import Derived.Test.YtlfdpfkimggeoaaDoorTbK
namespace Go.Proofs.YtlfdpfkimggeoaaDoor
open Go.RowKit
set_option linter.unusedVariables false
set_option linter.unusedSimpArgs false

/-- A table (or none) and the document's, of one room. -/
structure TT (w0 : World) (F : Nat → Prop) (A : Option Addr) (M : Int) (lt : List Rt) (G : Nat → Prop) (sb : Nat) (lr : List Rt) (W : World) : Prop where
  v : TabV F W A M lt
  vb : ∀ k, F k → w0.heap.size ≤ k
  vl : ∀ k, F k → k < W.heap.size
  rf : RefAt G W sb M lr
  rb : ∀ k, G k → w0.heap.size ≤ k
  up : Below w0.heap.size w0 W
  dis : ∀ k, F k → ¬ G k
section
variable {w0 W W' : World} {F G : Nat → Prop} {A : Option Addr} {M : Int} {lt lr l' : List Rt} {sb : Nat}
theorem TT.go (h : TT w0 F A M lt G sb lr W) (hb : Below W.heap.size W W') : TT w0 F A M lt G sb lr W' := ⟨h.v.go hb, h.vb, fun k hk => Nat.lt_of_lt_of_le (h.vl k hk) hb.size, h.rf.go hb, h.rb, below_on h.up hb, h.dis⟩
theorem TT.addV (h : TT w0 F A M lt G sb lr W) (s : Sep F W W') (t : TabV (grewF F W W') W' A M l') : TT w0 (grewF F W W') A M l' G sb lr W' :=
  ⟨t, fun k hk => hk.elim (h.vb k) (fun e => Nat.le_trans h.up.size e.1), fun k hk => hk.elim (fun e => Nat.lt_of_lt_of_le (h.vl k e) s.size) (fun e => e.2), h.rf.sep s fun k hg hf => h.dis k hf hg, h.rb, h.up.trans (s.below h.vb h.up.size), fun k hk hg => hk.elim (fun e => h.dis k e hg) (fun e => by have := h.rf.lt k hg; omega)⟩
theorem TT.addR (h : TT w0 F A M lt G sb lr W) (s : Sep G W W') (t : RefAt (grewF G W W') W' sb M l') : TT w0 F A M lt (grewF G W W') sb l' W' :=
  ⟨h.v.sep s h.dis, h.vb, fun k hk => Nat.lt_of_lt_of_le (h.vl k hk) s.size, t, fun k hk => hk.elim (h.rb k) (fun e => Nat.le_trans h.up.size e.1), h.up.trans (s.below h.rb h.up.size), fun k hk hg => hg.elim (h.dis k hk) (fun e => by have := h.vl k hk; omega)⟩
theorem ttAdd (h : TT w0 F A M lt G sb lr W) (PT : PowTab w0) (r : Rt) (K E : Int) (L : List Rt) (hK : Hid (addK M lt r = K)) (hE : Hid (addE M lt r = E)) (hL : Hid (addL M lt r = L)) {Ar : Option Addr} {n ca : Nat} (hr : RtAt W r Ar n) (hl : n ≤ ca) (hc : ca ≤ 9223372036854775807) :
    Calls Tryd.prog 13 #[.pointer A, .agg #[.int .i64 r.kind, .int .i64 r.cost, .slice Ar n ca]] W fun e w' => ∃ F', e = .returned (.tuple #[.int .i64 K, .int .i64 E]) ∧ TT w0 F' A M L G sb lr w' ∧ F' = grewF F W w' ∧ Sep F W w' := by
  have e1 := hK.out
  have e2 := hE.out
  have e3 := hL.out
  subst e1 e2 e3
  exact (vAdd_any h.v r hr hl hc (PT.on h.up)).mono fun e w' ⟨he, hs, ht⟩ => ⟨_, he, h.addV hs ht, rfl, hs⟩
theorem ttRAdd (h : TT w0 F A M lt G sb lr W) (h4 : Hid (lr.length < 4096)) (r : Rt) (K E : Int) (L : List Rt) (hK : Hid (addK M lr r = K)) (hE : Hid (addE M lr r = E)) (hL : Hid (addL M lr r = L)) {Ar : Option Addr} {n ca : Nat} (hr : RtAt W r Ar n) :
    Calls Tryd.prog 14 #[.pointer (some ⟨sb, 0, none⟩), .agg #[.int .i64 r.kind, .int .i64 r.cost, .slice Ar n ca]] W fun e w' => ∃ G', e = .returned (.tuple #[.int .i64 K, .int .i64 E]) ∧ TT w0 F A M lt G' sb L w' ∧ G' = grewF G W w' ∧ Sep G W w' := by
  have e1 := hK.out
  have e2 := hE.out
  have e3 := hL.out
  subst e1 e2 e3
  exact (refAdd_any h.rf r h4.out hr).mono fun e w' ⟨he, hs, ht⟩ => ⟨_, he, h.addR hs ht, rfl, hs⟩
theorem ttFind (h : TT w0 F A M lt G sb lr W) (PT : PowTab w0) (r : Rt) (v : Int) (hv : Hid (ixR r lt = v)) {Ar : Option Addr} {n ca : Nat} (hr : RtAt W r Ar n) (hl : n ≤ ca) (hc : ca ≤ 9223372036854775807) :
    Calls Tryd.prog 16 #[.pointer A, .agg #[.int .i64 r.kind, .int .i64 r.cost, .slice Ar n ca]] W fun e w' => e = .returned (.int .i64 v) ∧ Below W.heap.size W w' :=
  (vFind_any h.v r hr hl hc (PT.on h.up)).mono fun e w' ⟨he, hw⟩ => ⟨by rw [he, hv.out], hw⟩
theorem ttSize (h : TT w0 F A M lt G sb lr W) (n : Nat) (hn : Hid (lt.length = n)) :
    Calls Tryd.prog 15 #[.pointer A] W fun e w' => e = .returned (.int .i64 (n : Int)) ∧ W = w' :=
  (vSize_any h.v).mono fun e w' ⟨he, hw⟩ => ⟨by rw [he, hn.out], hw⟩
theorem getR_len {F : Nat → Prop} {W : World} {A : Option Addr} {M : Int} {l : List Rt} (h : TabV F W A M l) (id : Int) : (getR l id).path.length ≤ 12 := by
  unfold getR
  split
  · simp [Rt.none]
  · cases e : l[id.toNat]? with
    | none => simp [Rt.none]
    | some r =>
      rcases h with ⟨_, _, rfl⟩ | ⟨tb, _, h⟩
      · simp at e
      · exact rt_len (h.right r (List.mem_of_getElem? e))
theorem ttGet (h : TT w0 F A M lt G sb lr W) (id : Int) (hid : InI id) (r : Rt) (hg : Hid (getR lt id = r)) (n : Nat) (hn : Hid (r.path.length = n)) :
    Calls Tryd.prog 19 #[.pointer A, .int .i64 id] W (RefGets r n W) := by
  have e1 := hg.out
  have e2 := hn.out
  subst e1 e2
  exact (vGet_any h.v id hid).mono fun e w' ⟨B, c, he, ho, hle, hb⟩ => ⟨B, c, he, RtGives.at_ (w := W) ho (by have := getR_len h.v id; omega), hb⟩
theorem ttRGet (h : TT w0 F A M lt G sb lr W) (id : Int) (hid : InI id) (r : Rt) (hg : Hid (getR lr id = r)) (n : Nat) (hn : Hid (r.path.length = n)) :
    Calls Tryd.prog 20 #[.pointer (some ⟨sb, 0, none⟩), .int .i64 id] W (RefGets r n W) := refGet_any h.rf id hid r hg n hn
end
theorem addL_len (M : Int) (l : List Rt) (r : Rt) : (addL M l r).length ≤ l.length + 1 := by unfold addL; split <;> simp
theorem refNew_is (nv : Int) (M : Int) (l : List Rt) (n : Nat) (ok : Bool) (HM : Hid (newM nv = M)) (HL : Hid (newL nv = l)) (HN : Hid (l.length = n)) (HO : Hid (newOk nv = ok)) (w : World) :
    Calls Tryd.prog 11 #[.int .i64 nv] w fun e w' => ∃ (A : Option Addr) (c : Nat) (G : Nat → Prop), e = .returned (.tuple #[.agg #[.int .i64 M, .slice A n c], .bool ok]) ∧ RefAt G (w'.alloc (.cells #[.int .i64 M, .slice A n c] 32)) w'.heap.size M l ∧ NewF G w (w'.alloc (.cells #[.int .i64 M, .slice A n c] 32)) ∧ Below w.heap.size w w' := by
  have e1 := HM.out
  have e2 := HL.out
  have e3 := HO.out
  have e4 := HN.out
  subst e1 e2 e3 e4
  exact (refNew_any nv w).mono fun e w' ⟨A, c, he, ho, hb⟩ => ⟨A, c, _, he, (ref_new ho hb).1, (ref_new ho hb).2, hb⟩
theorem vNew_is (nv : Int) (M : Int) (l : List Rt) (HM : Hid (newM nv = M)) (HL : Hid (newL nv = l)) (ok : Bool) (HO : Hid (newOk nv = ok)) {w0 w : World} (u : Below w0.heap.size w0 w) (PT : PowTab w0) :
    Calls Tryd.prog 10 #[.int .i64 nv] w fun e w' => ∃ A F, e = .returned (.pointer A) ∧ A.isSome = ok ∧ TabV F w' A M l ∧ NewF F w w' ∧ Below w.heap.size w w' := by
  have e1 := HM.out
  have e2 := HL.out
  have e3 := HO.out
  subst e1 e2 e3
  exact vNew_any nv w (PT.on u)
theorem TT.new {w0 w3 W : World} {F G : Nat → Prop} {A : Option Addr} {M : Int} {l : List Rt} {sb : Nat} (hv : TabV F w3 A M l) (hn : NewF F w0 w3) (hb : Below w0.heap.size w0 w3) (hr : RefAt G W sb M l) (hg : NewF G w3 W) (hb2 : Below w3.heap.size w3 W) : TT w0 F A M l G sb l W :=
  ⟨hv.go hb2, fun k hk => (hn k hk).1, fun k hk => Nat.lt_of_lt_of_le (hn k hk).2 hb2.size, hr, fun k hk => Nat.le_trans hb.size (hg k hk).1, below_on hb hb2, fun k hk hg' => by have := (hn k hk).2; have := (hg k hg').1; omega⟩
/-- A route's box; of an empty path nothing is asked. -/
theorem RtAt.sepQ {F : Nat → Prop} {w w' : World} {r : Rt} {A : Option Addr} {n : Nat} (h : RtAt w r A n) (hs : Sep F w w') (ho : r.path ≠ [] → OutF F A) : RtAt w' r A n := by
  by_cases e : r.path = []
  · refine ⟨h.1, ?_, h.2.2⟩
    rw [e]; exact CellsAt.nil _ _ _
  · exact h.sep hs (ho e)
structure BoxQ (F : Nat → Prop) (b : Nat) (r : Rt) (Ar : Option Addr) (n ca : Nat) (W : World) : Prop where
  box : Blk W b 25 #[.int .i64 r.kind, .int .i64 r.cost, .slice Ar n ca]
  nb : ¬ F b
  at_ : RtAt W r Ar n
  na : r.path ≠ [] → ∀ a, Ar = some a → ¬ F a.block ∧ a.block < W.heap.size
section
variable {F G : Nat → Prop} {b : Nat} {r : Rt} {Ar : Option Addr} {n ca : Nat} {W W' : World}
theorem BoxQ.go (h : BoxQ F b r Ar n ca W) (hb : Below W.heap.size W W') : BoxQ F b r Ar n ca W' := ⟨h.box.up hb, h.nb, h.at_.on hb, fun e a ha => ⟨(h.na e a ha).1, Nat.lt_of_lt_of_le (h.na e a ha).2 hb.size⟩⟩
theorem BoxQ.add (h : BoxQ F b r Ar n ca W) (s : Sep F W W') : BoxQ (grewF F W W') b r Ar n ca W' :=
  ⟨s.blk h.box h.nb, fun e => e.elim h.nb (fun e => by have := h.box.lt; omega), h.at_.sepQ s (fun e a ha => (h.na e a ha).1), fun e a ha => ⟨fun e1 => e1.elim (h.na e a ha).1 (fun e1 => by have := (h.na e a ha).2; omega), Nat.lt_of_lt_of_le (h.na e a ha).2 s.size⟩⟩
theorem BoxQ.other (h : BoxQ F b r Ar n ca W) (g : BoxQ G b r Ar n ca W) (s : Sep F W W') : BoxQ G b r Ar n ca W' :=
  ⟨s.blk h.box h.nb, g.nb, h.at_.sepQ s (fun e a ha => (h.na e a ha).1), fun e a ha => ⟨(g.na e a ha).1, Nat.lt_of_lt_of_le (g.na e a ha).2 s.size⟩⟩
theorem BoxQ.cells (h : BoxQ F b r Ar n ca W) : W.cell? ⟨b, 0, none⟩ = some (.int .i64 r.kind) ∧ W.cell? ⟨b, 1, none⟩ = some (.int .i64 r.cost) ∧ W.cell? ⟨b, 2, none⟩ = some (.slice Ar n ca) := ⟨h.box.cell 0, h.box.cell 1, h.box.cell 2⟩
theorem BoxQ.new {w : World} (hF : ∀ k, F k → k < w.heap.size) (hb : Below w.heap.size w W) (h : RtAt W r Ar n) (hn : ∀ a, Ar = some a → w.heap.size ≤ a.block ∧ a.block < W.heap.size) : BoxQ F W.heap.size r Ar n ca (W.alloc (.cells #[.int .i64 r.kind, .int .i64 r.cost, .slice Ar n ca] 25)) :=
  ⟨Blk.new _ _ _, fun e => by have := hF _ e; have := hb.size; omega, h.box _, fun _ a ha => ⟨fun e => by have := hF _ e; have := (hn a ha).1; omega, by have := (hn a ha).2; simp; omega⟩⟩
/-- An older route in a new box. -/
theorem BoxQ.old {w : World} (hF : ∀ k, F k → k < W.heap.size) (hw : ∀ k, F k → w.heap.size ≤ k) (hu : Below w.heap.size w W) (h : RtAt w r Ar n) : BoxQ F W.heap.size r Ar n ca (W.alloc (.cells #[.int .i64 r.kind, .int .i64 r.cost, .slice Ar n ca] 25)) :=
  ⟨Blk.new _ _ _, fun e => by have := hF _ e; omega, (h.on hu).box _, fun e a ha => by
    obtain ⟨ad, hA, hb, _⟩ := h.2.1 (by simpa using e)
    rw [ha] at hA
    injection hA with hA
    subst hA
    exact ⟨fun e1 => by have := hw _ e1; omega, by have := hu.size; simp; omega⟩⟩
end
theorem BoxQ.any {F : Nat → Prop} {b : Nat} {r : Rt} {Ar : Option Addr} {n ca : Nat} {w W1 W : World} (hk : Blk W b 25 #[.int .i64 r.kind, .int .i64 r.cost, .slice Ar n ca]) (hw : ∀ k, F k → W1.heap.size ≤ k) (hb : b < W1.heap.size) (hle : w.heap.size ≤ W1.heap.size) (hu : Below w.heap.size w W) (h : RtAt w r Ar n) : BoxQ F b r Ar n ca W :=
  ⟨hk, fun e => by have := hw _ e; omega, h.on hu, fun e a ha => by
    obtain ⟨ad, hA, hb, _⟩ := h.2.1 (by simpa using e)
    rw [ha] at hA
    injection hA with hA
    subst hA
    exact ⟨fun e1 => by have := hw _ e1; omega, by have := hu.size; omega⟩⟩
/-- Both tables, a route's box, what the law reads of the document's own. -/
structure QS (w0 : World) (F : Nat → Prop) (A : Option Addr) (M : Int) (L : List Rt) (G : Nat → Prop) (sb b : Nat) (r : Rt) (Ar : Option Addr) (n ca : Nat) (AL : Option Addr) (Ln cL : Nat) (W : World) : Prop where
  t : TT w0 F A M L G sb L W
  x : BoxQ F b r Ar n ca W
  sc : W.cell? ⟨sb, 1, none⟩ = some (.slice AL Ln cL)
  sl : sb < W.heap.size
section
variable {w0 W W' : World} {F G : Nat → Prop} {A : Option Addr} {M : Int} {L : List Rt} {sb b : Nat} {r : Rt} {Ar : Option Addr} {n ca : Nat} {AL : Option Addr} {Ln cL : Nat}
theorem QS.go (h : QS w0 F A M L G sb b r Ar n ca AL Ln cL W) (hb : Below W.heap.size W W') : QS w0 F A M L G sb b r Ar n ca AL Ln cL W' := ⟨h.t.go hb, h.x.go hb, (hb.cell (p := ⟨sb, 1, none⟩) h.sl).trans h.sc, Nat.lt_of_lt_of_le h.sl hb.size⟩
theorem QS.drew (h : QS w0 F A M L G sb b r Ar n ca AL Ln cL W) : QS w0 F A M L G sb b r Ar n ca AL Ln cL W.drew := h.go ((Below.refl _ _).drew)
theorem QS.cells (h : QS w0 F A M L G sb b r Ar n ca AL Ln cL W) : W.cell? ⟨sb, 1, none⟩ = some (.slice AL Ln cL) ∧ W.cell? ⟨b, 0, none⟩ = some (.int .i64 r.kind) ∧ W.cell? ⟨b, 1, none⟩ = some (.int .i64 r.cost) ∧ W.cell? ⟨b, 2, none⟩ = some (.slice Ar n ca) := ⟨h.sc, h.x.cells.1, h.x.cells.2.1, h.x.cells.2.2⟩
theorem QS.new (h : TT w0 F A M L G sb L W) (x : BoxQ F b r Ar n ca W) (HN : Hid (L.length = Ln)) : ∃ AL cL, QS w0 F A M L G sb b r Ar n ca AL Ln cL W := by
  obtain ⟨AL, cL, hc, hs⟩ := h.rf.cell
  rw [HN.out] at hc
  exact ⟨AL, cL, h, x, hc, h.rf.lt _ hs⟩
end
end Go.Proofs.YtlfdpfkimggeoaaDoor
