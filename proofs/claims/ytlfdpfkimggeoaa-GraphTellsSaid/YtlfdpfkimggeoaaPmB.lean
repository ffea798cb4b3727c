/-
  A network that Net makes, in a box.
-/
import Derived.Test.YtlfdpfkimggeoaaPlZb
namespace Go.Proofs.Ytlfdpfkimggeoaa
open Go.RowKit
set_option linter.unusedVariables false

/-- A network in a box, at a world. -/
structure PBox (B : Nat) (w0 : World) (g : Nat) (p : PPlan) (An : Option Addr) (ln cn : Nat) (Al : Option Addr) (ll cl : Nat) (Ad : Option Addr) (ld cd : Nat) (Ac : Option Addr) (lc cc : Nat) (w : World) : Prop where
  at_ : PAt w p p.proto p.cap p.k An ln Al ll Ad ld Ac lc
  blk : Blk w g 29 #[.int .i64 p.proto, .int .i64 p.cap, .int .i64 p.k, .slice An ln cn, .slice Al ll cl, .slice Ad ld cd, .slice Ac lc cc]
  up : Below B w0 w
  size : B ≤ w.heap.size
section
variable {B : Nat} {w0 : World} {g : Nat} {p : PPlan} {An : Option Addr} {ln cn : Nat} {Al : Option Addr} {ll cl : Nat} {Ad : Option Addr} {ld cd : Nat} {Ac : Option Addr} {lc cc : Nat} {w w' : World}
theorem PBox.go (h : PBox B w0 g p An ln cn Al ll cl Ad ld cd Ac lc cc w) (hb : Below w.heap.size w w') : PBox B w0 g p An ln cn Al ll cl Ad ld cd Ac lc cc w' :=
  ⟨h.at_.up hb, h.blk.up hb, h.up.trans (hb.mono h.size), Nat.le_trans h.size hb.size⟩
theorem PBox.alloc (h : PBox B w0 g p An ln cn Al ll cl Ad ld cd Ac lc cc w) (o : Obj) : PBox B w0 g p An ln cn Al ll cl Ad ld cd Ac lc cc (w.alloc o) := h.go (below_new w o)
theorem PBox.cells (h : PBox B w0 g p An ln cn Al ll cl Ad ld cd Ac lc cc w) :
    w.cell? ⟨g, 0, none⟩ = some (.int .i64 p.proto) ∧ w.cell? ⟨g, 1, none⟩ = some (.int .i64 p.cap) ∧ w.cell? ⟨g, 2, none⟩ = some (.int .i64 p.k) ∧ w.cell? ⟨g, 3, none⟩ = some (.slice An ln cn) ∧ w.cell? ⟨g, 4, none⟩ = some (.slice Al ll cl) ∧ w.cell? ⟨g, 5, none⟩ = some (.slice Ad ld cd) ∧ w.cell? ⟨g, 6, none⟩ = some (.slice Ac lc cc) := box7 h.blk
theorem PBox.new {b : Nat} {w1 : World} (hb1 : Below w0.heap.size w0 w1) (hb : Below w1.heap.size w1 w) (ho : POwn b p (.slice An p.nodes.length cn) (.slice Al p.links.length cl) (.slice Ad p.dests.length cd) (.slice Ac p.checks.length cc) w) :
    PBox w0.heap.size w0 w.heap.size p An p.nodes.length cn Al p.links.length cl Ad p.dests.length cd Ac p.checks.length cc (w.alloc (.cells #[.int .i64 p.proto, .int .i64 p.cap, .int .i64 p.k, .slice An p.nodes.length cn, .slice Al p.links.length cl, .slice Ad p.dests.length cd, .slice Ac p.checks.length cc] 29)) := by
  have hbx := below_new w (.cells #[.int .i64 p.proto, .int .i64 p.cap, .int .i64 p.k, .slice An p.nodes.length cn, .slice Al p.links.length cl, .slice Ad p.dests.length cd, .slice Ac p.checks.length cc] 29)
  have h1 := hb1.trans (hb.mono hb1.size)
  exact ⟨ho.at_.up hbx, Blk.new w _ _, h1.trans (hbx.mono h1.size), Nat.le_trans h1.size hbx.size⟩
end
end Go.Proofs.Ytlfdpfkimggeoaa
