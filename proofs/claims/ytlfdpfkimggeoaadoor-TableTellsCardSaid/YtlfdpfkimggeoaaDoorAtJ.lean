/-
  Package attr: Best.
-/
import Derived.Test.YtlfdpfkimggeoaaDoorAtI
namespace Go.Proofs.YtlfdpfkimggeoaaDoor
open Go.RowKit
set_option linter.unusedVariables false
set_option linter.unusedSimpArgs false

/-- The best route so far, in its box; the answer's box. -/
structure BestSt (w : World) (k c : Int) (A : Option Addr) (n ca : Nat) (W : World) : Prop where
  res : Blk W w.heap.size 25 #[.int .i64 0, .int .i64 0, .slice none 0 0]
  best : Blk W (w.heap.size + 1) 25 #[.int .i64 k, .int .i64 c, .slice A n ca]
  up : Below w.heap.size w W
section
variable {w : World} {k c : Int} {A : Option Addr} {n ca : Nat} {W W' : World}
theorem BestSt.new (w : World) : BestSt w 0 0 none 0 0 ((w.alloc (.cells #[.int .i64 0, .int .i64 0, .slice none 0 0] 25)).alloc (.cells #[.int .i64 0, .int .i64 0, .slice none 0 0] 25)) :=
  ⟨(Blk.new w _ _).alloc _, by have := Blk.new (w.alloc (.cells #[.int .i64 0, .int .i64 0, .slice none 0 0] 25)) 25 #[.int .i64 0, .int .i64 0, .slice none 0 0]; rwa [World.size_alloc] at this, below_2 w _ _⟩
theorem BestSt.go (h : BestSt w k c A n ca W) (hb : Below W.heap.size W W') : BestSt w k c A n ca W' := ⟨h.res.up hb, h.best.up hb, below_on h.up hb⟩
theorem BestSt.cells (h : BestSt w k c A n ca W) : W.cell? ⟨w.heap.size + 1, 0, none⟩ = some (.int .i64 k) ∧ W.cell? ⟨w.heap.size + 1, 1, none⟩ = some (.int .i64 c) ∧ W.cell? ⟨w.heap.size + 1, 2, none⟩ = some (.slice A n ca) :=
  ⟨h.best.cell 0, h.best.cell 1, h.best.cell 2⟩
theorem BestSt.put (h : BestSt w k c A n ca W) (k' c' : Int) (A' : Option Addr) (n' ca' : Nat) :
    BestSt w k' c' A' n' ca' (((W.setCell ⟨w.heap.size + 1, 0, none⟩ (.int .i64 k')).setCell ⟨w.heap.size + 1, 1, none⟩ (.int .i64 c')).setCell ⟨w.heap.size + 1, 2, none⟩ (.slice A' n' ca')) := by
  have hne : w.heap.size ≠ w.heap.size + 1 := by omega
  exact ⟨((h.res.far (p := ⟨w.heap.size + 1, 0, none⟩) hne _).far (p := ⟨w.heap.size + 1, 1, none⟩) hne _).far (p := ⟨w.heap.size + 1, 2, none⟩) hne _,
    ((h.best.set_ 0 _).set_ 1 _).set_ 2 _,
    ((h.up.setCell (p := ⟨w.heap.size + 1, 0, none⟩) (by simp) _).setCell (p := ⟨w.heap.size + 1, 1, none⟩) (by simp) _).setCell (p := ⟨w.heap.size + 1, 2, none⟩) (by simp) _⟩
theorem BestSt.put2 (h : BestSt w k c A n ca W) (A' : Option Addr) (n' ca' : Nat) : BestSt w k c A' n' ca' (W.setCell ⟨w.heap.size + 1, 2, none⟩ (.slice A' n' ca')) := by
  have hne : w.heap.size ≠ w.heap.size + 1 := by omega
  exact ⟨h.res.far (p := ⟨w.heap.size + 1, 2, none⟩) hne _, h.best.set_ 2 _, h.up.setCell (p := ⟨w.heap.size + 1, 2, none⟩) (by simp) _⟩
theorem BestSt.grown (h : BestSt w k c A n ca W) (hg : W.grownBy W' none) (hs : w.heap.size ≤ W.heap.size) : BestSt w k c A n ca W' :=
  ⟨h.res.grown hg (by simp), h.best.grown hg (by simp), h.up.grown hg hs (fun g hg => by cases hg)⟩
end
theorem RtsAt.get_on {w W : World} {A : Option Addr} {l : List Rt} (h : RtsAt w A l) (hb : Below w.heap.size w W) {k : Nat} {r : Rt} (hk : l[k]? = some r) :
    ∃ ad Ao c, A = some ad ∧ W.cell? (ad.add (k * 3)) = some (.int .i64 r.kind) ∧ W.cell? ⟨(ad.add (k * 3)).block, (ad.add (k * 3)).off + 1, none⟩ = some (.int .i64 r.cost) ∧ W.cell? ⟨(ad.add (k * 3)).block, (ad.add (k * 3)).off + 2, none⟩ = some (.slice Ao r.path.length c) ∧ RtAt w r Ao r.path.length := by
  obtain ⟨ad, Ao, c, hA, hl, c0, c1, c2, hr⟩ := h.get hk
  have hbl : (ad.add (k * 3)).block < w.heap.size := by rw [block_of_add]; exact hl
  exact ⟨ad, Ao, c, hA, (hb.cell (p := ad.add (k * 3)) hbl).trans c0, (hb.cell (p := ⟨(ad.add (k * 3)).block, (ad.add (k * 3)).off + 1, none⟩) hbl).trans c1, (hb.cell (p := ⟨(ad.add (k * 3)).block, (ad.add (k * 3)).off + 2, none⟩) hbl).trans c2, hr⟩

end Go.Proofs.YtlfdpfkimggeoaaDoor
