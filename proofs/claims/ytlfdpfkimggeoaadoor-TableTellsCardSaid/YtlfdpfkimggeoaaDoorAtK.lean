/-
  The document's Best of routes.
-/
import Derived.Test.YtlfdpfkimggeoaaDoorAtJ
namespace Go.Proofs.YtlfdpfkimggeoaaDoor
open Go.RowKit
set_option linter.unusedVariables false
set_option linter.unusedSimpArgs false

/-- A route told: its numbers lie anywhere. -/
def RtTells (r : Rt) (w : World) (e : Ending) (w' : World) : Prop :=
  ∃ A c, e = .returned (.agg #[.int .i64 r.kind, .int .i64 r.cost, .slice A r.path.length c]) ∧ RtAt w' r A r.path.length ∧ Below w.heap.size w w'
theorem RtsAt.gets {w : World} {A : Option Addr} {l : List Rt} (h : RtsAt w A l) {k : Nat} {r : Rt} (hk : l[k]? = some r) :
    ∃ ad Ao c, A = some ad ∧ RtAt w r Ao r.path.length ∧ ∀ W, Below w.heap.size w W → W.cell? (ad.add (k * 3)) = some (.int .i64 r.kind) ∧ W.cell? ⟨(ad.add (k * 3)).block, (ad.add (k * 3)).off + 1, none⟩ = some (.int .i64 r.cost) ∧ W.cell? ⟨(ad.add (k * 3)).block, (ad.add (k * 3)).off + 2, none⟩ = some (.slice Ao r.path.length c) := by
  obtain ⟨ad, Ao, c, hA, hl, c0, c1, c2, hr⟩ := h.get hk
  have hbl : (ad.add (k * 3)).block < w.heap.size := by rw [block_of_add]; exact hl
  exact ⟨ad, Ao, c, hA, hr, fun W hb => ⟨(hb.cell (p := ad.add (k * 3)) hbl).trans c0, (hb.cell (p := ⟨(ad.add (k * 3)).block, (ad.add (k * 3)).off + 1, none⟩) hbl).trans c1, (hb.cell (p := ⟨(ad.add (k * 3)).block, (ad.add (k * 3)).off + 2, none⟩) hbl).trans c2⟩⟩
theorem BestSt.drew {w : World} {k c : Int} {A : Option Addr} {n ca : Nat} {W : World} (h : BestSt w k c A n ca W) : BestSt w k c A n ca W.drew := h.go ((Below.refl _ _).drew)
theorem BestSt.drewN {w : World} {k c : Int} {A : Option Addr} {n ca : Nat} {W : World} (h : BestSt w k c A n ca W) (q : Nat) : BestSt w k c A n ca (W.drewN q) := h.go (below_drewN _ q)

end Go.Proofs.YtlfdpfkimggeoaaDoor
