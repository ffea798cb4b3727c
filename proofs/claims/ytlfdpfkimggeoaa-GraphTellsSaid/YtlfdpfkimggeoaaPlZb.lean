/-
  What the laws of layer 3 share: Net's answer in memory.
-/
import Derived.Test.YtlfdpfkimggeoaaPlWm
namespace Go.Proofs.Ytlfdpfkimggeoaa
open Go.RowKit
set_option linter.unusedVariables false

theorem POwn.at_ {B : Nat} {p : PPlan} {An Al Ad Ac : Option Addr} {cn cl cd cc : Nat} {w : World} (h : POwn B p (.slice An p.nodes.length cn) (.slice Al p.links.length cl) (.slice Ad p.dests.length cd) (.slice Ac p.checks.length cc) w) :
    PAt w p p.proto p.cap p.k An p.nodes.length Al p.links.length Ad p.dests.length Ac p.checks.length := by
  obtain ⟨hs, h1, h2, h3⟩ := h.dests
  exact ⟨rfl, rfl, rfl, rfl, rfl, rfl, rfl, RowAt.of_own h.nodes, RowAt.of_own h.links, ⟨hs, h1, RowAt.of_own h2, fun i d q e1 e2 => RowAt.of_own (h3 i d q e1 e2)⟩, RowAt.of_own h.checks⟩
theorem CellsAt.upw {w w' : World} {A : Option Addr} {xs : List Value} (h : CellsAt w w.heap.size A xs) (hb : Below w.heap.size w w') : CellsAt w' w'.heap.size A xs := (h.below hb).more hb.size
/-- A network that Net makes. -/
structure NetOk (p : PPlan) : Prop where
  right : Hid (rightB p = true)
  small : PSmall p
  tiny : PTiny p
  nodes1 : 2 ≤ p.nodes.length ∧ p.nodes.length ≤ 7
  links1 : p.links.length ≤ 9
  dests1 : 1 ≤ p.dests.length ∧ p.dests.length ≤ 2
  checks1 : p.checks.length ≤ 6
  node : ∀ (i : Nat) (x : PNode), p.nodes[i]? = some x → ixB (nameIs x.name) p.nodes = (i : Int) ∧ ixB (destIs x.name) p.dests = -1
  dest : ∀ (i : Nat) (x : PDest), p.dests[i]? = some x → ixB (destIs x.name) p.dests = (i : Int) ∧ ixB (nameIs x.name) p.nodes = -1
theorem netOk (l : List Int) : NetOk (netOf l) := by
  have h7 := nG_in (l.take 200)
  have hd := ndG_in (l.take 200)
  refine ⟨Lib.hid (net_right _), net_small _, net_tiny _, ?_, (linksOf_ok _).2, ?_, (checksOf_ok _).2, fun i x h => ?_, fun i x h => ?_⟩
  · show 2 ≤ (nodesOf (l.take 200)).1.length ∧ _
    rw [nodesOf_len]; exact ⟨h7.1, by show (nodesOf (l.take 200)).1.length ≤ 7; rw [nodesOf_len]; exact h7.2⟩
  · have h2 := (destsOf_ok (l.take 200)).2
    show 1 ≤ (destsOf (l.take 200)).1.length ∧ (destsOf (l.take 200)).1.length ≤ 2
    rw [h2]; exact hd
  · obtain ⟨h1, h2, _⟩ := nodesOf_at _ h
    rw [h2]
    exact ⟨node_ix _ i h1, dest_no _ i h1⟩
  · obtain ⟨h1, h2⟩ := destsOf_ok (l.take 200)
    have hi : i < ndG (l.take 200) := by rw [← h2]; exact (List.getElem?_eq_some_iff.1 h).1
    have e := (h1 i x h).1
    rw [e]
    exact ⟨dest_ix _ i hi, node_no _ i (by omega)⟩
/-- Net's answer: its slices. -/
theorem Net_at (p : PPlan) (l : List Int) (HP : Hid (netOf l = p)) (A : Option Addr) (n c : Nat) (hl : l.length = n) (hwf : ∀ v ∈ l, InI v) (hm : n ≤ 9223372036854775807) (hc : n ≤ c) (hcm : c ≤ 9223372036854775807) (w : World) (hA : CellsAt w w.heap.size A (l.map (Value.int .i64))) :
    Calls Try.prog 7 #[.slice A n c] w fun e w' => ∃ An cn Al cl Ad cd Ac cc, e = .returned (.agg #[.int .i64 p.proto, .int .i64 p.cap, .int .i64 p.k, .slice An p.nodes.length cn, .slice Al p.links.length cl, .slice Ad p.dests.length cd, .slice Ac p.checks.length cc]) ∧
      POwn w.heap.size p (.slice An p.nodes.length cn) (.slice Al p.links.length cl) (.slice Ad p.dests.length cd) (.slice Ac p.checks.length cc) w' ∧ Below w.heap.size w w' := by
  have hp := HP.out
  subst hp
  refine (Net_any l A n c hl hwf hm hc hcm w hA).mono fun e w' ⟨vn, vl, vd, vc, he, ho, hb⟩ => ?_
  obtain ⟨An, cn, rfl, _⟩ := own_form ho.nodes
  obtain ⟨Al, cl, rfl, _⟩ := own_form ho.links
  obtain ⟨hs, _, h2, _⟩ := ho.dests
  obtain ⟨Ad, cd, rfl, _⟩ := own_form h2
  obtain ⟨Ac, cc, rfl, _⟩ := own_form ho.checks
  exact ⟨An, cn, Al, cl, Ad, cd, Ac, cc, he, ho, hb⟩
end Go.Proofs.Ytlfdpfkimggeoaa
