/-
  A check more: the network's text, and the check's own block.
-/
import Derived.Test.YtponlhgkgmlihaaDoorPlZa
import Derived.Test.YtponlhgkgmlihaaDoorPlZd
namespace Go.Proofs.YtponlhgkgmlihaaDoor
open Go.RowKit
set_option linter.unusedVariables false

theorem text_check (p : PPlan) (c : PCheck) : textB { p with checks := p.checks ++ [c] } = textB p ++ lineS (checkW p.nodes p.dests c) := by
  unfold textB
  dsimp only
  rw [List.flatMap_append, List.flatMap_singleton]
  simp only [List.append_assoc]
section
variable {w0 w w' : World} {g : Nat} {p : PPlan} {vn vl vd vc : Value}
theorem HSt.putC (h : HSt w0 g p vn vl vd vc w) {gc : Nat} {xs : Array Value} (hb : Blk w gc 43 xs) (hg : w0.heap.size ≤ gc) (hvc : ∀ k, vc.ownBlock = some k → k ≠ gc) (i : Nat) (u : Value) : HSt w0 g p vn vl vd vc (w.setCell ⟨gc, i, none⟩ u) :=
  ⟨⟨own_set h.own.nodes hb (by decide) i u, own_set h.own.links hb (by decide) i u, h.own.dests.map fun he ho => own_set ho hb (by rcases he with rfl | rfl <;> decide) i u, own_set_ne h.own.checks hvc i u⟩, h.blk.far (p := ⟨gc, i, none⟩) (h.blk.ne_ hb (by decide)) _, h.lo, h.below.trans ((Below.refl _ _).setCell (p := ⟨gc, i, none⟩) hg _)⟩
end
/-- A check that fits more: the network may be, and is as small. -/
theorem right_more {p : PPlan} (h : Hid (rightB p = true)) (hl : p.checks.length ≤ 6) (c : PCheck) (hc : checkB p.nodes.length p.dests.length c = true) : Hid (rightB { p with checks := p.checks ++ [c] } = true) := by
  obtain ⟨h1, h2, h3, h4, h5, h6⟩ := right_parts h
  refine right_of h1 h2 h3 h4 h5 ?_
  unfold checksB at h6 ⊢
  rw [Bool.and_eq_true, decide_eq_true_iff] at h6 ⊢
  refine ⟨by rw [List.length_append]; show p.checks.length + 1 ≤ 16; omega, (allF_iff _ _ _).2 fun k z hz => ?_⟩
  rcases Nat.lt_or_ge k p.checks.length with hk | hk
  · rw [List.getElem?_append_left hk] at hz
    exact (allF_iff _ _ _).1 h6.2 _ z hz
  · rw [List.getElem?_append_right hk] at hz
    have h0 : k - p.checks.length = 0 := by
      have := (List.getElem?_eq_some_iff.1 hz).1
      simp at this; omega
    rw [h0] at hz
    injection hz with hz
    subst hz
    exact hc
theorem small_more {p : PPlan} (hs : PSmall p) (hl : p.checks.length ≤ 6) (c : PCheck) : PSmall { p with checks := p.checks ++ [c] } :=
  ⟨hs.nodes, hs.dests, hs.ln, hs.ll, hs.ld, by show (p.checks ++ [c]).length ≤ 4096; rw [List.length_append]; show p.checks.length + 1 ≤ 4096; omega⟩
theorem tiny_more {p : PPlan} (ht : PTiny p) (k i li : Nat) (hk : (k = 1 ∧ li = 0) ∨ (k = 2 ∧ li < 10)) (hi : i < p.nodes.length) (hd : 0 < p.dests.length) : PTiny { p with checks := p.checks ++ [⟨(k : Int), (i : Int), 0, (li : Int), 0⟩] } := by
  refine ⟨ht.cap, ht.k, ht.nodes, ht.links, ht.dests, fun c hc => ?_⟩
  rcases List.mem_append.1 hc with hc | hc
  · exact ht.checks c hc
  · simp only [List.mem_cons, List.not_mem_nil, or_false] at hc
    subst hc
    exact ⟨by show (k : Int) = 1 ∨ (k : Int) = 2 ∨ (k : Int) = 3 ∨ (k : Int) = 4; omega, i, 0, li, 0, rfl, rfl, rfl, rfl, hi, hd, by show 0 < p.nodes.length; omega, by omega⟩
theorem check_fits (n d k i li : Nat) (hk : (k = 1 ∧ li = 0) ∨ (k = 2 ∧ li < 10)) (hi : i < n) (hd : 0 < d) : checkB n d ⟨(k : Int), (i : Int), 0, (li : Int), 0⟩ = true := by
  rcases hk with ⟨rfl, rfl⟩ | ⟨rfl, hl⟩
  · unfold checkB placeB withinB limB othB; simp; omega
  · unfold checkB placeB withinB limB othB; simp; omega
end Go.Proofs.YtponlhgkgmlihaaDoor
