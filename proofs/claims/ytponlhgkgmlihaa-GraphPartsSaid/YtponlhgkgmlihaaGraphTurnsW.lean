/-
  GraphTurns: the walk.
-/
import Derived.Test.YtponlhgkgmlihaaGrG
namespace Go.Proofs.Ytponlhgkgmlihaa
open Go.RowKit
set_option linter.unusedVariables false

theorem hops_nat {p : PPlan} {f : Int} {a b : Nat} (ha : a < p.nodes.length) (hb : b < p.nodes.length) : hopsB p f (a : Int) (b : Int) = distB (adjB p f) p.nodes.length a b := by
  unfold hopsB isNodeB
  simp [ha, hb]
set_option maxHeartbeats 4000000 in
set_option maxRecDepth 100000 in
theorem graphTurns_walk (A : Option Addr) (c : Nat) (l : List Int) (hwf : ∀ v ∈ l, InI v) (hm : l.length ≤ 9223372036854775807) (hc : l.length ≤ c) (hcm : c ≤ 9223372036854775807) (f : Int) (hf : InI f) (a0 : Int) (ha0 : InI a0) (b0 : Int) (hb0 : InI b0) (c0 : Int) (hc0 : InI c0) (w : World) (hA : CellsAt w w.heap.size A (l.map (Value.int .i64))) :
    Calls Try.prog 4 #[.slice A l.length c, .int .i64 f, .int .i64 a0, .int .i64 b0, .int .i64 c0] w fun e w' => e = .returned (.bool true) ∧ Below w.heap.size w w' := by
  obtain ⟨p, hp⟩ : ∃ p, netOf l = p := ⟨_, rfl⟩
  have hk := netOk l
  rw [hp] at hk
  have HP := Lib.hid hp
  have HM := Lib.hid hwf
  clear hp hwf
  obtain ⟨n, hn⟩ : ∃ n, l.length = n := ⟨_, rfl⟩
  rw [hn] at hm hc ⊢
  have HLEN := Lib.hid hn
  clear hn
  have hn1 := hk.nodes1
  have hg := gplan_right hk.right.out
  obtain ⟨x, hx, hxl⟩ := pickN_nat f 512 (by omega)
  obtain ⟨a, ha, han⟩ := pickN_nat a0 p.nodes.length (by omega)
  obtain ⟨b, hb, hbn⟩ := pickN_nat b0 p.nodes.length (by omega)
  obtain ⟨d, hd, hdn⟩ := pickN_nat c0 p.nodes.length (by omega)
  have HX := Lib.hid (show pickN f 512 = (x : Int) from hx)
  have HA := Lib.hid ha
  have HB := Lib.hid hb
  have HC := Lib.hid hd
  have hG := gok hg (x : Int)
  obtain ⟨ab, hab⟩ : ∃ v, distB (adjB p x) p.nodes.length a b = v := ⟨_, rfl⟩
  obtain ⟨bc, hbc⟩ : ∃ v, distB (adjB p x) p.nodes.length b d = v := ⟨_, rfl⟩
  obtain ⟨ac, hac⟩ : ∃ v, distB (adjB p x) p.nodes.length a d = v := ⟨_, rfl⟩
  have hba : distB (adjB p x) p.nodes.length b a = ab := by rw [← hab]; exact dist_sym hG hbn han
  have f1 := dist_in (adjB p x) p.nodes.length a b
  have f2 : ab = 0 ↔ b = a := by rw [← hab]; exact dist_zero han
  have f3 : 0 ≤ ab → 0 ≤ bc → 0 ≤ ac ∧ ac ≤ ab + bc := by rw [← hab, ← hbc, ← hac]; exact dist_tri hG han hbn
  have f4 := dist_in (adjB p x) p.nodes.length b d
  have f5 := dist_in (adjB p x) p.nodes.length a d
  rw [hab] at f1
  rw [hbc] at f4
  rw [hac] at f5
  have HAB := Lib.hid ((hops_nat (f := x) han hbn).trans hab)
  have HBC := Lib.hid ((hops_nat (f := x) hbn hdn).trans hbc)
  have HAC := Lib.hid ((hops_nat (f := x) han hdn).trans hac)
  have HBA := Lib.hid ((hops_nat (f := x) hbn han).trans hba)
  have hnb : (p.nodes.length : Int) ≤ 7 := by omega
  have t0 : (ab != ab) = false := by simp
  have t1 : decide ((p.nodes.length : Int) ≤ ab) = false := by simp; omega
  have t2 : (ab == 0) = ((a : Int) == (b : Int)) := by
    by_cases e : a = b
    · have : ab = 0 := f2.2 e.symm
      simp [this, e]
    · have : ab ≠ 0 := fun h => e (f2.1 h).symm
      rw [show (ab == 0) = false by simp [this], show ((a : Int) == (b : Int)) = false by simp; omega]
  clear hx ha hb hd hab hbc hac hba f2
  go_enter Try.func4, Try.ntmps4
  go_wp2_with (first
    | (go_at_call 10; refine (awake5_any _).mono ?_; rintro e w1 ⟨rfl, hb1⟩; have hA1 := (hA.below hb1).more hb1.size)
    | (go_at_call 11; refine (Net_at p l HP A n c HLEN.out HM.out hm hc hcm _ hA1).mono ?_; rintro e w2 ⟨An, cn, Al, cl, Ad, cd, Ac, cc, rfl, ho, hb2⟩; have h0 := PBox.new hb1 hb2 ho; obtain ⟨q0, q1, q2, q3, q4, q5, q6⟩ := h0.cells)
    | (go_at_call 13; (with_reducible refine (pick5_is f 512 x hf (by omega) (by omega) HX _).mono ?_); rintro e w3 ⟨rfl, rfl⟩)
    | (go_at_call 13; (with_reducible refine (pick5_is a0 _ a ha0 (by omega) (by omega) HA _).mono ?_); rintro e w3 ⟨rfl, rfl⟩)
    | (go_at_call 13; (with_reducible refine (pick5_is b0 _ b hb0 (by omega) (by omega) HB _).mono ?_); rintro e w3 ⟨rfl, rfl⟩)
    | (go_at_call 13; (with_reducible refine (pick5_is c0 _ d hc0 (by omega) (by omega) HC _).mono ?_); rintro e w3 ⟨rfl, rfl⟩)
    | (go_at_call 21; (with_reducible refine (Hops_ok x b a ab HBA hk.right hk.small h3.at_).mono ?_); rintro e w7 ⟨rfl, hb7⟩; have h4 := h3.go hb7)
    | (go_at_call 21; (with_reducible refine (Hops_ok x a d ac HAC hk.right hk.small h2.at_).mono ?_); rintro e w6 ⟨rfl, hb6⟩; have h3 := h2.go hb6; obtain ⟨z0, z1, z2, z3, z4, z5, z6⟩ := h3.cells)
    | (go_at_call 21; (with_reducible refine (Hops_ok x b d bc HBC hk.right hk.small h1.at_).mono ?_); rintro e w5 ⟨rfl, hb5⟩; have h2 := h1.go hb5; obtain ⟨s0, s1, s2, s3, s4, s5, s6⟩ := h2.cells)
    | (go_at_call 21; (with_reducible refine (Hops_ok x a b ab HAB hk.right hk.small h0.at_).mono ?_); rintro e w4 ⟨rfl, hb4⟩; have h1 := h0.go hb4; obtain ⟨r0, r1, r2, r3, r4, r5, r6⟩ := h1.cells))
  all_goals
    go_ret
    exact ⟨ret_bool (by first | rfl | (simp; omega)), h4.up⟩
end Go.Proofs.Ytponlhgkgmlihaa
