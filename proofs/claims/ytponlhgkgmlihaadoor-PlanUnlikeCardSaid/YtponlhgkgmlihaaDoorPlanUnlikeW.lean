/-
  PlanUnlike: the walk.
-/
import Derived.Test.YtponlhgkgmlihaaDoorPlTc
import Derived.Test.YtponlhgkgmlihaaDoorPlTd
import Derived.Test.YtponlhgkgmlihaaDoorPlZa
import Derived.Test.YtponlhgkgmlihaaDoorPmB
import Derived.Deep.RegionHeld3
namespace Go.Proofs.YtponlhgkgmlihaaDoor
open Go.RowKit
set_option linter.unusedVariables false
set_option linter.unusedSimpArgs false

set_option maxHeartbeats 4000000 in
set_option maxRecDepth 100000 in
theorem planUnlike_walk (A : Option Addr) (c : Nat) (l : List Int) (hwf : ∀ v ∈ l, InI v) (hm : l.length ≤ 9223372036854775807) (hc : l.length ≤ c) (hcm : c ≤ 9223372036854775807) (A' : Option Addr) (c' : Nat) (l' : List Int) (hwf' : ∀ v ∈ l', InI v) (hm' : l'.length ≤ 9223372036854775807) (hc' : l'.length ≤ c') (hcm' : c' ≤ 9223372036854775807) (w : World) (hA : CellsAt w w.heap.size A (l.map (Value.int .i64))) (hA' : CellsAt w w.heap.size A' (l'.map (Value.int .i64))) :
    Calls Tryd.prog 4 #[.slice A l.length c, .slice A' l'.length c'] w fun e w' => e = .returned (.bool true) ∧ Below w.heap.size w w' := by
  obtain ⟨p, hp⟩ : ∃ p, netOf l = p := ⟨_, rfl⟩
  obtain ⟨q, hq⟩ : ∃ q, netOf l' = q := ⟨_, rfl⟩
  have hk := netOk l
  have hk2 := netOk l'
  rw [hp] at hk
  rw [hq] at hk2
  have HP := Lib.hid hp
  have HQ := Lib.hid hq
  have HM := Lib.hid hwf
  have HM' := Lib.hid hwf'
  clear hp hq hwf hwf'
  obtain ⟨n, hn⟩ : ∃ n, l.length = n := ⟨_, rfl⟩
  obtain ⟨n', hn'⟩ : ∃ n, l'.length = n := ⟨_, rfl⟩
  rw [hn] at hm hc ⊢
  rw [hn'] at hm' hc' ⊢
  have HLEN := Lib.hid hn
  have HLEN' := Lib.hid hn'
  clear hn hn'
  obtain ⟨S, hS⟩ : ∃ S : ByteArray, S = ⟨(textB p).toArray⟩ := ⟨_, rfl⟩
  obtain ⟨T, hT⟩ : ∃ T : ByteArray, T = ⟨(textB q).toArray⟩ := ⟨_, rfl⟩
  have hst := text_same hk hk2 hS hT
  obtain ⟨b, hb⟩ : ∃ b, sameB p q = b := ⟨_, rfl⟩
  have hb2 : sameB q p = b := by
    rw [← hb, Bool.eq_iff_iff, sameB_iff, sameB_iff]
    exact ⟨Eq.symm, Eq.symm⟩
  rw [hb] at hst
  have HS := Lib.hid hS
  have HT := Lib.hid hT
  have HB := Lib.hid hb
  have HB2 := Lib.hid hb2
  clear hS hT hb hb2
  have hd : (S = T ∧ b = true) ∨ ((S.toList == T.toList) = false ∧ b = false) := by
    by_cases e : S = T
    · exact .inl ⟨e, by rw [← hst]; exact decide_eq_true e⟩
    · exact .inr ⟨str_ne e, by rw [← hst]; exact decide_eq_false e⟩
  clear hst
  have e1 := text_le hk.small hk.tiny
  have e2 := text_le hk2.small hk2.tiny
  go_enter Tryd.func4, Tryd.ntmps4
  go_upto_region 7 with (first
    | (go_at_call 6; refine (awake3_any _).mono ?_; rintro e w1 ⟨rfl, hb1⟩; have hA1 := (hA.below hb1).more hb1.size; have hA1' := (hA'.below hb1).more hb1.size)
    | (go_at_call 8; (with_reducible refine (Net_at q l' HQ A' n' c' HLEN'.out HM'.out hm' hc' hcm' _ hA3').mono ?_); rintro e w4 ⟨An2, cn2, Al2, cl2, Ad2, cd2, Ac2, cc2, rfl, ho2, hb4⟩; have hq0 := PBox.new (hp0.up) hb4 ho2; have hp1 := (hp0.go hb4).alloc (.cells #[.int .i64 q.proto, .int .i64 q.cap, .int .i64 q.k, .slice An2 q.nodes.length cn2, .slice Al2 q.links.length cl2, .slice Ad2 q.dests.length cd2, .slice Ac2 q.checks.length cc2] 29); obtain ⟨x0, x1, x2, x3, x4, x5, x6⟩ := hp1.cells; obtain ⟨y0, y1, y2, y3, y4, y5, y6⟩ := hq0.cells)
    | (go_at_call 8; (with_reducible refine (Net_at p l HP A n c HLEN.out HM.out hm hc hcm _ hA1).mono ?_); rintro e w2 ⟨An, cn, Al, cl, Ad, cd, Ac, cc, rfl, ho, hb2⟩; have hp0 := PBox.new hb1 hb2 ho; have hA3' := (hA1'.upw hb2).upw (below_new w2 (.cells #[.int .i64 p.proto, .int .i64 p.cap, .int .i64 p.k, .slice An p.nodes.length cn, .slice Al p.links.length cl, .slice Ad p.dests.length cd, .slice Ac p.checks.length cc] 29)))
    | (go_at_call 9; (with_reducible refine (Print_good hk2.right hk2.small hk2.tiny hq2.at_ e2).mono ?_); rintro e w6 ⟨rfl, hb6⟩; rw [← HT.out]; have hp3 := hp2.go hb6; have hq3 := hq2.go hb6; obtain ⟨x0, x1, x2, x3, x4, x5, x6⟩ := hp3.cells; obtain ⟨y0, y1, y2, y3, y4, y5, y6⟩ := hq3.cells)
    | (go_at_call 9; (with_reducible refine (Print_good hk.right hk.small hk.tiny hp1.at_ e1).mono ?_); rintro e w5 ⟨rfl, hb5⟩; rw [← HS.out]; have hp2 := hp1.go hb5; have hq2 := hq0.go hb5; obtain ⟨x0, x1, x2, x3, x4, x5, x6⟩ := hp2.cells; obtain ⟨y0, y1, y2, y3, y4, y5, y6⟩ := hq2.cells)
    | (go_at_call 14; (with_reducible refine (RefSame_is b HB hk.small hk2.small hp3.at_ hq3.at_).mono ?_); rintro e w7 ⟨rfl, hb7⟩; have hp4 := hp3.go hb7; have hq4 := hq3.go hb7; obtain ⟨x0, x1, x2, x3, x4, x5, x6⟩ := hp4.cells; obtain ⟨y0, y1, y2, y3, y4, y5, y6⟩ := hq4.cells))
  rcases hd with ⟨e, hbt⟩ | ⟨e, hbf⟩
  · subst e hbt
    go_wp2_with (first
      | (go_at_call 13; (with_reducible refine (Same_is true HB hk.small hk2.small hp4.at_ hq4.at_).mono ?_); rintro e w8 ⟨rfl, hb8⟩; have hp5 := hp4.go hb8; have hq5 := hq4.go hb8; obtain ⟨x0, x1, x2, x3, x4, x5, x6⟩ := hp5.cells; obtain ⟨y0, y1, y2, y3, y4, y5, y6⟩ := hq5.cells)
      | (go_at_call 13; (with_reducible refine (Same_is true HB2 hk2.small hk.small hq5.at_ hp5.at_).mono ?_); rintro e w9 ⟨rfl, hb9⟩; have hp6 := hp5.go hb9))
    go_ret
    exact ⟨ret_bool (by first | rfl | simp), hp6.up⟩
  · subst hbf
    go_wp2_with (first
      | (go_at_call 13; (with_reducible refine (Same_is false HB hk.small hk2.small hp4.at_ hq4.at_).mono ?_); rintro e w8 ⟨rfl, hb8⟩; have hp5 := hp4.go hb8; have hq5 := hq4.go hb8; obtain ⟨x0, x1, x2, x3, x4, x5, x6⟩ := hp5.cells; obtain ⟨y0, y1, y2, y3, y4, y5, y6⟩ := hq5.cells)
      | (go_at_call 13; (with_reducible refine (Same_is false HB2 hk2.small hk.small hq5.at_ hp5.at_).mono ?_); rintro e w9 ⟨rfl, hb9⟩; have hp6 := hp5.go hb9))
    go_ret
    exact ⟨ret_bool (by first | rfl | simp), hp6.up⟩
end Go.Proofs.YtponlhgkgmlihaaDoor
