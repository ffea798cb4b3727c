/-
  PlanMade: the walk.
-/
import Derived.Test.YtlfapmfhdagikaaDoorPlZb
import Derived.Deep.RegionHeld3
namespace Go.Proofs.YtlfapmfhdagikaaDoor
open Go.RowKit
set_option linter.unusedVariables false

set_option maxHeartbeats 4000000 in
set_option maxRecDepth 100000 in
theorem planMade_walk (A : Option Addr) (c : Nat) (l : List Int) (hwf : ∀ v ∈ l, InI v) (hm : l.length ≤ 9223372036854775807) (hc : l.length ≤ c) (hcm : c ≤ 9223372036854775807) (w : World) (hA : CellsAt w w.heap.size A (l.map (Value.int .i64))) :
    Calls Tryd.prog 6 #[.slice A l.length c] w fun e w' => e = .returned (.bool true) ∧ Below w.heap.size w w' := by
  obtain ⟨p, hp⟩ : ∃ p, netOf l = p := ⟨_, rfl⟩
  have hk := netOk l
  rw [hp] at hk
  have HP := Lib.hid hp
  have HM := Lib.hid hwf
  clear hp hwf
  obtain ⟨n, hn⟩ : ∃ n, l.length = n := ⟨_, rfl⟩
  rw [hn] at hm hc ⊢
  have HLEN := Lib.hid hn
  clear hn
  have hn1 := hk.nodes1
  have hd1 := hk.dests1
  go_enter Tryd.func6, Tryd.ntmps6
  go_wp2_with (first
    | (go_at_call 11; refine (awake3_any _).mono ?_; rintro e w1 ⟨rfl, hb1⟩; have hA1 := (hA.below hb1).more hb1.size)
    | (go_at_call 13; refine (Net_at p l HP A n c HLEN.out HM.out hm hc hcm _ hA1).mono ?_; rintro e w2 ⟨An, cn, Al, cl, Ad, cd, Ac, cc, rfl, ho, hb2⟩))
  have hat := (ho.at_).up (below_new w2 (.cells #[.int .i64 p.proto, .int .i64 p.cap, .int .i64 p.k, .slice An p.nodes.length cn, .slice Al p.links.length cl, .slice Ad p.dests.length cd, .slice Ac p.checks.length cc] 29))
  have hbl := Blk.new w2 29 #[.int .i64 p.proto, .int .i64 p.cap, .int .i64 p.k, .slice An p.nodes.length cn, .slice Al p.links.length cl, .slice Ad p.dests.length cd, .slice Ac p.checks.length cc]
  have hbb := (hb1.trans (hb2.mono hb1.size)).trans ((below_new w2 (.cells #[.int .i64 p.proto, .int .i64 p.cap, .int .i64 p.k, .slice An p.nodes.length cn, .slice Al p.links.length cl, .slice Ad p.dests.length cd, .slice Ac p.checks.length cc] 29)).mono (Nat.le_trans hb1.size hb2.size))
  clear ho hb2 hA1 hb1
  obtain ⟨ln, hln⟩ : ∃ n, p.nodes.length = n := ⟨_, rfl⟩
  obtain ⟨ll, hll⟩ : ∃ n, p.links.length = n := ⟨_, rfl⟩
  obtain ⟨ld, hld⟩ : ∃ n, p.dests.length = n := ⟨_, rfl⟩
  obtain ⟨lc, hlc⟩ : ∃ n, p.checks.length = n := ⟨_, rfl⟩
  rw [hln, hll, hld, hlc] at hat hbl hbb ⊢
  rw [hln] at hn1
  rw [hld] at hd1
  have HLN := Lib.hid hln
  have HLD := Lib.hid hld
  clear hln hll hld hlc
  go_loopw [5, 2] (fun s5 _ wr => ∃ k : Nat, k ≤ ln ∧ s5 = .int .i64 (k : Nat) ∧ Below w.heap.size w wr ∧ Blk wr w2.heap.size 29 #[.int .i64 p.proto, .int .i64 p.cap, .int .i64 p.k, .slice An ln cn, .slice Al ll cl, .slice Ad ld cd, .slice Ac lc cc] ∧ PAt wr p p.proto p.cap p.k An ln Al ll Ad ld Ac lc) (fun s5 _ _ => ln - (intOf s5).toNat)
  case atStart => exact ⟨0, Nat.zero_le _, rfl, hbb, hbl, hat⟩
  case round =>
    clear hbb hbl hat
    obtain ⟨k, hkl, rfl, hbb, hbl, hat⟩ := hrel
    have q3 := hbl.cell 3
    by_cases hlt : k < ln
    · obtain ⟨x, hx⟩ : ∃ x, p.nodes[k]? = some x := ⟨_, List.getElem?_eq_getElem (by rw [HLN.out]; exact hlt)⟩
      obtain ⟨g, rfl, hg, hc1, hc2⟩ := hat.nodes.node hx
      obtain ⟨e1, e2⟩ := hk.node k x hx
      obtain ⟨nm, num⟩ := x
      dsimp only at hc1 hc2 e1 e2
      have HE1 := Lib.hid e1
      have HE2 := Lib.hid e2
      have HAT := Lib.hid (hat.up ((Below.refl _ wr).drew))
      have HBL := Lib.hid (hbl.up ((Below.refl _ wr).drew))
      have q0 := hbl.cell 0
      have q1 := hbl.cell 1
      have q2 := hbl.cell 2
      have q4 := hbl.cell 4
      have q5 := hbl.cell 5
      have q6 := hbl.cell 6
      have i0 : (0 : Int) ≤ (k : Int) := by omega
      have i1 : (k : Int) < (ln : Int) := by omega
      clear e1 e2 hx hc2
      go_wp2
      go_region_held3 (fun w' => w'.cell? ⟨w2.heap.size, 0, none⟩ = some (.int .i64 p.proto) ∧ w'.cell? ⟨w2.heap.size, 1, none⟩ = some (.int .i64 p.cap) ∧ w'.cell? ⟨w2.heap.size, 2, none⟩ = some (.int .i64 p.k) ∧ w'.cell? ⟨w2.heap.size, 3, none⟩ = some (.slice (some ⟨g, 0, none⟩) ln cn) ∧ w'.cell? ⟨w2.heap.size, 4, none⟩ = some (.slice Al ll cl) ∧ w'.cell? ⟨w2.heap.size, 5, none⟩ = some (.slice Ad ld cd) ∧ w'.cell? ⟨w2.heap.size, 6, none⟩ = some (.slice Ac lc cc) ∧ w'.cell? ⟨g, k * 2, none⟩ = some (.string nm)) (go_keep) (first
        | (go_at_call 20; refine (Node_is p nm (k : Int) HE1 HAT.out.nodes HLN (by omega)).mono ?_; rintro e w4 ⟨rfl, hb4⟩; have ha4 := HAT.out.up hb4; have hl4 := HBL.out.up hb4; have q0 := hl4.cell 0; have q1 := hl4.cell 1; have q2 := hl4.cell 2; have q3 := hl4.cell 3; have q4 := hl4.cell 4; have q5 := hl4.cell 5; have q6 := hl4.cell 6; have qn := (hb4.cell (p := ⟨g, k * 2, none⟩) hg).trans hc1)
        | (go_at_call 22; refine (Dest_is p nm (-1) HE2 ha4.dests HLD (by omega)).mono ?_; rintro e w5 ⟨rfl, hb5⟩; have ha5 := ha4.up hb5; have hl5 := hl4.up hb5; have q0 := hl5.cell 0; have q1 := hl5.cell 1; have q2 := hl5.cell 2; have q3 := hl5.cell 3; have q4 := hl5.cell 4; have q5 := hl5.cell 5; have q6 := hl5.cell 6; have qn2 := (hb5.cell (p := ⟨g, k * 2, none⟩) (Nat.lt_of_lt_of_le hg hb4.size)).trans qn))
      go_wp2
      go_roundw
      case rel => exact ⟨k + 1, by omega, by go_num, hbb.trans (((((Below.refl _ wr).drew).trans (hb4.mono (Nat.le_refl _))).trans (hb5.mono hb4.size)).mono hbb.size), hl5, ha5⟩
      case measure => simp [intOf]; omega
    · have hge : ¬ (k : Int) < (ln : Int) := by omega
      obtain ⟨wq, rfl⟩ : ∃ wq : World, wq = wr := ⟨_, rfl⟩
      go_wp2
      go_loopw [6, 2] (fun s6 _ wr => ∃ k : Nat, k ≤ ld ∧ s6 = .int .i64 (k : Nat) ∧ Below w.heap.size w wr ∧ Blk wr w2.heap.size 29 #[.int .i64 p.proto, .int .i64 p.cap, .int .i64 p.k, .slice An ln cn, .slice Al ll cl, .slice Ad ld cd, .slice Ac lc cc] ∧ PAt wr p p.proto p.cap p.k An ln Al ll Ad ld Ac lc) (fun s6 _ _ => ld - (intOf s6).toNat)
      case atStart => exact ⟨0, Nat.zero_le _, rfl, hbb, hbl, hat⟩
      case round =>
        clear hbb hbl hat q3 hlt hge hkl
        obtain ⟨k, hkl, rfl, hbb, hbl, hat⟩ := hrel
        have q5 := hbl.cell 5
        by_cases hlt : k < ld
        · obtain ⟨x, hx⟩ : ∃ x, p.dests[k]? = some x := ⟨_, List.getElem?_eq_getElem (by rw [HLD.out]; exact hlt)⟩
          obtain ⟨g, Ao, co, rfl, hg, hc1, hc2, _⟩ := hat.dests.dest hx
          obtain ⟨e1, e2⟩ := hk.dest k x hx
          obtain ⟨nm, og⟩ := x
          dsimp only at hc1 hc2 e1 e2
          have HE1 := Lib.hid e1
          have HE2 := Lib.hid e2
          have HAT := Lib.hid (hat.up ((Below.refl _ wr).drew))
          have HBL := Lib.hid (hbl.up ((Below.refl _ wr).drew))
          have q0 := hbl.cell 0
          have q1 := hbl.cell 1
          have q2 := hbl.cell 2
          have q3 := hbl.cell 3
          have q4 := hbl.cell 4
          have q6 := hbl.cell 6
          have i0 : (0 : Int) ≤ (k : Int) := by omega
          have i1 : (k : Int) < (ld : Int) := by omega
          clear e1 e2 hx hc2
          go_wp2
          go_region_held3 (fun w' => w'.cell? ⟨w2.heap.size, 0, none⟩ = some (.int .i64 p.proto) ∧ w'.cell? ⟨w2.heap.size, 1, none⟩ = some (.int .i64 p.cap) ∧ w'.cell? ⟨w2.heap.size, 2, none⟩ = some (.int .i64 p.k) ∧ w'.cell? ⟨w2.heap.size, 3, none⟩ = some (.slice An ln cn) ∧ w'.cell? ⟨w2.heap.size, 4, none⟩ = some (.slice Al ll cl) ∧ w'.cell? ⟨w2.heap.size, 5, none⟩ = some (.slice (some ⟨g, 0, none⟩) ld cd) ∧ w'.cell? ⟨w2.heap.size, 6, none⟩ = some (.slice Ac lc cc) ∧ w'.cell? ⟨g, k * 2, none⟩ = some (.string nm)) (go_keep) (first
            | (go_at_call 22; refine (Dest_is p nm (k : Int) HE1 HAT.out.dests HLD (by omega)).mono ?_; rintro e w4 ⟨rfl, hb4⟩; have ha4 := HAT.out.up hb4; have hl4 := HBL.out.up hb4; have q0 := hl4.cell 0; have q1 := hl4.cell 1; have q2 := hl4.cell 2; have q3 := hl4.cell 3; have q4 := hl4.cell 4; have q5 := hl4.cell 5; have q6 := hl4.cell 6; have qn := (hb4.cell (p := ⟨g, k * 2, none⟩) hg).trans hc1)
            | (go_at_call 20; refine (Node_is p nm (-1) HE2 ha4.nodes HLN (by omega)).mono ?_; rintro e w5 ⟨rfl, hb5⟩; have ha5 := ha4.up hb5; have hl5 := hl4.up hb5; have q0 := hl5.cell 0; have q1 := hl5.cell 1; have q2 := hl5.cell 2; have q3 := hl5.cell 3; have q4 := hl5.cell 4; have q5 := hl5.cell 5; have q6 := hl5.cell 6; have qn2 := (hb5.cell (p := ⟨g, k * 2, none⟩) (Nat.lt_of_lt_of_le hg hb4.size)).trans qn))
          go_wp2
          go_roundw
          case rel => exact ⟨k + 1, by omega, by go_num, hbb.trans (((((Below.refl _ wr).drew).trans (hb4.mono (Nat.le_refl _))).trans (hb5.mono hb4.size)).mono hbb.size), hl5, ha5⟩
          case measure => simp [intOf]; omega
        · have hge : ¬ (k : Int) < (ld : Int) := by omega
          obtain ⟨wq2, rfl⟩ : ∃ wq : World, wq = wr := ⟨_, rfl⟩
          have HAT := Lib.hid (hat.up ((Below.refl _ wq2).drew))
          have HBL := Lib.hid (hbl.up ((Below.refl _ wq2).drew))
          have HA3 := Lib.hid ((((hA.below hbb).more hbb.size)).upw ((Below.refl _ wq2).drew))
          have q0 := hbl.cell 0
          have q1 := hbl.cell 1
          have q2 := hbl.cell 2
          have q3 := hbl.cell 3
          have q4 := hbl.cell 4
          have q6 := hbl.cell 6
          have HSAME : Hid (sameB p p = true) := Lib.hid ((sameB_iff p p).2 rfl)
          go_wp2
          go_region_held3 (fun w' => w'.cell? ⟨w2.heap.size, 0, none⟩ = some (.int .i64 p.proto) ∧ w'.cell? ⟨w2.heap.size, 1, none⟩ = some (.int .i64 p.cap) ∧ w'.cell? ⟨w2.heap.size, 2, none⟩ = some (.int .i64 p.k) ∧ w'.cell? ⟨w2.heap.size, 3, none⟩ = some (.slice An ln cn) ∧ w'.cell? ⟨w2.heap.size, 4, none⟩ = some (.slice Al ll cl) ∧ w'.cell? ⟨w2.heap.size, 5, none⟩ = some (.slice Ad ld cd) ∧ w'.cell? ⟨w2.heap.size, 6, none⟩ = some (.slice Ac lc cc)) (go_keep) (first
            | (go_at_call 16; refine (Right_is true hk.right hk.small HAT.out).mono ?_; rintro e w4 ⟨rfl, hb4⟩; have ha4 := HAT.out.up hb4; have hl4 := HBL.out.up hb4; have hA4 := HA3.out.upw hb4; have q0 := hl4.cell 0; have q1 := hl4.cell 1; have q2 := hl4.cell 2; have q3 := hl4.cell 3; have q4 := hl4.cell 4; have q5 := hl4.cell 5; have q6 := hl4.cell 6)
            | (go_at_call 13; refine (Net_at p l HP A n c HLEN.out HM.out hm hc hcm _ hA4).mono ?_; rintro e w5 ⟨An2, cn2, Al2, cl2, Ad2, cd2, Ac2, cc2, rfl, ho5, hb5⟩; have ha5 := ha4.up hb5; have hl5 := hl4.up hb5; have hq5 := ho5.at_; have q0 := hl5.cell 0; have q1 := hl5.cell 1; have q2 := hl5.cell 2; have q3 := hl5.cell 3; have q4 := hl5.cell 4; have q5 := hl5.cell 5; have q6 := hl5.cell 6)
            | (go_at_call 18; refine (Same_is true HSAME hk.small hk.small ha5 hq5).mono ?_; rintro e w6 ⟨rfl, hb6⟩; have hl6 := hl5.up hb6; have q0 := hl6.cell 0; have q1 := hl6.cell 1; have q2 := hl6.cell 2; have q3 := hl6.cell 3; have q4 := hl6.cell 4; have q5 := hl6.cell 5; have q6 := hl6.cell 6))
          go_wp2
          go_ret
          exact ⟨rfl, hbb.trans ((((((Below.refl _ wq2).drew).trans (hb4.mono (Nat.le_refl _))).trans (hb5.mono hb4.size)).trans (hb6.mono (Nat.le_trans hb4.size hb5.size))).mono hbb.size)⟩
end Go.Proofs.YtlfapmfhdagikaaDoor
