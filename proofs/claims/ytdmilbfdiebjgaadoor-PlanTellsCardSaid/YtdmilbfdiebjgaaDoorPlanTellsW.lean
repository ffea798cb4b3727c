/-
  PlanTells: the walk.
-/
import Derived.Test.YtdmilbfdiebjgaaDoorPlUa
import Derived.Test.YtdmilbfdiebjgaaDoorPlXh
import Derived.Test.YtdmilbfdiebjgaaDoorPlTd
import Derived.Test.YtdmilbfdiebjgaaDoorPlZa
import Derived.Deep.RegionHeld3
namespace Go.Proofs.YtdmilbfdiebjgaaDoor
open Go.RowKit
set_option linter.unusedVariables false
set_option linter.unusedSimpArgs false

set_option maxHeartbeats 4000000 in
set_option maxRecDepth 100000 in
theorem RefNode_is {p : PPlan} (x : ByteArray) (v : Int) (H : Hid (ixB (nameIs x) p.nodes = v)) (hs : PSmall p) {pr ca kk : Int} {An Al Ad Ac : Option Addr} {ln cn ll cl ld cd lc cc : Nat} {w : World} (h : PAt w p pr ca kk An ln Al ll Ad ld Ac lc) :
    Calls Tryd.prog 14 #[.agg #[.int .i64 pr, .int .i64 ca, .int .i64 kk, .slice An ln cn, .slice Al ll cl, .slice Ad ld cd, .slice Ac lc cc], .string x] w fun e w' => e = .returned (.int .i64 v) ∧ Below w.heap.size w w' := by
  have hbx := fun o => below_new w o
  have k0 := Blk.new w 29 #[.int .i64 pr, .int .i64 ca, .int .i64 kk, .slice An ln cn, .slice Al ll cl, .slice Ad ld cd, .slice Ac lc cc]
  have s1 : ln ≤ 4096 := by have := hs.ln; rw [h.ln] at this; exact this
  have HP := Lib.hid h
  clear h hs
  go_enter Tryd.func14, Tryd.ntmps14
  go_wp2
  go_loopw [5] (fun i wr => ∃ k : Nat, k ≤ ln ∧ i = .int .i64 (k : Nat) ∧ IxAt (nameIs x) p.nodes k ∧ Below w.heap.size w wr ∧ Blk wr w.heap.size 29 #[.int .i64 pr, .int .i64 ca, .int .i64 kk, .slice An ln cn, .slice Al ll cl, .slice Ad ld cd, .slice Ac lc cc]) (fun i _ => ln - (intOf i).toNat)
  case atStart => exact ⟨0, Nat.zero_le _, rfl, IxAt.start _ _, hbx _, k0⟩
  case round =>
    clear hbx k0
    obtain ⟨k, hk, rfl, hat, hbw, hbox⟩ := hrel
    obtain ⟨d0, d1, d2, d3, d4, d5, d6⟩ := box7 hbox
    by_cases hlt : k < ln
    · obtain ⟨y, hn'⟩ : ∃ n, p.nodes[k]? = some n := ⟨_, List.getElem?_eq_getElem (by rw [HP.out.ln]; exact hlt)⟩
      obtain ⟨g, hAg, hg, c0, c1⟩ := (HP.out.up hbw).nodes.node hn'
      have n0 : (0 : Int) ≤ (k : Int) := by omega
      have n1 : (k : Int) < (ln : Int) := by omega
      have HAT := Lib.hid hat
      have HN := Lib.hid hn'
      obtain ⟨nm, hnm⟩ : ∃ nm, y.name = nm := ⟨_, rfl⟩
      rw [hnm] at c0
      have HNM := Lib.hid hnm
      subst hAg
      clear hat hn' hnm
      by_cases e : nm = x
      · have hv : Hid (v = (k : Int)) := Lib.hid (by rw [← H.out]; exact HAT.out.hit HN.out (by unfold nameIs; rw [HNM.out]; simp [e]))
        have t1 : (nm.toList == x.toList) = true := by rw [e]; exact str_same x
        clear e
        go_wp2
        go_ret
        exact ⟨by rw [hv.out]; rfl, hbw⟩
      · have hat' := HAT.out.next HN.out (by unfold nameIs; rw [HNM.out]; simp [e])
        have HAT2 := Lib.hid hat'
        have t1 := str_ne e
        clear e hat'
        go_wp2
        go_roundw
        case rel => exact ⟨k + 1, by omega, by go_num, HAT2.out, hbw, hbox⟩
        case measure => simp [intOf]; omega
    · have hv : Hid (v = -1) := Lib.hid (by rw [← H.out]; exact hat.miss (by rw [HP.out.ln]; omega))
      have hge : ¬ (k : Int) < (ln : Int) := by omega
      go_wp2
      go_ret
      exact ⟨by rw [hv.out]; rfl, hbw⟩

set_option maxHeartbeats 4000000 in
set_option maxRecDepth 100000 in
theorem RefDest_is {p : PPlan} (x : ByteArray) (v : Int) (H : Hid (ixB (destIs x) p.dests = v)) (hs : PSmall p) {pr ca kk : Int} {An Al Ad Ac : Option Addr} {ln cn ll cl ld cd lc cc : Nat} {w : World} (h : PAt w p pr ca kk An ln Al ll Ad ld Ac lc) :
    Calls Tryd.prog 16 #[.agg #[.int .i64 pr, .int .i64 ca, .int .i64 kk, .slice An ln cn, .slice Al ll cl, .slice Ad ld cd, .slice Ac lc cc], .string x] w fun e w' => e = .returned (.int .i64 v) ∧ Below w.heap.size w w' := by
  have hbx := fun o => below_new w o
  have k0 := Blk.new w 29 #[.int .i64 pr, .int .i64 ca, .int .i64 kk, .slice An ln cn, .slice Al ll cl, .slice Ad ld cd, .slice Ac lc cc]
  have s1 : ld ≤ 4096 := by have := hs.ld; rw [h.ld] at this; exact this
  have HP := Lib.hid h
  clear h hs
  go_enter Tryd.func16, Tryd.ntmps16
  go_wp2
  go_loopw [5] (fun i wr => ∃ k : Nat, k ≤ ld ∧ i = .int .i64 (k : Nat) ∧ IxAt (destIs x) p.dests k ∧ Below w.heap.size w wr ∧ Blk wr w.heap.size 29 #[.int .i64 pr, .int .i64 ca, .int .i64 kk, .slice An ln cn, .slice Al ll cl, .slice Ad ld cd, .slice Ac lc cc]) (fun i _ => ld - (intOf i).toNat)
  case atStart => exact ⟨0, Nat.zero_le _, rfl, IxAt.start _ _, hbx _, k0⟩
  case round =>
    clear hbx k0
    obtain ⟨k, hk, rfl, hat, hbw, hbox⟩ := hrel
    obtain ⟨d0, d1, d2, d3, d4, d5, d6⟩ := box7 hbox
    by_cases hlt : k < ld
    · obtain ⟨y, hn'⟩ : ∃ n, p.dests[k]? = some n := ⟨_, List.getElem?_eq_getElem (by rw [HP.out.ld]; exact hlt)⟩
      obtain ⟨g, Ao, co, hAg, hg, c0, c1, _⟩ := (HP.out.up hbw).dests.dest hn'
      have n0 : (0 : Int) ≤ (k : Int) := by omega
      have n1 : (k : Int) < (ld : Int) := by omega
      have HAT := Lib.hid hat
      have HN := Lib.hid hn'
      obtain ⟨nm, hnm⟩ : ∃ nm, y.name = nm := ⟨_, rfl⟩
      rw [hnm] at c0
      have HNM := Lib.hid hnm
      subst hAg
      clear hat hn' hnm
      by_cases e : nm = x
      · have hv : Hid (v = (k : Int)) := Lib.hid (by rw [← H.out]; exact HAT.out.hit HN.out (by unfold destIs; rw [HNM.out]; simp [e]))
        have t1 : (nm.toList == x.toList) = true := by rw [e]; exact str_same x
        clear e
        go_wp2
        go_ret
        exact ⟨by rw [hv.out]; rfl, hbw⟩
      · have hat' := HAT.out.next HN.out (by unfold destIs; rw [HNM.out]; simp [e])
        have HAT2 := Lib.hid hat'
        have t1 := str_ne e
        clear e hat'
        go_wp2
        go_roundw
        case rel => exact ⟨k + 1, by omega, by go_num, HAT2.out, hbw, hbox⟩
        case measure => simp [intOf]; omega
    · have hv : Hid (v = -1) := Lib.hid (by rw [← H.out]; exact hat.miss (by rw [HP.out.ld]; omega))
      have hge : ¬ (k : Int) < (ld : Int) := by omega
      go_wp2
      go_ret
      exact ⟨by rw [hv.out]; rfl, hbw⟩
end Go.Proofs.YtdmilbfdiebjgaaDoor
namespace Go.Proofs.YtdmilbfdiebjgaaDoor
open Go.RowKit
set_option linter.unusedVariables false
set_option linter.unusedSimpArgs false

theorem WildAs.forms {w w' : World} {e : Ending} (h : WildAs w e w') : ∃ p An cn Al cl Ad cd Ac cc, PFine p ∧ e = .returned (.agg #[.int .i64 p.proto, .int .i64 p.cap, .int .i64 p.k, .slice An p.nodes.length cn, .slice Al p.links.length cl, .slice Ad p.dests.length cd, .slice Ac p.checks.length cc]) ∧ PAt w' p p.proto p.cap p.k An p.nodes.length Al p.links.length Ad p.dests.length Ac p.checks.length ∧ Below w.heap.size w w' := by
  obtain ⟨p, vn, vl, vd, vc, hf, he, ho, hb⟩ := h
  obtain ⟨An, cn, rfl, _⟩ := own_form ho.nodes
  obtain ⟨Al, cl, rfl, _⟩ := own_form ho.links
  obtain ⟨hs, _, h2, _⟩ := ho.dests
  obtain ⟨Ad, cd, rfl, _⟩ := own_form h2
  obtain ⟨Ac, cc, rfl, _⟩ := own_form ho.checks
  exact ⟨p, An, cn, Al, cl, Ad, cd, Ac, cc, hf, he, ho.at_, hb⟩
set_option maxHeartbeats 8000000 in
set_option maxRecDepth 100000 in
theorem planTells_walk (A1 : Option Addr) (c1 : Nat) (l1 : List Int) (hwf1 : ∀ v ∈ l1, InI v) (hm1 : l1.length ≤ 9223372036854775807) (hc1 : l1.length ≤ c1) (hcm1 : c1 ≤ 9223372036854775807) (A2 : Option Addr) (c2 : Nat) (l2 : List Int) (hwf2 : ∀ v ∈ l2, InI v) (hm2 : l2.length ≤ 9223372036854775807) (hc2 : l2.length ≤ c2) (hcm2 : c2 ≤ 9223372036854775807) (name : ByteArray) (hname : name.size ≤ 140737488351232) (w : World) (hA1 : CellsAt w w.heap.size A1 (l1.map (Value.int .i64))) (hA2 : CellsAt w w.heap.size A2 (l2.map (Value.int .i64))) :
    Calls Tryd.prog 3 #[.slice A1 l1.length c1, .slice A2 l2.length c2, .string name] w fun e w' => e = .returned (.bool true) ∧ Below w.heap.size w w' := by
  obtain ⟨n1, hn1⟩ : ∃ n, l1.length = n := ⟨_, rfl⟩
  obtain ⟨n2, hn2⟩ : ∃ n, l2.length = n := ⟨_, rfl⟩
  rw [hn1] at hm1 hc1 ⊢
  rw [hn2] at hm2 hc2 ⊢
  have HN1 := Lib.hid hn1
  have HN2 := Lib.hid hn2
  obtain ⟨pn, hpn⟩ : ∃ p, netOf l1 = p := ⟨_, rfl⟩
  have HOKN : NetOk pn := hpn ▸ netOk l1
  have HPN := Lib.hid hpn
  clear hn1 hn2 hpn
  go_enter Tryd.func3, Tryd.ntmps3
  go_upto_region 3 with (first
    | (go_at_call 4; refine (awake3_any _).mono ?_; rintro e w1 ⟨rfl, hb1⟩; have hA2x := hA2.upw hb1)
    | (go_at_call 5; refine (Wild_any l2 A2 n2 c2 HN2.out hwf2 hm2 hc2 hcm2 _ hA2x).mono ?_; rintro e w2 hw2; obtain ⟨q, Anq, cnq, Alq, clq, Adq, cdq, Acq, ccq, hfq, rfl, hpq, hb2⟩ := hw2.forms; have hbu := hb1.trans (hb2.mono hb1.size)))
  have hbq := below_new w2 (.cells #[.int .i64 q.proto, .int .i64 q.cap, .int .i64 q.k, .slice Anq q.nodes.length cnq, .slice Alq q.links.length clq, .slice Adq q.dests.length cdq, .slice Acq q.checks.length ccq] 29)
  have KQ := Blk.new w2 29 #[.int .i64 q.proto, .int .i64 q.cap, .int .i64 q.k, .slice Anq q.nodes.length cnq, .slice Alq q.links.length clq, .slice Adq q.dests.length cdq, .slice Acq q.checks.length ccq]
  have hpq1 := hpq.up hbq
  have hu1 := hbu.trans (hbq.mono hbu.size)
  have E1 := KQ.up ((Below.refl _ _).drew)
  have hud := hu1.drew
  have hpqd := hpq1.up ((Below.refl _ _).drew)
  obtain ⟨a0, a1, a2, a3, a4, a5, a6⟩ := box7 KQ
  have hA1d := (hA1.upw hu1).upw ((Below.refl _ _).drew)
  go_region_held3 (fun w' => w'.cell? ⟨w2.heap.size, 0, none⟩ = some (.int .i64 q.proto) ∧ w'.cell? ⟨w2.heap.size, 1, none⟩ = some (.int .i64 q.cap) ∧ w'.cell? ⟨w2.heap.size, 2, none⟩ = some (.int .i64 q.k) ∧ w'.cell? ⟨w2.heap.size, 3, none⟩ = some (.slice Anq q.nodes.length cnq) ∧ w'.cell? ⟨w2.heap.size, 4, none⟩ = some (.slice Alq q.links.length clq) ∧ w'.cell? ⟨w2.heap.size, 5, none⟩ = some (.slice Adq q.dests.length cdq) ∧ w'.cell? ⟨w2.heap.size, 6, none⟩ = some (.slice Acq q.checks.length ccq)) (go_keep) (first
    | (go_at_call 5; refine (Wild_any l1 A1 n1 c1 HN1.out hwf1 hm1 hc1 hcm1 _ hA1d).mono ?_; rintro e w3 hw3; obtain ⟨p0, An0, cn0, Al0, cl0, Ad0, cd0, Ac0, cc0, hf0, rfl, hp0, hb3⟩ := hw3.forms; have E2 := E1.up hb3; obtain ⟨a0, a1, a2, a3, a4, a5, a6⟩ := box7 E2; have hA1e := hA1d.upw hb3; have hu3 := hud.trans (hb3.mono hud.size); have hpq3 := hpqd.up hb3)
    | (go_at_call 6; refine (Net_at pn l1 HPN A1 n1 c1 HN1.out hwf1 hm1 hc1 hcm1 _ hA1e).mono ?_; rintro e w4 ⟨An1, cn1, Al1, cl1, Ad1, cd1, Ac1, cc1, rfl, ho4, hb4⟩; have hp1 := ho4.at_; have E3 := E2.up hb4; obtain ⟨a0, a1, a2, a3, a4, a5, a6⟩ := box7 E3; have hu4 := hu3.trans (hb4.mono hu3.size); have hp04 := hp0.up hb4; have hpq4 := hpq3.up hb4))
  go_step
  go_wp2_with fail
  obtain ⟨gq, hgq⟩ : ∃ g, w2.heap.size = g := ⟨_, rfl⟩
  rw [hgq] at KQ E3 ⊢
  obtain ⟨ga, hga⟩ : ∃ g, w4.heap.size = g := ⟨_, rfl⟩
  obtain ⟨W, hW⟩ : ∃ W, w4.alloc (.cells #[.int .i64 p0.proto, .int .i64 p0.cap, .int .i64 p0.k, .slice An0 p0.nodes.length cn0, .slice Al0 p0.links.length cl0, .slice Ad0 p0.dests.length cd0, .slice Ac0 p0.checks.length cc0, .int .i64 pn.proto, .int .i64 pn.cap, .int .i64 pn.k, .slice An1 pn.nodes.length cn1, .slice Al1 pn.links.length cl1, .slice Ad1 pn.dests.length cd1, .slice Ac1 pn.checks.length cc1, .int .i64 q.proto, .int .i64 q.cap, .int .i64 q.k, .slice Anq q.nodes.length cnq, .slice Alq q.links.length clq, .slice Adq q.dests.length cdq, .slice Acq q.checks.length ccq] 29) = W := ⟨_, rfl⟩
  have KA := Blk.new w4 29 #[.int .i64 p0.proto, .int .i64 p0.cap, .int .i64 p0.k, .slice An0 p0.nodes.length cn0, .slice Al0 p0.links.length cl0, .slice Ad0 p0.dests.length cd0, .slice Ac0 p0.checks.length cc0, .int .i64 pn.proto, .int .i64 pn.cap, .int .i64 pn.k, .slice An1 pn.nodes.length cn1, .slice Al1 pn.links.length cl1, .slice Ad1 pn.dests.length cd1, .slice Ac1 pn.checks.length cc1, .int .i64 q.proto, .int .i64 q.cap, .int .i64 q.k, .slice Anq q.nodes.length cnq, .slice Alq q.links.length clq, .slice Adq q.dests.length cdq, .slice Acq q.checks.length ccq]
  rw [hga] at KA ⊢
  rw [hW] at KA ⊢
  have hbW : Below w4.heap.size w4 W := hW ▸ below_new w4 _
  have hq := hpq4.up hbW
  have EQ := E3.up hbW
  have huW := hu4.trans (hbW.mono hu4.size)
  have hAll : ∀ t : Nat, t < 3 → ∃ p An cn Al cl Ad cd Ac cc, PFine p ∧ PAt W p p.proto p.cap p.k An p.nodes.length Al p.links.length Ad p.dests.length Ac p.checks.length ∧ (W.cell? ⟨ga, t * 7, none⟩ = some (.int .i64 p.proto) ∧ W.cell? ⟨ga, t * 7 + 1, none⟩ = some (.int .i64 p.cap) ∧ W.cell? ⟨ga, t * 7 + 2, none⟩ = some (.int .i64 p.k) ∧ W.cell? ⟨ga, t * 7 + 3, none⟩ = some (.slice An p.nodes.length cn) ∧ W.cell? ⟨ga, t * 7 + 4, none⟩ = some (.slice Al p.links.length cl) ∧ W.cell? ⟨ga, t * 7 + 5, none⟩ = some (.slice Ad p.dests.length cd) ∧ W.cell? ⟨ga, t * 7 + 6, none⟩ = some (.slice Ac p.checks.length cc)) := by
    intro t ht
    rcases (show t = 0 ∨ t = 1 ∨ t = 2 by omega) with rfl | rfl | rfl
    · exact ⟨p0, An0, cn0, Al0, cl0, Ad0, cd0, Ac0, cc0, hf0, hp04.up hbW, KA.cell 0, KA.cell 1, KA.cell 2, KA.cell 3, KA.cell 4, KA.cell 5, KA.cell 6⟩
    · exact ⟨pn, An1, cn1, Al1, cl1, Ad1, cd1, Ac1, cc1, HOKN.fine, hp1.up hbW, KA.cell 7, KA.cell 8, KA.cell 9, KA.cell 10, KA.cell 11, KA.cell 12, KA.cell 13⟩
    · exact ⟨q, Anq, cnq, Alq, clq, Adq, cdq, Acq, ccq, hfq, hpq4.up hbW, KA.cell 14, KA.cell 15, KA.cell 16, KA.cell 17, KA.cell 18, KA.cell 19, KA.cell 20⟩
  have hgl := KA.lt
  clear KA hW hga hgq hp0 hp1 hpq hpq1 hpq3 hpq4 hp04 hbu hu1 hud hu3 hu4 hbW E1 E2 E3 KQ hA1d hA1e hA1 hA2x hA2 ho4 hb4 hb3 hw2 hw3 hb2 hb1 HOKN
  go_loopw [27] (fun s27 wr => ∃ t : Nat, t ≤ 3 ∧ s27 = .int .i64 (t : Nat) ∧ Below W.heap.size W wr) (fun s27 _ => 3 - (intOf s27).toNat)
  case atStart => exact ⟨0, by omega, rfl, Below.refl _ _⟩
  case round =>
    obtain ⟨t, ht, rfl, hbr⟩ := hrel
    by_cases hlt : t < 3
    · obtain ⟨p, An, cn, Al, cl, Ad, cd, Ac, cc, hf, hp, d0, d1, d2, d3, d4, d5, d6⟩ := hAll t hlt
      replace hp := hp.up hbr
      replace d0 := (hbr.cell hgl).trans d0
      replace d1 := (hbr.cell hgl).trans d1
      replace d2 := (hbr.cell hgl).trans d2
      replace d3 := (hbr.cell hgl).trans d3
      replace d4 := (hbr.cell hgl).trans d4
      replace d5 := (hbr.cell hgl).trans d5
      replace d6 := (hbr.cell hgl).trans d6
      have hqr := hq.up hbr
      have EQr := EQ.up hbr
      have t0 : (0 : Int) ≤ (t : Int) := by omega
      have t1 : (t : Int) < 3 := by omega
      obtain ⟨s, hs⟩ : ∃ s, printS p = s := ⟨_, rfl⟩
      have HS := Lib.hid hs
      obtain ⟨pe, he⟩ : ∃ s, printE p = s := ⟨_, rfl⟩
      have HE := Lib.hid he
      obtain ⟨br, hbr2⟩ : ∃ s, rightB p = s := ⟨_, rfl⟩
      have HB := Lib.hid hbr2
      obtain ⟨bs, hbs⟩ : ∃ s, sameB p q = s := ⟨_, rfl⟩
      have HSM := Lib.hid hbs
      clear hs he hbr2 hbs
      have hbn := below_new wr (.cells #[.int .i64 p.proto, .int .i64 p.cap, .int .i64 p.k, .slice An p.nodes.length cn, .slice Al p.links.length cl, .slice Ad p.dests.length cd, .slice Ac p.checks.length cc] 29)
      have K1 := Blk.new wr 29 #[.int .i64 p.proto, .int .i64 p.cap, .int .i64 p.k, .slice An p.nodes.length cn, .slice Al p.links.length cl, .slice Ad p.dests.length cd, .slice Ac p.checks.length cc]
      have EQ1 := EQr.up hbn
      have hp1 := hp.up hbn
      have hq1 := hqr.up hbn
      have hu1 := hbr.trans (hbn.mono hbr.size)
      obtain ⟨a0, a1, a2, a3, a4, a5, a6⟩ := box7 K1
      go_upto_region 8 with (first
        | (go_at_call 7; (with_reducible refine (Print_w s pe HS HE hf hp1).mono ?_); rintro e y1 ⟨rfl, hy1⟩; have EQ2 := EQ1.up hy1; have K2 := K1.up hy1; have hp2 := hp1.up hy1; have hq2 := hq1.up hy1; have hu2 := hu1.trans (hy1.mono hu1.size); obtain ⟨a0, a1, a2, a3, a4, a5, a6⟩ := box7 K2)
        | (go_at_call 8; (with_reducible refine (RefPrint_w s pe HS HE hf hp2).mono ?_); rintro e y2 ⟨rfl, hy2⟩; have EQ3 := EQ2.up hy2; have K3 := K2.up hy2; have hp3 := hp2.up hy2; have hq3 := hq2.up hy2; have hu3 := hu2.trans (hy2.mono hu2.size); obtain ⟨a0, a1, a2, a3, a4, a5, a6⟩ := box7 K3; obtain ⟨b0, b1, b2, b3, b4, b5, b6⟩ := box7 EQ3))
      have hpd := hp3.up ((Below.refl _ _).drew)
      have hqd := hq3.up ((Below.refl _ _).drew)
      have F1 := K3.up ((Below.refl _ _).drew)
      have F2 := EQ3.up ((Below.refl _ _).drew)
      have hud := hu3.drew
      clear hp hp1 hp2 hqr hq1 hq2 K1 K2 EQ1 EQ2 EQr hu1 hu2 hy1 hy2 hbn d0 d1 d2 d3 d4 d5 d6
      go_region_held3 (fun w' => (w'.cell? ⟨wr.heap.size, 0, none⟩ = some (.int .i64 p.proto) ∧ w'.cell? ⟨wr.heap.size, 1, none⟩ = some (.int .i64 p.cap) ∧ w'.cell? ⟨wr.heap.size, 2, none⟩ = some (.int .i64 p.k) ∧ w'.cell? ⟨wr.heap.size, 3, none⟩ = some (.slice An p.nodes.length cn) ∧ w'.cell? ⟨wr.heap.size, 4, none⟩ = some (.slice Al p.links.length cl) ∧ w'.cell? ⟨wr.heap.size, 5, none⟩ = some (.slice Ad p.dests.length cd) ∧ w'.cell? ⟨wr.heap.size, 6, none⟩ = some (.slice Ac p.checks.length cc)) ∧ w'.cell? ⟨gq, 0, none⟩ = some (.int .i64 q.proto) ∧ w'.cell? ⟨gq, 1, none⟩ = some (.int .i64 q.cap) ∧ w'.cell? ⟨gq, 2, none⟩ = some (.int .i64 q.k) ∧ w'.cell? ⟨gq, 3, none⟩ = some (.slice Anq q.nodes.length cnq) ∧ w'.cell? ⟨gq, 4, none⟩ = some (.slice Alq q.links.length clq) ∧ w'.cell? ⟨gq, 5, none⟩ = some (.slice Adq q.dests.length cdq) ∧ w'.cell? ⟨gq, 6, none⟩ = some (.slice Acq q.checks.length ccq)) (go_keep) (first
        | (go_at_call 9; (with_reducible refine (Right_is br HB hf.small hpd).mono ?_); rintro e z1 ⟨rfl, hz1⟩; replace F1 := F1.up hz1; replace F2 := F2.up hz1; replace hpd := hpd.up hz1; replace hqd := hqd.up hz1; have hv1 := hud.trans (hz1.mono hud.size); obtain ⟨a0, a1, a2, a3, a4, a5, a6⟩ := box7 F1; obtain ⟨b0, b1, b2, b3, b4, b5, b6⟩ := box7 F2)
        | (go_at_call 10; (with_reducible refine (RefRight_is br HB hf.small hpd).mono ?_); rintro e z2 ⟨rfl, hz2⟩; replace F1 := F1.up hz2; replace F2 := F2.up hz2; replace hpd := hpd.up hz2; replace hqd := hqd.up hz2; have hv2 := hv1.trans (hz2.mono hv1.size); obtain ⟨a0, a1, a2, a3, a4, a5, a6⟩ := box7 F1; obtain ⟨b0, b1, b2, b3, b4, b5, b6⟩ := box7 F2)
        | (go_at_call 11; (with_reducible refine (Same_is bs HSM hf.small hfq.small hpd hqd).mono ?_); rintro e z3 ⟨rfl, hz3⟩; replace F1 := F1.up hz3; replace F2 := F2.up hz3; replace hpd := hpd.up hz3; replace hqd := hqd.up hz3; have hv3 := hv2.trans (hz3.mono hv2.size); obtain ⟨a0, a1, a2, a3, a4, a5, a6⟩ := box7 F1; obtain ⟨b0, b1, b2, b3, b4, b5, b6⟩ := box7 F2)
        | (go_at_call 12; (with_reducible refine (RefSame_is bs HSM hf.small hfq.small hpd hqd).mono ?_); rintro e z4 ⟨rfl, hz4⟩; replace F1 := F1.up hz4; replace F2 := F2.up hz4; replace hpd := hpd.up hz4; replace hqd := hqd.up hz4; have hv4 := hv3.trans (hz4.mono hv3.size); obtain ⟨a0, a1, a2, a3, a4, a5, a6⟩ := box7 F1; obtain ⟨b0, b1, b2, b3, b4, b5, b6⟩ := box7 F2))
      go_step
      clear a0 a1 a2 a3 a4 a5 a6 b0 b1 b2 b3 b4 b5 b6 F2 hqd
      go_wp2_with fail
      obtain ⟨gp, hgp⟩ : ∃ g, wr.heap.size = g := ⟨_, rfl⟩
      rw [hgp] at F1 ⊢
      obtain ⟨gn, hgn⟩ : ∃ g, z4.heap.size = g := ⟨_, rfl⟩
      obtain ⟨Z, hZ⟩ : ∃ Z, z4.alloc (.cells #[.string name, .string ⟨#[97]⟩, .string ⟨#[120]⟩, .string ⟨#[103]⟩] 9) = Z := ⟨_, rfl⟩
      have KN := Blk.new z4 9 #[.string name, .string ⟨#[97]⟩, .string ⟨#[120]⟩, .string ⟨#[103]⟩]
      rw [hgn] at KN ⊢
      rw [hZ] at KN ⊢
      have hbZ : Below z4.heap.size z4 Z := hZ ▸ below_new z4 _
      have hpZ := hpd.up hbZ
      have FZ := F1.up hbZ
      have huZ := hv4.trans (hbZ.mono hv4.size)
      have hNm : ∀ i : Nat, i < 4 → ∃ x, Z.cell? ⟨gn, i, none⟩ = some (.string x) := by
        intro i hi
        rcases (show i = 0 ∨ i = 1 ∨ i = 2 ∨ i = 3 by omega) with rfl | rfl | rfl | rfl
        · exact ⟨_, KN.cell 0⟩
        · exact ⟨_, KN.cell 1⟩
        · exact ⟨_, KN.cell 2⟩
        · exact ⟨_, KN.cell 3⟩
      have hgnl := KN.lt
      clear KN hgn hZ hgp hbZ hpd F1
      go_loopw [68] (fun s68 wr => ∃ i : Nat, i ≤ 4 ∧ s68 = .int .i64 (i : Nat) ∧ Below Z.heap.size Z wr) (fun s68 _ => 4 - (intOf s68).toNat)
      case atStart => exact ⟨0, by omega, rfl, Below.refl _ _⟩
      case round =>
        obtain ⟨i, hi, rfl, hbi⟩ := hrel
        by_cases hli : i < 4
        · obtain ⟨x, hx⟩ := hNm i hli
          replace hx := (hbi.cell hgnl).trans hx
          have i0 : (0 : Int) ≤ (i : Int) := by omega
          have i1 : (i : Int) < 4 := by omega
          obtain ⟨v, hv⟩ : ∃ v, ixB (nameIs x) p.nodes = v := ⟨_, rfl⟩
          have HV := Lib.hid hv
          obtain ⟨d, hd⟩ : ∃ v, ixB (destIs x) p.dests = v := ⟨_, rfl⟩
          have HD := Lib.hid hd
          clear hv hd
          have hpi := (hpZ.up hbi).up ((Below.refl _ _).drew)
          have G1 := (FZ.up hbi).up ((Below.refl _ _).drew)
          have hui := hbi.drew
          obtain ⟨a0, a1, a2, a3, a4, a5, a6⟩ := box7 (FZ.up hbi)
          go_wp2_with fail
          go_region_held3 (fun w' => w'.cell? ⟨gp, 0, none⟩ = some (.int .i64 p.proto) ∧ w'.cell? ⟨gp, 1, none⟩ = some (.int .i64 p.cap) ∧ w'.cell? ⟨gp, 2, none⟩ = some (.int .i64 p.k) ∧ w'.cell? ⟨gp, 3, none⟩ = some (.slice An p.nodes.length cn) ∧ w'.cell? ⟨gp, 4, none⟩ = some (.slice Al p.links.length cl) ∧ w'.cell? ⟨gp, 5, none⟩ = some (.slice Ad p.dests.length cd) ∧ w'.cell? ⟨gp, 6, none⟩ = some (.slice Ac p.checks.length cc)) (go_keep) (first
            | (go_at_call 13; (with_reducible refine (Node_is p x v HV hpi.nodes (Lib.hid rfl) hf.small.ln).mono ?_); rintro e z1 ⟨rfl, hz1⟩; replace G1 := G1.up hz1; replace hpi := hpi.up hz1; have hw1 := hui.trans (hz1.mono hui.size); obtain ⟨a0, a1, a2, a3, a4, a5, a6⟩ := box7 G1)
            | (go_at_call 14; (with_reducible refine (RefNode_is x v HV hf.small hpi).mono ?_); rintro e z2 ⟨rfl, hz2⟩; replace G1 := G1.up hz2; replace hpi := hpi.up hz2; have hw2 := hw1.trans (hz2.mono hw1.size); obtain ⟨a0, a1, a2, a3, a4, a5, a6⟩ := box7 G1)
            | (go_at_call 15; (with_reducible refine (Dest_is p x d HD hpi.dests (Lib.hid rfl) hf.small.ld).mono ?_); rintro e z3 ⟨rfl, hz3⟩; replace G1 := G1.up hz3; replace hpi := hpi.up hz3; have hw3 := hw2.trans (hz3.mono hw2.size); obtain ⟨a0, a1, a2, a3, a4, a5, a6⟩ := box7 G1)
            | (go_at_call 16; (with_reducible refine (RefDest_is x d HD hf.small hpi).mono ?_); rintro e z4 ⟨rfl, hz4⟩; replace G1 := G1.up hz4; replace hpi := hpi.up hz4; have hw4 := hw3.trans (hz4.mono hw3.size); obtain ⟨a0, a1, a2, a3, a4, a5, a6⟩ := box7 G1))
          go_step
          go_wp2_with fail
          exact ⟨⟨i + 1, by omega, by go_num, hw4⟩, by simp [intOf]; omega⟩
        · have hi4 : i = 4 := by omega
          subst hi4
          go_wp2_with fail
          go_roundw
          case rel => exact ⟨t + 1, by omega, by go_num, huZ.trans (hbi.mono huZ.size)⟩
          case measure => simp [intOf]; omega
    · have ht3 : t = 3 := by omega
      subst ht3
      go_wp2_with fail
      go_ret
      exact ⟨rfl, huW.trans (hbr.mono huW.size)⟩
end Go.Proofs.YtdmilbfdiebjgaaDoor
