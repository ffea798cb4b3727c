/-
  PlanTurned: the walk.
-/
import Derived.Test.YtlfapmfhdagikaaDoorPlZd
import Derived.Deep.RegionHeld3
import Derived.Deep.CutBlock
import Derived.RegionTactic
import Derived.BigRegion
import Derived.ChangeAlike
import Derived.Deep.QuietTactic
import Derived.BigQuiet
namespace Go.Proofs.YtlfapmfhdagikaaDoor
open Go.RowKit
set_option linter.unusedVariables false

/-- What the switch leaves: the other network, in memory. -/
structure TurnSt (W2 : World) (gq : Nat) (p q : PPlan) (sm : Bool) (An Al Ad Ac : Option Addr) (ln cn ll cl ld cd lc cc : Nat) (w : World) : Prop where
  right : Hid (rightB q = true)
  small : PSmall q
  pq : Hid (sameB p q = sm)
  qp : Hid (sameB q p = sm)
  pat : PAt w q q.proto q.cap q.k An ln Al ll Ad ld Ac lc
  blk : Blk w gq 29 #[.int .i64 q.proto, .int .i64 q.cap, .int .i64 q.k, .slice An ln cn, .slice Al ll cl, .slice Ad ld cd, .slice Ac lc cc]
  below : Below W2.heap.size W2 w
theorem HSt.turn {W2 w : World} {gq : Nat} {p q : PPlan} {sm : Bool} {vn vl vd vc : Value} (h : HSt W2 gq q vn vl vd vc w) (hr : Hid (rightB q = true)) (hs : PSmall q) (h1 : Hid (sameB p q = sm)) (h2 : Hid (sameB q p = sm)) :
    ∃ An Al Ad Ac ln cn ll cl ld cd lc cc, TurnSt W2 gq p q sm An Al Ad Ac ln cn ll cl ld cd lc cc w := by
  obtain ⟨An, ln, cn, Al, ll, cl, Ad, ld, cd, Ac, lc, cc, rfl, rfl, rfl, rfl⟩ := h.forms
  exact ⟨An, Al, Ad, Ac, ln, cn, ll, cl, ld, cd, lc, cc, hr, hs, h1, h2, h.pat, h.blk, h.below⟩
set_option maxHeartbeats 4000000 in
set_option maxRecDepth 100000 in
theorem planTurned_walk (A : Option Addr) (c : Nat) (l : List Int) (hwf : ∀ v ∈ l, InI v) (hm : l.length ≤ 9223372036854775807) (hc : l.length ≤ c) (hcm : c ≤ 9223372036854775807) (a : Int) (ha : InI a) (b : Int) (hb : InI b) (w : World) (hA : CellsAt w w.heap.size A (l.map (Value.int .i64))) :
    Calls Tryd.prog 10 #[.slice A l.length c, .int .i64 a, .int .i64 b] w fun e w' => e = .returned (.bool true) ∧ Below w.heap.size w w' := by
  obtain ⟨p, hp⟩ : ∃ p, netOf l = p := ⟨_, rfl⟩
  have hk := netOk l
  have hf := netFine l
  rw [hp] at hk hf
  have HP := Lib.hid hp
  have HM := Lib.hid hwf
  clear hp hwf
  obtain ⟨n, hn⟩ : ∃ n, l.length = n := ⟨_, rfl⟩
  rw [hn] at hm hc ⊢
  have HLEN := Lib.hid hn
  clear hn
  obtain ⟨v, hv, bv⟩ := pickN_nat a 3 (by omega)
  have HPK : Hid (pickN a 3 = (v : Int)) := Lib.hid (show pickN a 3 = (v : Int) from hv)
  clear hv
  go_enter Tryd.func10, Tryd.ntmps10
  go_upto_block 0 with (first
    | (go_at_call 11; refine (awake3_any _).mono ?_; rintro e w1 ⟨rfl, hb1⟩; have hA1 := (hA.below hb1).more hb1.size)
    | (go_at_call 13; (with_reducible refine (Net_at p l HP A n c HLEN.out HM.out hm hc hcm _ hA2).mono ?_); rintro e w3 ⟨An2, cn2, Al2, cl2, Ad2, cd2, Ac2, cc2, rfl, ho2, hb3⟩; have hH0 := HSt.start ho2 hb3)
    | (go_at_call 13; (with_reducible refine (Net_at p l HP A n c HLEN.out HM.out hm hc hcm _ hA1).mono ?_); rintro e w2 ⟨An, cn, Al, cl, Ad, cd, Ac, cc, rfl, ho, hb2⟩; have hA2 := (hA1.upw hb2).upw (below_new w2 (.cells #[.int .i64 p.proto, .int .i64 p.cap, .int .i64 p.k, .slice An p.nodes.length cn, .slice Al p.links.length cl, .slice Ad p.dests.length cd, .slice Ac p.checks.length cc] 29)))
    | (go_at_call 25; (with_reducible refine (pick3_is _ _ _ ha (by omega) (by omega) HPK _).mono ?_); rintro e w4 ⟨rfl, rfl⟩))
  have hat := (ho.at_).up (below_new w2 (.cells #[.int .i64 p.proto, .int .i64 p.cap, .int .i64 p.k, .slice An p.nodes.length cn, .slice Al p.links.length cl, .slice Ad p.dests.length cd, .slice Ac p.checks.length cc] 29))
  have hbl := Blk.new w2 29 #[.int .i64 p.proto, .int .i64 p.cap, .int .i64 p.k, .slice An p.nodes.length cn, .slice Al p.links.length cl, .slice Ad p.dests.length cd, .slice Ac p.checks.length cc]
  have hbb := (hb1.trans (hb2.mono hb1.size)).trans ((below_new w2 (.cells #[.int .i64 p.proto, .int .i64 p.cap, .int .i64 p.k, .slice An p.nodes.length cn, .slice Al p.links.length cl, .slice Ad p.dests.length cd, .slice Ac p.checks.length cc] 29)).mono (Nat.le_trans hb1.size hb2.size))
  generalize hW2 : w2.alloc (.cells #[.int .i64 p.proto, .int .i64 p.cap, .int .i64 p.k, .slice An p.nodes.length cn, .slice Al p.links.length cl, .slice Ad p.dests.length cd, .slice Ac p.checks.length cc] 29) = W2 at hat hbl hbb hH0 hb3 hA2 ho2
  generalize hW3 : w3.alloc (.cells #[.int .i64 p.proto, .int .i64 p.cap, .int .i64 p.k, .slice An2 p.nodes.length cn2, .slice Al2 p.links.length cl2, .slice Ad2 p.dests.length cd2, .slice Ac2 p.checks.length cc2] 29) = W3 at hH0 ⊢
  clear hW2 hW3 ho ho2 hb1 hb2 hA1 hA2 hA
  obtain ⟨gp, hgp⟩ : ∃ g, w2.heap.size = g := ⟨_, rfl⟩
  obtain ⟨gq, hgq⟩ : ∃ g, w3.heap.size = g := ⟨_, rfl⟩
  rw [hgp] at hbl ⊢
  rw [hgq] at hH0 ⊢
  clear hgp hgq
  go_cut [10] (fun s10 wx => ∃ (q : PPlan) (sm : Bool) (An Al Ad Ac : Option Addr) (ln cn ll cl ld cd lc cc : Nat), s10 = .bool sm ∧ TurnSt W2 gq p q sm An Al Ad Ac ln cn ll cl ld cd lc cc wx)
  case first =>
    have hv3 : v = 0 ∨ v = 1 ∨ v = 2 := by omega
    have hsm := hk.small
    clear hbb HPK bv
    rcases hv3 with h5 | h5 | h5
    · subst h5
      have P4 := (hbl.up hH0.below).cell 4
      by_cases hl1 : p.links.length ≤ 1
      · have hl2 : ¬ (1 : Int) < (p.links.length : Int) := by omega
        have hl3 : ¬ 1 < p.links.length := by omega
        have HT := Lib.hid (hH0.turn (p := p) hk.right hsm (same_of_eq rfl).1 (same_of_eq rfl).2)
        clear hH0 hat hbl
        go_wp2_with fail
        go_meet
        obtain ⟨Bn, Bl, Bd, Bc, mn, dn, ml, dl, md, dd, mc, dc, h⟩ := HT.out
        exact ⟨_, true, Bn, Bl, Bd, Bc, mn, dn, ml, dl, md, dd, mc, dc, rfl, h⟩
      · obtain ⟨i, hi, bi⟩ := pickN_nat b (p.links.length - 1) (by omega)
        have HPI : Hid (pickN b ((p.links.length : Int) - 1) = (i : Int)) := Lib.hid (by rw [← hi, Int.ofNat_sub (by omega)]; rfl)
        obtain ⟨x, hx⟩ : ∃ x, p.links[i]? = some x := ⟨_, List.getElem?_eq_getElem (by omega)⟩
        obtain ⟨y, hy⟩ : ∃ y, p.links[i + 1]? = some y := ⟨_, List.getElem?_eq_getElem (by omega)⟩
        have hne : x ≠ y := fun e => by have := hf.links.apart hx hy (by omega); rw [(linkIs_iff _ _ _).2 ⟨by rw [e], by rw [e]⟩] at this; cases this
        have hsame := same_of_ne (p := p) (q := { p with links := turned p.links i x y }) (fun e => turned_ne hx hy hne (congrArg PPlan.links e))
        have hr := right_turnLinks hk.right hf hk.links1 hx hy
        have hs2 : PSmall { p with links := turned p.links i x y } := ⟨hsm.nodes, hsm.dests, hsm.ln, by show (turned p.links i x y).length ≤ 4096; rw [turned_len]; exact hsm.ll, hsm.ld, hsm.lc⟩
        obtain ⟨gl, rfl, hgl, c0, c1, c2⟩ := hat.links.link hx
        obtain ⟨gl', hgl', _, c3, c4, c5⟩ := hat.links.link hy
        injection hgl' with hgl'
        injection hgl' with hgl'
        subst hgl'
        obtain ⟨gm, rfl, _, d0, d1, d2⟩ := hH0.pat.links.link hx
        obtain ⟨gm', hgm', _, d3, d4, d5⟩ := hH0.pat.links.link hy
        injection hgm' with hgm'
        injection hgm' with hgm'
        subst hgm'
        have hlow : gl < W2.heap.size := hgl
        have k0 := (hH0.below.cell (p := ⟨gl, i * 3, none⟩) hlow).trans c0
        have k1 := (hH0.below.cell (p := ⟨gl, i * 3 + 1, none⟩) hlow).trans c1
        have k2 := (hH0.below.cell (p := ⟨gl, i * 3 + 2, none⟩) hlow).trans c2
        have k3 := (hH0.below.cell (p := ⟨gl, (i + 1) * 3, none⟩) hlow).trans c3
        have k4 := (hH0.below.cell (p := ⟨gl, (i + 1) * 3 + 1, none⟩) hlow).trans c4
        have k5 := (hH0.below.cell (p := ⟨gl, (i + 1) * 3 + 2, none⟩) hlow).trans c5
        have f0 := fun j => own_frozen hH0.own.links j
        have q4 := hH0.blk.cell 4
        have HH := Lib.hid ((hH0.linkSet (i := i) (by omega) y).linkSet (i := i + 1) (by show i + 1 < (p.links.set i y).length; rw [List.length_set]; omega) x)
        have b1 : (1 : Int) < (p.links.length : Int) := by omega
        have b2 : (0 : Int) ≤ (i : Int) := by omega
        have b3 : (i : Int) < (p.links.length : Int) := by omega
        have b4 : (i : Int) + 1 < (p.links.length : Int) := by omega
        have b5 : (0 : Int) ≤ (i : Int) + 1 := by omega
        have b6 : (p.links.length : Int) ≤ 9 := by have := hk.links1; omega
        have b7 : i < p.links.length := by omega
        have b8 : i + 1 < p.links.length := by omega
        have HSA1 := hsame.1
        have h1st := hH0.linkSet (i := i) (by omega) y
        have r4 := h1st.blk.cell 4
        have hgx : (p.links.set i y)[i + 1]? = some y := by rw [List.getElem?_set_ne (by omega)]; exact hy
        obtain ⟨gm', hgm', _, e3, e4, e5⟩ := h1st.pat.links.link hgx
        injection hgm' with hgm'
        injection hgm' with hgm'
        subst hgm'
        have f1 := fun j => own_frozen h1st.own.links j
        have ww := (IntWalk.i64_in ((i : Int) + 1) (by omega) : IntKind.i64.wrap ((i : Int) + 1) = (i : Int) + 1)
        have HSA2 := hsame.2
        clear hi hx hy hne hsame hat hbl hH0 h1st hgx c0 c1 c2 c3 c4 c5 hl1
        go_upto_region 13 with (go_at_call 25; (with_reducible refine (pick3_is _ _ _ hb (by omega) (by omega) HPI _).mono ?_); rintro e w4 ⟨rfl, rfl⟩)
        go_region
        have HT := Lib.hid (HSt.turn (p := p) (q := { p with links := turned p.links i x y }) (HH.out.up ((Below.refl _ _).drew)) hr hs2 HSA1 HSA2)
        clear HH r4 q4 e3 e4 e5 k0 k1 k2 k3 k4 k5 d0 d1 d2 d3 d4 d5 f0 f1 ww hr HSA1 HSA2
        go_wp2_with fail
        go_meet
        obtain ⟨Bn, Bl, Bd, Bc, mn, dn, ml, dl, md, dd, mc, dc, h⟩ := HT.out
        exact ⟨_, false, Bn, Bl, Bd, Bc, mn, dn, ml, dl, md, dd, mc, dc, rfl, h⟩
    · subst h5
      have P5 := (hbl.up hH0.below).cell 5
      by_cases hl1 : p.dests.length ≤ 1
      · have hl2 : ¬ (1 : Int) < (p.dests.length : Int) := by omega
        have hl3 : ¬ 1 < p.dests.length := by omega
        have HT := Lib.hid (hH0.turn (p := p) hk.right hsm (same_of_eq rfl).1 (same_of_eq rfl).2)
        clear hH0 hat hbl
        go_wp2_with fail
        go_meet
        obtain ⟨Bn, Bl, Bd, Bc, mn, dn, ml, dl, md, dd, mc, dc, h⟩ := HT.out
        exact ⟨_, true, Bn, Bl, Bd, Bc, mn, dn, ml, dl, md, dd, mc, dc, rfl, h⟩
      · have hd1 := hk.dests1
        have hlen : p.dests.length = 2 := by omega
        obtain ⟨d, e, hde⟩ : ∃ d e, p.dests = [d, e] := by
          match hp : p.dests, hlen with
          | [d, e], _ => exact ⟨d, e, rfl⟩
        have hr := right_turnDests hk.right hf hde
        have hnn : e ≠ d := fun h => by
          have e1 := (hf.dests 0 d (by rw [hde]; rfl)).1
          have e2 := (hf.dests 1 e (by rw [hde]; rfl)).1
          rw [h, e1] at e2
          revert e2
          decide
        have hsame := same_of_ne (p := p) (q := { p with dests := [e, d] }) (fun h => by have := congrArg PPlan.dests h; dsimp only at this; rw [hde] at this; injection this with h1 _; exact hnn h1)
        have hs2 : PSmall { p with dests := [e, d] } := ⟨hsm.nodes, fun x hx => hsm.dests x (by rw [hde]; simp only [List.mem_cons, List.not_mem_nil, or_false] at hx ⊢; exact hx.symm), hsm.ln, hsm.ll, by show ([e, d] : List PDest).length ≤ 4096; simp, hsm.lc⟩
        obtain ⟨hs, t1, t2, t3⟩ := hat.dests
        rw [hde] at t1 t2 t3
        obtain ⟨h0, h1, hhs⟩ : ∃ a b, hs = [a, b] := by
          match hs, t1 with
          | [a, b], _ => exact ⟨a, b, rfl⟩
        subst hhs
        obtain ⟨gl, rfl, hgl, hcl⟩ := t2 (by simp [destC])
        have hlow : gl < W2.heap.size := hgl
        have k0 := (hH0.below.cell (p := ⟨gl, 0, none⟩) hlow).trans (hcl 0 _ rfl)
        have k1 := (hH0.below.cell (p := ⟨gl, 1, none⟩) hlow).trans (hcl 1 _ rfl)
        have k2 := (hH0.below.cell (p := ⟨gl, 2, none⟩) hlow).trans (hcl 2 _ rfl)
        have k3 := (hH0.below.cell (p := ⟨gl, 3, none⟩) hlow).trans (hcl 3 _ rfl)
        dsimp only at k0 k1 k2 k3
        obtain ⟨gm, Am, cm, rfl, _, d0, d1, _⟩ := hH0.pat.dests.dest (k := 0) (d := d) (by rw [hde]; rfl)
        obtain ⟨gm', Am', cm', hgm', _, d2, d3, _⟩ := hH0.pat.dests.dest (k := 1) (d := e) (by rw [hde]; rfl)
        injection hgm' with hgm'
        injection hgm' with hgm'
        subst hgm'
        obtain ⟨hq, u1, u2, u3⟩ := hH0.own.dests
        have d0' : W3.cell? ⟨gm, 0, none⟩ = some (.string d.name) := by simpa using d0
        have d1' : W3.cell? ⟨gm, 1, none⟩ = some (.slice Am d.orig.length cm) := by simpa using d1
        have d2' : W3.cell? ⟨gm, 2, none⟩ = some (.string e.name) := by simpa using d2
        have d3' : W3.cell? ⟨gm, 3, none⟩ = some (.slice Am' e.orig.length cm') := by simpa using d3
        have HH := Lib.hid (hH0.destsTurn hde (t3 0 d h0 rfl rfl) (t3 1 e h1 rfl rfl))
        obtain ⟨o1, g1⟩ := u2.stored 0 (.string e.name)
        obtain ⟨o2, g2⟩ := o1.stored 1 (.slice h1.1 e.orig.length h1.2)
        have r5 := (hH0.blk.grown (grown_trans g1 g2) (fun e => own_blk_ne u2 hH0.blk (by decide) e.symm)).cell 5
        have f0 := fun j => own_frozen u2 j
        have f1 := fun j => own_frozen o2 j
        have r2 := o2.cellAt 2 (by omega)
        rw [List.getElem?_set_ne (by omega), List.getElem?_set_ne (by omega), ← u2.cellAt 2 (by omega), d2'] at r2
        have r3 := o2.cellAt 3 (by omega)
        rw [List.getElem?_set_ne (by omega), List.getElem?_set_ne (by omega), ← u2.cellAt 3 (by omega), d3'] at r3
        have q5 := hH0.blk.cell 5
        have b1 : (1 : Int) < (p.dests.length : Int) := by omega
        have b2 : 1 < p.dests.length := by omega
        have b3 : (0 : Int) < (p.dests.length : Int) := by omega
        have b4 : 0 < p.dests.length := by omega
        have HSA1 := hsame.1
        have HSA2 := hsame.2
        clear d0 d1 d2 d3 g1 g2 o1 o2 u1 u2 u3 hnn hsame hde hcl t1 t2 t3 hat hbl hH0 hl1 hlen
        go_upto_region 17 with fail
        go_region
        have HG := Lib.hid (TurnSt.mk (W2 := W2) (gq := gq) (p := p) (q := { p with dests := [e, d] }) (sm := false) (cn := cn2) (cl := cl2) (cd := cd2) (cc := cc2) hr hs2 HSA1 HSA2 (HH.out.1.up ((Below.refl _ _).drew)) (HH.out.2.1.up ((Below.refl _ _).drew)) HH.out.2.2.drew)
        clear HH r5 r2 r3 q5 f0 f1 d0' d1' d2' d3' k0 k1 k2 k3 hr HSA1 HSA2
        go_wp2_with fail
        go_meet
        exact ⟨_, false, _, _, _, _, _, _, _, _, _, _, _, _, rfl, HG.out⟩
    · subst h5
      have P4 := (hbl.up hH0.below).cell 6
      by_cases hl1 : p.checks.length ≤ 1
      · have hl2 : ¬ (1 : Int) < (p.checks.length : Int) := by omega
        have hl3 : ¬ 1 < p.checks.length := by omega
        have HT := Lib.hid (hH0.turn (p := p) hk.right hsm (same_of_eq rfl).1 (same_of_eq rfl).2)
        clear hH0 hat hbl
        go_wp2_with fail
        go_meet
        obtain ⟨Bn, Bl, Bd, Bc, mn, dn, ml, dl, md, dd, mc, dc, h⟩ := HT.out
        exact ⟨_, true, Bn, Bl, Bd, Bc, mn, dn, ml, dl, md, dd, mc, dc, rfl, h⟩
      · obtain ⟨i, hi, bi⟩ := pickN_nat b (p.checks.length - 1) (by omega)
        have HPI : Hid (pickN b ((p.checks.length : Int) - 1) = (i : Int)) := Lib.hid (by rw [← hi, Int.ofNat_sub (by omega)]; rfl)
        obtain ⟨x, hx⟩ : ∃ x, p.checks[i]? = some x := ⟨_, List.getElem?_eq_getElem (by omega)⟩
        obtain ⟨y, hy⟩ : ∃ y, p.checks[i + 1]? = some y := ⟨_, List.getElem?_eq_getElem (by omega)⟩
        obtain ⟨sm, hsm2⟩ : ∃ sm, checkEq x y = sm := ⟨_, rfl⟩
        have hsame : Hid (sameB p { p with checks := turned p.checks i x y } = sm) ∧ Hid (sameB { p with checks := turned p.checks i x y } p = sm) := by
          cases sm
          · exact same_of_ne (fun e => turned_ne hx hy (fun e2 => by rw [(checkEq_iff x y).2 e2] at hsm2; cases hsm2) (congrArg PPlan.checks e))
          · have e2 := (checkEq_iff x y).1 hsm2
            subst e2
            exact same_of_eq (by rw [turned_same hx hy])
        have hrun := check_eql x y sm (Lib.hid hsm2)
        clear hsm2
        have hr := right_turnChecks hk.right hx hy
        have hs2 : PSmall { p with checks := turned p.checks i x y } := ⟨hsm.nodes, hsm.dests, hsm.ln, hsm.ll, hsm.ld, by show (turned p.checks i x y).length ≤ 4096; rw [turned_len]; exact hsm.lc⟩
        obtain ⟨gl, rfl, hgl, c0, c1, c2, c6, c7⟩ := hat.checks.check hx
        obtain ⟨gl', hgl', _, c3, c4, c5, c8, c9⟩ := hat.checks.check hy
        injection hgl' with hgl'
        injection hgl' with hgl'
        subst hgl'
        obtain ⟨gm, rfl, _, d0, d1, d2, d6, d7⟩ := hH0.pat.checks.check hx
        obtain ⟨gm', hgm', _, d3, d4, d5, d8, d9⟩ := hH0.pat.checks.check hy
        injection hgm' with hgm'
        injection hgm' with hgm'
        subst hgm'
        have hlow : gl < W2.heap.size := hgl
        have k0 := (hH0.below.cell (p := ⟨gl, i * 5, none⟩) hlow).trans c0
        have k1 := (hH0.below.cell (p := ⟨gl, i * 5 + 1, none⟩) hlow).trans c1
        have k2 := (hH0.below.cell (p := ⟨gl, i * 5 + 2, none⟩) hlow).trans c2
        have k3 := (hH0.below.cell (p := ⟨gl, (i + 1) * 5, none⟩) hlow).trans c3
        have k4 := (hH0.below.cell (p := ⟨gl, (i + 1) * 5 + 1, none⟩) hlow).trans c4
        have k5 := (hH0.below.cell (p := ⟨gl, (i + 1) * 5 + 2, none⟩) hlow).trans c5
        have k6 := (hH0.below.cell (p := ⟨gl, i * 5 + 3, none⟩) hlow).trans c6
        have k7 := (hH0.below.cell (p := ⟨gl, i * 5 + 4, none⟩) hlow).trans c7
        have k8 := (hH0.below.cell (p := ⟨gl, (i + 1) * 5 + 3, none⟩) hlow).trans c8
        have k9 := (hH0.below.cell (p := ⟨gl, (i + 1) * 5 + 4, none⟩) hlow).trans c9
        have HC0 := Lib.hid c0
        have HC1 := Lib.hid c1
        have HC2 := Lib.hid c2
        have HC6 := Lib.hid c6
        have HC7 := Lib.hid c7
        have HC3 := Lib.hid c3
        have HC4 := Lib.hid c4
        have HC5 := Lib.hid c5
        have HC8 := Lib.hid c8
        have HC9 := Lib.hid c9
        have HBL := Lib.hid hbl
        have f0 := fun j => own_frozen hH0.own.checks j
        have q4 := hH0.blk.cell 6
        have HH := Lib.hid ((hH0.checkSet (i := i) (by omega) y).checkSet (i := i + 1) (by show i + 1 < (p.checks.set i y).length; rw [List.length_set]; omega) x)
        have b1 : (1 : Int) < (p.checks.length : Int) := by omega
        have b2 : (0 : Int) ≤ (i : Int) := by omega
        have b3 : (i : Int) < (p.checks.length : Int) := by omega
        have b4 : (i : Int) + 1 < (p.checks.length : Int) := by omega
        have b5 : (0 : Int) ≤ (i : Int) + 1 := by omega
        have b6 : (p.checks.length : Int) ≤ 6 := by have := hk.checks1; omega
        have b7 : i < p.checks.length := by omega
        have b8 : i + 1 < p.checks.length := by omega
        have HSA1 := hsame.1
        have h1st := hH0.checkSet (i := i) (by omega) y
        have r4 := h1st.blk.cell 6
        have hgx : (p.checks.set i y)[i + 1]? = some y := by rw [List.getElem?_set_ne (by omega)]; exact hy
        obtain ⟨gm', hgm', _, e3, e4, e5, e8, e9⟩ := h1st.pat.checks.check hgx
        injection hgm' with hgm'
        injection hgm' with hgm'
        subst hgm'
        have f1 := fun j => own_frozen h1st.own.checks j
        have ww := (IntWalk.i64_in ((i : Int) + 1) (by omega) : IntKind.i64.wrap ((i : Int) + 1) = (i : Int) + 1)
        have HSA2 := hsame.2
        clear hi hx hy hsame hat hbl hH0 h1st hgx c0 c1 c2 c3 c4 c5 c6 c7 c8 c9 hl1
        go_upto_region 8 with (go_at_call 25; (with_reducible refine (pick3_is _ _ _ hb (by omega) (by omega) HPI _).mono ?_); rintro e w4 ⟨rfl, rfl⟩)
        go_region
        have HB := HH.out.below
        have P6 := (HBL.out.up HB).cell 6
        have m0 := (HB.cell (p := ⟨gl, i * 5, none⟩) hlow).trans HC0.out
        have m1 := (HB.cell (p := ⟨gl, i * 5 + 1, none⟩) hlow).trans HC1.out
        have m2 := (HB.cell (p := ⟨gl, i * 5 + 2, none⟩) hlow).trans HC2.out
        have m6 := (HB.cell (p := ⟨gl, i * 5 + 3, none⟩) hlow).trans HC6.out
        have m7 := (HB.cell (p := ⟨gl, i * 5 + 4, none⟩) hlow).trans HC7.out
        have m3 := (HB.cell (p := ⟨gl, (i + 1) * 5, none⟩) hlow).trans HC3.out
        have m4 := (HB.cell (p := ⟨gl, (i + 1) * 5 + 1, none⟩) hlow).trans HC4.out
        have m5 := (HB.cell (p := ⟨gl, (i + 1) * 5 + 2, none⟩) hlow).trans HC5.out
        have m8 := (HB.cell (p := ⟨gl, (i + 1) * 5 + 3, none⟩) hlow).trans HC8.out
        have m9 := (HB.cell (p := ⟨gl, (i + 1) * 5 + 4, none⟩) hlow).trans HC9.out
        have HT := Lib.hid (HSt.turn (p := p) (q := { p with checks := turned p.checks i x y }) (HH.out.up ((Below.refl _ _).drew.drew)) hr hs2 HSA1 HSA2)
        clear HH r4 q4 e3 e4 e5 k0 k1 k2 k3 k4 k5 d0 d1 d2 d3 d4 d5 d6 d7 d8 d9 e8 e9 k6 k7 k8 k9 f0 f1 hr HSA1 HSA2
        go_upto_region 9 with fail
        go_region
        go_wp2_with fail
        go_meet
        obtain ⟨Bn, Bl, Bd, Bc, mn, dn, ml, dl, md, dd, mc, dc, h⟩ := HT.out
        exact ⟨_, sm, Bn, Bl, Bd, Bc, mn, dn, ml, dl, md, dd, mc, dc, rfl, h⟩
  case rest =>
    as_aux_lemma =>
    obtain ⟨q, sm, Bn, Bl, Bd, Bc, mn, dn, ml, dl, md, dd, mc, dc, rfl, hq⟩ := hcut
    have HR := hq.right
    have hqs := hq.small
    have HPQ := hq.pq
    have HQP := hq.qp
    have hbw := hq.below
    have ha0 := hat.up hbw
    have hb0 := hbl.up hbw
    have hc0 := hq.pat
    have hd0 := hq.blk
    clear hH0 hat hbl hq
    have p00 := hb0.cell 0
    have p01 := hb0.cell 1
    have p02 := hb0.cell 2
    have p03 := hb0.cell 3
    have p04 := hb0.cell 4
    have p05 := hb0.cell 5
    have p06 := hb0.cell 6
    have q00 := hd0.cell 0
    have q01 := hd0.cell 1
    have q02 := hd0.cell 2
    have q03 := hd0.cell 3
    have q04 := hd0.cell 4
    have q05 := hd0.cell 5
    have q06 := hd0.cell 6
    cases sm
    all_goals
      go_wp2_with (first
        | (go_at_call 18; (with_reducible refine (Same_is _ HQP hqs hk.small hc2 ha2).mono ?_); rintro e w6 ⟨rfl, hb6⟩)
        | (go_at_call 18; (with_reducible refine (Same_is _ HPQ hk.small hqs ha1 hc1).mono ?_); rintro e w5 ⟨rfl, hb5⟩; have ha2 := ha1.up hb5; have hb2 := hb1.up hb5; have hc2 := hc1.up hb5; have hd2 := hd1.up hb5; have p20 := hb2.cell 0; have p21 := hb2.cell 1; have p22 := hb2.cell 2; have p23 := hb2.cell 3; have p24 := hb2.cell 4; have p25 := hb2.cell 5; have p26 := hb2.cell 6; have q20 := hd2.cell 0; have q21 := hd2.cell 1; have q22 := hd2.cell 2; have q23 := hd2.cell 3; have q24 := hd2.cell 4; have q25 := hd2.cell 5; have q26 := hd2.cell 6)
        | (go_at_call 16; (with_reducible refine (Right_is true HR hqs hc0).mono ?_); rintro e w4 ⟨rfl, hb4⟩; have ha1 := ha0.up hb4; have hb1 := hb0.up hb4; have hc1 := hc0.up hb4; have hd1 := hd0.up hb4; have p10 := hb1.cell 0; have p11 := hb1.cell 1; have p12 := hb1.cell 2; have p13 := hb1.cell 3; have p14 := hb1.cell 4; have p15 := hb1.cell 5; have p16 := hb1.cell 6; have q10 := hd1.cell 0; have q11 := hd1.cell 1; have q12 := hd1.cell 2; have q13 := hd1.cell 3; have q14 := hd1.cell 4; have q15 := hd1.cell 5; have q16 := hd1.cell 6))
      go_ret
      exact ⟨rfl, hbb.trans ((((hbw.trans (hb4.mono hbw.size)).trans (hb5.mono (Nat.le_trans hbw.size hb4.size))).trans (hb6.mono (Nat.le_trans hbw.size (Nat.le_trans hb4.size hb5.size)))).mono hbb.size)⟩
end Go.Proofs.YtlfapmfhdagikaaDoor
