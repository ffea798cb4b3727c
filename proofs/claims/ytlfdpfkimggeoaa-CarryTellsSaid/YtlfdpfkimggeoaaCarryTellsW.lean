/-
  CarryTells: the walk.
-/
import Derived.Test.YtlfdpfkimggeoaaCaG
import Derived.Test.YtlfdpfkimggeoaaCtB
import Derived.Test.YtlfdpfkimggeoaaCaE
import Derived.Test.YtlfdpfkimggeoaaPmB
import Derived.Test.YtlfdpfkimggeoaaAtM
import Derived.Test.YtlfdpfkimggeoaaPlXh
import Derived.Deep.RegionHeld3
namespace Go.Proofs.Ytlfdpfkimggeoaa
open Go.RowKit
set_option linter.unusedVariables false
set_option linter.unusedSimpArgs false

theorem wild_forms {w w' : World} {e : Ending} (h : WildAs w e w') : ∃ p An cn Al cl Ad cd Ac cc, PFine p ∧ e = .returned (.agg #[.int .i64 p.proto, .int .i64 p.cap, .int .i64 p.k, .slice An p.nodes.length cn, .slice Al p.links.length cl, .slice Ad p.dests.length cd, .slice Ac p.checks.length cc]) ∧ PAt w' p p.proto p.cap p.k An p.nodes.length Al p.links.length Ad p.dests.length Ac p.checks.length ∧ Below w.heap.size w w' := by
  obtain ⟨p, vn, vl, vd, vc, hf, he, ho, hb⟩ := h
  obtain ⟨An, cn, rfl, _⟩ := own_form ho.nodes
  obtain ⟨Al, cl, rfl, _⟩ := own_form ho.links
  obtain ⟨hs, _, h2, _⟩ := ho.dests
  obtain ⟨Ad, cd, rfl, _⟩ := own_form h2
  obtain ⟨Ac, cc, rfl, _⟩ := own_form ho.checks
  exact ⟨p, An, cn, Al, cl, Ad, cd, Ac, cc, hf, he, ho.at_, hb⟩
theorem same_self (r : Rt) : rtSame r r = true := by unfold rtSame; simp
theorem rts_is (l : List Int) (r : Rt) (HR : Hid (rtOf l = r)) (m : Nat) (HL : Hid (l.length = m)) (hwf : ∀ v ∈ l, InI v) {A : Option Addr} {c : Nat} (hm : m ≤ 9223372036854775807) {w : World} (hA : CellsAt w w.heap.size A (l.map (Value.int .i64))) :
    Calls Try.prog 26 #[.slice A m c] w fun e w' => ∃ Ar cr, e = .returned (.agg #[.int .i64 r.kind, .int .i64 r.cost, .slice Ar r.path.length cr]) ∧ RtAt w' r Ar r.path.length ∧ r.path.length ≤ cr ∧ cr ≤ 9223372036854775807 ∧ Below w.heap.size w w' := by
  have h1 := HR.out
  have h3 := HL.out
  subst h1 h3
  exact (Route_any l hwf A c hm w hA).mono fun e w' ⟨Ar, cr, he, ho, hle, hb⟩ => ⟨Ar, cr, he, ⟨rfl, (RowAt.of_own ho).cells, by have := rt_len (rtOf_right l); omega⟩, hle, (by obtain ⟨A9, c9, e9, _, h9⟩ := own_formB ho; injection e9 with _ _ e9; rw [e9]; exact h9), hb⟩
/-- What all of the law keeps: the route that was handed, the raw one. -/
structure CB (w0 : World) (r : Rt) (A : Option Addr) (c : Nat) (A2 : Option Addr) (l2 : List Int) (w : World) : Prop where
  blk : Blk w w0.heap.size 42 #[.int .i64 r.kind, .int .i64 r.cost, .slice A r.path.length c]
  ra : RtAt w r A r.path.length
  sl : CellsAt w w.heap.size A2 (l2.map (Value.int .i64))
  up : Below w0.heap.size w0 w
section
variable {w0 w w' : World} {r : Rt} {A A2 : Option Addr} {c : Nat} {l2 : List Int}
theorem CB.go (h : CB w0 r A c A2 l2 w) (hb : Below w.heap.size w w') : CB w0 r A c A2 l2 w' := ⟨h.blk.up hb, h.ra.on hb, h.sl.on hb, below_on h.up hb⟩
theorem CB.cells (h : CB w0 r A c A2 l2 w) : w.cell? ⟨w0.heap.size, 0, none⟩ = some (.int .i64 r.kind) ∧ w.cell? ⟨w0.heap.size, 1, none⟩ = some (.int .i64 r.cost) ∧ w.cell? ⟨w0.heap.size, 2, none⟩ = some (.slice A r.path.length c) := ⟨h.blk.cell 0, h.blk.cell 1, h.blk.cell 2⟩
end
/-- A network, three places, a route: each in its box. -/
structure CS (g : Nat) (p : PPlan) (An : Option Addr) (cn : Nat) (Al : Option Addr) (cl : Nat) (Ad : Option Addr) (cd : Nat) (Ac : Option Addr) (cc : Nat) (gx : Nat) (x y z : Int) (go_ : Nat) (r : Rt) (A : Option Addr) (c : Nat) (w : World) : Prop where
  pat : PAt w p p.proto p.cap p.k An p.nodes.length Al p.links.length Ad p.dests.length Ac p.checks.length
  pb : Blk w g 29 #[.int .i64 p.proto, .int .i64 p.cap, .int .i64 p.k, .slice An p.nodes.length cn, .slice Al p.links.length cl, .slice Ad p.dests.length cd, .slice Ac p.checks.length cc]
  xb : Blk w gx 43 #[.int .i64 x, .int .i64 y, .int .i64 z]
  ob : Blk w go_ 42 #[.int .i64 r.kind, .int .i64 r.cost, .slice A r.path.length c]
  ro : RtAt w r A r.path.length
section
variable {w w' : World} {g : Nat} {p : PPlan} {An : Option Addr} {cn : Nat} {Al : Option Addr} {cl : Nat} {Ad : Option Addr} {cd : Nat} {Ac : Option Addr} {cc gx : Nat} {x y z : Int} {go_ : Nat} {r : Rt} {A : Option Addr} {c : Nat}
theorem CS.go (h : CS g p An cn Al cl Ad cd Ac cc gx x y z go_ r A c w) (hb : Below w.heap.size w w') : CS g p An cn Al cl Ad cd Ac cc gx x y z go_ r A c w' := ⟨h.pat.up hb, h.pb.up hb, h.xb.up hb, h.ob.up hb, h.ro.on hb⟩
theorem CS.cells (h : CS g p An cn Al cl Ad cd Ac cc gx x y z go_ r A c w) : (w.cell? ⟨g, 0, none⟩ = some (.int .i64 p.proto) ∧ w.cell? ⟨g, 1, none⟩ = some (.int .i64 p.cap) ∧ w.cell? ⟨g, 2, none⟩ = some (.int .i64 p.k) ∧ w.cell? ⟨g, 3, none⟩ = some (.slice An p.nodes.length cn) ∧ w.cell? ⟨g, 4, none⟩ = some (.slice Al p.links.length cl) ∧ w.cell? ⟨g, 5, none⟩ = some (.slice Ad p.dests.length cd) ∧ w.cell? ⟨g, 6, none⟩ = some (.slice Ac p.checks.length cc)) ∧ (w.cell? ⟨gx, 0, none⟩ = some (.int .i64 x) ∧ w.cell? ⟨gx, 1, none⟩ = some (.int .i64 y) ∧ w.cell? ⟨gx, 2, none⟩ = some (.int .i64 z)) ∧ (w.cell? ⟨go_, 0, none⟩ = some (.int .i64 r.kind) ∧ w.cell? ⟨go_, 1, none⟩ = some (.int .i64 r.cost) ∧ w.cell? ⟨go_, 2, none⟩ = some (.slice A r.path.length c)) :=
  ⟨box7 h.pb, ⟨h.xb.cell 0, h.xb.cell 1, h.xb.cell 2⟩, h.ob.cell 0, h.ob.cell 1, h.ob.cell 2⟩
end
/-- A route in its box. -/
structure RX (g : Nat) (r : Rt) (A : Option Addr) (c : Nat) (w : World) : Prop where
  blk : Blk w g 42 #[.int .i64 r.kind, .int .i64 r.cost, .slice A r.path.length c]
  at_ : RtAt w r A r.path.length
section
variable {w w' : World} {g : Nat} {r : Rt} {A : Option Addr} {c : Nat}
theorem RX.go (h : RX g r A c w) (hb : Below w.heap.size w w') : RX g r A c w' := ⟨h.blk.up hb, h.at_.on hb⟩
theorem RX.cells (h : RX g r A c w) : w.cell? ⟨g, 0, none⟩ = some (.int .i64 r.kind) ∧ w.cell? ⟨g, 1, none⟩ = some (.int .i64 r.cost) ∧ w.cell? ⟨g, 2, none⟩ = some (.slice A r.path.length c) := ⟨h.blk.cell 0, h.blk.cell 1, h.blk.cell 2⟩
theorem RX.new (h : RtAt w r A r.path.length) : RX w.heap.size r A c (w.alloc (.cells #[.int .i64 r.kind, .int .i64 r.cost, .slice A r.path.length c] 42)) := ⟨Blk.new _ _ _, h.on (below_new w _)⟩
end

set_option maxHeartbeats 16000000 in
set_option maxRecDepth 100000 in
theorem carryTells_walk (A1 : Option Addr) (c1 : Nat) (l1 : List Int) (hwf1 : ∀ v ∈ l1, InI v) (hm1 : l1.length ≤ 9223372036854775807) (hc1 : l1.length ≤ c1) (hcm1 : c1 ≤ 9223372036854775807) (A2 : Option Addr) (c2 : Nat) (l2 : List Int) (hwf2 : ∀ v ∈ l2, InI v) (hm2 : l2.length ≤ 9223372036854775807) (hc2 : l2.length ≤ c2) (hcm2 : c2 ≤ 9223372036854775807) (ra : Rt) (A0 : Option Addr) (n0 c0 : Nat) (hr0 : ra.path.length = n0) (hcr : n0 ≤ c0) (hcrm : c0 ≤ 9223372036854775807) (i0 : Int) (hi0 : InI i0) (i1 : Int) (hi1 : InI i1) (i2 : Int) (hi2 : InI i2) (w : World) (hA1 : CellsAt w w.heap.size A1 (l1.map (Value.int .i64))) (hA2 : CellsAt w w.heap.size A2 (l2.map (Value.int .i64))) (hA0 : CellsAt w w.heap.size A0 (ra.path.map (Value.int .i64))) :
    Calls Try.prog 4 #[.slice A1 l1.length c1, .slice A2 l2.length c2, .agg #[.int .i64 ra.kind, .int .i64 ra.cost, .slice A0 n0 c0], .int .i64 i0, .int .i64 i1, .int .i64 i2] w fun e w' => e = .returned (.bool true) ∧ Below w.heap.size w w' := by
  obtain ⟨n1, hn1⟩ : ∃ n, l1.length = n := ⟨_, rfl⟩
  obtain ⟨n2, hn2⟩ : ∃ n, l2.length = n := ⟨_, rfl⟩
  subst hr0
  rw [hn1] at hm1 hc1 ⊢
  rw [hn2] at hm2 hc2 ⊢
  have HN1 := Lib.hid hn1
  have HN2 := Lib.hid hn2
  obtain ⟨pn, hpn⟩ : ∃ p, netOf l1 = p := ⟨_, rfl⟩
  have HOKN : NetOk pn := hpn ▸ netOk l1
  have HPN := Lib.hid hpn
  obtain ⟨rr, hrr⟩ : ∃ r, rtOf l2 = r := ⟨_, rfl⟩
  have HRR := Lib.hid hrr
  obtain ⟨j0, hj0⟩ : ∃ r, pickN i0 10 = r := ⟨_, rfl⟩
  obtain ⟨j1, hj1⟩ : ∃ r, pickN i1 8 = r := ⟨_, rfl⟩
  obtain ⟨j2, hj2⟩ : ∃ r, pickN i2 3 = r := ⟨_, rfl⟩
  have HJ0 := Lib.hid hj0
  have HJ1 := Lib.hid hj1
  have HJ2 := Lib.hid hj2
  have HC0 := Lib.hid (show ra.path.length ≤ c0 ∧ c0 ≤ 9223372036854775807 from ⟨hcr, hcrm⟩)
  have HT := Lib.hid hi0
  have hbb := below_new w (.cells #[.int .i64 ra.kind, .int .i64 ra.cost, .slice A0 ra.path.length c0] 42)
  have D0 : CB w ra A0 c0 A2 l2 (w.alloc (.cells #[.int .i64 ra.kind, .int .i64 ra.cost, .slice A0 ra.path.length c0] 42)) := ⟨Blk.new _ _ _, (show RtAt w ra A0 ra.path.length from ⟨rfl, hA0, by omega⟩).on hbb, hA2.on hbb, hbb⟩
  replace hA1 := hA1.on hbb
  clear hn1 hn2 hpn hrr hj0 hj1 hj2 hbb hA0 hA2 hcr hcrm HT
  go_enter Try.func4, Try.ntmps4
  go_wp2_with (first
    | (go_at_call 21; (with_reducible refine (awake7_any _).mono ?_); rintro e w1 ⟨rfl, hb1⟩; have D1 := D0.go hb1; replace hA1 := hA1.on hb1)
    | (go_at_call 7; refine (Net_at pn l1 HPN A1 n1 c1 HN1.out hwf1 hm1 hc1 hcm1 _ hA1).mono ?_; rintro e w2 ⟨An1, cn1, Al1, cl1, Ad1, cd1, Ac1, cc1, rfl, ho2, hb2⟩; have hp2 := ho2.at_; have D2 := D1.go hb2; replace hA1 := hA1.on hb2)
    | (go_at_call 8; refine (Wild_any l1 A1 n1 c1 HN1.out hwf1 hm1 hc1 hcm1 _ hA1).mono ?_; rintro e w3 hw3; obtain ⟨q, An2, cn2, Al2, cl2, Ad2, cd2, Ac2, cc2, hfq, rfl, hpq, hb3⟩ := wild_forms hw3; have D3 := D2.go hb3; have hp3 := hp2.up hb3))
  clear hw3 ho2 hp2 D0 D1 D2 hb1 hb2 hb3 hA1
  obtain ⟨ga, hga⟩ : ∃ g, w3.heap.size = g := ⟨_, rfl⟩
  obtain ⟨W, hW⟩ : ∃ W, w3.alloc (.cells #[.int .i64 pn.proto, .int .i64 pn.cap, .int .i64 pn.k, .slice An1 pn.nodes.length cn1, .slice Al1 pn.links.length cl1, .slice Ad1 pn.dests.length cd1, .slice Ac1 pn.checks.length cc1, .int .i64 q.proto, .int .i64 q.cap, .int .i64 q.k, .slice An2 q.nodes.length cn2, .slice Al2 q.links.length cl2, .slice Ad2 q.dests.length cd2, .slice Ac2 q.checks.length cc2] 29) = W := ⟨_, rfl⟩
  have KA := Blk.new w3 29 #[.int .i64 pn.proto, .int .i64 pn.cap, .int .i64 pn.k, .slice An1 pn.nodes.length cn1, .slice Al1 pn.links.length cl1, .slice Ad1 pn.dests.length cd1, .slice Ac1 pn.checks.length cc1, .int .i64 q.proto, .int .i64 q.cap, .int .i64 q.k, .slice An2 q.nodes.length cn2, .slice Al2 q.links.length cl2, .slice Ad2 q.dests.length cd2, .slice Ac2 q.checks.length cc2]
  rw [hga] at KA ⊢
  rw [hW] at KA ⊢
  have hbW : Below w3.heap.size w3 W := hW ▸ below_new w3 _
  have DW := D3.go hbW
  have hAll : ∀ t : Nat, t < 2 → ∃ p An cn Al cl Ad cd Ac cc, PSmall p ∧ PAt W p p.proto p.cap p.k An p.nodes.length Al p.links.length Ad p.dests.length Ac p.checks.length ∧ (W.cell? ⟨ga, t * 7, none⟩ = some (.int .i64 p.proto) ∧ W.cell? ⟨ga, t * 7 + 1, none⟩ = some (.int .i64 p.cap) ∧ W.cell? ⟨ga, t * 7 + 2, none⟩ = some (.int .i64 p.k) ∧ W.cell? ⟨ga, t * 7 + 3, none⟩ = some (.slice An p.nodes.length cn) ∧ W.cell? ⟨ga, t * 7 + 4, none⟩ = some (.slice Al p.links.length cl) ∧ W.cell? ⟨ga, t * 7 + 5, none⟩ = some (.slice Ad p.dests.length cd) ∧ W.cell? ⟨ga, t * 7 + 6, none⟩ = some (.slice Ac p.checks.length cc)) := by
    intro t ht
    rcases (show t = 0 ∨ t = 1 by omega) with rfl | rfl
    · exact ⟨pn, An1, cn1, Al1, cl1, Ad1, cd1, Ac1, cc1, HOKN.small, hp3.up hbW, KA.cell 0, KA.cell 1, KA.cell 2, KA.cell 3, KA.cell 4, KA.cell 5, KA.cell 6⟩
    · exact ⟨q, An2, cn2, Al2, cl2, Ad2, cd2, Ac2, cc2, hfq.small, hpq.up hbW, KA.cell 7, KA.cell 8, KA.cell 9, KA.cell 10, KA.cell 11, KA.cell 12, KA.cell 13⟩
  have hgl := KA.lt
  clear KA hW hga hp3 hpq D3 hbW HOKN hfq
  go_loopw [29] (fun s29 wr => ∃ t : Nat, t ≤ 2 ∧ s29 = .int .i64 (t : Nat) ∧ Below W.heap.size W wr) (fun s29 _ => 2 - (intOf s29).toNat)
  case atStart => exact ⟨0, by omega, rfl, Below.refl _ _⟩
  case round =>
      obtain ⟨t, ht, rfl, hbr⟩ := hrel
      by_cases hlt : t < 2
      · obtain ⟨p, An, cn, Al, cl, Ad, cd, Ac, cc, hs, hp, m0, m1, m2, m3, m4, m5, m6⟩ := hAll t hlt
        replace hp := hp.up hbr
        replace m0 := (hbr.cell hgl).trans m0
        replace m1 := (hbr.cell hgl).trans m1
        replace m2 := (hbr.cell hgl).trans m2
        replace m3 := (hbr.cell hgl).trans m3
        replace m4 := (hbr.cell hgl).trans m4
        replace m5 := (hbr.cell hgl).trans m5
        replace m6 := (hbr.cell hgl).trans m6
        have DR := DW.go hbr
        have t0 : (0 : Int) ≤ (t : Int) := by omega
        have t1 : (t : Int) < 2 := by omega
        have hbn := below_new wr (.cells #[.int .i64 p.proto, .int .i64 p.cap, .int .i64 p.k, .slice An p.nodes.length cn, .slice Al p.links.length cl, .slice Ad p.dests.length cd, .slice Ac p.checks.length cc] 29)
        have K1 := Blk.new wr 29 #[.int .i64 p.proto, .int .i64 p.cap, .int .i64 p.k, .slice An p.nodes.length cn, .slice Al p.links.length cl, .slice Ad p.dests.length cd, .slice Ac p.checks.length cc]
        have hp1 := hp.up hbn
        have D1 := DR.go hbn
        clear hp DR
        go_wp2_with (first
          | (go_at_call 22; (with_reducible refine (pick7_is i0 10 j0 hi0 (by omega) (by omega) HJ0 _).mono ?_); rintro e wp0 ⟨rfl, rfl⟩)
          | (go_at_call 22; (with_reducible refine (pick7_is i1 8 j1 hi1 (by omega) (by omega) HJ1 _).mono ?_); rintro e wp1 ⟨rfl, rfl⟩)
          | (go_at_call 22; (with_reducible refine (pick7_is i2 3 j2 hi2 (by omega) (by omega) HJ2 _).mono ?_); rintro e wp2 ⟨rfl, rfl⟩))
        obtain ⟨gp, hgp⟩ : ∃ g, wr.heap.size = g := ⟨_, rfl⟩
        obtain ⟨V, hV⟩ : ∃ V, wr.alloc (.cells #[.int .i64 p.proto, .int .i64 p.cap, .int .i64 p.k, .slice An p.nodes.length cn, .slice Al p.links.length cl, .slice Ad p.dests.length cd, .slice Ac p.checks.length cc] 29) = V := ⟨_, rfl⟩
        obtain ⟨gy, hgy⟩ : ∃ g, wr.heap.size + 1 = g := ⟨_, rfl⟩
        have hVs : V.heap.size = gy := by rw [← hV, ← hgy]; first | rfl | simp [World.alloc] | simp [go_sem]
        rw [hV] at hp1 D1 K1
        rw [hgy]
        rw [hgp] at K1
        rw [hV, hgp]
        obtain ⟨Z, hZ⟩ : ∃ Z, V.alloc (.cells #[.int .i64 i0, .int .i64 i1, .int .i64 i2, .int .i64 j0, .int .i64 j1, .int .i64 j2] 43) = Z := ⟨_, rfl⟩
        have KX := Blk.new V 43 #[.int .i64 i0, .int .i64 i1, .int .i64 i2, .int .i64 j0, .int .i64 j1, .int .i64 j2]
        rw [hVs] at KX
        rw [hZ] at KX ⊢
        have hbZ : Below V.heap.size V Z := hZ ▸ below_new V _
        have DZ := D1.go hbZ
        have pZ := hp1.up hbZ
        have KZ := K1.up hbZ
        have hX : ∀ u : Nat, u < 2 → ∃ x y z, Z.cell? ⟨gy, u * 3, none⟩ = some (.int .i64 x) ∧ Z.cell? ⟨gy, u * 3 + 1, none⟩ = some (.int .i64 y) ∧ Z.cell? ⟨gy, u * 3 + 2, none⟩ = some (.int .i64 z) := by
          intro u hu
          rcases (show u = 0 ∨ u = 1 by omega) with rfl | rfl
          · exact ⟨_, _, _, KX.cell 0, KX.cell 1, KX.cell 2⟩
          · exact ⟨_, _, _, KX.cell 3, KX.cell 4, KX.cell 5⟩
        have hgyl := KX.lt
        have hWZ : Below W.heap.size W Z := by rw [← hZ, ← hV]; exact below_on (below_on hbr (below_new wr _)) (below_new _ _)
        clear KX hZ hgy hVs hV hgp hbZ hp1 K1 D1 hbn m0 m1 m2 m3 m4 m5 m6
        go_loopw [46] (fun s46 wr => ∃ u : Nat, u ≤ 2 ∧ s46 = .int .i64 (u : Nat) ∧ Below Z.heap.size Z wr) (fun s46 _ => 2 - (intOf s46).toNat)
        case atStart => exact ⟨0, by omega, rfl, Below.refl _ _⟩
        case round =>
          obtain ⟨u, hu, rfl, hbu⟩ := hrel
          by_cases hlu : u < 2
          · obtain ⟨x0, x1, x2, hx0, hx1, hx2⟩ := hX u hlu
            replace hx0 := (hbu.cell hgyl).trans hx0
            replace hx1 := (hbu.cell hgyl).trans hx1
            replace hx2 := (hbu.cell hgyl).trans hx2
            have u0 : (0 : Int) ≤ (u : Int) := by omega
            have u1 : (u : Int) < 2 := by omega
            have pU := pZ.up hbu
            have KU := KZ.up hbu
            have DU := DZ.go hbu
            have hby := below_new wr (.cells #[.int .i64 x0, .int .i64 x1, .int .i64 x2] 43)
            have KXb := Blk.new wr 43 #[.int .i64 x0, .int .i64 x1, .int .i64 x2]
            obtain ⟨od, hod⟩ : ∃ r, ownB p x2 x1 = r := ⟨_, rfl⟩
            have HO := Lib.hid hod
            replace pU := pU.up hby
            replace KU := KU.up hby
            replace DU := DU.go hby
            obtain ⟨a0, a1, a2, a3, a4, a5, a6⟩ := box7 KU
            have b0 := KXb.cell 0
            have b1 := KXb.cell 1
            have b2 := KXb.cell 2
            clear hod
            go_upto_region 9 with (go_at_call 23; (with_reducible refine (caOwn_w p x2 x1 od HO pU hs).mono ?_); rintro e y1 ⟨Ao, co, rfl, Ro, ho1, ho2, hy1⟩)
            have hbo := below_new y1 (.cells #[.int .i64 od.kind, .int .i64 od.cost, .slice Ao od.path.length co] 42)
            have E1 : CS gp p An cn Al cl Ad cd Ac cc wr.heap.size x0 x1 x2 y1.heap.size od Ao co (y1.alloc (.cells #[.int .i64 od.kind, .int .i64 od.cost, .slice Ao od.path.length co] 42)) := ⟨(pU.up hy1).up hbo, (KU.up hy1).up hbo, (KXb.up hy1).up hbo, Blk.new _ _ _, Ro.on hbo⟩
            have D1 := (DU.go hy1).go hbo
            have hZ1 := below_on (below_on (below_on hbu hby) hy1) hbo
            obtain ⟨gx, hgx⟩ : ∃ g, wr.heap.size = g := ⟨_, rfl⟩
            obtain ⟨go_, hgo⟩ : ∃ g, y1.heap.size = g := ⟨_, rfl⟩
            obtain ⟨Y1, hY1⟩ : ∃ V, y1.alloc (.cells #[.int .i64 od.kind, .int .i64 od.cost, .slice Ao od.path.length co] 42) = V := ⟨_, rfl⟩
            rw [hY1] at E1 D1 hZ1 ⊢
            rw [hgx, hgo] at E1
            rw [hgx, hgo]
            clear hY1 hgx hgo hbo hy1 Ro pU KU KXb DU hby a0 a1 a2 a3 a4 a5 a6 b0 b1 b2 hx0 hx1 hx2
            obtain ⟨⟨a0, a1, a2, a3, a4, a5, a6⟩, ⟨b0, b1, b2⟩, d0, d1, d2⟩ := E1.cells
            have E2 := E1.go (Below.refl _ _).drew
            have D2 := D1.go (Below.refl _ _).drew
            have hZ2 := hZ1.drew
            have HSS := Lib.hid (same_self od)
            go_region_held3 (fun w' => (w'.cell? ⟨gp, 0, none⟩ = some (.int .i64 p.proto) ∧ w'.cell? ⟨gp, 1, none⟩ = some (.int .i64 p.cap) ∧ w'.cell? ⟨gp, 2, none⟩ = some (.int .i64 p.k) ∧ w'.cell? ⟨gp, 3, none⟩ = some (.slice An p.nodes.length cn) ∧ w'.cell? ⟨gp, 4, none⟩ = some (.slice Al p.links.length cl) ∧ w'.cell? ⟨gp, 5, none⟩ = some (.slice Ad p.dests.length cd) ∧ w'.cell? ⟨gp, 6, none⟩ = some (.slice Ac p.checks.length cc)) ∧ (w'.cell? ⟨gx, 0, none⟩ = some (.int .i64 x0) ∧ w'.cell? ⟨gx, 1, none⟩ = some (.int .i64 x1) ∧ w'.cell? ⟨gx, 2, none⟩ = some (.int .i64 x2)) ∧ (w'.cell? ⟨go_, 0, none⟩ = some (.int .i64 od.kind) ∧ w'.cell? ⟨go_, 1, none⟩ = some (.int .i64 od.cost) ∧ w'.cell? ⟨go_, 2, none⟩ = some (.slice Ao od.path.length co))) (go_keep) (first
              | (go_at_call 25; (with_reducible refine (refOwn7_w p x2 x1 od HO E2.pat hs).mono ?_); rintro e y2 ⟨Ap, cp, rfl, Rp, hp1, hp2, hy2⟩; have E3 := E2.go hy2; have D3 := D2.go hy2; have hZ3 := below_on hZ2 hy2; obtain ⟨⟨a0, a1, a2, a3, a4, a5, a6⟩, ⟨b0, b1, b2⟩, d0, d1, d2⟩ := E3.cells)
              | (go_at_call 24; (with_reducible refine (refSame6_is od od true HSS E3.ro Rp).mono ?_); rintro e y3 ⟨rfl, hy3⟩; have E4 := E3.go hy3; have D4 := D3.go hy3; have hZ4 := below_on hZ3 hy3; obtain ⟨⟨a0, a1, a2, a3, a4, a5, a6⟩, ⟨b0, b1, b2⟩, d0, d1, d2⟩ := E4.cells))
            go_step
            clear E1 E2 E3 D1 D2 D3 hZ1 hZ2 hZ3 Rp hy2 hy3
            go_upto_region 11 with (fail)
            obtain ⟨c8, c9, c10⟩ := D4.cells
            have F4 := E4.go (Below.refl _ _).drew
            have G4 := D4.go (Below.refl _ _).drew
            have hZ5 := hZ4.drew
            go_region_held3 (fun w' => (w'.cell? ⟨w.heap.size, 0, none⟩ = some (.int .i64 ra.kind) ∧ w'.cell? ⟨w.heap.size, 1, none⟩ = some (.int .i64 ra.cost) ∧ w'.cell? ⟨w.heap.size, 2, none⟩ = some (.slice A0 ra.path.length c0)) ∧ (w'.cell? ⟨go_, 0, none⟩ = some (.int .i64 od.kind) ∧ w'.cell? ⟨go_, 1, none⟩ = some (.int .i64 od.cost) ∧ w'.cell? ⟨go_, 2, none⟩ = some (.slice Ao od.path.length co))) (go_keep) (
              (go_at_call 26; (with_reducible refine (rts_is l2 rr HRR n2 HN2 hwf2 hm2 G4.sl).mono ?_); rintro e y5 ⟨Ar, cr, rfl, Rr, hr1, hr2, hy5⟩; have F5 := F4.go hy5; have G5 := G4.go hy5; have hZ6 := below_on hZ5 hy5; obtain ⟨c8, c9, c10⟩ := G5.cells; obtain ⟨⟨a0, a1, a2, a3, a4, a5, a6⟩, ⟨b0, b1, b2⟩, d0, d1, d2⟩ := F5.cells))
            go_step
            go_wp2_with fail
            obtain ⟨gr, hgr⟩ : ∃ g, y5.heap.size = g := ⟨_, rfl⟩
            obtain ⟨Y, hY⟩ : ∃ V, y5.alloc (.cells #[.int .i64 rr.kind, .int .i64 rr.cost, .slice Ar rr.path.length cr, .int .i64 ra.kind, .int .i64 ra.cost, .slice A0 ra.path.length c0, .int .i64 od.kind, .int .i64 od.cost, .slice Ao od.path.length co] 42) = V := ⟨_, rfl⟩
            have KR := Blk.new y5 42 #[.int .i64 rr.kind, .int .i64 rr.cost, .slice Ar rr.path.length cr, .int .i64 ra.kind, .int .i64 ra.cost, .slice A0 ra.path.length c0, .int .i64 od.kind, .int .i64 od.cost, .slice Ao od.path.length co]
            rw [hgr] at KR ⊢
            rw [hY] at KR ⊢
            have hbY : Below y5.heap.size y5 Y := hY ▸ below_new y5 _
            have EY := F5.go hbY
            have DY := G5.go hbY
            have hZY := below_on hZ6 hbY
            have RrY := Rr.on hbY
            have hR : ∀ v : Nat, v < 3 → ∃ r A c, RtAt Y r A r.path.length ∧ r.path.length ≤ c ∧ c ≤ 9223372036854775807 ∧ Y.cell? ⟨gr, v * 3, none⟩ = some (.int .i64 r.kind) ∧ Y.cell? ⟨gr, v * 3 + 1, none⟩ = some (.int .i64 r.cost) ∧ Y.cell? ⟨gr, v * 3 + 2, none⟩ = some (.slice A r.path.length c) := by
              intro v hv
              rcases (show v = 0 ∨ v = 1 ∨ v = 2 by omega) with rfl | rfl | rfl
              · exact ⟨rr, Ar, cr, RrY, hr1, hr2, KR.cell 0, KR.cell 1, KR.cell 2⟩
              · exact ⟨ra, A0, c0, DY.ra, HC0.out.1, HC0.out.2, KR.cell 3, KR.cell 4, KR.cell 5⟩
              · exact ⟨od, Ao, co, EY.ro, ho1, ho2, KR.cell 6, KR.cell 7, KR.cell 8⟩
            have hgrl := KR.lt
            clear KR hY hgr RrY Rr hbY F5 G5 F4 G4 E4 D4 hZ4 hZ5 hZ6 hy5 a0 a1 a2 a3 a4 a5 a6 b0 b1 b2 d0 d1 d2 c8 c9 c10 hr1 hr2 ho1 ho2
            go_loopw [71] (fun s71 wr => ∃ v : Nat, v ≤ 3 ∧ s71 = .int .i64 (v : Nat) ∧ Below Y.heap.size Y wr) (fun s71 _ => 3 - (intOf s71).toNat)
            case atStart => exact ⟨0, by omega, rfl, Below.refl _ _⟩
            case round =>
              obtain ⟨v, hv, rfl, hbv⟩ := hrel
              by_cases hlv : v < 3
              · obtain ⟨r, A, c, hra, hrc, hrcm, hy0, hy1, hy2⟩ := hR v hlv
                replace hy0 := (hbv.cell hgrl).trans hy0
                replace hy1 := (hbv.cell hgrl).trans hy1
                replace hy2 := (hbv.cell hgrl).trans hy2
                have v0 : (0 : Int) ≤ (v : Int) := by omega
                have v1 : (v : Int) < 3 := by omega
                replace hra := hra.on hbv
                have EV := EY.go hbv
                obtain ⟨b, hb⟩ : ∃ b, fitsB p x1 r = b := ⟨_, rfl⟩
                have HF := Lib.hid hb
                obtain ⟨ro, hro⟩ : ∃ b, overB p x0 x1 r = b := ⟨_, rfl⟩
                have HOV := Lib.hid hro
                have HSR := Lib.hid (same_self ro)
                have hbq := below_new wr (.cells #[.int .i64 r.kind, .int .i64 r.cost, .slice A r.path.length c] 42)
                have R1 : RX wr.heap.size r A c (wr.alloc (.cells #[.int .i64 r.kind, .int .i64 r.cost, .slice A r.path.length c] 42)) := RX.new hra
                have E1 := EV.go hbq
                obtain ⟨⟨a0, a1, a2, a3, a4, a5, a6⟩, ⟨b0, b1, b2⟩, d0, d1, d2⟩ := E1.cells
                obtain ⟨r0, r1, r2⟩ := R1.cells
                clear hb hro EV
                go_upto_region 15 with (go_at_call 27; (with_reducible refine (caOver_w p x0 x1 r ro HOV E1.pat hs R1.at_ hrc hrcm).mono ?_); rintro e z1 ⟨Ao2, co2, rfl, Ro, ho1, ho2, hz1⟩)
                have hbo := below_new z1 (.cells #[.int .i64 ro.kind, .int .i64 ro.cost, .slice Ao2 ro.path.length co2] 42)
                have Q1 : RX z1.heap.size ro Ao2 co2 (z1.alloc (.cells #[.int .i64 ro.kind, .int .i64 ro.cost, .slice Ao2 ro.path.length co2] 42)) := RX.new Ro
                have E2 := (E1.go hz1).go hbo
                have R2 := (R1.go hz1).go hbo
                have hY2 := below_on (below_on (below_on hbv hbq) hz1) hbo
                obtain ⟨gv, hgv⟩ : ∃ g, wr.heap.size = g := ⟨_, rfl⟩
                obtain ⟨gq, hgq⟩ : ∃ g, z1.heap.size = g := ⟨_, rfl⟩
                obtain ⟨Y2, hYY⟩ : ∃ V, z1.alloc (.cells #[.int .i64 ro.kind, .int .i64 ro.cost, .slice Ao2 ro.path.length co2] 42) = V := ⟨_, rfl⟩
                rw [hYY] at E2 R2 Q1 hY2 ⊢
                rw [hgv] at R2
                rw [hgq] at Q1
                rw [hgv, hgq]
                clear hYY hgv hgq hbo hz1 Ro E1 R1 hbq hra a0 a1 a2 a3 a4 a5 a6 b0 b1 b2 d0 d1 d2 r0 r1 r2 hy0 hy1 hy2
                obtain ⟨⟨a0, a1, a2, a3, a4, a5, a6⟩, ⟨b0, b1, b2⟩, d0, d1, d2⟩ := E2.cells
                obtain ⟨r0, r1, r2⟩ := R2.cells
                obtain ⟨q0, q1, q2⟩ := Q1.cells
                have E3 := E2.go (Below.refl _ _).drew
                have R3 := R2.go (Below.refl _ _).drew
                have Q3 := Q1.go (Below.refl _ _).drew
                have hY3 := hY2.drew
                have BB : (b != b) = false := by simp
                go_region_held3 (fun w' => (w'.cell? ⟨gp, 0, none⟩ = some (.int .i64 p.proto) ∧ w'.cell? ⟨gp, 1, none⟩ = some (.int .i64 p.cap) ∧ w'.cell? ⟨gp, 2, none⟩ = some (.int .i64 p.k) ∧ w'.cell? ⟨gp, 3, none⟩ = some (.slice An p.nodes.length cn) ∧ w'.cell? ⟨gp, 4, none⟩ = some (.slice Al p.links.length cl) ∧ w'.cell? ⟨gp, 5, none⟩ = some (.slice Ad p.dests.length cd) ∧ w'.cell? ⟨gp, 6, none⟩ = some (.slice Ac p.checks.length cc)) ∧ (w'.cell? ⟨gx, 0, none⟩ = some (.int .i64 x0) ∧ w'.cell? ⟨gx, 1, none⟩ = some (.int .i64 x1) ∧ w'.cell? ⟨gx, 2, none⟩ = some (.int .i64 x2)) ∧ (w'.cell? ⟨gv, 0, none⟩ = some (.int .i64 r.kind) ∧ w'.cell? ⟨gv, 1, none⟩ = some (.int .i64 r.cost) ∧ w'.cell? ⟨gv, 2, none⟩ = some (.slice A r.path.length c)) ∧ (w'.cell? ⟨gq, 0, none⟩ = some (.int .i64 ro.kind) ∧ w'.cell? ⟨gq, 1, none⟩ = some (.int .i64 ro.cost) ∧ w'.cell? ⟨gq, 2, none⟩ = some (.slice Ao2 ro.path.length co2))) (go_keep) (first
                  | (go_at_call 28; (with_reducible refine (caFits_w p x1 r b HF E3.pat hs R3.at_ hrc hrcm).mono ?_); rintro e z4 ⟨rfl, hz4⟩; have E4 := E3.go hz4; have R4 := R3.go hz4; have Q4 := Q3.go hz4; have hY4 := below_on hY3 hz4; obtain ⟨⟨a0, a1, a2, a3, a4, a5, a6⟩, ⟨b0, b1, b2⟩, d0, d1, d2⟩ := E4.cells; obtain ⟨r0, r1, r2⟩ := R4.cells; obtain ⟨q0, q1, q2⟩ := Q4.cells)
                  | (go_at_call 29; (with_reducible refine (refFits7_w p x1 r b HF E4.pat hs R4.at_).mono ?_); rintro e z5 ⟨rfl, hz5⟩; have E5 := E4.go hz5; have R5 := R4.go hz5; have Q5 := Q4.go hz5; have hY5 := below_on hY4 hz5; obtain ⟨⟨a0, a1, a2, a3, a4, a5, a6⟩, ⟨b0, b1, b2⟩, d0, d1, d2⟩ := E5.cells; obtain ⟨r0, r1, r2⟩ := R5.cells; obtain ⟨q0, q1, q2⟩ := Q5.cells)
                  | (go_at_call 30; (with_reducible refine (refOver7_w p x0 x1 r ro HOV E5.pat hs R5.at_).mono ?_); rintro e z6 ⟨Ap, cp, rfl, Rp, hp1, hp2, hz6⟩; have E6 := E5.go hz6; have R6 := R5.go hz6; have Q6 := Q5.go hz6; have hY6 := below_on hY5 hz6; obtain ⟨⟨a0, a1, a2, a3, a4, a5, a6⟩, ⟨b0, b1, b2⟩, d0, d1, d2⟩ := E6.cells; obtain ⟨r0, r1, r2⟩ := R6.cells; obtain ⟨q0, q1, q2⟩ := Q6.cells)
                  | (go_at_call 24; (with_reducible refine (refSame6_is ro ro true HSR Q6.at_ Rp).mono ?_); rintro e z7 ⟨rfl, hz7⟩; have E7 := E6.go hz7; have R7 := R6.go hz7; have Q7 := Q6.go hz7; have hY7 := below_on hY6 hz7; obtain ⟨⟨a0, a1, a2, a3, a4, a5, a6⟩, ⟨b0, b1, b2⟩, d0, d1, d2⟩ := E7.cells; obtain ⟨r0, r1, r2⟩ := R7.cells; obtain ⟨q0, q1, q2⟩ := Q7.cells))
                go_step
                go_wp2_with fail
                go_roundw
                case rel => exact ⟨v + 1, by omega, by go_num, hY7⟩
                case measure => simp [intOf]; omega
              · obtain rfl : v = 3 := by omega
                go_wp2_with fail
                go_roundw
                case rel => exact ⟨u + 1, by omega, by go_num, below_on hZY hbv⟩
                case measure => simp [intOf]; omega
          · obtain rfl : u = 2 := by omega
            go_wp2_with fail
            go_roundw
            case rel => exact ⟨t + 1, by omega, by go_num, below_on hWZ hbu⟩
            case measure => simp [intOf]; omega
      · obtain rfl : t = 2 := by omega
        go_wp2_with fail
        go_ret
        exact ⟨rfl, below_on DW.up hbr⟩
end Go.Proofs.Ytlfdpfkimggeoaa
