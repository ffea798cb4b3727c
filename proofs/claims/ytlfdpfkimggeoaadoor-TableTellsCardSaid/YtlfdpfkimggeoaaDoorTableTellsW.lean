/-
  A table's numbers and routes are as the document says, step by step.
-/
import Derived.Deep.RegionHeld3
import Derived.Test.YtlfdpfkimggeoaaDoorTbL
namespace Go.Proofs.YtlfdpfkimggeoaaDoor
open Go.RowKit
set_option linter.unusedVariables false
set_option linter.unusedSimpArgs false

set_option maxHeartbeats 8000000 in
set_option maxRecDepth 100000 in
theorem tableTells_walk (x0 : Int) (hx0 : InI x0) (A1 : Option Addr) (c1 : Nat) (L1 : List (List Int)) (hz1 : ∀ l ∈ L1, (∀ v ∈ l, InI v) ∧ l.length ≤ 9223372036854775807) (hm1 : L1.length ≤ 9223372036854775807) (av : Rt) (Av : Option Addr) (nv cv : Nat) (hnv : av.path.length = nv) (hlv : nv ≤ cv) (hcv : cv ≤ 9223372036854775807) (xi : Int) (hxi : InI xi) (w : World) (hT : PowTab w) (hA1 : LsAt w A1 L1) (hAv : CellsAt w w.heap.size Av (av.path.map (Value.int .i64))) :
    Calls Tryd.prog 3 #[.int .i64 x0, .slice A1 L1.length c1, .agg #[.int .i64 av.kind, .int .i64 av.cost, .slice Av nv cv], .int .i64 xi] w fun e w' => e = .returned (.bool true) ∧ Below w.heap.size w w' := by
  obtain ⟨N, hN⟩ : ∃ n, L1.length = n := ⟨_, rfl⟩
  rw [hN] at hm1 ⊢
  have HNN := Lib.hid hN
  have HZ := Lib.hid hz1
  have HA := Lib.hid hA1
  have HP := Lib.hid hT
  have HV : Hid (RtAt w av Av nv) := Lib.hid ⟨hnv, hAv, by omega⟩
  have HXI := Lib.hid hxi
  obtain ⟨p, hp, hpl⟩ := pickN_nat x0 9 (by omega)
  have HPK : Hid (pickN x0 9 = (p : Int)) := Lib.hid hp
  have a1 := Rt1.new w av.kind av.cost Av nv cv
  clear hN hz1 hA1 hT hp hnv hAv
  go_enter Tryd.func3, Tryd.ntmps3
  go_wp2_with (first
    | (go_at_call 9; (with_reducible refine (pick8_is x0 9 (p : Int) hx0 (by omega) (by omega) HPK _).mono ?_); rintro e wp ⟨rfl, rfl⟩)
    | (go_at_call 8; (with_reducible refine (awake8_any _ (HP.out.on a1.up)).mono ?_); rintro e w1 ⟨rfl, hb1⟩; have a2 := (a1.go hb1).go (below_new w1 (.cells #[.int .i64 x0, .int .i64 (1 + (p : Int))] 3)); have s2 := Blk.new w1 3 #[.int .i64 x0, .int .i64 (1 + (p : Int))]))
  obtain ⟨gS, hgS⟩ : ∃ g, w1.heap.size = g := ⟨_, rfl⟩
  rw [hgS] at s2 ⊢
  clear hgS a1 hb1
  go_loopw [29] (fun s29 wr => ∃ t : Nat, t ≤ 2 ∧ s29 = .int .i64 (t : Nat) ∧ Rt1 w av.kind av.cost Av nv cv wr ∧ Blk wr gS 3 #[.int .i64 x0, .int .i64 (1 + (p : Int))]) (fun s29 _ => 2 - (intOf s29).toNat)
  case atStart => exact ⟨0, by omega, rfl, a2, s2⟩
  case round =>
    clear a2 s2
    obtain ⟨t, ht, rfl, a1, s1⟩ := hrel
    by_cases hlt : t < 2
    · have t0 : (0 : Int) ≤ (t : Int) := by omega
      have t1 : (t : Int) < 2 := by omega
      obtain ⟨nw, hnw, cS⟩ : ∃ nw, InI nw ∧ wr.cell? ⟨gS, t, none⟩ = some (.int .i64 nw) := by
        rcases (show t = 0 ∨ t = 1 by omega) with rfl | rfl
        · exact ⟨x0, hx0, s1.cell 0⟩
        · exact ⟨1 + (p : Int), ⟨by omega, by omega⟩, s1.cell 1⟩
      obtain ⟨M, hM⟩ : ∃ m, newM nw = m := ⟨_, rfl⟩
      obtain ⟨l0, hl0⟩ : ∃ l, newL nw = l := ⟨_, rfl⟩
      obtain ⟨n0, hn0⟩ : ∃ n, l0.length = n := ⟨_, rfl⟩
      obtain ⟨ok, hok⟩ : ∃ b, newOk nw = b := ⟨_, rfl⟩
      have HM := Lib.hid hM
      have HL0 := Lib.hid hl0
      have HN0 := Lib.hid hn0
      have HOK := Lib.hid hok
      have HL1 : Hid (l0.length ≤ 1) := Lib.hid (by rw [← hl0]; unfold newL; split <;> simp)
      have HP1 := Lib.hid (HP.out.on a1.up)
      have HA1 := Lib.hid a1
      have HS1 := Lib.hid s1
      obtain ⟨W1, hW1⟩ : ∃ W : World, W = wr := ⟨_, rfl⟩
      subst hW1
      clear hM hl0 hn0 hok s1 a1
      go_wp2_with (first
        | (go_at_call 10; (with_reducible refine (vNew_is nw M l0 HM HL0 ok HOK (Below.refl _ _) HP1.out).mono ?_); rintro e w3 ⟨A, F, rfl, hAo, hv3, hF3, hb3⟩)
        | (go_at_call 11; (with_reducible refine (refNew_is nw M l0 n0 ok HM HL0 HN0 HOK _).mono ?_); rintro e w4 ⟨A', c', G, rfl, hr4, hG4, hb4⟩; have h1 := TT.new hv3 hF3 hb3 hr4 hG4 (below_on hb4 (below_new w4 (.cells #[.int .i64 M, .slice A' n0 c'] 32)))))
      obtain ⟨sb, hsb⟩ : ∃ b, w4.heap.size = b := ⟨_, rfl⟩
      rw [hsb] at h1 ⊢
      clear hsb hv3 hF3 hb3 hr4 hG4 hb4 cS
      go_loopw [16] (fun s16 wr => ∃ (j : Nat) (F G : Nat → Prop) (l : List Rt), j ≤ N ∧ j ≤ 30 ∧ s16 = .int .i64 (j : Nat) ∧ TT W1 F A M l G sb l wr ∧ l.length ≤ j + 1) (fun s16 _ => 30 - (intOf s16).toNat)
      case atStart => exact ⟨0, F, G, l0, Nat.zero_le _, by omega, rfl, h1, HL1.out⟩
      case round =>
        clear h1
        obtain ⟨j, F, G, l, hjN, hj30, rfl, h1, hll⟩ := hrel
        by_cases hlt : j < N ∧ j < 30
        · obtain ⟨hlt1, hlt2⟩ := hlt
          obtain ⟨x, hx⟩ : ∃ x, L1[j]? = some x := ⟨_, List.getElem?_eq_getElem (by rw [HNN.out]; exact hlt1)⟩
          obtain ⟨ad, Al, cl, rfl, ca0, hcl0⟩ := HA.out.get hx
          have hcl := hcl0.on (below_on HA1.out.up h1.up)
          obtain ⟨hwf, hlm⟩ := HZ.out x (List.mem_of_getElem? hx)
          obtain ⟨r, hr⟩ : ∃ r, rtOf x = r := ⟨_, rfl⟩
          have hrr := rtOf_right x
          rw [hr] at hrr
          obtain ⟨nl, hnl⟩ : ∃ n, x.length = n := ⟨_, rfl⟩
          rw [hnl] at hlm ca0
          have HCA := Lib.hid (fun W (hW : Below w.heap.size w W) => (hW.cell (p := ad.add j) (World.block_lt_of_cell? w _ ca0)).trans ca0)
          have ca := HCA.out wr (below_on HA1.out.up h1.up)
          clear ca0 hcl0
          obtain ⟨nr, hnr⟩ : ∃ n, r.path.length = n := ⟨_, rfl⟩
          have HR := Lib.hid hr
          have HRR := Lib.hid hrr
          have HNL := Lib.hid hnl
          have HNR := Lib.hid hnr
          have HWF := Lib.hid hwf
          have HCL := Lib.hid hcl
          have h12 : nr ≤ 12 := by rw [← hnr]; exact rt_len hrr
          have j0 : (0 : Int) ≤ (j : Int) := by omega
          have j1 : (j : Int) < (N : Int) := by omega
          have j2 : (j : Int) < 30 := by omega
          obtain ⟨ln, hln⟩ : ∃ n, l.length = n := ⟨_, rfl⟩
          have HLN := Lib.hid hln
          have S0 : Hid ((l.length : Int) = (ln : Int)) := Lib.hid (by rw [hln])
          rw [hln] at hll
          have H4 : Hid (l.length < 4096) := Lib.hid (by omega)
          have VJ : Hid (InI (j : Int)) := Lib.hid ⟨by omega, by omega⟩
          clear hx hcl hr hrr hnl hnr hwf hln
          by_cases h3 : nl = 3
          · have t3 : ((nl : Int) == 3) = true := by simp [h3]
            obtain ⟨K, hK⟩ : ∃ k, addK M l av = k := ⟨_, rfl⟩
            obtain ⟨E, hE⟩ : ∃ k, addE M l av = k := ⟨_, rfl⟩
            obtain ⟨L, hL⟩ : ∃ k, addL M l av = k := ⟨_, rfl⟩
            obtain ⟨Ln, hLn⟩ : ∃ k, L.length = k := ⟨_, rfl⟩
            obtain ⟨iv, hiv⟩ : ∃ k, ixR av L = k := ⟨_, rfl⟩
            obtain ⟨r2, hr2⟩ : ∃ k, getR L (j : Int) = k := ⟨_, rfl⟩
            obtain ⟨n2, hn2⟩ : ∃ k, r2.path.length = k := ⟨_, rfl⟩
            have KT := Lib.hid hK
            have ET := Lib.hid hE
            have LT' := Lib.hid hL
            have HLL := Lib.hid hLn
            have IV := Lib.hid hiv
            have G2 := Lib.hid hr2
            have N2 := Lib.hid hn2
            have SM : Hid (rtSame r2 r2 = true) := Lib.hid (same_iff.2 rfl)
            have HLB : Hid (L.length ≤ j + 1 + 1) := Lib.hid (by rw [← hL]; have := addL_len M l av; have := HLN.out; omega)
            clear hK hE hL hLn hiv hr2 hn2 h3 hll
            have HLE := Lib.hid hlv
            have HCR := Lib.hid hcv
            go_wp2_with (first
              | (go_at_call 12; (with_reducible refine (Route_new x r HR nr nl HNR HNL HWF.out hlm HCL.out).mono ?_); rintro e w3 ⟨Ar, cr, rfl, hra, hrn, hle, hcr, hb3⟩; have a5 := HA1.out.go ((h1.go hb3).go (below_new w3 (.cells #[.int .i64 r.kind, .int .i64 r.cost, .slice Ar nr cr] 25))).up; have ca2 := HCA.out _ a5.up; obtain ⟨g0, g1, g2⟩ := a5.cells; have h2 := (h1.go hb3).go (below_new w3 (.cells #[.int .i64 av.kind, .int .i64 av.cost, .slice Av nv cv] 25)); have x2 := BoxQ.old (ca := cv) (h1.go hb3).vl (fun k hk => Nat.le_trans HA1.out.up.size (h1.vb k hk)) (below_on HA1.out.up (h1.go hb3).up) HV.out; have y2 := BoxQ.old (ca := cv) (h1.go hb3).rf.lt (fun k hk => Nat.le_trans HA1.out.up.size (h1.rb k hk)) (below_on HA1.out.up (h1.go hb3).up) HV.out; obtain ⟨b0, b1, b2⟩ := x2.cells)
              | (go_at_call 13; (with_reducible refine (ttAdd h2 HP1.out av K E L KT ET LT' x2.at_ HLE.out HCR.out).mono ?_); rintro e w6 ⟨F6, rfl, h3, eF6, s6⟩; have y3 := x2.other y2 s6; have x3 : BoxQ F6 _ av Av nv cv w6 := eF6 ▸ x2.add s6; obtain ⟨d0, d1, d2⟩ := x3.cells)
              | (go_at_call 14; (with_reducible refine (ttRAdd h3 H4 av K E L KT ET LT' y3.at_).mono ?_); rintro e w7 ⟨G7, rfl, h4, eG7, s7⟩; have x4 := y3.other x3 s7; obtain ⟨e0, e1, e2⟩ := x4.cells))
            obtain ⟨br, hbr⟩ : ∃ b, w3.heap.size = b := ⟨_, rfl⟩
            rw [hbr] at x4 e0 e1 e2 ⊢
            obtain ⟨AL, cL, q4⟩ := QS.new h4 x4 HLL
            have q4d := q4.drew
            clear hbr h2 h3 h4 x2 x3 x4 y2 y3 s6 s7 eF6 eG7 b0 b1 b2 d0 d1 d2 e0 e1 e2 hra hrn hle hcr hb3 a5 g0 g1 g2 h1
            obtain ⟨w0, w1, w2, w3'⟩ := q4.cells
            go_region_held3 (fun w' => w'.cell? ⟨sb, 1, none⟩ = some (.slice AL Ln cL) ∧ w'.cell? ⟨br, 0, none⟩ = some (.int .i64 av.kind) ∧ w'.cell? ⟨br, 1, none⟩ = some (.int .i64 av.cost) ∧ w'.cell? ⟨br, 2, none⟩ = some (.slice Av nv cv)) (go_keep) (first
              | (go_at_call 18; (with_reducible refine (refSame6_is r2 r2 true SM hgx hgy).mono ?_); rintro e w9 ⟨rfl, hb9⟩; have q9 := q8.go hb9; obtain ⟨z0, z1, z2, z3⟩ := q9.cells)
              | (go_at_call 19; (with_reducible refine (ttGet q7s.t (j : Int) VJ.out r2 G2 n2 N2).mono ?_); rintro e w8 ⟨A8, c8, rfl, hgx, hb8⟩; have q8 := q7s.go hb8; replace hgy := hgy.on hb8; obtain ⟨y0, y1, y2, y3⟩ := q8.cells)
              | (go_at_call 20; (with_reducible refine (ttRGet q7g.t (j : Int) VJ.out r2 G2 n2 N2).mono ?_); rintro e w8 ⟨A8, c8, rfl, hgy, hb8⟩; have q8 := q7g.go hb8; replace hgx := hgx.on hb8; obtain ⟨y0, y1, y2, y3⟩ := q8.cells)
              | (go_at_call 19; (with_reducible refine (ttGet q6.t (j : Int) VJ.out r2 G2 n2 N2).mono ?_); rintro e w7 ⟨A7, c7, rfl, hgx, hb7⟩; have q7g := q6.go hb7; obtain ⟨x0, x1, x2, x3⟩ := q7g.cells)
              | (go_at_call 20; (with_reducible refine (ttRGet q6.t (j : Int) VJ.out r2 G2 n2 N2).mono ?_); rintro e w7 ⟨A7, c7, rfl, hgy, hb7⟩; have q7s := q6.go hb7; obtain ⟨x0, x1, x2, x3⟩ := q7s.cells)
              | (go_at_call 16; (with_reducible refine (ttFind q5s.t HP1.out av iv IV q5s.x.at_ HLE.out HCR.out).mono ?_); rintro e w6 ⟨rfl, hb6⟩; have q6 := q5s.go hb6; obtain ⟨v0, v1, v2, v3⟩ := q6.cells)
              | (go_at_call 17; (with_reducible refine (refFind_any q5f.t.rf av iv IV q5f.x.at_).mono ?_); rintro e w6 ⟨rfl, hb6⟩; have q6 := q5f.go hb6; obtain ⟨v0, v1, v2, v3⟩ := q6.cells)
              | (go_at_call 16; (with_reducible refine (ttFind q4d.t HP1.out av iv IV q4d.x.at_ HLE.out HCR.out).mono ?_); rintro e w5 ⟨rfl, hb5⟩; have q5f := q4d.go hb5; obtain ⟨m0, m1, m2, m3⟩ := q5f.cells)
              | (go_at_call 17; (with_reducible refine (refFind_any q4d.t.rf av iv IV q4d.x.at_).mono ?_); rintro e w5 ⟨rfl, hb5⟩; have q5s := q4d.go hb5; obtain ⟨m0, m1, m2, m3⟩ := q5s.cells)
              | (go_at_call 15; (with_reducible refine (ttSize q4d.t Ln HLL).mono ?_); rintro e w9 ⟨rfl, rfl⟩)
              | fail)
            all_goals
              go_step
              go_wp2
              go_roundw
              case rel => exact ⟨j + 1, F6, G7, L, by omega, by omega, by go_num, q9.t, HLB.out⟩
              case measure => simp [intOf]; omega
          · have t3 : ((nl : Int) == 3) = false := beq_eq_false_iff_ne.2 (by omega)
            obtain ⟨K, hK⟩ : ∃ k, addK M l r = k := ⟨_, rfl⟩
            obtain ⟨E, hE⟩ : ∃ k, addE M l r = k := ⟨_, rfl⟩
            obtain ⟨L, hL⟩ : ∃ k, addL M l r = k := ⟨_, rfl⟩
            obtain ⟨Ln, hLn⟩ : ∃ k, L.length = k := ⟨_, rfl⟩
            obtain ⟨iv, hiv⟩ : ∃ k, ixR r L = k := ⟨_, rfl⟩
            obtain ⟨r2, hr2⟩ : ∃ k, getR L (j : Int) = k := ⟨_, rfl⟩
            obtain ⟨n2, hn2⟩ : ∃ k, r2.path.length = k := ⟨_, rfl⟩
            have KT := Lib.hid hK
            have ET := Lib.hid hE
            have LT' := Lib.hid hL
            have HLL := Lib.hid hLn
            have IV := Lib.hid hiv
            have G2 := Lib.hid hr2
            have N2 := Lib.hid hn2
            have SM : Hid (rtSame r2 r2 = true) := Lib.hid (same_iff.2 rfl)
            have HLB : Hid (L.length ≤ j + 1 + 1) := Lib.hid (by rw [← hL]; have := addL_len M l r; have := HLN.out; omega)
            clear hK hE hL hLn hiv hr2 hn2 h3 hll
            go_wp2_with (first
              | (go_at_call 12; (with_reducible refine (Route_new x r HR nr nl HNR HNL HWF.out hlm HCL.out).mono ?_); rintro e w3 ⟨Ar, cr, rfl, hra, hrn, hle, hcr, hb3⟩; have HLE := Lib.hid hle; have HCR := Lib.hid hcr; have h2 := (h1.go hb3).go (below_new w3 (.cells #[.int .i64 r.kind, .int .i64 r.cost, .slice Ar nr cr] 25)); have ca2 := HCA.out _ (below_on HA1.out.up h2.up); have x2 := BoxQ.new (ca := cr) h1.vl hb3 hra hrn; have y2 := BoxQ.new (ca := cr) h1.rf.lt hb3 hra hrn; obtain ⟨b0, b1, b2⟩ := x2.cells)
              | (go_at_call 13; (with_reducible refine (ttAdd h2 HP1.out r K E L KT ET LT' x2.at_ HLE.out HCR.out).mono ?_); rintro e w6 ⟨F6, rfl, h3, eF6, s6⟩; have y3 := x2.other y2 s6; have x3 : BoxQ F6 _ r Ar nr cr w6 := eF6 ▸ x2.add s6; obtain ⟨d0, d1, d2⟩ := x3.cells)
              | (go_at_call 14; (with_reducible refine (ttRAdd h3 H4 r K E L KT ET LT' y3.at_).mono ?_); rintro e w7 ⟨G7, rfl, h4, eG7, s7⟩; have x4 := y3.other x3 s7; obtain ⟨e0, e1, e2⟩ := x4.cells))
            obtain ⟨br, hbr⟩ : ∃ b, w3.heap.size = b := ⟨_, rfl⟩
            rw [hbr] at x4 e0 e1 e2 ⊢
            obtain ⟨AL, cL, q4⟩ := QS.new h4 x4 HLL
            have q4d := q4.drew
            clear hbr h2 h3 h4 x2 x3 x4 y2 y3 s6 s7 eF6 eG7 b0 b1 b2 d0 d1 d2 e0 e1 e2 hra hrn hle hcr hb3 h1
            obtain ⟨w0, w1, w2, w3'⟩ := q4.cells
            go_region_held3 (fun w' => w'.cell? ⟨sb, 1, none⟩ = some (.slice AL Ln cL) ∧ w'.cell? ⟨br, 0, none⟩ = some (.int .i64 r.kind) ∧ w'.cell? ⟨br, 1, none⟩ = some (.int .i64 r.cost) ∧ w'.cell? ⟨br, 2, none⟩ = some (.slice Ar nr cr)) (go_keep) (first
              | (go_at_call 18; (with_reducible refine (refSame6_is r2 r2 true SM hgx hgy).mono ?_); rintro e w9 ⟨rfl, hb9⟩; have q9 := q8.go hb9; obtain ⟨z0, z1, z2, z3⟩ := q9.cells)
              | (go_at_call 19; (with_reducible refine (ttGet q7s.t (j : Int) VJ.out r2 G2 n2 N2).mono ?_); rintro e w8 ⟨A8, c8, rfl, hgx, hb8⟩; have q8 := q7s.go hb8; replace hgy := hgy.on hb8; obtain ⟨y0, y1, y2, y3⟩ := q8.cells)
              | (go_at_call 20; (with_reducible refine (ttRGet q7g.t (j : Int) VJ.out r2 G2 n2 N2).mono ?_); rintro e w8 ⟨A8, c8, rfl, hgy, hb8⟩; have q8 := q7g.go hb8; replace hgx := hgx.on hb8; obtain ⟨y0, y1, y2, y3⟩ := q8.cells)
              | (go_at_call 19; (with_reducible refine (ttGet q6.t (j : Int) VJ.out r2 G2 n2 N2).mono ?_); rintro e w7 ⟨A7, c7, rfl, hgx, hb7⟩; have q7g := q6.go hb7; obtain ⟨x0, x1, x2, x3⟩ := q7g.cells)
              | (go_at_call 20; (with_reducible refine (ttRGet q6.t (j : Int) VJ.out r2 G2 n2 N2).mono ?_); rintro e w7 ⟨A7, c7, rfl, hgy, hb7⟩; have q7s := q6.go hb7; obtain ⟨x0, x1, x2, x3⟩ := q7s.cells)
              | (go_at_call 16; (with_reducible refine (ttFind q5s.t HP1.out r iv IV q5s.x.at_ HLE.out HCR.out).mono ?_); rintro e w6 ⟨rfl, hb6⟩; have q6 := q5s.go hb6; obtain ⟨v0, v1, v2, v3⟩ := q6.cells)
              | (go_at_call 17; (with_reducible refine (refFind_any q5f.t.rf r iv IV q5f.x.at_).mono ?_); rintro e w6 ⟨rfl, hb6⟩; have q6 := q5f.go hb6; obtain ⟨v0, v1, v2, v3⟩ := q6.cells)
              | (go_at_call 16; (with_reducible refine (ttFind q4d.t HP1.out r iv IV q4d.x.at_ HLE.out HCR.out).mono ?_); rintro e w5 ⟨rfl, hb5⟩; have q5f := q4d.go hb5; obtain ⟨m0, m1, m2, m3⟩ := q5f.cells)
              | (go_at_call 17; (with_reducible refine (refFind_any q4d.t.rf r iv IV q4d.x.at_).mono ?_); rintro e w5 ⟨rfl, hb5⟩; have q5s := q4d.go hb5; obtain ⟨m0, m1, m2, m3⟩ := q5s.cells)
              | (go_at_call 15; (with_reducible refine (ttSize q4d.t Ln HLL).mono ?_); rintro e w9 ⟨rfl, rfl⟩)
              | fail)
            all_goals
              go_step
              go_wp2
              go_roundw
              case rel => exact ⟨j + 1, F6, G7, L, by omega, by omega, by go_num, q9.t, HLB.out⟩
              case measure => simp [intOf]; omega
        · have hcase : ¬ (j : Int) < (N : Int) ∨ ((j : Int) < (N : Int) ∧ ¬ (j : Int) < 30) := by omega
          obtain ⟨Ln, hLn⟩ : ∃ k, l.length = k := ⟨_, rfl⟩
          obtain ⟨iv, hiv⟩ : ∃ k, ixR av l = k := ⟨_, rfl⟩
          obtain ⟨r2, hr2⟩ : ∃ k, getR l xi = k := ⟨_, rfl⟩
          obtain ⟨n2, hn2⟩ : ∃ k, r2.path.length = k := ⟨_, rfl⟩
          have HLL := Lib.hid hLn
          have IV := Lib.hid hiv
          have G2 := Lib.hid hr2
          have N2 := Lib.hid hn2
          have SM : Hid (rtSame r2 r2 = true) := Lib.hid (same_iff.2 rfl)
          have HLE := Lib.hid hlv
          have HCR := Lib.hid hcv
          have x1 : BoxQ F w.heap.size av Av nv cv wr := BoxQ.any (W1 := W1) (HA1.out.one.up h1.up) h1.vb HA1.out.one.lt HA1.out.up.size (below_on HA1.out.up h1.up) HV.out
          obtain ⟨AL, cL, q4⟩ := QS.new h1 x1 HLL
          have q4d := q4.drew
          obtain ⟨w0, w1, w2, w3'⟩ := q4.cells
          clear hlt hll hLn hiv hr2 hn2 h1 x1
          rcases hcase with hc | ⟨hc, hc2⟩
          all_goals
            go_wp2_with fail
            go_region_held3 (fun w' => w'.cell? ⟨sb, 1, none⟩ = some (.slice AL Ln cL) ∧ w'.cell? ⟨w.heap.size, 0, none⟩ = some (.int .i64 av.kind) ∧ w'.cell? ⟨w.heap.size, 1, none⟩ = some (.int .i64 av.cost) ∧ w'.cell? ⟨w.heap.size, 2, none⟩ = some (.slice Av nv cv)) (go_keep) (first
              | (go_at_call 18; (with_reducible refine (refSame6_is r2 r2 true SM hgx hgy).mono ?_); rintro e w9 ⟨rfl, hb9⟩; have q9 := q8.go hb9; obtain ⟨z0, z1, z2, z3⟩ := q9.cells)
              | (go_at_call 19; (with_reducible refine (ttGet q7s.t xi HXI.out r2 G2 n2 N2).mono ?_); rintro e w8 ⟨A8, c8, rfl, hgx, hb8⟩; have q8 := q7s.go hb8; replace hgy := hgy.on hb8; obtain ⟨y0, y1, y2, y3⟩ := q8.cells)
              | (go_at_call 20; (with_reducible refine (ttRGet q7g.t xi HXI.out r2 G2 n2 N2).mono ?_); rintro e w8 ⟨A8, c8, rfl, hgy, hb8⟩; have q8 := q7g.go hb8; replace hgx := hgx.on hb8; obtain ⟨y0, y1, y2, y3⟩ := q8.cells)
              | (go_at_call 19; (with_reducible refine (ttGet q6.t xi HXI.out r2 G2 n2 N2).mono ?_); rintro e w7 ⟨A7, c7, rfl, hgx, hb7⟩; have q7g := q6.go hb7; obtain ⟨x0, x1, x2, x3⟩ := q7g.cells)
              | (go_at_call 20; (with_reducible refine (ttRGet q6.t xi HXI.out r2 G2 n2 N2).mono ?_); rintro e w7 ⟨A7, c7, rfl, hgy, hb7⟩; have q7s := q6.go hb7; obtain ⟨x0, x1, x2, x3⟩ := q7s.cells)
              | (go_at_call 16; (with_reducible refine (ttFind q5s.t HP1.out av iv IV q5s.x.at_ HLE.out HCR.out).mono ?_); rintro e w6 ⟨rfl, hb6⟩; have q6 := q5s.go hb6; obtain ⟨v0, v1, v2, v3⟩ := q6.cells)
              | (go_at_call 17; (with_reducible refine (refFind_any q5f.t.rf av iv IV q5f.x.at_).mono ?_); rintro e w6 ⟨rfl, hb6⟩; have q6 := q5f.go hb6; obtain ⟨v0, v1, v2, v3⟩ := q6.cells)
              | (go_at_call 16; (with_reducible refine (ttFind q4d.t HP1.out av iv IV q4d.x.at_ HLE.out HCR.out).mono ?_); rintro e w5 ⟨rfl, hb5⟩; have q5f := q4d.go hb5; obtain ⟨m0, m1, m2, m3⟩ := q5f.cells)
              | (go_at_call 17; (with_reducible refine (refFind_any q4d.t.rf av iv IV q4d.x.at_).mono ?_); rintro e w5 ⟨rfl, hb5⟩; have q5s := q4d.go hb5; obtain ⟨m0, m1, m2, m3⟩ := q5s.cells)
              | fail)
            all_goals
              go_step
              go_wp2
              go_roundw
              case rel => exact ⟨t + 1, by omega, by go_num, HA1.out.go q9.t.up, HS1.out.up q9.t.up⟩
              case measure => simp [intOf]; omega
    · go_wp2
      go_ret
      exact ⟨rfl, a1.up⟩
end Go.Proofs.YtlfdpfkimggeoaaDoor
