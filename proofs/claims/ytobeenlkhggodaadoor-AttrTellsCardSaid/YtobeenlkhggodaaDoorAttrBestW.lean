/-
  AttrBest: the walk.
-/
import Derived.Test.YtobeenlkhggodaaDoorAttrBestR
namespace Go.Proofs.YtobeenlkhggodaaDoor
open Go.RowKit
set_option linter.unusedVariables false
set_option linter.unusedSimpArgs false

theorem Route_gives (l : List Int) (r : Rt) (HR : Hid (rtOf l = r)) (m : Nat) (HL : Hid (l.length = m)) (hwf : ∀ v ∈ l, InI v) {A : Option Addr} {c : Nat} (hm : m ≤ 9223372036854775807) {w : World} (hA : CellsAt w w.heap.size A (l.map (Value.int .i64))) :
    Calls Tryd.prog 14 #[.slice A m c] w (RtGives r w) := by
  have h1 := HR.out
  have h3 := HL.out
  subst h1 h3
  exact Route_any l hwf A c hm w hA
theorem best_call (R : List Rt) (b : Rt) (HB : Hid (rtBest R = b)) (n : Nat) (HN : Hid (R.length = n)) (hr : ∀ r ∈ R, rtRight r = true) {A : Option Addr} {c : Nat} {w : World} (h : RtsAt w A R) (hn : n ≤ 4096) :
    Calls Tryd.prog 23 #[.slice A n c] w (RtGives b w) := by
  have h1 := HB.out
  have h2 := HN.out
  subst h1 h2
  exact atBest_any R (fun r h => by have := rt_len (hr r h); omega) A c w h hn
theorem take_min {α : Type} (L : List α) (k : Nat) : ((L.take k).length ≤ L.length ∧ (L.take k).length ≤ k) ∧ ∀ j : Nat, (j : Int) < (L.length : Int) → (j : Int) < (k : Int) → j < (L.take k).length := by
  rw [List.length_take]
  exact ⟨⟨by omega, by omega⟩, fun j h1 h2 => by omega⟩

set_option maxHeartbeats 8000000 in
set_option maxRecDepth 100000 in
theorem attrBest_walk (A1 : Option Addr) (c1 : Nat) (L1 : List (List Int)) (hz1 : ∀ l ∈ L1, (∀ v ∈ l, InI v) ∧ l.length ≤ 9223372036854775807) (hm1 : L1.length ≤ 9223372036854775807) (x1 : Int) (hx1 : InI x1) (w : World) (hT : PowTab w) (hA1 : LsAt w A1 L1) :
    Calls Tryd.prog 5 #[.slice A1 L1.length c1, .int .i64 x1] w fun e w' => e = .returned (.bool true) ∧ Below w.heap.size w w' := by
  obtain ⟨⟨ht1, ht2⟩, ht3⟩ := take_min L1 8
  obtain ⟨M, hM⟩ : ∃ M, L1.take 8 = M := ⟨_, rfl⟩
  rw [hM] at ht1 ht2 ht3
  obtain ⟨m, hm⟩ : ∃ m, M.length = m := ⟨_, rfl⟩
  rw [hm] at ht1 ht2 ht3
  obtain ⟨N, hN⟩ : ∃ n, L1.length = n := ⟨_, rfl⟩
  rw [hN] at ht1 ht3 hm1 ⊢
  have HM := Lib.hid hM
  have HMM := Lib.hid hm
  have HNN := Lib.hid hN
  have HZ := Lib.hid hz1
  have HA := Lib.hid hA1
  have HT3 := Lib.hid ht3
  clear hM hm hN hz1 hA1 ht3
  obtain ⟨i0, hi, hz0, hz1, hz2⟩ := info_parts rtInfo
  go_enter Tryd.func5, Tryd.ntmps5
  go_wp2_with (go_at_call 11; refine (awake6_any _ hT).mono ?_; rintro e w1 ⟨rfl, hb1⟩)
  go_loopw [6, 7] (fun s6 s7 wr => ∃ (j : Nat) (A : Option Addr) (c : Nat), j ≤ m ∧ s7 = .int .i64 (j : Nat) ∧ s6 = .slice A j c ∧ RtsOwn w.heap.size wr A j c ((M.take j).map rtOf) ∧ Below w.heap.size w wr) (fun _ s7 _ => m - (intOf s7).toNat)
  case atStart => exact ⟨0, none, 0, Nat.zero_le _, rfl, rfl, RtsOwn.nil _ _ hb1.size, hb1⟩
  case round =>
    obtain ⟨j, A, c, hj, rfl, rfl, hown, hbw⟩ := hrel
    by_cases hlt : j < m
    · obtain ⟨l, hl⟩ : ∃ l, M[j]? = some l := ⟨_, List.getElem?_eq_getElem (by rw [HMM.out]; exact hlt)⟩
      have hlL : L1[j]? = some l := by
        have := hl
        rw [← HM.out, List.getElem?_take, if_pos (by omega)] at this
        exact this
      obtain ⟨ad, Al, cl, rfl, ca, hcl⟩ := (HA.out.on hbw).get hlL
      obtain ⟨hwf, hlm⟩ := HZ.out l (List.mem_of_getElem? hlL)
      obtain ⟨r, hr⟩ : ∃ r, rtOf l = r := ⟨_, rfl⟩
      have hrr := rtOf_right l
      rw [hr] at hrr
      obtain ⟨nl, hnl⟩ : ∃ n, l.length = n := ⟨_, rfl⟩
      rw [hnl] at hlm ca
      have HR := Lib.hid hr
      have HRR := Lib.hid hrr
      have HNL := Lib.hid hnl
      have HWF := Lib.hid hwf
      have HCL := Lib.hid hcl
      have HNX : Hid ((M.take (j + 1)).map rtOf = (M.take j).map rtOf ++ [r]) := Lib.hid (by rw [List.take_add_one, hl, List.map_append, ← hr]; rfl)
      have j0 : (0 : Int) ≤ (j : Int) := by omega
      have j1 : (j : Int) < (N : Int) := by omega
      have j2 : (j : Int) < 8 := by omega
      obtain ⟨hs, h1, h2, h3, h4, h5, h6⟩ := hown
      have H1 := Lib.hid h1
      have H2 := Lib.hid h2
      have H3 := Lib.hid h3
      have H4 := Lib.hid h4
      have H6 := Lib.hid h6
      clear hl hlL hr hrr hnl hwf hcl h1 h2 h3 h4 h6
      go_wp2_with (first
        | (go_at_call 14; (with_reducible refine (Route_gives l r HR nl HNL HWF.out hlm HCL.out).mono ?_); rintro e w2 ⟨Ar, cr, rfl, ho, hle, hb2⟩)
        | (refine wpList_append_own _ rfl _ _ 28 rfl w.heap.size 24 i0 (.agg #[.int .i64 0, .int .i64 0, .slice none 0 0]) 3 40 Tryd.underlying28 hi hz0 hz1 hz2 rfl (by decide) _ _ _ rfl ((own_below H3.out hb2).alloc _) ⟨w2.heap.size, 0, none⟩ 1 1 [.int .i64 r.kind, .int .i64 r.cost, .slice Ar r.path.length cr] rfl rfl (cells_new _ _ _) (by simp [Value.oneCell']) (by unfold maxLen; omega) (by omega) (by have := hb2.size; simp; omega) ?_; intro v' w4 hown4 hgrow4 _; obtain ⟨A4, c4, rfl, hc4⟩ := own_formA hown4; have hbn := hb2.trans ((below_new w2 (.cells #[.int .i64 r.kind, .int .i64 r.cost, .slice Ar r.path.length cr] 24)).mono hb2.size); have hnext := RtsOwn.next H1.out H2.out (own_below H3.out hbn) H4.out (Nat.le_trans h5 hbn.size) (fun i x q e1 e2 => (H6.out i x q e1 e2).go h5 hbn) (.inl ((own_base ho h5).alloc _)) HRR.out hown4 hgrow4; have hb4 := (below_on hbw hbn).grown hgrow4 (Nat.le_trans h5 hbn.size) (fun g hg => (H3.out.lt g hg).1)))
      go_roundw
      case rel => exact ⟨j + 1, A4, c4, by omega, by go_num, rfl, by rw [HNX.out]; exact hnext, hb4⟩
      case measure => simp [intOf]; omega
    · have hjm : j = m := by omega
      subst hjm
      have hcase : ¬ (j : Int) < (N : Int) ∨ ((j : Int) < (N : Int) ∧ ¬ (j : Int) < 8) := by
        by_cases e1 : (j : Int) < (N : Int)
        · by_cases e2 : (j : Int) < 8
          · exact absurd (HT3.out j e1 e2) (by omega)
          · exact .inr ⟨e1, e2⟩
        · exact .inl e1
      obtain ⟨R, hR⟩ : ∃ R, (M.take j).map rtOf = R := ⟨_, rfl⟩
      rw [hR] at hown
      have hRn : R.length = j := by obtain ⟨hs, h1, h2, _⟩ := hown; exact h2
      have hRr : ∀ r ∈ R, rtRight r = true := by obtain ⟨hs, h1, h2, h3, h4, _⟩ := hown; exact h4
      obtain ⟨km, hkm, hkl⟩ := pickN_nat x1 (j + 1) (by omega)
      have hkm' : pickN x1 ((j : Int) + 1) = (km : Int) := by rw [← hkm]; rfl
      obtain ⟨b, hb⟩ : ∃ b, rtBest R = b := ⟨_, rfl⟩
      have HKM := Lib.hid hkm'
      have HB := Lib.hid hb
      have HRN := Lib.hid hRn
      have HRR := Lib.hid hRr
      have HOWN := Lib.hid hown
      have HLE : Hid (j ≤ c) := Lib.hid (by obtain ⟨hs, h1, h2, h3, _⟩ := hown; obtain ⟨A', c', e, hc⟩ := own_formA h3; injection e with _ _ e; omega)
      have HBL : Hid (b.path.length ≤ 12) := Lib.hid (by rw [← hb]; exact rt_len (best_right hRr))
      clear hR hkm hkm' hb hRn hRr hown HA HZ HT3
      rcases hcase with hc | ⟨hc, hc2⟩
      · go_upto_region 9 with (first
          | (go_at_call 25; (with_reducible refine (pick6_is x1 ((j : Int) + 1) (km : Int) hx1 (by omega) (by omega) HKM _).mono ?_); rintro e w2 ⟨rfl, rfl⟩)
          | (go_at_call 23; (with_reducible refine (best_call R b HB j HRN HRR.out HOWN.out.at_ (by omega)).mono ?_); rintro e w3 ⟨Ab, cb, rfl, hob, hleb, hb3⟩))
        -- the list, and its pieces
        have B1 : RB w w3.heap.size b Ab b.path.length cb (w3.alloc (.cells #[.int .i64 b.kind, .int .i64 b.cost, .slice Ab b.path.length cb] 24)) := RB.new hbw hT hb3 ⟨rfl, (RowAt.of_own hob).cells, by have := HBL.out; omega⟩
        have hl1 := (HOWN.out.at_.on hb3).on (below_new w3 (.cells #[.int .i64 b.kind, .int .i64 b.cost, .slice Ab b.path.length cb] 24))
        obtain ⟨W1, hW1⟩ : ∃ W, W = w3.alloc (.cells #[.int .i64 b.kind, .int .i64 b.cost, .slice Ab b.path.length cb] 24) := ⟨_, rfl⟩
        rw [← hW1] at B1 hl1 ⊢
        clear hW1 hob
        obtain ⟨hs, HH⟩ := hl1.h
        obtain ⟨AD, hAD⟩ : ∃ AD, AD = (if c = km then A else A.map (·.add (km * 3))) := ⟨_, rfl⟩
        have hdr := HH.drop km (A' := AD) (fun hk => by rw [hAD, if_neg (by rw [HRN.out] at hk; have := HLE.out; omega)])
        have htk := HH.take km
        have s1 : ∀ W : World, (Instr.slice 28 (.slice A j c) (some (.int .i64 (km : Int))) none none).run Tryd.prog W = .ok (.slice AD (j - km) (c - km)) W := fun W => by
          rw [run_slice_l W 28 A j c (by kernel_rfl) .i64 (km : Int) (by omega) (by omega), Int.toNat_natCast, hAD]
          rfl
        have s2 : ∀ W : World, (Instr.slice 28 (.slice A j c) none (some (.int .i64 (km : Int))) none).run Tryd.prog W = .ok (.slice A km c) W := fun W => by
          rw [run_slice_h W 28 A j c (by kernel_rfl) .i64 (km : Int) (by omega) (by have := HLE.out; omega), Int.toNat_natCast]
          show Result.ok (Value.slice (if c = 0 then A else A.map (·.add (0 * 3))) (km - 0) (c - 0)) W = _
          have : A.map (·.add (0 * 3)) = A := by cases A <;> rfl
          rw [this, ite_self]; rfl
        have S1 := Lib.hid s1
        have S2 := Lib.hid s2
        clear hAD
        have hcd : (R.drop km).length = j - km := by rw [List.length_drop, HRN.out]
        have hct : (R.take km).length = km := by rw [List.length_take, HRN.out]; omega
        have HCD := Lib.hid hcd
        have HCT := Lib.hid hct
        have HRD : Hid (∀ r ∈ R.drop km, rtRight r = true) := Lib.hid fun r h => HRR.out r (List.mem_of_mem_drop h)
        have HRT : Hid (∀ r ∈ R.take km, rtRight r = true) := Lib.hid fun r h => HRR.out r (List.mem_of_mem_take h)
        have HBT : Hid (rtBest (R.drop km ++ R) = b) := Lib.hid ((best_turned HRR.out km).trans HB.out)
        have hkj : km ≤ j := by omega
        have hkj2 : ((j - km : Nat) : Int) = (j : Int) - (km : Int) := by omega
        have HDR := Lib.hid hdr
        have HTK := Lib.hid htk
        have HHH := Lib.hid HH
        have hn1 : ((R.drop km).zip (hs.drop km)).flatMap rtC = ((R.drop km).zip (hs.drop km)).flatMap rtC := rfl
        have hl2 : (((R.drop km).zip (hs.drop km)).flatMap rtC).length = (j - km) * 3 := by rw [rtC_len, List.length_zip, hcd, List.length_drop, HH.len, HRN.out, Nat.min_self]
        have hl3 : ((R.zip hs).flatMap rtC).length = j * 3 := by rw [rtC_len, List.length_zip, HH.len, HRN.out, Nat.min_self]
        have HL2 := Lib.hid hl2
        have HL3 := Lib.hid hl3
        have hu1 := B1.up
        clear hn1 hl2 hl3 hdr htk HH hl1 hcd hct hkj2
        go_upto_region 10 with (first
          | (refine wpList_append_cells _ rfl _ _ 28 rfl W1.heap.size 24 i0 (.agg #[.int .i64 0, .int .i64 0, .slice none 0 0]) 3 40 Tryd.underlying28 hi hz0 hz1 hz2 rfl (by decide) _ (j - km) _ rfl hown5 _ A j c ((R.zip hs).flatMap rtC) rfl HL3.out (HHH.out.on hq5).cells (rtC_one _) (by omega) (by omega) hq5.size ?_; intro v7 u7 hown7 hgrow7; have hq7 : Below W1.heap.size W1 u7 := hq5.grown hgrow7 hq5.size (fun g hg => (hown5.lt g hg).1); obtain ⟨A7, c7, rfl, hc7⟩ := own_formA hown7; have hj7 := HDR.out.join HHH.out hq7 hown7)
          | (refine wpList_append_cells _ rfl _ _ 28 rfl W1.heap.size 24 i0 (.agg #[.int .i64 0, .int .i64 0, .slice none 0 0]) 3 40 Tryd.underlying28 hi hz0 hz1 hz2 rfl (by decide) _ 0 [] rfl (World.ownsRow_nil _ _ _ _) _ AD (j - km) (c - km) (((R.drop km).zip (hs.drop km)).flatMap rtC) rfl HL2.out HDR.out.cells (rtC_one _) (by omega) (by omega) (Nat.le_refl _) ?_; intro v5 u5 hown5 hgrow5; rw [Nat.zero_add, List.nil_append] at hown5; have hq5 : Below W1.heap.size W1 u5 := (Below.refl _ _).grown hgrow5 (Nat.le_refl _) (fun g hg => by cases hg))
          | (go_at_call 23; (with_reducible refine (best_call (R.drop km ++ R) b HBT _ (Lib.hid (by rw [List.length_append, HCD.out, HRN.out])) (fun r h => by rcases List.mem_append.1 h with h | h; exact HRD.out r h; exact HRR.out r h) hj7.at_ (by omega)).mono ?_); rintro e w8 ⟨Ac, cc, rfl, hoc, hlec, hb8⟩))
        have B2 : RB w w8.heap.size b Ac b.path.length cc (w8.alloc (.cells #[.int .i64 b.kind, .int .i64 b.cost, .slice Ac b.path.length cc] 24)) := RB.new (hu1.trans (hq7.mono hu1.size)) hT hb8 ⟨rfl, (RowAt.of_own hoc).cells, by have := HBL.out; omega⟩
        have hq8 : Below W1.heap.size W1 (w8.alloc (.cells #[.int .i64 b.kind, .int .i64 b.cost, .slice Ac b.path.length cc] 24)) := below_on (below_on hq7 hb8) (below_new _ _)
        obtain ⟨W2, hW2⟩ : ∃ W, W = w8.alloc (.cells #[.int .i64 b.kind, .int .i64 b.cost, .slice Ac b.path.length cc] 24) := ⟨_, rfl⟩
        rw [← hW2] at B2 hq8 ⊢
        clear hW2 hoc hown5 hown7 hgrow5 hgrow7 hq5 hq7 hj7
        obtain ⟨pL, hpL⟩ : ∃ p, rtBest (R.take km) = p := ⟨_, rfl⟩
        obtain ⟨pD, hpD⟩ : ∃ p, rtBest (R.drop km) = p := ⟨_, rfl⟩
        obtain ⟨b3, hb3'⟩ : ∃ p, rtBest [pL, pD] = p := ⟨_, rfl⟩
        have hrL : rtRight pL = true := by rw [← hpL]; exact best_right HRT.out
        have hrD : rtRight pD = true := by rw [← hpD]; exact best_right HRD.out
        have HP2 : Hid (∀ r ∈ [pL, pD], rtRight r = true) := Lib.hid fun r h => by
          simp at h
          rcases h with rfl | rfl
          · exact hrL
          · exact hrD
        have HB3R : Hid (b3.path.length ≤ 12) := Lib.hid (by rw [← hb3']; exact rt_len (best_right HP2.out))
        have HPL := Lib.hid hpL
        have HPD := Lib.hid hpD
        have HB3 := Lib.hid hb3'
        have HLL : Hid (pL.path.length ≤ 12) := Lib.hid (rt_len hrL)
        have HDL : Hid (pD.path.length ≤ 12) := Lib.hid (rt_len hrD)
        clear hpL hpD hb3' hrL hrD
        have HTK2 := HTK.out.on hq8
        have HDR2 := HDR.out.on hq8
        have B1 := B1.go hq8
        have hlR := (HHH.out.on hq8).at_
        clear HTK HDR HHH
        have HTK := Lib.hid HTK2
        have HDR := Lib.hid HDR2
        have HP3 : Hid (0 < km → km < j → b3 = b) := Lib.hid fun h1 h2 => by rw [← HB3.out, ← HPL.out, ← HPD.out, best_parts HRR.out h1 (by rw [HRN.out]; exact h2), HB.out]
        clear HTK2 HDR2 hq8
        have hq8 := Below.refl W2.heap.size W2
        have hq8d := hq8.drew
        have hup2 := B2.up
        go_region_held3 (fun w' => True) (go_keep) (first
          | (go_at_call 23; (with_reducible refine (best_call (R.take km) pL HPL km HCT HRT.out (HTK.out.on hq8d).at_ (by omega)).mono ?_); rintro e y1 ⟨AL, cL, rfl, hoL, hleL, hy1⟩; have raL : RtAt y1 pL AL pL.path.length := ⟨rfl, (RowAt.of_own hoL).cells, by have := HLL.out; omega⟩; have hq9 := below_on hq8d hy1)
          | (go_at_call 23; (with_reducible refine (best_call (R.take km) pL HPL km HCT HRT.out (HTK.out.on (below_on hq8 (below_new W2 (.cells #[.int .i64 0, .int .i64 0, .slice none 0 0] 24))).drew).at_ (by omega)).mono ?_); rintro e y1 ⟨AL, cL, rfl, hoL, hleL, hy1⟩; have raL : RtAt y1 pL AL pL.path.length := ⟨rfl, (RowAt.of_own hoL).cells, by have := HLL.out; omega⟩; have hq9 := below_on ((below_on hq8 (below_new W2 (.cells #[.int .i64 0, .int .i64 0, .slice none 0 0] 24))).drew) hy1; have k9 := ((Blk.new W2 24 #[.int .i64 0, .int .i64 0, .slice none 0 0]).up ((Below.refl _ _).drew)).up hy1)
          | (go_at_call 23; (with_reducible refine (best_call (R.drop km) pD HPD (j - km) HCD HRD.out (HDR.out.on hq9).at_ (by omega)).mono ?_); rintro e y2 ⟨A8, c8, rfl, hoD, hleD, hy2⟩; have raD : RtAt y2 pD A8 pD.path.length := ⟨rfl, (RowAt.of_own hoD).cells, by have := HDL.out; omega⟩; have hqa := below_on hq9 hy2; have raL2 := raL.on hy2; (try replace k9 := k9.up hy2))
          | (go_at_call 23; (with_reducible refine (best_call (R.drop km) pD HPD (j - km) HCD HRD.out (HDR.out.on (below_on hq9 (below_new y1 (.cells #[.int .i64 0, .int .i64 0, .slice none 0 0] 24)))).at_ (by omega)).mono ?_); rintro e y2 ⟨A8, c8, rfl, hoD, hleD, hy2⟩; have raD : RtAt y2 pD A8 pD.path.length := ⟨rfl, (RowAt.of_own hoD).cells, by have := HDL.out; omega⟩; have hqa := below_on (below_on hq9 (below_new y1 (.cells #[.int .i64 0, .int .i64 0, .slice none 0 0] 24))) hy2; have raL2 := (raL.box (.cells #[.int .i64 0, .int .i64 0, .slice none 0 0] 24)).on hy2; have k9 := (Blk.new y1 24 #[.int .i64 0, .int .i64 0, .slice none 0 0]).up hy2)
          | (go_at_call 23; (with_reducible refine (best_call [pL, pD] b3 HB3 2 (Lib.hid rfl) HP2.out (RtsAt.two (c := cL) (c' := c8) raL2 raD) (by omega)).mono ?_); rintro e y3 ⟨A9, c9, rfl, ho9, hle9, hy3⟩; have hqb := below_on (below_on hqa (below_new y2 (.cells #[.int .i64 pL.kind, .int .i64 pL.cost, .slice AL pL.path.length cL, .int .i64 pD.kind, .int .i64 pD.cost, .slice A8 pD.path.length c8] 24))) hy3; have k9' := (k9.alloc (.cells #[.int .i64 pL.kind, .int .i64 pL.cost, .slice AL pL.path.length cL, .int .i64 pD.kind, .int .i64 pD.cost, .slice A8 pD.path.length c8] 24)).up hy3; replace k9 := k9'; have g0 := k9.cell 0; have g1 := k9.cell 1; have g2 := k9.cell 2; have f0 := k9.frozen 0; have f1 := k9.frozen 1; have f2 := k9.frozen 2)
          | (go_at_call 23; (with_reducible refine (best_call [pL, pD] b3 HB3 2 (Lib.hid rfl) HP2.out (RtsAt.two (c := cL) (c' := c8) raL2 raD) (by omega)).mono ?_); rintro e y3 ⟨A9, c9, rfl, ho9, hle9, hy3⟩; have hqb := below_on (below_on hqa (below_new y2 (.cells #[.int .i64 pL.kind, .int .i64 pL.cost, .slice AL pL.path.length cL, .int .i64 pD.kind, .int .i64 pD.cost, .slice A8 pD.path.length c8] 24))) hy3)
          | (go_at_call 23; (with_reducible refine (best_call [pL, pD] b3 HB3 2 (Lib.hid rfl) HP2.out ((RtsAt.two (c := cL) (c' := c8) raL2 raD).on (below_new (y2.alloc (.cells #[.int .i64 pL.kind, .int .i64 pL.cost, .slice AL pL.path.length cL, .int .i64 pD.kind, .int .i64 pD.cost, .slice A8 pD.path.length c8] 24)) (.cells #[.int .i64 0, .int .i64 0, .slice none 0 0] 24))) (by omega)).mono ?_); rintro e y3 ⟨A9, c9, rfl, ho9, hle9, hy3⟩; have hqb := below_on (below_on (below_on hqa (below_new y2 (.cells #[.int .i64 pL.kind, .int .i64 pL.cost, .slice AL pL.path.length cL, .int .i64 pD.kind, .int .i64 pD.cost, .slice A8 pD.path.length c8] 24))) (below_new (y2.alloc (.cells #[.int .i64 pL.kind, .int .i64 pL.cost, .slice AL pL.path.length cL, .int .i64 pD.kind, .int .i64 pD.cost, .slice A8 pD.path.length c8] 24)) (.cells #[.int .i64 0, .int .i64 0, .slice none 0 0] 24))) hy3; have k9 := (Blk.new (y2.alloc (.cells #[.int .i64 pL.kind, .int .i64 pL.cost, .slice AL pL.path.length cL, .int .i64 pD.kind, .int .i64 pD.cost, .slice A8 pD.path.length c8] 24)) 24 #[.int .i64 0, .int .i64 0, .slice none 0 0]).up hy3; rw [World.size_alloc] at k9; have g0 := k9.cell 0; have g1 := k9.cell 1; have g2 := k9.cell 2; have f0 := k9.frozen 0; have f1 := k9.frozen 1; have f2 := k9.frozen 2)
          | (go_at_call 23; (with_reducible refine (best_call [pL, pD] b3 HB3 2 (Lib.hid rfl) HP2.out (RtsAt.two_at (c := cL) (c' := c8) (y2.heap.size + 1) (World.size_alloc y2 (.cells #[.int .i64 0, .int .i64 0, .slice none 0 0] 24)) (raL2.box (.cells #[.int .i64 0, .int .i64 0, .slice none 0 0] 24)) (raD.box (.cells #[.int .i64 0, .int .i64 0, .slice none 0 0] 24))) (by omega)).mono ?_); rintro e y3 ⟨A9, c9, rfl, ho9, hle9, hy3⟩; have hqb := below_on (below_on (below_on hqa (below_new y2 (.cells #[.int .i64 0, .int .i64 0, .slice none 0 0] 24))) (below_new (y2.alloc (.cells #[.int .i64 0, .int .i64 0, .slice none 0 0] 24)) (.cells #[.int .i64 pL.kind, .int .i64 pL.cost, .slice AL pL.path.length cL, .int .i64 pD.kind, .int .i64 pD.cost, .slice A8 pD.path.length c8] 24))) hy3; have k9 := ((Blk.new y2 24 #[.int .i64 0, .int .i64 0, .slice none 0 0]).alloc (.cells #[.int .i64 pL.kind, .int .i64 pL.cost, .slice AL pL.path.length cL, .int .i64 pD.kind, .int .i64 pD.cost, .slice A8 pD.path.length c8] 24)).up hy3; have g0 := k9.cell 0; have g1 := k9.cell 1; have g2 := k9.cell 2; have f0 := k9.frozen 0; have f1 := k9.frozen 1; have f2 := k9.frozen 2))
        all_goals first
          | (have hqe := below_on hqb (below_new y3 (.cells #[.int .i64 b3.kind, .int .i64 b3.cost, .slice A9 b3.path.length c9] 24))
             have B3 : RB w y3.heap.size b3 A9 b3.path.length c9 (y3.alloc (.cells #[.int .i64 b3.kind, .int .i64 b3.cost, .slice A9 b3.path.length c9] 24)) := RB.new hup2 hT hqb ⟨rfl, (RowAt.of_own ho9).cells, by have := HB3R.out; omega⟩
             repeat (first | exact attrBest_rest w _ R b b3 A Ab Ac A9 j c km w3.heap.size w8.heap.size y3.heap.size b3.path.length cb cc c9 (B1.go hqe) (B2.go hqe) B3 (hlR.on hqe) HRN ht2 HRR HB HP3 hkj _ _ _ _ _ _ _ _ _ _ _ _ _ _ _ _ _ _ _ _ _ _ _ _ _ _ _ _ _ _ _ _ _ _ _ _ _ _ _ _ _ _ _ _ _ _ _ _ _ _ _ _ _ _ _ _ _ _ _ _ _ _ _ _ _ _ _ _ _ _ _ _ _ _ _ _ _ _ _ _ _ _ _ _ _ _ _ _ _ _ _ _ _ _ _ _ _ _ _ | go_step)
             done)
          | (have hg : W2.heap.size ≤ (y2.heap.size + 1) := by have z1 := hq9.size; have z2 := hqa.size; omega
             have q0 : Blk y3 (y2.heap.size + 1) 24 #[.int .i64 0, .int .i64 0, .slice none 0 0] := k9
             have q1 := q0.set_ 0 (.int .i64 b3.kind)
             have q2 := q1.set_ 1 (.int .i64 b3.cost)
             have q3 := q2.set_ 2 (.slice A9 b3.path.length c9)
             have o1 := own_setA ho9 q0 (by decide) 0 (.int .i64 b3.kind)
             have o2 := own_setA o1 q1 (by decide) 1 (.int .i64 b3.cost)
             have o3 := own_setA o2 q2 (by decide) 2 (.slice A9 b3.path.length c9)
             have hqe := ((hqb.setCell (p := ⟨(y2.heap.size + 1), 0, none⟩) hg (.int .i64 b3.kind)).setCell (p := ⟨(y2.heap.size + 1), 1, none⟩) hg (.int .i64 b3.cost)).setCell (p := ⟨(y2.heap.size + 1), 2, none⟩) hg (.slice A9 b3.path.length c9)
             have B3 : RB w (y2.heap.size + 1) b3 A9 b3.path.length c9 (((y3.setCell ⟨(y2.heap.size + 1), 0, none⟩ (.int .i64 b3.kind)).setCell ⟨(y2.heap.size + 1), 1, none⟩ (.int .i64 b3.cost)).setCell ⟨(y2.heap.size + 1), 2, none⟩ (.slice A9 b3.path.length c9)) := ⟨q3, ⟨rfl, (RowAt.of_own o3).cells, by have := HB3R.out; omega⟩, hup2.trans (hqe.mono hup2.size), hT.on (hup2.trans (hqe.mono hup2.size))⟩
             repeat (first | exact attrBest_rest w _ R b b3 A Ab Ac A9 j c km w3.heap.size w8.heap.size (y2.heap.size + 1) b3.path.length cb cc c9 (B1.go hqe) (B2.go hqe) B3 (hlR.on hqe) HRN ht2 HRR HB HP3 hkj _ _ _ _ _ _ _ _ _ _ _ _ _ _ _ _ _ _ _ _ _ _ _ _ _ _ _ _ _ _ _ _ _ _ _ _ _ _ _ _ _ _ _ _ _ _ _ _ _ _ _ _ _ _ _ _ _ _ _ _ _ _ _ _ _ _ _ _ _ _ _ _ _ _ _ _ _ _ _ _ _ _ _ _ _ _ _ _ _ _ _ _ _ _ _ _ _ _ _ | go_step)
             done)
          | (have hg : W2.heap.size ≤ y2.heap.size := by have z1 := hq9.size; have z2 := hqa.size; omega
             have q0 : Blk y3 y2.heap.size 24 #[.int .i64 0, .int .i64 0, .slice none 0 0] := k9
             have q1 := q0.set_ 0 (.int .i64 b3.kind)
             have q2 := q1.set_ 1 (.int .i64 b3.cost)
             have q3 := q2.set_ 2 (.slice A9 b3.path.length c9)
             have o1 := own_setA ho9 q0 (by decide) 0 (.int .i64 b3.kind)
             have o2 := own_setA o1 q1 (by decide) 1 (.int .i64 b3.cost)
             have o3 := own_setA o2 q2 (by decide) 2 (.slice A9 b3.path.length c9)
             have hqe := ((hqb.setCell (p := ⟨y2.heap.size, 0, none⟩) hg (.int .i64 b3.kind)).setCell (p := ⟨y2.heap.size, 1, none⟩) hg (.int .i64 b3.cost)).setCell (p := ⟨y2.heap.size, 2, none⟩) hg (.slice A9 b3.path.length c9)
             have B3 : RB w y2.heap.size b3 A9 b3.path.length c9 (((y3.setCell ⟨y2.heap.size, 0, none⟩ (.int .i64 b3.kind)).setCell ⟨y2.heap.size, 1, none⟩ (.int .i64 b3.cost)).setCell ⟨y2.heap.size, 2, none⟩ (.slice A9 b3.path.length c9)) := ⟨q3, ⟨rfl, (RowAt.of_own o3).cells, by have := HB3R.out; omega⟩, hup2.trans (hqe.mono hup2.size), hT.on (hup2.trans (hqe.mono hup2.size))⟩
             repeat (first | exact attrBest_rest w _ R b b3 A Ab Ac A9 j c km w3.heap.size w8.heap.size y2.heap.size b3.path.length cb cc c9 (B1.go hqe) (B2.go hqe) B3 (hlR.on hqe) HRN ht2 HRR HB HP3 hkj _ _ _ _ _ _ _ _ _ _ _ _ _ _ _ _ _ _ _ _ _ _ _ _ _ _ _ _ _ _ _ _ _ _ _ _ _ _ _ _ _ _ _ _ _ _ _ _ _ _ _ _ _ _ _ _ _ _ _ _ _ _ _ _ _ _ _ _ _ _ _ _ _ _ _ _ _ _ _ _ _ _ _ _ _ _ _ _ _ _ _ _ _ _ _ _ _ _ _ | go_step)
             done)
          | (have hg : W2.heap.size ≤ y1.heap.size := by have z1 := hq9.size; have z2 := hqa.size; omega
             have q0 : Blk y3 y1.heap.size 24 #[.int .i64 0, .int .i64 0, .slice none 0 0] := k9
             have q1 := q0.set_ 0 (.int .i64 b3.kind)
             have q2 := q1.set_ 1 (.int .i64 b3.cost)
             have q3 := q2.set_ 2 (.slice A9 b3.path.length c9)
             have o1 := own_setA ho9 q0 (by decide) 0 (.int .i64 b3.kind)
             have o2 := own_setA o1 q1 (by decide) 1 (.int .i64 b3.cost)
             have o3 := own_setA o2 q2 (by decide) 2 (.slice A9 b3.path.length c9)
             have hqe := ((hqb.setCell (p := ⟨y1.heap.size, 0, none⟩) hg (.int .i64 b3.kind)).setCell (p := ⟨y1.heap.size, 1, none⟩) hg (.int .i64 b3.cost)).setCell (p := ⟨y1.heap.size, 2, none⟩) hg (.slice A9 b3.path.length c9)
             have B3 : RB w y1.heap.size b3 A9 b3.path.length c9 (((y3.setCell ⟨y1.heap.size, 0, none⟩ (.int .i64 b3.kind)).setCell ⟨y1.heap.size, 1, none⟩ (.int .i64 b3.cost)).setCell ⟨y1.heap.size, 2, none⟩ (.slice A9 b3.path.length c9)) := ⟨q3, ⟨rfl, (RowAt.of_own o3).cells, by have := HB3R.out; omega⟩, hup2.trans (hqe.mono hup2.size), hT.on (hup2.trans (hqe.mono hup2.size))⟩
             repeat (first | exact attrBest_rest w _ R b b3 A Ab Ac A9 j c km w3.heap.size w8.heap.size y1.heap.size b3.path.length cb cc c9 (B1.go hqe) (B2.go hqe) B3 (hlR.on hqe) HRN ht2 HRR HB HP3 hkj _ _ _ _ _ _ _ _ _ _ _ _ _ _ _ _ _ _ _ _ _ _ _ _ _ _ _ _ _ _ _ _ _ _ _ _ _ _ _ _ _ _ _ _ _ _ _ _ _ _ _ _ _ _ _ _ _ _ _ _ _ _ _ _ _ _ _ _ _ _ _ _ _ _ _ _ _ _ _ _ _ _ _ _ _ _ _ _ _ _ _ _ _ _ _ _ _ _ _ | go_step)
             done)
          | (have hg : W2.heap.size ≤ W2.heap.size := by have z1 := hq9.size; have z2 := hqa.size; omega
             have q0 : Blk y3 W2.heap.size 24 #[.int .i64 0, .int .i64 0, .slice none 0 0] := k9
             have q1 := q0.set_ 0 (.int .i64 b3.kind)
             have q2 := q1.set_ 1 (.int .i64 b3.cost)
             have q3 := q2.set_ 2 (.slice A9 b3.path.length c9)
             have o1 := own_setA ho9 q0 (by decide) 0 (.int .i64 b3.kind)
             have o2 := own_setA o1 q1 (by decide) 1 (.int .i64 b3.cost)
             have o3 := own_setA o2 q2 (by decide) 2 (.slice A9 b3.path.length c9)
             have hqe := ((hqb.setCell (p := ⟨W2.heap.size, 0, none⟩) hg (.int .i64 b3.kind)).setCell (p := ⟨W2.heap.size, 1, none⟩) hg (.int .i64 b3.cost)).setCell (p := ⟨W2.heap.size, 2, none⟩) hg (.slice A9 b3.path.length c9)
             have B3 : RB w W2.heap.size b3 A9 b3.path.length c9 (((y3.setCell ⟨W2.heap.size, 0, none⟩ (.int .i64 b3.kind)).setCell ⟨W2.heap.size, 1, none⟩ (.int .i64 b3.cost)).setCell ⟨W2.heap.size, 2, none⟩ (.slice A9 b3.path.length c9)) := ⟨q3, ⟨rfl, (RowAt.of_own o3).cells, by have := HB3R.out; omega⟩, hup2.trans (hqe.mono hup2.size), hT.on (hup2.trans (hqe.mono hup2.size))⟩
             repeat (first | exact attrBest_rest w _ R b b3 A Ab Ac A9 j c km w3.heap.size w8.heap.size W2.heap.size b3.path.length cb cc c9 (B1.go hqe) (B2.go hqe) B3 (hlR.on hqe) HRN ht2 HRR HB HP3 hkj _ _ _ _ _ _ _ _ _ _ _ _ _ _ _ _ _ _ _ _ _ _ _ _ _ _ _ _ _ _ _ _ _ _ _ _ _ _ _ _ _ _ _ _ _ _ _ _ _ _ _ _ _ _ _ _ _ _ _ _ _ _ _ _ _ _ _ _ _ _ _ _ _ _ _ _ _ _ _ _ _ _ _ _ _ _ _ _ _ _ _ _ _ _ _ _ _ _ _ | go_step)
             done)
      · go_upto_region 9 with (first
          | (go_at_call 25; (with_reducible refine (pick6_is x1 ((j : Int) + 1) (km : Int) hx1 (by omega) (by omega) HKM _).mono ?_); rintro e w2 ⟨rfl, rfl⟩)
          | (go_at_call 23; (with_reducible refine (best_call R b HB j HRN HRR.out HOWN.out.at_ (by omega)).mono ?_); rintro e w3 ⟨Ab, cb, rfl, hob, hleb, hb3⟩))
        -- the list, and its pieces
        have B1 : RB w w3.heap.size b Ab b.path.length cb (w3.alloc (.cells #[.int .i64 b.kind, .int .i64 b.cost, .slice Ab b.path.length cb] 24)) := RB.new hbw hT hb3 ⟨rfl, (RowAt.of_own hob).cells, by have := HBL.out; omega⟩
        have hl1 := (HOWN.out.at_.on hb3).on (below_new w3 (.cells #[.int .i64 b.kind, .int .i64 b.cost, .slice Ab b.path.length cb] 24))
        obtain ⟨W1, hW1⟩ : ∃ W, W = w3.alloc (.cells #[.int .i64 b.kind, .int .i64 b.cost, .slice Ab b.path.length cb] 24) := ⟨_, rfl⟩
        rw [← hW1] at B1 hl1 ⊢
        clear hW1 hob
        obtain ⟨hs, HH⟩ := hl1.h
        obtain ⟨AD, hAD⟩ : ∃ AD, AD = (if c = km then A else A.map (·.add (km * 3))) := ⟨_, rfl⟩
        have hdr := HH.drop km (A' := AD) (fun hk => by rw [hAD, if_neg (by rw [HRN.out] at hk; have := HLE.out; omega)])
        have htk := HH.take km
        have s1 : ∀ W : World, (Instr.slice 28 (.slice A j c) (some (.int .i64 (km : Int))) none none).run Tryd.prog W = .ok (.slice AD (j - km) (c - km)) W := fun W => by
          rw [run_slice_l W 28 A j c (by kernel_rfl) .i64 (km : Int) (by omega) (by omega), Int.toNat_natCast, hAD]
          rfl
        have s2 : ∀ W : World, (Instr.slice 28 (.slice A j c) none (some (.int .i64 (km : Int))) none).run Tryd.prog W = .ok (.slice A km c) W := fun W => by
          rw [run_slice_h W 28 A j c (by kernel_rfl) .i64 (km : Int) (by omega) (by have := HLE.out; omega), Int.toNat_natCast]
          show Result.ok (Value.slice (if c = 0 then A else A.map (·.add (0 * 3))) (km - 0) (c - 0)) W = _
          have : A.map (·.add (0 * 3)) = A := by cases A <;> rfl
          rw [this, ite_self]; rfl
        have S1 := Lib.hid s1
        have S2 := Lib.hid s2
        clear hAD
        have hcd : (R.drop km).length = j - km := by rw [List.length_drop, HRN.out]
        have hct : (R.take km).length = km := by rw [List.length_take, HRN.out]; omega
        have HCD := Lib.hid hcd
        have HCT := Lib.hid hct
        have HRD : Hid (∀ r ∈ R.drop km, rtRight r = true) := Lib.hid fun r h => HRR.out r (List.mem_of_mem_drop h)
        have HRT : Hid (∀ r ∈ R.take km, rtRight r = true) := Lib.hid fun r h => HRR.out r (List.mem_of_mem_take h)
        have HBT : Hid (rtBest (R.drop km ++ R) = b) := Lib.hid ((best_turned HRR.out km).trans HB.out)
        have hkj : km ≤ j := by omega
        have hkj2 : ((j - km : Nat) : Int) = (j : Int) - (km : Int) := by omega
        have HDR := Lib.hid hdr
        have HTK := Lib.hid htk
        have HHH := Lib.hid HH
        have hn1 : ((R.drop km).zip (hs.drop km)).flatMap rtC = ((R.drop km).zip (hs.drop km)).flatMap rtC := rfl
        have hl2 : (((R.drop km).zip (hs.drop km)).flatMap rtC).length = (j - km) * 3 := by rw [rtC_len, List.length_zip, hcd, List.length_drop, HH.len, HRN.out, Nat.min_self]
        have hl3 : ((R.zip hs).flatMap rtC).length = j * 3 := by rw [rtC_len, List.length_zip, HH.len, HRN.out, Nat.min_self]
        have HL2 := Lib.hid hl2
        have HL3 := Lib.hid hl3
        have hu1 := B1.up
        clear hn1 hl2 hl3 hdr htk HH hl1 hcd hct hkj2
        go_upto_region 10 with (first
          | (refine wpList_append_cells _ rfl _ _ 28 rfl W1.heap.size 24 i0 (.agg #[.int .i64 0, .int .i64 0, .slice none 0 0]) 3 40 Tryd.underlying28 hi hz0 hz1 hz2 rfl (by decide) _ (j - km) _ rfl hown5 _ A j c ((R.zip hs).flatMap rtC) rfl HL3.out (HHH.out.on hq5).cells (rtC_one _) (by omega) (by omega) hq5.size ?_; intro v7 u7 hown7 hgrow7; have hq7 : Below W1.heap.size W1 u7 := hq5.grown hgrow7 hq5.size (fun g hg => (hown5.lt g hg).1); obtain ⟨A7, c7, rfl, hc7⟩ := own_formA hown7; have hj7 := HDR.out.join HHH.out hq7 hown7)
          | (refine wpList_append_cells _ rfl _ _ 28 rfl W1.heap.size 24 i0 (.agg #[.int .i64 0, .int .i64 0, .slice none 0 0]) 3 40 Tryd.underlying28 hi hz0 hz1 hz2 rfl (by decide) _ 0 [] rfl (World.ownsRow_nil _ _ _ _) _ AD (j - km) (c - km) (((R.drop km).zip (hs.drop km)).flatMap rtC) rfl HL2.out HDR.out.cells (rtC_one _) (by omega) (by omega) (Nat.le_refl _) ?_; intro v5 u5 hown5 hgrow5; rw [Nat.zero_add, List.nil_append] at hown5; have hq5 : Below W1.heap.size W1 u5 := (Below.refl _ _).grown hgrow5 (Nat.le_refl _) (fun g hg => by cases hg))
          | (go_at_call 23; (with_reducible refine (best_call (R.drop km ++ R) b HBT _ (Lib.hid (by rw [List.length_append, HCD.out, HRN.out])) (fun r h => by rcases List.mem_append.1 h with h | h; exact HRD.out r h; exact HRR.out r h) hj7.at_ (by omega)).mono ?_); rintro e w8 ⟨Ac, cc, rfl, hoc, hlec, hb8⟩))
        have B2 : RB w w8.heap.size b Ac b.path.length cc (w8.alloc (.cells #[.int .i64 b.kind, .int .i64 b.cost, .slice Ac b.path.length cc] 24)) := RB.new (hu1.trans (hq7.mono hu1.size)) hT hb8 ⟨rfl, (RowAt.of_own hoc).cells, by have := HBL.out; omega⟩
        have hq8 : Below W1.heap.size W1 (w8.alloc (.cells #[.int .i64 b.kind, .int .i64 b.cost, .slice Ac b.path.length cc] 24)) := below_on (below_on hq7 hb8) (below_new _ _)
        obtain ⟨W2, hW2⟩ : ∃ W, W = w8.alloc (.cells #[.int .i64 b.kind, .int .i64 b.cost, .slice Ac b.path.length cc] 24) := ⟨_, rfl⟩
        rw [← hW2] at B2 hq8 ⊢
        clear hW2 hoc hown5 hown7 hgrow5 hgrow7 hq5 hq7 hj7
        obtain ⟨pL, hpL⟩ : ∃ p, rtBest (R.take km) = p := ⟨_, rfl⟩
        obtain ⟨pD, hpD⟩ : ∃ p, rtBest (R.drop km) = p := ⟨_, rfl⟩
        obtain ⟨b3, hb3'⟩ : ∃ p, rtBest [pL, pD] = p := ⟨_, rfl⟩
        have hrL : rtRight pL = true := by rw [← hpL]; exact best_right HRT.out
        have hrD : rtRight pD = true := by rw [← hpD]; exact best_right HRD.out
        have HP2 : Hid (∀ r ∈ [pL, pD], rtRight r = true) := Lib.hid fun r h => by
          simp at h
          rcases h with rfl | rfl
          · exact hrL
          · exact hrD
        have HB3R : Hid (b3.path.length ≤ 12) := Lib.hid (by rw [← hb3']; exact rt_len (best_right HP2.out))
        have HPL := Lib.hid hpL
        have HPD := Lib.hid hpD
        have HB3 := Lib.hid hb3'
        have HLL : Hid (pL.path.length ≤ 12) := Lib.hid (rt_len hrL)
        have HDL : Hid (pD.path.length ≤ 12) := Lib.hid (rt_len hrD)
        clear hpL hpD hb3' hrL hrD
        have HTK2 := HTK.out.on hq8
        have HDR2 := HDR.out.on hq8
        have B1 := B1.go hq8
        have hlR := (HHH.out.on hq8).at_
        clear HTK HDR HHH
        have HTK := Lib.hid HTK2
        have HDR := Lib.hid HDR2
        have HP3 : Hid (0 < km → km < j → b3 = b) := Lib.hid fun h1 h2 => by rw [← HB3.out, ← HPL.out, ← HPD.out, best_parts HRR.out h1 (by rw [HRN.out]; exact h2), HB.out]
        clear HTK2 HDR2 hq8
        have hq8 := Below.refl W2.heap.size W2
        have hq8d := hq8.drew
        have hup2 := B2.up
        go_region_held3 (fun w' => True) (go_keep) (first
          | (go_at_call 23; (with_reducible refine (best_call (R.take km) pL HPL km HCT HRT.out (HTK.out.on hq8d).at_ (by omega)).mono ?_); rintro e y1 ⟨AL, cL, rfl, hoL, hleL, hy1⟩; have raL : RtAt y1 pL AL pL.path.length := ⟨rfl, (RowAt.of_own hoL).cells, by have := HLL.out; omega⟩; have hq9 := below_on hq8d hy1)
          | (go_at_call 23; (with_reducible refine (best_call (R.take km) pL HPL km HCT HRT.out (HTK.out.on (below_on hq8 (below_new W2 (.cells #[.int .i64 0, .int .i64 0, .slice none 0 0] 24))).drew).at_ (by omega)).mono ?_); rintro e y1 ⟨AL, cL, rfl, hoL, hleL, hy1⟩; have raL : RtAt y1 pL AL pL.path.length := ⟨rfl, (RowAt.of_own hoL).cells, by have := HLL.out; omega⟩; have hq9 := below_on ((below_on hq8 (below_new W2 (.cells #[.int .i64 0, .int .i64 0, .slice none 0 0] 24))).drew) hy1; have k9 := ((Blk.new W2 24 #[.int .i64 0, .int .i64 0, .slice none 0 0]).up ((Below.refl _ _).drew)).up hy1)
          | (go_at_call 23; (with_reducible refine (best_call (R.drop km) pD HPD (j - km) HCD HRD.out (HDR.out.on hq9).at_ (by omega)).mono ?_); rintro e y2 ⟨A8, c8, rfl, hoD, hleD, hy2⟩; have raD : RtAt y2 pD A8 pD.path.length := ⟨rfl, (RowAt.of_own hoD).cells, by have := HDL.out; omega⟩; have hqa := below_on hq9 hy2; have raL2 := raL.on hy2; (try replace k9 := k9.up hy2))
          | (go_at_call 23; (with_reducible refine (best_call (R.drop km) pD HPD (j - km) HCD HRD.out (HDR.out.on (below_on hq9 (below_new y1 (.cells #[.int .i64 0, .int .i64 0, .slice none 0 0] 24)))).at_ (by omega)).mono ?_); rintro e y2 ⟨A8, c8, rfl, hoD, hleD, hy2⟩; have raD : RtAt y2 pD A8 pD.path.length := ⟨rfl, (RowAt.of_own hoD).cells, by have := HDL.out; omega⟩; have hqa := below_on (below_on hq9 (below_new y1 (.cells #[.int .i64 0, .int .i64 0, .slice none 0 0] 24))) hy2; have raL2 := (raL.box (.cells #[.int .i64 0, .int .i64 0, .slice none 0 0] 24)).on hy2; have k9 := (Blk.new y1 24 #[.int .i64 0, .int .i64 0, .slice none 0 0]).up hy2)
          | (go_at_call 23; (with_reducible refine (best_call [pL, pD] b3 HB3 2 (Lib.hid rfl) HP2.out (RtsAt.two (c := cL) (c' := c8) raL2 raD) (by omega)).mono ?_); rintro e y3 ⟨A9, c9, rfl, ho9, hle9, hy3⟩; have hqb := below_on (below_on hqa (below_new y2 (.cells #[.int .i64 pL.kind, .int .i64 pL.cost, .slice AL pL.path.length cL, .int .i64 pD.kind, .int .i64 pD.cost, .slice A8 pD.path.length c8] 24))) hy3; have k9' := (k9.alloc (.cells #[.int .i64 pL.kind, .int .i64 pL.cost, .slice AL pL.path.length cL, .int .i64 pD.kind, .int .i64 pD.cost, .slice A8 pD.path.length c8] 24)).up hy3; replace k9 := k9'; have g0 := k9.cell 0; have g1 := k9.cell 1; have g2 := k9.cell 2; have f0 := k9.frozen 0; have f1 := k9.frozen 1; have f2 := k9.frozen 2)
          | (go_at_call 23; (with_reducible refine (best_call [pL, pD] b3 HB3 2 (Lib.hid rfl) HP2.out (RtsAt.two (c := cL) (c' := c8) raL2 raD) (by omega)).mono ?_); rintro e y3 ⟨A9, c9, rfl, ho9, hle9, hy3⟩; have hqb := below_on (below_on hqa (below_new y2 (.cells #[.int .i64 pL.kind, .int .i64 pL.cost, .slice AL pL.path.length cL, .int .i64 pD.kind, .int .i64 pD.cost, .slice A8 pD.path.length c8] 24))) hy3)
          | (go_at_call 23; (with_reducible refine (best_call [pL, pD] b3 HB3 2 (Lib.hid rfl) HP2.out ((RtsAt.two (c := cL) (c' := c8) raL2 raD).on (below_new (y2.alloc (.cells #[.int .i64 pL.kind, .int .i64 pL.cost, .slice AL pL.path.length cL, .int .i64 pD.kind, .int .i64 pD.cost, .slice A8 pD.path.length c8] 24)) (.cells #[.int .i64 0, .int .i64 0, .slice none 0 0] 24))) (by omega)).mono ?_); rintro e y3 ⟨A9, c9, rfl, ho9, hle9, hy3⟩; have hqb := below_on (below_on (below_on hqa (below_new y2 (.cells #[.int .i64 pL.kind, .int .i64 pL.cost, .slice AL pL.path.length cL, .int .i64 pD.kind, .int .i64 pD.cost, .slice A8 pD.path.length c8] 24))) (below_new (y2.alloc (.cells #[.int .i64 pL.kind, .int .i64 pL.cost, .slice AL pL.path.length cL, .int .i64 pD.kind, .int .i64 pD.cost, .slice A8 pD.path.length c8] 24)) (.cells #[.int .i64 0, .int .i64 0, .slice none 0 0] 24))) hy3; have k9 := (Blk.new (y2.alloc (.cells #[.int .i64 pL.kind, .int .i64 pL.cost, .slice AL pL.path.length cL, .int .i64 pD.kind, .int .i64 pD.cost, .slice A8 pD.path.length c8] 24)) 24 #[.int .i64 0, .int .i64 0, .slice none 0 0]).up hy3; rw [World.size_alloc] at k9; have g0 := k9.cell 0; have g1 := k9.cell 1; have g2 := k9.cell 2; have f0 := k9.frozen 0; have f1 := k9.frozen 1; have f2 := k9.frozen 2)
          | (go_at_call 23; (with_reducible refine (best_call [pL, pD] b3 HB3 2 (Lib.hid rfl) HP2.out (RtsAt.two_at (c := cL) (c' := c8) (y2.heap.size + 1) (World.size_alloc y2 (.cells #[.int .i64 0, .int .i64 0, .slice none 0 0] 24)) (raL2.box (.cells #[.int .i64 0, .int .i64 0, .slice none 0 0] 24)) (raD.box (.cells #[.int .i64 0, .int .i64 0, .slice none 0 0] 24))) (by omega)).mono ?_); rintro e y3 ⟨A9, c9, rfl, ho9, hle9, hy3⟩; have hqb := below_on (below_on (below_on hqa (below_new y2 (.cells #[.int .i64 0, .int .i64 0, .slice none 0 0] 24))) (below_new (y2.alloc (.cells #[.int .i64 0, .int .i64 0, .slice none 0 0] 24)) (.cells #[.int .i64 pL.kind, .int .i64 pL.cost, .slice AL pL.path.length cL, .int .i64 pD.kind, .int .i64 pD.cost, .slice A8 pD.path.length c8] 24))) hy3; have k9 := ((Blk.new y2 24 #[.int .i64 0, .int .i64 0, .slice none 0 0]).alloc (.cells #[.int .i64 pL.kind, .int .i64 pL.cost, .slice AL pL.path.length cL, .int .i64 pD.kind, .int .i64 pD.cost, .slice A8 pD.path.length c8] 24)).up hy3; have g0 := k9.cell 0; have g1 := k9.cell 1; have g2 := k9.cell 2; have f0 := k9.frozen 0; have f1 := k9.frozen 1; have f2 := k9.frozen 2))
        all_goals first
          | (have hqe := below_on hqb (below_new y3 (.cells #[.int .i64 b3.kind, .int .i64 b3.cost, .slice A9 b3.path.length c9] 24))
             have B3 : RB w y3.heap.size b3 A9 b3.path.length c9 (y3.alloc (.cells #[.int .i64 b3.kind, .int .i64 b3.cost, .slice A9 b3.path.length c9] 24)) := RB.new hup2 hT hqb ⟨rfl, (RowAt.of_own ho9).cells, by have := HB3R.out; omega⟩
             repeat (first | exact attrBest_rest w _ R b b3 A Ab Ac A9 j c km w3.heap.size w8.heap.size y3.heap.size b3.path.length cb cc c9 (B1.go hqe) (B2.go hqe) B3 (hlR.on hqe) HRN ht2 HRR HB HP3 hkj _ _ _ _ _ _ _ _ _ _ _ _ _ _ _ _ _ _ _ _ _ _ _ _ _ _ _ _ _ _ _ _ _ _ _ _ _ _ _ _ _ _ _ _ _ _ _ _ _ _ _ _ _ _ _ _ _ _ _ _ _ _ _ _ _ _ _ _ _ _ _ _ _ _ _ _ _ _ _ _ _ _ _ _ _ _ _ _ _ _ _ _ _ _ _ _ _ _ _ | go_step)
             done)
          | (have hg : W2.heap.size ≤ (y2.heap.size + 1) := by have z1 := hq9.size; have z2 := hqa.size; omega
             have q0 : Blk y3 (y2.heap.size + 1) 24 #[.int .i64 0, .int .i64 0, .slice none 0 0] := k9
             have q1 := q0.set_ 0 (.int .i64 b3.kind)
             have q2 := q1.set_ 1 (.int .i64 b3.cost)
             have q3 := q2.set_ 2 (.slice A9 b3.path.length c9)
             have o1 := own_setA ho9 q0 (by decide) 0 (.int .i64 b3.kind)
             have o2 := own_setA o1 q1 (by decide) 1 (.int .i64 b3.cost)
             have o3 := own_setA o2 q2 (by decide) 2 (.slice A9 b3.path.length c9)
             have hqe := ((hqb.setCell (p := ⟨(y2.heap.size + 1), 0, none⟩) hg (.int .i64 b3.kind)).setCell (p := ⟨(y2.heap.size + 1), 1, none⟩) hg (.int .i64 b3.cost)).setCell (p := ⟨(y2.heap.size + 1), 2, none⟩) hg (.slice A9 b3.path.length c9)
             have B3 : RB w (y2.heap.size + 1) b3 A9 b3.path.length c9 (((y3.setCell ⟨(y2.heap.size + 1), 0, none⟩ (.int .i64 b3.kind)).setCell ⟨(y2.heap.size + 1), 1, none⟩ (.int .i64 b3.cost)).setCell ⟨(y2.heap.size + 1), 2, none⟩ (.slice A9 b3.path.length c9)) := ⟨q3, ⟨rfl, (RowAt.of_own o3).cells, by have := HB3R.out; omega⟩, hup2.trans (hqe.mono hup2.size), hT.on (hup2.trans (hqe.mono hup2.size))⟩
             repeat (first | exact attrBest_rest w _ R b b3 A Ab Ac A9 j c km w3.heap.size w8.heap.size (y2.heap.size + 1) b3.path.length cb cc c9 (B1.go hqe) (B2.go hqe) B3 (hlR.on hqe) HRN ht2 HRR HB HP3 hkj _ _ _ _ _ _ _ _ _ _ _ _ _ _ _ _ _ _ _ _ _ _ _ _ _ _ _ _ _ _ _ _ _ _ _ _ _ _ _ _ _ _ _ _ _ _ _ _ _ _ _ _ _ _ _ _ _ _ _ _ _ _ _ _ _ _ _ _ _ _ _ _ _ _ _ _ _ _ _ _ _ _ _ _ _ _ _ _ _ _ _ _ _ _ _ _ _ _ _ | go_step)
             done)
          | (have hg : W2.heap.size ≤ y2.heap.size := by have z1 := hq9.size; have z2 := hqa.size; omega
             have q0 : Blk y3 y2.heap.size 24 #[.int .i64 0, .int .i64 0, .slice none 0 0] := k9
             have q1 := q0.set_ 0 (.int .i64 b3.kind)
             have q2 := q1.set_ 1 (.int .i64 b3.cost)
             have q3 := q2.set_ 2 (.slice A9 b3.path.length c9)
             have o1 := own_setA ho9 q0 (by decide) 0 (.int .i64 b3.kind)
             have o2 := own_setA o1 q1 (by decide) 1 (.int .i64 b3.cost)
             have o3 := own_setA o2 q2 (by decide) 2 (.slice A9 b3.path.length c9)
             have hqe := ((hqb.setCell (p := ⟨y2.heap.size, 0, none⟩) hg (.int .i64 b3.kind)).setCell (p := ⟨y2.heap.size, 1, none⟩) hg (.int .i64 b3.cost)).setCell (p := ⟨y2.heap.size, 2, none⟩) hg (.slice A9 b3.path.length c9)
             have B3 : RB w y2.heap.size b3 A9 b3.path.length c9 (((y3.setCell ⟨y2.heap.size, 0, none⟩ (.int .i64 b3.kind)).setCell ⟨y2.heap.size, 1, none⟩ (.int .i64 b3.cost)).setCell ⟨y2.heap.size, 2, none⟩ (.slice A9 b3.path.length c9)) := ⟨q3, ⟨rfl, (RowAt.of_own o3).cells, by have := HB3R.out; omega⟩, hup2.trans (hqe.mono hup2.size), hT.on (hup2.trans (hqe.mono hup2.size))⟩
             repeat (first | exact attrBest_rest w _ R b b3 A Ab Ac A9 j c km w3.heap.size w8.heap.size y2.heap.size b3.path.length cb cc c9 (B1.go hqe) (B2.go hqe) B3 (hlR.on hqe) HRN ht2 HRR HB HP3 hkj _ _ _ _ _ _ _ _ _ _ _ _ _ _ _ _ _ _ _ _ _ _ _ _ _ _ _ _ _ _ _ _ _ _ _ _ _ _ _ _ _ _ _ _ _ _ _ _ _ _ _ _ _ _ _ _ _ _ _ _ _ _ _ _ _ _ _ _ _ _ _ _ _ _ _ _ _ _ _ _ _ _ _ _ _ _ _ _ _ _ _ _ _ _ _ _ _ _ _ | go_step)
             done)
          | (have hg : W2.heap.size ≤ y1.heap.size := by have z1 := hq9.size; have z2 := hqa.size; omega
             have q0 : Blk y3 y1.heap.size 24 #[.int .i64 0, .int .i64 0, .slice none 0 0] := k9
             have q1 := q0.set_ 0 (.int .i64 b3.kind)
             have q2 := q1.set_ 1 (.int .i64 b3.cost)
             have q3 := q2.set_ 2 (.slice A9 b3.path.length c9)
             have o1 := own_setA ho9 q0 (by decide) 0 (.int .i64 b3.kind)
             have o2 := own_setA o1 q1 (by decide) 1 (.int .i64 b3.cost)
             have o3 := own_setA o2 q2 (by decide) 2 (.slice A9 b3.path.length c9)
             have hqe := ((hqb.setCell (p := ⟨y1.heap.size, 0, none⟩) hg (.int .i64 b3.kind)).setCell (p := ⟨y1.heap.size, 1, none⟩) hg (.int .i64 b3.cost)).setCell (p := ⟨y1.heap.size, 2, none⟩) hg (.slice A9 b3.path.length c9)
             have B3 : RB w y1.heap.size b3 A9 b3.path.length c9 (((y3.setCell ⟨y1.heap.size, 0, none⟩ (.int .i64 b3.kind)).setCell ⟨y1.heap.size, 1, none⟩ (.int .i64 b3.cost)).setCell ⟨y1.heap.size, 2, none⟩ (.slice A9 b3.path.length c9)) := ⟨q3, ⟨rfl, (RowAt.of_own o3).cells, by have := HB3R.out; omega⟩, hup2.trans (hqe.mono hup2.size), hT.on (hup2.trans (hqe.mono hup2.size))⟩
             repeat (first | exact attrBest_rest w _ R b b3 A Ab Ac A9 j c km w3.heap.size w8.heap.size y1.heap.size b3.path.length cb cc c9 (B1.go hqe) (B2.go hqe) B3 (hlR.on hqe) HRN ht2 HRR HB HP3 hkj _ _ _ _ _ _ _ _ _ _ _ _ _ _ _ _ _ _ _ _ _ _ _ _ _ _ _ _ _ _ _ _ _ _ _ _ _ _ _ _ _ _ _ _ _ _ _ _ _ _ _ _ _ _ _ _ _ _ _ _ _ _ _ _ _ _ _ _ _ _ _ _ _ _ _ _ _ _ _ _ _ _ _ _ _ _ _ _ _ _ _ _ _ _ _ _ _ _ _ | go_step)
             done)
          | (have hg : W2.heap.size ≤ W2.heap.size := by have z1 := hq9.size; have z2 := hqa.size; omega
             have q0 : Blk y3 W2.heap.size 24 #[.int .i64 0, .int .i64 0, .slice none 0 0] := k9
             have q1 := q0.set_ 0 (.int .i64 b3.kind)
             have q2 := q1.set_ 1 (.int .i64 b3.cost)
             have q3 := q2.set_ 2 (.slice A9 b3.path.length c9)
             have o1 := own_setA ho9 q0 (by decide) 0 (.int .i64 b3.kind)
             have o2 := own_setA o1 q1 (by decide) 1 (.int .i64 b3.cost)
             have o3 := own_setA o2 q2 (by decide) 2 (.slice A9 b3.path.length c9)
             have hqe := ((hqb.setCell (p := ⟨W2.heap.size, 0, none⟩) hg (.int .i64 b3.kind)).setCell (p := ⟨W2.heap.size, 1, none⟩) hg (.int .i64 b3.cost)).setCell (p := ⟨W2.heap.size, 2, none⟩) hg (.slice A9 b3.path.length c9)
             have B3 : RB w W2.heap.size b3 A9 b3.path.length c9 (((y3.setCell ⟨W2.heap.size, 0, none⟩ (.int .i64 b3.kind)).setCell ⟨W2.heap.size, 1, none⟩ (.int .i64 b3.cost)).setCell ⟨W2.heap.size, 2, none⟩ (.slice A9 b3.path.length c9)) := ⟨q3, ⟨rfl, (RowAt.of_own o3).cells, by have := HB3R.out; omega⟩, hup2.trans (hqe.mono hup2.size), hT.on (hup2.trans (hqe.mono hup2.size))⟩
             repeat (first | exact attrBest_rest w _ R b b3 A Ab Ac A9 j c km w3.heap.size w8.heap.size W2.heap.size b3.path.length cb cc c9 (B1.go hqe) (B2.go hqe) B3 (hlR.on hqe) HRN ht2 HRR HB HP3 hkj _ _ _ _ _ _ _ _ _ _ _ _ _ _ _ _ _ _ _ _ _ _ _ _ _ _ _ _ _ _ _ _ _ _ _ _ _ _ _ _ _ _ _ _ _ _ _ _ _ _ _ _ _ _ _ _ _ _ _ _ _ _ _ _ _ _ _ _ _ _ _ _ _ _ _ _ _ _ _ _ _ _ _ _ _ _ _ _ _ _ _ _ _ _ _ _ _ _ _ | go_step)
             done)
end Go.Proofs.YtobeenlkhggodaaDoor
