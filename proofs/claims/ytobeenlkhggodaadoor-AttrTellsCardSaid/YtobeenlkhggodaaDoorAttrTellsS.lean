/-
  AttrTells: the list's making.
-/
import Derived.Test.YtobeenlkhggodaaDoorAttrTellsR
namespace Go.Proofs.YtobeenlkhggodaaDoor
open Go.RowKit
set_option linter.unusedVariables false
set_option linter.unusedSimpArgs false

set_option maxHeartbeats 8000000 in
set_option maxRecDepth 100000 in
theorem tells_loop (w W : World) (R0 : List Rt) (A0 : Option Addr) (n0 c0 : Nat) (h0 : TOwn w.heap.size W A0 n0 c0 R0) (hn0 : n0 ≤ 1) (A1 : Option Addr) (c1 : Nat) (L1 : List (List Int)) (hz1 : ∀ l ∈ L1, (∀ v ∈ l, InI v) ∧ l.length ≤ 9223372036854775807) (N : Nat) (hN : L1.length = N) (hm1 : N ≤ 9223372036854775807) (hb1 : Below w.heap.size w W) (hT : PowTab w) (hA1 : LsAt w A1 L1)
    (u0 u2 u3 u4 u7 u8 u9 u10 u11 u12 u13 u14 u15 u16 u17 u18 u19 u20 u21 u22 u23 u24 u25 u26 u27 u28 u29 u30 u31 u32 u33 u34 u35 u36 u37 u38 u39 u40 u41 u42 u43 u44 u45 u46 u47 u48 u49 u50 u51 u52 u53 u54 u55 u56 u57 u58 u59 u60 u61 u62 u63 u64 u65 u66 u67 u68 u69 u70 u71 u72 u73 u74 u75 u76 u77 u78 u79 u80 u81 u82 u83 u84 u85 u86 u87 u88 u89 u90 u91 u92 u93 u94 u95 u96 u97 u98 u99 u100 u101 u102 : Value) :
    Code.wp Tryd.prog (tellsC [true, true, true, true, true]) (bodyPost Tryd.prog Tryd.f3 (fun e w' => e = .returned (.bool true) ∧ Below w.heap.size w w')) ⟨List.toArray (u0 :: .slice A1 N c1 :: u2 :: u3 :: u4 :: .bool true :: .slice A0 n0 c0 :: u7 :: u8 :: u9 :: u10 :: u11 :: u12 :: u13 :: u14 :: u15 :: u16 :: u17 :: u18 :: u19 :: u20 :: u21 :: u22 :: u23 :: u24 :: u25 :: u26 :: u27 :: u28 :: u29 :: u30 :: u31 :: u32 :: u33 :: u34 :: u35 :: u36 :: u37 :: u38 :: u39 :: u40 :: u41 :: u42 :: u43 :: u44 :: u45 :: u46 :: u47 :: u48 :: u49 :: u50 :: u51 :: u52 :: u53 :: u54 :: u55 :: u56 :: u57 :: u58 :: u59 :: u60 :: u61 :: u62 :: u63 :: u64 :: u65 :: u66 :: u67 :: u68 :: u69 :: u70 :: u71 :: u72 :: u73 :: u74 :: u75 :: u76 :: u77 :: u78 :: u79 :: u80 :: u81 :: u82 :: u83 :: u84 :: u85 :: u86 :: u87 :: u88 :: u89 :: u90 :: u91 :: u92 :: u93 :: u94 :: u95 :: u96 :: u97 :: u98 :: u99 :: u100 :: u101 :: u102 :: []), []⟩ W := by
  obtain ⟨⟨ht1, ht2⟩, ht3⟩ := take_min L1 6
  obtain ⟨M, hM⟩ : ∃ M, L1.take 6 = M := ⟨_, rfl⟩
  rw [hM] at ht1 ht2 ht3
  obtain ⟨m, hm⟩ : ∃ m, M.length = m := ⟨_, rfl⟩
  rw [hm, hN] at ht1
  rw [hm] at ht2 ht3
  rw [hN] at ht3
  have HM := Lib.hid hM
  have HMM := Lib.hid hm
  have HZ := Lib.hid hz1
  have HA := Lib.hid hA1
  have HT3 := Lib.hid ht3
  clear hM hm hN hz1 hA1 ht3
  obtain ⟨i0, hi, hz0, hz1, hz2⟩ := info_parts rtInfo
  conv => arg 2; whnf
  repeat (first | go_values | go_skip | go_guarded | go_step | go_upon)
  go_loopw [6, 7] (fun s6 s7 wr => ∃ (j q : Nat) (A : Option Addr) (c : Nat), j ≤ m ∧ q = n0 + j ∧ s7 = .int .i64 (j : Nat) ∧ s6 = .slice A q c ∧ TOwn w.heap.size wr A q c (R0 ++ (M.take j).map rtOf) ∧ Below w.heap.size w wr) (fun _ s7 _ => m - (intOf s7).toNat)
  case atStart => exact ⟨0, n0, A0, c0, Nat.zero_le _, rfl, rfl, rfl, by rw [List.take_zero, List.map_nil, List.append_nil]; exact h0, hb1⟩
  case round =>
    clear h0 hb1
    obtain ⟨j, q, A, c, hj, hq, rfl, rfl, hown, hbw⟩ := hrel
    have HQ := Lib.hid hq
    have hq7 : q ≤ 7 := by omega
    clear hq
    by_cases hlt : j < m
    · obtain ⟨l, hl⟩ : ∃ l, M[j]? = some l := ⟨_, List.getElem?_eq_getElem (by rw [HMM.out]; exact hlt)⟩
      have hlL : L1[j]? = some l := by
        have := hl
        rw [← HM.out, List.getElem?_take, if_pos (by omega)] at this
        exact this
      obtain ⟨ad, Al, cl, rfl, ca, hcl⟩ := (HA.out.on hbw).get hlL
      obtain ⟨hwf, hlm⟩ := HZ.out l (List.mem_of_getElem? hlL)
      obtain ⟨r, hr⟩ : ∃ r, rtOf l = r := ⟨_, rfl⟩
      have hrr := rtOf_right l
      rw [hr] at hrr
      obtain ⟨nl, hnl⟩ : ∃ n, l.length = n := ⟨_, rfl⟩
      rw [hnl] at hlm ca
      have HR := Lib.hid hr
      have HRR := Lib.hid hrr
      have HNL := Lib.hid hnl
      have HWF := Lib.hid hwf
      have HCL := Lib.hid hcl
      have HNX : Hid (R0 ++ (M.take (j + 1)).map rtOf = (R0 ++ (M.take j).map rtOf) ++ [r]) := Lib.hid (by rw [List.take_add_one, hl, List.map_append, ← hr, List.append_assoc]; rfl)
      have j0 : (0 : Int) ≤ (j : Int) := by omega
      have j1 : (j : Int) < (N : Int) := by omega
      have j2 : (j : Int) < 6 := by omega
      obtain ⟨hs, h1, h2, h3, h4, h5, h6, h7⟩ := hown
      have H1 := Lib.hid h1
      have H2 := Lib.hid h2
      have H3 := Lib.hid h3
      have H4 := Lib.hid h4
      have H6 := Lib.hid h6
      have H7 := Lib.hid h7
      clear hl hlL hr hrr hnl hwf hcl h1 h2 h3 h4 h6 h7
      go_wp2_with (first
        | (go_at_call 14; (with_reducible refine (Route_gives l r HR nl HNL HWF.out hlm HCL.out).mono ?_); rintro e w2 ⟨Ar, cr, rfl, ho, hle, hb2⟩)
        | (refine wpList_append_own _ rfl _ _ 28 rfl w.heap.size 24 i0 (.agg #[.int .i64 0, .int .i64 0, .slice none 0 0]) 3 40 Tryd.underlying28 hi hz0 hz1 hz2 rfl (by decide) _ _ _ rfl ((own_below H3.out hb2).alloc _) ⟨w2.heap.size, 0, none⟩ 1 1 [.int .i64 r.kind, .int .i64 r.cost, .slice Ar r.path.length cr] rfl rfl (cells_new _ _ _) (by simp [Value.oneCell']) (by unfold maxLen; omega) (by omega) (by have := hb2.size; simp; omega) ?_; intro v' w4 hown4 hgrow4 _; obtain ⟨A4, c4, rfl, hc4⟩ := own_formA hown4))
      have hbn := hb2.trans ((below_new w2 (.cells #[.int .i64 r.kind, .int .i64 r.cost, .slice Ar r.path.length cr] 24)).mono hb2.size)
      have hcp : r.path.length ≤ cr ∧ cr ≤ 9223372036854775807 := by (obtain ⟨A', c', e, e1, e2⟩ := own_formB ho; injection e with _ _ e; subst e; exact ⟨e1, e2⟩)
      have hnext := TOwn.next H1.out H2.out (own_below H3.out hbn) H4.out (Nat.le_trans h5 hbn.size) (fun i x q e1 e2 => (H6.out i x q e1 e2).go h5 hbn) H7.out (.inl ((own_base ho h5).alloc _)) hcp HRR.out hown4 hgrow4
      have hb4 := (below_on hbw hbn).grown hgrow4 (Nat.le_trans h5 hbn.size) (fun g hg => (H3.out.lt g hg).1)
      go_roundw
      case rel => exact ⟨j + 1, q + 1, A4, c4, by omega, by have := HQ.out; omega, by go_num, rfl, by rw [HNX.out]; exact hnext, hb4⟩
      case measure => simp [intOf]; omega
    · have hjm : j = m := by omega
      subst hjm
      have hcase : ¬ (j : Int) < (N : Int) ∨ ((j : Int) < (N : Int) ∧ ¬ (j : Int) < 6) := by
        by_cases e1 : (j : Int) < (N : Int)
        · by_cases e2 : (j : Int) < 6
          · exact absurd (HT3.out j e1 e2) (by omega)
          · exact .inr ⟨e1, e2⟩
        · exact .inl e1
      obtain ⟨R, hR⟩ : ∃ R, R0 ++ (M.take j).map rtOf = R := ⟨_, rfl⟩
      rw [hR] at hown
      have HRN : Hid (R.length = q) := Lib.hid (by obtain ⟨hs, h1, h2, _⟩ := hown; exact h2)
      have HRR : Hid (∀ r ∈ R, rtRight r = true) := Lib.hid (by obtain ⟨hs, h1, h2, h3, h4, _⟩ := hown; exact h4)
      have hc := hown.c
      clear hR hown HA HZ HT3
      rcases hcase with hc1 | ⟨hc1, hc2⟩
      · repeat (first | exact tells_rest w _ R (rtBest R) A q c hc HRN hq7 HRR (Lib.hid rfl) hbw hT _ _ _ _ _ _ _ _ _ _ _ _ _ _ _ _ _ _ _ _ _ _ _ _ _ _ _ _ _ _ _ _ _ _ _ _ _ _ _ _ _ _ _ _ _ _ _ _ _ _ _ _ _ _ _ _ _ _ _ _ _ _ _ _ _ _ _ _ _ _ _ _ _ _ _ _ _ _ _ _ _ _ _ _ _ _ _ _ _ _ _ _ _ _ _ _ _ _ _ _ _ | go_step)
        done
      · repeat (first | exact tells_rest w _ R (rtBest R) A q c hc HRN hq7 HRR (Lib.hid rfl) hbw hT _ _ _ _ _ _ _ _ _ _ _ _ _ _ _ _ _ _ _ _ _ _ _ _ _ _ _ _ _ _ _ _ _ _ _ _ _ _ _ _ _ _ _ _ _ _ _ _ _ _ _ _ _ _ _ _ _ _ _ _ _ _ _ _ _ _ _ _ _ _ _ _ _ _ _ _ _ _ _ _ _ _ _ _ _ _ _ _ _ _ _ _ _ _ _ _ _ _ _ _ _ | go_step)
        done
end Go.Proofs.YtobeenlkhggodaaDoor
