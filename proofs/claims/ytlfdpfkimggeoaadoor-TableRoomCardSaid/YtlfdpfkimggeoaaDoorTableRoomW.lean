/-
  With more room what was told is told; without room for it a route is not there, all others are.
-/
import Derived.Test.YtlfdpfkimggeoaaDoorTbG
namespace Go.Proofs.YtlfdpfkimggeoaaDoor
open Go.RowKit
set_option linter.unusedVariables false
set_option linter.unusedSimpArgs false

theorem take_in {l : List Rt} {k i : Nat} {r : Rt} (hn : l.Nodup) (h : (l.take k)[i]? = some r) : l[i]? = some r ∧ i < k := by
  rw [List.getElem?_take] at h
  by_cases hi : i < k
  · rw [if_pos hi] at h; exact ⟨h, hi⟩
  · rw [if_neg hi] at h; cases h

set_option maxHeartbeats 8000000 in
set_option maxRecDepth 100000 in
theorem tableRoom_walk (A1 : Option Addr) (c1 : Nat) (L1 : List (List Int)) (hz1 : ∀ l ∈ L1, (∀ v ∈ l, InI v) ∧ l.length ≤ 9223372036854775807) (hm1 : L1.length ≤ 9223372036854775807) (x1 : Int) (hx1 : InI x1) (w : World) (hT : PowTab w) (hA1 : LsAt w A1 L1) :
    Calls Tryd.prog 5 #[.slice A1 L1.length c1, .int .i64 x1] w fun e w' => e = .returned (.bool true) ∧ Below w.heap.size w w' := by
  obtain ⟨N, hN⟩ : ∃ n, L1.length = n := ⟨_, rfl⟩
  rw [hN] at hm1 ⊢
  have HNN := Lib.hid hN
  have HZ := Lib.hid hz1
  have HA := Lib.hid hA1
  have HP := Lib.hid hT
  obtain ⟨p, hp, hpl⟩ := pickN_nat x1 12 (by omega)
  have HPK : Hid (pickN x1 12 = (p : Int)) := Lib.hid hp
  obtain ⟨k, hk⟩ : ∃ k : Nat, (1 : Int) + (p : Int) = (k : Int) := ⟨1 + p, by omega⟩
  have k1 : 1 ≤ (k : Int) := by omega
  have k12 : (k : Int) ≤ 12 := by omega
  clear hN hz1 hA1 hT hp
  go_enter Tryd.func5, Tryd.ntmps5
  go_wp2_with (first
    | (go_at_call 9; (with_reducible refine (pick8_is x1 12 (p : Int) hx1 (by omega) (by omega) HPK _).mono ?_); rintro e wp ⟨rfl, rfl⟩)
    | (go_at_call 8; (with_reducible refine (awake8_any _ HP.out).mono ?_); rintro e w1 ⟨rfl, hb1⟩)
    | (go_at_call 10; (with_reducible refine (lawNew h1.up HP.out 100 (by omega) (by omega)).mono ?_); rintro e w3 ⟨ub, G1, rfl, g1, n1, b1⟩; have p1 := P2.new h1 g1 n1 b1)
    | (go_at_call 10; (with_reducible refine (lawNew hb1 HP.out (k : Int) (by omega) (by omega)).mono ?_); rintro e w2 ⟨tb, F1, rfl, h1, _, _⟩))
  go_loopw [9, 10] (fun s9 s10 wr => ∃ (j : Nat) (F G : Nat → Prop) (lu : List Rt), j ≤ N ∧ j ≤ 30 ∧ s10 = .int .i64 (j : Nat) ∧ s9 = .bool (decide (k < lu.length)) ∧ P2 w F tb (k : Int) (lu.take k) G ub 100 lu wr ∧ lu.length ≤ j + 1) (fun _ s10 _ => 30 - (intOf s10).toNat)
  case atStart => exact ⟨0, F1, G1, [Rt.none], Nat.zero_le _, by omega, rfl, by rw [decide_eq_false (by simp; omega)], by rw [List.take_of_length_le (by simp; omega)]; exact p1, by simp⟩
  case round =>
    clear h1 g1 n1 b1 p1
    obtain ⟨j, F, G, lu, hjN, hj30, rfl, rfl, h1, hll⟩ := hrel
    by_cases hlt : j < N ∧ j < 30
    · obtain ⟨hlt1, hlt2⟩ := hlt
      obtain ⟨x, hx⟩ : ∃ x, L1[j]? = some x := ⟨_, List.getElem?_eq_getElem (by rw [HNN.out]; exact hlt1)⟩
      obtain ⟨ad, Al, cl, rfl, ca, hcl⟩ := (HA.out.on h1.t.up).get hx
      obtain ⟨hwf, hlm⟩ := HZ.out x (List.mem_of_getElem? hx)
      obtain ⟨r, hr⟩ : ∃ r, rtOf x = r := ⟨_, rfl⟩
      have hrr := rtOf_right x
      rw [hr] at hrr
      obtain ⟨nl, hnl⟩ : ∃ n, x.length = n := ⟨_, rfl⟩
      rw [hnl] at hlm ca
      obtain ⟨nr, hnr⟩ : ∃ n, r.path.length = n := ⟨_, rfl⟩
      have HR := Lib.hid hr
      have HRR := Lib.hid hrr
      have HNL := Lib.hid hnl
      have HNR := Lib.hid hnr
      have HWF := Lib.hid hwf
      have HCL := Lib.hid hcl
      have h12 : nr ≤ 12 := by rw [← hnr]; exact rt_len hrr
      have j0 : (0 : Int) ≤ (j : Int) := by omega
      have j1 : (j : Int) < (N : Int) := by omega
      have j2 : (j : Int) < 30 := by omega
      have hkl := h1.u.tab.nodup
      have hrt := h1.u.tab.right
      obtain ⟨fl, hfl⟩ : ∃ f, decide (k < lu.length) = f := ⟨_, rfl⟩
      rw [hfl]
      have HFL := Lib.hid hfl
      have HLL := Lib.hid hll
      by_cases hm : r ∈ lu.take k
      · obtain ⟨i, hi, hil⟩ := ixR_some hm
        obtain ⟨hi2, hik⟩ := take_in hkl hi
        obtain ⟨ak, ae, al⟩ := add_old (most := (k : Int)) hrr hm
        obtain ⟨bk, be, bl⟩ := add_old (most := 100) hrr (List.mem_of_getElem? hi2)
        have IT : Hid (ixR r (lu.take k) = (i : Int)) := Lib.hid (ixR_at (List.Nodup.sublist (List.take_sublist _ _) hkl) hi)
        have IU : Hid (ixR r lu = (i : Int)) := Lib.hid (ixR_at hkl hi2)
        have KT : Hid (addK (k : Int) (lu.take k) r = (i : Int)) := Lib.hid (by rw [ak, IT.out])
        have ET := Lib.hid ae
        have LT' := Lib.hid al
        have KU : Hid (addK 100 lu r = (i : Int)) := Lib.hid (by rw [bk, IU.out])
        have EU := Lib.hid be
        have LU := Lib.hid bl
        clear hx hcl hr hrr hnl hnr hwf hkl hrt hm hi hil hi2 hik ak ae al bk be bl hfl hll hk
        cases fl
        all_goals
          go_wp2_with (first
            | (go_at_call 12; (with_reducible refine (Route_new x r HR nr nl HNR HNL HWF.out hlm HCL.out).mono ?_); rintro e w3 ⟨Ar, cr, rfl, hra, hrn, hle, hcr, hb3⟩; have h2 := (h1.go hb3).go (below_new w3 (.cells #[.int .i64 r.kind, .int .i64 r.cost, .slice Ar nr cr] 25)); have x2 := BoxR.new (ca := cr) h1.t.tab.lt hb3 hra hrn; have y2 := BoxR.new (ca := cr) h1.u.tab.lt hb3 hra hrn; obtain ⟨b0, b1, b2⟩ := x2.cells)
            | (go_at_call 13; (with_reducible refine (lawAdd h2.t HP.out r (i : Int) 0 (lu.take k) KT ET LT' x2.at_ hle hcr).mono ?_); rintro e w4 ⟨F4, rfl, ht4, eF4, s4⟩; have h3 := h2.addT ht4 eF4 s4; have y3 := x2.other y2 s4; have x3 : BoxR F4 _ r Ar nr cr w4 := eF4 ▸ x2.add s4; obtain ⟨d0, d1, d2⟩ := y3.cells)
            | (go_at_call 13; (with_reducible refine (lawAdd h3.u HP.out r (i : Int) 0 (lu) KU EU LU y3.at_ hle hcr).mono ?_); rintro e w5 ⟨G5, rfl, hu5, eG5, s5⟩; have h4 := h3.addU hu5 eG5 s5; have x4 := y3.other x3 s5; obtain ⟨e0, e1, e2⟩ := x4.cells))
          go_roundw
          case rel => exact ⟨j + 1, F4, G5, lu, by omega, by omega, by go_num, by rw [HFL.out], h4, by have := HLL.out; omega⟩
          case measure => simp [intOf]; omega
      · by_cases hs : lu.length < k
        · have htk : lu.take k = lu := List.take_of_length_le (by omega)
          rw [htk] at hm
          obtain ⟨ak, ae, al⟩ := add_new (most := (k : Int)) hrr hm (by omega)
          obtain ⟨bk, be, bl⟩ := add_new (most := 100) hrr hm (by omega)
          obtain ⟨ln, hln⟩ : ∃ n, lu.length = n := ⟨_, rfl⟩
          have KT : Hid (addK (k : Int) (lu.take k) r = (ln : Int)) := Lib.hid (by rw [htk, ak, hln])
          have ET : Hid (addE (k : Int) (lu.take k) r = 0) := Lib.hid (by rw [htk, ae])
          have LT' : Hid (addL (k : Int) (lu.take k) r = lu ++ [r]) := Lib.hid (by rw [htk, al])
          have KU : Hid (addK 100 lu r = (ln : Int)) := Lib.hid (by rw [bk, hln])
          have EU := Lib.hid be
          have LU := Lib.hid bl
          have HF2 : Hid (decide (k < (lu ++ [r]).length) = fl) := Lib.hid (by rw [← hfl, List.length_append]; simp; omega)
          have HTK : Hid ((lu ++ [r]).take k = lu ++ [r]) := Lib.hid (List.take_of_length_le (by rw [List.length_append]; simp; omega))
          have HLA : Hid ((lu ++ [r]).length ≤ j + 1 + 1) := Lib.hid (by rw [List.length_append]; simp; omega)
          clear hx hcl hr hrr hnl hnr hwf hkl hrt hm hs htk ak ae al bk be bl hfl hll hln hk
          cases fl
          all_goals
            go_wp2_with (first
              | (go_at_call 12; (with_reducible refine (Route_new x r HR nr nl HNR HNL HWF.out hlm HCL.out).mono ?_); rintro e w3 ⟨Ar, cr, rfl, hra, hrn, hle, hcr, hb3⟩; have h2 := (h1.go hb3).go (below_new w3 (.cells #[.int .i64 r.kind, .int .i64 r.cost, .slice Ar nr cr] 25)); have x2 := BoxR.new (ca := cr) h1.t.tab.lt hb3 hra hrn; have y2 := BoxR.new (ca := cr) h1.u.tab.lt hb3 hra hrn; obtain ⟨b0, b1, b2⟩ := x2.cells)
              | (go_at_call 13; (with_reducible refine (lawAdd h2.t HP.out r (ln : Int) 0 (lu ++ [r]) KT ET LT' x2.at_ hle hcr).mono ?_); rintro e w4 ⟨F4, rfl, ht4, eF4, s4⟩; have h3 := h2.addT ht4 eF4 s4; have y3 := x2.other y2 s4; have x3 : BoxR F4 _ r Ar nr cr w4 := eF4 ▸ x2.add s4; obtain ⟨d0, d1, d2⟩ := y3.cells)
              | (go_at_call 13; (with_reducible refine (lawAdd h3.u HP.out r (ln : Int) 0 (lu ++ [r]) KU EU LU y3.at_ hle hcr).mono ?_); rintro e w5 ⟨G5, rfl, hu5, eG5, s5⟩; have h4 := h3.addU hu5 eG5 s5; have x4 := y3.other x3 s5; obtain ⟨e0, e1, e2⟩ := x4.cells))
            go_roundw
            case rel => exact ⟨j + 1, F4, G5, lu ++ [r], by omega, by omega, by go_num, by rw [HF2.out], by rw [HTK.out]; exact h4, HLA.out⟩
            case measure => simp [intOf]; omega
        · have hlk : (lu.take k).length = k := by rw [List.length_take]; omega
          obtain ⟨ak, ae, al⟩ := add_full (most := (k : Int)) hrr hm (by rw [hlk]; omega)
          have IT : Hid (ixR r (lu.take k) = -1) := Lib.hid (ixR_not hm)
          have ST : Hid (((lu.take k).length : Int) = (k : Int)) := Lib.hid (by rw [hlk])
          have KT := Lib.hid ak
          have ET := Lib.hid ae
          have LT' := Lib.hid al
          by_cases hmu : r ∈ lu
          · obtain ⟨i, hi, hil⟩ := ixR_some hmu
            obtain ⟨bk, be, bl⟩ := add_old (most := 100) hrr hmu
            have IU : Hid (ixR r lu = (i : Int)) := Lib.hid (ixR_at hkl hi)
            have KU : Hid (addK 100 lu r = (i : Int)) := Lib.hid (by rw [bk, IU.out])
            have EU := Lib.hid be
            have LU := Lib.hid bl
            have HF2 : Hid (decide (k < lu.length) = true) := Lib.hid (decide_eq_true (by
                rcases Nat.lt_or_ge k lu.length with h | h
                · exact h
                · exact absurd (by rw [List.take_of_length_le h]; exact hmu) hm))
            clear hx hcl hr hrr hnl hnr hwf hkl hrt hm hs hlk ak ae al hmu hi hil bk be bl hfl hll hk
            go_wp2_with (first
              | (go_at_call 12; (with_reducible refine (Route_new x r HR nr nl HNR HNL HWF.out hlm HCL.out).mono ?_); rintro e w3 ⟨Ar, cr, rfl, hra, hrn, hle, hcr, hb3⟩; have h2 := (h1.go hb3).go (below_new w3 (.cells #[.int .i64 r.kind, .int .i64 r.cost, .slice Ar nr cr] 25)); have x2 := BoxR.new (ca := cr) h1.t.tab.lt hb3 hra hrn; have y2 := BoxR.new (ca := cr) h1.u.tab.lt hb3 hra hrn; obtain ⟨b0, b1, b2⟩ := x2.cells)
              | (go_at_call 13; (with_reducible refine (lawAdd h2.t HP.out r (0) 60 (lu.take k) KT ET LT' x2.at_ hle hcr).mono ?_); rintro e w4 ⟨F4, rfl, ht4, eF4, s4⟩; have h3 := h2.addT ht4 eF4 s4; have y3 := x2.other y2 s4; have x3 : BoxR F4 _ r Ar nr cr w4 := eF4 ▸ x2.add s4; obtain ⟨d0, d1, d2⟩ := y3.cells)
              | (go_at_call 13; (with_reducible refine (lawAdd h3.u HP.out r (i : Int) 0 (lu) KU EU LU y3.at_ hle hcr).mono ?_); rintro e w5 ⟨G5, rfl, hu5, eG5, s5⟩; have h4 := h3.addU hu5 eG5 s5; have x4 := y3.other x3 s5; obtain ⟨e0, e1, e2⟩ := x4.cells)
              | (go_at_call 16; (with_reducible refine (lawFind h4.t HP.out r (-1) IT x4.at_ hle hcr).mono ?_); rintro e w6 ⟨rfl, hb6⟩; have h5 := h4.go hb6)
              | (go_at_call 15; (with_reducible refine (lawSize h4.t (k : Int) ST).mono ?_); rintro e w9 ⟨rfl, rfl⟩))
            go_roundw
            case rel => exact ⟨j + 1, F4, G5, lu, by omega, by omega, by go_num, by rw [HF2.out], h5, by have := HLL.out; omega⟩
            case measure => simp [intOf]; omega
          · obtain ⟨bk, be, bl⟩ := add_new (most := 100) hrr hmu (by omega)
            obtain ⟨ln, hln⟩ : ∃ n, lu.length = n := ⟨_, rfl⟩
            have KU : Hid (addK 100 lu r = (ln : Int)) := Lib.hid (by rw [bk, hln])
            have EU := Lib.hid be
            have LU := Lib.hid bl
            have HF2 : Hid (decide (k < (lu ++ [r]).length) = true) := Lib.hid (decide_eq_true (by rw [List.length_append]; simp; omega))
            have HTK : Hid ((lu ++ [r]).take k = lu.take k) := Lib.hid (List.take_append_of_le_length (by omega))
            have HLA : Hid ((lu ++ [r]).length ≤ j + 1 + 1) := Lib.hid (by rw [List.length_append]; simp; omega)
            clear hx hcl hr hrr hnl hnr hwf hkl hrt hm hs hlk ak ae al hmu bk be bl hfl hll hln hk
            go_wp2_with (first
              | (go_at_call 12; (with_reducible refine (Route_new x r HR nr nl HNR HNL HWF.out hlm HCL.out).mono ?_); rintro e w3 ⟨Ar, cr, rfl, hra, hrn, hle, hcr, hb3⟩; have h2 := (h1.go hb3).go (below_new w3 (.cells #[.int .i64 r.kind, .int .i64 r.cost, .slice Ar nr cr] 25)); have x2 := BoxR.new (ca := cr) h1.t.tab.lt hb3 hra hrn; have y2 := BoxR.new (ca := cr) h1.u.tab.lt hb3 hra hrn; obtain ⟨b0, b1, b2⟩ := x2.cells)
              | (go_at_call 13; (with_reducible refine (lawAdd h2.t HP.out r (0) 60 (lu.take k) KT ET LT' x2.at_ hle hcr).mono ?_); rintro e w4 ⟨F4, rfl, ht4, eF4, s4⟩; have h3 := h2.addT ht4 eF4 s4; have y3 := x2.other y2 s4; have x3 : BoxR F4 _ r Ar nr cr w4 := eF4 ▸ x2.add s4; obtain ⟨d0, d1, d2⟩ := y3.cells)
              | (go_at_call 13; (with_reducible refine (lawAdd h3.u HP.out r (ln : Int) 0 (lu ++ [r]) KU EU LU y3.at_ hle hcr).mono ?_); rintro e w5 ⟨G5, rfl, hu5, eG5, s5⟩; have h4 := h3.addU hu5 eG5 s5; have x4 := y3.other x3 s5; obtain ⟨e0, e1, e2⟩ := x4.cells)
              | (go_at_call 16; (with_reducible refine (lawFind h4.t HP.out r (-1) IT x4.at_ hle hcr).mono ?_); rintro e w6 ⟨rfl, hb6⟩; have h5 := h4.go hb6)
              | (go_at_call 15; (with_reducible refine (lawSize h4.t (k : Int) ST).mono ?_); rintro e w9 ⟨rfl, rfl⟩))
            go_roundw
            case rel => exact ⟨j + 1, F4, G5, lu ++ [r], by omega, by omega, by go_num, by rw [HF2.out], by rw [HTK.out]; exact h5, HLA.out⟩
            case measure => simp [intOf]; omega
    · have hcase : ¬ (j : Int) < (N : Int) ∨ ((j : Int) < (N : Int) ∧ ¬ (j : Int) < 30) := by omega
      obtain ⟨ln, hln⟩ : ∃ n, lu.length = n := ⟨_, rfl⟩
      obtain ⟨lk, hlk⟩ : ∃ n, (lu.take k).length = n := ⟨_, rfl⟩
      have hmin : lk = min ln k := by rw [← hlk, ← hln, List.length_take, Nat.min_comm]
      have SU : Hid ((lu.length : Int) = (ln : Int)) := Lib.hid (by rw [hln])
      have ST : Hid (((lu.take k).length : Int) = (lk : Int)) := Lib.hid (by rw [hlk])
      have HMN := Lib.hid hmin
      have hcase2 : ((ln : Int) ≤ (k : Int) ∧ (lk : Int) = (ln : Int)) ∨ (¬ (ln : Int) ≤ (k : Int) ∧ (lk : Int) = (k : Int)) := by omega
      clear hlt hll hln hlk hmin hk
      rcases hcase with hc | ⟨hc, hc2⟩
      all_goals
        rcases hcase2 with ⟨q1, q2⟩ | ⟨q1, q2⟩
        all_goals
          have t1 : ((lk : Int) == min (ln : Int) (k : Int)) = true := by simp only [beq_iff_eq]; omega
          go_wp2_with (first
            | (go_at_call 15; (with_reducible refine (lawSize h1.t (lk : Int) ST).mono ?_); rintro e w9 ⟨rfl, rfl⟩)
            | (go_at_call 15; (with_reducible refine (lawSize h1.u (ln : Int) SU).mono ?_); rintro e w9 ⟨rfl, rfl⟩))
          go_ret
          exact ⟨ret_bool (by simp only [beq_iff_eq]; omega), h1.t.up⟩
end Go.Proofs.YtlfdpfkimggeoaaDoor
