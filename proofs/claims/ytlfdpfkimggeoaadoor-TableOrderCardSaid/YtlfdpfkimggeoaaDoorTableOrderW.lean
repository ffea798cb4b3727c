/-
  A route that is new is given the number of how many there were.
-/
import Derived.Test.YtlfdpfkimggeoaaDoorTbF
namespace Go.Proofs.YtlfdpfkimggeoaaDoor
open Go.RowKit
set_option linter.unusedVariables false
set_option linter.unusedSimpArgs false

set_option maxHeartbeats 8000000 in
set_option maxRecDepth 100000 in
theorem tableOrder_walk (A1 : Option Addr) (c1 : Nat) (L1 : List (List Int)) (hz1 : ∀ l ∈ L1, (∀ v ∈ l, InI v) ∧ l.length ≤ 9223372036854775807) (hm1 : L1.length ≤ 9223372036854775807) (w : World) (hT : PowTab w) (hA1 : LsAt w A1 L1) :
    Calls Tryd.prog 7 #[.slice A1 L1.length c1] w fun e w' => e = .returned (.bool true) ∧ Below w.heap.size w w' := by
  obtain ⟨N, hN⟩ : ∃ n, L1.length = n := ⟨_, rfl⟩
  rw [hN] at hm1 ⊢
  have HNN := Lib.hid hN
  have HZ := Lib.hid hz1
  have HA := Lib.hid hA1
  have HP := Lib.hid hT
  clear hN hz1 hA1 hT
  go_enter Tryd.func7, Tryd.ntmps7
  go_wp2_with (first
    | (go_at_call 8; (with_reducible refine (awake8_any _ HP.out).mono ?_); rintro e w1 ⟨rfl, hb1⟩)
    | (go_at_call 10; (with_reducible refine (lawNew hb1 HP.out 1000 (by omega) (by omega)).mono ?_); rintro e w2 ⟨tb, F1, rfl, h1, _, _⟩))
  go_loopw [5] (fun s5 wr => ∃ (j : Nat) (F : Nat → Prop) (l : List Rt), j ≤ N ∧ j ≤ 30 ∧ s5 = .int .i64 (j : Nat) ∧ LT w F tb 1000 l wr ∧ l.length ≤ j + 1 ∧ l[0]? = some Rt.none) (fun s5 _ => 30 - (intOf s5).toNat)
  case atStart => exact ⟨0, F1, _, Nat.zero_le _, by omega, rfl, h1, by simp, rfl⟩
  case round =>
    clear h1
    obtain ⟨j, F, l, hjN, hj30, rfl, h1, hll, hl0⟩ := hrel
    by_cases hlt : j < N ∧ j < 30
    · obtain ⟨hlt1, hlt2⟩ := hlt
      obtain ⟨x, hx⟩ : ∃ x, L1[j]? = some x := ⟨_, List.getElem?_eq_getElem (by rw [HNN.out]; exact hlt1)⟩
      obtain ⟨ad, Al, cl, rfl, ca, hcl⟩ := (HA.out.on h1.up).get hx
      obtain ⟨hwf, hlm⟩ := HZ.out x (List.mem_of_getElem? hx)
      obtain ⟨r, hr⟩ : ∃ r, rtOf x = r := ⟨_, rfl⟩
      have hrr := rtOf_right x
      rw [hr] at hrr
      obtain ⟨nl, hnl⟩ : ∃ n, x.length = n := ⟨_, rfl⟩
      rw [hnl] at hlm ca
      obtain ⟨nr, hnr⟩ : ∃ n, r.path.length = n := ⟨_, rfl⟩
      have HR := Lib.hid hr
      have HRR := Lib.hid hrr
      have HNL := Lib.hid hnl
      have HNR := Lib.hid hnr
      have HWF := Lib.hid hwf
      have HCL := Lib.hid hcl
      have h12 : nr ≤ 12 := by rw [← hnr]; exact rt_len hrr
      have j0 : (0 : Int) ≤ (j : Int) := by omega
      have j1 : (j : Int) < (N : Int) := by omega
      have j2 : (j : Int) < 30 := by omega
      obtain ⟨ln, hln⟩ : ∃ n, l.length = n := ⟨_, rfl⟩
      have HLN := Lib.hid hln
      have S0 : Hid ((l.length : Int) = (ln : Int)) := Lib.hid (by rw [hln])
      rw [hln] at hll
      have HL0 := Lib.hid hl0
      by_cases hm : r ∈ l
      · obtain ⟨i, hi, hil⟩ := ixR_some hm
        obtain ⟨ak, ae, al⟩ := add_old (most := 1000) hrr hm
        have I1 : Hid (ixR r l = (i : Int)) := Lib.hid (ixR_at h1.tab.nodup hi)
        have K1 : Hid (addK 1000 l r = (i : Int)) := Lib.hid (by rw [ak, I1.out])
        have E1 := Lib.hid ae
        have L2 := Lib.hid al
        have q1 : (0 : Int) ≤ (i : Int) := by omega
        clear hx hcl hr hrr hnl hnr hwf hln hl0 hm hi hil ak ae al
        go_wp2_with (first
          | (go_at_call 12; (with_reducible refine (Route_new x r HR nr nl HNR HNL HWF.out hlm HCL.out).mono ?_); rintro e w3 ⟨Ar, cr, rfl, hra, hrn, hle, hcr, hb3⟩; have h2 := (h1.go hb3).go (below_new w3 (.cells #[.int .i64 r.kind, .int .i64 r.cost, .slice Ar nr cr] 25)); have x2 := BoxR.new (ca := cr) h1.tab.lt hb3 hra hrn; obtain ⟨b0, b1, b2⟩ := x2.cells)
          | (go_at_call 16; (with_reducible refine (lawFind h2 HP.out r (i : Int) I1 x2.at_ hle hcr).mono ?_); rintro e w4 ⟨rfl, hb4⟩; have h3 := h2.go hb4; have x3 := x2.go hb4; obtain ⟨d0, d1, d2⟩ := x3.cells)
          | (go_at_call 13; (with_reducible refine (lawAdd h3 HP.out r (i : Int) 0 l K1 E1 L2 x3.at_ hle hcr).mono ?_); rintro e w5 ⟨F5, rfl, h5, _, _⟩)
          | (go_at_call 15; (with_reducible refine (lawSize h5 (ln : Int) S0).mono ?_); rintro e w9 ⟨rfl, rfl⟩)
          | (go_at_call 15; (with_reducible refine (lawSize h3 (ln : Int) S0).mono ?_); rintro e w9 ⟨rfl, rfl⟩))
        go_roundw
        case rel => exact ⟨j + 1, F5, l, by omega, by omega, by go_num, h5, by rw [HLN.out]; omega, HL0.out⟩
        case measure => simp [intOf]; omega
      · obtain ⟨ak, ae, al⟩ := add_new (most := 1000) hrr hm (by rw [hln]; omega)
        have I1 : Hid (ixR r l = -1) := Lib.hid (ixR_not hm)
        have K1 : Hid (addK 1000 l r = (ln : Int)) := Lib.hid (by rw [ak, hln])
        have E1 := Lib.hid ae
        have L2 := Lib.hid al
        have S1 : Hid (((l ++ [r]).length : Int) = (ln : Int) + 1) := Lib.hid (by rw [List.length_append, hln]; simp)
        clear hx hcl hr hrr hnl hnr hwf hln hl0 hm ak ae al
        go_wp2_with (first
          | (go_at_call 12; (with_reducible refine (Route_new x r HR nr nl HNR HNL HWF.out hlm HCL.out).mono ?_); rintro e w3 ⟨Ar, cr, rfl, hra, hrn, hle, hcr, hb3⟩; have h2 := (h1.go hb3).go (below_new w3 (.cells #[.int .i64 r.kind, .int .i64 r.cost, .slice Ar nr cr] 25)); have x2 := BoxR.new (ca := cr) h1.tab.lt hb3 hra hrn; obtain ⟨b0, b1, b2⟩ := x2.cells)
          | (go_at_call 16; (with_reducible refine (lawFind h2 HP.out r (-1) I1 x2.at_ hle hcr).mono ?_); rintro e w4 ⟨rfl, hb4⟩; have h3 := h2.go hb4; have x3 := x2.go hb4; obtain ⟨d0, d1, d2⟩ := x3.cells)
          | (go_at_call 13; (with_reducible refine (lawAdd h3 HP.out r (ln : Int) 0 (l ++ [r]) K1 E1 L2 x3.at_ hle hcr).mono ?_); rintro e w5 ⟨F5, rfl, h5, _, _⟩)
          | (go_at_call 15; (with_reducible refine (lawSize h5 ((ln : Int) + 1) S1).mono ?_); rintro e w9 ⟨rfl, rfl⟩)
          | (go_at_call 15; (with_reducible refine (lawSize h3 (ln : Int) S0).mono ?_); rintro e w9 ⟨rfl, rfl⟩))
        go_roundw
        case rel => exact ⟨j + 1, F5, l ++ [r], by omega, by omega, by go_num, h5, by have := S1.out; omega, by rw [List.getElem?_append_left (by have := (List.getElem?_eq_some_iff.1 HL0.out).1; exact this)]; exact HL0.out⟩
        case measure => simp [intOf]; omega
    · have hcase : ¬ (j : Int) < (N : Int) ∨ ((j : Int) < (N : Int) ∧ ¬ (j : Int) < 30) := by omega
      obtain ⟨ln, hln⟩ : ∃ n, l.length = n := ⟨_, rfl⟩
      have S0 : Hid ((l.length : Int) = (ln : Int)) := Lib.hid (by rw [hln])
      have I0 : Hid (ixR ⟨0, 0, []⟩ l = 0) := Lib.hid (ixR_at (i := 0) h1.tab.nodup hl0)
      have G1 : Hid (getR l (-1) = ⟨0, 0, []⟩) := Lib.hid rfl
      have G2 : Hid (getR l (ln : Int) = ⟨0, 0, []⟩) := Lib.hid (by unfold getR; rw [if_neg (by omega), List.getElem?_eq_none (by omega)]; rfl)
      have V1 : Hid (InI (-1)) := Lib.hid ⟨by omega, by omega⟩
      have V2 : Hid (InI (ln : Int)) := Lib.hid ⟨by omega, by omega⟩
      have N0 : Hid ((Rt.path ⟨0, 0, []⟩).length = 0) := Lib.hid rfl
      have SM : Hid (rtSame ⟨0, 0, []⟩ ⟨0, 0, []⟩ = true) := Lib.hid (by decide)
      clear hlt hl0 hll hln
      rcases hcase with hc | ⟨hc, hc2⟩
      all_goals
        go_wp2_with (first
          | (go_at_call 18; (with_reducible refine (refSame6_is ⟨0, 0, []⟩ ⟨0, 0, []⟩ true SM hg4 (at_flat _ _ _)).mono ?_); rintro e w9 ⟨rfl, hb9⟩; have h5 := h4.go hb9)
          | (go_at_call 18; (with_reducible refine (refSame6_is ⟨0, 0, []⟩ ⟨0, 0, []⟩ true SM hg2 (at_flat _ _ _)).mono ?_); rintro e w8 ⟨rfl, hb8⟩; have h8 := h3.go hb8)
          | (go_at_call 19; (with_reducible refine (lawGet h8 (ln : Int) V2.out ⟨0, 0, []⟩ G2 0 N0 (by omega)).mono ?_); rintro e w6 ⟨A6, c6, rfl, hg4, _, _, _, _, hb6⟩; have h4 := h8.go hb6)
          | (go_at_call 15; (with_reducible refine (lawSize h8 (ln : Int) S0).mono ?_); rintro e w9 ⟨rfl, rfl⟩)
          | (go_at_call 19; (with_reducible refine (lawGet h2 (-1) V1.out ⟨0, 0, []⟩ G1 0 N0 (by omega)).mono ?_); rintro e w5 ⟨A5, c5, rfl, hg2, _, _, _, _, hb5⟩; have h3 := h2.go hb5)
          | (go_at_call 16; (with_reducible refine (lawFind h1 HP.out ⟨0, 0, []⟩ 0 I0 (at_flat _ _ _) (Nat.le_refl 0) (by omega)).mono ?_); rintro e w4 ⟨rfl, hb4⟩; have h2 := h1.go hb4))
        go_ret
        exact ⟨rfl, h5.up⟩
end Go.Proofs.YtlfdpfkimggeoaaDoor
