/-
  AttrKinds: the walk.
-/
import Derived.Test.YtobeenlkhggodaaDoorAtQ
namespace Go.Proofs.YtobeenlkhggodaaDoor
open Go.RowKit
set_option linter.unusedVariables false
set_option linter.unusedSimpArgs false

theorem kinds_facts {a : Rt} (ha : rtRight a = true) (p : Int) :
    (a.kind = 2 → rtBetter ⟨1, p, []⟩ a = true ∧ rtBetter a ⟨1, p, []⟩ = false) ∧ (rtBetter a Rt.none = decide (a.kind ≠ 0)) ∧ rtBetter Rt.none a = false ∧ (decide (rtLen a < 0) = decide (a.kind = 0)) := by
  have hk := rtRight_kind ha
  have hnb : rtBetter Rt.none a = false := by
    rw [← Bool.not_eq_true, better_iff]
    rintro (⟨h, h'⟩ | ⟨h, h'⟩)
    · have : rtAhead Rt.none = 2 := rfl
      have h2 : rtAhead a ≤ 2 := by unfold rtAhead aheadV; split <;> (try split) <;> omega
      omega
    · have h0 : a.kind = 0 := h.symm
      have e : a = Rt.none := by
        obtain ⟨k, c, l⟩ := a
        unfold rtRight at ha
        dsimp only at ha h0
        rw [if_pos h0] at ha
        simp only [Bool.and_eq_true, decide_eq_true_eq] at ha
        rw [h0, ha.1, List.eq_nil_of_length_eq_zero ha.2]; rfl
      rw [e] at h'
      rcases h' with h' | ⟨_, h'⟩
      · omega
      · rw [cmpL_self] at h'; omega
  refine ⟨fun h => ?_, ?_, hnb, ?_⟩
  · have h1 : rtBetter ⟨1, p, []⟩ a = true := by
      rw [better_iff]
      refine .inl ⟨fun e => ?_, ?_⟩
      · dsimp only at e; omega
      · show aheadV 1 < aheadV a.kind
        rw [h]; decide
    exact ⟨h1, better_asym h1⟩
  · by_cases h : a.kind = 0
    · rw [decide_eq_false (fun g => g h)]
      rw [← Bool.not_eq_true, better_iff]
      rintro (⟨g, _⟩ | ⟨g, g'⟩)
      · exact g h
      · have e : a = Rt.none := by
          obtain ⟨k, c, l⟩ := a
          unfold rtRight at ha
          dsimp only at ha h
          rw [if_pos h] at ha
          simp only [Bool.and_eq_true, decide_eq_true_eq] at ha
          rw [h, ha.1, List.eq_nil_of_length_eq_zero ha.2]; rfl
        rw [e] at g'
        rcases g' with g' | ⟨_, g'⟩
        · omega
        · rw [cmpL_self] at g'; omega
    · rw [decide_eq_true h, better_iff]
      refine .inl ⟨h, ?_⟩
      show aheadV a.kind < aheadV 0
      unfold aheadV
      rw [if_neg h, if_pos rfl]
      split <;> omega
  · unfold rtLen lenV
    by_cases h : a.kind = 0
    · rw [if_neg (by omega), if_neg (by omega), h]; rfl
    · rw [decide_eq_false h]
      rw [decide_eq_false]
      by_cases h1 : a.kind = 1
      · rw [if_pos h1]
        unfold rtRight at ha
        rw [if_neg h, if_pos h1] at ha
        simp only [Bool.and_eq_true, decide_eq_true_eq] at ha
        omega
      · rw [if_neg h1, if_pos (by omega)]; omega
theorem best_none (a : Rt) (ha : rtRight a = true) : rtBest [Rt.none, a, Rt.none] = a := by
  have h1 := (kinds_facts ha 0).2.2.1
  have h2 := (kinds_facts ha 0).2.1
  show rtBestF Rt.none [a, Rt.none] = a
  rw [rtBestF, h2]
  by_cases h : a.kind = 0
  · rw [decide_eq_false (fun g => g h), if_neg (by simp), rtBestF, if_neg (by rw [better_irrefl]; simp)]
    show Rt.none = a
    obtain ⟨k, c, l⟩ := a
    unfold rtRight at ha
    dsimp only at ha h
    rw [if_pos h] at ha
    simp only [Bool.and_eq_true, decide_eq_true_eq] at ha
    rw [h, ha.1, List.eq_nil_of_length_eq_zero ha.2]; rfl
  · rw [decide_eq_true h, if_pos rfl, rtBestF, if_neg (by rw [h1]; simp)]; rfl
/-- A route without numbers, in its box. -/
theorem RB.flat {w w1 : World} (k c : Int) (hu : Below w.heap.size w w1) (hT : PowTab w) : RB w w1.heap.size ⟨k, c, []⟩ none 0 0 (w1.alloc (.cells #[.int .i64 k, .int .i64 c, .slice none 0 0] 24)) :=
  ⟨Blk.new _ _ _, RtAt.flat _ _ _, below_on hu (below_new _ _), hT.on (below_on hu (below_new _ _))⟩
theorem RB.cellsF {w : World} {g : Nat} {k c : Int} {W : World} (h : RB w g ⟨k, c, []⟩ none 0 0 W) : W.cell? ⟨g, 0, none⟩ = some (.int .i64 k) ∧ W.cell? ⟨g, 1, none⟩ = some (.int .i64 c) ∧ W.cell? ⟨g, 2, none⟩ = some (.slice none 0 0) := ⟨h.blk.cell 0, h.blk.cell 1, h.blk.cell 2⟩
theorem best_nil (w : World) : Calls Tryd.prog 23 #[.slice none 0 0] w fun e w' => ∃ A c, e = .returned (.agg #[.int .i64 0, .int .i64 0, .slice A 0 c]) ∧ RtAt w' Rt.none A 0 ∧ Below w.heap.size w w' :=
  (atBest_any [] (by simp) none 0 w (RtsAt.nil _ _) (by simp)).mono fun e w' ⟨A, c, he, ho, _, hb⟩ => ⟨A, c, he, ⟨rfl, (RowAt.of_own ho).cells, by omega⟩, hb⟩
theorem same_none {A : Option Addr} {c : Nat} {w : World} (h : RtAt w Rt.none A 0) : Calls Tryd.prog 19 #[.agg #[.int .i64 0, .int .i64 0, .slice A 0 c], .agg #[.int .i64 0, .int .i64 0, .slice none 0 0]] w fun e w' => e = .returned (.bool true) ∧ Below w.heap.size w w' :=
  atSame_is Rt.none Rt.none true (Lib.hid (same_iff.2 rfl)) h (RtAt.flat _ _ _)
theorem best_three {a : Rt} {A : Option Addr} {n c : Nat} {W : World} (ha : Hid (rtRight a = true)) (h : RtAt W a A n) :
    Calls Tryd.prog 23 #[.slice (some ⟨W.heap.size, 0, none⟩) 3 3] (W.alloc (.cells #[.int .i64 0, .int .i64 0, .slice none 0 0, .int .i64 a.kind, .int .i64 a.cost, .slice A n c, .int .i64 0, .int .i64 0, .slice none 0 0] 24)) fun e w' => ∃ A' c', e = .returned (.agg #[.int .i64 a.kind, .int .i64 a.cost, .slice A' n c']) ∧ RtAt w' a A' n ∧ Below W.heap.size W w' := by
  obtain ⟨rfl, h2, h3⟩ := h
  have hk := Blk.new W 24 #[.int .i64 0, .int .i64 0, .slice none 0 0, .int .i64 a.kind, .int .i64 a.cost, .slice A a.path.length c, .int .i64 0, .int .i64 0, .slice none 0 0]
  have hl := rt_len ha.out
  have hr : RtsAt (W.alloc (.cells #[.int .i64 0, .int .i64 0, .slice none 0 0, .int .i64 a.kind, .int .i64 a.cost, .slice A a.path.length c, .int .i64 0, .int .i64 0, .slice none 0 0] 24)) (some ⟨W.heap.size, 0, none⟩) [Rt.none, a, Rt.none] := by
    refine ⟨[(none, 0), (A, c), (none, 0)], rfl, RowAt.cells (fun _ => ⟨W.heap.size, rfl, hk.lt, fun j u hu => by rw [hk.cell, ← hu]; simp [rtC, Rt.none]⟩), fun i r q e1 e2 => ?_⟩
    match i with
    | 0 => simp at e1 e2; subst e1 e2; exact RtAt.flat _ _ _
    | 1 => simp at e1 e2; subst e1 e2; exact RtAt.box ⟨rfl, h2, h3⟩ _
    | 2 => simp at e1 e2; subst e1 e2; exact RtAt.flat _ _ _
    | i + 3 => simp at e1
  have hB := atBest_any [Rt.none, a, Rt.none] (by simp [Rt.none]; omega) (some ⟨W.heap.size, 0, none⟩) 3 _ hr (by simp)
  rw [best_none a ha.out] at hB
  exact hB.mono fun e w' ⟨A', c', he, ho, _, hbl⟩ => ⟨A', c', he, ⟨rfl, (RowAt.of_own ho).cells, h3⟩, below_on (below_new _ _) hbl⟩

set_option maxHeartbeats 8000000 in
set_option maxRecDepth 100000 in
theorem attrKinds_walk (A1 : Option Addr) (c1 : Nat) (l1 : List Int) (hwf1 : ∀ v ∈ l1, InI v) (hm1 : l1.length ≤ 9223372036854775807) (hc1 : l1.length ≤ c1) (hcm1 : c1 ≤ 9223372036854775807) (A2 : Option Addr) (c2 : Nat) (l2 : List Int) (hwf2 : ∀ v ∈ l2, InI v) (hm2 : l2.length ≤ 9223372036854775807) (hc2 : l2.length ≤ c2) (hcm2 : c2 ≤ 9223372036854775807) (x1 : Int) (hx1 : InI x1) (w : World) (hT : PowTab w) (hA1 : CellsAt w w.heap.size A1 (l1.map (Value.int .i64))) (hA2 : CellsAt w w.heap.size A2 (l2.map (Value.int .i64))) :
    Calls Tryd.prog 9 #[.slice A1 l1.length c1, .slice A2 l2.length c2, .int .i64 x1] w fun e w' => e = .returned (.bool true) ∧ Below w.heap.size w w' := by
  obtain ⟨a, ha⟩ : ∃ r, rtOf l1 = r := ⟨_, rfl⟩
  have hra := rtOf_right l1
  rw [ha] at hra
  have hla := rt_len hra
  obtain ⟨na, hna⟩ : ∃ n, a.path.length = n := ⟨_, rfl⟩
  rw [hna] at hla
  obtain ⟨m1, hml1⟩ : ∃ n, l1.length = n := ⟨_, rfl⟩
  rw [hml1] at hm1 hc1 ⊢
  have HRa := Lib.hid ha
  have HQa := Lib.hid hra
  have HNa := Lib.hid hna
  have HM1 := Lib.hid hml1
  have HW1 := Lib.hid hwf1
  clear ha hra hna hml1 hwf1
  obtain ⟨b, hb⟩ : ∃ r, rtOf l2 = r := ⟨_, rfl⟩
  have hrb := rtOf_right l2
  rw [hb] at hrb
  have hlb := rt_len hrb
  obtain ⟨nb, hnb⟩ : ∃ n, b.path.length = n := ⟨_, rfl⟩
  rw [hnb] at hlb
  obtain ⟨m2, hml2⟩ : ∃ n, l2.length = n := ⟨_, rfl⟩
  rw [hml2] at hm2 hc2 ⊢
  have HRb := Lib.hid hb
  have HQb := Lib.hid hrb
  have HNb := Lib.hid hnb
  have HM2 := Lib.hid hml2
  have HW2 := Lib.hid hwf2
  clear hb hrb hnb hml2 hwf2
  obtain ⟨pv, hpv⟩ : ∃ v, pickN x1 16 = v := ⟨_, rfl⟩
  obtain ⟨f1, f2, f3, f4⟩ := kinds_facts HQa.out pv
  have f5 := (kinds_facts HQb.out pv).2.2.1
  obtain ⟨la, hla⟩ : ∃ v, rtLen a = v := ⟨_, rfl⟩
  rw [hla] at f4
  have hk := rtRight_kind HQa.out
  have HPV := Lib.hid hpv
  have HLA := Lib.hid hla
  have HNB := Lib.hid (show rtBetter ⟨0, 0, []⟩ b = false from f5)
  have HAN := Lib.hid f2
  have HSA := Lib.hid (same_iff.2 (rfl : a = a))
  have F1 := Lib.hid f1
  clear hpv hla f5 f2 f1 f3
  rcases (show a.kind = 2 ∨ a.kind = 1 ∨ a.kind = 0 by omega) with hk2 | hk1 | hk0
  · have t2 : (a.kind != 2) = false := by simp [hk2]
    have t0 : (a.kind != 0) = true := by simp [hk2]
    have s0 : (a.kind == 0) = false := by simp [hk2]
    have sl : decide (la < 0) = false := by rw [f4]; simp [hk2]
    have HVA := Lib.hid (F1.out hk2).1
    have HAV := Lib.hid (F1.out hk2).2
    have HA2 : Hid (rtBetter a ⟨0, 0, []⟩ = true) := Lib.hid (show rtBetter a Rt.none = true by rw [HAN.out]; simp [hk2])
    clear hk2 f4 F1 HAN
    go_enter Tryd.func9, Tryd.ntmps9
    go_upto_region 6 with (first
      | (go_at_call 11; refine (awake6_any _ hT).mono ?_; rintro e w1 ⟨rfl, hb1⟩; have hA1x := hA1.on hb1; have hA2x := hA2.on hb1)
      | (go_at_call 14; (with_reducible refine (Route_is l1 a HRa na m1 HNa HM1 HW1.out hm1 hA1x).mono ?_); rintro e w2 ⟨Aa, ca, rfl, raa, lea, hb2⟩; have Ba := RB.new (c := ca) hb1 hT hb2 raa; have hA2x := (hA2x.on hb2).on (below_new _ (.cells #[.int .i64 a.kind, .int .i64 a.cost, .slice Aa na ca] 24)); obtain ⟨a0, a1, a2⟩ := Ba.cells)
      | (go_at_call 14; (with_reducible refine (Route_is l2 b HRb nb m2 HNb HM2 HW2.out hm2 hA2x).mono ?_); rintro e w3 ⟨Ab, cb, rfl, rab, leb, hb3⟩; have Bb := RB.new (c := cb) Ba.up hT hb3 rab; have Ba := (Ba.go hb3).alloc (.cells #[.int .i64 b.kind, .int .i64 b.cost, .slice Ab nb cb] 24); obtain ⟨b0, b1, b2⟩ := Bb.cells; obtain ⟨a0, a1, a2⟩ := Ba.cells)
      | (go_at_call 25; (with_reducible refine (pick6_is x1 16 pv hx1 (by omega) (by omega) HPV _).mono ?_); rintro e w4 ⟨rfl, rfl⟩))
    have hszb := hb3.size
    have Bv := RB.flat 1 pv (below_on (below_on Ba.up (Below.refl _ _)) (Below.refl _ _)) hT
    have Bn := RB.flat 0 0 Bv.up hT
    simp only [World.size_alloc] at Bv Bn
    have Bv := Bv.alloc (.cells #[.int .i64 0, .int .i64 0, .slice none 0 0] 24)
    have Ba := (Ba.alloc (.cells #[.int .i64 1, .int .i64 pv, .slice none 0 0] 24)).alloc (.cells #[.int .i64 0, .int .i64 0, .slice none 0 0] 24)
    have Bb := (Bb.alloc (.cells #[.int .i64 1, .int .i64 pv, .slice none 0 0] 24)).alloc (.cells #[.int .i64 0, .int .i64 0, .slice none 0 0] 24)
    have Ba := Ba.drew
    have Bb := Bb.drew
    have Bv := Bv.drew
    have Bn := Bn.drew
    obtain ⟨a0, a1, a2⟩ := Ba.cells
    obtain ⟨b0, b1, b2⟩ := Bb.cells
    obtain ⟨v0, v1, v2⟩ := Bv.cellsF
    obtain ⟨n0, n1, n2⟩ := Bn.cellsF
    go_region_held3 (fun w' => w'.cell? ⟨w2.heap.size, 0, none⟩ = some (.int .i64 a.kind) ∧ w'.cell? ⟨w2.heap.size, 1, none⟩ = some (.int .i64 a.cost) ∧ w'.cell? ⟨w2.heap.size, 2, none⟩ = some (.slice Aa na ca) ∧ w'.cell? ⟨w3.heap.size, 0, none⟩ = some (.int .i64 b.kind) ∧ w'.cell? ⟨w3.heap.size, 1, none⟩ = some (.int .i64 b.cost) ∧ w'.cell? ⟨w3.heap.size, 2, none⟩ = some (.slice Ab nb cb) ∧ w'.cell? ⟨w3.heap.size + 1, 0, none⟩ = some (.int .i64 1) ∧ w'.cell? ⟨w3.heap.size + 1, 1, none⟩ = some (.int .i64 pv) ∧ w'.cell? ⟨w3.heap.size + 1, 2, none⟩ = some (.slice none 0 0) ∧ w'.cell? ⟨w3.heap.size + 1 + 1, 0, none⟩ = some (.int .i64 0) ∧ w'.cell? ⟨w3.heap.size + 1 + 1, 1, none⟩ = some (.int .i64 0) ∧ w'.cell? ⟨w3.heap.size + 1 + 1, 2, none⟩ = some (.slice none 0 0)) (go_keep) (first
      | (go_at_call 21; (with_reducible refine (atBetter_is ⟨1, pv, []⟩ a true HVA Bv.at_ Ba.at_).mono ?_); rintro e u1 ⟨rfl, hy1⟩; replace Ba := Ba.go hy1; replace Bb := Bb.go hy1; replace Bv := Bv.go hy1; replace Bn := Bn.go hy1; obtain ⟨a0, a1, a2⟩ := Ba.cells; obtain ⟨b0, b1, b2⟩ := Bb.cells; obtain ⟨v0, v1, v2⟩ := Bv.cellsF; obtain ⟨n0, n1, n2⟩ := Bn.cellsF)
      | (go_at_call 21; (with_reducible refine (atBetter_is a ⟨1, pv, []⟩ false HAV Ba.at_ Bv.at_).mono ?_); rintro e u2 ⟨rfl, hy2⟩; replace Ba := Ba.go hy2; replace Bb := Bb.go hy2; replace Bv := Bv.go hy2; replace Bn := Bn.go hy2; obtain ⟨a0, a1, a2⟩ := Ba.cells; obtain ⟨b0, b1, b2⟩ := Bb.cells; obtain ⟨v0, v1, v2⟩ := Bv.cellsF; obtain ⟨n0, n1, n2⟩ := Bn.cellsF)
      | (go_at_call 21; (with_reducible refine (atBetter_is ⟨0, 0, []⟩ b false HNB Bn.at_ Bb.at_).mono ?_); rintro e u4 ⟨rfl, hy4⟩; replace Ba := Ba.go hy4; replace Bb := Bb.go hy4; replace Bv := Bv.go hy4; replace Bn := Bn.go hy4; obtain ⟨a0, a1, a2⟩ := Ba.cells; obtain ⟨b0, b1, b2⟩ := Bb.cells; obtain ⟨v0, v1, v2⟩ := Bv.cellsF; obtain ⟨n0, n1, n2⟩ := Bn.cellsF)
      | (go_at_call 21; (with_reducible refine (atBetter_is a ⟨0, 0, []⟩ _ HA2 Ba.at_ Bn.at_).mono ?_); rintro e u3 ⟨rfl, hy3⟩; replace Ba := Ba.go hy3; replace Bb := Bb.go hy3; replace Bv := Bv.go hy3; replace Bn := Bn.go hy3; obtain ⟨a0, a1, a2⟩ := Ba.cells; obtain ⟨b0, b1, b2⟩ := Bb.cells; obtain ⟨v0, v1, v2⟩ := Bv.cellsF; obtain ⟨n0, n1, n2⟩ := Bn.cellsF)
      | (go_at_call 19; (with_reducible refine (same_none h5).mono ?_); rintro e u6 ⟨rfl, hy6⟩; replace Ba := Ba.go hy6; replace Bb := Bb.go hy6; replace Bv := Bv.go hy6; replace Bn := Bn.go hy6; obtain ⟨a0, a1, a2⟩ := Ba.cells; obtain ⟨b0, b1, b2⟩ := Bb.cells; obtain ⟨v0, v1, v2⟩ := Bv.cellsF; obtain ⟨n0, n1, n2⟩ := Bn.cellsF; have hz6 := Bn.blk.lt; have hz6' := Ba.blk.lt; have hz6b := Bb.blk.lt)
      | (go_at_call 23; (with_reducible refine (best_nil _).mono ?_); rintro e u5 ⟨A5, c5, rfl, h5, hy5⟩; replace Ba := Ba.go hy5; replace Bb := Bb.go hy5; replace Bv := Bv.go hy5; replace Bn := Bn.go hy5; obtain ⟨a0, a1, a2⟩ := Ba.cells; obtain ⟨b0, b1, b2⟩ := Bb.cells; obtain ⟨v0, v1, v2⟩ := Bv.cellsF; obtain ⟨n0, n1, n2⟩ := Bn.cellsF)
      | (go_at_call 23; (with_reducible refine (best_three HQa Ba.at_).mono ?_); rintro e u7 ⟨A7, c7, rfl, h7, hy7⟩; replace Ba := Ba.go hy7; replace Bb := Bb.go hy7; replace Bv := Bv.go hy7; replace Bn := Bn.go hy7; obtain ⟨a0, a1, a2⟩ := Ba.cells; obtain ⟨b0, b1, b2⟩ := Bb.cells; obtain ⟨v0, v1, v2⟩ := Bv.cellsF; obtain ⟨n0, n1, n2⟩ := Bn.cellsF)
      | (go_at_call 19; (with_reducible refine (atSame_is a a true HSA h7 Ba.at_).mono ?_); rintro e u8 ⟨rfl, hy8⟩; replace Ba := Ba.go hy8; replace Bb := Bb.go hy8; replace Bv := Bv.go hy8; replace Bn := Bn.go hy8; obtain ⟨a0, a1, a2⟩ := Ba.cells; obtain ⟨b0, b1, b2⟩ := Bb.cells; obtain ⟨v0, v1, v2⟩ := Bv.cellsF; obtain ⟨n0, n1, n2⟩ := Bn.cellsF)
      | (go_at_call 17; (with_reducible refine (atLength_is a la HLA _ HNa.out).mono ?_); rintro e u9 ⟨rfl, hy9⟩; replace Ba := Ba.go hy9; replace Bb := Bb.go hy9; replace Bv := Bv.go hy9; replace Bn := Bn.go hy9; obtain ⟨a0, a1, a2⟩ := Ba.cells; obtain ⟨b0, b1, b2⟩ := Bb.cells; obtain ⟨v0, v1, v2⟩ := Bv.cellsF; obtain ⟨n0, n1, n2⟩ := Bn.cellsF))
    repeat go_step
    go_ret
    exact ⟨ret_bool (by first | rfl | (simp; done) | (simp; omega)), Ba.up⟩
  · have t2 : (a.kind != 2) = true := by simp [hk1]
    have t0 : (a.kind != 0) = true := by simp [hk1]
    have s0 : (a.kind == 0) = false := by simp [hk1]
    have sl : decide (la < 0) = false := by rw [f4]; simp [hk1]
    have HA2 : Hid (rtBetter a ⟨0, 0, []⟩ = true) := Lib.hid (show rtBetter a Rt.none = true by rw [HAN.out]; simp [hk1])
    clear hk1 f4 F1 HAN
    go_enter Tryd.func9, Tryd.ntmps9
    go_upto_region 6 with (first
      | (go_at_call 11; refine (awake6_any _ hT).mono ?_; rintro e w1 ⟨rfl, hb1⟩; have hA1x := hA1.on hb1; have hA2x := hA2.on hb1)
      | (go_at_call 14; (with_reducible refine (Route_is l1 a HRa na m1 HNa HM1 HW1.out hm1 hA1x).mono ?_); rintro e w2 ⟨Aa, ca, rfl, raa, lea, hb2⟩; have Ba := RB.new (c := ca) hb1 hT hb2 raa; have hA2x := (hA2x.on hb2).on (below_new _ (.cells #[.int .i64 a.kind, .int .i64 a.cost, .slice Aa na ca] 24)); obtain ⟨a0, a1, a2⟩ := Ba.cells)
      | (go_at_call 14; (with_reducible refine (Route_is l2 b HRb nb m2 HNb HM2 HW2.out hm2 hA2x).mono ?_); rintro e w3 ⟨Ab, cb, rfl, rab, leb, hb3⟩; have Bb := RB.new (c := cb) Ba.up hT hb3 rab; have Ba := (Ba.go hb3).alloc (.cells #[.int .i64 b.kind, .int .i64 b.cost, .slice Ab nb cb] 24); obtain ⟨b0, b1, b2⟩ := Bb.cells; obtain ⟨a0, a1, a2⟩ := Ba.cells)
      | (go_at_call 25; (with_reducible refine (pick6_is x1 16 pv hx1 (by omega) (by omega) HPV _).mono ?_); rintro e w4 ⟨rfl, rfl⟩))
    have hszb := hb3.size
    have Bv := RB.flat 1 pv (below_on (below_on Ba.up (Below.refl _ _)) (Below.refl _ _)) hT
    have Bn := RB.flat 0 0 Bv.up hT
    simp only [World.size_alloc] at Bv Bn
    have Bv := Bv.alloc (.cells #[.int .i64 0, .int .i64 0, .slice none 0 0] 24)
    have Ba := (Ba.alloc (.cells #[.int .i64 1, .int .i64 pv, .slice none 0 0] 24)).alloc (.cells #[.int .i64 0, .int .i64 0, .slice none 0 0] 24)
    have Bb := (Bb.alloc (.cells #[.int .i64 1, .int .i64 pv, .slice none 0 0] 24)).alloc (.cells #[.int .i64 0, .int .i64 0, .slice none 0 0] 24)
    have Ba := Ba.drew
    have Bb := Bb.drew
    have Bv := Bv.drew
    have Bn := Bn.drew
    obtain ⟨a0, a1, a2⟩ := Ba.cells
    obtain ⟨b0, b1, b2⟩ := Bb.cells
    obtain ⟨v0, v1, v2⟩ := Bv.cellsF
    obtain ⟨n0, n1, n2⟩ := Bn.cellsF
    refine wp_region_held_drew (S := (fun w' => w'.cell? ⟨w2.heap.size, 0, none⟩ = some (.int .i64 a.kind) ∧ w'.cell? ⟨w2.heap.size, 1, none⟩ = some (.int .i64 a.cost) ∧ w'.cell? ⟨w2.heap.size, 2, none⟩ = some (.slice Aa na ca) ∧ w'.cell? ⟨w3.heap.size, 0, none⟩ = some (.int .i64 b.kind) ∧ w'.cell? ⟨w3.heap.size, 1, none⟩ = some (.int .i64 b.cost) ∧ w'.cell? ⟨w3.heap.size, 2, none⟩ = some (.slice Ab nb cb) ∧ w'.cell? ⟨w3.heap.size + 1, 0, none⟩ = some (.int .i64 1) ∧ w'.cell? ⟨w3.heap.size + 1, 1, none⟩ = some (.int .i64 pv) ∧ w'.cell? ⟨w3.heap.size + 1, 2, none⟩ = some (.slice none 0 0) ∧ w'.cell? ⟨w3.heap.size + 1 + 1, 0, none⟩ = some (.int .i64 0) ∧ w'.cell? ⟨w3.heap.size + 1 + 1, 1, none⟩ = some (.int .i64 0) ∧ w'.cell? ⟨w3.heap.size + 1 + 1, 2, none⟩ = some (.slice none 0 0))) (by kernel_rfl) (by go_keep) (fun hHeld => ?_)
    refine wpAnyH_take (i := 0) (oi := ?o1) (v := ?v1) ?h1 ?s1 ?f1 ?c1 ?q1 ?y1 hHeld ?r1
    case h1 => (simp only [List.getElem?_toArray, List.getElem?_cons_succ, List.getElem?_cons_zero]; rfl)
    case s1 => kernel_rfl
    case f1 => kernel_rfl
    case c1 => kernel_rfl
    case y1 => (refine Or.inl ⟨by rfl, ?_⟩; intro w hSw; (try dsimp only at hSw); go_simp; (try with_reducible rfl))
    case q1 => exact fun _ _ _ h => h
    try simp only [Act.put, List.setIfInBounds_toArray, List.set_cons_zero, List.set_cons_succ]
    refine wpAnyH_take (i := 1) (oi := ?o2) (v := ?v2) ?h2 ?s2 ?f2 ?c2 ?q2 ?y2 hHeld ?r2
    case h2 => (simp only [List.getElem?_toArray, List.getElem?_cons_succ, List.getElem?_cons_zero]; rfl)
    case s2 => kernel_rfl
    case f2 => kernel_rfl
    case c2 => kernel_rfl
    case y2 => (refine Or.inl ⟨by rfl, ?_⟩; intro w hSw; (try dsimp only at hSw); go_simp; (try with_reducible rfl))
    case q2 => exact fun _ _ _ h => h
    try simp only [Act.put, List.setIfInBounds_toArray, List.set_cons_zero, List.set_cons_succ]
    refine wpAnyH_take (i := 2) (oi := ?o3) (v := ?v3) ?h3 ?s3 ?f3 ?c3 ?q3 ?y3 hHeld ?r3
    case h3 => (simp only [List.getElem?_toArray, List.getElem?_cons_succ, List.getElem?_cons_zero]; rfl)
    case s3 => kernel_rfl
    case f3 => kernel_rfl
    case c3 => kernel_rfl
    case y3 => (refine Or.inl ⟨by rfl, ?_⟩; intro w hSw; (try dsimp only at hSw); go_simp; (try with_reducible rfl))
    case q3 => exact fun _ _ _ h => h
    try simp only [Act.put, List.setIfInBounds_toArray, List.set_cons_zero, List.set_cons_succ]
    refine wpAnyH_take (i := 3) (oi := ?o4) (v := ?v4) ?h4 ?s4 ?f4 ?c4 ?q4 ?y4 hHeld ?r4
    case h4 => (simp only [List.getElem?_toArray, List.getElem?_cons_succ, List.getElem?_cons_zero]; rfl)
    case s4 => kernel_rfl
    case f4 => kernel_rfl
    case c4 => kernel_rfl
    case y4 => (refine Or.inl ⟨by rfl, ?_⟩; intro w hSw; (try dsimp only at hSw); go_simp; (try with_reducible rfl))
    case q4 => exact fun _ _ _ h => h
    try simp only [Act.put, List.setIfInBounds_toArray, List.set_cons_zero, List.set_cons_succ]
    refine wpAnyH_take (i := 4) (oi := ?o5) (v := ?v5) ?h5 ?s5 ?f5 ?c5 ?q5 ?y5 hHeld ?r5
    case h5 => (simp only [List.getElem?_toArray, List.getElem?_cons_succ, List.getElem?_cons_zero]; rfl)
    case s5 => kernel_rfl
    case f5 => kernel_rfl
    case c5 => kernel_rfl
    case y5 => (refine Or.inl ⟨by rfl, ?_⟩; intro w hSw; (try dsimp only at hSw); go_simp; (try with_reducible rfl))
    case q5 => exact fun _ _ _ h => h
    try simp only [Act.put, List.setIfInBounds_toArray, List.set_cons_zero, List.set_cons_succ]
    refine wpAnyH_take (i := 5) (oi := ?o6) (v := ?v6) ?h6 ?s6 ?f6 ?c6 ?q6 ?y6 hHeld ?r6
    case h6 => (simp only [List.getElem?_toArray, List.getElem?_cons_succ, List.getElem?_cons_zero]; rfl)
    case s6 => kernel_rfl
    case f6 => kernel_rfl
    case c6 => kernel_rfl
    case y6 => (refine Or.inl ⟨by rfl, ?_⟩; intro w hSw; (try dsimp only at hSw); go_simp; (try with_reducible rfl))
    case q6 => exact fun _ _ _ h => h
    try simp only [Act.put, List.setIfInBounds_toArray, List.set_cons_zero, List.set_cons_succ]
    refine wpAnyH_take (i := 6) (oi := ?o7) (v := undef) ?h7 ?s7 ?f7 ?c7 ?q7 ?y7 hHeld ?r7
    case h7 => (simp only [List.getElem?_toArray, List.getElem?_cons_succ, List.getElem?_cons_zero]; rfl)
    case s7 => kernel_rfl
    case f7 => kernel_rfl
    case c7 => kernel_rfl
    case y7 => exact Or.inr ⟨by rfl, rfl⟩
    case q7 => exact fun _ _ _ h => h
    try simp only [Act.put, List.setIfInBounds_toArray, List.set_cons_zero, List.set_cons_succ]
    refine wpAnyH_take (i := 7) (oi := ?o8) (v := undef) ?h8 ?s8 ?f8 ?c8 ?q8 ?y8 hHeld ?r8
    case h8 => (simp only [List.getElem?_toArray, List.getElem?_cons_succ, List.getElem?_cons_zero]; rfl)
    case s8 => kernel_rfl
    case f8 => kernel_rfl
    case c8 => kernel_rfl
    case y8 => exact Or.inr ⟨by rfl, rfl⟩
    case q8 => exact fun _ _ _ h => h
    try simp only [Act.put, List.setIfInBounds_toArray, List.set_cons_zero, List.set_cons_succ]
    refine wpAnyH_take (i := 8) (oi := ?o9) (v := undef) ?h9 ?s9 ?f9 ?c9 ?q9 ?y9 hHeld ?r9
    case h9 => (simp only [List.getElem?_toArray, List.getElem?_cons_succ, List.getElem?_cons_zero]; rfl)
    case s9 => kernel_rfl
    case f9 => kernel_rfl
    case c9 => kernel_rfl
    case y9 => exact Or.inr ⟨by rfl, rfl⟩
    case q9 => exact fun _ _ _ h => h
    try simp only [Act.put, List.setIfInBounds_toArray, List.set_cons_zero, List.set_cons_succ]
    refine wpAnyH_take (i := 9) (oi := ?o10) (v := undef) ?h10 ?s10 ?f10 ?c10 ?q10 ?y10 hHeld ?r10
    case h10 => (simp only [List.getElem?_toArray, List.getElem?_cons_succ, List.getElem?_cons_zero]; rfl)
    case s10 => kernel_rfl
    case f10 => kernel_rfl
    case c10 => kernel_rfl
    case y10 => exact Or.inr ⟨by rfl, rfl⟩
    case q10 => exact fun _ _ _ h => h
    try simp only [Act.put, List.setIfInBounds_toArray, List.set_cons_zero, List.set_cons_succ]
    refine wpAnyH_take (i := 10) (oi := ?o11) (v := undef) ?h11 ?s11 ?f11 ?c11 ?q11 ?y11 hHeld ?r11
    case h11 => (simp only [List.getElem?_toArray, List.getElem?_cons_succ, List.getElem?_cons_zero]; rfl)
    case s11 => kernel_rfl
    case f11 => kernel_rfl
    case c11 => kernel_rfl
    case y11 => exact Or.inr ⟨by rfl, rfl⟩
    case q11 => exact fun _ _ _ h => h
    try simp only [Act.put, List.setIfInBounds_toArray, List.set_cons_zero, List.set_cons_succ]
    refine wpAnyH_take (i := 11) (oi := ?o12) (v := undef) ?h12 ?s12 ?f12 ?c12 ?q12 ?y12 hHeld ?r12
    case h12 => (simp only [List.getElem?_toArray, List.getElem?_cons_succ, List.getElem?_cons_zero]; rfl)
    case s12 => kernel_rfl
    case f12 => kernel_rfl
    case c12 => kernel_rfl
    case y12 => exact Or.inr ⟨by rfl, rfl⟩
    case q12 => exact fun _ _ _ h => h
    try simp only [Act.put, List.setIfInBounds_toArray, List.set_cons_zero, List.set_cons_succ]
    refine wpAnyH_take (i := 12) (oi := ?o13) (v := undef) ?h13 ?s13 ?f13 ?c13 ?q13 ?y13 hHeld ?r13
    case h13 => (simp only [List.getElem?_toArray, List.getElem?_cons_succ, List.getElem?_cons_zero]; rfl)
    case s13 => kernel_rfl
    case f13 => kernel_rfl
    case c13 => kernel_rfl
    case y13 => exact Or.inr ⟨by rfl, rfl⟩
    case q13 => exact fun _ _ _ h => h
    try simp only [Act.put, List.setIfInBounds_toArray, List.set_cons_zero, List.set_cons_succ]
    refine wpAnyH_take (i := 13) (oi := ?o14) (v := undef) ?h14 ?s14 ?f14 ?c14 ?q14 ?y14 hHeld ?r14
    case h14 => (simp only [List.getElem?_toArray, List.getElem?_cons_succ, List.getElem?_cons_zero]; rfl)
    case s14 => kernel_rfl
    case f14 => kernel_rfl
    case c14 => kernel_rfl
    case y14 => exact Or.inr ⟨by rfl, rfl⟩
    case q14 => exact fun _ _ _ h => h
    try simp only [Act.put, List.setIfInBounds_toArray, List.set_cons_zero, List.set_cons_succ]
    refine wpAnyH_take (i := 14) (oi := ?o15) (v := undef) ?h15 ?s15 ?f15 ?c15 ?q15 ?y15 hHeld ?r15
    case h15 => (simp only [List.getElem?_toArray, List.getElem?_cons_succ, List.getElem?_cons_zero]; rfl)
    case s15 => kernel_rfl
    case f15 => kernel_rfl
    case c15 => kernel_rfl
    case y15 => exact Or.inr ⟨by rfl, rfl⟩
    case q15 => exact fun _ _ _ h => h
    try simp only [Act.put, List.setIfInBounds_toArray, List.set_cons_zero, List.set_cons_succ]
    refine wpAnyH_take (i := 15) (oi := ?o16) (v := ?v16) ?h16 ?s16 ?f16 ?c16 ?q16 ?y16 hHeld ?r16
    case h16 => (simp only [List.getElem?_toArray, List.getElem?_cons_succ, List.getElem?_cons_zero]; rfl)
    case s16 => kernel_rfl
    case f16 => kernel_rfl
    case c16 => kernel_rfl
    case y16 => (refine Or.inl ⟨by rfl, ?_⟩; intro w hSw; (try dsimp only at hSw); go_simp; (try with_reducible rfl))
    case q16 => exact fun _ _ _ h => h
    try simp only [Act.put, List.setIfInBounds_toArray, List.set_cons_zero, List.set_cons_succ]
    refine wpAnyH_take (i := 16) (oi := ?o17) (v := ?v17) ?h17 ?s17 ?f17 ?c17 ?q17 ?y17 hHeld ?r17
    case h17 => (simp only [List.getElem?_toArray, List.getElem?_cons_succ, List.getElem?_cons_zero]; rfl)
    case s17 => kernel_rfl
    case f17 => kernel_rfl
    case c17 => kernel_rfl
    case y17 => (refine Or.inl ⟨by rfl, ?_⟩; intro w hSw; (try dsimp only at hSw); go_simp; (try with_reducible rfl))
    case q17 => exact fun _ _ _ h => h
    try simp only [Act.put, List.setIfInBounds_toArray, List.set_cons_zero, List.set_cons_succ]
    refine wpAnyH_take (i := 17) (oi := ?o18) (v := ?v18) ?h18 ?s18 ?f18 ?c18 ?q18 ?y18 hHeld ?r18
    case h18 => (simp only [List.getElem?_toArray, List.getElem?_cons_succ, List.getElem?_cons_zero]; rfl)
    case s18 => kernel_rfl
    case f18 => kernel_rfl
    case c18 => kernel_rfl
    case y18 => (refine Or.inl ⟨by rfl, ?_⟩; intro w hSw; (try dsimp only at hSw); go_simp; (try with_reducible rfl))
    case q18 => exact fun _ _ _ h => h
    try simp only [Act.put, List.setIfInBounds_toArray, List.set_cons_zero, List.set_cons_succ]
    refine wpAnyH_take (i := 18) (oi := ?o19) (v := ?v19) ?h19 ?s19 ?f19 ?c19 ?q19 ?y19 hHeld ?r19
    case h19 => (simp only [List.getElem?_toArray, List.getElem?_cons_succ, List.getElem?_cons_zero]; rfl)
    case s19 => kernel_rfl
    case f19 => kernel_rfl
    case c19 => kernel_rfl
    case y19 => (refine Or.inl ⟨by rfl, ?_⟩; intro w hSw; (try dsimp only at hSw); go_simp; (try with_reducible rfl))
    case q19 => exact fun _ _ _ h => h
    try simp only [Act.put, List.setIfInBounds_toArray, List.set_cons_zero, List.set_cons_succ]
    refine wpAnyH_take (i := 19) (oi := ?o20) (v := ?v20) ?h20 ?s20 ?f20 ?c20 ?q20 ?y20 hHeld ?r20
    case h20 => (simp only [List.getElem?_toArray, List.getElem?_cons_succ, List.getElem?_cons_zero]; rfl)
    case s20 => kernel_rfl
    case f20 => kernel_rfl
    case c20 => kernel_rfl
    case y20 => (refine Or.inl ⟨by rfl, ?_⟩; intro w hSw; (try dsimp only at hSw); go_simp; (try with_reducible rfl))
    case q20 => exact fun _ _ _ h => h
    try simp only [Act.put, List.setIfInBounds_toArray, List.set_cons_zero, List.set_cons_succ]
    refine wpAnyH_take (i := 21) (oi := ?o21) (v := ?v21) ?h21 ?s21 ?f21 ?c21 ?q21 ?y21 hHeld ?r21
    case h21 => (simp only [List.getElem?_toArray, List.getElem?_cons_succ, List.getElem?_cons_zero]; rfl)
    case s21 => kernel_rfl
    case f21 => kernel_rfl
    case c21 => kernel_rfl
    case y21 => (refine Or.inl ⟨by rfl, ?_⟩; intro w hSw; (try dsimp only at hSw); go_simp; (try with_reducible rfl))
    case q21 => exact fun _ _ _ h => h
    try simp only [Act.put, List.setIfInBounds_toArray, List.set_cons_zero, List.set_cons_succ]
    refine wpAnyH_take (i := 22) (oi := ?o22) (v := ?v22) ?h22 ?s22 ?f22 ?c22 ?q22 ?y22 hHeld ?r22
    case h22 => (simp only [List.getElem?_toArray, List.getElem?_cons_succ, List.getElem?_cons_zero]; rfl)
    case s22 => kernel_rfl
    case f22 => kernel_rfl
    case c22 => kernel_rfl
    case y22 => (refine Or.inl ⟨by rfl, ?_⟩; intro w hSw; (try dsimp only at hSw); go_simp; (try with_reducible rfl))
    case q22 => exact fun _ _ _ h => h
    try simp only [Act.put, List.setIfInBounds_toArray, List.set_cons_zero, List.set_cons_succ]
    refine wpAnyH_take (i := 23) (oi := ?o23) (v := ?v23) ?h23 ?s23 ?f23 ?c23 ?q23 ?y23 hHeld ?r23
    case h23 => (simp only [List.getElem?_toArray, List.getElem?_cons_succ, List.getElem?_cons_zero]; rfl)
    case s23 => kernel_rfl
    case f23 => kernel_rfl
    case c23 => kernel_rfl
    case y23 => (refine Or.inl ⟨by rfl, ?_⟩; intro w hSw; (try dsimp only at hSw); go_simp; (try with_reducible rfl))
    case q23 => exact fun _ _ _ h => h
    try simp only [Act.put, List.setIfInBounds_toArray, List.set_cons_zero, List.set_cons_succ]
    refine wpAnyH_ready (rs := [20]) (by kernel_rfl) (by simp) ?_
    refine AllReadyH.cons rfl (fun K hK => ?_) ?n24
    case n24 => exact AllReadyH.nil
    go_simp
    (go_at_call 21; (with_reducible refine (atBetter_is a ⟨0, 0, []⟩ _ HA2 Ba.at_ Bn.at_).mono ?_); rintro e u3 ⟨rfl, hy3⟩; replace Ba := Ba.go hy3; replace Bb := Bb.go hy3; replace Bv := Bv.go hy3; replace Bn := Bn.go hy3; obtain ⟨a0, a1, a2⟩ := Ba.cells; obtain ⟨b0, b1, b2⟩ := Bb.cells; obtain ⟨v0, v1, v2⟩ := Bv.cellsF; obtain ⟨n0, n1, n2⟩ := Bn.cellsF)
    go_wp2_with fail
    refine hK.out _ _ (by go_keep) (fun hHeld => ?_)
    clear hK
    try simp only [Act.put, List.setIfInBounds_toArray, List.set_cons_zero, List.set_cons_succ]
    refine wpAnyH_take (i := 24) (oi := ?o25) (v := ?v25) ?h25 ?s25 ?f25 ?c25 ?q25 ?y25 hHeld ?r25
    case h25 => (simp only [List.getElem?_toArray, List.getElem?_cons_succ, List.getElem?_cons_zero]; rfl)
    case s25 => kernel_rfl
    case f25 => kernel_rfl
    case c25 => kernel_rfl
    case y25 => (refine Or.inl ⟨by rfl, ?_⟩; intro w hSw; (try dsimp only at hSw); go_simp; (try with_reducible rfl))
    case q25 => exact fun _ _ _ h => h
    try simp only [Act.put, List.setIfInBounds_toArray, List.set_cons_zero, List.set_cons_succ]
    refine wpAnyH_take (i := 25) (oi := ?o26) (v := ?v26) ?h26 ?s26 ?f26 ?c26 ?q26 ?y26 hHeld ?r26
    case h26 => (simp only [List.getElem?_toArray, List.getElem?_cons_succ, List.getElem?_cons_zero]; rfl)
    case s26 => kernel_rfl
    case f26 => kernel_rfl
    case c26 => kernel_rfl
    case y26 => (refine Or.inl ⟨by rfl, ?_⟩; intro w hSw; (try dsimp only at hSw); go_simp; (try with_reducible rfl))
    case q26 => exact fun _ _ _ h => h
    try simp only [Act.put, List.setIfInBounds_toArray, List.set_cons_zero, List.set_cons_succ]
    refine wpAnyH_take (i := 26) (oi := ?o27) (v := ?v27) ?h27 ?s27 ?f27 ?c27 ?q27 ?y27 hHeld ?r27
    case h27 => (simp only [List.getElem?_toArray, List.getElem?_cons_succ, List.getElem?_cons_zero]; rfl)
    case s27 => kernel_rfl
    case f27 => kernel_rfl
    case c27 => kernel_rfl
    case y27 => (refine Or.inl ⟨by rfl, ?_⟩; intro w hSw; (try dsimp only at hSw); go_simp; (try with_reducible rfl))
    case q27 => exact fun _ _ _ h => h
    try simp only [Act.put, List.setIfInBounds_toArray, List.set_cons_zero, List.set_cons_succ]
    refine wpAnyH_take (i := 27) (oi := ?o28) (v := ?v28) ?h28 ?s28 ?f28 ?c28 ?q28 ?y28 hHeld ?r28
    case h28 => (simp only [List.getElem?_toArray, List.getElem?_cons_succ, List.getElem?_cons_zero]; rfl)
    case s28 => kernel_rfl
    case f28 => kernel_rfl
    case c28 => kernel_rfl
    case y28 => (refine Or.inl ⟨by rfl, ?_⟩; intro w hSw; (try dsimp only at hSw); go_simp; (try with_reducible rfl))
    case q28 => exact fun _ _ _ h => h
    try simp only [Act.put, List.setIfInBounds_toArray, List.set_cons_zero, List.set_cons_succ]
    refine wpAnyH_take (i := 28) (oi := ?o29) (v := ?v29) ?h29 ?s29 ?f29 ?c29 ?q29 ?y29 hHeld ?r29
    case h29 => (simp only [List.getElem?_toArray, List.getElem?_cons_succ, List.getElem?_cons_zero]; rfl)
    case s29 => kernel_rfl
    case f29 => kernel_rfl
    case c29 => kernel_rfl
    case y29 => (refine Or.inl ⟨by rfl, ?_⟩; intro w hSw; (try dsimp only at hSw); go_simp; (try with_reducible rfl))
    case q29 => exact fun _ _ _ h => h
    try simp only [Act.put, List.setIfInBounds_toArray, List.set_cons_zero, List.set_cons_succ]
    refine wpAnyH_ready (rs := [29]) (by kernel_rfl) (by simp) ?_
    refine AllReadyH.cons rfl (fun K hK => ?_) ?n30
    case n30 => exact AllReadyH.nil
    go_simp
    (go_at_call 21; (with_reducible refine (atBetter_is ⟨0, 0, []⟩ b false HNB Bn.at_ Bb.at_).mono ?_); rintro e u4 ⟨rfl, hy4⟩; replace Ba := Ba.go hy4; replace Bb := Bb.go hy4; replace Bv := Bv.go hy4; replace Bn := Bn.go hy4; obtain ⟨a0, a1, a2⟩ := Ba.cells; obtain ⟨b0, b1, b2⟩ := Bb.cells; obtain ⟨v0, v1, v2⟩ := Bv.cellsF; obtain ⟨n0, n1, n2⟩ := Bn.cellsF)
    go_wp2_with fail
    refine hK.out _ _ (by go_keep) (fun hHeld => ?_)
    clear hK
    try simp only [Act.put, List.setIfInBounds_toArray, List.set_cons_zero, List.set_cons_succ]
    refine wpAnyH_take (i := 30) (oi := ?o31) (v := ?v31) ?h31 ?s31 ?f31 ?c31 ?q31 ?y31 hHeld ?r31
    case h31 => (simp only [List.getElem?_toArray, List.getElem?_cons_succ, List.getElem?_cons_zero]; rfl)
    case s31 => kernel_rfl
    case f31 => kernel_rfl
    case c31 => kernel_rfl
    case y31 => (refine Or.inl ⟨by rfl, ?_⟩; intro w hSw; (try dsimp only at hSw); go_simp; (try with_reducible rfl))
    case q31 => exact fun _ _ _ h => h
    try simp only [Act.put, List.setIfInBounds_toArray, List.set_cons_zero, List.set_cons_succ]
    refine wpAnyH_take (i := 31) (oi := ?o32) (v := ?v32) ?h32 ?s32 ?f32 ?c32 ?q32 ?y32 hHeld ?r32
    case h32 => (simp only [List.getElem?_toArray, List.getElem?_cons_succ, List.getElem?_cons_zero]; rfl)
    case s32 => kernel_rfl
    case f32 => kernel_rfl
    case c32 => kernel_rfl
    case y32 => (refine Or.inl ⟨by rfl, ?_⟩; intro w hSw; (try dsimp only at hSw); go_simp; (try with_reducible rfl))
    case q32 => exact fun _ _ _ h => h
    try simp only [Act.put, List.setIfInBounds_toArray, List.set_cons_zero, List.set_cons_succ]
    refine wpAnyH_take (i := 32) (oi := ?o33) (v := ?v33) ?h33 ?s33 ?f33 ?c33 ?q33 ?y33 hHeld ?r33
    case h33 => (simp only [List.getElem?_toArray, List.getElem?_cons_succ, List.getElem?_cons_zero]; rfl)
    case s33 => kernel_rfl
    case f33 => kernel_rfl
    case c33 => kernel_rfl
    case y33 => (refine Or.inl ⟨by rfl, ?_⟩; intro w hSw; (try dsimp only at hSw); go_simp; (try with_reducible rfl))
    case q33 => exact fun _ _ _ h => h
    try simp only [Act.put, List.setIfInBounds_toArray, List.set_cons_zero, List.set_cons_succ]
    refine wpAnyH_take (i := 34) (oi := ?o34) (v := ?v34) ?h34 ?s34 ?f34 ?c34 ?q34 ?y34 hHeld ?r34
    case h34 => (simp only [List.getElem?_toArray, List.getElem?_cons_succ, List.getElem?_cons_zero]; rfl)
    case s34 => kernel_rfl
    case f34 => kernel_rfl
    case c34 => kernel_rfl
    case y34 => (refine Or.inl ⟨by rfl, ?_⟩; intro w hSw; (try dsimp only at hSw); go_simp; (try with_reducible rfl))
    case q34 => exact fun _ _ _ h => h
    try simp only [Act.put, List.setIfInBounds_toArray, List.set_cons_zero, List.set_cons_succ]
    refine wpAnyH_ready (rs := [33]) (by kernel_rfl) (by simp) ?_
    refine AllReadyH.cons rfl (fun K hK => ?_) ?n35
    case n35 => exact AllReadyH.nil
    go_simp
    (go_at_call 23; (with_reducible refine (best_nil _).mono ?_); rintro e u5 ⟨A5, c5, rfl, h5, hy5⟩; replace Ba := Ba.go hy5; replace Bb := Bb.go hy5; replace Bv := Bv.go hy5; replace Bn := Bn.go hy5; obtain ⟨a0, a1, a2⟩ := Ba.cells; obtain ⟨b0, b1, b2⟩ := Bb.cells; obtain ⟨v0, v1, v2⟩ := Bv.cellsF; obtain ⟨n0, n1, n2⟩ := Bn.cellsF)
    go_wp2_with fail
    refine hK.out _ _ (by go_keep) (fun hHeld => ?_)
    clear hK
    try simp only [Act.put, List.setIfInBounds_toArray, List.set_cons_zero, List.set_cons_succ]
    refine wpAnyH_ready (rs := [35]) (by kernel_rfl) (by simp) ?_
    refine AllReadyH.cons rfl (fun K hK => ?_) ?n36
    case n36 => exact AllReadyH.nil
    go_simp
    (go_at_call 19; (with_reducible refine (same_none h5).mono ?_); rintro e u6 ⟨rfl, hy6⟩; replace Ba := Ba.go hy6; replace Bb := Bb.go hy6; replace Bv := Bv.go hy6; replace Bn := Bn.go hy6; obtain ⟨a0, a1, a2⟩ := Ba.cells; obtain ⟨b0, b1, b2⟩ := Bb.cells; obtain ⟨v0, v1, v2⟩ := Bv.cellsF; obtain ⟨n0, n1, n2⟩ := Bn.cellsF; have hz6 := Bn.blk.lt; have hz6' := Ba.blk.lt; have hz6b := Bb.blk.lt)
    go_wp2_with fail
    refine hK.out _ _ (by go_keep) (fun hHeld => ?_)
    clear hK
    try simp only [Act.put, List.setIfInBounds_toArray, List.set_cons_zero, List.set_cons_succ]
    refine wpAnyH_take (i := 36) (oi := ?o37) (v := ?v37) ?h37 ?s37 ?f37 ?c37 ?q37 ?y37 hHeld ?r37
    case h37 => (simp only [List.getElem?_toArray, List.getElem?_cons_succ, List.getElem?_cons_zero]; rfl)
    case s37 => kernel_rfl
    case f37 => kernel_rfl
    case c37 => kernel_rfl
    case y37 => (refine Or.inl ⟨by rfl, ?_⟩; intro w hSw; (try dsimp only at hSw); go_simp; (try with_reducible rfl))
    case q37 => exact fun _ _ _ h => h
    try simp only [Act.put, List.setIfInBounds_toArray, List.set_cons_zero, List.set_cons_succ]
    refine wpAnyH_take (i := 37) (oi := ?o38) (v := ?v38) ?h38 ?s38 ?f38 ?c38 ?q38 ?y38 hHeld ?r38
    case h38 => (simp only [List.getElem?_toArray, List.getElem?_cons_succ, List.getElem?_cons_zero]; rfl)
    case s38 => kernel_rfl
    case f38 => kernel_rfl
    case c38 => kernel_rfl
    case y38 => (refine Or.inl ⟨by rfl, ?_⟩; intro w hSw; (try dsimp only at hSw); go_simp; (try with_reducible rfl))
    case q38 => exact fun _ _ _ h => h
    try simp only [Act.put, List.setIfInBounds_toArray, List.set_cons_zero, List.set_cons_succ]
    refine wpAnyH_take (i := 38) (oi := ?o39) (v := ?v39) ?h39 ?s39 ?f39 ?c39 ?q39 ?y39 hHeld ?r39
    case h39 => (simp only [List.getElem?_toArray, List.getElem?_cons_succ, List.getElem?_cons_zero]; rfl)
    case s39 => kernel_rfl
    case f39 => kernel_rfl
    case c39 => kernel_rfl
    case y39 => (refine Or.inl ⟨by rfl, ?_⟩; intro w hSw; (try dsimp only at hSw); go_simp; (try with_reducible rfl))
    case q39 => exact fun _ _ _ h => h
    try simp only [Act.put, List.setIfInBounds_toArray, List.set_cons_zero, List.set_cons_succ]
    refine wpAnyH_take (i := 39) (oi := ?o40) (v := ?v40) ?h40 ?s40 ?f40 ?c40 ?q40 ?y40 hHeld ?r40
    case h40 => (simp only [List.getElem?_toArray, List.getElem?_cons_succ, List.getElem?_cons_zero]; rfl)
    case s40 => kernel_rfl
    case f40 => kernel_rfl
    case c40 => kernel_rfl
    case y40 => (refine Or.inl ⟨by rfl, ?_⟩; intro w hSw; (try dsimp only at hSw); go_simp; (try with_reducible rfl))
    case q40 => exact fun _ _ _ h => h
    try simp only [Act.put, List.setIfInBounds_toArray, List.set_cons_zero, List.set_cons_succ]
    refine wpAnyH_take (i := 40) (oi := ?o41) (v := ?v41) ?h41 ?s41 ?f41 ?c41 ?q41 ?y41 hHeld ?r41
    case h41 => (simp only [List.getElem?_toArray, List.getElem?_cons_succ, List.getElem?_cons_zero]; rfl)
    case s41 => kernel_rfl
    case f41 => kernel_rfl
    case c41 => kernel_rfl
    case y41 => (refine Or.inl ⟨by rfl, ?_⟩; intro w hSw; (try dsimp only at hSw); go_simp; (try with_reducible rfl))
    case q41 => exact fun _ _ _ h => h
    try simp only [Act.put, List.setIfInBounds_toArray, List.set_cons_zero, List.set_cons_succ]
    refine wpAnyH_take (i := 43) (oi := ?o42) (v := ?v42) ?h42 ?s42 ?f42 ?c42 ?q42 ?y42 hHeld ?r42
    case h42 => (simp only [List.getElem?_toArray, List.getElem?_cons_succ, List.getElem?_cons_zero]; rfl)
    case s42 => kernel_rfl
    case f42 => kernel_rfl
    case c42 => kernel_rfl
    case y42 => (refine Or.inl ⟨by rfl, ?_⟩; intro w hSw; (try dsimp only at hSw); go_simp; (try with_reducible rfl))
    case q42 => exact fun _ _ _ h => h
    try simp only [Act.put, List.setIfInBounds_toArray, List.set_cons_zero, List.set_cons_succ]
    refine wpAnyH_ready (rs := [41]) (by kernel_rfl) (by simp) ?_
    refine AllReadyH.cons rfl (fun K hK => ?_) ?n43
    case n43 => exact AllReadyH.nil
    go_simp
    refine hK.out _ _ (by go_keep) (fun hHeld => ?_)
    clear hK
    try simp only [Act.put, List.setIfInBounds_toArray, List.set_cons_zero, List.set_cons_succ]
    refine wpAnyH_ready (rs := [42]) (by kernel_rfl) (by simp) ?_
    refine AllReadyH.cons rfl (fun K hK => ?_) ?n44
    case n44 => exact AllReadyH.nil
    go_simp
    (go_at_call 23; (with_reducible refine (best_three HQa Ba.at_).mono ?_); rintro e u7 ⟨A7, c7, rfl, h7, hy7⟩; replace Ba := Ba.go hy7; replace Bb := Bb.go hy7; replace Bv := Bv.go hy7; replace Bn := Bn.go hy7; obtain ⟨a0, a1, a2⟩ := Ba.cells; obtain ⟨b0, b1, b2⟩ := Bb.cells; obtain ⟨v0, v1, v2⟩ := Bv.cellsF; obtain ⟨n0, n1, n2⟩ := Bn.cellsF)
    go_wp2_with fail
    refine hK.out _ _ (by go_keep) (fun hHeld => ?_)
    clear hK
    try simp only [Act.put, List.setIfInBounds_toArray, List.set_cons_zero, List.set_cons_succ]
    refine wpAnyH_ready (rs := [44]) (by kernel_rfl) (by simp) ?_
    refine AllReadyH.cons rfl (fun K hK => ?_) ?n45
    case n45 => exact AllReadyH.nil
    go_simp
    (go_at_call 19; (with_reducible refine (atSame_is a a true HSA h7 Ba.at_).mono ?_); rintro e u8 ⟨rfl, hy8⟩; replace Ba := Ba.go hy8; replace Bb := Bb.go hy8; replace Bv := Bv.go hy8; replace Bn := Bn.go hy8; obtain ⟨a0, a1, a2⟩ := Ba.cells; obtain ⟨b0, b1, b2⟩ := Bb.cells; obtain ⟨v0, v1, v2⟩ := Bv.cellsF; obtain ⟨n0, n1, n2⟩ := Bn.cellsF)
    go_wp2_with fail
    refine hK.out _ _ (by go_keep) (fun hHeld => ?_)
    clear hK
    try simp only [Act.put, List.setIfInBounds_toArray, List.set_cons_zero, List.set_cons_succ]
    refine wpAnyH_take (i := 45) (oi := ?o46) (v := ?v46) ?h46 ?s46 ?f46 ?c46 ?q46 ?y46 hHeld ?r46
    case h46 => (simp only [List.getElem?_toArray, List.getElem?_cons_succ, List.getElem?_cons_zero]; rfl)
    case s46 => kernel_rfl
    case f46 => kernel_rfl
    case c46 => kernel_rfl
    case y46 => (refine Or.inl ⟨by rfl, ?_⟩; intro w hSw; (try dsimp only at hSw); go_simp; (try with_reducible rfl))
    case q46 => exact fun _ _ _ h => h
    try simp only [Act.put, List.setIfInBounds_toArray, List.set_cons_zero, List.set_cons_succ]
    refine wpAnyH_take (i := 46) (oi := ?o47) (v := ?v47) ?h47 ?s47 ?f47 ?c47 ?q47 ?y47 hHeld ?r47
    case h47 => (simp only [List.getElem?_toArray, List.getElem?_cons_succ, List.getElem?_cons_zero]; rfl)
    case s47 => kernel_rfl
    case f47 => kernel_rfl
    case c47 => kernel_rfl
    case y47 => (refine Or.inl ⟨by rfl, ?_⟩; intro w hSw; (try dsimp only at hSw); go_simp; (try with_reducible rfl))
    case q47 => exact fun _ _ _ h => h
    try simp only [Act.put, List.setIfInBounds_toArray, List.set_cons_zero, List.set_cons_succ]
    refine wpAnyH_take (i := 47) (oi := ?o48) (v := ?v48) ?h48 ?s48 ?f48 ?c48 ?q48 ?y48 hHeld ?r48
    case h48 => (simp only [List.getElem?_toArray, List.getElem?_cons_succ, List.getElem?_cons_zero]; rfl)
    case s48 => kernel_rfl
    case f48 => kernel_rfl
    case c48 => kernel_rfl
    case y48 => (refine Or.inl ⟨by rfl, ?_⟩; intro w hSw; (try dsimp only at hSw); go_simp; (try with_reducible rfl))
    case q48 => exact fun _ _ _ h => h
    try simp only [Act.put, List.setIfInBounds_toArray, List.set_cons_zero, List.set_cons_succ]
    refine wpAnyH_take (i := 50) (oi := ?o49) (v := ?v49) ?h49 ?s49 ?f49 ?c49 ?q49 ?y49 hHeld ?r49
    case h49 => (simp only [List.getElem?_toArray, List.getElem?_cons_succ, List.getElem?_cons_zero]; rfl)
    case s49 => kernel_rfl
    case f49 => kernel_rfl
    case c49 => kernel_rfl
    case y49 => (refine Or.inl ⟨by rfl, ?_⟩; intro w hSw; (try dsimp only at hSw); go_simp; (try with_reducible rfl))
    case q49 => exact fun _ _ _ h => h
    try simp only [Act.put, List.setIfInBounds_toArray, List.set_cons_zero, List.set_cons_succ]
    refine wpAnyH_take (i := 51) (oi := ?o50) (v := ?v50) ?h50 ?s50 ?f50 ?c50 ?q50 ?y50 hHeld ?r50
    case h50 => (simp only [List.getElem?_toArray, List.getElem?_cons_succ, List.getElem?_cons_zero]; rfl)
    case s50 => kernel_rfl
    case f50 => kernel_rfl
    case c50 => kernel_rfl
    case y50 => (refine Or.inl ⟨by rfl, ?_⟩; intro w hSw; (try dsimp only at hSw); go_simp; (try with_reducible rfl))
    case q50 => exact fun _ _ _ h => h
    try simp only [Act.put, List.setIfInBounds_toArray, List.set_cons_zero, List.set_cons_succ]
    refine wpAnyH_take (i := 52) (oi := ?o51) (v := ?v51) ?h51 ?s51 ?f51 ?c51 ?q51 ?y51 hHeld ?r51
    case h51 => (simp only [List.getElem?_toArray, List.getElem?_cons_succ, List.getElem?_cons_zero]; rfl)
    case s51 => kernel_rfl
    case f51 => kernel_rfl
    case c51 => kernel_rfl
    case y51 => (refine Or.inl ⟨by rfl, ?_⟩; intro w hSw; (try dsimp only at hSw); go_simp; (try with_reducible rfl))
    case q51 => exact fun _ _ _ h => h
    try simp only [Act.put, List.setIfInBounds_toArray, List.set_cons_zero, List.set_cons_succ]
    refine wpAnyH_ready (rs := [48]) (by kernel_rfl) (by simp) ?_
    refine AllReadyH.cons rfl (fun K hK => ?_) ?n52
    case n52 => exact AllReadyH.nil
    go_simp
    (go_at_call 17; (with_reducible refine (atLength_is a la HLA _ HNa.out).mono ?_); rintro e u9 ⟨rfl, hy9⟩; replace Ba := Ba.go hy9; replace Bb := Bb.go hy9; replace Bv := Bv.go hy9; replace Bn := Bn.go hy9; obtain ⟨a0, a1, a2⟩ := Ba.cells; obtain ⟨b0, b1, b2⟩ := Bb.cells; obtain ⟨v0, v1, v2⟩ := Bv.cellsF; obtain ⟨n0, n1, n2⟩ := Bn.cellsF)
    go_wp2_with fail
    refine hK.out _ _ (by go_keep) (fun hHeld => ?_)
    clear hK
    try simp only [Act.put, List.setIfInBounds_toArray, List.set_cons_zero, List.set_cons_succ]
    refine wpAnyH_take (i := 49) (oi := ?o53) (v := ?v53) ?h53 ?s53 ?f53 ?c53 ?q53 ?y53 hHeld ?r53
    case h53 => (simp only [List.getElem?_toArray, List.getElem?_cons_succ, List.getElem?_cons_zero]; rfl)
    case s53 => kernel_rfl
    case f53 => kernel_rfl
    case c53 => kernel_rfl
    case y53 => (refine Or.inl ⟨by rfl, ?_⟩; intro w hSw; (try dsimp only at hSw); go_simp; (try with_reducible rfl))
    case q53 => exact fun _ _ _ h => h
    try simp only [Act.put, List.setIfInBounds_toArray, List.set_cons_zero, List.set_cons_succ]
    refine wpAnyH_take (i := 53) (oi := ?o54) (v := ?v54) ?h54 ?s54 ?f54 ?c54 ?q54 ?y54 hHeld ?r54
    case h54 => (simp only [List.getElem?_toArray, List.getElem?_cons_succ, List.getElem?_cons_zero]; rfl)
    case s54 => kernel_rfl
    case f54 => kernel_rfl
    case c54 => kernel_rfl
    case y54 => (refine Or.inl ⟨by rfl, ?_⟩; intro w hSw; (try dsimp only at hSw); go_simp; (try with_reducible rfl))
    case q54 => exact fun _ _ _ h => h
    try simp only [Act.put, List.setIfInBounds_toArray, List.set_cons_zero, List.set_cons_succ]
    refine wpAnyH_take (i := 54) (oi := ?o55) (v := ?v55) ?h55 ?s55 ?f55 ?c55 ?q55 ?y55 hHeld ?r55
    case h55 => (simp only [List.getElem?_toArray, List.getElem?_cons_succ, List.getElem?_cons_zero]; rfl)
    case s55 => kernel_rfl
    case f55 => kernel_rfl
    case c55 => kernel_rfl
    case y55 => (refine Or.inl ⟨by rfl, ?_⟩; intro w hSw; (try dsimp only at hSw); go_simp; (try with_reducible rfl))
    case q55 => exact fun _ _ _ h => h
    try simp only [Act.put, List.setIfInBounds_toArray, List.set_cons_zero, List.set_cons_succ]
    refine wpAnyH_take (i := 55) (oi := ?o56) (v := ?v56) ?h56 ?s56 ?f56 ?c56 ?q56 ?y56 hHeld ?r56
    case h56 => (simp only [List.getElem?_toArray, List.getElem?_cons_succ, List.getElem?_cons_zero]; rfl)
    case s56 => kernel_rfl
    case f56 => kernel_rfl
    case c56 => kernel_rfl
    case y56 => (refine Or.inl ⟨by rfl, ?_⟩; intro w hSw; (try dsimp only at hSw); go_simp; (try with_reducible rfl))
    case q56 => exact fun _ _ _ h => h
    try simp only [Act.put, List.setIfInBounds_toArray, List.set_cons_zero, List.set_cons_succ]
    refine wpAnyH_done (by kernel_rfl) ?_ _
    repeat go_step
    go_ret
    exact ⟨ret_bool (by first | rfl | (simp; done) | (simp; omega)), Ba.up⟩
  · have t2 : (a.kind != 2) = true := by simp [hk0]
    have t0 : (a.kind != 0) = false := by simp [hk0]
    have s0 : (a.kind == 0) = true := by simp [hk0]
    have sl : decide (la < 0) = true := by rw [f4]; simp [hk0]
    have HA2 : Hid (rtBetter a ⟨0, 0, []⟩ = false) := Lib.hid (show rtBetter a Rt.none = false by rw [HAN.out]; simp [hk0])
    clear hk0 f4 F1 HAN
    go_enter Tryd.func9, Tryd.ntmps9
    go_upto_region 6 with (first
      | (go_at_call 11; refine (awake6_any _ hT).mono ?_; rintro e w1 ⟨rfl, hb1⟩; have hA1x := hA1.on hb1; have hA2x := hA2.on hb1)
      | (go_at_call 14; (with_reducible refine (Route_is l1 a HRa na m1 HNa HM1 HW1.out hm1 hA1x).mono ?_); rintro e w2 ⟨Aa, ca, rfl, raa, lea, hb2⟩; have Ba := RB.new (c := ca) hb1 hT hb2 raa; have hA2x := (hA2x.on hb2).on (below_new _ (.cells #[.int .i64 a.kind, .int .i64 a.cost, .slice Aa na ca] 24)); obtain ⟨a0, a1, a2⟩ := Ba.cells)
      | (go_at_call 14; (with_reducible refine (Route_is l2 b HRb nb m2 HNb HM2 HW2.out hm2 hA2x).mono ?_); rintro e w3 ⟨Ab, cb, rfl, rab, leb, hb3⟩; have Bb := RB.new (c := cb) Ba.up hT hb3 rab; have Ba := (Ba.go hb3).alloc (.cells #[.int .i64 b.kind, .int .i64 b.cost, .slice Ab nb cb] 24); obtain ⟨b0, b1, b2⟩ := Bb.cells; obtain ⟨a0, a1, a2⟩ := Ba.cells)
      | (go_at_call 25; (with_reducible refine (pick6_is x1 16 pv hx1 (by omega) (by omega) HPV _).mono ?_); rintro e w4 ⟨rfl, rfl⟩))
    have hszb := hb3.size
    have Bv := RB.flat 1 pv (below_on (below_on Ba.up (Below.refl _ _)) (Below.refl _ _)) hT
    have Bn := RB.flat 0 0 Bv.up hT
    simp only [World.size_alloc] at Bv Bn
    have Bv := Bv.alloc (.cells #[.int .i64 0, .int .i64 0, .slice none 0 0] 24)
    have Ba := (Ba.alloc (.cells #[.int .i64 1, .int .i64 pv, .slice none 0 0] 24)).alloc (.cells #[.int .i64 0, .int .i64 0, .slice none 0 0] 24)
    have Bb := (Bb.alloc (.cells #[.int .i64 1, .int .i64 pv, .slice none 0 0] 24)).alloc (.cells #[.int .i64 0, .int .i64 0, .slice none 0 0] 24)
    have Ba := Ba.drew
    have Bb := Bb.drew
    have Bv := Bv.drew
    have Bn := Bn.drew
    obtain ⟨a0, a1, a2⟩ := Ba.cells
    obtain ⟨b0, b1, b2⟩ := Bb.cells
    obtain ⟨v0, v1, v2⟩ := Bv.cellsF
    obtain ⟨n0, n1, n2⟩ := Bn.cellsF
    refine wp_region_held_drew (S := (fun w' => w'.cell? ⟨w2.heap.size, 0, none⟩ = some (.int .i64 a.kind) ∧ w'.cell? ⟨w2.heap.size, 1, none⟩ = some (.int .i64 a.cost) ∧ w'.cell? ⟨w2.heap.size, 2, none⟩ = some (.slice Aa na ca) ∧ w'.cell? ⟨w3.heap.size, 0, none⟩ = some (.int .i64 b.kind) ∧ w'.cell? ⟨w3.heap.size, 1, none⟩ = some (.int .i64 b.cost) ∧ w'.cell? ⟨w3.heap.size, 2, none⟩ = some (.slice Ab nb cb) ∧ w'.cell? ⟨w3.heap.size + 1, 0, none⟩ = some (.int .i64 1) ∧ w'.cell? ⟨w3.heap.size + 1, 1, none⟩ = some (.int .i64 pv) ∧ w'.cell? ⟨w3.heap.size + 1, 2, none⟩ = some (.slice none 0 0) ∧ w'.cell? ⟨w3.heap.size + 1 + 1, 0, none⟩ = some (.int .i64 0) ∧ w'.cell? ⟨w3.heap.size + 1 + 1, 1, none⟩ = some (.int .i64 0) ∧ w'.cell? ⟨w3.heap.size + 1 + 1, 2, none⟩ = some (.slice none 0 0))) (by kernel_rfl) (by go_keep) (fun hHeld => ?_)
    refine wpAnyH_take (i := 0) (oi := ?o57) (v := ?v57) ?h57 ?s57 ?f57 ?c57 ?q57 ?y57 hHeld ?r57
    case h57 => (simp only [List.getElem?_toArray, List.getElem?_cons_succ, List.getElem?_cons_zero]; rfl)
    case s57 => kernel_rfl
    case f57 => kernel_rfl
    case c57 => kernel_rfl
    case y57 => (refine Or.inl ⟨by rfl, ?_⟩; intro w hSw; (try dsimp only at hSw); go_simp; (try with_reducible rfl))
    case q57 => exact fun _ _ _ h => h
    try simp only [Act.put, List.setIfInBounds_toArray, List.set_cons_zero, List.set_cons_succ]
    refine wpAnyH_take (i := 1) (oi := ?o58) (v := ?v58) ?h58 ?s58 ?f58 ?c58 ?q58 ?y58 hHeld ?r58
    case h58 => (simp only [List.getElem?_toArray, List.getElem?_cons_succ, List.getElem?_cons_zero]; rfl)
    case s58 => kernel_rfl
    case f58 => kernel_rfl
    case c58 => kernel_rfl
    case y58 => (refine Or.inl ⟨by rfl, ?_⟩; intro w hSw; (try dsimp only at hSw); go_simp; (try with_reducible rfl))
    case q58 => exact fun _ _ _ h => h
    try simp only [Act.put, List.setIfInBounds_toArray, List.set_cons_zero, List.set_cons_succ]
    refine wpAnyH_take (i := 2) (oi := ?o59) (v := ?v59) ?h59 ?s59 ?f59 ?c59 ?q59 ?y59 hHeld ?r59
    case h59 => (simp only [List.getElem?_toArray, List.getElem?_cons_succ, List.getElem?_cons_zero]; rfl)
    case s59 => kernel_rfl
    case f59 => kernel_rfl
    case c59 => kernel_rfl
    case y59 => (refine Or.inl ⟨by rfl, ?_⟩; intro w hSw; (try dsimp only at hSw); go_simp; (try with_reducible rfl))
    case q59 => exact fun _ _ _ h => h
    try simp only [Act.put, List.setIfInBounds_toArray, List.set_cons_zero, List.set_cons_succ]
    refine wpAnyH_take (i := 3) (oi := ?o60) (v := ?v60) ?h60 ?s60 ?f60 ?c60 ?q60 ?y60 hHeld ?r60
    case h60 => (simp only [List.getElem?_toArray, List.getElem?_cons_succ, List.getElem?_cons_zero]; rfl)
    case s60 => kernel_rfl
    case f60 => kernel_rfl
    case c60 => kernel_rfl
    case y60 => (refine Or.inl ⟨by rfl, ?_⟩; intro w hSw; (try dsimp only at hSw); go_simp; (try with_reducible rfl))
    case q60 => exact fun _ _ _ h => h
    try simp only [Act.put, List.setIfInBounds_toArray, List.set_cons_zero, List.set_cons_succ]
    refine wpAnyH_take (i := 4) (oi := ?o61) (v := ?v61) ?h61 ?s61 ?f61 ?c61 ?q61 ?y61 hHeld ?r61
    case h61 => (simp only [List.getElem?_toArray, List.getElem?_cons_succ, List.getElem?_cons_zero]; rfl)
    case s61 => kernel_rfl
    case f61 => kernel_rfl
    case c61 => kernel_rfl
    case y61 => (refine Or.inl ⟨by rfl, ?_⟩; intro w hSw; (try dsimp only at hSw); go_simp; (try with_reducible rfl))
    case q61 => exact fun _ _ _ h => h
    try simp only [Act.put, List.setIfInBounds_toArray, List.set_cons_zero, List.set_cons_succ]
    refine wpAnyH_take (i := 5) (oi := ?o62) (v := ?v62) ?h62 ?s62 ?f62 ?c62 ?q62 ?y62 hHeld ?r62
    case h62 => (simp only [List.getElem?_toArray, List.getElem?_cons_succ, List.getElem?_cons_zero]; rfl)
    case s62 => kernel_rfl
    case f62 => kernel_rfl
    case c62 => kernel_rfl
    case y62 => (refine Or.inl ⟨by rfl, ?_⟩; intro w hSw; (try dsimp only at hSw); go_simp; (try with_reducible rfl))
    case q62 => exact fun _ _ _ h => h
    try simp only [Act.put, List.setIfInBounds_toArray, List.set_cons_zero, List.set_cons_succ]
    refine wpAnyH_take (i := 6) (oi := ?o63) (v := undef) ?h63 ?s63 ?f63 ?c63 ?q63 ?y63 hHeld ?r63
    case h63 => (simp only [List.getElem?_toArray, List.getElem?_cons_succ, List.getElem?_cons_zero]; rfl)
    case s63 => kernel_rfl
    case f63 => kernel_rfl
    case c63 => kernel_rfl
    case y63 => exact Or.inr ⟨by rfl, rfl⟩
    case q63 => exact fun _ _ _ h => h
    try simp only [Act.put, List.setIfInBounds_toArray, List.set_cons_zero, List.set_cons_succ]
    refine wpAnyH_take (i := 7) (oi := ?o64) (v := undef) ?h64 ?s64 ?f64 ?c64 ?q64 ?y64 hHeld ?r64
    case h64 => (simp only [List.getElem?_toArray, List.getElem?_cons_succ, List.getElem?_cons_zero]; rfl)
    case s64 => kernel_rfl
    case f64 => kernel_rfl
    case c64 => kernel_rfl
    case y64 => exact Or.inr ⟨by rfl, rfl⟩
    case q64 => exact fun _ _ _ h => h
    try simp only [Act.put, List.setIfInBounds_toArray, List.set_cons_zero, List.set_cons_succ]
    refine wpAnyH_take (i := 8) (oi := ?o65) (v := undef) ?h65 ?s65 ?f65 ?c65 ?q65 ?y65 hHeld ?r65
    case h65 => (simp only [List.getElem?_toArray, List.getElem?_cons_succ, List.getElem?_cons_zero]; rfl)
    case s65 => kernel_rfl
    case f65 => kernel_rfl
    case c65 => kernel_rfl
    case y65 => exact Or.inr ⟨by rfl, rfl⟩
    case q65 => exact fun _ _ _ h => h
    try simp only [Act.put, List.setIfInBounds_toArray, List.set_cons_zero, List.set_cons_succ]
    refine wpAnyH_take (i := 9) (oi := ?o66) (v := undef) ?h66 ?s66 ?f66 ?c66 ?q66 ?y66 hHeld ?r66
    case h66 => (simp only [List.getElem?_toArray, List.getElem?_cons_succ, List.getElem?_cons_zero]; rfl)
    case s66 => kernel_rfl
    case f66 => kernel_rfl
    case c66 => kernel_rfl
    case y66 => exact Or.inr ⟨by rfl, rfl⟩
    case q66 => exact fun _ _ _ h => h
    try simp only [Act.put, List.setIfInBounds_toArray, List.set_cons_zero, List.set_cons_succ]
    refine wpAnyH_take (i := 10) (oi := ?o67) (v := undef) ?h67 ?s67 ?f67 ?c67 ?q67 ?y67 hHeld ?r67
    case h67 => (simp only [List.getElem?_toArray, List.getElem?_cons_succ, List.getElem?_cons_zero]; rfl)
    case s67 => kernel_rfl
    case f67 => kernel_rfl
    case c67 => kernel_rfl
    case y67 => exact Or.inr ⟨by rfl, rfl⟩
    case q67 => exact fun _ _ _ h => h
    try simp only [Act.put, List.setIfInBounds_toArray, List.set_cons_zero, List.set_cons_succ]
    refine wpAnyH_take (i := 11) (oi := ?o68) (v := undef) ?h68 ?s68 ?f68 ?c68 ?q68 ?y68 hHeld ?r68
    case h68 => (simp only [List.getElem?_toArray, List.getElem?_cons_succ, List.getElem?_cons_zero]; rfl)
    case s68 => kernel_rfl
    case f68 => kernel_rfl
    case c68 => kernel_rfl
    case y68 => exact Or.inr ⟨by rfl, rfl⟩
    case q68 => exact fun _ _ _ h => h
    try simp only [Act.put, List.setIfInBounds_toArray, List.set_cons_zero, List.set_cons_succ]
    refine wpAnyH_take (i := 12) (oi := ?o69) (v := undef) ?h69 ?s69 ?f69 ?c69 ?q69 ?y69 hHeld ?r69
    case h69 => (simp only [List.getElem?_toArray, List.getElem?_cons_succ, List.getElem?_cons_zero]; rfl)
    case s69 => kernel_rfl
    case f69 => kernel_rfl
    case c69 => kernel_rfl
    case y69 => exact Or.inr ⟨by rfl, rfl⟩
    case q69 => exact fun _ _ _ h => h
    try simp only [Act.put, List.setIfInBounds_toArray, List.set_cons_zero, List.set_cons_succ]
    refine wpAnyH_take (i := 13) (oi := ?o70) (v := undef) ?h70 ?s70 ?f70 ?c70 ?q70 ?y70 hHeld ?r70
    case h70 => (simp only [List.getElem?_toArray, List.getElem?_cons_succ, List.getElem?_cons_zero]; rfl)
    case s70 => kernel_rfl
    case f70 => kernel_rfl
    case c70 => kernel_rfl
    case y70 => exact Or.inr ⟨by rfl, rfl⟩
    case q70 => exact fun _ _ _ h => h
    try simp only [Act.put, List.setIfInBounds_toArray, List.set_cons_zero, List.set_cons_succ]
    refine wpAnyH_take (i := 14) (oi := ?o71) (v := undef) ?h71 ?s71 ?f71 ?c71 ?q71 ?y71 hHeld ?r71
    case h71 => (simp only [List.getElem?_toArray, List.getElem?_cons_succ, List.getElem?_cons_zero]; rfl)
    case s71 => kernel_rfl
    case f71 => kernel_rfl
    case c71 => kernel_rfl
    case y71 => exact Or.inr ⟨by rfl, rfl⟩
    case q71 => exact fun _ _ _ h => h
    try simp only [Act.put, List.setIfInBounds_toArray, List.set_cons_zero, List.set_cons_succ]
    refine wpAnyH_take (i := 15) (oi := ?o72) (v := ?v72) ?h72 ?s72 ?f72 ?c72 ?q72 ?y72 hHeld ?r72
    case h72 => (simp only [List.getElem?_toArray, List.getElem?_cons_succ, List.getElem?_cons_zero]; rfl)
    case s72 => kernel_rfl
    case f72 => kernel_rfl
    case c72 => kernel_rfl
    case y72 => (refine Or.inl ⟨by rfl, ?_⟩; intro w hSw; (try dsimp only at hSw); go_simp; (try with_reducible rfl))
    case q72 => exact fun _ _ _ h => h
    try simp only [Act.put, List.setIfInBounds_toArray, List.set_cons_zero, List.set_cons_succ]
    refine wpAnyH_take (i := 16) (oi := ?o73) (v := ?v73) ?h73 ?s73 ?f73 ?c73 ?q73 ?y73 hHeld ?r73
    case h73 => (simp only [List.getElem?_toArray, List.getElem?_cons_succ, List.getElem?_cons_zero]; rfl)
    case s73 => kernel_rfl
    case f73 => kernel_rfl
    case c73 => kernel_rfl
    case y73 => (refine Or.inl ⟨by rfl, ?_⟩; intro w hSw; (try dsimp only at hSw); go_simp; (try with_reducible rfl))
    case q73 => exact fun _ _ _ h => h
    try simp only [Act.put, List.setIfInBounds_toArray, List.set_cons_zero, List.set_cons_succ]
    refine wpAnyH_take (i := 17) (oi := ?o74) (v := ?v74) ?h74 ?s74 ?f74 ?c74 ?q74 ?y74 hHeld ?r74
    case h74 => (simp only [List.getElem?_toArray, List.getElem?_cons_succ, List.getElem?_cons_zero]; rfl)
    case s74 => kernel_rfl
    case f74 => kernel_rfl
    case c74 => kernel_rfl
    case y74 => (refine Or.inl ⟨by rfl, ?_⟩; intro w hSw; (try dsimp only at hSw); go_simp; (try with_reducible rfl))
    case q74 => exact fun _ _ _ h => h
    try simp only [Act.put, List.setIfInBounds_toArray, List.set_cons_zero, List.set_cons_succ]
    refine wpAnyH_take (i := 18) (oi := ?o75) (v := ?v75) ?h75 ?s75 ?f75 ?c75 ?q75 ?y75 hHeld ?r75
    case h75 => (simp only [List.getElem?_toArray, List.getElem?_cons_succ, List.getElem?_cons_zero]; rfl)
    case s75 => kernel_rfl
    case f75 => kernel_rfl
    case c75 => kernel_rfl
    case y75 => (refine Or.inl ⟨by rfl, ?_⟩; intro w hSw; (try dsimp only at hSw); go_simp; (try with_reducible rfl))
    case q75 => exact fun _ _ _ h => h
    try simp only [Act.put, List.setIfInBounds_toArray, List.set_cons_zero, List.set_cons_succ]
    refine wpAnyH_take (i := 19) (oi := ?o76) (v := ?v76) ?h76 ?s76 ?f76 ?c76 ?q76 ?y76 hHeld ?r76
    case h76 => (simp only [List.getElem?_toArray, List.getElem?_cons_succ, List.getElem?_cons_zero]; rfl)
    case s76 => kernel_rfl
    case f76 => kernel_rfl
    case c76 => kernel_rfl
    case y76 => (refine Or.inl ⟨by rfl, ?_⟩; intro w hSw; (try dsimp only at hSw); go_simp; (try with_reducible rfl))
    case q76 => exact fun _ _ _ h => h
    try simp only [Act.put, List.setIfInBounds_toArray, List.set_cons_zero, List.set_cons_succ]
    refine wpAnyH_take (i := 21) (oi := ?o77) (v := ?v77) ?h77 ?s77 ?f77 ?c77 ?q77 ?y77 hHeld ?r77
    case h77 => (simp only [List.getElem?_toArray, List.getElem?_cons_succ, List.getElem?_cons_zero]; rfl)
    case s77 => kernel_rfl
    case f77 => kernel_rfl
    case c77 => kernel_rfl
    case y77 => (refine Or.inl ⟨by rfl, ?_⟩; intro w hSw; (try dsimp only at hSw); go_simp; (try with_reducible rfl))
    case q77 => exact fun _ _ _ h => h
    try simp only [Act.put, List.setIfInBounds_toArray, List.set_cons_zero, List.set_cons_succ]
    refine wpAnyH_take (i := 22) (oi := ?o78) (v := ?v78) ?h78 ?s78 ?f78 ?c78 ?q78 ?y78 hHeld ?r78
    case h78 => (simp only [List.getElem?_toArray, List.getElem?_cons_succ, List.getElem?_cons_zero]; rfl)
    case s78 => kernel_rfl
    case f78 => kernel_rfl
    case c78 => kernel_rfl
    case y78 => (refine Or.inl ⟨by rfl, ?_⟩; intro w hSw; (try dsimp only at hSw); go_simp; (try with_reducible rfl))
    case q78 => exact fun _ _ _ h => h
    try simp only [Act.put, List.setIfInBounds_toArray, List.set_cons_zero, List.set_cons_succ]
    refine wpAnyH_take (i := 23) (oi := ?o79) (v := ?v79) ?h79 ?s79 ?f79 ?c79 ?q79 ?y79 hHeld ?r79
    case h79 => (simp only [List.getElem?_toArray, List.getElem?_cons_succ, List.getElem?_cons_zero]; rfl)
    case s79 => kernel_rfl
    case f79 => kernel_rfl
    case c79 => kernel_rfl
    case y79 => (refine Or.inl ⟨by rfl, ?_⟩; intro w hSw; (try dsimp only at hSw); go_simp; (try with_reducible rfl))
    case q79 => exact fun _ _ _ h => h
    try simp only [Act.put, List.setIfInBounds_toArray, List.set_cons_zero, List.set_cons_succ]
    refine wpAnyH_ready (rs := [20]) (by kernel_rfl) (by simp) ?_
    refine AllReadyH.cons rfl (fun K hK => ?_) ?n80
    case n80 => exact AllReadyH.nil
    go_simp
    (go_at_call 21; (with_reducible refine (atBetter_is a ⟨0, 0, []⟩ _ HA2 Ba.at_ Bn.at_).mono ?_); rintro e u3 ⟨rfl, hy3⟩; replace Ba := Ba.go hy3; replace Bb := Bb.go hy3; replace Bv := Bv.go hy3; replace Bn := Bn.go hy3; obtain ⟨a0, a1, a2⟩ := Ba.cells; obtain ⟨b0, b1, b2⟩ := Bb.cells; obtain ⟨v0, v1, v2⟩ := Bv.cellsF; obtain ⟨n0, n1, n2⟩ := Bn.cellsF)
    go_wp2_with fail
    refine hK.out _ _ (by go_keep) (fun hHeld => ?_)
    clear hK
    try simp only [Act.put, List.setIfInBounds_toArray, List.set_cons_zero, List.set_cons_succ]
    refine wpAnyH_take (i := 24) (oi := ?o81) (v := ?v81) ?h81 ?s81 ?f81 ?c81 ?q81 ?y81 hHeld ?r81
    case h81 => (simp only [List.getElem?_toArray, List.getElem?_cons_succ, List.getElem?_cons_zero]; rfl)
    case s81 => kernel_rfl
    case f81 => kernel_rfl
    case c81 => kernel_rfl
    case y81 => (refine Or.inl ⟨by rfl, ?_⟩; intro w hSw; (try dsimp only at hSw); go_simp; (try with_reducible rfl))
    case q81 => exact fun _ _ _ h => h
    try simp only [Act.put, List.setIfInBounds_toArray, List.set_cons_zero, List.set_cons_succ]
    refine wpAnyH_take (i := 25) (oi := ?o82) (v := ?v82) ?h82 ?s82 ?f82 ?c82 ?q82 ?y82 hHeld ?r82
    case h82 => (simp only [List.getElem?_toArray, List.getElem?_cons_succ, List.getElem?_cons_zero]; rfl)
    case s82 => kernel_rfl
    case f82 => kernel_rfl
    case c82 => kernel_rfl
    case y82 => (refine Or.inl ⟨by rfl, ?_⟩; intro w hSw; (try dsimp only at hSw); go_simp; (try with_reducible rfl))
    case q82 => exact fun _ _ _ h => h
    try simp only [Act.put, List.setIfInBounds_toArray, List.set_cons_zero, List.set_cons_succ]
    refine wpAnyH_take (i := 26) (oi := ?o83) (v := ?v83) ?h83 ?s83 ?f83 ?c83 ?q83 ?y83 hHeld ?r83
    case h83 => (simp only [List.getElem?_toArray, List.getElem?_cons_succ, List.getElem?_cons_zero]; rfl)
    case s83 => kernel_rfl
    case f83 => kernel_rfl
    case c83 => kernel_rfl
    case y83 => (refine Or.inl ⟨by rfl, ?_⟩; intro w hSw; (try dsimp only at hSw); go_simp; (try with_reducible rfl))
    case q83 => exact fun _ _ _ h => h
    try simp only [Act.put, List.setIfInBounds_toArray, List.set_cons_zero, List.set_cons_succ]
    refine wpAnyH_take (i := 27) (oi := ?o84) (v := ?v84) ?h84 ?s84 ?f84 ?c84 ?q84 ?y84 hHeld ?r84
    case h84 => (simp only [List.getElem?_toArray, List.getElem?_cons_succ, List.getElem?_cons_zero]; rfl)
    case s84 => kernel_rfl
    case f84 => kernel_rfl
    case c84 => kernel_rfl
    case y84 => (refine Or.inl ⟨by rfl, ?_⟩; intro w hSw; (try dsimp only at hSw); go_simp; (try with_reducible rfl))
    case q84 => exact fun _ _ _ h => h
    try simp only [Act.put, List.setIfInBounds_toArray, List.set_cons_zero, List.set_cons_succ]
    refine wpAnyH_take (i := 28) (oi := ?o85) (v := ?v85) ?h85 ?s85 ?f85 ?c85 ?q85 ?y85 hHeld ?r85
    case h85 => (simp only [List.getElem?_toArray, List.getElem?_cons_succ, List.getElem?_cons_zero]; rfl)
    case s85 => kernel_rfl
    case f85 => kernel_rfl
    case c85 => kernel_rfl
    case y85 => (refine Or.inl ⟨by rfl, ?_⟩; intro w hSw; (try dsimp only at hSw); go_simp; (try with_reducible rfl))
    case q85 => exact fun _ _ _ h => h
    try simp only [Act.put, List.setIfInBounds_toArray, List.set_cons_zero, List.set_cons_succ]
    refine wpAnyH_ready (rs := [29]) (by kernel_rfl) (by simp) ?_
    refine AllReadyH.cons rfl (fun K hK => ?_) ?n86
    case n86 => exact AllReadyH.nil
    go_simp
    (go_at_call 21; (with_reducible refine (atBetter_is ⟨0, 0, []⟩ b false HNB Bn.at_ Bb.at_).mono ?_); rintro e u4 ⟨rfl, hy4⟩; replace Ba := Ba.go hy4; replace Bb := Bb.go hy4; replace Bv := Bv.go hy4; replace Bn := Bn.go hy4; obtain ⟨a0, a1, a2⟩ := Ba.cells; obtain ⟨b0, b1, b2⟩ := Bb.cells; obtain ⟨v0, v1, v2⟩ := Bv.cellsF; obtain ⟨n0, n1, n2⟩ := Bn.cellsF)
    go_wp2_with fail
    refine hK.out _ _ (by go_keep) (fun hHeld => ?_)
    clear hK
    try simp only [Act.put, List.setIfInBounds_toArray, List.set_cons_zero, List.set_cons_succ]
    refine wpAnyH_take (i := 30) (oi := ?o87) (v := ?v87) ?h87 ?s87 ?f87 ?c87 ?q87 ?y87 hHeld ?r87
    case h87 => (simp only [List.getElem?_toArray, List.getElem?_cons_succ, List.getElem?_cons_zero]; rfl)
    case s87 => kernel_rfl
    case f87 => kernel_rfl
    case c87 => kernel_rfl
    case y87 => (refine Or.inl ⟨by rfl, ?_⟩; intro w hSw; (try dsimp only at hSw); go_simp; (try with_reducible rfl))
    case q87 => exact fun _ _ _ h => h
    try simp only [Act.put, List.setIfInBounds_toArray, List.set_cons_zero, List.set_cons_succ]
    refine wpAnyH_take (i := 31) (oi := ?o88) (v := ?v88) ?h88 ?s88 ?f88 ?c88 ?q88 ?y88 hHeld ?r88
    case h88 => (simp only [List.getElem?_toArray, List.getElem?_cons_succ, List.getElem?_cons_zero]; rfl)
    case s88 => kernel_rfl
    case f88 => kernel_rfl
    case c88 => kernel_rfl
    case y88 => (refine Or.inl ⟨by rfl, ?_⟩; intro w hSw; (try dsimp only at hSw); go_simp; (try with_reducible rfl))
    case q88 => exact fun _ _ _ h => h
    try simp only [Act.put, List.setIfInBounds_toArray, List.set_cons_zero, List.set_cons_succ]
    refine wpAnyH_take (i := 32) (oi := ?o89) (v := ?v89) ?h89 ?s89 ?f89 ?c89 ?q89 ?y89 hHeld ?r89
    case h89 => (simp only [List.getElem?_toArray, List.getElem?_cons_succ, List.getElem?_cons_zero]; rfl)
    case s89 => kernel_rfl
    case f89 => kernel_rfl
    case c89 => kernel_rfl
    case y89 => (refine Or.inl ⟨by rfl, ?_⟩; intro w hSw; (try dsimp only at hSw); go_simp; (try with_reducible rfl))
    case q89 => exact fun _ _ _ h => h
    try simp only [Act.put, List.setIfInBounds_toArray, List.set_cons_zero, List.set_cons_succ]
    refine wpAnyH_take (i := 34) (oi := ?o90) (v := ?v90) ?h90 ?s90 ?f90 ?c90 ?q90 ?y90 hHeld ?r90
    case h90 => (simp only [List.getElem?_toArray, List.getElem?_cons_succ, List.getElem?_cons_zero]; rfl)
    case s90 => kernel_rfl
    case f90 => kernel_rfl
    case c90 => kernel_rfl
    case y90 => (refine Or.inl ⟨by rfl, ?_⟩; intro w hSw; (try dsimp only at hSw); go_simp; (try with_reducible rfl))
    case q90 => exact fun _ _ _ h => h
    try simp only [Act.put, List.setIfInBounds_toArray, List.set_cons_zero, List.set_cons_succ]
    refine wpAnyH_ready (rs := [33]) (by kernel_rfl) (by simp) ?_
    refine AllReadyH.cons rfl (fun K hK => ?_) ?n91
    case n91 => exact AllReadyH.nil
    go_simp
    (go_at_call 23; (with_reducible refine (best_nil _).mono ?_); rintro e u5 ⟨A5, c5, rfl, h5, hy5⟩; replace Ba := Ba.go hy5; replace Bb := Bb.go hy5; replace Bv := Bv.go hy5; replace Bn := Bn.go hy5; obtain ⟨a0, a1, a2⟩ := Ba.cells; obtain ⟨b0, b1, b2⟩ := Bb.cells; obtain ⟨v0, v1, v2⟩ := Bv.cellsF; obtain ⟨n0, n1, n2⟩ := Bn.cellsF)
    go_wp2_with fail
    refine hK.out _ _ (by go_keep) (fun hHeld => ?_)
    clear hK
    try simp only [Act.put, List.setIfInBounds_toArray, List.set_cons_zero, List.set_cons_succ]
    refine wpAnyH_ready (rs := [35]) (by kernel_rfl) (by simp) ?_
    refine AllReadyH.cons rfl (fun K hK => ?_) ?n92
    case n92 => exact AllReadyH.nil
    go_simp
    (go_at_call 19; (with_reducible refine (same_none h5).mono ?_); rintro e u6 ⟨rfl, hy6⟩; replace Ba := Ba.go hy6; replace Bb := Bb.go hy6; replace Bv := Bv.go hy6; replace Bn := Bn.go hy6; obtain ⟨a0, a1, a2⟩ := Ba.cells; obtain ⟨b0, b1, b2⟩ := Bb.cells; obtain ⟨v0, v1, v2⟩ := Bv.cellsF; obtain ⟨n0, n1, n2⟩ := Bn.cellsF; have hz6 := Bn.blk.lt; have hz6' := Ba.blk.lt; have hz6b := Bb.blk.lt)
    go_wp2_with fail
    refine hK.out _ _ (by go_keep) (fun hHeld => ?_)
    clear hK
    try simp only [Act.put, List.setIfInBounds_toArray, List.set_cons_zero, List.set_cons_succ]
    refine wpAnyH_take (i := 36) (oi := ?o93) (v := ?v93) ?h93 ?s93 ?f93 ?c93 ?q93 ?y93 hHeld ?r93
    case h93 => (simp only [List.getElem?_toArray, List.getElem?_cons_succ, List.getElem?_cons_zero]; rfl)
    case s93 => kernel_rfl
    case f93 => kernel_rfl
    case c93 => kernel_rfl
    case y93 => (refine Or.inl ⟨by rfl, ?_⟩; intro w hSw; (try dsimp only at hSw); go_simp; (try with_reducible rfl))
    case q93 => exact fun _ _ _ h => h
    try simp only [Act.put, List.setIfInBounds_toArray, List.set_cons_zero, List.set_cons_succ]
    refine wpAnyH_take (i := 37) (oi := ?o94) (v := ?v94) ?h94 ?s94 ?f94 ?c94 ?q94 ?y94 hHeld ?r94
    case h94 => (simp only [List.getElem?_toArray, List.getElem?_cons_succ, List.getElem?_cons_zero]; rfl)
    case s94 => kernel_rfl
    case f94 => kernel_rfl
    case c94 => kernel_rfl
    case y94 => (refine Or.inl ⟨by rfl, ?_⟩; intro w hSw; (try dsimp only at hSw); go_simp; (try with_reducible rfl))
    case q94 => exact fun _ _ _ h => h
    try simp only [Act.put, List.setIfInBounds_toArray, List.set_cons_zero, List.set_cons_succ]
    refine wpAnyH_take (i := 38) (oi := ?o95) (v := ?v95) ?h95 ?s95 ?f95 ?c95 ?q95 ?y95 hHeld ?r95
    case h95 => (simp only [List.getElem?_toArray, List.getElem?_cons_succ, List.getElem?_cons_zero]; rfl)
    case s95 => kernel_rfl
    case f95 => kernel_rfl
    case c95 => kernel_rfl
    case y95 => (refine Or.inl ⟨by rfl, ?_⟩; intro w hSw; (try dsimp only at hSw); go_simp; (try with_reducible rfl))
    case q95 => exact fun _ _ _ h => h
    try simp only [Act.put, List.setIfInBounds_toArray, List.set_cons_zero, List.set_cons_succ]
    refine wpAnyH_take (i := 39) (oi := ?o96) (v := ?v96) ?h96 ?s96 ?f96 ?c96 ?q96 ?y96 hHeld ?r96
    case h96 => (simp only [List.getElem?_toArray, List.getElem?_cons_succ, List.getElem?_cons_zero]; rfl)
    case s96 => kernel_rfl
    case f96 => kernel_rfl
    case c96 => kernel_rfl
    case y96 => (refine Or.inl ⟨by rfl, ?_⟩; intro w hSw; (try dsimp only at hSw); go_simp; (try with_reducible rfl))
    case q96 => exact fun _ _ _ h => h
    try simp only [Act.put, List.setIfInBounds_toArray, List.set_cons_zero, List.set_cons_succ]
    refine wpAnyH_take (i := 40) (oi := ?o97) (v := ?v97) ?h97 ?s97 ?f97 ?c97 ?q97 ?y97 hHeld ?r97
    case h97 => (simp only [List.getElem?_toArray, List.getElem?_cons_succ, List.getElem?_cons_zero]; rfl)
    case s97 => kernel_rfl
    case f97 => kernel_rfl
    case c97 => kernel_rfl
    case y97 => (refine Or.inl ⟨by rfl, ?_⟩; intro w hSw; (try dsimp only at hSw); go_simp; (try with_reducible rfl))
    case q97 => exact fun _ _ _ h => h
    try simp only [Act.put, List.setIfInBounds_toArray, List.set_cons_zero, List.set_cons_succ]
    refine wpAnyH_take (i := 43) (oi := ?o98) (v := ?v98) ?h98 ?s98 ?f98 ?c98 ?q98 ?y98 hHeld ?r98
    case h98 => (simp only [List.getElem?_toArray, List.getElem?_cons_succ, List.getElem?_cons_zero]; rfl)
    case s98 => kernel_rfl
    case f98 => kernel_rfl
    case c98 => kernel_rfl
    case y98 => (refine Or.inl ⟨by rfl, ?_⟩; intro w hSw; (try dsimp only at hSw); go_simp; (try with_reducible rfl))
    case q98 => exact fun _ _ _ h => h
    try simp only [Act.put, List.setIfInBounds_toArray, List.set_cons_zero, List.set_cons_succ]
    refine wpAnyH_ready (rs := [41]) (by kernel_rfl) (by simp) ?_
    refine AllReadyH.cons rfl (fun K hK => ?_) ?n99
    case n99 => exact AllReadyH.nil
    go_simp
    refine hK.out _ _ (by go_keep) (fun hHeld => ?_)
    clear hK
    try simp only [Act.put, List.setIfInBounds_toArray, List.set_cons_zero, List.set_cons_succ]
    refine wpAnyH_ready (rs := [42]) (by kernel_rfl) (by simp) ?_
    refine AllReadyH.cons rfl (fun K hK => ?_) ?n100
    case n100 => exact AllReadyH.nil
    go_simp
    (go_at_call 23; (with_reducible refine (best_three HQa Ba.at_).mono ?_); rintro e u7 ⟨A7, c7, rfl, h7, hy7⟩; replace Ba := Ba.go hy7; replace Bb := Bb.go hy7; replace Bv := Bv.go hy7; replace Bn := Bn.go hy7; obtain ⟨a0, a1, a2⟩ := Ba.cells; obtain ⟨b0, b1, b2⟩ := Bb.cells; obtain ⟨v0, v1, v2⟩ := Bv.cellsF; obtain ⟨n0, n1, n2⟩ := Bn.cellsF)
    go_wp2_with fail
    refine hK.out _ _ (by go_keep) (fun hHeld => ?_)
    clear hK
    try simp only [Act.put, List.setIfInBounds_toArray, List.set_cons_zero, List.set_cons_succ]
    refine wpAnyH_ready (rs := [44]) (by kernel_rfl) (by simp) ?_
    refine AllReadyH.cons rfl (fun K hK => ?_) ?n101
    case n101 => exact AllReadyH.nil
    go_simp
    (go_at_call 19; (with_reducible refine (atSame_is a a true HSA h7 Ba.at_).mono ?_); rintro e u8 ⟨rfl, hy8⟩; replace Ba := Ba.go hy8; replace Bb := Bb.go hy8; replace Bv := Bv.go hy8; replace Bn := Bn.go hy8; obtain ⟨a0, a1, a2⟩ := Ba.cells; obtain ⟨b0, b1, b2⟩ := Bb.cells; obtain ⟨v0, v1, v2⟩ := Bv.cellsF; obtain ⟨n0, n1, n2⟩ := Bn.cellsF)
    go_wp2_with fail
    refine hK.out _ _ (by go_keep) (fun hHeld => ?_)
    clear hK
    try simp only [Act.put, List.setIfInBounds_toArray, List.set_cons_zero, List.set_cons_succ]
    refine wpAnyH_take (i := 45) (oi := ?o102) (v := ?v102) ?h102 ?s102 ?f102 ?c102 ?q102 ?y102 hHeld ?r102
    case h102 => (simp only [List.getElem?_toArray, List.getElem?_cons_succ, List.getElem?_cons_zero]; rfl)
    case s102 => kernel_rfl
    case f102 => kernel_rfl
    case c102 => kernel_rfl
    case y102 => (refine Or.inl ⟨by rfl, ?_⟩; intro w hSw; (try dsimp only at hSw); go_simp; (try with_reducible rfl))
    case q102 => exact fun _ _ _ h => h
    try simp only [Act.put, List.setIfInBounds_toArray, List.set_cons_zero, List.set_cons_succ]
    refine wpAnyH_take (i := 46) (oi := ?o103) (v := ?v103) ?h103 ?s103 ?f103 ?c103 ?q103 ?y103 hHeld ?r103
    case h103 => (simp only [List.getElem?_toArray, List.getElem?_cons_succ, List.getElem?_cons_zero]; rfl)
    case s103 => kernel_rfl
    case f103 => kernel_rfl
    case c103 => kernel_rfl
    case y103 => (refine Or.inl ⟨by rfl, ?_⟩; intro w hSw; (try dsimp only at hSw); go_simp; (try with_reducible rfl))
    case q103 => exact fun _ _ _ h => h
    try simp only [Act.put, List.setIfInBounds_toArray, List.set_cons_zero, List.set_cons_succ]
    refine wpAnyH_take (i := 47) (oi := ?o104) (v := ?v104) ?h104 ?s104 ?f104 ?c104 ?q104 ?y104 hHeld ?r104
    case h104 => (simp only [List.getElem?_toArray, List.getElem?_cons_succ, List.getElem?_cons_zero]; rfl)
    case s104 => kernel_rfl
    case f104 => kernel_rfl
    case c104 => kernel_rfl
    case y104 => (refine Or.inl ⟨by rfl, ?_⟩; intro w hSw; (try dsimp only at hSw); go_simp; (try with_reducible rfl))
    case q104 => exact fun _ _ _ h => h
    try simp only [Act.put, List.setIfInBounds_toArray, List.set_cons_zero, List.set_cons_succ]
    refine wpAnyH_take (i := 50) (oi := ?o105) (v := ?v105) ?h105 ?s105 ?f105 ?c105 ?q105 ?y105 hHeld ?r105
    case h105 => (simp only [List.getElem?_toArray, List.getElem?_cons_succ, List.getElem?_cons_zero]; rfl)
    case s105 => kernel_rfl
    case f105 => kernel_rfl
    case c105 => kernel_rfl
    case y105 => (refine Or.inl ⟨by rfl, ?_⟩; intro w hSw; (try dsimp only at hSw); go_simp; (try with_reducible rfl))
    case q105 => exact fun _ _ _ h => h
    try simp only [Act.put, List.setIfInBounds_toArray, List.set_cons_zero, List.set_cons_succ]
    refine wpAnyH_take (i := 51) (oi := ?o106) (v := ?v106) ?h106 ?s106 ?f106 ?c106 ?q106 ?y106 hHeld ?r106
    case h106 => (simp only [List.getElem?_toArray, List.getElem?_cons_succ, List.getElem?_cons_zero]; rfl)
    case s106 => kernel_rfl
    case f106 => kernel_rfl
    case c106 => kernel_rfl
    case y106 => (refine Or.inl ⟨by rfl, ?_⟩; intro w hSw; (try dsimp only at hSw); go_simp; (try with_reducible rfl))
    case q106 => exact fun _ _ _ h => h
    try simp only [Act.put, List.setIfInBounds_toArray, List.set_cons_zero, List.set_cons_succ]
    refine wpAnyH_take (i := 52) (oi := ?o107) (v := ?v107) ?h107 ?s107 ?f107 ?c107 ?q107 ?y107 hHeld ?r107
    case h107 => (simp only [List.getElem?_toArray, List.getElem?_cons_succ, List.getElem?_cons_zero]; rfl)
    case s107 => kernel_rfl
    case f107 => kernel_rfl
    case c107 => kernel_rfl
    case y107 => (refine Or.inl ⟨by rfl, ?_⟩; intro w hSw; (try dsimp only at hSw); go_simp; (try with_reducible rfl))
    case q107 => exact fun _ _ _ h => h
    try simp only [Act.put, List.setIfInBounds_toArray, List.set_cons_zero, List.set_cons_succ]
    refine wpAnyH_ready (rs := [48]) (by kernel_rfl) (by simp) ?_
    refine AllReadyH.cons rfl (fun K hK => ?_) ?n108
    case n108 => exact AllReadyH.nil
    go_simp
    (go_at_call 17; (with_reducible refine (atLength_is a la HLA _ HNa.out).mono ?_); rintro e u9 ⟨rfl, hy9⟩; replace Ba := Ba.go hy9; replace Bb := Bb.go hy9; replace Bv := Bv.go hy9; replace Bn := Bn.go hy9; obtain ⟨a0, a1, a2⟩ := Ba.cells; obtain ⟨b0, b1, b2⟩ := Bb.cells; obtain ⟨v0, v1, v2⟩ := Bv.cellsF; obtain ⟨n0, n1, n2⟩ := Bn.cellsF)
    go_wp2_with fail
    refine hK.out _ _ (by go_keep) (fun hHeld => ?_)
    clear hK
    try simp only [Act.put, List.setIfInBounds_toArray, List.set_cons_zero, List.set_cons_succ]
    refine wpAnyH_take (i := 49) (oi := ?o109) (v := ?v109) ?h109 ?s109 ?f109 ?c109 ?q109 ?y109 hHeld ?r109
    case h109 => (simp only [List.getElem?_toArray, List.getElem?_cons_succ, List.getElem?_cons_zero]; rfl)
    case s109 => kernel_rfl
    case f109 => kernel_rfl
    case c109 => kernel_rfl
    case y109 => (refine Or.inl ⟨by rfl, ?_⟩; intro w hSw; (try dsimp only at hSw); go_simp; (try with_reducible rfl))
    case q109 => exact fun _ _ _ h => h
    try simp only [Act.put, List.setIfInBounds_toArray, List.set_cons_zero, List.set_cons_succ]
    refine wpAnyH_take (i := 53) (oi := ?o110) (v := ?v110) ?h110 ?s110 ?f110 ?c110 ?q110 ?y110 hHeld ?r110
    case h110 => (simp only [List.getElem?_toArray, List.getElem?_cons_succ, List.getElem?_cons_zero]; rfl)
    case s110 => kernel_rfl
    case f110 => kernel_rfl
    case c110 => kernel_rfl
    case y110 => (refine Or.inl ⟨by rfl, ?_⟩; intro w hSw; (try dsimp only at hSw); go_simp; (try with_reducible rfl))
    case q110 => exact fun _ _ _ h => h
    try simp only [Act.put, List.setIfInBounds_toArray, List.set_cons_zero, List.set_cons_succ]
    refine wpAnyH_take (i := 54) (oi := ?o111) (v := ?v111) ?h111 ?s111 ?f111 ?c111 ?q111 ?y111 hHeld ?r111
    case h111 => (simp only [List.getElem?_toArray, List.getElem?_cons_succ, List.getElem?_cons_zero]; rfl)
    case s111 => kernel_rfl
    case f111 => kernel_rfl
    case c111 => kernel_rfl
    case y111 => (refine Or.inl ⟨by rfl, ?_⟩; intro w hSw; (try dsimp only at hSw); go_simp; (try with_reducible rfl))
    case q111 => exact fun _ _ _ h => h
    try simp only [Act.put, List.setIfInBounds_toArray, List.set_cons_zero, List.set_cons_succ]
    refine wpAnyH_take (i := 55) (oi := ?o112) (v := ?v112) ?h112 ?s112 ?f112 ?c112 ?q112 ?y112 hHeld ?r112
    case h112 => (simp only [List.getElem?_toArray, List.getElem?_cons_succ, List.getElem?_cons_zero]; rfl)
    case s112 => kernel_rfl
    case f112 => kernel_rfl
    case c112 => kernel_rfl
    case y112 => (refine Or.inl ⟨by rfl, ?_⟩; intro w hSw; (try dsimp only at hSw); go_simp; (try with_reducible rfl))
    case q112 => exact fun _ _ _ h => h
    try simp only [Act.put, List.setIfInBounds_toArray, List.set_cons_zero, List.set_cons_succ]
    refine wpAnyH_done (by kernel_rfl) ?_ _
    repeat go_step
    go_ret
    exact ⟨ret_bool (by first | rfl | (simp; done) | (simp; omega)), Ba.up⟩
end Go.Proofs.YtobeenlkhggodaaDoor
