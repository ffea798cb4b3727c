/-
  The document's own Right: checks.
-/
import Derived.Test.YtdmilbfdiebjgaaDoorPlUa
namespace Go.Proofs.YtdmilbfdiebjgaaDoor
open Go.RowKit
set_option linter.unusedVariables false
set_option linter.unusedSimpArgs false

def refLimB (k l : Int) : Bool := if k = 2 then decide (0 ≤ l) && decide (l ≤ 65535) else decide (l = 0)
def refOthB (ln : Nat) (k o : Int) : Bool := if k = 3 ∨ k = 4 then placeB o ln else decide (o = 0)
def refCheckOk (ln ld : Nat) (c : PCheck) : Bool := placeB c.node ln && (placeB c.dest ld && (decide (1 ≤ c.kind) && (decide (c.kind ≤ 4) && (refLimB c.kind c.limit && refOthB ln c.kind c.other))))
set_option maxHeartbeats 4000000 in
set_option maxRecDepth 100000 in
theorem refChecks_any (p : PPlan) {pr ca kk : Int} {An Al Ad Ac : Option Addr} {ln cn ll cl ld cd lc cc : Nat} {w : World} (h : RowAt w w.heap.size Ac (p.checks.flatMap checkC)) (hl : Hid (p.checks.length = lc)) (hm : lc ≤ 4096) (hn : ln ≤ 4096) (hd : ld ≤ 4096) :
    Calls Tryd.prog 35 #[.agg #[.int .i64 pr, .int .i64 ca, .int .i64 kk, .slice An ln cn, .slice Al ll cl, .slice Ad ld cd, .slice Ac lc cc]] w fun e w' => e = .returned (.bool (allF (fun _ c => refCheckOk ln ld c) p.checks 0 && decide (lc ≤ 16))) ∧ Below w.heap.size w w' := by
  have HBX := Lib.hid (fun c0 c1 c2 c3 c4 c5 c6 => Blk.new w 29 #[c0, c1, c2, c3, c4, c5, c6])
  have hbx := fun o => below_new w o
  go_enter Tryd.func35, Tryd.ntmps35
  go_wp2
  go_loopw [3] (fun i wr => ∃ k : Nat, k ≤ lc ∧ i = .int .i64 (k : Nat) ∧ AllAt (fun _ c => refCheckOk ln ld c) p.checks k ∧ Below w.heap.size w wr ∧ Blk wr w.heap.size 29 #[.int .i64 pr, .int .i64 ca, .int .i64 kk, .slice An ln cn, .slice Al ll cl, .slice Ad ld cd, .slice Ac lc cc]) (fun i _ => lc - (intOf i).toNat)
  case atStart => exact ⟨0, Nat.zero_le _, rfl, AllAt.start _ _, hbx _, HBX.out _ _ _ _ _ _ _⟩
  case round =>
    clear hbx HBX
    obtain ⟨k, hk, rfl, hat, hbw, hbox⟩ := hrel
    obtain ⟨b0, b1, b2, b3, b4, b5, b6⟩ := box7 hbox
    by_cases hlt : k < lc
    · obtain ⟨⟨cki, cno, cde, cli, cot⟩, hn'⟩ : ∃ n, p.checks[k]? = some n := ⟨_, List.getElem?_eq_getElem (by rw [hl.out]; exact hlt)⟩
      obtain ⟨d0, d1, d2, d3, d4, d5, d6⟩ := box7a hbox
      obtain ⟨g, hAg, hg, c0, c1, c2, c3, c4⟩ := (h.up hbw).check hn'
      dsimp only at c0 c1 c2 c3 c4
      have hB4 := Blk.new wr 51 #[.int .i64 cki, .int .i64 cno, .int .i64 cde, .int .i64 cli, .int .i64 cot]
      have q0 := hB4.cell 0
      have q1 := hB4.cell 1
      have q2 := hB4.cell 2
      have q3 := hB4.cell 3
      have q4 := hB4.cell 4
      have n0 : (0 : Int) ≤ (k : Int) := by omega
      have n1 : (k : Int) < (lc : Int) := by omega
      have HAT := Lib.hid hat
      have HL := Lib.hid hn'
      subst hAg
      clear h hat hn' hB4
      have hBw := hbw.alloc hbw.size (.cells #[.int .i64 cki, .int .i64 cno, .int .i64 cde, .int .i64 cli, .int .i64 cot] 51)
      have hBx := hbox.alloc (.cells #[.int .i64 cki, .int .i64 cno, .int .i64 cde, .int .i64 cli, .int .i64 cot] 51)
      clear hbox
      obtain ⟨v1, e1⟩ : ∃ b, placeB cno ln = b := ⟨_, rfl⟩
      have H1 := Lib.hid e1
      obtain ⟨v2, e2⟩ : ∃ b, placeB cde ld = b := ⟨_, rfl⟩
      have H2 := Lib.hid e2
      obtain ⟨v3, e3⟩ : ∃ b, placeB cot ln = b := ⟨_, rfl⟩
      have H3 := Lib.hid e3
      cases v1
      · have HF : Hid (allF (fun _ c => refCheckOk ln ld c) p.checks 0 = false) := Lib.hid (HAT.out.stop HL.out (by unfold refCheckOk; dsimp only; rw [e1]; rfl))
        clear e1 e2 e3 HAT
        (try (have kk1 : cli = 0 := k1; clear kk1 k1))
        (try clear k3)
        go_wp2_with (go_at_call 56; (first | (with_reducible refine (refPlace_is cno ln (by omega) _ H1 _).mono ?_) | (with_reducible refine (refPlace_is cde ld (by omega) _ H2 _).mono ?_) | (with_reducible refine (refPlace_is cot ln (by omega) _ H3 _).mono ?_)); rintro e w2 ⟨rfl, rfl⟩)
        go_ret
        exact ⟨ret_bool (by rw [HF.out]; rfl), hBw⟩
      cases v2
      · have HF : Hid (allF (fun _ c => refCheckOk ln ld c) p.checks 0 = false) := Lib.hid (HAT.out.stop HL.out (by unfold refCheckOk; dsimp only; rw [e1, e2]; rfl))
        clear e1 e2 e3 HAT
        (try (have kk1 : cli = 0 := k1; clear kk1 k1))
        (try clear k3)
        go_wp2_with (go_at_call 56; (first | (with_reducible refine (refPlace_is cno ln (by omega) _ H1 _).mono ?_) | (with_reducible refine (refPlace_is cde ld (by omega) _ H2 _).mono ?_) | (with_reducible refine (refPlace_is cot ln (by omega) _ H3 _).mono ?_)); rintro e w2 ⟨rfl, rfl⟩)
        go_ret
        exact ⟨ret_bool (by rw [HF.out]; rfl), hBw⟩
      by_cases h3 : 1 ≤ cki
      case neg =>
        have HF : Hid (allF (fun _ c => refCheckOk ln ld c) p.checks 0 = false) := Lib.hid (HAT.out.stop HL.out (by unfold refCheckOk; dsimp only; rw [e1, e2, decide_eq_false h3]; rfl))
        clear e1 e2 e3 HAT
        (try (have kk1 : cli = 0 := k1; clear kk1 k1))
        (try clear k3)
        go_wp2_with (go_at_call 56; (first | (with_reducible refine (refPlace_is cno ln (by omega) _ H1 _).mono ?_) | (with_reducible refine (refPlace_is cde ld (by omega) _ H2 _).mono ?_) | (with_reducible refine (refPlace_is cot ln (by omega) _ H3 _).mono ?_)); rintro e w2 ⟨rfl, rfl⟩)
        go_ret
        exact ⟨ret_bool (by rw [HF.out]; rfl), hBw⟩
      by_cases h4 : cki ≤ 4
      case neg =>
        have HF : Hid (allF (fun _ c => refCheckOk ln ld c) p.checks 0 = false) := Lib.hid (HAT.out.stop HL.out (by unfold refCheckOk; dsimp only; rw [e1, e2, decide_eq_true h3, decide_eq_false h4]; rfl))
        clear e1 e2 e3 HAT
        (try (have kk1 : cli = 0 := k1; clear kk1 k1))
        (try clear k3)
        go_wp2_with (go_at_call 56; (first | (with_reducible refine (refPlace_is cno ln (by omega) _ H1 _).mono ?_) | (with_reducible refine (refPlace_is cde ld (by omega) _ H2 _).mono ?_) | (with_reducible refine (refPlace_is cot ln (by omega) _ H3 _).mono ?_)); rintro e w2 ⟨rfl, rfl⟩)
        go_ret
        exact ⟨ret_bool (by rw [HF.out]; rfl), hBw⟩
      have hkind : cki = 1 ∨ cki = 2 ∨ cki = 3 ∨ cki = 4 := by omega
      have R := Lib.hid (show (true && (true && (decide (1 ≤ cki) && (decide (cki ≤ 4) && (refLimB cki cli && refOthB ln cki cot))))) = (refLimB cki cli && refOthB ln cki cot) by rw [decide_eq_true h3, decide_eq_true h4]; simp)
      rcases hkind with rfl | rfl | rfl | rfl
      · clear h3 h4
        by_cases k1 : cli = 0
        case neg =>
          have t3 : ((cli : Int) == 0) = false := by simpa using k1
          have HF : Hid (allF (fun _ c => refCheckOk ln ld c) p.checks 0 = false) := Lib.hid (HAT.out.stop HL.out (by unfold refCheckOk; dsimp only; rw [e1, e2, R.out]; unfold refLimB refOthB; simp [k1]))
          clear e1 e2 e3 HAT
          (try (have kk1 : cli = 0 := k1; clear kk1 k1))
          (try clear k3)
          go_wp2_with (go_at_call 56; (first | (with_reducible refine (refPlace_is cno ln (by omega) _ H1 _).mono ?_) | (with_reducible refine (refPlace_is cde ld (by omega) _ H2 _).mono ?_) | (with_reducible refine (refPlace_is cot ln (by omega) _ H3 _).mono ?_)); rintro e w2 ⟨rfl, rfl⟩)
          go_ret
          exact ⟨ret_bool (by rw [HF.out]; rfl), hBw⟩
        by_cases k3 : cot = 0
        case neg =>
          have t3 : ((cli : Int) == 0) = true := by simp [k1]
          have t4 : ((cot : Int) == 0) = false := by simpa using k3
          have HF : Hid (allF (fun _ c => refCheckOk ln ld c) p.checks 0 = false) := Lib.hid (HAT.out.stop HL.out (by unfold refCheckOk; dsimp only; rw [e1, e2, R.out]; unfold refLimB refOthB; simp [k1, k3]))
          clear e1 e2 e3 HAT
          (try (have kk1 : cli = 0 := k1; clear kk1 k1))
          (try clear k3)
          go_wp2_with (go_at_call 56; (first | (with_reducible refine (refPlace_is cno ln (by omega) _ H1 _).mono ?_) | (with_reducible refine (refPlace_is cde ld (by omega) _ H2 _).mono ?_) | (with_reducible refine (refPlace_is cot ln (by omega) _ H3 _).mono ?_)); rintro e w2 ⟨rfl, rfl⟩)
          go_ret
          exact ⟨ret_bool (by rw [HF.out]; rfl), hBw⟩
        have t3 : ((cli : Int) == 0) = true := by simp [k1]
        have t4 : ((cot : Int) == 0) = true := by simp [k3]
        have hat' := HAT.out.next HL.out (by unfold refCheckOk; dsimp only; rw [e1, e2, R.out]; unfold refLimB refOthB; simp [k1, k3])
        have HAT2 := Lib.hid hat'
        clear e1 e2 e3 HAT hat'
        (try (have kk1 : cli = 0 := k1; clear kk1 k1))
        (try clear k3)
        go_wp2_with (go_at_call 56; (first | (with_reducible refine (refPlace_is cno ln (by omega) _ H1 _).mono ?_) | (with_reducible refine (refPlace_is cde ld (by omega) _ H2 _).mono ?_) | (with_reducible refine (refPlace_is cot ln (by omega) _ H3 _).mono ?_)); rintro e w2 ⟨rfl, rfl⟩)
        go_roundw
        case rel => exact ⟨k + 1, by omega, by go_num, HAT2.out, hBw, hBx⟩
        case measure => simp [intOf]; omega
      · clear h3 h4
        by_cases k1 : 0 ≤ cli
        case neg =>
          have HF : Hid (allF (fun _ c => refCheckOk ln ld c) p.checks 0 = false) := Lib.hid (HAT.out.stop HL.out (by unfold refCheckOk; dsimp only; rw [e1, e2, R.out]; unfold refLimB refOthB; simp [k1]))
          clear e1 e2 e3 HAT
          (try (have kk1 : cli = 0 := k1; clear kk1 k1))
          (try clear k3)
          go_wp2_with (go_at_call 56; (first | (with_reducible refine (refPlace_is cno ln (by omega) _ H1 _).mono ?_) | (with_reducible refine (refPlace_is cde ld (by omega) _ H2 _).mono ?_) | (with_reducible refine (refPlace_is cot ln (by omega) _ H3 _).mono ?_)); rintro e w2 ⟨rfl, rfl⟩)
          go_ret
          exact ⟨ret_bool (by rw [HF.out]; rfl), hBw⟩
        by_cases k2 : cli ≤ 65535
        case neg =>
          have HF : Hid (allF (fun _ c => refCheckOk ln ld c) p.checks 0 = false) := Lib.hid (HAT.out.stop HL.out (by unfold refCheckOk; dsimp only; rw [e1, e2, R.out]; unfold refLimB refOthB; simp [k1, k2]))
          clear e1 e2 e3 HAT
          (try (have kk1 : cli = 0 := k1; clear kk1 k1))
          (try clear k3)
          go_wp2_with (go_at_call 56; (first | (with_reducible refine (refPlace_is cno ln (by omega) _ H1 _).mono ?_) | (with_reducible refine (refPlace_is cde ld (by omega) _ H2 _).mono ?_) | (with_reducible refine (refPlace_is cot ln (by omega) _ H3 _).mono ?_)); rintro e w2 ⟨rfl, rfl⟩)
          go_ret
          exact ⟨ret_bool (by rw [HF.out]; rfl), hBw⟩
        by_cases k3 : cot = 0
        case neg =>
          have t4 : ((cot : Int) == 0) = false := by simpa using k3
          have HF : Hid (allF (fun _ c => refCheckOk ln ld c) p.checks 0 = false) := Lib.hid (HAT.out.stop HL.out (by unfold refCheckOk; dsimp only; rw [e1, e2, R.out]; unfold refLimB refOthB; simp [k1, k2, k3]))
          clear e1 e2 e3 HAT
          (try (have kk1 : cli = 0 := k1; clear kk1 k1))
          (try clear k3)
          go_wp2_with (go_at_call 56; (first | (with_reducible refine (refPlace_is cno ln (by omega) _ H1 _).mono ?_) | (with_reducible refine (refPlace_is cde ld (by omega) _ H2 _).mono ?_) | (with_reducible refine (refPlace_is cot ln (by omega) _ H3 _).mono ?_)); rintro e w2 ⟨rfl, rfl⟩)
          go_ret
          exact ⟨ret_bool (by rw [HF.out]; rfl), hBw⟩
        have t4 : ((cot : Int) == 0) = true := by simp [k3]
        have hat' := HAT.out.next HL.out (by unfold refCheckOk; dsimp only; rw [e1, e2, R.out]; unfold refLimB refOthB; simp [k1, k2, k3])
        have HAT2 := Lib.hid hat'
        clear e1 e2 e3 HAT hat'
        (try (have kk1 : cli = 0 := k1; clear kk1 k1))
        (try clear k3)
        go_wp2_with (go_at_call 56; (first | (with_reducible refine (refPlace_is cno ln (by omega) _ H1 _).mono ?_) | (with_reducible refine (refPlace_is cde ld (by omega) _ H2 _).mono ?_) | (with_reducible refine (refPlace_is cot ln (by omega) _ H3 _).mono ?_)); rintro e w2 ⟨rfl, rfl⟩)
        go_roundw
        case rel => exact ⟨k + 1, by omega, by go_num, HAT2.out, hBw, hBx⟩
        case measure => simp [intOf]; omega
      · clear h3 h4
        by_cases k1 : cli = 0
        case neg =>
          have t3 : ((cli : Int) == 0) = false := by simpa using k1
          have HF : Hid (allF (fun _ c => refCheckOk ln ld c) p.checks 0 = false) := Lib.hid (HAT.out.stop HL.out (by unfold refCheckOk; dsimp only; rw [e1, e2, R.out]; unfold refLimB refOthB; simp [e3, k1]))
          clear e1 e2 e3 HAT
          (try (have kk1 : cli = 0 := k1; clear kk1 k1))
          (try clear k3)
          go_wp2_with (go_at_call 56; (first | (with_reducible refine (refPlace_is cno ln (by omega) _ H1 _).mono ?_) | (with_reducible refine (refPlace_is cde ld (by omega) _ H2 _).mono ?_) | (with_reducible refine (refPlace_is cot ln (by omega) _ H3 _).mono ?_)); rintro e w2 ⟨rfl, rfl⟩)
          go_ret
          exact ⟨ret_bool (by rw [HF.out]; rfl), hBw⟩
        cases v3
        · (try have t3 : ((cli : Int) == 0) = true := by simp [k1])
          have HF : Hid (allF (fun _ c => refCheckOk ln ld c) p.checks 0 = false) := Lib.hid (HAT.out.stop HL.out (by unfold refCheckOk; dsimp only; rw [e1, e2, R.out]; unfold refLimB refOthB; simp [e3, k1]))
          clear e1 e2 e3 HAT
          (try (have kk1 : cli = 0 := k1; clear kk1 k1))
          (try clear k3)
          go_wp2_with (go_at_call 56; (first | (with_reducible refine (refPlace_is cno ln (by omega) _ H1 _).mono ?_) | (with_reducible refine (refPlace_is cde ld (by omega) _ H2 _).mono ?_) | (with_reducible refine (refPlace_is cot ln (by omega) _ H3 _).mono ?_)); rintro e w2 ⟨rfl, rfl⟩)
          go_ret
          exact ⟨ret_bool (by rw [HF.out]; rfl), hBw⟩
        have t3 : ((cli : Int) == 0) = true := by simp [k1]
        have hat' := HAT.out.next HL.out (by unfold refCheckOk; dsimp only; rw [e1, e2, R.out]; unfold refLimB refOthB; simp [e3, k1])
        have HAT2 := Lib.hid hat'
        clear e1 e2 e3 HAT hat'
        (try (have kk1 : cli = 0 := k1; clear kk1 k1))
        (try clear k3)
        go_wp2_with (go_at_call 56; (first | (with_reducible refine (refPlace_is cno ln (by omega) _ H1 _).mono ?_) | (with_reducible refine (refPlace_is cde ld (by omega) _ H2 _).mono ?_) | (with_reducible refine (refPlace_is cot ln (by omega) _ H3 _).mono ?_)); rintro e w2 ⟨rfl, rfl⟩)
        go_roundw
        case rel => exact ⟨k + 1, by omega, by go_num, HAT2.out, hBw, hBx⟩
        case measure => simp [intOf]; omega
      · clear h3 h4
        by_cases k1 : cli = 0
        case neg =>
          have t3 : ((cli : Int) == 0) = false := by simpa using k1
          have HF : Hid (allF (fun _ c => refCheckOk ln ld c) p.checks 0 = false) := Lib.hid (HAT.out.stop HL.out (by unfold refCheckOk; dsimp only; rw [e1, e2, R.out]; unfold refLimB refOthB; simp [e3, k1]))
          clear e1 e2 e3 HAT
          (try (have kk1 : cli = 0 := k1; clear kk1 k1))
          (try clear k3)
          go_wp2_with (go_at_call 56; (first | (with_reducible refine (refPlace_is cno ln (by omega) _ H1 _).mono ?_) | (with_reducible refine (refPlace_is cde ld (by omega) _ H2 _).mono ?_) | (with_reducible refine (refPlace_is cot ln (by omega) _ H3 _).mono ?_)); rintro e w2 ⟨rfl, rfl⟩)
          go_ret
          exact ⟨ret_bool (by rw [HF.out]; rfl), hBw⟩
        cases v3
        · (try have t3 : ((cli : Int) == 0) = true := by simp [k1])
          have HF : Hid (allF (fun _ c => refCheckOk ln ld c) p.checks 0 = false) := Lib.hid (HAT.out.stop HL.out (by unfold refCheckOk; dsimp only; rw [e1, e2, R.out]; unfold refLimB refOthB; simp [e3, k1]))
          clear e1 e2 e3 HAT
          (try (have kk1 : cli = 0 := k1; clear kk1 k1))
          (try clear k3)
          go_wp2_with (go_at_call 56; (first | (with_reducible refine (refPlace_is cno ln (by omega) _ H1 _).mono ?_) | (with_reducible refine (refPlace_is cde ld (by omega) _ H2 _).mono ?_) | (with_reducible refine (refPlace_is cot ln (by omega) _ H3 _).mono ?_)); rintro e w2 ⟨rfl, rfl⟩)
          go_ret
          exact ⟨ret_bool (by rw [HF.out]; rfl), hBw⟩
        have t3 : ((cli : Int) == 0) = true := by simp [k1]
        have hat' := HAT.out.next HL.out (by unfold refCheckOk; dsimp only; rw [e1, e2, R.out]; unfold refLimB refOthB; simp [e3, k1])
        have HAT2 := Lib.hid hat'
        clear e1 e2 e3 HAT hat'
        (try (have kk1 : cli = 0 := k1; clear kk1 k1))
        (try clear k3)
        go_wp2_with (go_at_call 56; (first | (with_reducible refine (refPlace_is cno ln (by omega) _ H1 _).mono ?_) | (with_reducible refine (refPlace_is cde ld (by omega) _ H2 _).mono ?_) | (with_reducible refine (refPlace_is cot ln (by omega) _ H3 _).mono ?_)); rintro e w2 ⟨rfl, rfl⟩)
        go_roundw
        case rel => exact ⟨k + 1, by omega, by go_num, HAT2.out, hBw, hBx⟩
        case measure => simp [intOf]; omega
    · have HF : Hid (allF (fun _ c => refCheckOk ln ld c) p.checks 0 = true) := Lib.hid (hat.done (by rw [hl.out]; omega))
      have hge : ¬ (k : Int) < (lc : Int) := by omega
      go_wp2
      go_ret
      exact ⟨ret_bool (by rw [HF.out, Bool.true_and]; first | rfl | (simp; done) | (simp; omega)), hbw⟩
end Go.Proofs.YtdmilbfdiebjgaaDoor
