/-
  The document's own Right: the same networks.
-/
import Derived.Test.YtlfdpfkimggeoaaPlUa
namespace Go.Proofs.Ytlfdpfkimggeoaa
open Go.RowKit
set_option linter.unusedVariables false
set_option linter.unusedSimpArgs false

def refLimB (k l : Int) : Bool := if k = 2 then decide (0 ≤ l) && decide (l ≤ 65535) else decide (l = 0)
def refOthB (ln : Nat) (k o : Int) : Bool := if k = 3 ∨ k = 4 then placeB o ln else decide (o = 0)
def refCheckOk (ln ld : Nat) (c : PCheck) : Bool := placeB c.node ln && (placeB c.dest ld && (decide (1 ≤ c.kind) && (decide (c.kind ≤ 4) && (refLimB c.kind c.limit && refOthB ln c.kind c.other))))
set_option maxHeartbeats 4000000 in
set_option maxRecDepth 100000 in
theorem refChecks_any (p : PPlan) {pr ca kk : Int} {An Al Ad Ac : Option Addr} {ln cn ll cl ld cd lc cc : Nat} {w : World} (h : RowAt w w.heap.size Ac (p.checks.flatMap checkC)) (hl : Hid (p.checks.length = lc)) (hm : lc ≤ 4096) (hn : ln ≤ 4096) (hd : ld ≤ 4096) :
    Calls Try.prog 61 #[.agg #[.int .i64 pr, .int .i64 ca, .int .i64 kk, .slice An ln cn, .slice Al ll cl, .slice Ad ld cd, .slice Ac lc cc]] w fun e w' => e = .returned (.bool (allF (fun _ c => refCheckOk ln ld c) p.checks 0 && decide (lc ≤ 16))) ∧ Below w.heap.size w w' := by
  have HBX := Lib.hid (fun c0 c1 c2 c3 c4 c5 c6 => Blk.new w 29 #[c0, c1, c2, c3, c4, c5, c6])
  have hbx := fun o => below_new w o
  go_enter Try.func61, Try.ntmps61
  go_wp2
  go_loopw [3] (fun i wr => ∃ k : Nat, k ≤ lc ∧ i = .int .i64 (k : Nat) ∧ AllAt (fun _ c => refCheckOk ln ld c) p.checks k ∧ Below w.heap.size w wr ∧ Blk wr w.heap.size 29 #[.int .i64 pr, .int .i64 ca, .int .i64 kk, .slice An ln cn, .slice Al ll cl, .slice Ad ld cd, .slice Ac lc cc]) (fun i _ => lc - (intOf i).toNat)
  case atStart => exact ⟨0, Nat.zero_le _, rfl, AllAt.start _ _, hbx _, HBX.out _ _ _ _ _ _ _⟩
  case round =>
    clear hbx HBX
    obtain ⟨k, hk, rfl, hat, hbw, hbox⟩ := hrel
    obtain ⟨b0, b1, b2, b3, b4, b5, b6⟩ := box7 hbox
    by_cases hlt : k < lc
    · obtain ⟨⟨cki, cno, cde, cli, cot⟩, hn'⟩ : ∃ n, p.checks[k]? = some n := ⟨_, List.getElem?_eq_getElem (by rw [hl.out]; exact hlt)⟩
      obtain ⟨d0, d1, d2, d3, d4, d5, d6⟩ := box7a hbox
      obtain ⟨g, hAg, hg, c0, c1, c2, c3, c4⟩ := (h.up hbw).check hn'
      dsimp only at c0 c1 c2 c3 c4
      have hB4 := Blk.new wr 67 #[.int .i64 cki, .int .i64 cno, .int .i64 cde, .int .i64 cli, .int .i64 cot]
      have q0 := hB4.cell 0
      have q1 := hB4.cell 1
      have q2 := hB4.cell 2
      have q3 := hB4.cell 3
      have q4 := hB4.cell 4
      have n0 : (0 : Int) ≤ (k : Int) := by omega
      have n1 : (k : Int) < (lc : Int) := by omega
      have HAT := Lib.hid hat
      have HL := Lib.hid hn'
      subst hAg
      clear h hat hn' hB4
      have hBw := hbw.alloc hbw.size (.cells #[.int .i64 cki, .int .i64 cno, .int .i64 cde, .int .i64 cli, .int .i64 cot] 67)
      have hBx := hbox.alloc (.cells #[.int .i64 cki, .int .i64 cno, .int .i64 cde, .int .i64 cli, .int .i64 cot] 67)
      clear hbox
      obtain ⟨v1, e1⟩ : ∃ b, placeB cno ln = b := ⟨_, rfl⟩
      have H1 := Lib.hid e1
      obtain ⟨v2, e2⟩ : ∃ b, placeB cde ld = b := ⟨_, rfl⟩
      have H2 := Lib.hid e2
      obtain ⟨v3, e3⟩ : ∃ b, placeB cot ln = b := ⟨_, rfl⟩
      have H3 := Lib.hid e3
      cases v1
      · have HF : Hid (allF (fun _ c => refCheckOk ln ld c) p.checks 0 = false) := Lib.hid (HAT.out.stop HL.out (by unfold refCheckOk; dsimp only; rw [e1]; rfl))
        clear e1 e2 e3 HAT
        (try (have kk1 : cli = 0 := k1; clear kk1 k1))
        (try clear k3)
        go_wp2_with (go_at_call 76; (first | (with_reducible refine (refPlace_is cno ln (by omega) _ H1 _).mono ?_) | (with_reducible refine (refPlace_is cde ld (by omega) _ H2 _).mono ?_) | (with_reducible refine (refPlace_is cot ln (by omega) _ H3 _).mono ?_)); rintro e w2 ⟨rfl, rfl⟩)
        go_ret
        exact ⟨ret_bool (by rw [HF.out]; rfl), hBw⟩
      cases v2
      · have HF : Hid (allF (fun _ c => refCheckOk ln ld c) p.checks 0 = false) := Lib.hid (HAT.out.stop HL.out (by unfold refCheckOk; dsimp only; rw [e1, e2]; rfl))
        clear e1 e2 e3 HAT
        (try (have kk1 : cli = 0 := k1; clear kk1 k1))
        (try clear k3)
        go_wp2_with (go_at_call 76; (first | (with_reducible refine (refPlace_is cno ln (by omega) _ H1 _).mono ?_) | (with_reducible refine (refPlace_is cde ld (by omega) _ H2 _).mono ?_) | (with_reducible refine (refPlace_is cot ln (by omega) _ H3 _).mono ?_)); rintro e w2 ⟨rfl, rfl⟩)
        go_ret
        exact ⟨ret_bool (by rw [HF.out]; rfl), hBw⟩
      by_cases h3 : 1 ≤ cki
      case neg =>
        have HF : Hid (allF (fun _ c => refCheckOk ln ld c) p.checks 0 = false) := Lib.hid (HAT.out.stop HL.out (by unfold refCheckOk; dsimp only; rw [e1, e2, decide_eq_false h3]; rfl))
        clear e1 e2 e3 HAT
        (try (have kk1 : cli = 0 := k1; clear kk1 k1))
        (try clear k3)
        go_wp2_with (go_at_call 76; (first | (with_reducible refine (refPlace_is cno ln (by omega) _ H1 _).mono ?_) | (with_reducible refine (refPlace_is cde ld (by omega) _ H2 _).mono ?_) | (with_reducible refine (refPlace_is cot ln (by omega) _ H3 _).mono ?_)); rintro e w2 ⟨rfl, rfl⟩)
        go_ret
        exact ⟨ret_bool (by rw [HF.out]; rfl), hBw⟩
      by_cases h4 : cki ≤ 4
      case neg =>
        have HF : Hid (allF (fun _ c => refCheckOk ln ld c) p.checks 0 = false) := Lib.hid (HAT.out.stop HL.out (by unfold refCheckOk; dsimp only; rw [e1, e2, decide_eq_true h3, decide_eq_false h4]; rfl))
        clear e1 e2 e3 HAT
        (try (have kk1 : cli = 0 := k1; clear kk1 k1))
        (try clear k3)
        go_wp2_with (go_at_call 76; (first | (with_reducible refine (refPlace_is cno ln (by omega) _ H1 _).mono ?_) | (with_reducible refine (refPlace_is cde ld (by omega) _ H2 _).mono ?_) | (with_reducible refine (refPlace_is cot ln (by omega) _ H3 _).mono ?_)); rintro e w2 ⟨rfl, rfl⟩)
        go_ret
        exact ⟨ret_bool (by rw [HF.out]; rfl), hBw⟩
      have hkind : cki = 1 ∨ cki = 2 ∨ cki = 3 ∨ cki = 4 := by omega
      have R := Lib.hid (show (true && (true && (decide (1 ≤ cki) && (decide (cki ≤ 4) && (refLimB cki cli && refOthB ln cki cot))))) = (refLimB cki cli && refOthB ln cki cot) by rw [decide_eq_true h3, decide_eq_true h4]; simp)
      rcases hkind with rfl | rfl | rfl | rfl
      · clear h3 h4
        by_cases k1 : cli = 0
        case neg =>
          have t3 : ((cli : Int) == 0) = false := by simpa using k1
          have HF : Hid (allF (fun _ c => refCheckOk ln ld c) p.checks 0 = false) := Lib.hid (HAT.out.stop HL.out (by unfold refCheckOk; dsimp only; rw [e1, e2, R.out]; unfold refLimB refOthB; simp [k1]))
          clear e1 e2 e3 HAT
          (try (have kk1 : cli = 0 := k1; clear kk1 k1))
          (try clear k3)
          go_wp2_with (go_at_call 76; (first | (with_reducible refine (refPlace_is cno ln (by omega) _ H1 _).mono ?_) | (with_reducible refine (refPlace_is cde ld (by omega) _ H2 _).mono ?_) | (with_reducible refine (refPlace_is cot ln (by omega) _ H3 _).mono ?_)); rintro e w2 ⟨rfl, rfl⟩)
          go_ret
          exact ⟨ret_bool (by rw [HF.out]; rfl), hBw⟩
        by_cases k3 : cot = 0
        case neg =>
          have t3 : ((cli : Int) == 0) = true := by simp [k1]
          have t4 : ((cot : Int) == 0) = false := by simpa using k3
          have HF : Hid (allF (fun _ c => refCheckOk ln ld c) p.checks 0 = false) := Lib.hid (HAT.out.stop HL.out (by unfold refCheckOk; dsimp only; rw [e1, e2, R.out]; unfold refLimB refOthB; simp [k1, k3]))
          clear e1 e2 e3 HAT
          (try (have kk1 : cli = 0 := k1; clear kk1 k1))
          (try clear k3)
          go_wp2_with (go_at_call 76; (first | (with_reducible refine (refPlace_is cno ln (by omega) _ H1 _).mono ?_) | (with_reducible refine (refPlace_is cde ld (by omega) _ H2 _).mono ?_) | (with_reducible refine (refPlace_is cot ln (by omega) _ H3 _).mono ?_)); rintro e w2 ⟨rfl, rfl⟩)
          go_ret
          exact ⟨ret_bool (by rw [HF.out]; rfl), hBw⟩
        have t3 : ((cli : Int) == 0) = true := by simp [k1]
        have t4 : ((cot : Int) == 0) = true := by simp [k3]
        have hat' := HAT.out.next HL.out (by unfold refCheckOk; dsimp only; rw [e1, e2, R.out]; unfold refLimB refOthB; simp [k1, k3])
        have HAT2 := Lib.hid hat'
        clear e1 e2 e3 HAT hat'
        (try (have kk1 : cli = 0 := k1; clear kk1 k1))
        (try clear k3)
        go_wp2_with (go_at_call 76; (first | (with_reducible refine (refPlace_is cno ln (by omega) _ H1 _).mono ?_) | (with_reducible refine (refPlace_is cde ld (by omega) _ H2 _).mono ?_) | (with_reducible refine (refPlace_is cot ln (by omega) _ H3 _).mono ?_)); rintro e w2 ⟨rfl, rfl⟩)
        go_roundw
        case rel => exact ⟨k + 1, by omega, by go_num, HAT2.out, hBw, hBx⟩
        case measure => simp [intOf]; omega
      · clear h3 h4
        by_cases k1 : 0 ≤ cli
        case neg =>
          have HF : Hid (allF (fun _ c => refCheckOk ln ld c) p.checks 0 = false) := Lib.hid (HAT.out.stop HL.out (by unfold refCheckOk; dsimp only; rw [e1, e2, R.out]; unfold refLimB refOthB; simp [k1]))
          clear e1 e2 e3 HAT
          (try (have kk1 : cli = 0 := k1; clear kk1 k1))
          (try clear k3)
          go_wp2_with (go_at_call 76; (first | (with_reducible refine (refPlace_is cno ln (by omega) _ H1 _).mono ?_) | (with_reducible refine (refPlace_is cde ld (by omega) _ H2 _).mono ?_) | (with_reducible refine (refPlace_is cot ln (by omega) _ H3 _).mono ?_)); rintro e w2 ⟨rfl, rfl⟩)
          go_ret
          exact ⟨ret_bool (by rw [HF.out]; rfl), hBw⟩
        by_cases k2 : cli ≤ 65535
        case neg =>
          have HF : Hid (allF (fun _ c => refCheckOk ln ld c) p.checks 0 = false) := Lib.hid (HAT.out.stop HL.out (by unfold refCheckOk; dsimp only; rw [e1, e2, R.out]; unfold refLimB refOthB; simp [k1, k2]))
          clear e1 e2 e3 HAT
          (try (have kk1 : cli = 0 := k1; clear kk1 k1))
          (try clear k3)
          go_wp2_with (go_at_call 76; (first | (with_reducible refine (refPlace_is cno ln (by omega) _ H1 _).mono ?_) | (with_reducible refine (refPlace_is cde ld (by omega) _ H2 _).mono ?_) | (with_reducible refine (refPlace_is cot ln (by omega) _ H3 _).mono ?_)); rintro e w2 ⟨rfl, rfl⟩)
          go_ret
          exact ⟨ret_bool (by rw [HF.out]; rfl), hBw⟩
        by_cases k3 : cot = 0
        case neg =>
          have t4 : ((cot : Int) == 0) = false := by simpa using k3
          have HF : Hid (allF (fun _ c => refCheckOk ln ld c) p.checks 0 = false) := Lib.hid (HAT.out.stop HL.out (by unfold refCheckOk; dsimp only; rw [e1, e2, R.out]; unfold refLimB refOthB; simp [k1, k2, k3]))
          clear e1 e2 e3 HAT
          (try (have kk1 : cli = 0 := k1; clear kk1 k1))
          (try clear k3)
          go_wp2_with (go_at_call 76; (first | (with_reducible refine (refPlace_is cno ln (by omega) _ H1 _).mono ?_) | (with_reducible refine (refPlace_is cde ld (by omega) _ H2 _).mono ?_) | (with_reducible refine (refPlace_is cot ln (by omega) _ H3 _).mono ?_)); rintro e w2 ⟨rfl, rfl⟩)
          go_ret
          exact ⟨ret_bool (by rw [HF.out]; rfl), hBw⟩
        have t4 : ((cot : Int) == 0) = true := by simp [k3]
        have hat' := HAT.out.next HL.out (by unfold refCheckOk; dsimp only; rw [e1, e2, R.out]; unfold refLimB refOthB; simp [k1, k2, k3])
        have HAT2 := Lib.hid hat'
        clear e1 e2 e3 HAT hat'
        (try (have kk1 : cli = 0 := k1; clear kk1 k1))
        (try clear k3)
        go_wp2_with (go_at_call 76; (first | (with_reducible refine (refPlace_is cno ln (by omega) _ H1 _).mono ?_) | (with_reducible refine (refPlace_is cde ld (by omega) _ H2 _).mono ?_) | (with_reducible refine (refPlace_is cot ln (by omega) _ H3 _).mono ?_)); rintro e w2 ⟨rfl, rfl⟩)
        go_roundw
        case rel => exact ⟨k + 1, by omega, by go_num, HAT2.out, hBw, hBx⟩
        case measure => simp [intOf]; omega
      · clear h3 h4
        by_cases k1 : cli = 0
        case neg =>
          have t3 : ((cli : Int) == 0) = false := by simpa using k1
          have HF : Hid (allF (fun _ c => refCheckOk ln ld c) p.checks 0 = false) := Lib.hid (HAT.out.stop HL.out (by unfold refCheckOk; dsimp only; rw [e1, e2, R.out]; unfold refLimB refOthB; simp [e3, k1]))
          clear e1 e2 e3 HAT
          (try (have kk1 : cli = 0 := k1; clear kk1 k1))
          (try clear k3)
          go_wp2_with (go_at_call 76; (first | (with_reducible refine (refPlace_is cno ln (by omega) _ H1 _).mono ?_) | (with_reducible refine (refPlace_is cde ld (by omega) _ H2 _).mono ?_) | (with_reducible refine (refPlace_is cot ln (by omega) _ H3 _).mono ?_)); rintro e w2 ⟨rfl, rfl⟩)
          go_ret
          exact ⟨ret_bool (by rw [HF.out]; rfl), hBw⟩
        cases v3
        · (try have t3 : ((cli : Int) == 0) = true := by simp [k1])
          have HF : Hid (allF (fun _ c => refCheckOk ln ld c) p.checks 0 = false) := Lib.hid (HAT.out.stop HL.out (by unfold refCheckOk; dsimp only; rw [e1, e2, R.out]; unfold refLimB refOthB; simp [e3, k1]))
          clear e1 e2 e3 HAT
          (try (have kk1 : cli = 0 := k1; clear kk1 k1))
          (try clear k3)
          go_wp2_with (go_at_call 76; (first | (with_reducible refine (refPlace_is cno ln (by omega) _ H1 _).mono ?_) | (with_reducible refine (refPlace_is cde ld (by omega) _ H2 _).mono ?_) | (with_reducible refine (refPlace_is cot ln (by omega) _ H3 _).mono ?_)); rintro e w2 ⟨rfl, rfl⟩)
          go_ret
          exact ⟨ret_bool (by rw [HF.out]; rfl), hBw⟩
        have t3 : ((cli : Int) == 0) = true := by simp [k1]
        have hat' := HAT.out.next HL.out (by unfold refCheckOk; dsimp only; rw [e1, e2, R.out]; unfold refLimB refOthB; simp [e3, k1])
        have HAT2 := Lib.hid hat'
        clear e1 e2 e3 HAT hat'
        (try (have kk1 : cli = 0 := k1; clear kk1 k1))
        (try clear k3)
        go_wp2_with (go_at_call 76; (first | (with_reducible refine (refPlace_is cno ln (by omega) _ H1 _).mono ?_) | (with_reducible refine (refPlace_is cde ld (by omega) _ H2 _).mono ?_) | (with_reducible refine (refPlace_is cot ln (by omega) _ H3 _).mono ?_)); rintro e w2 ⟨rfl, rfl⟩)
        go_roundw
        case rel => exact ⟨k + 1, by omega, by go_num, HAT2.out, hBw, hBx⟩
        case measure => simp [intOf]; omega
      · clear h3 h4
        by_cases k1 : cli = 0
        case neg =>
          have t3 : ((cli : Int) == 0) = false := by simpa using k1
          have HF : Hid (allF (fun _ c => refCheckOk ln ld c) p.checks 0 = false) := Lib.hid (HAT.out.stop HL.out (by unfold refCheckOk; dsimp only; rw [e1, e2, R.out]; unfold refLimB refOthB; simp [e3, k1]))
          clear e1 e2 e3 HAT
          (try (have kk1 : cli = 0 := k1; clear kk1 k1))
          (try clear k3)
          go_wp2_with (go_at_call 76; (first | (with_reducible refine (refPlace_is cno ln (by omega) _ H1 _).mono ?_) | (with_reducible refine (refPlace_is cde ld (by omega) _ H2 _).mono ?_) | (with_reducible refine (refPlace_is cot ln (by omega) _ H3 _).mono ?_)); rintro e w2 ⟨rfl, rfl⟩)
          go_ret
          exact ⟨ret_bool (by rw [HF.out]; rfl), hBw⟩
        cases v3
        · (try have t3 : ((cli : Int) == 0) = true := by simp [k1])
          have HF : Hid (allF (fun _ c => refCheckOk ln ld c) p.checks 0 = false) := Lib.hid (HAT.out.stop HL.out (by unfold refCheckOk; dsimp only; rw [e1, e2, R.out]; unfold refLimB refOthB; simp [e3, k1]))
          clear e1 e2 e3 HAT
          (try (have kk1 : cli = 0 := k1; clear kk1 k1))
          (try clear k3)
          go_wp2_with (go_at_call 76; (first | (with_reducible refine (refPlace_is cno ln (by omega) _ H1 _).mono ?_) | (with_reducible refine (refPlace_is cde ld (by omega) _ H2 _).mono ?_) | (with_reducible refine (refPlace_is cot ln (by omega) _ H3 _).mono ?_)); rintro e w2 ⟨rfl, rfl⟩)
          go_ret
          exact ⟨ret_bool (by rw [HF.out]; rfl), hBw⟩
        have t3 : ((cli : Int) == 0) = true := by simp [k1]
        have hat' := HAT.out.next HL.out (by unfold refCheckOk; dsimp only; rw [e1, e2, R.out]; unfold refLimB refOthB; simp [e3, k1])
        have HAT2 := Lib.hid hat'
        clear e1 e2 e3 HAT hat'
        (try (have kk1 : cli = 0 := k1; clear kk1 k1))
        (try clear k3)
        go_wp2_with (go_at_call 76; (first | (with_reducible refine (refPlace_is cno ln (by omega) _ H1 _).mono ?_) | (with_reducible refine (refPlace_is cde ld (by omega) _ H2 _).mono ?_) | (with_reducible refine (refPlace_is cot ln (by omega) _ H3 _).mono ?_)); rintro e w2 ⟨rfl, rfl⟩)
        go_roundw
        case rel => exact ⟨k + 1, by omega, by go_num, HAT2.out, hBw, hBx⟩
        case measure => simp [intOf]; omega
    · have HF : Hid (allF (fun _ c => refCheckOk ln ld c) p.checks 0 = true) := Lib.hid (hat.done (by rw [hl.out]; omega))
      have hge : ¬ (k : Int) < (lc : Int) := by omega
      go_wp2
      go_ret
      exact ⟨ret_bool (by rw [HF.out, Bool.true_and]; first | rfl | (simp; done) | (simp; omega)), hbw⟩
end Go.Proofs.Ytlfdpfkimggeoaa
namespace Go.Proofs.Ytlfdpfkimggeoaa
open Go.RowKit
set_option linter.unusedVariables false
set_option linter.unusedSimpArgs false

theorem quiet_addR {P : Program} {f : FuncId} {args : Array Value} {w : World} {a n : Nat} {v : Value}
    (h : Calls P f args (w.drewN (a + n)) fun e w' => e = .returned v ∧ ∃ m, w' = (w.drewN (a + n)).drewN m) :
    Calls P f args (w.drewN (a + n)) fun e w'' => e = .returned v ∧ ∃ m, w'' = w.drewN (a + m) :=
  h.mono fun _ _ ⟨he, m, hm⟩ => ⟨he, n + m, by rw [hm, World.drewN_drewN, Nat.add_assoc]⟩
theorem refPlace_quiet (n : Int) (many : Nat) (hm : many ≤ 9223372036854775807) (b : Bool) (H : Hid (placeB n many = b)) (w : World) :
    Calls Try.prog 76 #[.int .i64 n, .int .i64 (many : Int)] w fun e w' => e = .returned (.bool b) ∧ ∃ m, w' = w.drewN m :=
  (refPlace_is n many hm b H w).mono fun _ _ ⟨he, hw⟩ => ⟨he, 0, by rw [← hw]; rfl⟩
def aheadB (l : List Int) (k : Nat) (v : Int) : Bool := if k = 0 then true else match l[k - 1]? with
  | some u => decide (u < v)
  | none => true
def refOrigAt (m : Nat) (l : List Int) (k : Nat) (v : Int) : Bool := placeB v m && aheadB l k v
def refDestOk (ln : Nat) (d : PDest) : Bool := decide (0 < d.orig.length) && allF (refOrigAt ln d.orig) d.orig 0
set_option maxHeartbeats 4000000 in
set_option maxRecDepth 100000 in
theorem refDests_any (p : PPlan) (hs : PSmall p) {pr ca kk : Int} {An Al Ad Ac : Option Addr} {ln cn ll cl ld cd lc cc : Nat} {w : World} (h : DestsAt w w.heap.size Ad p.dests) (hl : Hid (p.dests.length = ld)) (hm : ld ≤ 4096) (hn : ln ≤ 4096) :
    Calls Try.prog 60 #[.agg #[.int .i64 pr, .int .i64 ca, .int .i64 kk, .slice An ln cn, .slice Al ll cl, .slice Ad ld cd, .slice Ac lc cc]] w fun e w' => e = .returned (.bool (allF (fun _ d => refDestOk ln d) p.dests 0 && decide (ld ≤ 4))) ∧ Below w.heap.size w w' := by
  have HBX := Lib.hid (fun c0 c1 c2 c3 c4 c5 c6 => Blk.new w 29 #[c0, c1, c2, c3, c4, c5, c6])
  have hbx := fun o => below_new w o
  have HDS := Lib.hid hs.dests
  clear hs
  go_enter Try.func60, Try.ntmps60
  go_wp2
  go_loopw [3] (fun i wr => ∃ k : Nat, k ≤ ld ∧ i = .int .i64 (k : Nat) ∧ AllAt (fun _ d => refDestOk ln d) p.dests k ∧ Below w.heap.size w wr ∧ Blk wr w.heap.size 29 #[.int .i64 pr, .int .i64 ca, .int .i64 kk, .slice An ln cn, .slice Al ll cl, .slice Ad ld cd, .slice Ac lc cc]) (fun i _ => ld - (intOf i).toNat)
  case atStart => exact ⟨0, Nat.zero_le _, rfl, AllAt.start _ _, hbx _, HBX.out _ _ _ _ _ _ _⟩
  case round =>
    clear hbx HBX
    obtain ⟨k, hk, rfl, hat, hbw, hbox⟩ := hrel
    obtain ⟨b0, b1, b2, b3, b4, b5, b6⟩ := box7 hbox
    by_cases hlt : k < ld
    · obtain ⟨⟨nm, og⟩, hn'⟩ : ∃ n, p.dests[k]? = some n := ⟨_, List.getElem?_eq_getElem (by rw [hl.out]; exact hlt)⟩
      have hup := h.up hbw
      obtain ⟨g, Ao, co, hAg, hg, c0, c1, hOr⟩ := hup.dest hn'
      obtain ⟨z1, z2⟩ := HDS.out _ (List.mem_of_getElem? hn')
      dsimp only at c0 c1 hOr z1 z2
      obtain ⟨lo, hlo⟩ : ∃ n, og.length = n := ⟨_, rfl⟩
      rw [hlo] at c1 z2
      have HLO := Lib.hid hlo
      have HAT := Lib.hid hat
      have HL := Lib.hid hn'
      have HO := Lib.hid hOr
      have n0 : (0 : Int) ≤ (k : Int) := by omega
      have n1 : (k : Int) < (ld : Int) := by omega
      subst hAg
      clear hlo hup hat hn' h hOr
      by_cases hz : lo = 0
      · have HF : Hid (allF (fun _ d => refDestOk ln d) p.dests 0 = false) := Lib.hid (HAT.out.stop HL.out (by unfold refDestOk; dsimp only; rw [HLO.out, hz]; rfl))
        subst hz
        go_wp2
        go_ret
        exact ⟨ret_bool (by rw [HF.out]; rfl), hbw⟩
      · have t0 : ((lo : Int) == 0) = false := beq_eq_false_iff_ne.2 (by omega)
        have HZ := Lib.hid (show 0 < lo by omega)
        clear hz
        go_wp2
        go_loopw [5] (fun s wr2 => ∃ j : Nat, j ≤ lo ∧ s = .int .i64 (j : Nat) ∧ AllAt (refOrigAt ln og) og j ∧ Blk wr2 w.heap.size 29 #[.int .i64 pr, .int .i64 ca, .int .i64 kk, .slice An ln cn, .slice Al ll cl, .slice (some ⟨g, 0, none⟩) ld cd, .slice Ac lc cc] ∧ Below wr.heap.size wr wr2) (fun s _ => lo - (intOf s).toNat)
        case atStart => exact ⟨0, Nat.zero_le _, rfl, AllAt.start _ _, hbox, Below.refl _ _⟩
        case round =>
          rename_i wr2 _
          clear b0 b1 b2 b3 b4 b5 b6 c0 c1
          obtain ⟨j, hj, rfl, hatj, hBx, hBw⟩ := hrel
          obtain ⟨d0, d1, d2, d3, d4, d5, d6⟩ := box7 hBx
          by_cases hlt2 : j < lo
          · obtain ⟨v, hv⟩ : ∃ n, og[j]? = some n := ⟨_, List.getElem?_eq_getElem (by rw [HLO.out]; omega)⟩
            obtain ⟨gO, hAO, hgO, cv⟩ := (HO.out.below hBw).num hv
            have HV := Lib.hid hv
            have HATJ := Lib.hid hatj
            have j0 : (0 : Int) ≤ (j : Int) := by omega
            have j1 : (j : Int) < (lo : Int) := by omega
            clear hv hatj
            obtain ⟨r1, e1⟩ : ∃ b, placeB v ln = b := ⟨_, rfl⟩
            have H1 := Lib.hid e1
            cases r1
            · have HF : Hid (allF (fun _ d => refDestOk ln d) p.dests 0 = false) := Lib.hid (HAT.out.stop HL.out (by
                unfold refDestOk
                dsimp only
                rw [HATJ.out.stop HV.out (by unfold refOrigAt; rw [e1]; rfl), Bool.and_false]))
              clear e1
              subst hAO
              go_upto_region 25 with (fail)
              go_quiet ((go_at_call 76; (first | exact Calls.quiet_of (refPlace_quiet v ln (by omega) _ H1 _) | exact quiet_addR (refPlace_quiet v ln (by omega) _ H1 _))))
              go_wp2
              go_ret
              exact ⟨ret_bool (by rw [HF.out]; rfl), below_draws (hbw.trans (hBw.mono hbw.size)) _⟩
            · have hcase : j = 0 ∨ (∃ u, og[j - 1]? = some u ∧ 0 < j) := by
                by_cases h0 : j = 0
                · exact .inl h0
                · exact .inr ⟨_, List.getElem?_eq_getElem (show j - 1 < og.length by rw [HLO.out]; omega), by omega⟩
              rcases hcase with rfl | ⟨u, hu, h0⟩
              · have hat' := HATJ.out.next HV.out (by unfold refOrigAt; rw [e1]; rfl)
                have HAT2 := Lib.hid hat'
                clear hat' e1
                subst hAO
                go_upto_region 25 with (fail)
                go_quiet ((go_at_call 76; (first | exact Calls.quiet_of (refPlace_quiet v ln (by omega) _ H1 _) | exact quiet_addR (refPlace_quiet v ln (by omega) _ H1 _))))
                go_wp2
                go_roundw
                case rel => exact ⟨1, by omega, by go_num, HAT2.out, hBx.up (below_draws (Below.refl _ _) _), below_draws hBw _⟩
                case measure => simp [intOf]; omega
              · obtain ⟨gO', hAO', hgO', cu⟩ := (HO.out.below hBw).num hu
                rw [hAO] at hAO'
                injection hAO' with hAO'
                injection hAO' with hAO' _ _
                subst hAO'
                have HU := Lib.hid hu
                clear hu
                subst hAO
                have g1 : IntKind.i64.wrap ((j : Int) - 1) = (j : Int) - 1 := IntWalk.i64_in _ (by omega)
                have g2 : (0 : Int) ≤ (j : Int) - 1 := by omega
                have g3 : (j : Int) - 1 < (lo : Int) := by omega
                have g4 : ((j : Int) - 1).toNat = j - 1 := by omega
                have g6 : decide (0 < (j : Int)) = true := by simp; omega
                have hah : aheadB og j v = decide (u < v) := by unfold aheadB; rw [if_neg (by omega), HU.out]
                by_cases huv : u < v
                · have hat' := HATJ.out.next HV.out (by unfold refOrigAt; rw [e1, hah, decide_eq_true huv]; rfl)
                  have HAT2 := Lib.hid hat'
                  have g5 : decide ((v : Int) ≤ (u : Int)) = false := by simp; omega
                  clear hat' e1 hah
                  go_upto_region 25 with (fail)
                  go_quiet ((go_at_call 76; (first | exact Calls.quiet_of (refPlace_quiet v ln (by omega) _ H1 _) | exact quiet_addR (refPlace_quiet v ln (by omega) _ H1 _))))
                  go_wp2
                  go_roundw
                  case rel => exact ⟨j + 1, by omega, by go_num, HAT2.out, hBx.up (below_draws (Below.refl _ _) _), below_draws hBw _⟩
                  case measure => simp [intOf]; omega
                · have HF : Hid (allF (fun _ d => refDestOk ln d) p.dests 0 = false) := Lib.hid (HAT.out.stop HL.out (by
                    unfold refDestOk
                    dsimp only
                    rw [HATJ.out.stop HV.out (by unfold refOrigAt; rw [e1, hah, decide_eq_false huv]; rfl), Bool.and_false]))
                  have g5 : decide ((v : Int) ≤ (u : Int)) = true := by simp; omega
                  have g7 : v ≤ u := by omega
                  clear e1 hah
                  go_upto_region 25 with (fail)
                  go_quiet ((go_at_call 76; (first | exact Calls.quiet_of (refPlace_quiet v ln (by omega) _ H1 _) | exact quiet_addR (refPlace_quiet v ln (by omega) _ H1 _))))
                  go_wp2
                  go_ret
                  exact ⟨ret_bool (by rw [HF.out]; rfl), below_draws (hbw.trans (hBw.mono hbw.size)) _⟩
          · have hjk : j = lo := by omega
            have hat' := HAT.out.next HL.out (by
              unfold refDestOk
              dsimp only
              rw [HLO.out, decide_eq_true HZ.out, hatj.done (by rw [HLO.out]; omega)]
              rfl)
            have HAT2 := Lib.hid hat'
            have hge : ¬ (j : Int) < (lo : Int) := by omega
            clear hat' hatj
            go_wp2
            go_roundw
            case rel => exact ⟨k + 1, by omega, by go_num, HAT2.out, hbw.trans (hBw.mono hbw.size), hBx⟩
            case measure => simp [intOf]; omega
    · have HF : Hid (allF (fun _ d => refDestOk ln d) p.dests 0 = true) := Lib.hid (hat.done (by rw [hl.out]; omega))
      have hge : ¬ (k : Int) < (ld : Int) := by omega
      go_wp2
      go_ret
      exact ⟨ret_bool (by rw [HF.out, Bool.true_and]; first | rfl | (simp; done) | (simp; omega)), hbw⟩
end Go.Proofs.Ytlfdpfkimggeoaa
namespace Go.Proofs.Ytlfdpfkimggeoaa
open Go.RowKit
set_option linter.unusedVariables false
set_option linter.unusedSimpArgs false

def refLinkOk (ln : Nat) (ls : List PLink) (i : Nat) (l : PLink) : Bool := placeB l.a ln && (placeB l.b ln && (decide (l.a < l.b) && (decide (1 ≤ l.cost) && (decide (l.cost ≤ 15) && (ls.take i).all fun m => !(decide (m.a = l.a) && decide (m.b = l.b))))))
set_option maxHeartbeats 4000000 in
set_option maxRecDepth 100000 in
theorem refLinks_any (p : PPlan) {pr ca kk : Int} {An Al Ad Ac : Option Addr} {ln cn ll cl ld cd lc cc : Nat} {w : World} (h : RowAt w w.heap.size Al (p.links.flatMap linkC)) (hl : Hid (p.links.length = ll)) (hm : ll ≤ 4096) (hn : ln ≤ 4096) :
    Calls Try.prog 59 #[.agg #[.int .i64 pr, .int .i64 ca, .int .i64 kk, .slice An ln cn, .slice Al ll cl, .slice Ad ld cd, .slice Ac lc cc]] w fun e w' => e = .returned (.bool (allF (refLinkOk ln p.links) p.links 0 && decide (ll ≤ 16))) ∧ Below w.heap.size w w' := by
  have HBX := Lib.hid (fun c0 c1 c2 c3 c4 c5 c6 => Blk.new w 29 #[c0, c1, c2, c3, c4, c5, c6])
  have hbx := fun o => below_new w o
  go_enter Try.func59, Try.ntmps59
  go_wp2
  go_loopw [3] (fun i wr => ∃ k : Nat, k ≤ ll ∧ i = .int .i64 (k : Nat) ∧ AllAt (refLinkOk ln p.links) p.links k ∧ Below w.heap.size w wr ∧ Blk wr w.heap.size 29 #[.int .i64 pr, .int .i64 ca, .int .i64 kk, .slice An ln cn, .slice Al ll cl, .slice Ad ld cd, .slice Ac lc cc]) (fun i _ => ll - (intOf i).toNat)
  case atStart => exact ⟨0, Nat.zero_le _, rfl, AllAt.start _ _, hbx _, HBX.out _ _ _ _ _ _ _⟩
  case round =>
    clear hbx HBX
    obtain ⟨k, hk, rfl, hat, hbw, hbox⟩ := hrel
    by_cases hlt : k < ll
    · obtain ⟨⟨la, lb, lco⟩, hn'⟩ : ∃ n, p.links[k]? = some n := ⟨_, List.getElem?_eq_getElem (by rw [hl.out]; exact hlt)⟩
      obtain ⟨d0, d1, d2, d3, d4, d5, d6⟩ := box7a hbox
      obtain ⟨b0, b1, b2, b3, b4, b5, b6⟩ := box7 hbox
      have hup := h.up hbw
      obtain ⟨g, hAg, hg, c0, c1, c2⟩ := hup.link hn'
      dsimp only at c0 c1 c2
      have hB4 := Blk.new wr 53 #[.int .i64 la, .int .i64 lb, .int .i64 lco]
      have q0 := hB4.cell 0
      have q1 := hB4.cell 1
      have q2 := hB4.cell 2
      have n0 : (0 : Int) ≤ (k : Int) := by omega
      have n1 : (k : Int) < (ll : Int) := by omega
      have HH := Lib.hid h
      have HAT := Lib.hid hat
      have HL := Lib.hid hn'
      subst hAg
      clear hup h hat hn'
      obtain ⟨v1, e1⟩ : ∃ b, placeB la ln = b := ⟨_, rfl⟩
      have H1 := Lib.hid e1
      obtain ⟨v2, e2⟩ : ∃ b, placeB lb ln = b := ⟨_, rfl⟩
      have H2 := Lib.hid e2
      cases v1
      · have HF : Hid (allF (refLinkOk ln p.links) p.links 0 = false) := Lib.hid (HAT.out.stop HL.out (by unfold refLinkOk; dsimp only; rw [e1]; rfl))
        clear e1 e2 HAT
        go_wp2_with (go_at_call 76; (first | (with_reducible refine (refPlace_is la ln (by omega) _ H1 _).mono ?_) | (with_reducible refine (refPlace_is lb ln (by omega) _ H2 _).mono ?_)); rintro e w2 ⟨rfl, rfl⟩)
        go_ret
        exact ⟨ret_bool (by rw [HF.out]; rfl), hbw.alloc hbw.size _⟩
      cases v2
      · have HF : Hid (allF (refLinkOk ln p.links) p.links 0 = false) := Lib.hid (HAT.out.stop HL.out (by unfold refLinkOk; dsimp only; rw [e1, e2]; rfl))
        clear e1 e2 HAT
        go_wp2_with (go_at_call 76; (first | (with_reducible refine (refPlace_is la ln (by omega) _ H1 _).mono ?_) | (with_reducible refine (refPlace_is lb ln (by omega) _ H2 _).mono ?_)); rintro e w2 ⟨rfl, rfl⟩)
        go_ret
        exact ⟨ret_bool (by rw [HF.out]; rfl), hbw.alloc hbw.size _⟩
      by_cases h3 : la < lb
      case neg =>
        have HF : Hid (allF (refLinkOk ln p.links) p.links 0 = false) := Lib.hid (HAT.out.stop HL.out (by unfold refLinkOk; dsimp only; rw [e1, e2, decide_eq_false h3]; rfl))
        clear e1 e2 HAT
        go_wp2_with (go_at_call 76; (first | (with_reducible refine (refPlace_is la ln (by omega) _ H1 _).mono ?_) | (with_reducible refine (refPlace_is lb ln (by omega) _ H2 _).mono ?_)); rintro e w2 ⟨rfl, rfl⟩)
        go_ret
        exact ⟨ret_bool (by rw [HF.out]; rfl), hbw.alloc hbw.size _⟩
      by_cases h4 : 1 ≤ lco
      case neg =>
        have HF : Hid (allF (refLinkOk ln p.links) p.links 0 = false) := Lib.hid (HAT.out.stop HL.out (by unfold refLinkOk; dsimp only; rw [e1, e2, decide_eq_true h3, decide_eq_false h4]; rfl))
        clear e1 e2 HAT
        go_wp2_with (go_at_call 76; (first | (with_reducible refine (refPlace_is la ln (by omega) _ H1 _).mono ?_) | (with_reducible refine (refPlace_is lb ln (by omega) _ H2 _).mono ?_)); rintro e w2 ⟨rfl, rfl⟩)
        go_ret
        exact ⟨ret_bool (by rw [HF.out]; rfl), hbw.alloc hbw.size _⟩
      by_cases h5 : lco ≤ 15
      case neg =>
        have HF : Hid (allF (refLinkOk ln p.links) p.links 0 = false) := Lib.hid (HAT.out.stop HL.out (by unfold refLinkOk; dsimp only; rw [e1, e2, decide_eq_true h3, decide_eq_true h4, decide_eq_false h5]; rfl))
        clear e1 e2 HAT
        go_wp2_with (go_at_call 76; (first | (with_reducible refine (refPlace_is la ln (by omega) _ H1 _).mono ?_) | (with_reducible refine (refPlace_is lb ln (by omega) _ H2 _).mono ?_)); rintro e w2 ⟨rfl, rfl⟩)
        go_ret
        exact ⟨ret_bool (by rw [HF.out]; rfl), hbw.alloc hbw.size _⟩
      go_wp2_with (go_at_call 76; (first | (with_reducible refine (refPlace_is la ln (by omega) _ H1 _).mono ?_) | (with_reducible refine (refPlace_is lb ln (by omega) _ H2 _).mono ?_)); rintro e w2 ⟨rfl, rfl⟩)
      have hBw := hbw.alloc hbw.size (.cells #[.int .i64 la, .int .i64 lb, .int .i64 lco] 53)
      have hBx := hbox.alloc (.cells #[.int .i64 la, .int .i64 lb, .int .i64 lco] 53)
      clear c0 c1 c2 d0 d1 d2 d3 d4 d5 d6 b0 b1 b2 b3 b4 b5 b6 q0 q1 q2
      go_loopw [5] (fun s wr2 => ∃ j : Nat, j ≤ k ∧ s = .int .i64 (j : Nat) ∧ (p.links.take j).all (fun m => !(decide (m.a = la) && decide (m.b = lb))) = true ∧ Blk wr2 wr.heap.size 53 #[.int .i64 la, .int .i64 lb, .int .i64 lco] ∧ Blk wr2 w.heap.size 29 #[.int .i64 pr, .int .i64 ca, .int .i64 kk, .slice An ln cn, .slice (some ⟨g, 0, none⟩) ll cl, .slice Ad ld cd, .slice Ac lc cc] ∧ Below w.heap.size w wr2) (fun s _ => k - (intOf s).toNat)
      case atStart => exact ⟨0, Nat.zero_le _, rfl, rfl, hB4, hBx, hBw⟩
      case round =>
        clear hB4 hBx hBw
        obtain ⟨j, hj, rfl, hall, hB4, hBx, hBw⟩ := hrel
        obtain ⟨d0, d1, d2, d3, d4, d5, d6⟩ := box7 hBx
        have q0 := hB4.cell 0
        have q1 := hB4.cell 1
        by_cases hlt2 : j < k
        · obtain ⟨⟨ma, mb, mco⟩, hm'⟩ : ∃ n, p.links[j]? = some n := ⟨_, List.getElem?_eq_getElem (by rw [hl.out]; omega)⟩
          obtain ⟨g', hAg, hg', c0, c1, c2⟩ := (HH.out.up hBw).link hm'
          dsimp only at c0 c1 c2
          injection hAg with hAg
          injection hAg with hAg _ _
          subst hAg
          have HM := Lib.hid hm'
          have HALL := Lib.hid hall
          have j0 : (0 : Int) ≤ (j : Int) := by omega
          have j1 : (j : Int) < (ll : Int) := by omega
          have j2 : (j : Int) < (k : Int) := by omega
          clear hm' hall
          by_cases ea : ma = la
          · by_cases eb : mb = lb
            · have HF : Hid (allF (refLinkOk ln p.links) p.links 0 = false) := Lib.hid (HAT.out.stop HL.out (by
                unfold refLinkOk
                dsimp only
                rw [e1, e2, decide_eq_true h3, decide_eq_true h4, decide_eq_true h5, Bool.true_and, Bool.true_and, Bool.true_and, Bool.true_and, Bool.true_and, List.all_eq_false]
                exact ⟨⟨ma, mb, mco⟩, List.mem_of_getElem? (i := j) (by rw [List.getElem?_take_of_lt hlt2]; exact HM.out), by simp [ea, eb]⟩))
              have t1 : (ma == la) = true := by simp [ea]
              have t2 : (mb == lb) = true := by simp [eb]
              clear ea eb
              go_upto_region 20 with (fail)
              go_quiet (fail)
              go_wp2
              go_ret
              exact ⟨ret_bool (by rw [HF.out]; rfl), below_draws hBw _⟩
            · have HN : Hid ((p.links.take (j + 1)).all (fun m => !(decide (m.a = la) && decide (m.b = lb))) = true) := Lib.hid (by
                rw [List.take_add_one, HM.out, List.all_append, HALL.out]
                simp [eb])
              have t1 : (ma == la) = true := by simp [ea]
              have t2 : (mb == lb) = false := by simp [eb]
              clear ea eb
              go_upto_region 20 with (fail)
              go_quiet (fail)
              go_wp2
              go_roundw
              case rel => exact ⟨j + 1, by omega, by go_num, HN.out, hB4.up (below_draws (Below.refl _ _) _), hBx.up (below_draws (Below.refl _ _) _), below_draws hBw _⟩
              case measure => simp [intOf]; omega
          · have HN : Hid ((p.links.take (j + 1)).all (fun m => !(decide (m.a = la) && decide (m.b = lb))) = true) := Lib.hid (by
              rw [List.take_add_one, HM.out, List.all_append, HALL.out]
              simp [ea])
            have t1 : (ma == la) = false := by simp [ea]
            clear ea
            go_upto_region 20 with (fail)
            go_quiet (fail)
            go_wp2
            go_roundw
            case rel => exact ⟨j + 1, by omega, by go_num, HN.out, hB4.up (below_draws (Below.refl _ _) _), hBx.up (below_draws (Below.refl _ _) _), below_draws hBw _⟩
            case measure => simp [intOf]; omega
        · have hjk : j = k := by omega
          subst hjk
          have hat' := HAT.out.next HL.out (by
            unfold refLinkOk
            dsimp only
            rw [e1, e2, decide_eq_true h3, decide_eq_true h4, decide_eq_true h5, hall]
            rfl)
          have HAT2 := Lib.hid hat'
          have hge : ¬ (j : Int) < (j : Int) := by omega
          clear hall hat'
          go_wp2
          go_roundw
          case rel => exact ⟨j + 1, by omega, by go_num, HAT2.out, hBw, hBx⟩
          case measure => simp [intOf]; omega
    · have HF : Hid (allF (refLinkOk ln p.links) p.links 0 = true) := Lib.hid (hat.done (by rw [hl.out]; omega))
      obtain ⟨b0, b1, b2, b3, b4, b5, b6⟩ := box7 hbox
      have hge : ¬ (k : Int) < (ll : Int) := by omega
      go_wp2
      go_ret
      exact ⟨ret_bool (by rw [HF.out, Bool.true_and]; first | rfl | (simp; done) | (simp; omega)), hbw⟩
end Go.Proofs.Ytlfdpfkimggeoaa
namespace Go.Proofs.Ytlfdpfkimggeoaa
open Go.RowKit
set_option linter.unusedVariables false

theorem ixF_hit {α : Type} (q : α → Bool) : ∀ (l : List α) (i k : Nat) (x : α), l[k]? = some x → q x = true → (ixF q l i = ((i + k : Nat) : Int) ↔ ∀ j y, j < k → l[j]? = some y → q y = false)
  | [], i, k, x, h, _ => by simp at h
  | a :: r, i, 0, x, h, hq => by
    simp at h
    subst h
    rw [ixF, if_pos hq]
    exact ⟨fun _ j y hj => by omega, fun _ => rfl⟩
  | a :: r, i, k + 1, x, h, hq => by
    have h' : r[k]? = some x := by simpa using h
    rw [ixF]
    cases ha : q a with
    | true =>
      simp only [if_true]
      constructor
      · intro e; omega
      · intro hall
        have := hall 0 a (by omega) rfl
        rw [ha] at this; cases this
    | false =>
      simp only [Bool.false_eq_true, if_false]
      have ih := ixF_hit q r (i + 1) k x h' hq
      rw [show i + 1 + k = i + (k + 1) by omega] at ih
      rw [ih]
      constructor
      · intro hall j y hj hy
        cases j with
        | zero => simp at hy; subst hy; exact ha
        | succ j => exact hall j y (by omega) (by simpa using hy)
      · intro hall j y hj hy
        exact hall (j + 1) y (by omega) (by simpa using hy)
theorem ixF_neg {α : Type} (q : α → Bool) : ∀ (l : List α) (i : Nat), ixF q l i < 0 ↔ ∀ (j : Nat) (y : α), l[j]? = some y → q y = false
  | [], i => by rw [ixF]; simp
  | a :: r, i => by
    rw [ixF]
    cases ha : q a with
    | true =>
      simp only [if_true]
      constructor
      · intro e; omega
      · intro hall
        have := hall 0 a rfl
        rw [ha] at this; cases this
    | false =>
      simp only [Bool.false_eq_true, if_false]
      rw [ixF_neg q r (i + 1)]
      constructor
      · intro hall j y hy
        cases j with
        | zero => simp at hy; subst hy; exact ha
        | succ j => exact hall j y (by simpa using hy)
      · intro hall j y hy
        exact hall (j + 1) y (by simpa using hy)
theorem take_all {α : Type} (q : α → Bool) (l : List α) (k : Nat) : (l.take k).all q = true ↔ ∀ j y, j < k → l[j]? = some y → q y = true := by
  rw [List.all_eq_true]
  constructor
  · intro h j y hj hy
    exact h y (List.mem_of_getElem? (i := j) (by rw [List.getElem?_take_of_lt hj]; exact hy))
  · intro h y hy
    obtain ⟨j, hj⟩ := List.mem_iff_getElem?.1 hy
    by_cases hjk : j < k
    · rw [List.getElem?_take_of_lt hjk] at hj
      exact h j y hjk hj
    · rw [List.getElem?_eq_none (by rw [List.length_take]; omega)] at hj
      cases hj
theorem linkOk_ref {ln : Nat} {ls : List PLink} {k : Nat} {l : PLink} (h : ls[k]? = some l) : linkOk ln ls k l = true ↔ refLinkOk ln ls k l = true := by
  have hx := ixF_hit (linkIs l.a l.b) ls 0 k l h (by unfold linkIs; simp)
  rw [Nat.zero_add] at hx
  unfold linkOk refLinkOk ixB
  rw [Bool.and_eq_true, Bool.and_eq_true, Bool.and_eq_true, decide_eq_true_eq, hx, Bool.and_eq_true, Bool.and_eq_true, Bool.and_eq_true, Bool.and_eq_true, Bool.and_eq_true, take_all]
  have hq : (∀ j y, j < k → ls[j]? = some y → linkIs l.a l.b y = false) ↔ ∀ j y, j < k → ls[j]? = some y → (!(decide (y.a = l.a) && decide (y.b = l.b))) = true := by
    unfold linkIs
    constructor
    · intro h j y h1 h2; rw [h j y h1 h2]; rfl
    · intro h j y h1 h2; have := h j y h1 h2; rwa [Bool.not_eq_true'] at this
  rw [hq]
  unfold placeB withinB
  simp only [Bool.and_eq_true, decide_eq_true_eq]
  constructor
  · rintro ⟨h1, h2, h3, h4⟩; exact ⟨by omega, by omega, by omega, by omega, by omega, h4⟩
  · rintro ⟨h1, h2, h3, h4, h5, h6⟩; exact ⟨by omega, by omega, by omega, h6⟩
def leastAt (l : List Int) (k : Nat) : Int := if k = 0 then 0 else match l[k - 1]? with
  | some u => u + 1
  | none => 0
theorem orig_ref (m : Nat) (l : List Int) : ∀ (r : List Int) (k : Nat), l.drop k = r → 0 ≤ leastAt l k → k ≤ l.length → allF (refOrigAt m l) r k = origF m r (leastAt l k)
  | [], k, _, _, _ => by rw [allF, origF]
  | x :: r, k, hd, h0, hk => by
    have hx : l[k]? = some x := by
      have : (l.drop k)[0]? = some x := by rw [hd]; rfl
      simpa using this
    have hd' : l.drop (k + 1) = r := by
      rw [drop_cons hx] at hd
      injection hd
    have hlt := (List.getElem?_eq_some_iff.1 hx).1
    rw [allF, origF]
    have he : refOrigAt m l k x = withinB x (leastAt l k) ((m : Int) - 1) := by
      unfold refOrigAt withinB placeB aheadB
      rw [Bool.eq_iff_iff]
      unfold leastAt at h0 ⊢
      by_cases hk0 : k = 0
      · rw [if_pos hk0, if_pos hk0]; simp; omega
      · rw [if_neg hk0] at h0 ⊢
        rw [if_neg hk0]
        cases hu : l[k - 1]? with
        | none => rw [hu] at h0; simp; omega
        | some u => rw [hu] at h0; simp at h0 ⊢; omega
    rw [he]
    cases hw : withinB x (leastAt l k) ((m : Int) - 1) with
    | false => rfl
    | true =>
      have hl : leastAt l (k + 1) = x + 1 := by
        unfold leastAt
        rw [if_neg (by omega), Nat.add_sub_cancel, hx]
      have h1 : leastAt l k ≤ x := by unfold withinB at hw; simp at hw; exact hw.1
      rw [orig_ref m l r (k + 1) hd' (by rw [hl]; omega) (by omega), hl]
theorem dest_ref (ln : Nat) (d : PDest) : refDestOk ln d = origB ln d.orig := by
  unfold refDestOk origB
  rw [orig_ref ln d.orig d.orig 0 rfl (by unfold leastAt; simp) (Nat.zero_le _), Bool.and_comm]
  rfl
theorem check_ref (ln ld : Nat) (c : PCheck) : refCheckOk ln ld c = checkB ln ld c := by
  obtain ⟨k, n, d, l, o⟩ := c
  unfold refCheckOk checkB refLimB refOthB limB othB placeB withinB
  dsimp only
  rw [Bool.eq_iff_iff]
  by_cases h1 : k = 1
  · subst h1; simp; omega
  by_cases h2 : k = 2
  · subst h2; simp; omega
  by_cases h3 : k = 3
  · subst h3; simp; omega
  by_cases h4 : k = 4
  · subst h4; simp; omega
  simp [h1, h2, h3, h4]; omega
def asnB (n : PNode) : Bool := withinB n.num 1 65535
def namesL (p : PPlan) : List ByteArray := p.nodes.map (·.name) ++ p.dests.map (·.name)
theorem names_ref (p : PPlan) : allF (nameAt (namesL p)) (namesL p) 0 = true ↔
    (∀ (k : Nat) (n : PNode), p.nodes[k]? = some n → nameB n.name.data.toList = true ∧ ixB (nameIs n.name) p.nodes = k) ∧
    (∀ (k : Nat) (d : PDest), p.dests[k]? = some d → nameB d.name.data.toList = true ∧ ixB (nameIs d.name) p.nodes < 0 ∧ ixB (destIs d.name) p.dests = k) := by
  have hat : ∀ k x, nameAt (namesL p) k x = true ↔ nameB x.data.toList = true ∧ ∀ (j : Nat) (y : ByteArray), j < k → (namesL p)[j]? = some y → x ≠ y := fun k x => by
    unfold nameAt
    rw [Bool.and_eq_true, take_all]
    simp only [decide_eq_true_eq]
  have hL : ∀ (j : Nat) (n : PNode), p.nodes[j]? = some n → (namesL p)[j]? = some n.name := fun j n h => by
    unfold namesL
    rw [List.getElem?_append_left (by rw [List.length_map]; exact (List.getElem?_eq_some_iff.1 h).1), List.getElem?_map, h]; rfl
  have hR : ∀ (j : Nat) (d : PDest), p.dests[j]? = some d → (namesL p)[p.nodes.length + j]? = some d.name := fun j d h => by
    unfold namesL
    rw [List.getElem?_append_right (by rw [List.length_map]; omega), List.length_map, Nat.add_sub_cancel_left, List.getElem?_map, h]; rfl
  have hC : ∀ (j : Nat) (y : ByteArray), (namesL p)[j]? = some y → (∃ n, p.nodes[j]? = some n ∧ n.name = y) ∨ (∃ i d, j = p.nodes.length + i ∧ p.dests[i]? = some d ∧ d.name = y) := fun j y h => by
    unfold namesL at h
    by_cases hj : j < p.nodes.length
    · rw [List.getElem?_append_left (by rw [List.length_map]; exact hj), List.getElem?_map] at h
      cases hn : p.nodes[j]? with
      | none => rw [hn] at h; cases h
      | some n => rw [hn] at h; injection h with h; exact .inl ⟨n, rfl, h⟩
    · rw [List.getElem?_append_right (by rw [List.length_map]; omega), List.length_map, List.getElem?_map] at h
      cases hn : p.dests[j - p.nodes.length]? with
      | none => rw [hn] at h; cases h
      | some d => rw [hn] at h; injection h with h; exact .inr ⟨_, d, by omega, hn, h⟩
  rw [allF_iff]
  simp only [Nat.zero_add]
  constructor
  · intro h
    refine ⟨fun k n hn => ?_, fun k d hd => ?_⟩
    · obtain ⟨h1, h2⟩ := (hat _ _).1 (h k n.name (hL k n hn))
      refine ⟨h1, ?_⟩
      have := (ixF_hit (nameIs n.name) p.nodes 0 k n hn (by unfold nameIs; simp)).2 fun j y hj hy => by
        unfold nameIs
        exact decide_eq_false fun e => h2 j y.name hj (hL j y hy) e.symm
      rwa [Nat.zero_add] at this
    · obtain ⟨h1, h2⟩ := (hat _ _).1 (h _ d.name (hR k d hd))
      refine ⟨h1, ?_, ?_⟩
      · refine (ixF_neg _ _ 0).2 fun j y hy => ?_
        unfold nameIs
        exact decide_eq_false fun e => h2 j y.name (by have := (List.getElem?_eq_some_iff.1 hy).1; omega) (hL j y hy) e.symm
      · have := (ixF_hit (destIs d.name) p.dests 0 k d hd (by unfold destIs; simp)).2 fun j y hj hy => by
          unfold destIs
          exact decide_eq_false fun e => h2 _ y.name (by omega) (hR j y hy) e.symm
        rwa [Nat.zero_add] at this
  · rintro ⟨hN, hD⟩ k x hx
    rw [hat]
    rcases hC k x hx with ⟨n, hn, rfl⟩ | ⟨i, d, rfl, hd, rfl⟩
    · obtain ⟨h1, h2⟩ := hN k n hn
      refine ⟨h1, fun j y hj hy e => ?_⟩
      have h3 := (ixF_hit (nameIs n.name) p.nodes 0 k n hn (by unfold nameIs; simp)).1 (by rw [Nat.zero_add]; exact h2)
      rcases hC j y hy with ⟨m, hm, rfl⟩ | ⟨i, d, rfl, _, _⟩
      · have := h3 j m hj hm
        unfold nameIs at this
        simp at this
        exact this e.symm
      · have := (List.getElem?_eq_some_iff.1 hn).1; omega
    · obtain ⟨h1, h2, h3⟩ := hD i d hd
      refine ⟨h1, fun j y hj hy e => ?_⟩
      have h4 := (ixF_hit (destIs d.name) p.dests 0 i d hd (by unfold destIs; simp)).1 (by rw [Nat.zero_add]; exact h3)
      rcases hC j y hy with ⟨m, hm, rfl⟩ | ⟨i', d', rfl, hd', rfl⟩
      · have := (ixF_neg _ _ 0).1 h2 j m hm
        unfold nameIs at this
        simp at this
        exact this e.symm
      · have := h4 i' d' (by omega) hd'
        unfold destIs at this
        simp at this
        exact this e.symm
/-- The document's own. -/
def refRightB (p : PPlan) : Bool :=
  protoB p.proto p.cap && (decide (0 ≤ p.k ∧ p.k ≤ 4 ∧ p.k ≤ p.links.length ∧ 1 ≤ p.nodes.length ∧ p.nodes.length ≤ 12 ∧ p.links.length ≤ 16 ∧ p.dests.length ≤ 4 ∧ p.checks.length ≤ 16) &&
    (allF (fun _ n => asnB n) p.nodes 0 && (allF (nameAt (namesL p)) (namesL p) 0 && ((allF (refLinkOk p.nodes.length p.links) p.links 0 && decide (p.links.length ≤ 16)) && ((allF (fun _ d => refDestOk p.nodes.length d) p.dests 0 && decide (p.dests.length ≤ 4)) && (allF (fun _ c => refCheckOk p.nodes.length p.dests.length c) p.checks 0 && decide (p.checks.length ≤ 16)))))))
theorem refRight_eq (p : PPlan) : refRightB p = rightB p := by
  rw [Bool.eq_iff_iff]
  unfold refRightB rightB nodesB linksB destsB checksB
  simp only [Bool.and_eq_true, names_ref]
  have hl : allF (refLinkOk p.nodes.length p.links) p.links 0 = true ↔ allF (linkOk p.nodes.length p.links) p.links 0 = true := by
    rw [allF_iff, allF_iff]
    simp only [Nat.zero_add]
    exact ⟨fun h k x hx => (linkOk_ref hx).2 (h k x hx), fun h k x hx => (linkOk_ref hx).1 (h k x hx)⟩
  have hc : allF (fun _ c => refCheckOk p.nodes.length p.dests.length c) p.checks 0 = allF (fun _ c => checkB p.nodes.length p.dests.length c) p.checks 0 := by simp only [check_ref]
  rw [hl, hc]
  have hn : allF (nodeOk p.nodes) p.nodes 0 = true ↔ ∀ (k : Nat) (n : PNode), p.nodes[k]? = some n → nameB n.name.data.toList = true ∧ ixB (nameIs n.name) p.nodes = k ∧ asnB n = true := by
    rw [allF_iff]
    unfold nodeOk asnB
    simp only [Nat.zero_add, Bool.and_eq_true, decide_eq_true_eq]
  have hd : allF (destOk p.nodes p.dests) p.dests 0 = true ↔ ∀ (k : Nat) (d : PDest), p.dests[k]? = some d → nameB d.name.data.toList = true ∧ ixB (nameIs d.name) p.nodes < 0 ∧ ixB (destIs d.name) p.dests = k ∧ origB p.nodes.length d.orig = true := by
    rw [allF_iff]
    unfold destOk
    simp only [Nat.zero_add, Bool.and_eq_true, decide_eq_true_eq]
  simp only [dest_ref]
  rw [hn, hd, allF_iff (fun (_ : Nat) (n : PNode) => asnB n), allF_iff (fun (_ : Nat) (d : PDest) => origB p.nodes.length d.orig)]
  simp only [decide_eq_true_eq, withinB, Bool.and_eq_true]
  constructor
  · rintro ⟨h1, h2, h3, ⟨h4, h5⟩, ⟨h6, h7⟩, ⟨h8, h9⟩, h10, h11⟩
    exact ⟨h1, ⟨by omega, by omega⟩, ⟨⟨by omega, by omega⟩, fun k n hk => ⟨(h4 k n hk).1, (h4 k n hk).2, h3 k n hk⟩⟩, ⟨h7, h6⟩, ⟨h9, fun k d hk => ⟨(h5 k d hk).1, (h5 k d hk).2.1, (h5 k d hk).2.2, h8 k d hk⟩⟩, h11, h10⟩
  · rintro ⟨h1, h2, ⟨h3, h4⟩, ⟨h5, h6⟩, ⟨h7, h8⟩, h9, h10⟩
    exact ⟨h1, ⟨by omega, by omega, by omega, by omega, by omega, by omega, by omega, by omega⟩, fun k n hk => (h4 k n hk).2.2, ⟨fun k n hk => ⟨(h4 k n hk).1, (h4 k n hk).2.1⟩, fun k d hk => ⟨(h8 k d hk).1, (h8 k d hk).2.1, (h8 k d hk).2.2.1⟩⟩, ⟨h6, h5⟩, ⟨fun k d hk => (h8 k d hk).2.2.2, h7⟩, h10, h9⟩
end Go.Proofs.Ytlfdpfkimggeoaa
