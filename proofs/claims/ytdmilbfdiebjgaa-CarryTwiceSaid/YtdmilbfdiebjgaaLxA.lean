/-
  The program's calls of package lex that only compute on a byte or a text: isLetter, isDigit, Keyword.
-/
import Derived.Test.YtdmilbfdiebjgaaLxMath
import Derived.Test.YtdmilbfdiebjgaaBase
namespace Go.Proofs.Ytdmilbfdiebjgaa
open Go.RowKit

theorem isLetter_any (c : UInt8) (w : World) :
    Calls Try.prog 89 #[.int .u8 (c.toNat : Int)] w fun e w' => e = .returned (.bool (letB c)) ∧ w = w' := by
  go_enter Try.func89, Try.ntmps89
  go_wp2
  all_goals
    go_ret
    exact ⟨ret_bool (by rw [Bool.eq_iff_iff]; simp [letB]; omega), rfl⟩
theorem isLetter_is (c : UInt8) (b : Bool) (H : Hid (letB c = b)) (w : World) :
    Calls Try.prog 89 #[.int .u8 (c.toNat : Int)] w fun e w' => e = .returned (.bool b) ∧ w = w' :=
  (isLetter_any c w).mono fun _ _ ⟨he, hw⟩ => ⟨by rw [he, H.out], hw⟩

theorem isDigit_any (c : UInt8) (w : World) :
    Calls Try.prog 101 #[.int .u8 (c.toNat : Int)] w fun e w' => e = .returned (.bool (digB c)) ∧ w = w' := by
  go_enter Try.func101, Try.ntmps101
  go_wp2
  all_goals
    go_ret
    exact ⟨ret_bool (by rw [Bool.eq_iff_iff]; simp [digB]; omega), rfl⟩
theorem isDigit_is (c : UInt8) (b : Bool) (H : Hid (digB c = b)) (w : World) :
    Calls Try.prog 101 #[.int .u8 (c.toNat : Int)] w fun e w' => e = .returned (.bool b) ∧ w = w' :=
  (isDigit_any c w).mono fun _ _ ⟨he, hw⟩ => ⟨by rw [he, H.out], hw⟩

set_option maxRecDepth 100000 in
set_option maxHeartbeats 1000000 in
theorem Keyword_any (s : ByteArray) (w : World) :
    Calls Try.prog 90 #[.string s] w fun e w' => e = .returned (.bool (kwB s.data.toList)) ∧ w = w' := by
  go_enter Try.func90, Try.ntmps90
  go_wp2
  all_goals
    go_ret
    refine ⟨ret_bool ?_, rfl⟩
    rw [← ByteArray.toList_eq]
    simp only [kwB, kws, List.contains_cons, List.contains_nil, Bool.or_false]
    simp only [*, Bool.true_or, Bool.or_true, Bool.false_or, reduceCtorEq] at *

theorem wordEnd1_any (c : UInt8) (w : World) :
    Calls Try.prog 100 #[.int .u8 (c.toNat : Int)] w fun e w' => e = .returned (.bool (parB c)) ∧ w = w' := by
  obtain ⟨l, hl⟩ : ∃ l, letB c = l := ⟨_, rfl⟩
  obtain ⟨d, hd⟩ : ∃ d, digB c = d := ⟨_, rfl⟩
  have HL := Lib.hid hl
  have HD := Lib.hid hd
  clear hl hd
  cases l <;> cases d
  all_goals
    go_enter Try.func100, Try.ntmps100
    go_wp2_with (first
      | (go_at_call 89; refine (isLetter_is _ _ HL _).mono ?_; rintro e w' ⟨rfl, rfl⟩)
      | (go_at_call 101; refine (isDigit_is _ _ HD _).mono ?_; rintro e w' ⟨rfl, rfl⟩))
    all_goals
      go_ret
      exact ⟨ret_bool (by unfold parB; rw [HL.out, HD.out, Bool.eq_iff_iff]; simp; try omega), rfl⟩

end Go.Proofs.Ytdmilbfdiebjgaa
