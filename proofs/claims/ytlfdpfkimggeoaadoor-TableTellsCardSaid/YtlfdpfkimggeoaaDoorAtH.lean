/-
  Print of a route: the package's, the document's.
-/
import Derived.Test.YtlfdpfkimggeoaaDoorAtG
namespace Go.Proofs.YtlfdpfkimggeoaaDoor
open Go.RowKit
set_option linter.unusedVariables false
set_option linter.unusedSimpArgs false

def rtS (r : Rt) : ByteArray := ⟨(rtText r).toArray⟩
theorem rtS_eq {a b : Rt} : decide (rtS a = rtS b) = decide (rtText a = rtText b) := by
  rw [decide_eq_decide]
  constructor
  · intro h
    have := congrArg (fun x : ByteArray => x.data.toList) h
    simpa [rtS] using this
  · intro h; unfold rtS; rw [h]

set_option maxHeartbeats 4000000 in
set_option maxRecDepth 100000 in
theorem atPrint_any (r : Rt) (hr : rtRight r = true) {A : Option Addr} {n : Nat} (ca : Nat) {w : World} (h : RtAt w r A n) (PT : PowTab w) :
    Calls Tryd.prog 24 #[.agg #[.int .i64 r.kind, .int .i64 r.cost, .slice A n ca]] w fun e w' => e = .returned (.string (rtS r)) ∧ Below w.heap.size w w' := by
  obtain ⟨k, c, l⟩ := r
  obtain ⟨hn, hA, hm⟩ := h
  dsimp only at hn hA ⊢
  subst hn
  have hbx := fun o => below_new w o
  have hk := rtRight_kind hr
  dsimp only at hk
  unfold rtRight at hr
  dsimp only at hr
  have HPT := Lib.hid PT
  have HA := Lib.hid hA
  clear PT hA
  by_cases k1 : k = 1
  · subst k1
    simp only [show ¬ (1 : Int) = 0 by omega, if_false, if_true, Bool.and_eq_true, decide_eq_true_eq] at hr
    obtain ⟨c0, c15, _⟩ := hr
    obtain ⟨s, hs⟩ : ∃ s : ByteArray, s = rtS ⟨1, c, l⟩ := ⟨_, rfl⟩
    have HS : Hid (s = ⟨(Lib.decDigits c.toNat).toArray⟩) := Lib.hid (by rw [hs]; rfl)
    rw [← hs]
    clear hs hk
    go_enter Tryd.func24, Tryd.ntmps24
    go_wp2_with (go_at_call 29; (with_reducible refine (Itoa_int c s HS (by omega) (by omega) _ (HPT.out.on (hbx _))).mono ?_); rintro e w2 ⟨rfl, hb2⟩)
    go_ret
    exact ⟨rfl, below_on (hbx _) hb2⟩
  · by_cases k2 : k = 2
    · subst k2
      simp only [show ¬ (2 : Int) = 0 by omega, show ¬ (2 : Int) = 1 by omega, if_false, if_true, Bool.and_eq_true, decide_eq_true_eq, pathB] at hr
      obtain ⟨_, h12, hp⟩ := hr
      have HP := Lib.hid (pathOk_in hp)
      obtain ⟨s, hs⟩ : ∃ s : ByteArray, s = rtS ⟨2, c, l⟩ := ⟨_, rfl⟩
      have HS : Hid (s = ⟨(91 :: (numsJ l ++ [93])).toArray⟩) := Lib.hid (by rw [hs]; rfl)
      rw [← hs]
      clear hs hk hp k1
      go_enter Tryd.func24, Tryd.ntmps24
      go_wp2_with (go_at_call 30; refine (printPath_any l A ca _ (HA.out.on (hbx _)) h12 HP.out (HPT.out.on (hbx _))).mono ?_; rintro e w2 ⟨rfl, hb2⟩; rw [← HS.out])
      go_ret
      exact ⟨rfl, below_on (hbx _) hb2⟩
    · have k0 : k = 0 := by omega
      subst k0
      obtain ⟨s, hs⟩ : ∃ s : ByteArray, s = rtS ⟨0, c, l⟩ := ⟨_, rfl⟩
      have HS : Hid (s = ⟨#[45]⟩) := Lib.hid (by rw [hs]; rfl)
      rw [← hs]
      clear hs hk hr k1 k2
      go_enter Tryd.func24, Tryd.ntmps24
      go_wp2
      go_ret
      exact ⟨ret_string HS.out.symm, hbx _⟩
theorem atPrint_is (r : Rt) (s : ByteArray) (HS : Hid (rtS r = s)) (hr : Hid (rtRight r = true)) {A : Option Addr} {n ca : Nat} {w : World} (h : RtAt w r A n) (PT : PowTab w) :
    Calls Tryd.prog 24 #[.agg #[.int .i64 r.kind, .int .i64 r.cost, .slice A n ca]] w fun e w' => e = .returned (.string s) ∧ Below w.heap.size w w' :=
  (atPrint_any r hr.out ca h PT).mono fun _ _ ⟨he, hw⟩ => ⟨by rw [he, HS.out], hw⟩

end Go.Proofs.YtlfdpfkimggeoaaDoor
