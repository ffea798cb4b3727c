/-
  Print of a route: the package's, the document's.
-/
import Derived.Test.YtdmilbfdiebjgaaAtG
namespace Go.Proofs.Ytdmilbfdiebjgaa
open Go.RowKit
set_option linter.unusedVariables false
set_option linter.unusedSimpArgs false

def rtS (r : Rt) : ByteArray := ⟨(rtText r).toArray⟩
theorem rtS_eq {a b : Rt} : decide (rtS a = rtS b) = decide (rtText a = rtText b) := by
  rw [decide_eq_decide]
  constructor
  · intro h
    have := congrArg (fun x : ByteArray => x.data.toList) h
    simpa [rtS] using this
  · intro h; unfold rtS; rw [h]

set_option maxHeartbeats 4000000 in
set_option maxRecDepth 100000 in
theorem refPrint6_any (r : Rt) (hr : rtRight r = true) {A : Option Addr} {n : Nat} (ca : Nat) {w : World} (h : RtAt w r A n) :
    Calls Try.prog 51 #[.agg #[.int .i64 r.kind, .int .i64 r.cost, .slice A n ca]] w fun e w' => e = .returned (.string (rtS r)) ∧ Below w.heap.size w w' := by
  obtain ⟨k, c, l⟩ := r
  obtain ⟨hn, hA, hm⟩ := h
  dsimp only at hn hA ⊢
  have hbx := fun o => below_new w o
  have hk := rtRight_kind hr
  dsimp only at hk
  unfold rtRight at hr
  dsimp only at hr
  have HA := Lib.hid hA
  have HN := Lib.hid hn
  clear hA hn
  by_cases k1 : k = 1
  · subst k1
    simp only [show ¬ (1 : Int) = 0 by omega, if_false, if_true, Bool.and_eq_true, decide_eq_true_eq] at hr
    obtain ⟨c0, c15, _⟩ := hr
    obtain ⟨s, hs⟩ : ∃ s : ByteArray, s = rtS ⟨1, c, l⟩ := ⟨_, rfl⟩
    have HS : Hid (s = ⟨(Lib.decDigits c.toNat).toArray⟩) := Lib.hid (by rw [hs]; rfl)
    rw [← hs]
    clear hs hk
    go_enter Try.func51, Try.ntmps51
    go_wp2_with (go_at_call 73; (with_reducible refine (refDigits_int c s HS (by omega) (by omega) _).mono ?_); rintro e w2 ⟨rfl, hb2⟩)
    go_ret
    exact ⟨rfl, below_on (hbx _) hb2⟩
  · by_cases k2 : k = 2
    · subst k2
      rw [HN.out] at hr
      simp only [show ¬ (2 : Int) = 0 by omega, show ¬ (2 : Int) = 1 by omega, if_false, if_true, Bool.and_eq_true, decide_eq_true_eq, pathB] at hr
      obtain ⟨rfl, h12, hp⟩ := hr
      rw [HN.out] at h12
      have hpi := pathOk_in hp
      have HJL : Hid (∀ j, (numsJ (l.take j)).length ≤ 6 * j) := Lib.hid fun j => by
        have h1 := numsJ_len (l.take j) fun x hx => (hpi x (List.mem_of_mem_take hx)).2
        have h2 : (l.take j).length ≤ j := by rw [List.length_take]; omega
        omega
      have HP := Lib.hid hpi
      obtain ⟨s, hs⟩ : ∃ s : ByteArray, s = rtS ⟨2, 0, l⟩ := ⟨_, rfl⟩
      have HS : Hid (s = ⟨(91 :: (numsJ l ++ [93])).toArray⟩) := Lib.hid (by rw [hs]; rfl)
      rw [← hs]
      have h1 := Rt1.new w 2 0 A n ca
      obtain ⟨q0, q1, q2⟩ := h1.cells
      clear hs hk hp k1 hpi
      go_enter Try.func51, Try.ntmps51
      go_wp2
      go_loopw [3, 4] (fun s3 i wr => ∃ (j : Nat) (T : ByteArray), j ≤ n ∧ i = .int .i64 (j : Nat) ∧ s3 = .string T ∧ Hid (T = ⟨(91 :: numsJ (l.take j)).toArray⟩) ∧ Rt1 w 2 0 A n ca wr) (fun _ i _ => n - (intOf i).toNat)
      case atStart => exact ⟨0, _, Nat.zero_le _, rfl, rfl, Lib.hid (by simp [numsJ, numsW, Lib.join_nil]), h1⟩
      case round =>
        clear h1 q0 q1 q2
        obtain ⟨j, T, hj, rfl, rfl, HT, h1⟩ := hrel
        obtain ⟨q0, q1, q2⟩ := h1.cells
        have hTs : T.size ≤ 1 + 6 * j := by
          have := HJL.out j
          rw [HT.out]; simp [ByteArray.size]; omega
        by_cases hlt : j < n
        · obtain ⟨x, hx⟩ : ∃ x, l[j]? = some x := ⟨_, List.getElem?_eq_getElem (by rw [HN.out]; exact hlt)⟩
          obtain ⟨ad, rfl, hg, c0⟩ := (HA.out.on h1.up).int hx
          obtain ⟨x1, x2⟩ := HP.out x (List.mem_of_getElem? hx)
          have hnx := numsJ_take hx
          obtain ⟨u, hu⟩ : ∃ u : ByteArray, u = ⟨(Lib.decDigits x.toNat).toArray⟩ := ⟨_, rfl⟩
          have hus : u.size ≤ 5 := by
            have := dig_len 5 x.toNat (by omega) (by omega)
            rw [hu]; simpa [ByteArray.size] using this
          have HU := Lib.hid hu
          have HNX := Lib.hid hnx
          clear hu hnx hx
          by_cases hj0 : j = 0
          · have g0 : ¬ (0 : Int) < (j : Int) := by omega
            have g1 : ¬ (9223372036854775807 < T.size + u.size) := by omega
            have HJ0 := Lib.hid hj0
            clear hj0
            go_wp2_with (go_at_call 73; (with_reducible refine (refDigits_int x u HU (by omega) (by omega) _).mono ?_); rintro e w2 ⟨rfl, hb2⟩; obtain ⟨r0, r1, r2⟩ := (h1.go hb2).cells)
            go_roundw
            case rel =>
              refine ⟨j + 1, T ++ u, by omega, by go_num, rfl, Lib.hid ?_, h1.go hb2⟩
              have := HNX.out
              rw [if_pos HJ0.out, List.nil_append] at this
              rw [HT.out, HU.out, this, HJ0.out]
              apply ByteArray.ext
              simp [ByteArray.data_append, numsJ, numsW, Lib.join_nil]
            case measure => simp [intOf]; omega
          · have hjpos : (0 : Int) < (j : Int) := by omega
            have g0 : ¬ (9223372036854775807 < T.size + 1) := by omega
            have g1 : ¬ (9223372036854775807 < T.size + 1 + u.size) := by omega
            have HJ0 := Lib.hid hj0
            clear hj0
            go_wp2_with (go_at_call 73; (with_reducible refine (refDigits_int x u HU (by omega) (by omega) _).mono ?_); rintro e w2 ⟨rfl, hb2⟩; obtain ⟨r0, r1, r2⟩ := (h1.go hb2).cells)
            go_roundw
            case rel =>
              refine ⟨j + 1, _, by omega, by go_num, rfl, Lib.hid ?_, h1.go hb2⟩
              have := HNX.out
              rw [if_neg HJ0.out] at this
              rw [HT.out, HU.out, this]
              apply ByteArray.ext
              simp [ByteArray.data_append]
            case measure => simp [intOf]; omega
        · have hjn : j = n := by omega
          subst hjn
          have g1 : ¬ (9223372036854775807 < T.size + 1) := by omega
          go_wp2
          go_ret
          refine ⟨ret_string ?_, h1.up⟩
          rw [HS.out, HT.out, List.take_of_length_le (by rw [HN.out]; exact Nat.le_refl _)]
          apply ByteArray.ext
          simp [ByteArray.data_append]
    · have k0 : k = 0 := by omega
      subst k0
      obtain ⟨s, hs⟩ : ∃ s : ByteArray, s = rtS ⟨0, c, l⟩ := ⟨_, rfl⟩
      have HS : Hid (s = ⟨#[45]⟩) := Lib.hid (by rw [hs]; rfl)
      rw [← hs]
      clear hs hk hr k1 k2
      go_enter Try.func51, Try.ntmps51
      go_wp2
      go_ret
      exact ⟨ret_string HS.out.symm, hbx _⟩
theorem refPrint6_is (r : Rt) (s : ByteArray) (HS : Hid (rtS r = s)) (hr : Hid (rtRight r = true)) {A : Option Addr} {n ca : Nat} {w : World} (h : RtAt w r A n) :
    Calls Try.prog 51 #[.agg #[.int .i64 r.kind, .int .i64 r.cost, .slice A n ca]] w fun e w' => e = .returned (.string s) ∧ Below w.heap.size w w' :=
  (refPrint6_any r hr.out ca h).mono fun _ _ ⟨he, hw⟩ => ⟨by rw [he, HS.out], hw⟩
end Go.Proofs.Ytdmilbfdiebjgaa
