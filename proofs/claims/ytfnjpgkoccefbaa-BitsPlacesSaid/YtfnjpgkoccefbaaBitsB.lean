/-
  bits.Count, bits.ofSize, bits.At: numbers alone.
-/
import Derived.Test.YtfnjpgkoccefbaaSize
namespace Go.Proofs.Ytfnjpgkoccefbaa
open Go.RowKit

set_option maxHeartbeats 400000 in
theorem Count_no (links most : Int) (w : World) (h : ¬ (0 ≤ links ∧ links ≤ 16 ∧ 0 ≤ most)) :
    Calls Try.prog 24 #[.int .i64 links, .int .i64 most] w fun e w' => e = .returned (.int .i64 0) ∧ w = w' := by
  have H := Lib.hid h
  clear h
  by_cases h0 : links < 0
  · go_enter Try.func24, Try.ntmps24
    go_wp2
    go_ret
    exact ⟨rfl, rfl⟩
  · have h0' : 0 ≤ links := by omega
    by_cases h1 : 16 < links
    · go_enter Try.func24, Try.ntmps24
      go_wp2
      go_ret
      exact ⟨rfl, rfl⟩
    · have h1' : links ≤ 16 := by omega
      have h2 : most < 0 := by have h := H.out; omega
      go_enter Try.func24, Try.ntmps24
      go_wp2
      go_ret
      exact ⟨rfl, rfl⟩

set_option maxHeartbeats 800000 in
theorem Count_yes (links most : Int) (w : World) (h0 : 0 ≤ links) (h1 : links ≤ 16) (h2 : 0 ≤ most) :
    Calls Try.prog 24 #[.int .i64 links, .int .i64 most] w fun e w' => e = .returned (.int .i64 (sumC links.toNat ((min most links).toNat + 1) : Nat)) ∧ w = w' := by
  obtain ⟨n, rfl⟩ := Int.eq_ofNat_of_zero_le h0
  obtain ⟨m, rfl⟩ := Int.eq_ofNat_of_zero_le h2
  by_cases hm : n < m
  · go_enter Try.func24, Try.ntmps24
    go_wp2
    go_loop [5, 21] (fun v i => ∃ j : Nat, j ≤ n + 1 ∧ i = .int .i64 j ∧ v = .int .i64 (sumC n j : Nat)) (fun _ i => n + 1 - (intOf i).toNat)
    case atStart => exact ⟨0, by omega, rfl, rfl⟩
    case round =>
      obtain ⟨j, hj, rfl, rfl⟩ := hrel
      have hs := sumC_le n (by omega) j (by omega)
      by_cases hlt : j < n + 1
      · have hc := chN_le n (by omega) j (by omega)
        go_wp2_with (go_at_call 34; refine (choose_any _ _ _ (by omega) (by omega) (by omega) (by omega)).mono ?_; rintro e w' ⟨rfl, rfl⟩; simp only [Int.toNat_natCast])
        go_round
        case rel => exact ⟨j + 1, by omega, by go_num, by simp [sumC]⟩
        case measure => simp [intOf]; omega
      · go_wp2
        go_ret
        exact ⟨ret_int (by rw [show j = n + 1 from by omega]; congr 2; simp; omega), rfl⟩
  · have hm' : m ≤ n := by omega
    go_enter Try.func24, Try.ntmps24
    go_wp2
    go_loop [5, 21] (fun v i => ∃ j : Nat, j ≤ m + 1 ∧ i = .int .i64 j ∧ v = .int .i64 (sumC n j : Nat)) (fun _ i => m + 1 - (intOf i).toNat)
    case atStart => exact ⟨0, by omega, rfl, rfl⟩
    case round =>
      obtain ⟨j, hj, rfl, rfl⟩ := hrel
      have hs := sumC_le n (by omega) j (by omega)
      by_cases hlt : j < m + 1
      · have hc := chN_le n (by omega) j (by omega)
        go_wp2_with (go_at_call 34; refine (choose_any _ _ _ (by omega) (by omega) (by omega) (by omega)).mono ?_; rintro e w' ⟨rfl, rfl⟩; simp only [Int.toNat_natCast])
        go_round
        case rel => exact ⟨j + 1, by omega, by go_num, by simp [sumC]⟩
        case measure => simp [intOf]; omega
      · go_wp2
        go_ret
        exact ⟨ret_int (by rw [show j = m + 1 from by omega]; congr 2; simp; omega), rfl⟩

theorem Count_any (links most : Int) (w : World) :
    Calls Try.prog 24 #[.int .i64 links, .int .i64 most] w fun e w' => e = .returned (.int .i64 (countB links most : Nat)) ∧ w = w' := by
  by_cases h : 0 ≤ links ∧ links ≤ 16 ∧ 0 ≤ most
  · have e : countB links most = sumC links.toNat ((min most links).toNat + 1) := by unfold countB; rw [if_pos h]
    rw [e]
    exact Count_yes links most w h.1 h.2.1 h.2.2
  · have e : countB links most = 0 := by unfold countB; rw [if_neg h]
    rw [e]
    exact Count_no links most w h

end Go.Proofs.Ytfnjpgkoccefbaa
