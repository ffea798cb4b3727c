/-
  bits.ofSize, bits.At.
-/
import Derived.Laws.BitsAllLaws
import Derived.Laws.BitsLemmas
import Derived.Test.YtfnjpgkoccefbaaComb
import Derived.Test.YtfnjpgkoccefbaaBitsB
namespace Go.Proofs.Ytfnjpgkoccefbaa
open Go.RowKit

theorem ofInt64 (a : Nat) (ha : a < 9223372036854775808) : (BitVec.ofInt 64 (a : Int)).toNat = a := by
  rw [BitVec.ofInt_natCast, BitVec.toNat_ofNat]; exact Nat.mod_eq_of_lt (by omega)
theorem or64 (a b : Nat) (ha : a < 9223372036854775808) (hb : b < 9223372036854775808) : bits .or .i64 (a : Int) (b : Int) = ((a ||| b : Nat) : Int) := by
  have hx : a ||| b < 2 ^ 63 := Nat.or_lt_two_pow (by omega) (by omega)
  show IntKind.i64.wrap ((BitVec.ofInt 64 (a : Int) ||| BitVec.ofInt 64 (b : Int)).toNat : Int) = _
  rw [BitVec.toNat_or, ofInt64 a ha, ofInt64 b hb, IntKind.wrap_i64]
  omega

theorem pow16 (k : Nat) (h : k ≤ 16) : 2 ^ k ≤ 65536 := Nat.pow_le_pow_right (n := 2) (by omega) h
theorem shl_one (k : Nat) (h : k ≤ 16) : wrap64 ((2 : Int) ^ k) = ((2 ^ k : Nat) : Int) := by
  have := pow16 k h
  have e : ((2 : Int) ^ k) = ((2 ^ k : Nat) : Int) := by simp
  rw [e]
  generalize 2 ^ k = m at this ⊢
  exact IntWalk.wrap64_in _ (by omega)

theorem choose_at (x y : Int) (n k : Nat) (hx : x = n) (hy : y = k) (hn : n ≤ 16) (hk : k ≤ 20) (w : World) :
    Calls Try.prog 34 #[.int .i64 x, .int .i64 y] w fun e w' => e = .returned (.int .i64 (chN n k : Nat)) ∧ w = w' := by
  subst hx hy
  have h := choose_any (n : Int) (k : Int) w (by omega) (by omega) (by omega) (by omega)
  rwa [Int.toNat_natCast, Int.toNat_natCast] at h

set_option maxHeartbeats 800000 in
theorem ofSize_any (links size place : Int) (w : World) (h0 : 0 ≤ links) (h1 : links ≤ 16) (h2 : 0 ≤ size) (h3 : size ≤ 16) (h4 : 0 ≤ place) (r : Nat) (hr : (combos links.toNat size.toNat 0 0)[place.toNat]? = some r) :
    Calls Try.prog 35 #[.int .i64 links, .int .i64 size, .int .i64 place] w fun e w' => e = .returned (.int .i64 (r : Nat)) ∧ w = w' := by
  obtain ⟨n, rfl⟩ := Int.eq_ofNat_of_zero_le h0
  obtain ⟨s0, rfl⟩ := Int.eq_ofNat_of_zero_le h2
  obtain ⟨p0, rfl⟩ := Int.eq_ofNat_of_zero_le h4
  simp only [Int.toNat_natCast] at hr
  have HR := Lib.hid hr
  clear hr
  go_enter Try.func35, Try.ntmps35
  go_wp2
  go_loop [1, 2, 7, 8] (fun v p g i => ∃ s pl f lk : Nat, lk ≤ n ∧ s ≤ 16 ∧ f < 2 ^ lk ∧ (combos (n - lk) s lk f)[pl]? = some r ∧ v = .int .i64 s ∧ p = .int .i64 pl ∧ g = .int .i64 f ∧ i = .int .i64 lk) (fun _ _ _ i => n - (intOf i).toNat)
  case atStart => exact ⟨s0, p0, 0, 0, by omega, by omega, by simp, by simpa using HR.out, rfl, rfl, rfl, rfl⟩
  case round =>
    obtain ⟨s, pl, f, lk, hlk, hs, hf, hc, rfl, rfl, rfl, rfl⟩ := hrel
    cases s with
    | zero =>
      have HD := Lib.hid (combos_done hc)
      clear hc
      go_wp2
      go_ret
      exact ⟨ret_int (by rw [HD.out]), rfl⟩
    | succ s =>
      have hlt : lk < n := by
        rcases Nat.lt_or_ge lk n with h | h
        · exact h
        · rw [show n - lk = 0 from by omega] at hc; exact (combos_some hc).elim
      have hc' : (combos (n - (lk + 1) + 1) (s + 1) lk f)[pl]? = some r := by rw [show n - (lk + 1) + 1 = n - lk from by omega]; exact hc
      clear hc
      have hC := chN_le (n - (lk + 1)) (by omega) s (by omega)
      have hpl := combos_lt hc'
      have hC2 := chN_le (n - (lk + 1) + 1) (by omega) (s + 1) (by omega)
      have h2 : 2 ^ lk ≤ 2 ^ 16 := Nat.pow_le_pow_right (by omega) (by omega)
      have HO := Lib.hid (show bits .or .i64 (f : Int) ((2 ^ lk : Nat) : Int) = ((f + 2 ^ lk : Nat) : Int) by rw [or64 f (2 ^ lk) (by omega) (by omega), add_or f lk hf])
      by_cases hp : pl < chN (n - (lk + 1)) s
      · have HC := Lib.hid (combos_with hc' hp)
        clear hc'
        go_wp2_with (go_at_call 34; refine (choose_at _ _ (n - (lk + 1)) s (by omega) (by omega) (by omega) (by omega) _).mono ?_; rintro e w' ⟨rfl, rfl⟩)
        go_round
        case rel =>
          refine ⟨s, pl, f + 2 ^ lk, lk + 1, by omega, by omega, by rw [Nat.pow_succ]; omega, HC.out, rfl, rfl, ?_, by go_num⟩
          rw [shl_one lk (by omega), HO.out]
        case measure => simp [intOf]; omega
      · have HC := Lib.hid (combos_without hc' (by omega))
        clear hc'
        go_wp2_with (go_at_call 34; refine (choose_at _ _ (n - (lk + 1)) s (by omega) (by omega) (by omega) (by omega) _).mono ?_; rintro e w' ⟨rfl, rfl⟩)
        go_round
        case rel => exact ⟨s + 1, pl - chN (n - (lk + 1)) s, f, lk + 1, by omega, by omega, by rw [Nat.pow_succ]; omega, HC.out, by go_num, by go_num, rfl, by go_num⟩
        case measure => simp [intOf]; omega

/-- The set at a place. -/
def atB (links most place : Int) : Int := if 0 ≤ place ∧ place < (countB links most : Nat) then ((allS links.toNat ((min most links).toNat + 1))[place.toNat]?.getD 0 : Nat) else -1

theorem allS_in (n : Nat) : ∀ (k p r : Nat), (allS n k)[p]? = some r → ∀ (s pl : Nat), p = sumC n s + pl → s < k → pl < chN n s → (combos n s 0 0)[pl]? = some r
  | 0, p, r, h, s, pl, hp, hs, hl => by omega
  | k + 1, p, r, h, s, pl, hp, hs, hl => by
    have h' : (allS n k ++ combos n k 0 0)[p]? = some r := h
    by_cases e : s = k
    · subst e
      rw [List.getElem?_append_right (by rw [allS_len]; omega), allS_len] at h'
      rwa [show p - sumC n s = pl from by omega] at h'
    · have hle : sumC n s + chN n s ≤ sumC n k := by
        have : ∀ d, sumC n (s + 1) ≤ sumC n (s + 1 + d) := fun d => by
          induction d with
          | zero => exact Nat.le_refl _
          | succ d ih => exact Nat.le_trans ih (by show sumC n (s + 1 + d) ≤ sumC n (s + 1 + d) + chN n (s + 1 + d); omega)
        have := this (k - (s + 1))
        rw [show s + 1 + (k - (s + 1)) = k from by omega] at this
        exact this
      rw [List.getElem?_append_left (by rw [allS_len]; omega)] at h'
      exact allS_in n k p r h' s pl hp (by omega) hl

set_option maxHeartbeats 800000 in
theorem At_yes (links most place : Int) (w : World) (h0 : 0 ≤ links) (h1 : links ≤ 16) (h2 : 0 ≤ most) (h3 : 0 ≤ place) (h4 : place < (countB links most : Nat)) (r : Nat) (hr : (allS links.toNat ((min most links).toNat + 1))[place.toNat]? = some r) :
    Calls Try.prog 26 #[.int .i64 links, .int .i64 most, .int .i64 place] w fun e w' => e = .returned (.int .i64 (r : Nat)) ∧ w = w' := by
  obtain ⟨n, rfl⟩ := Int.eq_ofNat_of_zero_le h0
  obtain ⟨p0, rfl⟩ := Int.eq_ofNat_of_zero_le h3
  simp only [Int.toNat_natCast] at hr
  obtain ⟨m, hm, hmn⟩ : ∃ m : Nat, m = (min most (n : Int)).toNat ∧ m ≤ n := ⟨_, rfl, by omega⟩
  rw [← hm] at hr
  have hp0 : p0 < sumC n (m + 1) := by
    have e : countB (n : Int) most = sumC n (m + 1) := by unfold countB; rw [if_pos ⟨h0, h1, h2⟩, Int.toNat_natCast, hm]
    rw [e] at h4; omega
  have hsum := sumC_le n (by omega) (m + 1) (by omega)
  have HR := Lib.hid hr
  have hd : decide (countB (n : Int) most ≤ p0) = false := by simp; omega
  clear hr hm
  go_enter Try.func26, Try.ntmps26
  go_wp2_with (go_at_call 24; refine (Count_any _ _ _).mono ?_; rintro e w' ⟨rfl, rfl⟩)
  go_loop [2, 7] (fun p v => ∃ s pl : Nat, s ≤ m ∧ p0 = sumC n s + pl ∧ p = .int .i64 pl ∧ v = .int .i64 s) (fun _ v => m - (intOf v).toNat)
  case atStart => exact ⟨0, p0, by omega, by simp [sumC], rfl, rfl⟩
  case round =>
    obtain ⟨s, pl, hs, hp, rfl, rfl⟩ := hrel
    have hC := chN_le n (by omega) s (by omega)
    by_cases hlt : chN n s ≤ pl
    · have hs1 : s < m := by
        rcases Nat.lt_or_ge s m with h | h
        · exact h
        · obtain rfl : s = m := by omega
          have : sumC n (s + 1) = sumC n s + chN n s := rfl
          omega
      have HP := Lib.hid (show p0 = sumC n (s + 1) + (pl - chN n s) by show p0 = sumC n s + chN n s + (pl - chN n s); omega)
      have hb : pl ≤ 65536 := by omega
      clear hp
      go_wp2_with (go_at_call 34; refine (choose_at _ _ n s (by omega) (by omega) (by omega) (by omega) _).mono ?_; rintro e w' ⟨rfl, rfl⟩)
      go_round
      case rel => exact ⟨s + 1, pl - chN n s, by omega, HP.out, by go_num, by go_num⟩
      case measure => simp [intOf]; omega
    · have hc := allS_in n (m + 1) p0 r HR.out s pl hp (by omega) (by omega)
      have HC := Lib.hid hc
      clear hc hp
      go_wp2_with (first
        | (go_at_call 34; refine (choose_at _ _ n s (by omega) (by omega) (by omega) (by omega) _).mono ?_; rintro e w' ⟨rfl, rfl⟩)
        | (go_at_call 35; refine (ofSize_any _ _ _ _ (by omega) (by omega) (by omega) (by omega) (by omega) r (by simpa using HC.out)).mono ?_; rintro e w' ⟨rfl, rfl⟩))
      go_ret
      exact ⟨rfl, rfl⟩

set_option maxHeartbeats 800000 in
theorem At_no (links most place : Int) (w : World) (h : ¬ (0 ≤ place ∧ place < (countB links most : Nat))) :
    Calls Try.prog 26 #[.int .i64 links, .int .i64 most, .int .i64 place] w fun e w' => e = .returned (.int .i64 (-1)) ∧ w = w' := by
  by_cases h0 : place < 0
  · clear h
    go_enter Try.func26, Try.ntmps26
    go_wp2
    go_ret
    exact ⟨rfl, rfl⟩
  · have hd : (countB links most : Int) ≤ place := by omega
    clear h
    go_enter Try.func26, Try.ntmps26
    go_wp2_with (go_at_call 24; refine (Count_any _ _ _).mono ?_; rintro e w' ⟨rfl, rfl⟩)
    go_ret
    exact ⟨rfl, rfl⟩

theorem At_any (links most place : Int) (w : World) :
    Calls Try.prog 26 #[.int .i64 links, .int .i64 most, .int .i64 place] w fun e w' => e = .returned (.int .i64 (atB links most place)) ∧ w = w' := by
  by_cases h : 0 ≤ place ∧ place < (countB links most : Nat)
  · have hc : 0 ≤ links ∧ links ≤ 16 ∧ 0 ≤ most := by
      rcases Decidable.em (0 ≤ links ∧ links ≤ 16 ∧ 0 ≤ most) with hh | hh
      · exact hh
      · have : countB links most = 0 := by unfold countB; rw [if_neg hh]
        omega
    have hl : place.toNat < (allS links.toNat ((min most links).toNat + 1)).length := by
      rw [allS_len]
      have : countB links most = sumC links.toNat ((min most links).toNat + 1) := by unfold countB; rw [if_pos hc]
      omega
    have e : atB links most place = (((allS links.toNat ((min most links).toNat + 1))[place.toNat]'hl : Nat) : Int) := by
      unfold atB; rw [if_pos h, List.getElem?_eq_getElem hl]; rfl
    rw [e]
    exact At_yes links most place w hc.1 hc.2.1 hc.2.2 h.1 h.2 _ (List.getElem?_eq_getElem hl)
  · have e : atB links most place = -1 := by unfold atB; rw [if_neg h]
    rw [e]
    exact At_no links most place w h

end Go.Proofs.Ytfnjpgkoccefbaa
