/-
  The document's Of; what BitsTells asks of one number.
-/
import Derived.Test.YtfnjpgkoccefbaaRef1
import Derived.Test.YtfnjpgkoccefbaaSets
import Derived.Test.YtfnjpgkoccefbaaBitsMembersW
namespace Go.Proofs.Ytfnjpgkoccefbaa
open Go.RowKit Go.Sort

theorem or_new (a i : Nat) (h : a.testBit i = false) : a ||| 2 ^ i = a + 2 ^ i := by
  have hm : a % 2 ^ (i + 1) < 2 ^ i := by
    rw [Nat.testBit_eq_decide_div_mod_eq] at h
    have h0 : a / 2 ^ i % 2 = 0 := by have := of_decide_eq_false h; omega
    rw [Nat.pow_succ, Nat.mod_mul, h0, Nat.mul_zero, Nat.add_zero]
    exact Nat.mod_lt _ (Nat.two_pow_pos i)
  have hd : 2 ^ (i + 1) * (a / 2 ^ (i + 1)) + a % 2 ^ (i + 1) = a := Nat.div_add_mod _ _
  have h1 : a % 2 ^ (i + 1) < 2 ^ (i + 1) := Nat.mod_lt _ (Nat.two_pow_pos _)
  have h2 : a % 2 ^ (i + 1) + 2 ^ i < 2 ^ (i + 1) := by rw [Nat.pow_succ] at *; omega
  have e1 := Nat.two_pow_add_eq_or_of_lt h1 (a / 2 ^ (i + 1))
  have e2 := Nat.two_pow_add_eq_or_of_lt h2 (a / 2 ^ (i + 1))
  rw [hd] at e1
  rw [← add_or _ _ hm, ← Nat.or_assoc, ← e1] at e2
  rw [← e2]
  have e3 := add_or _ _ hm
  omega
theorem or_old (a i : Nat) (h : a.testBit i = true) : a ||| 2 ^ i = a := by
  apply Nat.eq_of_testBit_eq
  intro j
  rw [Nat.testBit_or, Nat.testBit_two_pow]
  by_cases e : i = j
  · subst e; rw [h]; simp
  · simp [e]

theorem add_pow (g i : Nat) (h : g < 65536) (hi : i < 16) : wrap64 ((g : Int) + (2 : Int) ^ i) = ((g + 2 ^ i : Nat) : Int) := by
  have hp := pow16 i (by omega)
  have e : ((g : Int) + (2 : Int) ^ i) = ((g + 2 ^ i : Nat) : Int) := by simp
  rw [e]
  generalize 2 ^ i = p at hp ⊢
  exact IntWalk.wrap64_in _ (by omega)

set_option maxHeartbeats 1000000 in
theorem refOf_any (A : Option Addr) (c : Nat) (xs : List Int) (B0 : Nat) (w : World) (hr : IntsAt w B0 A xs) (hm : xs.length ≤ 9223372036854775807) :
    Calls Try.prog 23 #[.slice A xs.length c] w fun e w' => e = .returned (.int .i64 (ofB xs : Nat)) ∧ ∃ n, w' = w.drewN n := by
  go_enter Try.func23, Try.ntmps23
  go_wp2
  go_loopw [3, 4] (fun g i wr => ∃ k : Nat, k ≤ xs.length ∧ i = .int .i64 k ∧ g = .int .i64 (ofB (xs.take k) : Nat) ∧ ∃ n, wr = w.drewN n) (fun _ i _ => xs.length - (intOf i).toNat)
  case atStart => exact ⟨0, by omega, rfl, rfl, 0, rfl⟩
  case round =>
    obtain ⟨k, hk, rfl, rfl, nq0, rfl⟩ := hrel
    by_cases hlt : k < xs.length
    · have hts : xs.take (k + 1) = xs.take k ++ [xs[k]] := by rw [List.take_succ_eq_append_getElem hlt]
      obtain ⟨ad, rfl, hc⟩ := hr.at_ hlt
      have hl := ofB_lt (xs.take k)
      obtain ⟨x, hx⟩ : ∃ x, xs[k] = x := ⟨_, rfl⟩
      rw [hx] at hc hts
      have hb := Below.refl w.heap.size (w.drewN nq0)
      by_cases hlk : 0 ≤ x ∧ x < 16
      · obtain ⟨i, rfl⟩ := Int.eq_ofNat_of_zero_le hlk.1
        have hi16 : i < 16 := by omega
        obtain ⟨g, hg⟩ : ∃ g, ofB (xs.take k) = g := ⟨_, rfl⟩
        have hs := ofB_snoc_yes (xs.take k) (i : Int) hlk
        rw [Int.toNat_natCast, ← hts] at hs
        rw [hg] at hl hs
        obtain ⟨p, hp⟩ : ∃ p, hasB (g : Int) (i : Int) = p := ⟨_, rfl⟩
        have P := Lib.hid hp
        rw [hasB_nat g i hl hi16] at hp
        have hpw := pow16 i (by omega)
        have hsh := shl_one i (by omega)
        have HG := Lib.hid hg
        cases p
        · have HS := Lib.hid (hs.trans (or_new g i hp))
          clear hts hx hr hlk hs hp hg
          rw [HG.out]
          go_wp2_with (go_at_call 19; refine (refHas_is _ _ _ P hb).mono ?_; rintro e w2 ⟨rfl, nq, rfl, hb2⟩)
          go_roundw
          case rel => exact ⟨k + 1, by omega, by go_num, by rw [HS.out, add_pow g i hl hi16], _, rfl⟩
          case measure => simp [intOf]; omega
        · have HS := Lib.hid (hs.trans (or_old g i hp))
          clear hts hx hr hlk hs hp hg
          rw [HG.out]
          go_wp2_with (go_at_call 19; refine (refHas_is _ _ _ P hb).mono ?_; rintro e w2 ⟨rfl, nq, rfl, hb2⟩)
          go_roundw
          case rel => exact ⟨k + 1, by omega, by go_num, by rw [HS.out], _, rfl⟩
          case measure => simp [intOf]; omega
      · have HS := Lib.hid (show ofB (xs.take (k + 1)) = ofB (xs.take k) by rw [hts, ofB_snoc_no _ _ hlk])
        by_cases h0 : 0 ≤ x
        · have h1 : 16 ≤ x := by omega
          clear hts hx hr hlk
          go_wp2
          go_roundw
          case rel => exact ⟨k + 1, by omega, by go_num, by rw [HS.out], _, rfl⟩
          case measure => simp [intOf]; omega
        · have h1 : x < 0 := by omega
          clear hts hx hr hlk
          go_wp2
          go_roundw
          case rel => exact ⟨k + 1, by omega, by go_num, by rw [HS.out], _, rfl⟩
          case measure => simp [intOf]; omega
    · go_wp2
      go_ret
      exact ⟨ret_int (by rw [List.take_of_length_le (by omega)]), _, rfl⟩

end Go.Proofs.Ytfnjpgkoccefbaa
