/-
  bits.Before: which of two sets is ahead.
-/
import Derived.Test.YtfnjpgkoccefbaaLex
import Derived.Test.YtfnjpgkoccefbaaBitsC
namespace Go.Proofs.Ytfnjpgkoccefbaa
open Go.RowKit

/-- Size, over whatever has been laid since block B. -/
theorem Size_acc (f : Int) {B : Nat} {w0 w : World} (h : Below B w0 w) (hB : B ≤ w0.heap.size) :
    Calls Try.prog 13 #[.int .i64 f] w fun e w' => e = .returned (.int .i64 ((linksB f).length : Nat)) ∧ Below B w0 w' :=
  (Size_any f w).mono fun _ _ ⟨he, hb⟩ => ⟨he, h.trans (hb.mono (Nat.le_trans hB h.size))⟩

theorem toB_wrap (v : BitVec 64) : BitVec.ofInt 64 (wrap64 (v.toNat : Int)) = v := by
  apply BitVec.eq_of_toNat_eq
  have := v.isLt
  rw [BitVec.toNat_ofInt]
  unfold wrap64
  omega
theorem and_eq (x y : Int) : bits .and .i64 x y = wrap64 ((BitVec.ofInt 64 x &&& BitVec.ofInt 64 y).toNat : Int) := IntWalk.i64_left _
theorem xor_eq (x y : Int) : bits .xor .i64 x y = wrap64 ((BitVec.ofInt 64 x ^^^ BitVec.ofInt 64 y).toNat : Int) := IntWalk.i64_left _

theorem toB_mod (a : Int) : (BitVec.ofInt 64 a).toNat % 2 ^ 16 = cleanB a := by
  rw [BitVec.toNat_ofInt]; unfold cleanB; omega
theorem toB_bit (a : Int) (i : Nat) (h : i < 16) : (BitVec.ofInt 64 a).toNat.testBit i = (cleanB a).testBit i := by
  rw [← toB_mod, Nat.testBit_mod_two_pow]; simp [h]

/-- The bits that but one of both sets has. -/
theorem unlike_eq (a b : Int) : bits .and .i64 (bits .xor .i64 a b) 65535 = ((cleanB a ^^^ cleanB b : Nat) : Int) := by
  rw [xor_eq, and_eq, toB_wrap, BitVec.toNat_and, BitVec.toNat_xor]
  rw [show (BitVec.ofInt 64 65535).toNat = 2 ^ 16 - 1 from by decide, Nat.and_two_pow_sub_one_eq_mod, Nat.xor_mod_two_pow, toB_mod, toB_mod]
  have : cleanB a ^^^ cleanB b < 2 ^ 16 := Nat.xor_lt_two_pow (cleanB_lt a) (cleanB_lt b)
  unfold wrap64
  omega

theorem neg_nat (u : Nat) (h0 : u ≠ 0) (h : u < 65536) : (BitVec.ofInt 64 (wrap64 (-(u : Int)))).toNat = 2 ^ 64 - (u - 1 + 1) := by
  rw [BitVec.toNat_ofInt]; unfold wrap64; omega

theorem Before_bits (a b : Int) :
    (bits .and .i64 a (bits .and .i64 (bits .and .i64 (bits .xor .i64 a b) 65535) (wrap64 (-(bits .and .i64 (bits .xor .i64 a b) 65535)))) != 0) = cmpB 16 (cleanB a) (cleanB b) := by
  have hU : cleanB a ^^^ cleanB b < 2 ^ 16 := Nat.xor_lt_two_pow (cleanB_lt a) (cleanB_lt b)
  have hc := cmpB_bits 16 (cleanB a) (cleanB b) (cleanB_lt a) (cleanB_lt b)
  rw [unlike_eq]
  generalize hu : cleanB a ^^^ cleanB b = u at hU hc
  rw [and_eq (u : Int), and_eq a, toB_wrap]
  have hlt := (BitVec.ofInt 64 a &&& (BitVec.ofInt 64 (u : Int) &&& BitVec.ofInt 64 (wrap64 (-(u : Int))))).isLt
  have key : (BitVec.ofInt 64 a &&& (BitVec.ofInt 64 (u : Int) &&& BitVec.ofInt 64 (wrap64 (-(u : Int))))).toNat ≠ 0 ↔ ∃ i, (cleanB a).testBit i = true ∧ u.testBit i = true ∧ (u - 1).testBit i = false ∧ u ≠ 0 := by
    rw [BitVec.toNat_and, BitVec.toNat_and, ofInt64 u (by omega)]
    by_cases h0 : u = 0
    · subst h0; simp
    · rw [neg_nat u h0 (by omega)]
      constructor
      · intro hne
        obtain ⟨i, hi⟩ := Nat.exists_testBit_of_ne_zero hne
        rw [Nat.testBit_and, Nat.testBit_and, Nat.testBit_two_pow_sub_succ (by omega)] at hi
        simp only [Bool.and_eq_true, Bool.not_eq_true', decide_eq_true_eq] at hi
        obtain ⟨h1, h2, h3, h4⟩ := hi
        have h16 : i < 16 := by
          rcases Nat.lt_or_ge i 16 with h | h
          · exact h
          · have := Nat.testBit_lt_two_pow (i := i) (x := u) (Nat.lt_of_lt_of_le hU (Nat.pow_le_pow_right (by omega) h))
            rw [this] at h2; cases h2
        exact ⟨i, by rw [← toB_bit a i h16]; exact h1, h2, h4, h0⟩
      · rintro ⟨i, h1, h2, h3, _⟩ he
        have h16 : i < 16 := by
          rcases Nat.lt_or_ge i 16 with h | h
          · exact h
          · have := Nat.testBit_lt_two_pow (i := i) (x := u) (Nat.lt_of_lt_of_le hU (Nat.pow_le_pow_right (by omega) h))
            rw [this] at h2; cases h2
        have := congrArg (fun x : Nat => x.testBit i) he
        simp only [Nat.testBit_and, Nat.zero_testBit] at this
        rw [Nat.testBit_two_pow_sub_succ (by omega), toB_bit a i h16, h1, h2, h3] at this
        simp at this; omega
  generalize (BitVec.ofInt 64 a &&& (BitVec.ofInt 64 (u : Int) &&& BitVec.ofInt 64 (wrap64 (-(u : Int))))).toNat = r at key hlt
  have hr : (wrap64 (r : Int) != 0) = decide (r ≠ 0) := by
    by_cases h : r = 0
    · subst h; simp [wrap64]
    · have : wrap64 (r : Int) ≠ 0 := by unfold wrap64; omega
      simp [h, this]
  rw [hr, Bool.eq_iff_iff, decide_eq_true_eq, key, hc]

set_option maxHeartbeats 800000 in
theorem Before_any (a b : Int) (w : World) :
    Calls Try.prog 20 #[.int .i64 a, .int .i64 b] w fun e w' => e = .returned (.bool (beforeB a b)) ∧ Below w.heap.size w w' := by
  have hla : (linksB a).length ≤ 16 := uptoB_len a 16
  have hlb : (linksB b).length ≤ 16 := uptoB_len b 16
  have hb := Below.refl w.heap.size w
  by_cases hne : (linksB a).length = (linksB b).length
  · have HN := Lib.hid hne
    have ht : ((linksB a).length != (linksB b).length) = false := by simpa using hne
    clear hne
    go_enter Try.func20, Try.ntmps20
    go_wp2_with (go_at_call 13; refine (Size_acc _ hb (Nat.le_refl _)).mono ?_; clear hb; rintro e w' ⟨rfl, hb⟩)
    go_ret
    refine ⟨ret_bool ?_, by assumption⟩
    have h := HN.out
    rw [Before_bits]
    unfold beforeB
    rw [if_neg (by simpa using h), linksB_bitsL, linksB_bitsL]
    rw [linksB_bitsL, linksB_bitsL] at h
    exact cmpB_lexL 16 0 _ _ h
  · have HN := Lib.hid hne
    have ht : ((linksB a).length != (linksB b).length) = true := by simpa using hne
    clear hne
    go_enter Try.func20, Try.ntmps20
    go_wp2_with (go_at_call 13; refine (Size_acc _ hb (Nat.le_refl _)).mono ?_; clear hb; rintro e w' ⟨rfl, hb⟩)
    go_ret
    refine ⟨ret_bool ?_, by assumption⟩
    unfold beforeB
    rw [if_pos HN.out]

end Go.Proofs.Ytfnjpgkoccefbaa
