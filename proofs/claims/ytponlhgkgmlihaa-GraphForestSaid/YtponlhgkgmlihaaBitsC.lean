/-
  bits.ofSize, bits.At.
-/
import Derived.Laws.BitsAllLaws
import Derived.Laws.BitsLemmas
import Derived.Test.YtponlhgkgmlihaaComb
import Derived.Test.YtponlhgkgmlihaaBitsB
namespace Go.Proofs.Ytponlhgkgmlihaa
open Go.RowKit

theorem ofInt64 (a : Nat) (ha : a < 9223372036854775808) : (BitVec.ofInt 64 (a : Int)).toNat = a := by
  rw [BitVec.ofInt_natCast, BitVec.toNat_ofNat]; exact Nat.mod_eq_of_lt (by omega)
theorem or64 (a b : Nat) (ha : a < 9223372036854775808) (hb : b < 9223372036854775808) : bits .or .i64 (a : Int) (b : Int) = ((a ||| b : Nat) : Int) := by
  have hx : a ||| b < 2 ^ 63 := Nat.or_lt_two_pow (by omega) (by omega)
  show IntKind.i64.wrap ((BitVec.ofInt 64 (a : Int) ||| BitVec.ofInt 64 (b : Int)).toNat : Int) = _
  rw [BitVec.toNat_or, ofInt64 a ha, ofInt64 b hb, IntKind.wrap_i64]
  omega

theorem pow16 (k : Nat) (h : k ≤ 16) : 2 ^ k ≤ 65536 := Nat.pow_le_pow_right (n := 2) (by omega) h
theorem shl_one (k : Nat) (h : k ≤ 16) : wrap64 ((2 : Int) ^ k) = ((2 ^ k : Nat) : Int) := by
  have := pow16 k h
  have e : ((2 : Int) ^ k) = ((2 ^ k : Nat) : Int) := by simp
  rw [e]
  generalize 2 ^ k = m at this ⊢
  exact IntWalk.wrap64_in _ (by omega)

/-- The set at a place. -/
def atB (links most place : Int) : Int := if 0 ≤ place ∧ place < (countB links most : Nat) then ((allS links.toNat ((min most links).toNat + 1))[place.toNat]?.getD 0 : Nat) else -1

theorem allS_in (n : Nat) : ∀ (k p r : Nat), (allS n k)[p]? = some r → ∀ (s pl : Nat), p = sumC n s + pl → s < k → pl < chN n s → (combos n s 0 0)[pl]? = some r
  | 0, p, r, h, s, pl, hp, hs, hl => by omega
  | k + 1, p, r, h, s, pl, hp, hs, hl => by
    have h' : (allS n k ++ combos n k 0 0)[p]? = some r := h
    by_cases e : s = k
    · subst e
      rw [List.getElem?_append_right (by rw [allS_len]; omega), allS_len] at h'
      rwa [show p - sumC n s = pl from by omega] at h'
    · have hle : sumC n s + chN n s ≤ sumC n k := by
        have : ∀ d, sumC n (s + 1) ≤ sumC n (s + 1 + d) := fun d => by
          induction d with
          | zero => exact Nat.le_refl _
          | succ d ih => exact Nat.le_trans ih (by show sumC n (s + 1 + d) ≤ sumC n (s + 1 + d) + chN n (s + 1 + d); omega)
        have := this (k - (s + 1))
        rw [show s + 1 + (k - (s + 1)) = k from by omega] at this
        exact this
      rw [List.getElem?_append_left (by rw [allS_len]; omega)] at h'
      exact allS_in n k p r h' s pl hp (by omega) hl

end Go.Proofs.Ytponlhgkgmlihaa
