/-
  bits.Of: the set of a list.
-/
import Derived.Test.YtlfdpfkimggeoaaSize
import Derived.Laws.BitsAllLaws
import Derived.Laws.BitsLemmas
import Derived.Test.YtlfdpfkimggeoaaComb
import Derived.Laws.OwnMore
import Derived.Deep.AppendLies
import Derived.Deep.Draws
namespace Go.Proofs.Ytlfdpfkimggeoaa
open Go.RowKit

end Go.Proofs.Ytlfdpfkimggeoaa
namespace Go.Proofs.Ytlfdpfkimggeoaa
open Go.RowKit

theorem ofInt64 (a : Nat) (ha : a < 9223372036854775808) : (BitVec.ofInt 64 (a : Int)).toNat = a := by
  rw [BitVec.ofInt_natCast, BitVec.toNat_ofNat]; exact Nat.mod_eq_of_lt (by omega)
theorem or64 (a b : Nat) (ha : a < 9223372036854775808) (hb : b < 9223372036854775808) : bits .or .i64 (a : Int) (b : Int) = ((a ||| b : Nat) : Int) := by
  have hx : a ||| b < 2 ^ 63 := Nat.or_lt_two_pow (by omega) (by omega)
  show IntKind.i64.wrap ((BitVec.ofInt 64 (a : Int) ||| BitVec.ofInt 64 (b : Int)).toNat : Int) = _
  rw [BitVec.toNat_or, ofInt64 a ha, ofInt64 b hb, IntKind.wrap_i64]
  omega

theorem pow16 (k : Nat) (h : k ≤ 16) : 2 ^ k ≤ 65536 := Nat.pow_le_pow_right (n := 2) (by omega) h
theorem shl_one (k : Nat) (h : k ≤ 16) : wrap64 ((2 : Int) ^ k) = ((2 ^ k : Nat) : Int) := by
  have := pow16 k h
  have e : ((2 : Int) ^ k) = ((2 ^ k : Nat) : Int) := by simp
  rw [e]
  generalize 2 ^ k = m at this ⊢
  exact IntWalk.wrap64_in _ (by omega)

/-- The set at a place. -/
def atB (links most place : Int) : Int := if 0 ≤ place ∧ place < (countB links most : Nat) then ((allS links.toNat ((min most links).toNat + 1))[place.toNat]?.getD 0 : Nat) else -1

theorem allS_in (n : Nat) : ∀ (k p r : Nat), (allS n k)[p]? = some r → ∀ (s pl : Nat), p = sumC n s + pl → s < k → pl < chN n s → (combos n s 0 0)[pl]? = some r
  | 0, p, r, h, s, pl, hp, hs, hl => by omega
  | k + 1, p, r, h, s, pl, hp, hs, hl => by
    have h' : (allS n k ++ combos n k 0 0)[p]? = some r := h
    by_cases e : s = k
    · subst e
      rw [List.getElem?_append_right (by rw [allS_len]; omega), allS_len] at h'
      rwa [show p - sumC n s = pl from by omega] at h'
    · have hle : sumC n s + chN n s ≤ sumC n k := by
        have : ∀ d, sumC n (s + 1) ≤ sumC n (s + 1 + d) := fun d => by
          induction d with
          | zero => exact Nat.le_refl _
          | succ d ih => exact Nat.le_trans ih (by show sumC n (s + 1 + d) ≤ sumC n (s + 1 + d) + chN n (s + 1 + d); omega)
        have := this (k - (s + 1))
        rw [show s + 1 + (k - (s + 1)) = k from by omega] at this
        exact this
      rw [List.getElem?_append_left (by rw [allS_len]; omega)] at h'
      exact allS_in n k p r h' s pl hp (by omega) hl

end Go.Proofs.Ytlfdpfkimggeoaa
namespace Go.Proofs.Ytlfdpfkimggeoaa
open Go.RowKit

/-- The set of those numbers of a list that are links. -/
def ofB (l : List Int) : Nat := l.foldl (fun f x => if 0 ≤ x ∧ x < 16 then f ||| 2 ^ x.toNat else f) 0
theorem ofB_snoc_yes (l : List Int) (x : Int) (h : 0 ≤ x ∧ x < 16) : ofB (l ++ [x]) = ofB l ||| 2 ^ x.toNat := by simp [ofB, h]
theorem ofB_snoc_no (l : List Int) (x : Int) (h : ¬ (0 ≤ x ∧ x < 16)) : ofB (l ++ [x]) = ofB l := by simp only [ofB, List.foldl_append, List.foldl_cons, List.foldl_nil, if_neg h]
theorem ofB_lt_aux : ∀ (l : List Int) (f : Nat), f < 2 ^ 16 → l.foldl (fun f x => if 0 ≤ x ∧ x < 16 then f ||| 2 ^ x.toNat else f) f < 2 ^ 16
  | [], _, h => h
  | x :: l, f, h => by
    refine ofB_lt_aux l _ ?_
    dsimp only
    by_cases hx : 0 ≤ x ∧ x < 16
    · rw [if_pos hx]
      exact Nat.or_lt_two_pow h (Nat.pow_lt_pow_right (by omega) (by omega))
    · rw [if_neg hx]; exact h
theorem ofB_lt (l : List Int) : ofB l < 65536 := ofB_lt_aux l 0 (by omega)

/-- A slice's cells are these numbers; they lie below block B. -/
def IntsAt (w : World) (B : Nat) (A : Option Addr) (xs : List Int) : Prop :=
  xs ≠ [] → ∃ ad : Addr, A = some ad ∧ ad.block < B ∧ ∀ j x, xs[j]? = some x → w.cell? (ad.add j) = some (.int .i64 x)

theorem IntsAt.nil (w : World) (B : Nat) (A : Option Addr) : IntsAt w B A [] := fun h => absurd rfl h
theorem addr_block (a : Addr) (n : Nat) : (a.add n).block = a.block := by unfold Addr.add; split <;> rfl
theorem IntsAt.below {w w' : World} {B : Nat} {A : Option Addr} {xs : List Int} (h : IntsAt w B A xs) (hb : Below B w w') : IntsAt w' B A xs := fun hn => by
  obtain ⟨ad, e, hl, hc⟩ := h hn
  exact ⟨ad, e, hl, fun j x hx => (hb.cell (by rw [addr_block]; exact hl)).trans (hc j x hx)⟩
theorem IntsAt.more {w : World} {B B' : Nat} {A : Option Addr} {xs : List Int} (h : IntsAt w B A xs) (hB : B ≤ B') : IntsAt w B' A xs := fun hn => by
  obtain ⟨ad, e, hl, hc⟩ := h hn
  exact ⟨ad, e, by omega, hc⟩
theorem IntsAt.at_ {w : World} {B : Nat} {A : Option Addr} {xs : List Int} (h : IntsAt w B A xs) {k : Nat} (hk : k < xs.length) : ∃ ad : Addr, A = some ad ∧ w.cell? (ad.add k) = some (.int .i64 xs[k]) := by
  obtain ⟨ad, e, _, hc⟩ := h (fun e => by rw [e] at hk; exact absurd hk (Nat.not_lt_zero _))
  exact ⟨ad, e, hc k _ (List.getElem?_eq_getElem hk)⟩

set_option maxHeartbeats 800000 in
theorem Of_any (A : Option Addr) (c : Nat) (xs : List Int) (B : Nat) (w : World) (hr : IntsAt w B A xs) (hm : xs.length ≤ 9223372036854775807) :
    Calls Try.prog 40 #[.slice A xs.length c] w fun e w' => e = .returned (.int .i64 (ofB xs : Nat)) ∧ w = w' := by
  go_enter Try.func40, Try.ntmps40
  go_wp2
  go_loop [3, 8] (fun g i => ∃ k : Nat, k ≤ xs.length ∧ i = .int .i64 k ∧ g = .int .i64 (ofB (xs.take k) : Nat)) (fun _ i => xs.length - (intOf i).toNat)
  case atStart => exact ⟨0, by omega, rfl, rfl⟩
  case round =>
    obtain ⟨k, hk, rfl, rfl⟩ := hrel
    by_cases hlt : k < xs.length
    · have hts : xs.take (k + 1) = xs.take k ++ [xs[k]] := by rw [List.take_succ_eq_append_getElem hlt]
      obtain ⟨ad, rfl, hc⟩ := hr.at_ hlt
      have hl := ofB_lt (xs.take k)
      obtain ⟨x, hx⟩ : ∃ x, xs[k] = x := ⟨_, rfl⟩
      rw [hx] at hc hts
      by_cases hlk : 0 ≤ x ∧ x < 16
      · have HS := Lib.hid (show ofB (xs.take (k + 1)) = ofB (xs.take k) ||| 2 ^ x.toNat by rw [hts, ofB_snoc_yes _ _ hlk])
        have hp := pow16 x.toNat (by omega)
        have HO := Lib.hid (or64 (ofB (xs.take k)) (2 ^ x.toNat) (by omega) (by omega))
        have HL := Lib.hid hlk
        obtain ⟨h0, h1⟩ := hlk
        clear hts hx hr
        go_wp2_with (go_at_call 63; refine (isLink_yes _ _ HL.out).mono ?_; rintro e w' ⟨rfl, rfl⟩)
        go_round
        case rel => exact ⟨k + 1, by omega, by go_num, by rw [HS.out, shl_one _ (by omega), HO.out]⟩
        case measure => simp [intOf]; omega
      · have HS := Lib.hid (show ofB (xs.take (k + 1)) = ofB (xs.take k) by rw [hts, ofB_snoc_no _ _ hlk])
        have HL := Lib.hid hlk
        clear hts hx hr hlk
        go_wp2_with (go_at_call 63; refine (isLink_no _ _ HL.out).mono ?_; rintro e w' ⟨rfl, rfl⟩)
        go_round
        case rel => exact ⟨k + 1, by omega, by go_num, by rw [HS.out]⟩
        case measure => simp [intOf]; omega
    · go_wp2
      go_ret
      exact ⟨ret_int (by rw [List.take_of_length_le (by omega)]), rfl⟩

end Go.Proofs.Ytlfdpfkimggeoaa
