/-
  bits.Of: the set of a list.
-/
import Derived.Laws.OwnMore
import Derived.Deep.AppendLies
import Derived.Deep.Draws
import Derived.Test.YtponlhgkgmlihaaBitsC
namespace Go.Proofs.Ytponlhgkgmlihaa
open Go.RowKit

/-- The set of those numbers of a list that are links. -/
def ofB (l : List Int) : Nat := l.foldl (fun f x => if 0 ≤ x ∧ x < 16 then f ||| 2 ^ x.toNat else f) 0
theorem ofB_snoc_yes (l : List Int) (x : Int) (h : 0 ≤ x ∧ x < 16) : ofB (l ++ [x]) = ofB l ||| 2 ^ x.toNat := by simp [ofB, h]
theorem ofB_snoc_no (l : List Int) (x : Int) (h : ¬ (0 ≤ x ∧ x < 16)) : ofB (l ++ [x]) = ofB l := by simp only [ofB, List.foldl_append, List.foldl_cons, List.foldl_nil, if_neg h]
theorem ofB_lt_aux : ∀ (l : List Int) (f : Nat), f < 2 ^ 16 → l.foldl (fun f x => if 0 ≤ x ∧ x < 16 then f ||| 2 ^ x.toNat else f) f < 2 ^ 16
  | [], _, h => h
  | x :: l, f, h => by
    refine ofB_lt_aux l _ ?_
    dsimp only
    by_cases hx : 0 ≤ x ∧ x < 16
    · rw [if_pos hx]
      exact Nat.or_lt_two_pow h (Nat.pow_lt_pow_right (by omega) (by omega))
    · rw [if_neg hx]; exact h
theorem ofB_lt (l : List Int) : ofB l < 65536 := ofB_lt_aux l 0 (by omega)

/-- A slice's cells are these numbers; they lie below block B. -/
def IntsAt (w : World) (B : Nat) (A : Option Addr) (xs : List Int) : Prop :=
  xs ≠ [] → ∃ ad : Addr, A = some ad ∧ ad.block < B ∧ ∀ j x, xs[j]? = some x → w.cell? (ad.add j) = some (.int .i64 x)

theorem IntsAt.nil (w : World) (B : Nat) (A : Option Addr) : IntsAt w B A [] := fun h => absurd rfl h
theorem addr_block (a : Addr) (n : Nat) : (a.add n).block = a.block := by unfold Addr.add; split <;> rfl
theorem IntsAt.below {w w' : World} {B : Nat} {A : Option Addr} {xs : List Int} (h : IntsAt w B A xs) (hb : Below B w w') : IntsAt w' B A xs := fun hn => by
  obtain ⟨ad, e, hl, hc⟩ := h hn
  exact ⟨ad, e, hl, fun j x hx => (hb.cell (by rw [addr_block]; exact hl)).trans (hc j x hx)⟩
theorem IntsAt.more {w : World} {B B' : Nat} {A : Option Addr} {xs : List Int} (h : IntsAt w B A xs) (hB : B ≤ B') : IntsAt w B' A xs := fun hn => by
  obtain ⟨ad, e, hl, hc⟩ := h hn
  exact ⟨ad, e, by omega, hc⟩
theorem IntsAt.at_ {w : World} {B : Nat} {A : Option Addr} {xs : List Int} (h : IntsAt w B A xs) {k : Nat} (hk : k < xs.length) : ∃ ad : Addr, A = some ad ∧ w.cell? (ad.add k) = some (.int .i64 xs[k]) := by
  obtain ⟨ad, e, _, hc⟩ := h (fun e => by rw [e] at hk; exact absurd hk (Nat.not_lt_zero _))
  exact ⟨ad, e, hc k _ (List.getElem?_eq_getElem hk)⟩

set_option maxHeartbeats 800000 in
theorem Of_any (A : Option Addr) (c : Nat) (xs : List Int) (B : Nat) (w : World) (hr : IntsAt w B A xs) (hm : xs.length ≤ 9223372036854775807) :
    Calls Try.prog 25 #[.slice A xs.length c] w fun e w' => e = .returned (.int .i64 (ofB xs : Nat)) ∧ w = w' := by
  go_enter Try.func25, Try.ntmps25
  go_wp2
  go_loop [3, 8] (fun g i => ∃ k : Nat, k ≤ xs.length ∧ i = .int .i64 k ∧ g = .int .i64 (ofB (xs.take k) : Nat)) (fun _ i => xs.length - (intOf i).toNat)
  case atStart => exact ⟨0, by omega, rfl, rfl⟩
  case round =>
    obtain ⟨k, hk, rfl, rfl⟩ := hrel
    by_cases hlt : k < xs.length
    · have hts : xs.take (k + 1) = xs.take k ++ [xs[k]] := by rw [List.take_succ_eq_append_getElem hlt]
      obtain ⟨ad, rfl, hc⟩ := hr.at_ hlt
      have hl := ofB_lt (xs.take k)
      obtain ⟨x, hx⟩ : ∃ x, xs[k] = x := ⟨_, rfl⟩
      rw [hx] at hc hts
      by_cases hlk : 0 ≤ x ∧ x < 16
      · have HS := Lib.hid (show ofB (xs.take (k + 1)) = ofB (xs.take k) ||| 2 ^ x.toNat by rw [hts, ofB_snoc_yes _ _ hlk])
        have hp := pow16 x.toNat (by omega)
        have HO := Lib.hid (or64 (ofB (xs.take k)) (2 ^ x.toNat) (by omega) (by omega))
        have HL := Lib.hid hlk
        obtain ⟨h0, h1⟩ := hlk
        clear hts hx hr
        go_wp2_with (go_at_call 37; refine (isLink_yes _ _ HL.out).mono ?_; rintro e w' ⟨rfl, rfl⟩)
        go_round
        case rel => exact ⟨k + 1, by omega, by go_num, by rw [HS.out, shl_one _ (by omega), HO.out]⟩
        case measure => simp [intOf]; omega
      · have HS := Lib.hid (show ofB (xs.take (k + 1)) = ofB (xs.take k) by rw [hts, ofB_snoc_no _ _ hlk])
        have HL := Lib.hid hlk
        clear hts hx hr hlk
        go_wp2_with (go_at_call 37; refine (isLink_no _ _ HL.out).mono ?_; rintro e w' ⟨rfl, rfl⟩)
        go_round
        case rel => exact ⟨k + 1, by omega, by go_num, by rw [HS.out]⟩
        case measure => simp [intOf]; omega
    · go_wp2
      go_ret
      exact ⟨ret_int (by rw [List.take_of_length_le (by omega)]), rfl⟩

end Go.Proofs.Ytponlhgkgmlihaa
