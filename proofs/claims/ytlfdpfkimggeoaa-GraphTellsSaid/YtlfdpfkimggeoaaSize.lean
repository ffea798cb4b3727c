/-
  bits.Size: how many links are in a set.
-/
import Derived.Handy
import Derived.Lib.Hide
import Derived.BigQuiet
import Derived.Test.YtlfdpfkimggeoaaMath
import Derived.Test.YtlfdpfkimggeoaaBase
import Derived.RangeFuncNested
import Derived.RangeFuncBound
import Derived.RangeFuncCalls
import Derived.RangeFuncLeaves
import Derived.Shelf.Abstract
import Derived.Shelf.RegionOpen
import Derived.WalkKit
import Derived.OwnWalkIn
import Derived.TacticsInMore
import Derived.LoopNIn
import Derived.LoopIn
import Derived.Outline
namespace Go.Proofs.Ytlfdpfkimggeoaa
open Go.RowKit

theorem isLink_any (l : Int) (w : World) :
    Calls Try.prog 63 #[.int .i64 l] w fun e w' => e = .returned (.bool (decide (0 ≤ l) && decide (l < 16))) ∧ w = w' := by
  by_cases h0 : 0 ≤ l
  · go_enter Try.func63, Try.ntmps63
    go_wp2
    go_ret
    exact ⟨by simp [h0], rfl⟩
  · have h0' : l < 0 := by omega
    go_enter Try.func63, Try.ntmps63
    go_wp2
    go_ret
    have e : decide (0 ≤ l) = false := by simpa using h0'
    exact ⟨by rw [e]; simp, rfl⟩

/-- One bit of a number. -/
theorem and_one (x : Int) : bits .and .i64 x 1 = x % 2 := by
  show IntKind.i64.wrap ((BitVec.ofInt 64 x &&& BitVec.ofInt 64 1).toNat : Int) = _
  have e : (BitVec.ofInt 64 x &&& BitVec.ofInt 64 1).toNat = (x % 2).toNat := by
    rw [BitVec.toNat_and]
    have h1 : (BitVec.ofInt 64 1).toNat = 2 ^ 1 - 1 := by decide
    rw [h1, Nat.and_two_pow_sub_one_eq_mod, BitVec.toNat_ofInt]
    omega
  rw [e, IntKind.wrap_i64]
  omega

/-- isLink, its answer as one bool. -/
theorem isLink_yes (l : Int) (w : World) (h : 0 ≤ l ∧ l < 16) :
    Calls Try.prog 63 #[.int .i64 l] w fun e w' => e = .returned (.bool true) ∧ w = w' :=
  (isLink_any l w).mono fun e w' ⟨he, hw⟩ => ⟨by rw [he]; simp [h.1, h.2], hw⟩
theorem isLink_no (l : Int) (w : World) (h : ¬ (0 ≤ l ∧ l < 16)) :
    Calls Try.prog 63 #[.int .i64 l] w fun e w' => e = .returned (.bool false) ∧ w = w' :=
  (isLink_any l w).mono fun e w' ⟨he, hw⟩ => ⟨by rw [he, show (decide (0 ≤ l) && decide (l < 16)) = false from by simp; omega], hw⟩

set_option maxHeartbeats 400000 in
theorem Has_any (f l : Int) (w : World) :
    Calls Try.prog 41 #[.int .i64 f, .int .i64 l] w fun e w' => e = .returned (.bool (hasB f l)) ∧ w = w' := by
  by_cases h : 0 ≤ l ∧ l < 16
  · have H := Lib.hid h
    obtain ⟨h0, h1⟩ := h
    go_enter Try.func41, Try.ntmps41
    go_wp2_with (go_at_call 63; refine (isLink_yes _ _ H.out).mono ?_; rintro e w' ⟨rfl, rfl⟩)
    go_ret
    exact ⟨ret_bool (by rw [and_one]; simp [hasB, h0, h1]; rfl), rfl⟩
  · have H := Lib.hid h
    clear h
    go_enter Try.func41, Try.ntmps41
    go_wp2_with (go_at_call 63; refine (isLink_no _ _ H.out).mono ?_; rintro e w' ⟨rfl, rfl⟩)
    go_ret
    exact ⟨ret_bool (by have h := H.out; symm; simp [hasB]; omega), rfl⟩

/-- Has, its answer named. -/
theorem Has_is (f l : Int) (b : Bool) (H : Hid (hasB f l = b)) (w : World) :
    Calls Try.prog 41 #[.int .i64 f, .int .i64 l] w fun e w' => e = .returned (.bool b) ∧ w = w' :=
  (Has_any f l w).mono fun e w' ⟨he, hw⟩ => ⟨by rw [he, show hasB f l = b from H], hw⟩

/-- The product stays small. -/
theorem chN_prod (n i : Nat) (hn : n ≤ 16) (hi : i ≤ 20) : -300000 ≤ (chN n i : Int) * ((n : Int) - (i : Int)) ∧ (chN n i : Int) * ((n : Int) - (i : Int)) ≤ 300000 := by
  have h : ∀ n, n < 17 → ∀ i, i < 21 → -300000 ≤ (chN n i : Int) * ((n : Int) - (i : Int)) ∧ (chN n i : Int) * ((n : Int) - (i : Int)) ≤ 300000 := by decide +kernel
  exact h n (by omega) i (by omega)

end Go.Proofs.Ytlfdpfkimggeoaa
namespace Go.Proofs.Ytlfdpfkimggeoaa
open Go.RowKit Go.Shelf
attribute [local go_sem] Oper.semAt_some

/-- What the iterator asks a round to keep: its own box. -/
def KeepsBox (B : Nat) (W W' : World) : Prop := ∀ t v, Boxed W B t v → Boxed W' B t v
theorem KeepsBox.refl (B : Nat) (W : World) : KeepsBox B W W := fun _ _ h => h
theorem KeepsBox.trans {B : Nat} {X Y Z : World} (h : KeepsBox B X Y) (k : KeepsBox B Y Z) : KeepsBox B X Z := fun t v hb => k t v (h t v hb)

/-- What a loop brings to the iterator: a word for between the rounds, a word for a loop that is left, and the round. -/
def RoundOf {α : Type} (v : α → Nat) (B l : Nat) (n : Nat) (J Jx : List α → World → Prop) : Prop :=
  ∀ pre x W, J pre W → pre.length < 16 → YieldAt Fence.wide (n - 1) Try.prog l #[.int .i64 (v x : Nat)] W fun e W' =>
      (e = .returned (.bool true) ∧ J (pre ++ [x]) W' ∧ KeepsBox B W W') ∨ (e = .returned (.bool false) ∧ Jx (pre ++ [x]) W')

end Go.Proofs.Ytlfdpfkimggeoaa
namespace Go.Proofs.Ytlfdpfkimggeoaa
open Go.RowKit Go.Shelf
attribute [local go_sem] Oper.semAt_some

theorem keepsBox_b {w : World} {B : Nat} (W : World) (l : Nat) (o o' : Obj) (_ : w.heap.size ≤ l) (h : W.heap[l]? = some o) (hc : o.isCells = false) (_ : o.isWalk = false) : KeepsBox B W (W.putObj l o') := fun t v hb =>
  hb.kept (grownBy_putObj' W l o') (fun e => by
    cases e
    rw [show W.heap[B]? = _ from hb] at h
    cases h; cases hc)
theorem keepsBox_set (W : World) {B B' : Nat} (hne : B ≠ B') (u : Value) : KeepsBox B W (W.setCell ⟨B', 0, none⟩ u) := fun _ _ hb => hb.other hne u

end Go.Proofs.Ytlfdpfkimggeoaa
