/-
  The iterator of a set's links: its maker, and what it gives to whatever loop.
-/
import Derived.RangeFuncNested
import Derived.RangeFuncBound
import Derived.RangeFuncCalls
import Derived.RangeFuncLeaves
import Derived.Shelf.Abstract
import Derived.Shelf.RegionOpen
import Derived.WalkKit
import Derived.OwnWalkIn
import Derived.TacticsInMore
import Derived.LoopNIn
import Derived.LoopIn
import Derived.Outline
import Derived.Test.YtponlhgkgmlihaaBitsA
namespace Go.Proofs.Ytponlhgkgmlihaa
open Go.RowKit Go.Shelf
attribute [local go_sem] Oper.semAt_some

theorem each_any (f : Int) (w : World) :
    Calls Try.prog 39 #[.int .i64 f] w fun e w' => e = .returned (.func (.func 53) #[] #[.pointer (some ⟨w.heap.size, 0, none⟩)]) ∧ w.alloc (.cells #[.int .i64 f] 3) = w' := by
  go_enter Try.func39, Try.ntmps39
  go_wp2
  go_ret
  exact ⟨rfl, rfl⟩

/-- What the iterator asks a round to keep: its own box. -/
def KeepsBox (B : Nat) (W W' : World) : Prop := ∀ t v, Boxed W B t v → Boxed W' B t v
theorem KeepsBox.refl (B : Nat) (W : World) : KeepsBox B W W := fun _ _ h => h
theorem KeepsBox.trans {B : Nat} {X Y Z : World} (h : KeepsBox B X Y) (k : KeepsBox B Y Z) : KeepsBox B X Z := fun t v hb => k t v (h t v hb)

/-- What a loop brings to the iterator: a word for between the rounds, a word for a loop that is left, and the round. -/
def RoundOf {α : Type} (v : α → Nat) (B l : Nat) (n : Nat) (J Jx : List α → World → Prop) : Prop :=
  ∀ pre x W, J pre W → pre.length < 16 → YieldAt Fence.wide (n - 1) Try.prog l #[.int .i64 (v x : Nat)] W fun e W' =>
      (e = .returned (.bool true) ∧ J (pre ++ [x]) W' ∧ KeepsBox B W W') ∨ (e = .returned (.bool false) ∧ Jx (pre ++ [x]) W')

set_option maxHeartbeats 1000000 in
theorem each1_in {α : Type} (v : α → Nat) (mk : (i : Nat) → i < 16 → α) (hmk : ∀ i h, v (mk i h) = i) (n : Nat) (hn : 1 ≤ n) (l B : Nat) (f : Int) (J Jx : List α → World → Prop) (hY : RoundOf v B l n J Jx)
    (W : World) (hB : Boxed W B 3 (.int .i64 f)) (h0 : J [] W) :
    CallsIn Fence.wide n Try.prog 53 #[.func (.yield l) #[] #[], .pointer (some ⟨B, 0, none⟩)] W fun e W' => (∃ v, e = .returned v) ∧
      ((∃ ys : List α, ys.map v = setB f ∧ J ys W') ∨ (∃ pre : List α, pre.map v <+: setB f ∧ Jx pre W')) := by
  refine callsIn_of_wp Try.func53 rfl trivial ?_ rfl
  simp only [Try.ntmps53, List.size_toArray, List.length_cons, List.length_nil, Nat.reduceAdd, Nat.reduceSub, Array.replicate_succ, Array.replicate_zero, List.push_toArray, List.append_toArray, List.nil_append, List.cons_append]
  gi_wp2
  gi_loopw [4] (fun p wr => ∃ j : Nat, j ≤ 16 ∧ p = .int .i64 j ∧ Boxed wr B 3 (.int .i64 f) ∧ J (uptoA mk f j) wr)
    (fun p _ => 16 - (intOf p).toNat)
  case atStart =>
    exact ⟨0, by omega, rfl, hB, h0⟩
  case round =>
    obtain ⟨j, hj, rfl, hb, hJ⟩ := hrel
    by_cases hlt : j < 16
    · have hlen := uptoA_len mk f j
      have hc := hb.cell
      cases hh : hasB f (j : Int) with
      | false =>
        have hnext := uptoA_no mk f j hh
        have HN := Lib.hid hnext
        have HH := Lib.hid hh
        clear hh hnext
        gi_wp2_with (refine ⟨trivial, ?_⟩; gi_at_call 27; refine (callsIn_wide.2 (Has_is _ _ false HH _)).mono ?_; rintro e w' ⟨rfl, rfl⟩)
        refine ⟨fun _ h => (by cases h), ?_⟩
        gi_wp2
        go_roundw
        case rel => exact ⟨j + 1, by omega, by go_num, hb, by rw [HN.out]; exact hJ⟩
        case measure => simp [intOf]; omega
      | true =>
        have hnext := uptoA_yes mk f j hlt hh
        have HN := Lib.hid hnext
        have HH := Lib.hid hh
        clear hh hnext
        obtain ⟨fn, tmps, assign, body, hy, hR⟩ := hY (uptoA mk f j) (mk j hlt) wr hJ (by omega)
        rw [hmk j hlt] at hy
        have HM := Lib.hid hmk
        clear hmk
        gi_wp2_with (refine ⟨trivial, ?_⟩; gi_at_call 27; refine (callsIn_wide.2 (Has_is _ _ true HH _)).mono ?_; rintro e w' ⟨rfl, rfl⟩)
        refine hR.mono ?_
        rintro e W3 (⟨rfl, hJ3, hk3⟩ | ⟨rfl, hJx3⟩)
        · have hb3 := hk3 _ _ hb
          gi_wp2
          go_roundw
          case rel => exact ⟨j + 1, by omega, by go_num, hb3, by rw [HN.out]; exact hJ3⟩
          case measure => simp [intOf]; omega
        · gi_wp2
          refine bodyPost_ret (results_none rfl _ _ _) rfl ?_
          exact ⟨⟨_, rfl⟩, .inr ⟨_, by rw [← HN.out, uptoA_map v mk HM.out f (j + 1) (by omega)]; exact uptoB_pre f (by omega), hJx3⟩⟩
    · gi_wp2
      go_end0
      obtain rfl : j = 16 := by omega
      exact ⟨⟨_, rfl⟩, .inl ⟨_, uptoA_map v mk hmk f 16 (by omega), hJ⟩⟩

/-- The iterator's value, in the world behind its making and later. -/
theorem each_gives {α : Type} (v : α → Nat) (mk : (i : Nat) → i < 16 → α) (hmk : ∀ i h, v (mk i h) = i) (n : Nat) (hn : 1 ≤ n) (B : Nat) (f : Int) (w : World) (hB : Boxed w B 3 (.int .i64 f)) :
    SeqStopsK Fence.wide n Try.prog 53 #[.pointer (some ⟨B, 0, none⟩)] (fun x : α => #[.int .i64 (v x : Int)]) (KeepsBox B)
      (fun xs => xs.map v = setB f) (fun pre => pre.map v <+: setB f) 16 w := fun l J Jx W hW _ _ hY h0 => by
  have hB' : Boxed W B 3 (.int .i64 f) := (hW.block B hB.lt).trans hB
  exact each1_in v mk hmk n hn l B f J Jx hY W hB' h0

theorem each_stops (n : Nat) (hn : 1 ≤ n) (B : Nat) (f : Int) (w : World) (hB : Boxed w B 3 (.int .i64 f)) :
    SeqStopsK Fence.wide n Try.prog 53 #[.pointer (some ⟨B, 0, none⟩)] (fun x : Nat => #[.int .i64 (x : Int)]) (KeepsBox B)
      (fun xs => xs = setB f) (fun pre => pre <+: setB f) 16 w := by
  have h := each_gives (fun x : Nat => x) (fun i _ => i) (fun _ _ => rfl) n hn B f w hB
  simpa using h

end Go.Proofs.Ytponlhgkgmlihaa
