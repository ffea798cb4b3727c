/-
  bits.Rank, whatever it is asked.
-/
import Derived.Test.YtfnjpgkoccefbaaRank
namespace Go.Proofs.Ytfnjpgkoccefbaa
open Go.RowKit

/-- The place of a set. -/
def rankB (links most f : Int) : Int :=
  if 0 ≤ links ∧ links ≤ 16 ∧ 0 ≤ f ∧ f < ((2 ^ links.toNat : Nat) : Int) ∧ ((linksB f).length : Int) ≤ most then (rankL links.toNat (linksB f) : Nat) else -1

set_option maxRecDepth 100000 in
set_option maxHeartbeats 800000 in
theorem Rank_no (links most f : Int) (w : World) (h : ¬ (0 ≤ links ∧ links ≤ 16 ∧ 0 ≤ f ∧ f < ((2 ^ links.toNat : Nat) : Int) ∧ ((linksB f).length : Int) ≤ most)) :
    Calls Try.prog 28 #[.int .i64 links, .int .i64 most, .int .i64 f] w fun e w' => e = .returned (.int .i64 (-1)) ∧ Below w.heap.size w w' := by
  have hb : Below w.heap.size w (w.alloc (.cells #[.int .i64 links] 3)) := (Below.refl w.heap.size w).alloc (Nat.le_refl _) _
  by_cases h0 : links < 0
  · clear h
    go_enter Try.func28, Try.ntmps28
    go_wp2
    go_ret
    exact ⟨rfl, hb⟩
  · have h0' : 0 ≤ links := by omega
    by_cases h1 : 16 < links
    · clear h
      go_enter Try.func28, Try.ntmps28
      go_wp2
      go_ret
      exact ⟨rfl, hb⟩
    · have h1' : links ≤ 16 := by omega
      by_cases h2 : f < 0
      · clear h
        go_enter Try.func28, Try.ntmps28
        go_wp2
        go_ret
        exact ⟨rfl, hb⟩
      · have h2' : 0 ≤ f := by omega
        obtain ⟨n, rfl⟩ := Int.eq_ofNat_of_zero_le h0'
        rw [Int.toNat_natCast] at h
        by_cases h3 : f < ((2 ^ n : Nat) : Int)
        · have h4 : most < ((linksB f).length : Int) := by omega
          have hd1 : decide (wrap64 ((2 : Int) ^ n) ≤ f) = false := by rw [shl_one n (by omega)]; exact decide_eq_false (by omega)
          clear h h3
          go_enter Try.func28, Try.ntmps28
          go_wp2_with (go_at_call 13; refine (Size_acc _ hb (Nat.le_refl _)).mono ?_; clear hb; rintro e w' ⟨rfl, hb⟩)
          go_ret
          exact ⟨rfl, hb⟩
        · have hd1 : decide (wrap64 ((2 : Int) ^ n) ≤ f) = true := by rw [shl_one n (by omega)]; exact decide_eq_true (by omega)
          clear h h3
          go_enter Try.func28, Try.ntmps28
          go_wp2
          go_ret
          exact ⟨rfl, hb⟩

theorem Rank_any (links most f : Int) (w : World) :
    Calls Try.prog 28 #[.int .i64 links, .int .i64 most, .int .i64 f] w fun e w' => e = .returned (.int .i64 (rankB links most f)) ∧ Below w.heap.size w w' := by
  by_cases h : 0 ≤ links ∧ links ≤ 16 ∧ 0 ≤ f ∧ f < ((2 ^ links.toNat : Nat) : Int) ∧ ((linksB f).length : Int) ≤ most
  · have e : rankB links most f = (rankL links.toNat (linksB f) : Nat) := by unfold rankB; rw [if_pos h]
    rw [e]
    obtain ⟨h0, h1, h2, h3, h4⟩ := h
    obtain ⟨n, rfl⟩ := Int.eq_ofNat_of_zero_le h0
    obtain ⟨f, rfl⟩ := Int.eq_ofNat_of_zero_le h2
    rw [Int.toNat_natCast] at h3 ⊢
    exact Rank_yes n most f w (by omega) (by exact_mod_cast h3) h4
  · have e : rankB links most f = -1 := by unfold rankB; rw [if_neg h]
    rw [e]
    exact Rank_no links most f w h

end Go.Proofs.Ytfnjpgkoccefbaa
