/-
  BitsCounts, its walk.
-/
import Derived.Test.YtfnjpgkoccefbaaLawKit
namespace Go.Proofs.Ytfnjpgkoccefbaa
open Go.RowKit Go.Sort

theorem counts_sum (n m : Nat) (hn : n < 16) (hm : m < 17) : (countB ((n : Int) + 1) m : Int) = (countB n m : Int) + (countB n ((m : Int) - 1) : Int) ∧ (countB n n : Int) = ((2 ^ n : Nat) : Int) ∧ countB n 0 = 1 ∧ countB n (-1) = 0 ∧ countB 17 m = 0 ∧ countB n m ≤ 65536 ∧ countB n ((m : Int) - 1) ≤ 65536 := by
  have h : ∀ n : Nat, n < 16 → ∀ m : Nat, m < 17 → (countB ((n : Int) + 1) m : Int) = (countB n m : Int) + (countB n ((m : Int) - 1) : Int) ∧ (countB n n : Int) = ((2 ^ n : Nat) : Int) ∧ countB n 0 = 1 ∧ countB n (-1) = 0 ∧ countB 17 m = 0 ∧ countB n m ≤ 65536 ∧ countB n ((m : Int) - 1) ≤ 65536 := by decide +kernel
  exact h n hn m hm

set_option maxRecDepth 100000 in
set_option maxHeartbeats 1000000 in
theorem BitsCounts_walk (a0 a1 : Int) (w0 : (Lit.int .i64 a0).wf = true) (w1 : (Lit.int .i64 a1).wf = true) (w : World) :
    Calls Try.prog 8 #[.int .i64 a0, .int .i64 a1] w fun e w' => e = .returned (.bool true) ∧ Below w.heap.size w w' := by
  obtain ⟨r1, r2⟩ := wf_range w0
  obtain ⟨r3, r4⟩ := wf_range w1
  obtain ⟨p1, p2⟩ := pickN_in a0 16 (by omega)
  obtain ⟨p3, p4⟩ := pickN_in a1 17 (by omega)
  obtain ⟨n, hn⟩ := Int.eq_ofNat_of_zero_le p1
  obtain ⟨m, hm⟩ := Int.eq_ofNat_of_zero_le p3
  have hc1 : ∀ W, Calls Try.prog 12 #[.int .i64 a0, .int .i64 16] W fun e w' => e = .returned (.int .i64 (n : Int)) ∧ W = w' := fun W => hn ▸ pick_any a0 16 W (by omega) r1 r2 (by omega)
  have hc2 : ∀ W, Calls Try.prog 12 #[.int .i64 a1, .int .i64 17] W fun e w' => e = .returned (.int .i64 (m : Int)) ∧ W = w' := fun W => hm ▸ pick_any a1 17 W (by omega) r3 r4 (by omega)
  rw [hn] at p2
  rw [hm] at p4
  obtain ⟨h1, h2, h3, h4, h5, h6, h7⟩ := counts_sum n m (by omega) (by omega)
  have H1 := Lib.hid hc1
  have H2 := Lib.hid hc2
  have hb := Below.refl w.heap.size w
  have g1 : ((countB ((n : Int) + 1) (m : Int) : Int) == (countB (n : Int) (m : Int) : Int) + (countB (n : Int) ((m : Int) - 1) : Int)) = true := beq_iff_eq.2 h1
  have g2 : ((countB (n : Int) (n : Int) : Int) == wrap64 ((2 : Int) ^ n)) = true := by rw [shl_one n (by omega)]; exact beq_iff_eq.2 h2
  have g3 : ((countB (n : Int) 0 : Int) == 1) = true := by rw [h3]; rfl
  have g4 : ((countB (n : Int) (-1) : Int) == 0) = true := by rw [h4]; rfl
  have g5 : ((countB 17 (m : Int) : Int) == 0) = true := by rw [h5]; rfl
  clear hc1 hc2 hn hm h1 h2 h3 h4 h5
  go_enter Try.func8, Try.ntmps8
  go_wp2_with (first
    | (go_at_call 11; refine (awake_acc hb (Nat.le_refl _)).mono ?_; clear hb; rintro e w1 ⟨rfl, hb⟩)
    | (go_at_call 12; ((with_reducible refine (H1.out _).mono ?_); rintro e w2 ⟨rfl, rfl⟩))
    | (go_at_call 12; ((with_reducible refine (H2.out _).mono ?_); rintro e w2 ⟨rfl, rfl⟩)))
  have hmx : Try.prog.follows .mixedOrders = true := by kernel_rfl
  refine wp_region_quiet_below hmx (by kernel_rfl) ?_
  repeat (any_goals (first
    | go_big_quiet_step ((go_at_call 24; exact open_same rfl (Count_any _ _ _)))
    | quiet_step ((go_at_call 24; exact open_same rfl (Count_any _ _ _)))))
  refine wpQuiet_nil ?_
  intro _ hw'
  obtain ⟨⟨dq, osq⟩, hw''⟩ := hw'
  subst hw''
  go_wp2
  go_ret
  exact ⟨rfl, hb.trans ((below_regrown _ dq osq).mono hb.size)⟩

end Go.Proofs.Ytfnjpgkoccefbaa
