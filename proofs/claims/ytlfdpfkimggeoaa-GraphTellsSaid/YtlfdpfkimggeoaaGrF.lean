/-
  The laws of layer 5: their awake, and how they pick.
-/
import Derived.Test.YtlfdpfkimggeoaaGrE
import Derived.Test.YtlfdpfkimggeoaaPlZb
namespace Go.Proofs.Ytlfdpfkimggeoaa
open Go.RowKit
set_option linter.unusedVariables false

theorem pick5_any (c n : Int) (hc : InI c) (h0 : 0 < n) (hn : n ≤ 9223372036854775807) (w : World) :
    Calls Try.prog 9 #[.int .i64 c, .int .i64 n] w fun e w' => e = .returned (.int .i64 (pickN c n)) ∧ w = w' := by
  obtain ⟨h1, h2⟩ := hc
  have hz : ¬ n = 0 := by omega
  by_cases h : c < 0
  · have hp : pickN c n = (-(c + 1)) % n := by unfold pickN; rw [if_pos h]
    have H := Lib.hid hp
    have b1 : 0 ≤ -(c + 1) := by omega
    have b2 : -(c + 1) ≤ 9223372036854775807 := by omega
    clear hp
    go_enter Try.func9, Try.ntmps9
    go_wp2
    go_ret
    exact ⟨ret_int (by rw [H.out, ← Int.neg_tmod, Int.tmod_eq_emod_of_nonneg b1]), rfl⟩
  · have hp : pickN c n = c % n := by unfold pickN; rw [if_neg h]
    have H := Lib.hid hp
    have b1 : 0 ≤ c := by omega
    clear hp
    go_enter Try.func9, Try.ntmps9
    go_wp2
    go_ret
    exact ⟨ret_int H.out.symm, rfl⟩
theorem pick5_is (c n v : Int) (hc : InI c) (h0 : 0 < n) (hn : n ≤ 9223372036854775807) (H : Hid (pickN c n = v)) (w : World) :
    Calls Try.prog 9 #[.int .i64 c, .int .i64 n] w fun e w' => e = .returned (.int .i64 v) ∧ w = w' :=
  (pick5_any c n hc h0 hn w).mono fun _ _ ⟨he, hw⟩ => ⟨by rw [he, H.out], hw⟩

/-- The chapter's example. -/
def exG : PPlan := ⟨1, 0, 0, [⟨⟨#[97]⟩, 1⟩, ⟨⟨#[98]⟩, 2⟩, ⟨⟨#[99]⟩, 3⟩], [⟨0, 1, 3⟩, ⟨1, 2, 1⟩], [], []⟩
theorem exG_small : PSmall exG := ⟨by decide, by decide, by decide, by decide, by decide, by decide⟩
theorem exG_right : Hid (rightB exG = true) := Lib.hid (by kernel_rfl)
theorem exG_cuts : Hid (cutsB exG 0 = [0, 1]) := Lib.hid (by kernel_rfl)
theorem exG_reach : Hid (reachB exG 1 2 = [1, 2]) := Lib.hid (by kernel_rfl)
theorem exG_around : Hid (aroundB exG 0 1 = [0, 1]) := Lib.hid (by kernel_rfl)
theorem exG_hops0 : Hid (hopsB exG 0 0 2 = 2) := Lib.hid (by kernel_rfl)
theorem exG_hops2 : Hid (hopsB exG 2 0 2 = -1) := Lib.hid (by kernel_rfl)
theorem exG_other1 : Hid (otherB exG 1 1 = 2) := Lib.hid (by kernel_rfl)
theorem exG_other0 : Hid (otherB exG 1 0 = -1) := Lib.hid (by kernel_rfl)
theorem two_len (a b : Nat) : Hid ([a, b].length = 2) := Lib.hid rfl
theorem RowAt.of_blkG {w : World} {g : Nat} {t : TypeId} {cs : Array Value} (h : Blk w g t cs) : RowAt w w.heap.size (some ⟨g, 0, none⟩) cs.toList := fun _ => ⟨g, rfl, h.lt, fun j u hu => by rw [h.cell, ← hu]; simp⟩
/-- The example in memory. -/
structure ExGSt (w0 : World) (gn gl gp : Nat) (w : World) : Prop where
  bn : Blk w gn 56 #[.string ⟨#[97]⟩, .int .i64 1, .string ⟨#[98]⟩, .int .i64 2, .string ⟨#[99]⟩, .int .i64 3]
  bl : Blk w gl 53 #[.int .i64 0, .int .i64 1, .int .i64 3, .int .i64 1, .int .i64 2, .int .i64 1]
  bp : Blk w gp 29 #[.int .i64 1, .int .i64 0, .int .i64 0, .slice (some ⟨gn, 0, none⟩) 3 3, .slice (some ⟨gl, 0, none⟩) 2 2, .slice none 0 0, .slice none 0 0]
  up : Below w0.heap.size w0 w
theorem ExGSt.go {w0 : World} {gn gl gp : Nat} {w w' : World} (h : ExGSt w0 gn gl gp w) (hb : Below w.heap.size w w') : ExGSt w0 gn gl gp w' :=
  ⟨h.bn.up hb, h.bl.up hb, h.bp.up hb, h.up.trans (hb.mono h.up.size)⟩
theorem ExGSt.p {w0 : World} {gn gl gp : Nat} {w : World} (h : ExGSt w0 gn gl gp w) : PAt w exG 1 0 0 (some ⟨gn, 0, none⟩) 3 (some ⟨gl, 0, none⟩) 2 none 0 none 0 :=
  ⟨rfl, rfl, rfl, rfl, rfl, rfl, rfl, RowAt.of_blkG h.bn, RowAt.of_blkG h.bl, ⟨[], rfl, RowAt.nil _ _ _, fun i d q e1 => by simp [exG] at e1⟩, RowAt.nil _ _ _⟩
theorem ExGSt.start (w : World) : ExGSt w w.heap.size (w.heap.size + 1) (w.heap.size + 1 + 1) (((w.alloc (.cells #[.string ⟨#[97]⟩, .int .i64 1, .string ⟨#[98]⟩, .int .i64 2, .string ⟨#[99]⟩, .int .i64 3] 56)).alloc (.cells #[.int .i64 0, .int .i64 1, .int .i64 3, .int .i64 1, .int .i64 2, .int .i64 1] 53)).alloc (.cells #[.int .i64 1, .int .i64 0, .int .i64 0, .slice (some ⟨w.heap.size, 0, none⟩) 3 3, .slice (some ⟨w.heap.size + 1, 0, none⟩) 2 2, .slice none 0 0, .slice none 0 0] 29)) := by
  refine ⟨((Blk.new w _ _).alloc _).alloc _, ?_, ?_, ((below_new w _).trans ((below_new _ _).mono (by simp))).trans ((below_new _ _).mono (by simp; omega))⟩
  · have := Blk.new (w.alloc (.cells #[.string ⟨#[97]⟩, .int .i64 1, .string ⟨#[98]⟩, .int .i64 2, .string ⟨#[99]⟩, .int .i64 3] 56)) 53 #[.int .i64 0, .int .i64 1, .int .i64 3, .int .i64 1, .int .i64 2, .int .i64 1]
    rw [World.size_alloc] at this
    exact this.alloc _
  · have := Blk.new ((w.alloc (.cells #[.string ⟨#[97]⟩, .int .i64 1, .string ⟨#[98]⟩, .int .i64 2, .string ⟨#[99]⟩, .int .i64 3] 56)).alloc (.cells #[.int .i64 0, .int .i64 1, .int .i64 3, .int .i64 1, .int .i64 2, .int .i64 1] 53)) 29 #[.int .i64 1, .int .i64 0, .int .i64 0, .slice (some ⟨w.heap.size, 0, none⟩) 3 3, .slice (some ⟨w.heap.size + 1, 0, none⟩) 2 2, .slice none 0 0, .slice none 0 0]
    rw [World.size_alloc, World.size_alloc] at this
    exact this
set_option maxHeartbeats 4000000 in
set_option maxRecDepth 100000 in
theorem awake5_any (w : World) : Calls Try.prog 6 #[] w fun e w' => e = .returned (.bool true) ∧ Below w.heap.size w w' := by
  go_enter Try.func6, Try.ntmps6
  have hE0 := ExGSt.start w
  go_wp2_with (first
    | (go_at_call 19; (with_reducible refine (Cuts_ok 0 [0, 1] 2 exG_cuts (two_len _ _) exG_right exG_small hE0.p).mono ?_); rintro e w1 ⟨A1, c1, rfl, ho1, hb1⟩; have hE1 := hE0.go hb1; obtain ⟨a0, a1, a2, a3, a4, a5, a6⟩ := box7 hE1.bp)
    | (go_at_call 15; (with_reducible refine (Reach_ok 1 2 [1, 2] 2 exG_reach (two_len _ _) exG_right exG_small hE1.p).mono ?_); rintro e w2 ⟨A2, c2, rfl, ho2, hb2⟩; obtain ⟨gr, capr, hvr, _⟩ := own_slice ho2 (by omega); injection hvr with hvr _ _; subst hvr; have hr0 := RowAt.of_own ho2; have hE2 := hE1.go hb2; obtain ⟨b0, b1, b2, b3, b4, b5, b6⟩ := box7 hE2.bp)
    | (go_at_call 11; (with_reducible refine (Around_ok 0 1 [0, 1] 2 exG_around (two_len _ _) exG_right exG_small hE2.p).mono ?_); rintro e w3 ⟨A3, c3, rfl, ho3, hb3⟩; have hr3 := hr0.up hb3; have hE3 := hE2.go hb3; obtain ⟨c0', c1', c2', c3', c4', c5', c6'⟩ := box7 hE3.bp)
    | (go_at_call 17; (with_reducible refine (Hops_ok 0 0 2 2 exG_hops0 exG_right exG_small hE3.p).mono ?_); rintro e w4 ⟨rfl, hb4⟩; have hr4 := hr3.up hb4; have hE4 := hE3.go hb4; obtain ⟨d0, d1, d2, d3, d4, d5, d6⟩ := box7 hE4.bp)
    | (go_at_call 17; (with_reducible refine (Hops_ok 2 0 2 (-1) exG_hops2 exG_right exG_small hE4.p).mono ?_); rintro e w5 ⟨rfl, hb5⟩; have hr5 := hr4.up hb5; have hE5 := hE4.go hb5; obtain ⟨e0, e1, e2, e3, e4, e5, e6⟩ := box7 hE5.bp; obtain ⟨g', hg', hg2, hgc⟩ := hr5 (by simp [intCells]); injection hg' with hg'; injection hg' with hg' _ _; subst hg'; have r0 := hgc 0 _ rfl)
    | (go_at_call 13; (with_reducible refine (Other_ok 1 1 2 exG_other1 exG_right exG_small hE5.p).mono ?_); rintro e w6 ⟨rfl, hb6⟩; have hE6 := hE5.go hb6; obtain ⟨f0, f1, f2, f3, f4, f5, f6⟩ := box7 hE6.bp)
    | (go_at_call 13; (with_reducible refine (Other_ok 1 0 (-1) exG_other0 exG_right exG_small hE6.p).mono ?_); rintro e w7 ⟨rfl, hb7⟩; have hE7 := hE6.go hb7))
  go_ret
  exact ⟨rfl, hE7.up⟩
end Go.Proofs.Ytlfdpfkimggeoaa
