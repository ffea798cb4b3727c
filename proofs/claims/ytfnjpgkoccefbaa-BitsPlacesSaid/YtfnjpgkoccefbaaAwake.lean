/-
  The statements' first call of layer 1: fixed calls with fixed answers; and the pick of a raw number.
-/
import Derived.Test.YtfnjpgkoccefbaaRankB
import Derived.Test.YtfnjpgkoccefbaaOf
import Derived.Test.YtfnjpgkoccefbaaList
namespace Go.Proofs.Ytfnjpgkoccefbaa
open Go.RowKit

/-- What lies since block B: nothing older has turned; one cell is as it was. -/
structure Kept (B : Nat) (w0 : World) (a : Addr) (v : Value) (w : World) : Prop where
  below : Below B w0 w
  cell : w.cell? a = some v
  lt : a.block < w.heap.size

theorem Kept.step {B : Nat} {w0 : World} {a : Addr} {v : Value} {w w' : World} (h : Kept B w0 a v w) (hB : B ≤ w0.heap.size) (hb : Below w.heap.size w w') : Kept B w0 a v w' :=
  ⟨h.below.trans (hb.mono (Nat.le_trans hB h.below.size)), (hb.cell h.lt).trans h.cell, Nat.lt_of_lt_of_le h.lt hb.size⟩

theorem links10 : linksB 10 = [1, 3] := by decide +kernel
theorem list10 (w : World) : Calls Try.prog 16 #[.int .i64 10] w fun e w' => ∃ g c, e = .returned (.slice (some ⟨g, 0, none⟩) 2 c) ∧ Kept w.heap.size w ⟨g, 0, none⟩ (.int .i64 1) w' :=
  (List_any 10 w).mono fun e w' ⟨v, he, ho, hn, hb⟩ => by
    rw [links10] at ho
    obtain ⟨g, c, rfl⟩ := ownsRow_succ (k := 1) ho
    refine ⟨g, c, he, hb, ?_, ?_⟩
    · exact ho.cells (g := g) rfl 0 _ rfl
    · obtain ⟨g', c', hv, _, hlt⟩ := ho.form (by decide)
      cases hv; exact hlt
theorem size10 (w : World) : Calls Try.prog 13 #[.int .i64 10] w fun e w' => e = .returned (.int .i64 2) ∧ Below w.heap.size w w' :=
  (Size_any 10 w).mono fun e w' ⟨he, hb⟩ => ⟨by rw [he, links10]; rfl, hb⟩
theorem at324 (w : World) : Calls Try.prog 26 #[.int .i64 3, .int .i64 2, .int .i64 4] w fun e w' => e = .returned (.int .i64 3) ∧ w = w' :=
  (At_any 3 2 4 w).mono fun e w' ⟨he, hb⟩ => ⟨by rw [he, show atB 3 2 4 = 3 from by decide +kernel], hb⟩
theorem rank323 (w : World) : Calls Try.prog 28 #[.int .i64 3, .int .i64 2, .int .i64 3] w fun e w' => e = .returned (.int .i64 4) ∧ Below w.heap.size w w' :=
  (Rank_any 3 2 3 w).mono fun e w' ⟨he, hb⟩ => ⟨by rw [he, show rankB 3 2 3 = 4 from by decide +kernel], hb⟩
theorem count32 (w : World) : Calls Try.prog 24 #[.int .i64 3, .int .i64 2] w fun e w' => e = .returned (.int .i64 7) ∧ w = w' :=
  (Count_any 3 2 w).mono fun e w' ⟨he, hb⟩ => ⟨by rw [he, show countB 3 2 = 7 from by decide +kernel]; rfl, hb⟩
theorem before83 (w : World) : Calls Try.prog 20 #[.int .i64 8, .int .i64 3] w fun e w' => e = .returned (.bool true) ∧ Below w.heap.size w w' :=
  (Before_any 8 3 w).mono fun e w' ⟨he, hb⟩ => ⟨by rw [he, show beforeB 8 3 = true from by decide +kernel], hb⟩
theorem before33 (w : World) : Calls Try.prog 20 #[.int .i64 3, .int .i64 3] w fun e w' => e = .returned (.bool false) ∧ Below w.heap.size w w' :=
  (Before_any 3 3 w).mono fun e w' ⟨he, hb⟩ => ⟨by rw [he, show beforeB 3 3 = false from by decide +kernel], hb⟩
theorem has103 (w : World) : Calls Try.prog 18 #[.int .i64 10, .int .i64 3] w fun e w' => e = .returned (.bool true) ∧ w = w' :=
  (Has_any 10 3 w).mono fun e w' ⟨he, hb⟩ => ⟨by rw [he, show hasB 10 3 = true from by decide +kernel], hb⟩

/-- A slice that was just laid out. -/
theorem intsAt_new (w : World) (xs : List Int) (t : TypeId) : IntsAt (w.alloc (.cells (xs.map (Value.int .i64)).toArray t)) (w.heap.size + 1) (some ⟨w.heap.size, 0, none⟩) xs := by
  intro _
  refine ⟨_, rfl, Nat.lt_succ_self _, fun j x hx => ?_⟩
  have hb := World.alloc_heap_new w (.cells (xs.map (Value.int .i64)).toArray t)
  have ha : (⟨w.heap.size, 0, none⟩ : Addr).add j = ⟨w.heap.size, j, none⟩ := by
    unfold Addr.add
    split
    · rename_i h; subst h; rfl
    · simp
  rw [ha, cell_of_row _ _ _ _ _ _ hb]
  simp [hx]
theorem of31 (w : World) : Calls Try.prog 22 #[.slice (some ⟨w.heap.size, 0, none⟩) 5 5] (w.alloc (.cells #[.int .i64 3, .int .i64 1, .int .i64 16, .int .i64 (-1), .int .i64 3] 3)) fun e w' => e = .returned (.int .i64 10) ∧ w.alloc (.cells #[.int .i64 3, .int .i64 1, .int .i64 16, .int .i64 (-1), .int .i64 3] 3) = w' :=
  (Of_any (some ⟨w.heap.size, 0, none⟩) 5 [3, 1, 16, -1, 3] (w.heap.size + 1) _ (intsAt_new w [3, 1, 16, -1, 3] 3) (by decide)).mono fun e w' ⟨he, hb⟩ => ⟨by rw [he, show ofB [3, 1, 16, -1, 3] = 10 from by decide +kernel]; rfl, hb⟩

set_option maxRecDepth 100000 in
set_option maxHeartbeats 1000000 in
theorem awake_any (w : World) : Calls Try.prog 11 #[] w fun e w' => e = .returned (.bool true) ∧ Below w.heap.size w w' := by
  go_enter Try.func11, Try.ntmps11
  go_wp2_with (go_at_call 16; refine (list10 _).mono ?_; rintro e w' ⟨g, c, rfl, hk⟩; have hc := hk.cell; have hlt := hk.lt)
  refine (of31 _).mono ?_
  rintro e w1 ⟨rfl, rfl⟩
  have hk1 := hk.step (Nat.le_refl _) ((Below.refl _ w').alloc (Nat.le_refl _) (.cells #[.int .i64 3, .int .i64 1, .int .i64 16, .int .i64 (-1), .int .i64 3] 3))
  clear hk
  have hB := hk1.below
  go_wp2_with (first
    | (go_at_call 13; refine (size10 _).mono ?_; rintro e w2 ⟨rfl, hb2⟩; have hk2 := hk1.step (Nat.le_refl _) hb2; clear hk1 hc hlt hb2 hB; have hc := hk2.cell; have hlt := hk2.lt; have hB := hk2.below)
    | (go_at_call 26; refine (at324 _).mono ?_; rintro e w3 ⟨rfl, rfl⟩)
    | (go_at_call 24; refine (count32 _).mono ?_; rintro e w3 ⟨rfl, rfl⟩)
    | (go_at_call 18; refine (has103 _).mono ?_; rintro e w3 ⟨rfl, rfl⟩)
    | (go_at_call 28; refine (rank323 _).mono ?_; rintro e w3 ⟨rfl, hb3⟩; replace hB := hB.trans (hb3.mono hB.size); clear hb3)
    | (go_at_call 20; ((with_reducible refine (before83 _).mono ?_); rintro e w4 ⟨rfl, hb3⟩; replace hB := hB.trans (hb3.mono hB.size); clear hb3))
    | (go_at_call 20; ((with_reducible refine (before33 _).mono ?_); rintro e w5 ⟨rfl, hb3⟩; replace hB := hB.trans (hb3.mono hB.size); clear hb3)))
  go_ret
  exact ⟨rfl, hB⟩

/-- Which of n things a raw number speaks of. -/
def pickN (c n : Int) : Int := (if c < 0 then -(c + 1) else c) % n
theorem pickN_in (c n : Int) (h : 0 < n) : 0 ≤ pickN c n ∧ pickN c n < n := ⟨Int.emod_nonneg _ (by omega), Int.emod_lt_of_pos _ h⟩

set_option maxHeartbeats 400000 in
theorem pick_any (c n : Int) (w : World) (hn : 0 < n) (h1 : -9223372036854775808 ≤ c) (h2 : c ≤ 9223372036854775807) (h3 : n ≤ 9223372036854775807) :
    Calls Try.prog 12 #[.int .i64 c, .int .i64 n] w fun e w' => e = .returned (.int .i64 (pickN c n)) ∧ w = w' := by
  by_cases hc : c < 0
  · have e : pickN c n = (-(c + 1)) % n := by unfold pickN; rw [if_pos hc]
    rw [e]
    go_enter Try.func12, Try.ntmps12
    go_wp2
    go_ret
    exact ⟨ret_int (by rw [← Int.neg_tmod, Int.tmod_eq_emod_of_nonneg (by omega)]), rfl⟩
  · have e : pickN c n = c % n := by unfold pickN; rw [if_neg hc]
    rw [e]
    go_enter Try.func12, Try.ntmps12
    go_wp2
    go_ret
    exact ⟨rfl, rfl⟩

end Go.Proofs.Ytfnjpgkoccefbaa
