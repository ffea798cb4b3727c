/-
  BitsOrder, BitsSteps: their walks.
-/
import Derived.Test.YtfnjpgkoccefbaaBitsBackW
namespace Go.Proofs.Ytfnjpgkoccefbaa
open Go.RowKit Go.Sort

/-- Before of two sets at places. -/
theorem Before_acc (x y : Nat) (v : Bool) (hv : beforeB (x : Int) (y : Int) = v) {B : Nat} {w0 w : World} (hb : Below B w0 w) (hB : B ≤ w0.heap.size) :
    Calls Try.prog 20 #[.int .i64 (x : Int), .int .i64 (y : Int)] w fun e w' => e = .returned (.bool v) ∧ Below B w0 w' :=
  (Before_any x y w).mono fun _ _ ⟨he, hb'⟩ => ⟨by rw [he, hv], hb.trans (hb'.mono (Nat.le_trans hB hb.size))⟩

set_option maxRecDepth 100000 in
set_option maxHeartbeats 1000000 in
theorem BitsOrder_walk (a0 a1 a2 a3 : Int) (w0 : (Lit.int .i64 a0).wf = true) (w1 : (Lit.int .i64 a1).wf = true) (w2 : (Lit.int .i64 a2).wf = true) (w3 : (Lit.int .i64 a3).wf = true) (w : World) :
    Calls Try.prog 6 #[.int .i64 a0, .int .i64 a1, .int .i64 a2, .int .i64 a3] w fun e w' => e = .returned (.bool true) ∧ Below w.heap.size w w' := by
  obtain ⟨n, hn, hn16⟩ := pickN_nat a0 17 (by omega)
  obtain ⟨m, hm, hm16⟩ := pickN_nat a1 17 (by omega)
  have hc1 := count_pos n m (by omega)
  have hc2 : countB (n : Int) (m : Int) ≤ 65536 := by rw [countB_nat n m (by omega)]; exact sumC_le n (by omega) _ (by omega)
  obtain ⟨a, ha, hac⟩ := pickN_nat a2 (countB (n : Int) (m : Int)) (by omega)
  obtain ⟨b, hb0, hbc⟩ := pickN_nat a3 (countB (n : Int) (m : Int)) (by omega)
  obtain ⟨s, j, l, x, hx⟩ := at_is n m a (by omega) hac
  obtain ⟨s', j', l', y, hy⟩ := at_is n m b (by omega) hbc
  have K0 := Lib.hid (pick_is a0 17 17 n w0 rfl (by omega) (by omega) hn)
  have K1 := Lib.hid (pick_is a1 17 17 m w1 rfl (by omega) (by omega) hm)
  have K2 := Lib.hid (pick_is a2 _ _ a w2 rfl hc1 (by omega) ha)
  have K3 := Lib.hid (pick_is a3 _ _ b w3 rfl hc1 (by omega) hb0)
  have e1 : beforeB (x : Int) (y : Int) = decide (a < b) := hx.before hy
  have e2 : beforeB (y : Int) (x : Int) = decide (b < a) := hy.before hx
  have e3 : (((x : Int) == (y : Int)) == ((a : Int) == (b : Int))) = true := by
    have := hx.same hy
    by_cases e : a = b
    · rw [this.2 e, e]; simp
    · have h1 : x ≠ y := fun h => e (this.1 h)
      have h2 : ((x : Int) == (y : Int)) = false := beq_eq_false_iff_ne.2 (by omega)
      have h3 : ((a : Int) == (b : Int)) = false := beq_eq_false_iff_ne.2 (by omega)
      rw [h2, h3]; rfl
  have HX := Lib.hid hx
  have HY := Lib.hid hy
  have E1 := Lib.hid e1
  have E2 := Lib.hid e2
  have hb := Below.refl w.heap.size w
  have hcm : decide (countB (n : Int) (m : Int) < 1) = false := decide_eq_false (by omega)
  clear hx hy hn hm ha hb0 e1 e2
  go_enter Try.func6, Try.ntmps6
  go_wp2_with (first
    | (go_at_call 11; refine (awake_acc hb (Nat.le_refl _)).mono ?_; clear hb; rintro e w1 ⟨rfl, hb⟩)
    | (go_at_call 24; refine (Count_any _ _ _).mono ?_; rintro e w2 ⟨rfl, rfl⟩)
    | (go_at_call 26; ((with_reducible refine (HX.out.call _).mono ?_); rintro e w2 ⟨rfl, rfl⟩))
    | (go_at_call 26; ((with_reducible refine (HY.out.call _).mono ?_); rintro e w2 ⟨rfl, rfl⟩))
    | (go_at_call 20; ((with_reducible refine (Before_acc _ _ _ E1.out hb (Nat.le_refl _)).mono ?_); clear hb; rintro e w1 ⟨rfl, hb⟩))
    | (go_at_call 20; ((with_reducible refine (Before_acc _ _ _ E2.out hb (Nat.le_refl _)).mono ?_); clear hb; rintro e w1 ⟨rfl, hb⟩))
    | (go_at_call 12; ((with_reducible refine (K0.out _).mono ?_); rintro e w2 ⟨rfl, rfl⟩))
    | (go_at_call 12; ((with_reducible refine (K1.out _).mono ?_); rintro e w2 ⟨rfl, rfl⟩))
    | (go_at_call 12; ((with_reducible refine (K2.out _).mono ?_); rintro e w2 ⟨rfl, rfl⟩))
    | (go_at_call 12; ((with_reducible refine (K3.out _).mono ?_); rintro e w2 ⟨rfl, rfl⟩)))
  go_ret
  exact ⟨rfl, hb⟩

theorem AtIs.callSize {n m k s j : Nat} {l : List Nat} {x : Nat} (h : AtIs n m k s j l x) {B : Nat} {w0 w : World} (hb : Below B w0 w) (hB : B ≤ w0.heap.size) :
    Calls Try.prog 13 #[.int .i64 (x : Int)] w fun e w' => e = .returned (.int .i64 (s : Int)) ∧ Below B w0 w' :=
  (Size_any x w).mono fun _ _ ⟨he, hb'⟩ => ⟨by rw [he, h.links, h.len], hb.trans (hb'.mono (Nat.le_trans hB hb.size))⟩

theorem chN_pos : ∀ n s, s ≤ n → 1 ≤ chN n s
  | 0, 0, _ => Nat.le_refl _
  | _ + 1, 0, _ => Nat.le_refl _
  | 0, _ + 1, h => by omega
  | n + 1, s + 1, h => by
    have := chN_pos n s (by omega)
    show 1 ≤ chN n s + chN n (s + 1)
    omega

/-- From a place to the next one a set's size grows by one at most. -/
theorem AtIs.next {n m k s j : Nat} {l : List Nat} {x s' j' : Nat} {l' : List Nat} {y : Nat} (h : AtIs n m k s j l x) (h' : AtIs n m (k + 1) s' j' l' y) : s ≤ s' ∧ s' ≤ s + 1 := by
  have hp := h.place
  have hp' := h'.place
  have hj := h.small
  have hj' := h'.small
  have hs := h.size
  have hs' := h'.size
  have mono : ∀ u v, u < v → sumC n u + chN n u ≤ sumC n v := fun u v huv => sumC_mono n (a := u + 1) huv
  constructor
  · rcases Nat.lt_or_ge s' s with hlt | hge
    · have := mono s' s hlt; omega
    · exact hge
  · rcases Nat.lt_or_ge (s + 1) s' with hlt | hge
    · have h1 := mono (s + 1) s' hlt
      have h2 := mono s (s + 1) (by omega)
      have h3 := chN_pos n (s + 1) (by omega)
      omega
    · exact hge

theorem at_last (n m : Nat) (hn : n ≤ 16) : ∃ j l x, AtIs n m (countB (n : Int) (m : Int) - 1) (min m n) j l x := by
  obtain ⟨s, j, l, x, h⟩ := at_is n m (countB (n : Int) (m : Int) - 1) hn (by have := count_pos n m hn; omega)
  have hc := countB_nat n m hn
  have h1 := h.place
  have h2 := h.size
  have h3 := h.small
  have h0 := count_pos n m hn
  have e : s = min m n := by
    rcases Nat.lt_or_ge s (min m n) with hlt | hge
    · have m1 : sumC n (s + 1) ≤ sumC n (min m n) := sumC_mono n (by omega)
      have m2 : sumC n (s + 1) = sumC n s + chN n s := rfl
      have m3 : sumC n (min m n + 1) = sumC n (min m n) + chN n (min m n) := rfl
      have m4 := chN_pos n (min m n) (by omega)
      omega
    · omega
  subst e
  exact ⟨j, l, x, h⟩

theorem at_first (n m : Nat) (hn : n ≤ 16) : atB (n : Int) (m : Int) 0 = 0 := by
  have h := at_of_list n m 0 0 [] hn (by omega) (by rw [combL_zero]; rfl)
  exact h.tells

theorem At_first (n m : Nat) (hn : n ≤ 16) (w : World) :
    Calls Try.prog 26 #[.int .i64 (n : Int), .int .i64 (m : Int), .int .i64 0] w fun e w' => e = .returned (.int .i64 0) ∧ w = w' :=
  (At_any n m 0 w).mono fun _ _ ⟨he, hw⟩ => ⟨by rw [he, at_first n m hn], hw⟩
/-- At of a place that is told otherwise. -/
theorem AtIs.callAt {n m k s j : Nat} {l : List Nat} {x : Nat} (h : AtIs n m k s j l x) (p : Int) (hp : p = (k : Int)) (w : World) :
    Calls Try.prog 26 #[.int .i64 (n : Int), .int .i64 (m : Int), .int .i64 p] w fun e w' => e = .returned (.int .i64 (x : Int)) ∧ w = w' := by
  subst hp; exact h.call w

set_option maxRecDepth 100000 in
set_option maxHeartbeats 1000000 in
theorem BitsSteps_walk (a0 a1 a2 : Int) (w0 : (Lit.int .i64 a0).wf = true) (w1 : (Lit.int .i64 a1).wf = true) (w2 : (Lit.int .i64 a2).wf = true) (w : World) :
    Calls Try.prog 10 #[.int .i64 a0, .int .i64 a1, .int .i64 a2] w fun e w' => e = .returned (.bool true) ∧ Below w.heap.size w w' := by
  obtain ⟨n, hn, hn16⟩ := pickN_nat a0 17 (by omega)
  obtain ⟨m, hm, hm16⟩ := pickN_nat a1 17 (by omega)
  have hc1 := count_pos n m (by omega)
  have hc2 : countB (n : Int) (m : Int) ≤ 65536 := by rw [countB_nat n m (by omega)]; exact sumC_le n (by omega) _ (by omega)
  obtain ⟨k, hk, hkc⟩ := pickN_nat a2 (countB (n : Int) (m : Int)) (by omega)
  obtain ⟨s, j, l, x, hx⟩ := at_is n m k (by omega) hkc
  obtain ⟨jz, lz, z, hz⟩ := at_last n m (by omega)
  have K0 := Lib.hid (pick_is a0 17 17 n w0 rfl (by omega) (by omega) hn)
  have K1 := Lib.hid (pick_is a1 17 17 m w1 rfl (by omega) (by omega) hm)
  have K2 := Lib.hid (pick_is a2 _ _ k w2 rfl hc1 (by omega) hk)
  have HX := Lib.hid hx
  have HZ := Lib.hid hz
  have hn16' : n ≤ 16 := by omega
  have hb := Below.refl w.heap.size w
  have hcm : decide (countB (n : Int) (m : Int) < 1) = false := decide_eq_false (by omega)
  have hCZ := Lib.hid (show ((countB (n : Int) (m : Int) : Int) - 1) = ((countB (n : Int) (m : Int) - 1 : Nat) : Int) by omega)
  have hq : min m n = if m < n then m else n := by split <;> omega
  have HCZ := hCZ
  by_cases hend : k + 1 = countB (n : Int) (m : Int)
  · have hxz : x = z := (hx.same hz).2 (by omega)
    have ht : ((k : Int) + 1 == (countB (n : Int) (m : Int) : Int)) = true := beq_iff_eq.2 (by omega)
    subst hxz
    have HK := Lib.hid (show (k : Int) = ((countB (n : Int) (m : Int) - 1 : Nat) : Int) by omega)
    clear hx hz hn hm hk hend HX
    by_cases hmn : m < n
    all_goals
      first | rw [if_pos hmn] at hq | rw [if_neg hmn] at hq
      rw [hq] at HZ
      clear hq
      go_enter Try.func10, Try.ntmps10
      go_wp2_with (first
        | (go_at_call 11; refine (awake_acc hb (Nat.le_refl _)).mono ?_; clear hb; rintro e w1 ⟨rfl, hb⟩)
        | (go_at_call 24; refine (Count_any _ _ _).mono ?_; rintro e w2 ⟨rfl, rfl⟩)
        | (go_at_call 26; ((with_reducible refine (At_first _ _ hn16' _).mono ?_); rintro e w2 ⟨rfl, rfl⟩))
        | (go_at_call 26; ((with_reducible refine (HZ.out.callAt _ HK.out _).mono ?_); rintro e w2 ⟨rfl, rfl⟩))
        | (go_at_call 26; ((with_reducible refine (HZ.out.callAt _ HCZ.out _).mono ?_); rintro e w2 ⟨rfl, rfl⟩))
        | (go_at_call 13; ((with_reducible refine (HZ.out.callSize hb (Nat.le_refl _)).mono ?_); clear hb; rintro e w1 ⟨rfl, hb⟩))
        | (go_at_call 12; ((with_reducible refine (K0.out _).mono ?_); rintro e w2 ⟨rfl, rfl⟩))
        | (go_at_call 12; ((with_reducible refine (K1.out _).mono ?_); rintro e w2 ⟨rfl, rfl⟩))
        | (go_at_call 12; ((with_reducible refine (K2.out _).mono ?_); rintro e w2 ⟨rfl, rfl⟩)))
      go_ret
      exact ⟨rfl, hb⟩
  · obtain ⟨s', j', l', y, hy⟩ := at_is n m (k + 1) (by omega) (by omega)
    have HY := Lib.hid hy
    have HCY := Lib.hid (show (k : Int) + 1 = ((k + 1 : Nat) : Int) by omega)
    obtain ⟨hss1, hss2⟩ := hx.next hy
    have ht : ((k : Int) + 1 == (countB (n : Int) (m : Int) : Int)) = false := beq_eq_false_iff_ne.2 (by omega)
    have hsz : s ≤ 16 := by have := hx.size; omega
    clear hx hz hn hm hk hend hy
    by_cases hmn : m < n
    all_goals
      first | rw [if_pos hmn] at hq | rw [if_neg hmn] at hq
      rw [hq] at HZ
      clear hq
      go_enter Try.func10, Try.ntmps10
      go_wp2_with (first
        | (go_at_call 11; refine (awake_acc hb (Nat.le_refl _)).mono ?_; clear hb; rintro e w1 ⟨rfl, hb⟩)
        | (go_at_call 24; refine (Count_any _ _ _).mono ?_; rintro e w2 ⟨rfl, rfl⟩)
        | (go_at_call 26; ((with_reducible refine (At_first _ _ hn16' _).mono ?_); rintro e w2 ⟨rfl, rfl⟩))
        | (go_at_call 26; ((with_reducible refine (HX.out.call _).mono ?_); rintro e w2 ⟨rfl, rfl⟩))
        | (go_at_call 26; ((with_reducible refine (HZ.out.callAt _ HCZ.out _).mono ?_); rintro e w2 ⟨rfl, rfl⟩))
        | (go_at_call 26; ((with_reducible refine (HY.out.callAt _ HCY.out _).mono ?_); rintro e w2 ⟨rfl, rfl⟩))
        | (go_at_call 13; ((with_reducible refine (HY.out.callSize hb (Nat.le_refl _)).mono ?_); clear hb; rintro e w1 ⟨rfl, hb⟩))
        | (go_at_call 13; ((with_reducible refine (HX.out.callSize hb (Nat.le_refl _)).mono ?_); clear hb; rintro e w1 ⟨rfl, hb⟩))
        | (go_at_call 13; ((with_reducible refine (HZ.out.callSize hb (Nat.le_refl _)).mono ?_); clear hb; rintro e w1 ⟨rfl, hb⟩))
        | (go_at_call 12; ((with_reducible refine (K0.out _).mono ?_); rintro e w2 ⟨rfl, rfl⟩))
        | (go_at_call 12; ((with_reducible refine (K1.out _).mono ?_); rintro e w2 ⟨rfl, rfl⟩))
        | (go_at_call 12; ((with_reducible refine (K2.out _).mono ?_); rintro e w2 ⟨rfl, rfl⟩)))
      go_ret
      exact ⟨ret_bool (decide_eq_true (by omega)), hb⟩

end Go.Proofs.Ytfnjpgkoccefbaa
