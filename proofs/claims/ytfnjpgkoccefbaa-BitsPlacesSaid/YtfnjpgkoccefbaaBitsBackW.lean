/-
  BitsBack, its walk.
-/
import Derived.Test.YtfnjpgkoccefbaaPlaceB
import Derived.Test.YtfnjpgkoccefbaaLawKit
namespace Go.Proofs.Ytfnjpgkoccefbaa
open Go.RowKit Go.Sort

/-- pick, its answer named. -/
theorem pick_is (c b : Int) (n v : Nat) (w0 : (Lit.int .i64 c).wf = true) (hb : b = (n : Int)) (hn : 0 < n) (h3 : n ≤ 1000000) (hv : pickN c n = (v : Int)) (w : World) :
    Calls Try.prog 12 #[.int .i64 c, .int .i64 b] w fun e w' => e = .returned (.int .i64 (v : Int)) ∧ w = w' := by
  obtain ⟨r1, r2⟩ := wf_range w0
  subst hb
  exact hv ▸ pick_any c n w (by omega) r1 r2 (by omega)
theorem pickN_nat (c : Int) (n : Nat) (hn : 0 < n) : ∃ v : Nat, pickN c n = (v : Int) ∧ v < n := by
  obtain ⟨h1, h2⟩ := pickN_in c n (by omega)
  exact ⟨(pickN c n).toNat, by omega, by omega⟩

theorem AtIs.call {n m k s j : Nat} {l : List Nat} {x : Nat} (h : AtIs n m k s j l x) (w : World) :
    Calls Try.prog 26 #[.int .i64 (n : Int), .int .i64 (m : Int), .int .i64 (k : Int)] w fun e w' => e = .returned (.int .i64 (x : Int)) ∧ w = w' :=
  h.tells ▸ At_any n m k w
theorem AtIs.callRank {n m k s j : Nat} {l : List Nat} {x : Nat} (h : AtIs n m k s j l x) (hn : n ≤ 16) {B : Nat} {w0 w : World} (hb : Below B w0 w) (hB : B ≤ w0.heap.size) :
    Calls Try.prog 28 #[.int .i64 (n : Int), .int .i64 (m : Int), .int .i64 (x : Int)] w fun e w' => e = .returned (.int .i64 (k : Int)) ∧ Below B w0 w' :=
  (Rank_any n m x w).mono fun _ _ ⟨he, hb'⟩ => ⟨by rw [he, h.rank hn], hb.trans (hb'.mono (Nat.le_trans hB hb.size))⟩
theorem Rank_none {n m y : Nat} (hs : m < (linksB (y : Int)).length) {B : Nat} {w0 w : World} (hb : Below B w0 w) (hB : B ≤ w0.heap.size) :
    Calls Try.prog 28 #[.int .i64 (n : Int), .int .i64 (m : Int), .int .i64 (y : Int)] w fun e w' => e = .returned (.int .i64 (-1)) ∧ Below B w0 w' :=
  (Rank_any n m y w).mono fun _ _ ⟨he, hb'⟩ => ⟨by rw [he]; unfold rankB; rw [if_neg (by omega)], hb.trans (hb'.mono (Nat.le_trans hB hb.size))⟩

set_option maxRecDepth 100000 in
set_option maxHeartbeats 1000000 in
theorem BitsBack_walk (a0 a1 a2 a3 : Int) (w0 : (Lit.int .i64 a0).wf = true) (w1 : (Lit.int .i64 a1).wf = true) (w2 : (Lit.int .i64 a2).wf = true) (w3 : (Lit.int .i64 a3).wf = true) (w : World) :
    Calls Try.prog 5 #[.int .i64 a0, .int .i64 a1, .int .i64 a2, .int .i64 a3] w fun e w' => e = .returned (.bool true) ∧ Below w.heap.size w w' := by
  obtain ⟨n, hn, hn16⟩ := pickN_nat a0 17 (by omega)
  obtain ⟨m, hm, hm16⟩ := pickN_nat a1 17 (by omega)
  have hc1 := count_pos n m (by omega)
  have hc2 : countB (n : Int) (m : Int) ≤ 65536 := by rw [countB_nat n m (by omega)]; exact sumC_le n (by omega) _ (by omega)
  obtain ⟨k, hk, hkc⟩ := pickN_nat a2 (countB (n : Int) (m : Int)) (by omega)
  obtain ⟨y, hy, hyn⟩ := pickN_nat a3 (2 ^ n) (Nat.two_pow_pos n)
  have hp := pow16 n (by omega)
  obtain ⟨s, j, l, x, hx⟩ := at_is n m k (by omega) hkc
  have hxl : (linksB (x : Int)).length ≤ m := by rw [hx.links, hx.len]; have := hx.size; omega
  have hx2 : decide ((x : Int) < wrap64 ((2 : Int) ^ n)) = true := by
    have h1 := hx.lt
    rw [shl_one n (by omega)]
    generalize 2 ^ n = t at h1
    exact decide_eq_true (by omega)
  have K0 := Lib.hid (pick_is a0 17 17 n w0 rfl (by omega) (by omega) hn)
  have K1 := Lib.hid (pick_is a1 17 17 m w1 rfl (by omega) (by omega) hm)
  have K2 := Lib.hid (pick_is a2 _ _ k w2 rfl hc1 (by omega) hk)
  have K3 := Lib.hid (pick_is a3 _ (2 ^ n) y w3 (shl_one n (by omega)) (Nat.two_pow_pos n) (by omega) hy)
  have HX := Lib.hid hx
  have hb := Below.refl w.heap.size w
  have hcm : decide (countB (n : Int) (m : Int) < 1) = false := decide_eq_false (by omega)
  by_cases hs : m < (linksB (y : Int)).length
  · have HS := Lib.hid hs
    clear hx hn hm hk hy hyn
    go_enter Try.func5, Try.ntmps5
    go_wp2_with (first
      | (go_at_call 11; refine (awake_acc hb (Nat.le_refl _)).mono ?_; clear hb; rintro e w1 ⟨rfl, hb⟩)
      | (go_at_call 24; refine (Count_any _ _ _).mono ?_; rintro e w2 ⟨rfl, rfl⟩)
      | (go_at_call 26; refine (HX.out.call _).mono ?_; rintro e w2 ⟨rfl, rfl⟩)
      | (go_at_call 28; refine (Rank_none HS.out hb (Nat.le_refl _)).mono ?_; clear hb; rintro e w1 ⟨rfl, hb⟩)
      | (go_at_call 13; refine (Size_acc _ hb (Nat.le_refl _)).mono ?_; clear hb; rintro e w1 ⟨rfl, hb⟩)
      | (go_at_call 12; ((with_reducible refine (K0.out _).mono ?_); rintro e w2 ⟨rfl, rfl⟩))
      | (go_at_call 12; ((with_reducible refine (K1.out _).mono ?_); rintro e w2 ⟨rfl, rfl⟩))
      | (go_at_call 12; ((with_reducible refine (K2.out _).mono ?_); rintro e w2 ⟨rfl, rfl⟩))
      | (go_at_call 12; ((with_reducible refine (K3.out _).mono ?_); rintro e w2 ⟨rfl, rfl⟩)))
    go_ret
    exact ⟨rfl, hb⟩
  · obtain ⟨s', j', hr0, hrc⟩ := rank_is n m y (by omega) hyn (by omega)
    obtain ⟨r, hr'⟩ : ∃ r, sumC n s' + j' = r := ⟨_, rfl⟩
    rw [hr'] at hr0 hrc
    have HR := Lib.hid hr0
    have hs' : (linksB (y : Int)).length ≤ m := by omega
    clear hx hn hm hk hy hyn hr0 hr' hs
    go_enter Try.func5, Try.ntmps5
    go_wp2_with (first
      | (go_at_call 11; refine (awake_acc hb (Nat.le_refl _)).mono ?_; clear hb; rintro e w1 ⟨rfl, hb⟩)
      | (go_at_call 24; refine (Count_any _ _ _).mono ?_; rintro e w2 ⟨rfl, rfl⟩)
      | (go_at_call 26; ((with_reducible refine (HX.out.call _).mono ?_); rintro e w2 ⟨rfl, rfl⟩))
      | (go_at_call 26; ((with_reducible refine (HR.out.call _).mono ?_); rintro e w2 ⟨rfl, rfl⟩))
      | (go_at_call 28; ((with_reducible refine (HR.out.callRank (by omega) hb (Nat.le_refl _)).mono ?_); clear hb; rintro e w1 ⟨rfl, hb⟩))
      | (go_at_call 28; ((with_reducible refine (HX.out.callRank (by omega) hb (Nat.le_refl _)).mono ?_); clear hb; rintro e w1 ⟨rfl, hb⟩))
      | (go_at_call 13; refine (Size_acc _ hb (Nat.le_refl _)).mono ?_; clear hb; rintro e w1 ⟨rfl, hb⟩)
      | (go_at_call 12; ((with_reducible refine (K0.out _).mono ?_); rintro e w2 ⟨rfl, rfl⟩))
      | (go_at_call 12; ((with_reducible refine (K1.out _).mono ?_); rintro e w2 ⟨rfl, rfl⟩))
      | (go_at_call 12; ((with_reducible refine (K2.out _).mono ?_); rintro e w2 ⟨rfl, rfl⟩))
      | (go_at_call 12; ((with_reducible refine (K3.out _).mono ?_); rintro e w2 ⟨rfl, rfl⟩)))
    go_ret
    exact ⟨rfl, hb⟩

end Go.Proofs.Ytfnjpgkoccefbaa
