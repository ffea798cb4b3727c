/-
  The document's At; BitsPlaces, its walk.
-/
import Derived.Test.YtfnjpgkoccefbaaRef4
import Derived.Test.YtfnjpgkoccefbaaBitsTellsW
namespace Go.Proofs.Ytfnjpgkoccefbaa
open Go.RowKit Go.Sort

set_option maxHeartbeats 400000 in
theorem Sets_no (links most : Int) (w : World) (h : ¬ (0 ≤ links ∧ links ≤ 16 ∧ 0 ≤ most)) :
    Calls Try.prog 36 #[.int .i64 links, .int .i64 most] w (Gives w.heap.size w w []) := by
  have H := Lib.hid h
  clear h
  by_cases h0 : links < 0
  · go_enter Try.func36, Try.ntmps36
    go_wp2
    go_ret
    exact ⟨none, 0, rfl, IntsAt.nil _ _ _, Below.refl _ _, Below.refl _ _⟩
  · have h0' : 0 ≤ links := by omega
    by_cases h1 : 16 < links
    · go_enter Try.func36, Try.ntmps36
      go_wp2
      go_ret
      exact ⟨none, 0, rfl, IntsAt.nil _ _ _, Below.refl _ _, Below.refl _ _⟩
    · have h1' : links ≤ 16 := by omega
      have h2 : most < 0 := by have h := H.out; omega
      go_enter Try.func36, Try.ntmps36
      go_wp2
      go_ret
      exact ⟨none, 0, rfl, IntsAt.nil _ _ _, Below.refl _ _, Below.refl _ _⟩

/-- All sets that are counted, in order. -/
def setsB (links most : Int) : List Nat := if 0 ≤ links ∧ links ≤ 16 ∧ 0 ≤ most then allS links.toNat ((min most links).toNat + 1) else []
theorem setsB_len (links most : Int) : (setsB links most).length = countB links most := by
  unfold setsB countB
  by_cases h : 0 ≤ links ∧ links ≤ 16 ∧ 0 ≤ most
  · rw [if_pos h, if_pos h, allS_len]
  · rw [if_neg h, if_neg h]; rfl
theorem atB_sets (links most place : Int) : atB links most place = if 0 ≤ place ∧ place < (countB links most : Nat) then (((setsB links most)[place.toNat]?.getD 0 : Nat) : Int) else -1 := by
  unfold atB
  by_cases h : 0 ≤ links ∧ links ≤ 16 ∧ 0 ≤ most
  · unfold setsB; rw [if_pos h]
  · have : countB links most = 0 := by unfold countB; rw [if_neg h]
    rw [this, if_neg (by omega), if_neg (by omega)]
theorem countB_le (links most : Int) : countB links most ≤ 65536 := by
  unfold countB
  by_cases h : 0 ≤ links ∧ links ≤ 16 ∧ 0 ≤ most
  · rw [if_pos h]; exact sumC_le _ (by omega) _ (by omega)
  · rw [if_neg h]; omega

theorem Sets_any (links most : Int) (w : World) : Calls Try.prog 36 #[.int .i64 links, .int .i64 most] w (Gives w.heap.size w w (setsB links most)) := by
  unfold setsB
  by_cases h : 0 ≤ links ∧ links ≤ 16 ∧ 0 ≤ most
  · rw [if_pos h]
    obtain ⟨n, rfl⟩ := Int.eq_ofNat_of_zero_le h.1
    exact Sets_yes n most (by omega) h.2.2 w
  · rw [if_neg h]; exact Sets_no links most w h

set_option maxHeartbeats 800000 in
theorem refAt_any (links most place : Int) {B : Nat} {w0 w : World} (hb : Below B w0 w) (hB : B ≤ w0.heap.size) :
    Calls Try.prog 27 #[.int .i64 links, .int .i64 most, .int .i64 place] w fun e w' => e = .returned (.int .i64 (atB links most place)) ∧ Below B w0 w' := by
  have hc := countB_le links most
  have hA := atB_sets links most place
  have hlen := setsB_len links most
  obtain ⟨l, hl⟩ : ∃ l, setsB links most = l := ⟨_, rfl⟩
  rw [hl] at hA hlen
  rw [← hlen] at hA hc
  have HL := Lib.hid hl
  clear hl hlen
  by_cases h0 : place < 0
  · have HA := Lib.hid (show atB links most place = -1 by rw [hA, if_neg (by omega)])
    clear hA
    go_enter Try.func27, Try.ntmps27
    go_wp2_with (go_at_call 36; refine (Sets_any _ _ _).mono ?_; rw [HL.out]; rintro e w1 ⟨A, c, rfl, _, hb1, _⟩)
    go_ret
    exact ⟨ret_int (by rw [HA.out]), hb.trans (hb1.mono (Nat.le_trans hB hb.size))⟩
  · obtain ⟨k, rfl⟩ := Int.eq_ofNat_of_zero_le (show 0 ≤ place by omega)
    by_cases h1 : k < l.length
    · have HA := Lib.hid (show atB links most (k : Int) = (l[k] : Nat) by rw [hA, if_pos (by omega), Int.toNat_natCast, List.getElem?_eq_getElem h1]; rfl)
      clear hA
      go_enter Try.func27, Try.ntmps27
      go_wp2_with (fail)
      refine (Sets_any _ _ _).mono ?_
      rw [HL.out]
      rintro e w1 ⟨A, c, rfl, hI, hb1, _⟩
      obtain ⟨ad, rfl, hcell⟩ := hI.at_ (k := k) (by rw [asInts_len]; exact h1)
      rw [show (asInts l)[k]'(by rw [asInts_len]; exact h1) = (l[k] : Int) by simp [asInts]] at hcell
      go_wp2
      go_ret
      exact ⟨ret_int (by rw [HA.out]), hb.trans (hb1.mono (Nat.le_trans hB hb.size))⟩
    · have HA := Lib.hid (show atB links most (k : Int) = -1 by rw [hA, if_neg (by omega)])
      have h2 : l.length ≤ k := by omega
      clear hA h1
      go_enter Try.func27, Try.ntmps27
      go_wp2_with (go_at_call 36; refine (Sets_any _ _ _).mono ?_; rw [HL.out]; rintro e w1 ⟨A, c, rfl, _, hb1, _⟩)
      go_ret
      exact ⟨ret_int (by rw [HA.out]), hb.trans (hb1.mono (Nat.le_trans hB hb.size))⟩

theorem Rank_acc (links most f : Int) {B : Nat} {w0 w : World} (hb : Below B w0 w) (hB : B ≤ w0.heap.size) :
    Calls Try.prog 28 #[.int .i64 links, .int .i64 most, .int .i64 f] w fun e w' => e = .returned (.int .i64 (rankB links most f)) ∧ Below B w0 w' :=
  (Rank_any links most f w).mono fun _ _ ⟨he, hb'⟩ => ⟨he, hb.trans (hb'.mono (Nat.le_trans hB hb.size))⟩

set_option maxRecDepth 100000 in
set_option maxHeartbeats 2000000 in
theorem BitsPlaces_walk (a0 a1 a2 a3 : Int) (w0 : (Lit.int .i64 a0).wf = true) (w1 : (Lit.int .i64 a1).wf = true) (w2 : (Lit.int .i64 a2).wf = true) (w3 : (Lit.int .i64 a3).wf = true) (w : World) :
    Calls Try.prog 4 #[.int .i64 a0, .int .i64 a1, .int .i64 a2, .int .i64 a3] w fun e w' => e = .returned (.bool true) ∧ Below w.heap.size w w' := by
  obtain ⟨n, hn, hn16⟩ := pickN_nat a0 10 (by omega)
  obtain ⟨m, hm, hm16⟩ := pickN_nat a1 11 (by omega)
  obtain ⟨k, hk, hk16⟩ := pickN_nat a2 600 (by omega)
  obtain ⟨x, hx, hx16⟩ := pickN_nat a3 600 (by omega)
  have K0 := Lib.hid (pick_is a0 10 10 n w0 rfl (by omega) (by omega) hn)
  have K1 := Lib.hid (pick_is a1 11 11 m w1 rfl (by omega) (by omega) hm)
  have K2 := Lib.hid (pick_is a2 600 600 k w2 rfl (by omega) (by omega) hk)
  have K3 := Lib.hid (pick_is a3 600 600 x w3 rfl (by omega) (by omega) hx)
  have hb := Below.refl w.heap.size w
  clear hn hm hk hx
  by_cases h0 : a0 < 0
  · go_enter Try.func4, Try.ntmps4
    go_wp2_with (first
      | (go_at_call 11; refine (awake_acc hb (Nat.le_refl _)).mono ?_; clear hb; rintro e w1 ⟨rfl, hb⟩)
      | (go_at_call 24; refine (Count_any _ _ _).mono ?_; rintro e w2 ⟨rfl, rfl⟩)
      | (go_at_call 25; refine (refCount_any _ _ hb (Nat.le_refl _)).mono ?_; clear hb; rintro e w1 ⟨rfl, hb⟩)
      | (go_at_call 26; refine (At_any _ _ _ _).mono ?_; rintro e w2 ⟨rfl, rfl⟩)
      | (go_at_call 27; refine (refAt_any _ _ _ hb (Nat.le_refl _)).mono ?_; clear hb; rintro e w1 ⟨rfl, hb⟩)
      | (go_at_call 28; refine (Rank_acc _ _ _ hb (Nat.le_refl _)).mono ?_; clear hb; rintro e w1 ⟨rfl, hb⟩)
      | (go_at_call 29; refine (refRank_any _ _ _ hb (Nat.le_refl _)).mono ?_; clear hb; rintro e w1 ⟨rfl, hb⟩)
      | (go_at_call 12; ((with_reducible refine (K0.out _).mono ?_); rintro e w2 ⟨rfl, rfl⟩))
      | (go_at_call 12; ((with_reducible refine (K1.out _).mono ?_); rintro e w2 ⟨rfl, rfl⟩))
      | (go_at_call 12; ((with_reducible refine (K2.out _).mono ?_); rintro e w2 ⟨rfl, rfl⟩))
      | (go_at_call 12; ((with_reducible refine (K3.out _).mono ?_); rintro e w2 ⟨rfl, rfl⟩)))
    go_ret
    exact ⟨rfl, hb⟩
  · have h0' : 0 ≤ a0 := by omega
    by_cases h1 : a0 ≤ 16
    · go_enter Try.func4, Try.ntmps4
      go_wp2_with (first
        | (go_at_call 11; refine (awake_acc hb (Nat.le_refl _)).mono ?_; clear hb; rintro e w1 ⟨rfl, hb⟩)
        | (go_at_call 24; refine (Count_any _ _ _).mono ?_; rintro e w2 ⟨rfl, rfl⟩)
        | (go_at_call 25; refine (refCount_any _ _ hb (Nat.le_refl _)).mono ?_; clear hb; rintro e w1 ⟨rfl, hb⟩)
        | (go_at_call 26; refine (At_any _ _ _ _).mono ?_; rintro e w2 ⟨rfl, rfl⟩)
        | (go_at_call 27; refine (refAt_any _ _ _ hb (Nat.le_refl _)).mono ?_; clear hb; rintro e w1 ⟨rfl, hb⟩)
        | (go_at_call 28; refine (Rank_acc _ _ _ hb (Nat.le_refl _)).mono ?_; clear hb; rintro e w1 ⟨rfl, hb⟩)
        | (go_at_call 29; refine (refRank_any _ _ _ hb (Nat.le_refl _)).mono ?_; clear hb; rintro e w1 ⟨rfl, hb⟩)
        | (go_at_call 12; ((with_reducible refine (K0.out _).mono ?_); rintro e w2 ⟨rfl, rfl⟩))
        | (go_at_call 12; ((with_reducible refine (K1.out _).mono ?_); rintro e w2 ⟨rfl, rfl⟩))
        | (go_at_call 12; ((with_reducible refine (K2.out _).mono ?_); rintro e w2 ⟨rfl, rfl⟩))
        | (go_at_call 12; ((with_reducible refine (K3.out _).mono ?_); rintro e w2 ⟨rfl, rfl⟩)))
      go_ret
      exact ⟨rfl, hb⟩
    · have h1' : 16 < a0 := by omega
      clear h1
      go_enter Try.func4, Try.ntmps4
      go_wp2_with (first
        | (go_at_call 11; refine (awake_acc hb (Nat.le_refl _)).mono ?_; clear hb; rintro e w1 ⟨rfl, hb⟩)
        | (go_at_call 24; refine (Count_any _ _ _).mono ?_; rintro e w2 ⟨rfl, rfl⟩)
        | (go_at_call 25; refine (refCount_any _ _ hb (Nat.le_refl _)).mono ?_; clear hb; rintro e w1 ⟨rfl, hb⟩)
        | (go_at_call 26; refine (At_any _ _ _ _).mono ?_; rintro e w2 ⟨rfl, rfl⟩)
        | (go_at_call 27; refine (refAt_any _ _ _ hb (Nat.le_refl _)).mono ?_; clear hb; rintro e w1 ⟨rfl, hb⟩)
        | (go_at_call 28; refine (Rank_acc _ _ _ hb (Nat.le_refl _)).mono ?_; clear hb; rintro e w1 ⟨rfl, hb⟩)
        | (go_at_call 29; refine (refRank_any _ _ _ hb (Nat.le_refl _)).mono ?_; clear hb; rintro e w1 ⟨rfl, hb⟩)
        | (go_at_call 12; ((with_reducible refine (K0.out _).mono ?_); rintro e w2 ⟨rfl, rfl⟩))
        | (go_at_call 12; ((with_reducible refine (K1.out _).mono ?_); rintro e w2 ⟨rfl, rfl⟩))
        | (go_at_call 12; ((with_reducible refine (K2.out _).mono ?_); rintro e w2 ⟨rfl, rfl⟩))
        | (go_at_call 12; ((with_reducible refine (K3.out _).mono ?_); rintro e w2 ⟨rfl, rfl⟩)))
      go_ret
      exact ⟨rfl, hb⟩

end Go.Proofs.Ytfnjpgkoccefbaa
