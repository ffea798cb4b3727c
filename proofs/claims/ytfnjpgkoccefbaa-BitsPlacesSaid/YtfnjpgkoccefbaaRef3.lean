/-
  The document's Count, Rank, Sets and At.
-/
import Derived.Test.YtfnjpgkoccefbaaCount
import Derived.Test.YtfnjpgkoccefbaaRef2
namespace Go.Proofs.Ytfnjpgkoccefbaa
open Go.RowKit Go.Sort

set_option maxHeartbeats 800000 in
theorem refCount_no (links most : Int) (w : World) (h : ¬ (0 ≤ links ∧ links ≤ 16 ∧ 0 ≤ most)) :
    Calls Try.prog 25 #[.int .i64 links, .int .i64 most] w fun e w' => e = .returned (.int .i64 0) ∧ w = w' := by
  have H := Lib.hid h
  clear h
  by_cases h0 : links < 0
  · go_enter Try.func25, Try.ntmps25
    go_wp2
    go_ret
    exact ⟨rfl, rfl⟩
  · have h0' : 0 ≤ links := by omega
    by_cases h1 : 16 < links
    · go_enter Try.func25, Try.ntmps25
      go_wp2
      go_ret
      exact ⟨rfl, rfl⟩
    · have h1' : links ≤ 16 := by omega
      have h2 : most < 0 := by have h := H.out; omega
      go_enter Try.func25, Try.ntmps25
      go_wp2
      go_ret
      exact ⟨rfl, rfl⟩

set_option maxHeartbeats 1000000 in
theorem refCount_yes (n : Nat) (most : Int) (hn : n ≤ 16) (hm : 0 ≤ most) {B : Nat} {w0 w : World} (hb : Below B w0 w) (hB : B ≤ w0.heap.size) :
    Calls Try.prog 25 #[.int .i64 (n : Int), .int .i64 most] w fun e w' => e = .returned (.int .i64 (countB (n : Int) most : Nat)) ∧ Below B w0 w' := by
  have hp := pow16 n hn
  obtain ⟨N, hN⟩ : ∃ N, 2 ^ n = N := ⟨_, rfl⟩
  have hs := shl_one n hn
  have hall := cntLe_all n most hn hm
  rw [hN] at hp hs hall
  have HA := Lib.hid hall
  have HN := Lib.hid hN
  clear hall hN
  go_enter Try.func25, Try.ntmps25
  go_wp2
  go_loopw [5, 6] (fun v i wr => ∃ f : Nat, f ≤ N ∧ i = .int .i64 f ∧ v = .int .i64 (cntLe most f : Nat) ∧ Below B w0 wr) (fun _ i _ => N - (intOf i).toNat)
  case atStart => exact ⟨0, by omega, rfl, rfl, hb⟩
  case round =>
    obtain ⟨f, hf, rfl, rfl, hb2⟩ := hrel
    clear hb
    have hcl := cntLe_le most f
    by_cases hlt : f < N
    · by_cases hsz : ((linksB (f : Int)).length : Int) ≤ most
      · have HC := Lib.hid (show cntLe most (f + 1) = cntLe most f + 1 by rw [cntLe, if_pos (show (szB f : Int) ≤ most from hsz)])
        go_wp2_with (go_at_call 14; refine (refSize_acc _ hb2 hB).mono ?_; clear hb2; rintro e w2 ⟨rfl, hb2⟩)
        go_roundw
        case rel => exact ⟨f + 1, by omega, by go_num, by rw [HC.out]; go_num, hb2⟩
        case measure => simp [intOf]; omega
      · have HC := Lib.hid (show cntLe most (f + 1) = cntLe most f by rw [cntLe, if_neg (show ¬ (szB f : Int) ≤ most from hsz)]; rfl)
        have hsz' : most < ((linksB (f : Int)).length : Int) := by omega
        clear hsz
        go_wp2_with (go_at_call 14; refine (refSize_acc _ hb2 hB).mono ?_; clear hb2; rintro e w2 ⟨rfl, hb2⟩)
        go_roundw
        case rel => exact ⟨f + 1, by omega, by go_num, by rw [HC.out], hb2⟩
        case measure => simp [intOf]; omega
    · have HF := Lib.hid (show f = N by omega)
      go_wp2
      go_ret
      exact ⟨ret_int (by rw [HF.out, HA.out]), hb2⟩

theorem refCount_any (links most : Int) {B : Nat} {w0 w : World} (hb : Below B w0 w) (hB : B ≤ w0.heap.size) :
    Calls Try.prog 25 #[.int .i64 links, .int .i64 most] w fun e w' => e = .returned (.int .i64 (countB links most : Nat)) ∧ Below B w0 w' := by
  by_cases h : 0 ≤ links ∧ links ≤ 16 ∧ 0 ≤ most
  · obtain ⟨n, rfl⟩ := Int.eq_ofNat_of_zero_le h.1
    exact refCount_yes n most (by omega) h.2.2 hb hB
  · refine (refCount_no links most w h).mono fun e w' ⟨he, hw⟩ => ⟨?_, hw ▸ hb⟩
    rw [he]; unfold countB; rw [if_neg h]; rfl

theorem refBefore_is (a b : Int) (p : Bool) (H : Hid (beforeB a b = p)) {B : Nat} {w0 w : World} (hb : Below B w0 w) (hB : B ≤ w0.heap.size) :
    Calls Try.prog 21 #[.int .i64 a, .int .i64 b] w fun e w' => e = .returned (.bool p) ∧ Below B w0 w' := by
  have e : beforeB a b = p := H
  subst e
  exact refBefore_acc a b hb hB

set_option maxHeartbeats 1000000 in
theorem refRank_yes (n m f : Nat) (most : Int) (hn : n ≤ 16) (hf : f < 2 ^ n) (hm : most = m) (hs : (linksB (f : Int)).length ≤ m) {B : Nat} {w0 w : World} (hb : Below B w0 w) (hB : B ≤ w0.heap.size) :
    Calls Try.prog 29 #[.int .i64 (n : Int), .int .i64 most, .int .i64 (f : Int)] w fun e w' => e = .returned (.int .i64 (rankB (n : Int) most (f : Int))) ∧ Below B w0 w' := by
  subst hm
  have hp := pow16 n hn
  have hall := cntBe_all n m f hn hf hs
  obtain ⟨N, hN⟩ : ∃ N, 2 ^ n = N := ⟨_, rfl⟩
  have hsh := shl_one n hn
  rw [hN] at hp hsh hall hf
  have hd : decide (N ≤ f) = false := decide_eq_false (Nat.not_le.2 hf)
  have hd2 : decide (m < (linksB (f : Int)).length) = false := decide_eq_false (Nat.not_lt.2 hs)
  have HA := Lib.hid hall
  have HN := Lib.hid hN
  clear hall hN
  go_enter Try.func29, Try.ntmps29
  go_wp2_with (go_at_call 14; refine (refSize_acc _ hb hB).mono ?_; clear hb; rintro e w2 ⟨rfl, hb⟩)
  go_loopw [7, 8] (fun v i wr => ∃ g : Nat, g ≤ N ∧ i = .int .i64 g ∧ v = .int .i64 (cntBe (f : Int) g : Nat) ∧ Below B w0 wr) (fun _ i _ => N - (intOf i).toNat)
  case atStart => exact ⟨0, by omega, rfl, rfl, hb⟩
  case round =>
    obtain ⟨g, hg, rfl, rfl, hb2⟩ := hrel
    clear hb
    have hcl := cntBe_le (f : Int) g
    by_cases hlt : g < N
    · obtain ⟨p, hpq⟩ : ∃ p, beforeB (g : Int) (f : Int) = p := ⟨_, rfl⟩
      have HC := Lib.hid (show cntBe (f : Int) (g + 1) = cntBe (f : Int) g + if p = true then 1 else 0 by rw [cntBe, hpq])
      have HP := Lib.hid hpq
      clear hpq
      cases p
      all_goals
        go_wp2_with (go_at_call 21; refine (refBefore_is _ _ _ HP hb2 hB).mono ?_; clear hb2; rintro e w2 ⟨rfl, hb2⟩)
        go_roundw
        case rel => exact ⟨g + 1, by omega, by go_num, by rw [HC.out]; simp, hb2⟩
        case measure => simp [intOf]; omega
    · have HF := Lib.hid (show g = N by omega)
      go_wp2
      go_ret
      exact ⟨ret_int (by rw [HF.out, HA.out]), hb2⟩

end Go.Proofs.Ytfnjpgkoccefbaa
