/-
  BitsWide, its walk.
-/
import Derived.Test.YtfnjpgkoccefbaaBitsBackW
import Derived.Test.YtfnjpgkoccefbaaInts
namespace Go.Proofs.Ytfnjpgkoccefbaa
open Go.RowKit Go.Sort

theorem linksB_cong {f g : Int} (h : cleanB f = cleanB g) : linksB f = linksB g := by rw [linksB_bitsL, linksB_bitsL, h]
theorem cleanB_more (x t : Int) : cleanB (x + t * 65536) = cleanB x := by unfold cleanB; omega
theorem hasB_cong {f g l : Int} (h : cleanB f = cleanB g) : hasB f l = hasB g l := by
  by_cases hl : 0 ≤ l ∧ l < 16
  · obtain ⟨i, rfl⟩ := Int.eq_ofNat_of_zero_le hl.1
    rw [hasB_clean f i (by omega), hasB_clean g i (by omega), h]
  · have : (decide (0 ≤ l) && decide (l < 16)) = false := by simp; omega
    unfold hasB
    rw [this]; rfl
theorem beforeB_cong {f g a b : Int} (h : cleanB f = cleanB g) (h' : cleanB a = cleanB b) : beforeB f a = beforeB g b := by
  unfold beforeB
  rw [linksB_cong h, linksB_cong h']
theorem beforeB_self (f g : Int) (h : cleanB f = cleanB g) : beforeB f g = false := by
  unfold beforeB
  rw [linksB_cong h, if_neg (by simp), lexL_irrefl]

theorem Size_named (f : Int) (l : List Nat) (H : Hid (linksB f = l)) {B : Nat} {w0 w : World} (h : Below B w0 w) (hB : B ≤ w0.heap.size) :
    Calls Try.prog 13 #[.int .i64 f] w fun e w' => e = .returned (.int .i64 (l.length : Nat)) ∧ Below B w0 w' := by
  have e : linksB f = l := H
  subst e
  exact Size_acc f h hB
theorem List_named (f : Int) (l : List Nat) (H : Hid (linksB f = l)) {B : Nat} {w0 w : World} (h : Below B w0 w) (hB : B ≤ w0.heap.size) :
    Calls Try.prog 16 #[.int .i64 f] w (ListsAs B w0 w l) := by
  have e : linksB f = l := H
  subst e
  exact List_acc f h hB
theorem Before_named (x y : Int) (v : Bool) (H : Hid (beforeB x y = v)) {B : Nat} {w0 w : World} (hb : Below B w0 w) (hB : B ≤ w0.heap.size) :
    Calls Try.prog 20 #[.int .i64 x, .int .i64 y] w fun e w' => e = .returned (.bool v) ∧ Below B w0 w' :=
  (Before_any x y w).mono fun _ _ ⟨he, hb'⟩ => ⟨by rw [he, show beforeB x y = v from H], hb.trans (hb'.mono (Nat.le_trans hB hb.size))⟩

set_option maxRecDepth 100000 in
set_option maxHeartbeats 1000000 in
theorem BitsWide_walk (a0 a1 a2 : Int) (w0 : (Lit.int .i64 a0).wf = true) (w1 : (Lit.int .i64 a1).wf = true) (w2 : (Lit.int .i64 a2).wf = true) (w : World) :
    Calls Try.prog 9 #[.int .i64 a0, .int .i64 a1, .int .i64 a2] w fun e w' => e = .returned (.bool true) ∧ Below w.heap.size w w' := by
  obtain ⟨x, hx, hx16⟩ := pickN_nat a0 65536 (by omega)
  obtain ⟨y, hy, hy16⟩ := pickN_nat a1 65536 (by omega)
  obtain ⟨i, hi, hi16⟩ := pickN_nat a1 16 (by omega)
  obtain ⟨t, ht, ht16⟩ := pickN_nat a2 2001 (by omega)
  have K0 := Lib.hid (pick_is a0 65536 65536 x w0 rfl (by omega) (by omega) hx)
  have K1 := Lib.hid (pick_is a1 65536 65536 y w1 rfl (by omega) (by omega) hy)
  have K2 := Lib.hid (pick_is a1 16 16 i w1 rfl (by omega) (by omega) hi)
  have K3 := Lib.hid (pick_is a2 2001 2001 t w2 rfl (by omega) (by omega) ht)
  clear hx hy hi ht
  have hc := cleanB_more x ((t : Int) - 1000)
  obtain ⟨l, hl⟩ : ∃ l, linksB (x : Int) = l := ⟨_, rfl⟩
  have hl1 : l.length ≤ 16 := by rw [← hl]; exact uptoB_len _ 16
  have hl2 : linksB ((x : Int) + ((t : Int) - 1000) * 65536) = l := (linksB_cong hc).trans hl
  obtain ⟨v1, hv1⟩ : ∃ v, hasB (x : Int) (i : Int) = v := ⟨_, rfl⟩
  have hv2 : hasB ((x : Int) + ((t : Int) - 1000) * 65536) (i : Int) = v1 := (hasB_cong hc).trans hv1
  obtain ⟨v3, hv3⟩ : ∃ v, beforeB (x : Int) (y : Int) = v := ⟨_, rfl⟩
  have hv4 : beforeB ((x : Int) + ((t : Int) - 1000) * 65536) (y : Int) = v3 := (beforeB_cong hc rfl).trans hv3
  obtain ⟨v5, hv5⟩ : ∃ v, beforeB (y : Int) (x : Int) = v := ⟨_, rfl⟩
  have hv6 : beforeB (y : Int) ((x : Int) + ((t : Int) - 1000) * 65536) = v5 := (beforeB_cong rfl hc).trans hv5
  have hv7 : beforeB (x : Int) ((x : Int) + ((t : Int) - 1000) * 65536) = false := beforeB_self _ _ hc.symm
  have L1 := Lib.hid hl
  have L2 := Lib.hid hl2
  have V1 := Lib.hid hv1
  have V2 := Lib.hid hv2
  have V3 := Lib.hid hv3
  have V4 := Lib.hid hv4
  have V5 := Lib.hid hv5
  have V6 := Lib.hid hv6
  have V7 := Lib.hid hv7
  have hb := Below.refl w.heap.size w
  clear hc hl hl2 hv1 hv2 hv3 hv4 hv5 hv6 hv7
  go_enter Try.func9, Try.ntmps9
  go_wp2_with (first
    | (go_at_call 11; refine (awake_acc hb (Nat.le_refl _)).mono ?_; clear hb; rintro e w1 ⟨rfl, hb⟩)
    | (go_at_call 13; ((with_reducible refine (Size_named _ _ L1 hb (Nat.le_refl _)).mono ?_); clear hb; rintro e w1 ⟨rfl, hb⟩))
    | (go_at_call 13; ((with_reducible refine (Size_named _ _ L2 hb (Nat.le_refl _)).mono ?_); clear hb; rintro e w1 ⟨rfl, hb⟩))
    | (go_at_call 12; ((with_reducible refine (K0.out _).mono ?_); rintro e w2 ⟨rfl, rfl⟩))
    | (go_at_call 12; ((with_reducible refine (K1.out _).mono ?_); rintro e w2 ⟨rfl, rfl⟩))
    | (go_at_call 12; ((with_reducible refine (K2.out _).mono ?_); rintro e w2 ⟨rfl, rfl⟩))
    | (go_at_call 12; ((with_reducible refine (K3.out _).mono ?_); rintro e w2 ⟨rfl, rfl⟩)))
  refine (List_named _ _ L2 hb (Nat.le_refl _)).mono ?_
  clear hb
  rintro e w3 ⟨A1, c1, rfl, h1, _, hb⟩
  go_wp2_with (fail)
  refine (List_named _ _ L1 hb (Nat.le_refl _)).mono ?_
  clear hb
  rintro e w4 ⟨A2, c2, rfl, h2, h3, hb⟩
  go_wp2_with (fail)
  refine (ints_links A1 A2 c1 c2 l l _ _ (h1.below h3) h2 (by omega) hb).mono ?_
  clear hb
  rw [show decide (l = l) = true from by simp]
  rintro e w5 ⟨rfl, hb⟩
  go_wp2_with (first
    | (go_at_call 18; ((with_reducible refine (Has_is _ _ _ V1 _).mono ?_); rintro e w1 ⟨rfl, rfl⟩))
    | (go_at_call 18; ((with_reducible refine (Has_is _ _ _ V2 _).mono ?_); rintro e w1 ⟨rfl, rfl⟩))
    | (go_at_call 20; ((with_reducible refine (Before_named _ _ _ V3 hb (Nat.le_refl _)).mono ?_); clear hb; rintro e w1 ⟨rfl, hb⟩))
    | (go_at_call 20; ((with_reducible refine (Before_named _ _ _ V4 hb (Nat.le_refl _)).mono ?_); clear hb; rintro e w1 ⟨rfl, hb⟩))
    | (go_at_call 20; ((with_reducible refine (Before_named _ _ _ V5 hb (Nat.le_refl _)).mono ?_); clear hb; rintro e w1 ⟨rfl, hb⟩))
    | (go_at_call 20; ((with_reducible refine (Before_named _ _ _ V6 hb (Nat.le_refl _)).mono ?_); clear hb; rintro e w1 ⟨rfl, hb⟩))
    | (go_at_call 20; ((with_reducible refine (Before_named _ _ _ V7 hb (Nat.le_refl _)).mono ?_); clear hb; rintro e w1 ⟨rfl, hb⟩))
    | (go_at_call 12; ((with_reducible refine (K2.out _).mono ?_); rintro e w2 ⟨rfl, rfl⟩)))
  go_ret
  exact ⟨rfl, hb⟩

end Go.Proofs.Ytfnjpgkoccefbaa
