/-
  Slices of ints: Index, Contains, Equal, Compare of the library, walked at this program.
-/
import Derived.Deep.QuietTactic
import Derived.BigQuiet
import Derived.Test.YtdmilbfdiebjgaaPlC
namespace Go.Proofs.Ytdmilbfdiebjgaa
open Go.RowKit
set_option linter.unusedVariables false
set_option linter.unusedSimpArgs false

theorem CellsAt.on {w w' : World} {A : Option Addr} {xs : List Value} (h : CellsAt w w.heap.size A xs) (hb : Below w.heap.size w w') : CellsAt w' w'.heap.size A xs := (h.below hb).more hb.size
theorem RowAt.cells {w : World} {B : Nat} {A : Option Addr} {xs : List Value} (h : RowAt w B A xs) : CellsAt w B A xs := fun hn => by
  obtain ⟨g, e, hb, hc⟩ := h hn
  refine ⟨_, e, hb, fun j u hu => ?_⟩
  have ha : (⟨g, 0, none⟩ : Addr).add j = ⟨g, j, none⟩ := by
    unfold Addr.add
    split
    · rename_i h; subst h; rfl
    · simp
  rw [ha]
  exact hc j u hu
theorem below_drewN (w : World) (n : Nat) : Below w.heap.size w (w.drewN n) := below_draws (Below.refl _ _) n

/-- Is a number among some? -/
def memI (x : Int) (l : List Int) : Bool := decide (x ∈ l)
theorem memI_ix (x : Int) : ∀ (l : List Int) (i : Nat), decide (0 ≤ ixF (fun y => decide (x = y)) l i) = memI x l
  | [], i => by rw [ixF]; rfl
  | y :: r, i => by
    rw [ixF]
    by_cases h : x = y
    · subst h
      simp [memI]
    · rw [if_neg (by simpa using h), memI_ix x r (i + 1)]
      simp [memI, h]

set_option maxHeartbeats 800000 in
theorem slIndex_any (l : List Int) (A : Option Addr) (c : Nat) (x : Int) (w : World) (hA : CellsAt w w.heap.size A (l.map (Value.int .i64))) (hl : l.length ≤ 9223372036854775807) :
    Calls Try.prog 74 #[.slice A l.length c, .int .i64 x] w fun e w' => e = .returned (.int .i64 (ixB (fun y => decide (x = y)) l)) ∧ w = w' := by
  go_enter Try.func74, Try.ntmps74
  go_wp2
  go_loop [8] (fun i => ∃ k : Nat, k ≤ l.length ∧ i = .int .i64 (k : Nat) ∧ IxAt (fun y => decide (x = y)) l k) (fun i => l.length - (intOf i).toNat)
  case atStart => exact ⟨0, Nat.zero_le _, rfl, IxAt.start _ _⟩
  case round =>
    obtain ⟨k, hk, rfl, hat⟩ := hrel
    by_cases hlt : k < l.length
    · obtain ⟨y, hy⟩ : ∃ y, l[k]? = some y := ⟨_, List.getElem?_eq_getElem hlt⟩
      obtain ⟨ad, rfl, hg, c0⟩ := hA.int hy
      by_cases e : x = y
      · have HI := Lib.hid (hat.hit hy (by simpa using e))
        have t : (x == y) = true := by simpa using e
        clear hy hA hat e
        go_wp2
        go_ret
        exact ⟨ret_int HI.out.symm, rfl⟩
      · have hat' := hat.next hy (by simpa using e)
        have t : (x == y) = false := by simpa using e
        clear hy hA hat e
        go_wp2
        go_round
        case rel => exact ⟨k + 1, by omega, by go_num, hat'⟩
        case measure => simp [intOf]; omega
    · have HI := Lib.hid (hat.miss (by omega))
      go_wp2
      go_ret
      exact ⟨ret_int HI.out.symm, rfl⟩

theorem slContains_any (l : List Int) (A : Option Addr) (c : Nat) (x : Int) (w : World) (hA : CellsAt w w.heap.size A (l.map (Value.int .i64))) (hl : l.length ≤ 9223372036854775807) :
    Calls Try.prog 52 #[.slice A l.length c, .int .i64 x] w fun e w' => e = .returned (.bool (memI x l)) ∧ w = w' := by
  have H := Lib.hid (memI_ix x l 0)
  go_enter Try.func52, Try.ntmps52
  go_wp2_with (go_at_call 74; refine (slIndex_any l A c x _ hA hl).mono ?_; rintro e w' ⟨rfl, rfl⟩)
  go_ret
  exact ⟨ret_bool H.out, rfl⟩
theorem slContains_is (l : List Int) (n : Nat) (b : Bool) (x : Int) (HB : Hid (memI x l = b)) (HN : Hid (l.length = n)) (hl : n ≤ 9223372036854775807) {A : Option Addr} {c : Nat} {w : World} (hA : CellsAt w w.heap.size A (l.map (Value.int .i64))) :
    Calls Try.prog 52 #[.slice A n c, .int .i64 x] w fun e w' => e = .returned (.bool b) ∧ w = w' := by
  have h := HN.out
  subst h
  exact (slContains_any l A c x w hA hl).mono fun _ _ ⟨he, hw⟩ => ⟨by rw [he, HB.out], hw⟩

/-- Which of two lists of numbers is ahead: -1, 0, 1. -/
def cmpI (x y : Int) : Int := if x < y then -1 else if y < x then 1 else 0
def cmpL : List Int → List Int → Int
  | [], [] => 0
  | [], _ :: _ => -1
  | _ :: _, [] => 1
  | x :: l, y :: m => if x = y then cmpL l m else cmpI x y

theorem cmpCompare_any (x y : Int) (w : World) :
    Calls Try.prog 76 #[.int .i64 x, .int .i64 y] w fun e w' => e = .returned (.int .i64 (cmpI x y)) ∧ w = w' := by
  have t1 : (x != x) = false := by simp
  have t2 : (y != y) = false := by simp
  have nan : ∀ (z : Int) (w : World), Calls Try.prog 88 #[.int .i64 z] w fun e w' => e = .returned (.bool false) ∧ w = w' := by
    intro z w
    have t : (z != z) = false := by simp
    go_enter Try.func88, Try.ntmps88
    go_wp2
    go_ret
    exact ⟨rfl, rfl⟩
  have NAN := Lib.hid nan
  clear nan
  by_cases h1 : x < y
  · have H := Lib.hid (show cmpI x y = -1 by unfold cmpI; rw [if_pos h1])
    go_enter Try.func76, Try.ntmps76
    go_wp2_with (go_at_call 88; refine (NAN.out _ _).mono ?_; rintro e w' ⟨rfl, rfl⟩)
    go_ret
    exact ⟨ret_int H.out.symm, rfl⟩
  · by_cases h2 : y < x
    · have H := Lib.hid (show cmpI x y = 1 by unfold cmpI; rw [if_neg h1, if_pos h2])
      go_enter Try.func76, Try.ntmps76
      go_wp2_with (go_at_call 88; refine (NAN.out _ _).mono ?_; rintro e w' ⟨rfl, rfl⟩)
      go_ret
      exact ⟨ret_int H.out.symm, rfl⟩
    · have H := Lib.hid (show cmpI x y = 0 by unfold cmpI; rw [if_neg h1, if_neg h2])
      go_enter Try.func76, Try.ntmps76
      go_wp2_with (go_at_call 88; refine (NAN.out _ _).mono ?_; rintro e w' ⟨rfl, rfl⟩)
      go_ret
      exact ⟨ret_int H.out.symm, rfl⟩
theorem cmpCompare_is (x y v : Int) (H : Hid (cmpI x y = v)) (w : World) :
    Calls Try.prog 76 #[.int .i64 x, .int .i64 y] w fun e w' => e = .returned (.int .i64 v) ∧ w = w' :=
  (cmpCompare_any x y w).mono fun _ _ ⟨he, hw⟩ => ⟨by rw [he, H.out], hw⟩

set_option maxHeartbeats 1600000 in
theorem slCompare_any (l m : List Int) (A B : Option Addr) (c d : Nat) (w : World) (hA : CellsAt w w.heap.size A (l.map (Value.int .i64))) (hB : CellsAt w w.heap.size B (m.map (Value.int .i64))) (hl : l.length ≤ 9223372036854775807) (hm : m.length ≤ 9223372036854775807) :
    Calls Try.prog 59 #[.slice A l.length c, .slice B m.length d] w fun e w' => e = .returned (.int .i64 (cmpL l m)) ∧ w = w' := by
  go_enter Try.func59, Try.ntmps59
  go_wp2
  go_loop [11] (fun i => ∃ k : Nat, k ≤ l.length ∧ k ≤ m.length ∧ i = .int .i64 (k : Nat) ∧ cmpL l m = cmpL (l.drop k) (m.drop k)) (fun i => l.length - (intOf i).toNat)
  case atStart => exact ⟨0, Nat.zero_le _, Nat.zero_le _, rfl, rfl⟩
  case round =>
    obtain ⟨k, hk, hkm, rfl, hat⟩ := hrel
    by_cases hlt : k < l.length
    · obtain ⟨x, hx⟩ : ∃ x, l[k]? = some x := ⟨_, List.getElem?_eq_getElem hlt⟩
      obtain ⟨ad, rfl, hg, c0⟩ := hA.int hx
      by_cases hltm : k < m.length
      · obtain ⟨y, hy⟩ : ∃ y, m[k]? = some y := ⟨_, List.getElem?_eq_getElem hltm⟩
        obtain ⟨bd, rfl, hgb, d0⟩ := hB.int hy
        rw [drop_cons hx, drop_cons hy, cmpL] at hat
        have hge : ¬ ((m.length : Int) ≤ (k : Int)) := by omega
        obtain ⟨v, hv⟩ : ∃ v, cmpI x y = v := ⟨_, rfl⟩
        have HV := Lib.hid hv
        by_cases e : x = y
        · rw [if_pos e] at hat
          have hv0 : v = 0 := by rw [← hv]; unfold cmpI; rw [if_neg (by omega), if_neg (by omega)]
          subst hv0
          have HAT := Lib.hid hat
          clear hat hx hy hA hB e hv
          go_wp2_with (go_at_call 76; (with_reducible refine (cmpCompare_is x y 0 HV _).mono ?_); rintro e w2 ⟨rfl, rfl⟩)
          go_round
          case rel => exact ⟨k + 1, by omega, by omega, by go_num, HAT.out⟩
          case measure => simp [intOf]; omega
        · rw [if_neg e, hv] at hat
          have hv0 : (v != 0) = true := by
            rw [← hv]; unfold cmpI
            by_cases h1 : x < y
            · rw [if_pos h1]; rfl
            · rw [if_neg h1, if_pos (by omega)]; rfl
          have HAT := Lib.hid hat
          clear hat hx hy hA hB e hv
          go_wp2_with (go_at_call 76; (with_reducible refine (cmpCompare_is x y v HV _).mono ?_); rintro e w2 ⟨rfl, rfl⟩)
          go_ret
          exact ⟨ret_int HAT.out.symm, rfl⟩
      · rw [drop_cons hx, List.drop_of_length_le (show m.length ≤ k by omega), cmpL] at hat
        have HAT := Lib.hid hat
        have hge : (m.length : Int) ≤ (k : Int) := by omega
        clear hat hx hA hB
        go_wp2
        go_ret
        exact ⟨ret_int HAT.out.symm, rfl⟩
    · have hkl : k = l.length := by omega
      rw [List.drop_of_length_le (show l.length ≤ k by omega)] at hat
      by_cases hltm : k < m.length
      · obtain ⟨y, hy⟩ : ∃ y, m[k]? = some y := ⟨_, List.getElem?_eq_getElem hltm⟩
        rw [drop_cons hy, cmpL] at hat
        have HAT := Lib.hid hat
        have hlm : (l.length : Int) < (m.length : Int) := by omega
        have hlm' : l.length < m.length := by omega
        clear hat hy hA hB hkl
        go_wp2
        go_ret
        exact ⟨ret_int HAT.out.symm, rfl⟩
      · rw [List.drop_of_length_le (show m.length ≤ k by omega), cmpL] at hat
        have HAT := Lib.hid hat
        have hlm : ¬ (l.length : Int) < (m.length : Int) := by omega
        have hlm' : ¬ l.length < m.length := by omega
        clear hat hA hB hkl
        go_wp2
        go_ret
        exact ⟨ret_int HAT.out.symm, rfl⟩
theorem slCompare_is (l m : List Int) (v : Int) (HV : Hid (cmpL l m = v)) {A B : Option Addr} {n k c d : Nat} {w : World} (hn : l.length = n) (hk : m.length = k) (hA : CellsAt w w.heap.size A (l.map (Value.int .i64))) (hB : CellsAt w w.heap.size B (m.map (Value.int .i64))) (hl : n ≤ 9223372036854775807) (hm : k ≤ 9223372036854775807) :
    Calls Try.prog 59 #[.slice A n c, .slice B k d] w fun e w' => e = .returned (.int .i64 v) ∧ w = w' := by
  subst hn hk
  exact (slCompare_any l m A B c d w hA hB hl hm).mono fun _ _ ⟨he, hw⟩ => ⟨by rw [he, HV.out], hw⟩
end Go.Proofs.Ytdmilbfdiebjgaa
