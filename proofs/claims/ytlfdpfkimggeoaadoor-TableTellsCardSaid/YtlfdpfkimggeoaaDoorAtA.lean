/-
  Slices of ints: Index, Contains, Equal, Compare of the library, walked at this program.
-/
import Derived.Deep.QuietTactic
import Derived.BigQuiet
import Derived.Test.YtlfdpfkimggeoaaDoorPlC
namespace Go.Proofs.YtlfdpfkimggeoaaDoor
open Go.RowKit
set_option linter.unusedVariables false
set_option linter.unusedSimpArgs false

theorem CellsAt.on {w w' : World} {A : Option Addr} {xs : List Value} (h : CellsAt w w.heap.size A xs) (hb : Below w.heap.size w w') : CellsAt w' w'.heap.size A xs := (h.below hb).more hb.size
theorem RowAt.cells {w : World} {B : Nat} {A : Option Addr} {xs : List Value} (h : RowAt w B A xs) : CellsAt w B A xs := fun hn => by
  obtain ⟨g, e, hb, hc⟩ := h hn
  refine ⟨_, e, hb, fun j u hu => ?_⟩
  have ha : (⟨g, 0, none⟩ : Addr).add j = ⟨g, j, none⟩ := by
    unfold Addr.add
    split
    · rename_i h; subst h; rfl
    · simp
  rw [ha]
  exact hc j u hu
theorem below_drewN (w : World) (n : Nat) : Below w.heap.size w (w.drewN n) := below_draws (Below.refl _ _) n

/-- Is a number among some? -/
def memI (x : Int) (l : List Int) : Bool := decide (x ∈ l)
theorem memI_ix (x : Int) : ∀ (l : List Int) (i : Nat), decide (0 ≤ ixF (fun y => decide (x = y)) l i) = memI x l
  | [], i => by rw [ixF]; rfl
  | y :: r, i => by
    rw [ixF]
    by_cases h : x = y
    · subst h
      simp [memI]
    · rw [if_neg (by simpa using h), memI_ix x r (i + 1)]
      simp [memI, h]

set_option maxHeartbeats 800000 in
theorem slIndex_any (l : List Int) (A : Option Addr) (c : Nat) (x : Int) (w : World) (hA : CellsAt w w.heap.size A (l.map (Value.int .i64))) (hl : l.length ≤ 9223372036854775807) :
    Calls Tryd.prog 34 #[.slice A l.length c, .int .i64 x] w fun e w' => e = .returned (.int .i64 (ixB (fun y => decide (x = y)) l)) ∧ w = w' := by
  go_enter Tryd.func34, Tryd.ntmps34
  go_wp2
  go_loop [8] (fun i => ∃ k : Nat, k ≤ l.length ∧ i = .int .i64 (k : Nat) ∧ IxAt (fun y => decide (x = y)) l k) (fun i => l.length - (intOf i).toNat)
  case atStart => exact ⟨0, Nat.zero_le _, rfl, IxAt.start _ _⟩
  case round =>
    obtain ⟨k, hk, rfl, hat⟩ := hrel
    by_cases hlt : k < l.length
    · obtain ⟨y, hy⟩ : ∃ y, l[k]? = some y := ⟨_, List.getElem?_eq_getElem hlt⟩
      obtain ⟨ad, rfl, hg, c0⟩ := hA.int hy
      by_cases e : x = y
      · have HI := Lib.hid (hat.hit hy (by simpa using e))
        have t : (x == y) = true := by simpa using e
        clear hy hA hat e
        go_wp2
        go_ret
        exact ⟨ret_int HI.out.symm, rfl⟩
      · have hat' := hat.next hy (by simpa using e)
        have t : (x == y) = false := by simpa using e
        clear hy hA hat e
        go_wp2
        go_round
        case rel => exact ⟨k + 1, by omega, by go_num, hat'⟩
        case measure => simp [intOf]; omega
    · have HI := Lib.hid (hat.miss (by omega))
      go_wp2
      go_ret
      exact ⟨ret_int HI.out.symm, rfl⟩

theorem slContains_any (l : List Int) (A : Option Addr) (c : Nat) (x : Int) (w : World) (hA : CellsAt w w.heap.size A (l.map (Value.int .i64))) (hl : l.length ≤ 9223372036854775807) :
    Calls Tryd.prog 31 #[.slice A l.length c, .int .i64 x] w fun e w' => e = .returned (.bool (memI x l)) ∧ w = w' := by
  have H := Lib.hid (memI_ix x l 0)
  go_enter Tryd.func31, Tryd.ntmps31
  go_wp2_with (go_at_call 34; refine (slIndex_any l A c x _ hA hl).mono ?_; rintro e w' ⟨rfl, rfl⟩)
  go_ret
  exact ⟨ret_bool H.out, rfl⟩
theorem slContains_is (l : List Int) (n : Nat) (b : Bool) (x : Int) (HB : Hid (memI x l = b)) (HN : Hid (l.length = n)) (hl : n ≤ 9223372036854775807) {A : Option Addr} {c : Nat} {w : World} (hA : CellsAt w w.heap.size A (l.map (Value.int .i64))) :
    Calls Tryd.prog 31 #[.slice A n c, .int .i64 x] w fun e w' => e = .returned (.bool b) ∧ w = w' := by
  have h := HN.out
  subst h
  exact (slContains_any l A c x w hA hl).mono fun _ _ ⟨he, hw⟩ => ⟨by rw [he, HB.out], hw⟩

set_option maxHeartbeats 1600000 in
theorem slEqual_any (l m : List Int) (A B : Option Addr) (c d : Nat) (w : World) (hA : CellsAt w w.heap.size A (l.map (Value.int .i64))) (hB : CellsAt w w.heap.size B (m.map (Value.int .i64))) (hl : l.length ≤ 9223372036854775807) (hm : m.length ≤ 9223372036854775807) :
    Calls Tryd.prog 27 #[.slice A l.length c, .slice B m.length d] w fun e w' => e = .returned (.bool (decide (l = m))) ∧ ∃ n, w.drewN n = w' := by
  by_cases hlm : l.length = m.length
  · have HL := Lib.hid hlm
    have t0 : ((l.length : Int) != (m.length : Int)) = false := by simp [hlm]
    have t0' : (l.length != m.length) = false := by simp [hlm]
    clear hlm
    go_enter Tryd.func27, Tryd.ntmps27
    go_wp2
    go_loopw [13] (fun i wr => ∃ k q : Nat, k ≤ l.length ∧ i = .int .i64 (k : Nat) ∧ wr = w.drewN q ∧ l.take k = m.take k) (fun i _ => l.length - (intOf i).toNat)
    case atStart => exact ⟨0, 0, Nat.zero_le _, rfl, rfl, by simp⟩
    case round =>
      obtain ⟨k, q, hk, rfl, rfl, he⟩ := hrel
      by_cases hlt : k < l.length
      · have hlt2 : k < m.length := by rw [← HL.out]; exact hlt
        obtain ⟨x, hx⟩ : ∃ x, l[k]? = some x := ⟨_, List.getElem?_eq_getElem hlt⟩
        obtain ⟨y, hy⟩ : ∃ y, m[k]? = some y := ⟨_, List.getElem?_eq_getElem hlt2⟩
        obtain ⟨ad, rfl, hg, c0⟩ := hA.int hx
        obtain ⟨bd, rfl, hgb, d0⟩ := hB.int hy
        have HE := Lib.hid he
        have HX := Lib.hid hx
        have HY := Lib.hid hy
        clear hx hy hA hB he
        by_cases e : x = y
        · have t : (x != y) = false := by simpa using e
          have HXY := Lib.hid e
          clear e
          go_wp2
          go_quiet (fail)
          go_wp2
          go_roundw
          case rel => exact ⟨k + 1, q + nq, by omega, by go_num, rfl, by rw [List.take_add_one, List.take_add_one, HE.out, HX.out, HY.out, HXY.out]⟩
          case measure => simp [intOf]; omega
        · have t : (x != y) = true := by simpa using e
          have HXY := Lib.hid e
          clear e
          go_wp2
          go_quiet (fail)
          go_wp2
          go_ret
          refine ⟨ret_bool (decide_eq_false fun e => HXY.out ?_).symm, q + nq, by rw [World.drewN_drewN]⟩
          have h1 := HX.out
          rw [e, HY.out] at h1
          exact (Option.some.inj h1).symm
      · have HK := Lib.hid (show k = l.length by omega)
        have HE := Lib.hid he
        clear he
        go_wp2
        go_ret
        refine ⟨ret_bool ?_, _, rfl⟩
        have he := HE.out
        rw [HK.out, List.take_length, HL.out, List.take_length] at he
        exact (decide_eq_true he).symm
  · have HL := Lib.hid hlm
    have t0 : ((l.length : Int) != (m.length : Int)) = true := by rw [bne_iff_ne]; omega
    have t0' : (l.length != m.length) = true := by simp [hlm]
    clear hlm
    go_enter Tryd.func27, Tryd.ntmps27
    go_wp2
    go_ret
    exact ⟨ret_bool (decide_eq_false fun e => HL.out (by rw [e])).symm, 0, rfl⟩
theorem slEqual_is (l m : List Int) (b : Bool) (HB : Hid (decide (l = m) = b)) {A B : Option Addr} {n k c d : Nat} {w : World} (hn : l.length = n) (hk : m.length = k) (hA : CellsAt w w.heap.size A (l.map (Value.int .i64))) (hB : CellsAt w w.heap.size B (m.map (Value.int .i64))) (hl : n ≤ 9223372036854775807) (hm : k ≤ 9223372036854775807) :
    Calls Tryd.prog 27 #[.slice A n c, .slice B k d] w fun e w' => e = .returned (.bool b) ∧ Below w.heap.size w w' := by
  subst hn hk
  exact (slEqual_any l m A B c d w hA hB hl hm).mono fun _ _ ⟨he, q, hw⟩ => ⟨by rw [he, HB.out], by rw [← hw]; exact below_drewN w q⟩

/-- Which of two lists of numbers is ahead: -1, 0, 1. -/
def cmpI (x y : Int) : Int := if x < y then -1 else if y < x then 1 else 0
def cmpL : List Int → List Int → Int
  | [], [] => 0
  | [], _ :: _ => -1
  | _ :: _, [] => 1
  | x :: l, y :: m => if x = y then cmpL l m else cmpI x y

end Go.Proofs.YtlfdpfkimggeoaaDoor
