/-
  Package attr: Better; the document's Same and Better.
-/
import Derived.Deep.QuietTactic
import Derived.BigQuiet
import Derived.Test.YtlfdpfkimggeoaaPlC
import Derived.Deep.RegionHeld3
namespace Go.Proofs.Ytlfdpfkimggeoaa
open Go.RowKit
set_option linter.unusedVariables false
set_option linter.unusedSimpArgs false

theorem CellsAt.on {w w' : World} {A : Option Addr} {xs : List Value} (h : CellsAt w w.heap.size A xs) (hb : Below w.heap.size w w') : CellsAt w' w'.heap.size A xs := (h.below hb).more hb.size
theorem RowAt.cells {w : World} {B : Nat} {A : Option Addr} {xs : List Value} (h : RowAt w B A xs) : CellsAt w B A xs := fun hn => by
  obtain ⟨g, e, hb, hc⟩ := h hn
  refine ⟨_, e, hb, fun j u hu => ?_⟩
  have ha : (⟨g, 0, none⟩ : Addr).add j = ⟨g, j, none⟩ := by
    unfold Addr.add
    split
    · rename_i h; subst h; rfl
    · simp
  rw [ha]
  exact hc j u hu
theorem below_drewN (w : World) (n : Nat) : Below w.heap.size w (w.drewN n) := below_draws (Below.refl _ _) n

/-- Is a number among some? -/
def memI (x : Int) (l : List Int) : Bool := decide (x ∈ l)
theorem memI_ix (x : Int) : ∀ (l : List Int) (i : Nat), decide (0 ≤ ixF (fun y => decide (x = y)) l i) = memI x l
  | [], i => by rw [ixF]; rfl
  | y :: r, i => by
    rw [ixF]
    by_cases h : x = y
    · subst h
      simp [memI]
    · rw [if_neg (by simpa using h), memI_ix x r (i + 1)]
      simp [memI, h]

set_option maxHeartbeats 800000 in
theorem slIndex_any (l : List Int) (A : Option Addr) (c : Nat) (x : Int) (w : World) (hA : CellsAt w w.heap.size A (l.map (Value.int .i64))) (hl : l.length ≤ 9223372036854775807) :
    Calls Try.prog 65 #[.slice A l.length c, .int .i64 x] w fun e w' => e = .returned (.int .i64 (ixB (fun y => decide (x = y)) l)) ∧ w = w' := by
  go_enter Try.func65, Try.ntmps65
  go_wp2
  go_loop [8] (fun i => ∃ k : Nat, k ≤ l.length ∧ i = .int .i64 (k : Nat) ∧ IxAt (fun y => decide (x = y)) l k) (fun i => l.length - (intOf i).toNat)
  case atStart => exact ⟨0, Nat.zero_le _, rfl, IxAt.start _ _⟩
  case round =>
    obtain ⟨k, hk, rfl, hat⟩ := hrel
    by_cases hlt : k < l.length
    · obtain ⟨y, hy⟩ : ∃ y, l[k]? = some y := ⟨_, List.getElem?_eq_getElem hlt⟩
      obtain ⟨ad, rfl, hg, c0⟩ := hA.int hy
      by_cases e : x = y
      · have HI := Lib.hid (hat.hit hy (by simpa using e))
        have t : (x == y) = true := by simpa using e
        clear hy hA hat e
        go_wp2
        go_ret
        exact ⟨ret_int HI.out.symm, rfl⟩
      · have hat' := hat.next hy (by simpa using e)
        have t : (x == y) = false := by simpa using e
        clear hy hA hat e
        go_wp2
        go_round
        case rel => exact ⟨k + 1, by omega, by go_num, hat'⟩
        case measure => simp [intOf]; omega
    · have HI := Lib.hid (hat.miss (by omega))
      go_wp2
      go_ret
      exact ⟨ret_int HI.out.symm, rfl⟩

theorem slContains_any (l : List Int) (A : Option Addr) (c : Nat) (x : Int) (w : World) (hA : CellsAt w w.heap.size A (l.map (Value.int .i64))) (hl : l.length ≤ 9223372036854775807) :
    Calls Try.prog 45 #[.slice A l.length c, .int .i64 x] w fun e w' => e = .returned (.bool (memI x l)) ∧ w = w' := by
  have H := Lib.hid (memI_ix x l 0)
  go_enter Try.func45, Try.ntmps45
  go_wp2_with (go_at_call 65; refine (slIndex_any l A c x _ hA hl).mono ?_; rintro e w' ⟨rfl, rfl⟩)
  go_ret
  exact ⟨ret_bool H.out, rfl⟩
theorem slContains_is (l : List Int) (n : Nat) (b : Bool) (x : Int) (HB : Hid (memI x l = b)) (HN : Hid (l.length = n)) (hl : n ≤ 9223372036854775807) {A : Option Addr} {c : Nat} {w : World} (hA : CellsAt w w.heap.size A (l.map (Value.int .i64))) :
    Calls Try.prog 45 #[.slice A n c, .int .i64 x] w fun e w' => e = .returned (.bool b) ∧ w = w' := by
  have h := HN.out
  subst h
  exact (slContains_any l A c x w hA hl).mono fun _ _ ⟨he, hw⟩ => ⟨by rw [he, HB.out], hw⟩

/-- Which of two lists of numbers is ahead: -1, 0, 1. -/
def cmpI (x y : Int) : Int := if x < y then -1 else if y < x then 1 else 0
def cmpL : List Int → List Int → Int
  | [], [] => 0
  | [], _ :: _ => -1
  | _ :: _, [] => 1
  | x :: l, y :: m => if x = y then cmpL l m else cmpI x y

end Go.Proofs.Ytlfdpfkimggeoaa
namespace Go.Proofs.Ytlfdpfkimggeoaa
open Go.RowKit
set_option linter.unusedVariables false
set_option linter.unusedSimpArgs false

/-- A route. -/
structure Rt where
  kind : Int
  cost : Int
  path : List Int
def Rt.none : Rt := ⟨0, 0, []⟩
def pathOk (l : List Int) : Bool := l.all (fun x => decide (1 ≤ x) && decide (x ≤ 65535)) && decide l.Nodup
def pathB (l : List Int) : Bool := decide (l.length ≤ 12) && pathOk l
def lenV (k c n : Int) : Int := if k = 1 then c else if k = 2 then n else -1
def aheadV (k : Int) : Int := if k = 0 then 2 else if k = 2 then 1 else 0
def rtRight (r : Rt) : Bool :=
  if r.kind = 0 then decide (r.cost = 0) && decide (r.path.length = 0)
  else if r.kind = 1 then decide (0 ≤ r.cost) && (decide (r.cost ≤ 15) && decide (r.path.length = 0))
  else if r.kind = 2 then decide (r.cost = 0) && pathB r.path
  else false
def rtSame (a b : Rt) : Bool := decide (a.kind = b.kind) && (decide (a.cost = b.cost) && decide (a.path = b.path))
def rtLen (r : Rt) : Int := lenV r.kind r.cost (r.path.length : Int)
def rtAhead (r : Rt) : Int := aheadV r.kind
def rtBetter (a b : Rt) : Bool :=
  if a.kind = b.kind then (if rtLen a = rtLen b then decide (cmpL a.path b.path < 0) else decide (rtLen a < rtLen b))
  else decide (rtAhead a < rtAhead b)

/-- A route's value, and its numbers in memory. -/
def RtAt (w : World) (r : Rt) (A : Option Addr) (n : Nat) : Prop := r.path.length = n ∧ CellsAt w w.heap.size A (r.path.map (Value.int .i64)) ∧ n ≤ 9223372036854775807
theorem RtAt.on {w w' : World} {r : Rt} {A : Option Addr} {n : Nat} (h : RtAt w r A n) (hb : Below w.heap.size w w') : RtAt w' r A n := ⟨h.1, h.2.1.on hb, h.2.2⟩
theorem RtAt.box {w : World} {r : Rt} {A : Option Addr} {n : Nat} (h : RtAt w r A n) (o : Obj) : RtAt (w.alloc o) r A n := h.on (below_new w o)

section
variable {w : World} (k c : Int) (A : Option Addr) (n ca : Nat)
end
section
variable {r a b : Rt} {A B : Option Addr} {n m : Nat} {w : World}
end

/-! ### The numbers of a path -/
def pathF (l : List Int) : Nat → Bool := fun k => ((l.take k).all fun x => decide (1 ≤ x) && decide (x ≤ 65535)) && decide (l.take k).Nodup
theorem pathF_zero (l : List Int) : pathF l 0 = true := by simp [pathF]
theorem pathF_next {l : List Int} {k : Nat} {x : Int} (hx : l[k]? = some x) : pathF l (k + 1) = (pathF l k && ((decide (1 ≤ x) && decide (x ≤ 65535)) && !memI x (l.take k))) := by
  unfold pathF memI
  rw [List.take_add_one, hx]
  rw [Bool.eq_iff_iff]
  simp only [Option.toList_some, List.all_append, List.all_cons, List.all_nil, Bool.and_true, Bool.and_eq_true, decide_eq_true_eq, Bool.not_eq_true', decide_eq_false_iff_not, List.nodup_append]
  constructor
  · rintro ⟨⟨h1, h2⟩, h3, h4, h5⟩
    exact ⟨⟨h1, h3⟩, h2, fun hm => h5 x hm x (by simp) rfl⟩
  · rintro ⟨⟨h1, h3⟩, h2, h4⟩
    refine ⟨⟨h1, h2⟩, h3, by simp, fun a ha b hb => ?_⟩
    simp at hb
    subst hb
    exact fun e => h4 (e ▸ ha)
theorem pathF_all {l : List Int} {k : Nat} (h : l.length ≤ k) : pathF l k = pathOk l := by unfold pathF pathOk; rw [List.take_of_length_le h]
theorem pathF_false {l : List Int} {k j : Nat} (h : pathF l k = false) (hj : k ≤ j) : pathF l j = false := by
  induction j with
  | zero => rw [show (0 : Nat) = k by omega]; exact h
  | succ j ih =>
    by_cases e : k = j + 1
    · rw [← e]; exact h
    · have := ih (by omega)
      cases hx : l[j]? with
      | none =>
        have hl := List.getElem?_eq_none_iff.1 hx
        unfold pathF at this ⊢
        rw [List.take_of_length_le (by omega)] at this ⊢
        exact this
      | some x => rw [pathF_next hx, this]; rfl

set_option maxHeartbeats 1600000 in
theorem rightPath_any (l : List Int) (A : Option Addr) (c : Nat) (w : World) (hA : CellsAt w w.heap.size A (l.map (Value.int .i64))) (hl : l.length ≤ c) (hc : c ≤ 9223372036854775807) :
    Calls Try.prog 77 #[.slice A l.length c] w fun e w' => e = .returned (.bool (pathB l)) ∧ w = w' := by
  by_cases h12 : l.length ≤ 12
  · have h12' : ¬ (12 : Int) < (l.length : Int) := by omega
    have HG := Lib.hid (show pathB l = pathF l l.length by unfold pathB; rw [decide_eq_true h12, Bool.true_and, pathF_all (Nat.le_refl _)])
    go_enter Try.func77, Try.ntmps77
    go_wp2
    go_loop [10] (fun i => ∃ k : Nat, k ≤ l.length ∧ i = .int .i64 (k : Nat) ∧ pathF l k = true) (fun i => l.length - (intOf i).toNat)
    case atStart => exact ⟨0, Nat.zero_le _, rfl, pathF_zero l⟩
    case round =>
      obtain ⟨k, hk, rfl, hat⟩ := hrel
      by_cases hlt : k < l.length
      · obtain ⟨x, hx⟩ : ∃ x, l[k]? = some x := ⟨_, List.getElem?_eq_getElem hlt⟩
        obtain ⟨ad, rfl, hg, c0⟩ := hA.int hx
        have hn := pathF_next hx
        rw [hat, Bool.true_and] at hn
        have hT : CellsAt w w.heap.size (some ad) ((l.take k).map (Value.int .i64)) := fun hne => by
          obtain ⟨ad', e, hb, hcc⟩ := hA (by intro e; apply hne; rw [List.map_eq_nil_iff] at e ⊢; rw [e]; simp)
          refine ⟨ad', e, hb, fun j u hu => hcc j u ?_⟩
          rw [List.map_take, List.getElem?_take] at hu
          by_cases hj : j < k
          · rwa [if_pos hj] at hu
          · rw [if_neg hj] at hu; cases hu
        have HTL := Lib.hid (show (l.take k).length = k by rw [List.length_take]; omega)
        have HF := Lib.hid (fun h : pathF l (k + 1) = false => pathF_false h (show k + 1 ≤ l.length by omega))
        have HA := Lib.hid hA
        clear hx hat hA
        by_cases h1 : x < 1
        · have HN := Lib.hid (show pathF l (k + 1) = false from hn.trans (by rw [decide_eq_false (show ¬ 1 ≤ x by omega)]; simp))
          clear hn
          go_wp2
          go_ret
          exact ⟨ret_bool (by rw [HG.out, HF.out HN.out]), rfl⟩
        · by_cases h2 : 65535 < x
          · have HN := Lib.hid (show pathF l (k + 1) = false from hn.trans (by rw [decide_eq_false (show ¬ x ≤ 65535 by omega)]; simp))
            clear hn
            go_wp2
            go_ret
            exact ⟨ret_bool (by rw [HG.out, HF.out HN.out]), rfl⟩
          · obtain ⟨b, hb⟩ : ∃ b, memI x (l.take k) = b := ⟨_, rfl⟩
            rw [decide_eq_true (show 1 ≤ x by omega), decide_eq_true (show x ≤ 65535 by omega), hb] at hn
            have HB := Lib.hid hb
            have hkc : k ≤ c := by omega
            clear hb
            cases b
            · have HN := Lib.hid (show pathF l (k + 1) = true from hn)
              clear hn
              go_wp2_with (go_at_call 45; (with_reducible refine (slContains_is (l.take k) k false x HB HTL (by omega) hT).mono ?_); rintro e w2 ⟨rfl, rfl⟩)
              go_round
              case rel => exact ⟨k + 1, by omega, by go_num, HN.out⟩
              case measure => simp [intOf]; omega
            · have HN := Lib.hid (show pathF l (k + 1) = false from hn)
              clear hn
              go_wp2_with (go_at_call 45; (with_reducible refine (slContains_is (l.take k) k true x HB HTL (by omega) hT).mono ?_); rintro e w2 ⟨rfl, rfl⟩)
              go_ret
              exact ⟨ret_bool (by rw [HG.out, HF.out HN.out]), rfl⟩
      · have HI := Lib.hid (show pathF l l.length = true by rw [← show k = l.length by omega]; exact hat)
        clear hat
        go_wp2
        go_ret
        exact ⟨ret_bool (by rw [HG.out, HI.out]), rfl⟩
  · have h12' : (12 : Int) < (l.length : Int) := by omega
    have HG := Lib.hid (show pathB l = false by unfold pathB; rw [decide_eq_false h12]; rfl)
    go_enter Try.func77, Try.ntmps77
    go_wp2
    go_ret
    exact ⟨ret_bool HG.out.symm, rfl⟩
end Go.Proofs.Ytlfdpfkimggeoaa
namespace Go.Proofs.Ytlfdpfkimggeoaa
open Go.RowKit
set_option linter.unusedVariables false
set_option linter.unusedSimpArgs false

theorem rightPath_is (l : List Int) (b : Bool) (H : Hid (pathB l = b)) {A : Option Addr} {n c : Nat} {w : World} (hn : l.length = n) (hA : CellsAt w w.heap.size A (l.map (Value.int .i64))) (hl : n ≤ c) (hc : c ≤ 9223372036854775807) :
    Calls Try.prog 77 #[.slice A n c] w fun e w' => e = .returned (.bool b) ∧ w = w' := by
  subst hn
  exact (rightPath_any l A c w hA hl hc).mono fun _ _ ⟨he, hw⟩ => ⟨by rw [he, H.out], hw⟩

set_option maxHeartbeats 1600000 in
theorem atRight_any (r : Rt) {A : Option Addr} {n : Nat} (ca : Nat) {w : World} (h : RtAt w r A n) (hl : n ≤ ca) (hc : ca ≤ 9223372036854775807) :
    Calls Try.prog 66 #[.agg #[.int .i64 r.kind, .int .i64 r.cost, .slice A n ca]] w fun e w' => e = .returned (.bool (rtRight r)) ∧ Below w.heap.size w w' := by
  obtain ⟨k, c, l⟩ := r
  obtain ⟨hn, hA, hm⟩ := h
  dsimp only at hn hA ⊢
  have hbx := fun o => below_new w o
  have hAx := fun o => hA.on (below_new w o)
  obtain ⟨v, hv⟩ : ∃ v, rtRight ⟨k, c, l⟩ = v := ⟨_, rfl⟩
  rw [hv]
  by_cases h0 : k = 0
  · subst h0
    have hv' : rtRight ⟨0, c, l⟩ = (decide (c = 0) && decide (l.length = 0)) := rfl
    rw [hv', hn] at hv
    by_cases h1 : c = 0
    · subst h1
      have H := Lib.hid hv
      have HN := Lib.hid hn
      clear hv hv' hn hA
      by_cases h2 : n = 0
      · subst h2
        go_enter Try.func66, Try.ntmps66
        go_wp2
        go_ret
        exact ⟨ret_bool (H.out ▸ by simp), hbx _⟩
      · have t : ((n : Int) == 0) = false := by simp; omega
        have t' : (n == 0) = false := by simp; omega
        have H2 := Lib.hid h2
        clear h2
        go_enter Try.func66, Try.ntmps66
        go_wp2
        go_ret
        exact ⟨ret_bool (H.out ▸ by simp [H2.out]), hbx _⟩
    · have t : (c != 0) = true := by simpa using h1
      rw [decide_eq_false h1] at hv
      have H := Lib.hid hv
      clear hv hv' hn hA h1
      go_enter Try.func66, Try.ntmps66
      go_wp2
      go_ret
      exact ⟨ret_bool (H.out ▸ by simp), hbx _⟩
  · by_cases h1 : k = 1
    · subst h1
      have hv' : rtRight ⟨1, c, l⟩ = (decide (0 ≤ c) && (decide (c ≤ 15) && decide (l.length = 0))) := rfl
      rw [hv', hn] at hv
      by_cases c0 : 0 ≤ c
      · by_cases c1 : c ≤ 15
        · rw [decide_eq_true c0, decide_eq_true c1] at hv
          have H := Lib.hid hv
          clear hv hv' hn hA
          by_cases h2 : n = 0
          · subst h2
            go_enter Try.func66, Try.ntmps66
            go_wp2
            go_ret
            exact ⟨ret_bool (H.out ▸ by simp), hbx _⟩
          · have t : ((n : Int) == 0) = false := by simp; omega
            have t' : (n == 0) = false := by simp; omega
            have H2 := Lib.hid h2
            clear h2
            go_enter Try.func66, Try.ntmps66
            go_wp2
            go_ret
            exact ⟨ret_bool (H.out ▸ by simp [H2.out]), hbx _⟩
        · rw [decide_eq_false c1] at hv
          have H := Lib.hid hv
          clear hv hv' hn hA
          go_enter Try.func66, Try.ntmps66
          go_wp2
          go_ret
          exact ⟨ret_bool (H.out ▸ by simp), hbx _⟩
      · rw [decide_eq_false c0] at hv
        have H := Lib.hid hv
        clear hv hv' hn hA
        go_enter Try.func66, Try.ntmps66
        go_wp2
        go_ret
        exact ⟨ret_bool (H.out ▸ by simp), hbx _⟩
    · have t0 : (k == 0) = false := by simpa using h0
      have t1 : (k == 1) = false := by simpa using h1
      by_cases h2 : k = 2
      · subst h2
        have hv' : rtRight ⟨2, c, l⟩ = (decide (c = 0) && pathB l) := rfl
        rw [hv'] at hv
        by_cases hc0 : c = 0
        · subst hc0
          rw [decide_eq_true rfl, Bool.true_and] at hv
          have H := Lib.hid hv
          clear hv hv' hA h0 h1 t0 t1
          go_enter Try.func66, Try.ntmps66
          go_wp2_with (go_at_call 77; (with_reducible refine (rightPath_is l v H hn (hAx _) hl hc).mono ?_); rintro e w' ⟨rfl, rfl⟩)
          go_ret
          exact ⟨rfl, hbx _⟩
        · have t : (c == 0) = false := by simpa using hc0
          rw [decide_eq_false hc0] at hv
          have H := Lib.hid hv
          clear hv hv' hn hA hc0 h0 h1 t0 t1
          go_enter Try.func66, Try.ntmps66
          go_wp2
          go_ret
          exact ⟨ret_bool (H.out ▸ by simp), hbx _⟩
      · have t2 : (k == 2) = false := by simpa using h2
        have hv' : rtRight ⟨k, c, l⟩ = false := by
          unfold rtRight
          dsimp only
          rw [if_neg h0, if_neg h1, if_neg h2]
        rw [hv'] at hv
        have H := Lib.hid hv
        clear hv hv' hn hA h0 h1 h2
        go_enter Try.func66, Try.ntmps66
        go_wp2
        go_ret
        exact ⟨ret_bool H.out, hbx _⟩
theorem atRight_is (r : Rt) (b : Bool) (H : Hid (rtRight r = b)) {A : Option Addr} {n ca : Nat} {w : World} (h : RtAt w r A n) (hl : n ≤ ca) (hc : ca ≤ 9223372036854775807) :
    Calls Try.prog 66 #[.agg #[.int .i64 r.kind, .int .i64 r.cost, .slice A n ca]] w fun e w' => e = .returned (.bool b) ∧ Below w.heap.size w w' :=
  (atRight_any r ca h hl hc).mono fun _ _ ⟨he, hw⟩ => ⟨by rw [he, H.out], hw⟩

end Go.Proofs.Ytlfdpfkimggeoaa
namespace Go.Proofs.Ytlfdpfkimggeoaa
open Go.RowKit
set_option linter.unusedVariables false
set_option linter.unusedSimpArgs false

theorem below_2 (w : World) (o o' : Obj) : Below w.heap.size w ((w.alloc o).alloc o') := (below_new w o).trans ((below_new (w.alloc o) o').mono (below_new w o).size)
theorem below_on {w w1 w2 : World} (h : Below w.heap.size w w1) (h2 : Below w1.heap.size w1 w2) : Below w.heap.size w w2 := h.trans (h2.mono h.size)

/-- Two routes in boxes. -/
structure Rt2 (w : World) (k c : Int) (A : Option Addr) (n ca : Nat) (k' c' : Int) (B : Option Addr) (m cb : Nat) (W : World) : Prop where
  one : Blk W w.heap.size 42 #[.int .i64 k, .int .i64 c, .slice A n ca]
  two : Blk W (w.heap.size + 1) 42 #[.int .i64 k', .int .i64 c', .slice B m cb]
  up : Below w.heap.size w W
section
variable {w : World} {k c : Int} {A : Option Addr} {n ca : Nat} {k' c' : Int} {B : Option Addr} {m cb : Nat} {W W' : World}
theorem Rt2.new (w : World) (k c : Int) (A : Option Addr) (n ca : Nat) (k' c' : Int) (B : Option Addr) (m cb : Nat) : Rt2 w k c A n ca k' c' B m cb ((w.alloc (.cells #[.int .i64 k, .int .i64 c, .slice A n ca] 42)).alloc (.cells #[.int .i64 k', .int .i64 c', .slice B m cb] 42)) :=
  ⟨(Blk.new w _ _).alloc _, by have := Blk.new (w.alloc (.cells #[.int .i64 k, .int .i64 c, .slice A n ca] 42)) 42 #[.int .i64 k', .int .i64 c', .slice B m cb]; rwa [World.size_alloc] at this, below_2 w _ _⟩
theorem Rt2.go (h : Rt2 w k c A n ca k' c' B m cb W) (hb : Below W.heap.size W W') : Rt2 w k c A n ca k' c' B m cb W' := ⟨h.one.up hb, h.two.up hb, below_on h.up hb⟩
theorem Rt2.drew (h : Rt2 w k c A n ca k' c' B m cb W) : Rt2 w k c A n ca k' c' B m cb W.drew := h.go ((Below.refl _ _).drew)
theorem Rt2.cells (h : Rt2 w k c A n ca k' c' B m cb W) :
    W.cell? ⟨w.heap.size, 0, none⟩ = some (.int .i64 k) ∧ W.cell? ⟨w.heap.size, 1, none⟩ = some (.int .i64 c) ∧ W.cell? ⟨w.heap.size, 2, none⟩ = some (.slice A n ca) ∧ W.cell? ⟨w.heap.size + 1, 0, none⟩ = some (.int .i64 k') ∧ W.cell? ⟨w.heap.size + 1, 1, none⟩ = some (.int .i64 c') ∧ W.cell? ⟨w.heap.size + 1, 2, none⟩ = some (.slice B m cb) :=
  ⟨h.one.cell 0, h.one.cell 1, h.one.cell 2, h.two.cell 0, h.two.cell 1, h.two.cell 2⟩
end

end Go.Proofs.Ytlfdpfkimggeoaa
