/-
  Routes: which may be, which are the same, how long they are, which of two is better.
-/
import Derived.Test.YtlfdpfkimggeoaaDoorAtA
namespace Go.Proofs.YtlfdpfkimggeoaaDoor
open Go.RowKit
set_option linter.unusedVariables false
set_option linter.unusedSimpArgs false

/-- A route. -/
structure Rt where
  kind : Int
  cost : Int
  path : List Int
def Rt.none : Rt := ⟨0, 0, []⟩
def pathOk (l : List Int) : Bool := l.all (fun x => decide (1 ≤ x) && decide (x ≤ 65535)) && decide l.Nodup
def pathB (l : List Int) : Bool := decide (l.length ≤ 12) && pathOk l
def lenV (k c n : Int) : Int := if k = 1 then c else if k = 2 then n else -1
def aheadV (k : Int) : Int := if k = 0 then 2 else if k = 2 then 1 else 0
def rtRight (r : Rt) : Bool :=
  if r.kind = 0 then decide (r.cost = 0) && decide (r.path.length = 0)
  else if r.kind = 1 then decide (0 ≤ r.cost) && (decide (r.cost ≤ 15) && decide (r.path.length = 0))
  else if r.kind = 2 then decide (r.cost = 0) && pathB r.path
  else false
def rtSame (a b : Rt) : Bool := decide (a.kind = b.kind) && (decide (a.cost = b.cost) && decide (a.path = b.path))
def rtLen (r : Rt) : Int := lenV r.kind r.cost (r.path.length : Int)
def rtAhead (r : Rt) : Int := aheadV r.kind
def rtBetter (a b : Rt) : Bool :=
  if a.kind = b.kind then (if rtLen a = rtLen b then decide (cmpL a.path b.path < 0) else decide (rtLen a < rtLen b))
  else decide (rtAhead a < rtAhead b)

/-- A route's value, and its numbers in memory. -/
def RtAt (w : World) (r : Rt) (A : Option Addr) (n : Nat) : Prop := r.path.length = n ∧ CellsAt w w.heap.size A (r.path.map (Value.int .i64)) ∧ n ≤ 9223372036854775807
theorem RtAt.on {w w' : World} {r : Rt} {A : Option Addr} {n : Nat} (h : RtAt w r A n) (hb : Below w.heap.size w w') : RtAt w' r A n := ⟨h.1, h.2.1.on hb, h.2.2⟩
theorem RtAt.box {w : World} {r : Rt} {A : Option Addr} {n : Nat} (h : RtAt w r A n) (o : Obj) : RtAt (w.alloc o) r A n := h.on (below_new w o)

section
variable {w : World} (k c : Int) (A : Option Addr) (n ca : Nat)
end
section
variable {r a b : Rt} {A B : Option Addr} {n m : Nat} {w : World}
end

/-! ### The numbers of a path -/
def pathF (l : List Int) : Nat → Bool := fun k => ((l.take k).all fun x => decide (1 ≤ x) && decide (x ≤ 65535)) && decide (l.take k).Nodup
theorem pathF_zero (l : List Int) : pathF l 0 = true := by simp [pathF]
theorem pathF_next {l : List Int} {k : Nat} {x : Int} (hx : l[k]? = some x) : pathF l (k + 1) = (pathF l k && ((decide (1 ≤ x) && decide (x ≤ 65535)) && !memI x (l.take k))) := by
  unfold pathF memI
  rw [List.take_add_one, hx]
  rw [Bool.eq_iff_iff]
  simp only [Option.toList_some, List.all_append, List.all_cons, List.all_nil, Bool.and_true, Bool.and_eq_true, decide_eq_true_eq, Bool.not_eq_true', decide_eq_false_iff_not, List.nodup_append]
  constructor
  · rintro ⟨⟨h1, h2⟩, h3, h4, h5⟩
    exact ⟨⟨h1, h3⟩, h2, fun hm => h5 x hm x (by simp) rfl⟩
  · rintro ⟨⟨h1, h3⟩, h2, h4⟩
    refine ⟨⟨h1, h2⟩, h3, by simp, fun a ha b hb => ?_⟩
    simp at hb
    subst hb
    exact fun e => h4 (e ▸ ha)
theorem pathF_all {l : List Int} {k : Nat} (h : l.length ≤ k) : pathF l k = pathOk l := by unfold pathF pathOk; rw [List.take_of_length_le h]
theorem pathF_false {l : List Int} {k j : Nat} (h : pathF l k = false) (hj : k ≤ j) : pathF l j = false := by
  induction j with
  | zero => rw [show (0 : Nat) = k by omega]; exact h
  | succ j ih =>
    by_cases e : k = j + 1
    · rw [← e]; exact h
    · have := ih (by omega)
      cases hx : l[j]? with
      | none =>
        have hl := List.getElem?_eq_none_iff.1 hx
        unfold pathF at this ⊢
        rw [List.take_of_length_le (by omega)] at this ⊢
        exact this
      | some x => rw [pathF_next hx, this]; rfl

set_option maxHeartbeats 1600000 in
theorem rightPath_any (l : List Int) (A : Option Addr) (c : Nat) (w : World) (hA : CellsAt w w.heap.size A (l.map (Value.int .i64))) (hl : l.length ≤ c) (hc : c ≤ 9223372036854775807) :
    Calls Tryd.prog 28 #[.slice A l.length c] w fun e w' => e = .returned (.bool (pathB l)) ∧ w = w' := by
  by_cases h12 : l.length ≤ 12
  · have h12' : ¬ (12 : Int) < (l.length : Int) := by omega
    have HG := Lib.hid (show pathB l = pathF l l.length by unfold pathB; rw [decide_eq_true h12, Bool.true_and, pathF_all (Nat.le_refl _)])
    go_enter Tryd.func28, Tryd.ntmps28
    go_wp2
    go_loop [10] (fun i => ∃ k : Nat, k ≤ l.length ∧ i = .int .i64 (k : Nat) ∧ pathF l k = true) (fun i => l.length - (intOf i).toNat)
    case atStart => exact ⟨0, Nat.zero_le _, rfl, pathF_zero l⟩
    case round =>
      obtain ⟨k, hk, rfl, hat⟩ := hrel
      by_cases hlt : k < l.length
      · obtain ⟨x, hx⟩ : ∃ x, l[k]? = some x := ⟨_, List.getElem?_eq_getElem hlt⟩
        obtain ⟨ad, rfl, hg, c0⟩ := hA.int hx
        have hn := pathF_next hx
        rw [hat, Bool.true_and] at hn
        have hT : CellsAt w w.heap.size (some ad) ((l.take k).map (Value.int .i64)) := fun hne => by
          obtain ⟨ad', e, hb, hcc⟩ := hA (by intro e; apply hne; rw [List.map_eq_nil_iff] at e ⊢; rw [e]; simp)
          refine ⟨ad', e, hb, fun j u hu => hcc j u ?_⟩
          rw [List.map_take, List.getElem?_take] at hu
          by_cases hj : j < k
          · rwa [if_pos hj] at hu
          · rw [if_neg hj] at hu; cases hu
        have HTL := Lib.hid (show (l.take k).length = k by rw [List.length_take]; omega)
        have HF := Lib.hid (fun h : pathF l (k + 1) = false => pathF_false h (show k + 1 ≤ l.length by omega))
        have HA := Lib.hid hA
        clear hx hat hA
        by_cases h1 : x < 1
        · have HN := Lib.hid (show pathF l (k + 1) = false from hn.trans (by rw [decide_eq_false (show ¬ 1 ≤ x by omega)]; simp))
          clear hn
          go_wp2
          go_ret
          exact ⟨ret_bool (by rw [HG.out, HF.out HN.out]), rfl⟩
        · by_cases h2 : 65535 < x
          · have HN := Lib.hid (show pathF l (k + 1) = false from hn.trans (by rw [decide_eq_false (show ¬ x ≤ 65535 by omega)]; simp))
            clear hn
            go_wp2
            go_ret
            exact ⟨ret_bool (by rw [HG.out, HF.out HN.out]), rfl⟩
          · obtain ⟨b, hb⟩ : ∃ b, memI x (l.take k) = b := ⟨_, rfl⟩
            rw [decide_eq_true (show 1 ≤ x by omega), decide_eq_true (show x ≤ 65535 by omega), hb] at hn
            have HB := Lib.hid hb
            have hkc : k ≤ c := by omega
            clear hb
            cases b
            · have HN := Lib.hid (show pathF l (k + 1) = true from hn)
              clear hn
              go_wp2_with (go_at_call 31; (with_reducible refine (slContains_is (l.take k) k false x HB HTL (by omega) hT).mono ?_); rintro e w2 ⟨rfl, rfl⟩)
              go_round
              case rel => exact ⟨k + 1, by omega, by go_num, HN.out⟩
              case measure => simp [intOf]; omega
            · have HN := Lib.hid (show pathF l (k + 1) = false from hn)
              clear hn
              go_wp2_with (go_at_call 31; (with_reducible refine (slContains_is (l.take k) k true x HB HTL (by omega) hT).mono ?_); rintro e w2 ⟨rfl, rfl⟩)
              go_ret
              exact ⟨ret_bool (by rw [HG.out, HF.out HN.out]), rfl⟩
      · have HI := Lib.hid (show pathF l l.length = true by rw [← show k = l.length by omega]; exact hat)
        clear hat
        go_wp2
        go_ret
        exact ⟨ret_bool (by rw [HG.out, HI.out]), rfl⟩
  · have h12' : (12 : Int) < (l.length : Int) := by omega
    have HG := Lib.hid (show pathB l = false by unfold pathB; rw [decide_eq_false h12]; rfl)
    go_enter Tryd.func28, Tryd.ntmps28
    go_wp2
    go_ret
    exact ⟨ret_bool HG.out.symm, rfl⟩
end Go.Proofs.YtlfdpfkimggeoaaDoor
