/-
  The document's Same, Better and Right of routes.
-/
import Derived.Test.YtlfdpfkimggeoaaDoorAtD
namespace Go.Proofs.YtlfdpfkimggeoaaDoor
open Go.RowKit
set_option linter.unusedVariables false
set_option linter.unusedSimpArgs false

theorem Rt2.drewN {w : World} {k c : Int} {A : Option Addr} {n ca : Nat} {k' c' : Int} {B : Option Addr} {m cb : Nat} {W : World} (h : Rt2 w k c A n ca k' c' B m cb W) (q : Nat) : Rt2 w k c A n ca k' c' B m cb (W.drewN q) := h.go (below_drewN _ q)

set_option maxHeartbeats 4000000 in
set_option maxRecDepth 100000 in
theorem refSame6_any (a b : Rt) {A B : Option Addr} {n m : Nat} (ca cb : Nat) {w : World} (ha : RtAt w a A n) (hb : RtAt w b B m) :
    Calls Tryd.prog 18 #[.agg #[.int .i64 a.kind, .int .i64 a.cost, .slice A n ca], .agg #[.int .i64 b.kind, .int .i64 b.cost, .slice B m cb]] w fun e w' => e = .returned (.bool (rtSame a b)) ∧ Below w.heap.size w w' := by
  obtain ⟨k, c, l⟩ := a
  obtain ⟨k', c', l'⟩ := b
  obtain ⟨hn, hA, hm⟩ := ha
  obtain ⟨hn', hB, hm'⟩ := hb
  dsimp only at hn hn' hA hB ⊢
  have hbx := below_2 w
  obtain ⟨v, hv⟩ : ∃ v, rtSame ⟨k, c, l⟩ ⟨k', c', l'⟩ = v := ⟨_, rfl⟩
  rw [hv]
  have hv' : rtSame ⟨k, c, l⟩ ⟨k', c', l'⟩ = (decide (k = k') && (decide (c = c') && decide (l = l'))) := rfl
  rw [hv'] at hv
  have HN := Lib.hid hn
  have HN' := Lib.hid hn'
  have HA := Lib.hid hA
  have HB := Lib.hid hB
  clear hv' hA hB hn hn'
  by_cases h0 : k = k'
  · subst h0
    have t0 : (k != k) = false := by simp
    by_cases h1 : c = c'
    · subst h1
      have t1 : (c != c) = false := by simp
      rw [decide_eq_true rfl, decide_eq_true rfl, Bool.true_and, Bool.true_and] at hv
      by_cases h2 : n = m
      · subst h2
        have t2 : ((n : Int) != (n : Int)) = false := by simp
        have t2' : (n != n) = false := by simp
        have H := Lib.hid hv
        clear hv
        have h2 := Rt2.new w k c A n ca k c B n cb
        obtain ⟨q0, q1, q2, q3, q4, q5⟩ := h2.cells
        go_enter Tryd.func18, Tryd.ntmps18
        go_wp2
        go_loopw [5] (fun i wr => ∃ j : Nat, j ≤ n ∧ i = .int .i64 (j : Nat) ∧ l.take j = l'.take j ∧ Rt2 w k c A n ca k c B n cb wr) (fun i _ => n - (intOf i).toNat)
        case atStart => exact ⟨0, Nat.zero_le _, rfl, by simp, h2⟩
        case round =>
          clear h2 q0 q1 q2 q3 q4 q5
          obtain ⟨j, hj, rfl, he, h2⟩ := hrel
          obtain ⟨q0, q1, q2, q3, q4, q5⟩ := h2.cells
          have HE := Lib.hid he
          clear he
          by_cases hlt : j < n
          · obtain ⟨x, hx⟩ : ∃ x, l[j]? = some x := ⟨_, List.getElem?_eq_getElem (by rw [HN.out]; exact hlt)⟩
            obtain ⟨y, hy⟩ : ∃ y, l'[j]? = some y := ⟨_, List.getElem?_eq_getElem (by rw [HN'.out]; exact hlt)⟩
            obtain ⟨ad, rfl, hg, c0⟩ := (HA.out.on h2.up).int hx
            obtain ⟨bd, rfl, hgb, d0⟩ := (HB.out.on h2.up).int hy
            have HX := Lib.hid hx
            have HY := Lib.hid hy
            clear hx hy
            by_cases e : x = y
            · have t : (x != y) = false := by simpa using e
              have HXY := Lib.hid e
              clear e
              go_wp2
              go_quiet (fail)
              go_wp2
              go_roundw
              case rel => exact ⟨j + 1, by omega, by go_num, by rw [List.take_add_one, List.take_add_one, HE.out, HX.out, HY.out, HXY.out], h2.drewN _⟩
              case measure => simp [intOf]; omega
            · have t : (x != y) = true := by simpa using e
              have HXY := Lib.hid e
              clear e
              go_wp2
              go_quiet (fail)
              go_wp2
              go_ret
              refine ⟨ret_bool ?_, (h2.drewN _).up⟩
              rw [← H.out, decide_eq_false]
              intro e
              apply HXY.out
              have h1 := HX.out
              rw [e, HY.out] at h1
              exact (Option.some.inj h1).symm
          · have HK := Lib.hid (show j = n by omega)
            go_wp2
            go_ret
            refine ⟨ret_bool ?_, h2.up⟩
            have he := HE.out
            rw [List.take_of_length_le (by rw [HN.out, HK.out]; exact Nat.le_refl _), List.take_of_length_le (by rw [HN'.out, HK.out]; exact Nat.le_refl _)] at he
            rw [← H.out, decide_eq_true he]
      · have t2 : ((n : Int) != (m : Int)) = true := by rw [bne_iff_ne]; omega
        have t2' : (n != m) = true := by simpa using h2
        have H := Lib.hid (show false = v by rw [← hv]; exact (decide_eq_false fun e => h2 (by rw [← HN.out, ← HN'.out, e])).symm)
        clear hv h2
        go_enter Tryd.func18, Tryd.ntmps18
        go_wp2
        go_ret
        exact ⟨ret_bool H.out, hbx _ _⟩
    · have t : (c != c') = true := by simpa using h1
      rw [decide_eq_true rfl, decide_eq_false h1] at hv
      have H := Lib.hid hv
      clear hv h1
      go_enter Tryd.func18, Tryd.ntmps18
      go_wp2
      go_ret
      exact ⟨ret_bool (H.out ▸ by simp), hbx _ _⟩
  · have t : (k != k') = true := by simpa using h0
    rw [decide_eq_false h0] at hv
    have H := Lib.hid hv
    clear hv h0
    go_enter Tryd.func18, Tryd.ntmps18
    go_wp2
    go_ret
    exact ⟨ret_bool (H.out ▸ by simp), hbx _ _⟩
theorem refSame6_is (a b : Rt) (v : Bool) (H : Hid (rtSame a b = v)) {A B : Option Addr} {n m ca cb : Nat} {w : World} (ha : RtAt w a A n) (hb : RtAt w b B m) :
    Calls Tryd.prog 18 #[.agg #[.int .i64 a.kind, .int .i64 a.cost, .slice A n ca], .agg #[.int .i64 b.kind, .int .i64 b.cost, .slice B m cb]] w fun e w' => e = .returned (.bool v) ∧ Below w.heap.size w w' :=
  (refSame6_any a b ca cb ha hb).mono fun _ _ ⟨he, hw⟩ => ⟨by rw [he, H.out], hw⟩

/-- The document's order. -/
def refBetterV (a b : Rt) : Bool :=
  if a.kind = b.kind then (if a.cost = b.cost then (if a.path.length = b.path.length then decide (cmpL a.path b.path < 0) else decide (a.path.length < b.path.length)) else decide (a.cost < b.cost))
  else decide (rtAhead a < rtAhead b)
theorem rtBetter_ref {a b : Rt} (ha : rtRight a = true) (hb : rtRight b = true) : refBetterV a b = rtBetter a b := by
  unfold refBetterV rtBetter
  by_cases hk : a.kind = b.kind
  · rw [if_pos hk, if_pos hk]
    unfold rtLen lenV
    unfold rtRight at ha hb
    rw [← hk] at hb ⊢
    by_cases h0 : a.kind = 0
    · rw [if_pos h0] at ha hb
      simp only [Bool.and_eq_true, decide_eq_true_eq] at ha hb
      rw [h0]
      simp only [show ¬ (0 : Int) = 1 by omega, show ¬ (0 : Int) = 2 by omega, if_false, if_true]
      rw [if_pos (by omega), if_pos (by omega)]
    · rw [if_neg h0] at ha hb
      by_cases h1 : a.kind = 1
      · rw [if_pos h1] at ha hb
        simp only [Bool.and_eq_true, decide_eq_true_eq] at ha hb
        rw [if_pos h1, if_pos h1]
        by_cases e : a.cost = b.cost
        · rw [if_pos e, if_pos e, if_pos (by omega)]
        · rw [if_neg e, if_neg e]
      · rw [if_neg h1] at ha hb
        by_cases h2 : a.kind = 2
        · rw [if_pos h2] at ha hb
          simp only [Bool.and_eq_true, decide_eq_true_eq] at ha hb
          rw [if_neg h1, if_neg h1, if_pos h2, if_pos h2, if_pos (by omega)]
          by_cases e : a.path.length = b.path.length
          · rw [if_pos e, if_pos (by omega)]
          · rw [if_neg e, if_neg (by omega), decide_eq_decide]; omega
        · rw [if_neg h2] at ha
          cases ha
  · rw [if_neg hk, if_neg hk]
theorem rtRight_kind {a : Rt} (h : rtRight a = true) : 0 ≤ a.kind ∧ a.kind ≤ 2 := by
  unfold rtRight at h
  by_cases h0 : a.kind = 0
  · omega
  · rw [if_neg h0] at h
    by_cases h1 : a.kind = 1
    · omega
    · rw [if_neg h1] at h
      by_cases h2 : a.kind = 2
      · omega
      · rw [if_neg h2] at h; cases h

end Go.Proofs.YtlfdpfkimggeoaaDoor
