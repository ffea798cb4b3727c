/-
  The document's Right of routes; raw numbers.
-/
import Derived.Test.YtlfdpfkimggeoaaAtD
namespace Go.Proofs.Ytlfdpfkimggeoaa
open Go.RowKit
set_option linter.unusedVariables false
set_option linter.unusedSimpArgs false

theorem Rt2.drewN {w : World} {k c : Int} {A : Option Addr} {n ca : Nat} {k' c' : Int} {B : Option Addr} {m cb : Nat} {W : World} (h : Rt2 w k c A n ca k' c' B m cb W) (q : Nat) : Rt2 w k c A n ca k' c' B m cb (W.drewN q) := h.go (below_drewN _ q)

set_option maxHeartbeats 4000000 in
set_option maxRecDepth 100000 in
theorem refSame6_any (a b : Rt) {A B : Option Addr} {n m : Nat} (ca cb : Nat) {w : World} (ha : RtAt w a A n) (hb : RtAt w b B m) :
    Calls Try.prog 24 #[.agg #[.int .i64 a.kind, .int .i64 a.cost, .slice A n ca], .agg #[.int .i64 b.kind, .int .i64 b.cost, .slice B m cb]] w fun e w' => e = .returned (.bool (rtSame a b)) ∧ Below w.heap.size w w' := by
  obtain ⟨k, c, l⟩ := a
  obtain ⟨k', c', l'⟩ := b
  obtain ⟨hn, hA, hm⟩ := ha
  obtain ⟨hn', hB, hm'⟩ := hb
  dsimp only at hn hn' hA hB ⊢
  have hbx := below_2 w
  obtain ⟨v, hv⟩ : ∃ v, rtSame ⟨k, c, l⟩ ⟨k', c', l'⟩ = v := ⟨_, rfl⟩
  rw [hv]
  have hv' : rtSame ⟨k, c, l⟩ ⟨k', c', l'⟩ = (decide (k = k') && (decide (c = c') && decide (l = l'))) := rfl
  rw [hv'] at hv
  have HN := Lib.hid hn
  have HN' := Lib.hid hn'
  have HA := Lib.hid hA
  have HB := Lib.hid hB
  clear hv' hA hB hn hn'
  by_cases h0 : k = k'
  · subst h0
    have t0 : (k != k) = false := by simp
    by_cases h1 : c = c'
    · subst h1
      have t1 : (c != c) = false := by simp
      rw [decide_eq_true rfl, decide_eq_true rfl, Bool.true_and, Bool.true_and] at hv
      by_cases h2 : n = m
      · subst h2
        have t2 : ((n : Int) != (n : Int)) = false := by simp
        have t2' : (n != n) = false := by simp
        have H := Lib.hid hv
        clear hv
        have h2 := Rt2.new w k c A n ca k c B n cb
        obtain ⟨q0, q1, q2, q3, q4, q5⟩ := h2.cells
        go_enter Try.func24, Try.ntmps24
        go_wp2
        go_loopw [5] (fun i wr => ∃ j : Nat, j ≤ n ∧ i = .int .i64 (j : Nat) ∧ l.take j = l'.take j ∧ Rt2 w k c A n ca k c B n cb wr) (fun i _ => n - (intOf i).toNat)
        case atStart => exact ⟨0, Nat.zero_le _, rfl, by simp, h2⟩
        case round =>
          clear h2 q0 q1 q2 q3 q4 q5
          obtain ⟨j, hj, rfl, he, h2⟩ := hrel
          obtain ⟨q0, q1, q2, q3, q4, q5⟩ := h2.cells
          have HE := Lib.hid he
          clear he
          by_cases hlt : j < n
          · obtain ⟨x, hx⟩ : ∃ x, l[j]? = some x := ⟨_, List.getElem?_eq_getElem (by rw [HN.out]; exact hlt)⟩
            obtain ⟨y, hy⟩ : ∃ y, l'[j]? = some y := ⟨_, List.getElem?_eq_getElem (by rw [HN'.out]; exact hlt)⟩
            obtain ⟨ad, rfl, hg, c0⟩ := (HA.out.on h2.up).int hx
            obtain ⟨bd, rfl, hgb, d0⟩ := (HB.out.on h2.up).int hy
            have HX := Lib.hid hx
            have HY := Lib.hid hy
            clear hx hy
            by_cases e : x = y
            · have t : (x != y) = false := by simpa using e
              have HXY := Lib.hid e
              clear e
              go_wp2
              go_quiet (fail)
              go_wp2
              go_roundw
              case rel => exact ⟨j + 1, by omega, by go_num, by rw [List.take_add_one, List.take_add_one, HE.out, HX.out, HY.out, HXY.out], h2.drewN _⟩
              case measure => simp [intOf]; omega
            · have t : (x != y) = true := by simpa using e
              have HXY := Lib.hid e
              clear e
              go_wp2
              go_quiet (fail)
              go_wp2
              go_ret
              refine ⟨ret_bool ?_, (h2.drewN _).up⟩
              rw [← H.out, decide_eq_false]
              intro e
              apply HXY.out
              have h1 := HX.out
              rw [e, HY.out] at h1
              exact (Option.some.inj h1).symm
          · have HK := Lib.hid (show j = n by omega)
            go_wp2
            go_ret
            refine ⟨ret_bool ?_, h2.up⟩
            have he := HE.out
            rw [List.take_of_length_le (by rw [HN.out, HK.out]; exact Nat.le_refl _), List.take_of_length_le (by rw [HN'.out, HK.out]; exact Nat.le_refl _)] at he
            rw [← H.out, decide_eq_true he]
      · have t2 : ((n : Int) != (m : Int)) = true := by rw [bne_iff_ne]; omega
        have t2' : (n != m) = true := by simpa using h2
        have H := Lib.hid (show false = v by rw [← hv]; exact (decide_eq_false fun e => h2 (by rw [← HN.out, ← HN'.out, e])).symm)
        clear hv h2
        go_enter Try.func24, Try.ntmps24
        go_wp2
        go_ret
        exact ⟨ret_bool H.out, hbx _ _⟩
    · have t : (c != c') = true := by simpa using h1
      rw [decide_eq_true rfl, decide_eq_false h1] at hv
      have H := Lib.hid hv
      clear hv h1
      go_enter Try.func24, Try.ntmps24
      go_wp2
      go_ret
      exact ⟨ret_bool (H.out ▸ by simp), hbx _ _⟩
  · have t : (k != k') = true := by simpa using h0
    rw [decide_eq_false h0] at hv
    have H := Lib.hid hv
    clear hv h0
    go_enter Try.func24, Try.ntmps24
    go_wp2
    go_ret
    exact ⟨ret_bool (H.out ▸ by simp), hbx _ _⟩
theorem refSame6_is (a b : Rt) (v : Bool) (H : Hid (rtSame a b = v)) {A B : Option Addr} {n m ca cb : Nat} {w : World} (ha : RtAt w a A n) (hb : RtAt w b B m) :
    Calls Try.prog 24 #[.agg #[.int .i64 a.kind, .int .i64 a.cost, .slice A n ca], .agg #[.int .i64 b.kind, .int .i64 b.cost, .slice B m cb]] w fun e w' => e = .returned (.bool v) ∧ Below w.heap.size w w' :=
  (refSame6_any a b ca cb ha hb).mono fun _ _ ⟨he, hw⟩ => ⟨by rw [he, H.out], hw⟩

/-- The document's order. -/
def refBetterV (a b : Rt) : Bool :=
  if a.kind = b.kind then (if a.cost = b.cost then (if a.path.length = b.path.length then decide (cmpL a.path b.path < 0) else decide (a.path.length < b.path.length)) else decide (a.cost < b.cost))
  else decide (rtAhead a < rtAhead b)
theorem rtBetter_ref {a b : Rt} (ha : rtRight a = true) (hb : rtRight b = true) : refBetterV a b = rtBetter a b := by
  unfold refBetterV rtBetter
  by_cases hk : a.kind = b.kind
  · rw [if_pos hk, if_pos hk]
    unfold rtLen lenV
    unfold rtRight at ha hb
    rw [← hk] at hb ⊢
    by_cases h0 : a.kind = 0
    · rw [if_pos h0] at ha hb
      simp only [Bool.and_eq_true, decide_eq_true_eq] at ha hb
      rw [h0]
      simp only [show ¬ (0 : Int) = 1 by omega, show ¬ (0 : Int) = 2 by omega, if_false, if_true]
      rw [if_pos (by omega), if_pos (by omega)]
    · rw [if_neg h0] at ha hb
      by_cases h1 : a.kind = 1
      · rw [if_pos h1] at ha hb
        simp only [Bool.and_eq_true, decide_eq_true_eq] at ha hb
        rw [if_pos h1, if_pos h1]
        by_cases e : a.cost = b.cost
        · rw [if_pos e, if_pos e, if_pos (by omega)]
        · rw [if_neg e, if_neg e]
      · rw [if_neg h1] at ha hb
        by_cases h2 : a.kind = 2
        · rw [if_pos h2] at ha hb
          simp only [Bool.and_eq_true, decide_eq_true_eq] at ha hb
          rw [if_neg h1, if_neg h1, if_pos h2, if_pos h2, if_pos (by omega)]
          by_cases e : a.path.length = b.path.length
          · rw [if_pos e, if_pos (by omega)]
          · rw [if_neg e, if_neg (by omega), decide_eq_decide]; omega
        · rw [if_neg h2] at ha
          cases ha
  · rw [if_neg hk, if_neg hk]
theorem rtRight_kind {a : Rt} (h : rtRight a = true) : 0 ≤ a.kind ∧ a.kind ≤ 2 := by
  unfold rtRight at h
  by_cases h0 : a.kind = 0
  · omega
  · rw [if_neg h0] at h
    by_cases h1 : a.kind = 1
    · omega
    · rw [if_neg h1] at h
      by_cases h2 : a.kind = 2
      · omega
      · rw [if_neg h2] at h; cases h

end Go.Proofs.Ytlfdpfkimggeoaa
namespace Go.Proofs.Ytlfdpfkimggeoaa
open Go.RowKit
set_option linter.unusedVariables false
set_option linter.unusedSimpArgs false

/-- A route in a box. -/
structure Rt1 (w : World) (k c : Int) (A : Option Addr) (n ca : Nat) (W : World) : Prop where
  one : Blk W w.heap.size 42 #[.int .i64 k, .int .i64 c, .slice A n ca]
  up : Below w.heap.size w W
section
variable {w : World} {k c : Int} {A : Option Addr} {n ca : Nat} {W W' : World}
theorem Rt1.new (w : World) (k c : Int) (A : Option Addr) (n ca : Nat) : Rt1 w k c A n ca (w.alloc (.cells #[.int .i64 k, .int .i64 c, .slice A n ca] 42)) := ⟨Blk.new w _ _, below_new w _⟩
theorem Rt1.go (h : Rt1 w k c A n ca W) (hb : Below W.heap.size W W') : Rt1 w k c A n ca W' := ⟨h.one.up hb, below_on h.up hb⟩
theorem Rt1.drewN (h : Rt1 w k c A n ca W) (q : Nat) : Rt1 w k c A n ca (W.drewN q) := h.go (below_drewN _ q)
theorem Rt1.cells (h : Rt1 w k c A n ca W) : W.cell? ⟨w.heap.size, 0, none⟩ = some (.int .i64 k) ∧ W.cell? ⟨w.heap.size, 1, none⟩ = some (.int .i64 c) ∧ W.cell? ⟨w.heap.size, 2, none⟩ = some (.slice A n ca) :=
  ⟨h.one.cell 0, h.one.cell 1, h.one.cell 2⟩
end

theorem rtRight_bad {k c : Int} {l : List Int} {j : Nat} (hj : j < l.length) (hj2 : j < 13) (h : pathF l (j + 1) = false) : rtRight ⟨k, c, l⟩ = false := by
  unfold rtRight
  dsimp only
  have hl : decide (l.length = 0) = false := decide_eq_false (by omega)
  by_cases h0 : k = 0
  · rw [if_pos h0, hl, Bool.and_false]
  · rw [if_neg h0]
    by_cases h1 : k = 1
    · rw [if_pos h1, hl]; simp
    · rw [if_neg h1]
      by_cases h2 : k = 2
      · rw [if_pos h2]
        unfold pathB
        by_cases h12 : l.length ≤ 12
        · rw [← pathF_all (Nat.le_refl l.length), pathF_false h (by omega)]; simp
        · rw [decide_eq_false h12]; simp
      · rw [if_neg h2]
def refRightV (k c : Int) (n : Nat) : Bool := if k = 0 then decide (c = 0) && decide (n = 0) else if k = 1 then decide (0 ≤ c) && (decide (c ≤ 15) && decide (n = 0)) else if k = 2 then decide (c = 0) && decide (n ≤ 12) else false
theorem rtRight_good {k c : Int} {l : List Int} {j : Nat} (hj : l.length ≤ j ∨ 13 ≤ j) (h : pathF l j = true) : refRightV k c l.length = rtRight ⟨k, c, l⟩ := by
  unfold refRightV rtRight
  dsimp only
  have hp : pathB l = decide (l.length ≤ 12) := by
    unfold pathB
    by_cases h12 : l.length ≤ 12
    · rw [← pathF_all (show l.length ≤ j by omega), h, decide_eq_true h12]; rfl
    · rw [decide_eq_false h12]; rfl
  rw [hp]

set_option maxHeartbeats 4000000 in
set_option maxRecDepth 100000 in
/-- The document's kinds, at the loop's end. -/
theorem refRight6_any (r : Rt) {A : Option Addr} {n : Nat} (ca : Nat) {w : World} (h : RtAt w r A n) :
    Calls Try.prog 50 #[.agg #[.int .i64 r.kind, .int .i64 r.cost, .slice A n ca]] w fun e w' => e = .returned (.bool (rtRight r)) ∧ Below w.heap.size w w' := by
  obtain ⟨k, c, l⟩ := r
  obtain ⟨hn, hA, hm⟩ := h
  dsimp only at hn hA ⊢
  obtain ⟨v, hv⟩ : ∃ v, rtRight ⟨k, c, l⟩ = v := ⟨_, rfl⟩
  rw [hv]
  have h1 := Rt1.new w k c A n ca
  obtain ⟨q0, q1, q2⟩ := h1.cells
  have HN := Lib.hid hn
  have HA := Lib.hid hA
  have HBAD : Hid (∀ j, j < n → j < 13 → pathF l (j + 1) = false → false = v) := Lib.hid fun j h1 h2 h3 => by rw [← hv]; exact (rtRight_bad (by omega) h2 h3).symm
  have HGOOD : Hid (∀ j, n ≤ j ∨ 13 ≤ j → pathF l j = true → refRightV k c n = v) := Lib.hid fun j h1 h2 => by rw [← hv, ← hn]; exact rtRight_good (by rw [hn]; exact h1) h2
  clear hn hA hv
  go_enter Try.func50, Try.ntmps50
  go_wp2
  go_loopw [3, 4] (fun i _ wr => ∃ j : Nat, j ≤ n ∧ j ≤ 13 ∧ i = .int .i64 (j : Nat) ∧ pathF l j = true ∧ Rt1 w k c A n ca wr) (fun i _ _ => n - (intOf i).toNat)
  case atStart => exact ⟨0, Nat.zero_le _, by omega, rfl, pathF_zero l, h1⟩
  case round =>
    clear h1 q0 q1 q2
    obtain ⟨j, hj, hj13, rfl, hat, h1⟩ := hrel
    obtain ⟨q0, q1, q2⟩ := h1.cells
    by_cases hlt : j < n ∧ j < 13
    · obtain ⟨hlt, hlt13⟩ := hlt
      have g13 : (j : Int) < 13 := by omega
      obtain ⟨x, hx⟩ : ∃ x, l[j]? = some x := ⟨_, List.getElem?_eq_getElem (by rw [HN.out]; exact hlt)⟩
      obtain ⟨ad, rfl, hg, c0⟩ := (HA.out.on h1.up).int hx
      have hnx := pathF_next hx
      rw [hat, Bool.true_and] at hnx
      have HX := Lib.hid hx
      clear hat
      by_cases hx1 : x < 1
      · have HN := Lib.hid (HBAD.out j hlt hlt13 (hnx.trans (by rw [decide_eq_false (show ¬ 1 ≤ x by omega)]; simp)))
        clear hnx hx
        go_wp2
        go_ret
        exact ⟨ret_bool HN.out, h1.up⟩
      · by_cases hx2 : 65535 < x
        · have HN := Lib.hid (HBAD.out j hlt hlt13 (hnx.trans (by rw [decide_eq_false (show ¬ x ≤ 65535 by omega)]; simp)))
          clear hnx hx
          go_wp2
          go_ret
          exact ⟨ret_bool HN.out, h1.up⟩
        · rw [decide_eq_true (show 1 ≤ x by omega), decide_eq_true (show x ≤ 65535 by omega), Bool.true_and, Bool.true_and] at hnx
          have HNX := Lib.hid hnx
          clear hnx hx
          go_wp2
          go_loopw [4] (fun i wr => ∃ t : Nat, t ≤ j ∧ i = .int .i64 (t : Nat) ∧ memI x (l.take t) = false ∧ Rt1 w k c (some ad) n ca wr) (fun i _ => j - (intOf i).toNat)
          case atStart => exact ⟨0, Nat.zero_le _, rfl, by simp [memI], h1⟩
          case round =>
            clear h1 q0 q1 q2 c0
            obtain ⟨t, ht, rfl, hmem, h1⟩ := hrel
            obtain ⟨q0, q1, q2⟩ := h1.cells
            by_cases htl : t < j
            · have htn : t < n := by omega
              obtain ⟨y, hy⟩ : ∃ y, l[t]? = some y := ⟨_, List.getElem?_eq_getElem (by rw [HN.out]; omega)⟩
              obtain ⟨ad', e1, _, c0⟩ := (HA.out.on h1.up).int HX.out
              obtain ⟨ad2, e2, _, c1⟩ := (HA.out.on h1.up).int hy
              obtain rfl := Option.some.inj e1
              obtain rfl := Option.some.inj e2
              have hmn : memI x (l.take (t + 1)) = (memI x (l.take t) || decide (x = y)) := by
                unfold memI
                rw [List.take_add_one, hy]
                simp [List.mem_append, Bool.decide_or]
              rw [hmem, Bool.false_or] at hmn
              have htk : memI x (l.take (t + 1)) = true → memI x (l.take j) = true := by
                unfold memI
                simp only [decide_eq_true_eq]
                intro hm
                have : l.take (t + 1) = (l.take j).take (t + 1) := by rw [List.take_take]; congr 1; omega
                rw [this] at hm
                exact List.mem_of_mem_take hm
              clear e1 e2 hy hmem
              by_cases e : x = y
              · have tt : (x == y) = true := by simpa using e
                have HV := Lib.hid (HBAD.out j hlt hlt13 (by rw [HNX.out, htk (by rw [hmn]; simpa using e)]; rfl))
                clear hmn htk e
                go_wp2
                go_quiet (fail)
                go_wp2
                go_ret
                exact ⟨ret_bool HV.out, (h1.drewN _).up⟩
              · have tt : (x == y) = false := by simpa using e
                have HM := Lib.hid (show memI x (l.take (t + 1)) = false by rw [hmn]; simpa using e)
                clear hmn htk e
                go_wp2
                go_quiet (fail)
                go_wp2
                go_roundw
                case rel => exact ⟨t + 1, by omega, by go_num, HM.out, h1.drewN _⟩
                case measure => simp [intOf]; omega
            · have htj : t = j := by omega
              have HPN := Lib.hid (show pathF l (j + 1) = true by rw [HNX.out, ← htj, hmem]; rfl)
              clear hmem htj
              go_wp2
              go_roundw
              case rel => exact ⟨j + 1, by omega, by omega, by go_num, HPN.out, h1⟩
              case measure => simp [intOf]; omega
    · have HG := Lib.hid (HGOOD.out j (by omega) hat)
      have hcase : ¬ j < n ∨ (j < n ∧ ¬ (j : Int) < 13) := by omega
      clear hat
      have HV := HG
      clear HG
      rcases hcase with hc1 | ⟨hc1, hc2⟩
      all_goals
        clear hlt
        by_cases k0 : k = 0
        · subst k0
          by_cases c0 : c = 0
          · subst c0
            by_cases n0 : n = 0
            · have tt : ((n : Int) == 0) = true := by simp; omega
              have tt' : (n == 0) = true := by simp; omega
              have HN0 := Lib.hid (show true = v from HV.out ▸ by simp [refRightV, n0])
              clear n0 HV
              go_wp2
              go_ret
              exact ⟨ret_bool HN0.out, h1.up⟩
            · have tt : ((n : Int) == 0) = false := by simp; omega
              have tt' : (n == 0) = false := by simp; omega
              have HN0 := Lib.hid n0
              clear n0
              go_wp2
              go_ret
              exact ⟨ret_bool (HV.out ▸ by simp [refRightV, HN0.out]), h1.up⟩
          · have tt : (c == 0) = false := by simpa using c0
            have HC0 := Lib.hid c0
            clear c0
            go_wp2
            go_ret
            exact ⟨ret_bool (HV.out ▸ by simp [refRightV, HC0.out]), h1.up⟩
        · by_cases k1 : k = 1
          · subst k1
            by_cases c0 : 0 ≤ c
            · by_cases c15 : c ≤ 15
              · by_cases n0 : n = 0
                · have tt : ((n : Int) == 0) = true := by simp; omega
                  have tt' : (n == 0) = true := by simp; omega
                  have HN0 := Lib.hid (show true = v from HV.out ▸ by simp [refRightV, n0, c0, c15])
                  clear n0 HV
                  go_wp2
                  go_ret
                  exact ⟨ret_bool HN0.out, h1.up⟩
                · have tt : ((n : Int) == 0) = false := by simp; omega
                  have tt' : (n == 0) = false := by simp; omega
                  have HN0 := Lib.hid n0
                  clear n0
                  go_wp2
                  go_ret
                  exact ⟨ret_bool (HV.out ▸ by simp [refRightV, HN0.out]), h1.up⟩
              · go_wp2
                go_ret
                exact ⟨ret_bool (HV.out ▸ by simp [refRightV, c15]; omega), h1.up⟩
            · go_wp2
              go_ret
              exact ⟨ret_bool (HV.out ▸ by simp [refRightV, c0]; omega), h1.up⟩
          · have t0 : (k == 0) = false := by simpa using k0
            have t1 : (k == 1) = false := by simpa using k1
            by_cases k2 : k = 2
            · subst k2
              by_cases c0 : c = 0
              · subst c0
                by_cases n12 : n ≤ 12
                · first
                  | (exfalso; omega)
                  | (have n12' : (n : Int) ≤ 12 := by omega
                     have HV2 := Lib.hid (show true = v from HV.out ▸ by simp [refRightV, n12])
                     clear HV
                     go_wp2
                     go_ret
                     exact ⟨ret_bool HV2.out, h1.up⟩)
                · have n12' : ¬ (n : Int) ≤ 12 := by omega
                  have HV2 := Lib.hid (show false = v from HV.out ▸ by simp [refRightV, n12])
                  clear HV
                  go_wp2
                  go_ret
                  exact ⟨ret_bool HV2.out, h1.up⟩
              · have tt : (c == 0) = false := by simpa using c0
                have HV2 := Lib.hid (show false = v from HV.out ▸ by simp [refRightV, c0])
                clear HV c0
                go_wp2
                go_ret
                exact ⟨ret_bool HV2.out, h1.up⟩
            · have t2 : (k == 2) = false := by simpa using k2
              have HV2 := Lib.hid (show false = v from HV.out ▸ by simp [refRightV, k0, k1, k2])
              clear HV k0 k1 k2
              go_wp2
              go_ret
              exact ⟨ret_bool HV2.out, h1.up⟩
theorem refRight6_is (r : Rt) (b : Bool) (H : Hid (rtRight r = b)) {A : Option Addr} {n ca : Nat} {w : World} (h : RtAt w r A n) :
    Calls Try.prog 50 #[.agg #[.int .i64 r.kind, .int .i64 r.cost, .slice A n ca]] w fun e w' => e = .returned (.bool b) ∧ Below w.heap.size w w' :=
  (refRight6_any r ca h).mono fun _ _ ⟨he, hw⟩ => ⟨by rw [he, H.out], hw⟩

/-- Which of n things a raw number speaks of. -/
theorem pick6_any (c n : Int) (hc : InI c) (h0 : 0 < n) (hn : n ≤ 9223372036854775807) (w : World) :
    Calls Try.prog 48 #[.int .i64 c, .int .i64 n] w fun e w' => e = .returned (.int .i64 (pickN c n)) ∧ w = w' := by
  obtain ⟨h1, h2⟩ := hc
  have hz : ¬ n = 0 := by omega
  by_cases h : c < 0
  · have hp : pickN c n = (-(c + 1)) % n := by unfold pickN; rw [if_pos h]
    have H := Lib.hid hp
    have b1 : 0 ≤ -(c + 1) := by omega
    have b2 : -(c + 1) ≤ 9223372036854775807 := by omega
    clear hp
    go_enter Try.func48, Try.ntmps48
    go_wp2
    go_ret
    exact ⟨ret_int (by rw [H.out, ← Int.neg_tmod, Int.tmod_eq_emod_of_nonneg b1]), rfl⟩
  · have hp : pickN c n = c % n := by unfold pickN; rw [if_neg h]
    have H := Lib.hid hp
    have b1 : 0 ≤ c := by omega
    clear hp
    go_enter Try.func48, Try.ntmps48
    go_wp2
    go_ret
    exact ⟨ret_int H.out.symm, rfl⟩
theorem pick6_is (c n v : Int) (hc : InI c) (h0 : 0 < n) (hn : n ≤ 9223372036854775807) (H : Hid (pickN c n = v)) (w : World) :
    Calls Try.prog 48 #[.int .i64 c, .int .i64 n] w fun e w' => e = .returned (.int .i64 v) ∧ w = w' :=
  (pick6_any c n hc h0 hn w).mono fun _ _ ⟨he, hw⟩ => ⟨by rw [he, H.out], hw⟩
end Go.Proofs.Ytlfdpfkimggeoaa
