/-
  Package attr: Right, Same, Better.
-/
import Derived.Test.YtlfdpfkimggeoaaDoorAtB
namespace Go.Proofs.YtlfdpfkimggeoaaDoor
open Go.RowKit
set_option linter.unusedVariables false
set_option linter.unusedSimpArgs false

theorem rightPath_is (l : List Int) (b : Bool) (H : Hid (pathB l = b)) {A : Option Addr} {n c : Nat} {w : World} (hn : l.length = n) (hA : CellsAt w w.heap.size A (l.map (Value.int .i64))) (hl : n ≤ c) (hc : c ≤ 9223372036854775807) :
    Calls Tryd.prog 28 #[.slice A n c] w fun e w' => e = .returned (.bool b) ∧ w = w' := by
  subst hn
  exact (rightPath_any l A c w hA hl hc).mono fun _ _ ⟨he, hw⟩ => ⟨by rw [he, H.out], hw⟩

set_option maxHeartbeats 1600000 in
theorem atRight_any (r : Rt) {A : Option Addr} {n : Nat} (ca : Nat) {w : World} (h : RtAt w r A n) (hl : n ≤ ca) (hc : ca ≤ 9223372036854775807) :
    Calls Tryd.prog 23 #[.agg #[.int .i64 r.kind, .int .i64 r.cost, .slice A n ca]] w fun e w' => e = .returned (.bool (rtRight r)) ∧ Below w.heap.size w w' := by
  obtain ⟨k, c, l⟩ := r
  obtain ⟨hn, hA, hm⟩ := h
  dsimp only at hn hA ⊢
  have hbx := fun o => below_new w o
  have hAx := fun o => hA.on (below_new w o)
  obtain ⟨v, hv⟩ : ∃ v, rtRight ⟨k, c, l⟩ = v := ⟨_, rfl⟩
  rw [hv]
  by_cases h0 : k = 0
  · subst h0
    have hv' : rtRight ⟨0, c, l⟩ = (decide (c = 0) && decide (l.length = 0)) := rfl
    rw [hv', hn] at hv
    by_cases h1 : c = 0
    · subst h1
      have H := Lib.hid hv
      have HN := Lib.hid hn
      clear hv hv' hn hA
      by_cases h2 : n = 0
      · subst h2
        go_enter Tryd.func23, Tryd.ntmps23
        go_wp2
        go_ret
        exact ⟨ret_bool (H.out ▸ by simp), hbx _⟩
      · have t : ((n : Int) == 0) = false := by simp; omega
        have t' : (n == 0) = false := by simp; omega
        have H2 := Lib.hid h2
        clear h2
        go_enter Tryd.func23, Tryd.ntmps23
        go_wp2
        go_ret
        exact ⟨ret_bool (H.out ▸ by simp [H2.out]), hbx _⟩
    · have t : (c != 0) = true := by simpa using h1
      rw [decide_eq_false h1] at hv
      have H := Lib.hid hv
      clear hv hv' hn hA h1
      go_enter Tryd.func23, Tryd.ntmps23
      go_wp2
      go_ret
      exact ⟨ret_bool (H.out ▸ by simp), hbx _⟩
  · by_cases h1 : k = 1
    · subst h1
      have hv' : rtRight ⟨1, c, l⟩ = (decide (0 ≤ c) && (decide (c ≤ 15) && decide (l.length = 0))) := rfl
      rw [hv', hn] at hv
      by_cases c0 : 0 ≤ c
      · by_cases c1 : c ≤ 15
        · rw [decide_eq_true c0, decide_eq_true c1] at hv
          have H := Lib.hid hv
          clear hv hv' hn hA
          by_cases h2 : n = 0
          · subst h2
            go_enter Tryd.func23, Tryd.ntmps23
            go_wp2
            go_ret
            exact ⟨ret_bool (H.out ▸ by simp), hbx _⟩
          · have t : ((n : Int) == 0) = false := by simp; omega
            have t' : (n == 0) = false := by simp; omega
            have H2 := Lib.hid h2
            clear h2
            go_enter Tryd.func23, Tryd.ntmps23
            go_wp2
            go_ret
            exact ⟨ret_bool (H.out ▸ by simp [H2.out]), hbx _⟩
        · rw [decide_eq_false c1] at hv
          have H := Lib.hid hv
          clear hv hv' hn hA
          go_enter Tryd.func23, Tryd.ntmps23
          go_wp2
          go_ret
          exact ⟨ret_bool (H.out ▸ by simp), hbx _⟩
      · rw [decide_eq_false c0] at hv
        have H := Lib.hid hv
        clear hv hv' hn hA
        go_enter Tryd.func23, Tryd.ntmps23
        go_wp2
        go_ret
        exact ⟨ret_bool (H.out ▸ by simp), hbx _⟩
    · have t0 : (k == 0) = false := by simpa using h0
      have t1 : (k == 1) = false := by simpa using h1
      by_cases h2 : k = 2
      · subst h2
        have hv' : rtRight ⟨2, c, l⟩ = (decide (c = 0) && pathB l) := rfl
        rw [hv'] at hv
        by_cases hc0 : c = 0
        · subst hc0
          rw [decide_eq_true rfl, Bool.true_and] at hv
          have H := Lib.hid hv
          clear hv hv' hA h0 h1 t0 t1
          go_enter Tryd.func23, Tryd.ntmps23
          go_wp2_with (go_at_call 28; (with_reducible refine (rightPath_is l v H hn (hAx _) hl hc).mono ?_); rintro e w' ⟨rfl, rfl⟩)
          go_ret
          exact ⟨rfl, hbx _⟩
        · have t : (c == 0) = false := by simpa using hc0
          rw [decide_eq_false hc0] at hv
          have H := Lib.hid hv
          clear hv hv' hn hA hc0 h0 h1 t0 t1
          go_enter Tryd.func23, Tryd.ntmps23
          go_wp2
          go_ret
          exact ⟨ret_bool (H.out ▸ by simp), hbx _⟩
      · have t2 : (k == 2) = false := by simpa using h2
        have hv' : rtRight ⟨k, c, l⟩ = false := by
          unfold rtRight
          dsimp only
          rw [if_neg h0, if_neg h1, if_neg h2]
        rw [hv'] at hv
        have H := Lib.hid hv
        clear hv hv' hn hA h0 h1 h2
        go_enter Tryd.func23, Tryd.ntmps23
        go_wp2
        go_ret
        exact ⟨ret_bool H.out, hbx _⟩
theorem atRight_is (r : Rt) (b : Bool) (H : Hid (rtRight r = b)) {A : Option Addr} {n ca : Nat} {w : World} (h : RtAt w r A n) (hl : n ≤ ca) (hc : ca ≤ 9223372036854775807) :
    Calls Tryd.prog 23 #[.agg #[.int .i64 r.kind, .int .i64 r.cost, .slice A n ca]] w fun e w' => e = .returned (.bool b) ∧ Below w.heap.size w w' :=
  (atRight_any r ca h hl hc).mono fun _ _ ⟨he, hw⟩ => ⟨by rw [he, H.out], hw⟩

set_option maxHeartbeats 1600000 in
theorem atSame_any (a b : Rt) {A B : Option Addr} {n m : Nat} (ca cb : Nat) {w : World} (ha : RtAt w a A n) (hb : RtAt w b B m) :
    Calls Tryd.prog 21 #[.agg #[.int .i64 a.kind, .int .i64 a.cost, .slice A n ca], .agg #[.int .i64 b.kind, .int .i64 b.cost, .slice B m cb]] w fun e w' => e = .returned (.bool (rtSame a b)) ∧ Below w.heap.size w w' := by
  obtain ⟨k, c, l⟩ := a
  obtain ⟨k', c', l'⟩ := b
  obtain ⟨hn, hA, hm⟩ := ha
  obtain ⟨hn', hB, hm'⟩ := hb
  dsimp only at hn hn' hA hB ⊢
  have hbx := fun o o' => (below_new w o).trans ((below_new (w.alloc o) o').mono (below_new w o).size)
  have hAx := fun o o' => (hA.on (below_new w o)).on (below_new (w.alloc o) o')
  have hBx := fun o o' => (hB.on (below_new w o)).on (below_new (w.alloc o) o')
  obtain ⟨v, hv⟩ : ∃ v, rtSame ⟨k, c, l⟩ ⟨k', c', l'⟩ = v := ⟨_, rfl⟩
  rw [hv]
  have hv' : rtSame ⟨k, c, l⟩ ⟨k', c', l'⟩ = (decide (k = k') && (decide (c = c') && decide (l = l'))) := rfl
  rw [hv'] at hv
  clear hv' hA hB
  by_cases h0 : k = k'
  · subst h0
    by_cases h1 : c = c'
    · subst h1
      rw [decide_eq_true rfl, decide_eq_true rfl, Bool.true_and, Bool.true_and] at hv
      have H := Lib.hid hv
      clear hv
      go_enter Tryd.func21, Tryd.ntmps21
      go_wp2_with (go_at_call 27; (with_reducible refine (slEqual_is l l' v H hn hn' (hAx _ _) (hBx _ _) hm hm').mono ?_); rintro e w' ⟨rfl, hb⟩)
      go_ret
      exact ⟨rfl, (hbx _ _).trans (hb.mono (hbx _ _).size)⟩
    · have t : (c == c') = false := by simpa using h1
      rw [decide_eq_true rfl, decide_eq_false h1] at hv
      have H := Lib.hid hv
      clear hv h1
      go_enter Tryd.func21, Tryd.ntmps21
      go_wp2
      go_ret
      exact ⟨ret_bool (H.out ▸ by simp), hbx _ _⟩
  · have t : (k == k') = false := by simpa using h0
    rw [decide_eq_false h0] at hv
    have H := Lib.hid hv
    clear hv h0
    go_enter Tryd.func21, Tryd.ntmps21
    go_wp2
    go_ret
    exact ⟨ret_bool (H.out ▸ by simp), hbx _ _⟩
theorem atSame_is (a b : Rt) (v : Bool) (H : Hid (rtSame a b = v)) {A B : Option Addr} {n m ca cb : Nat} {w : World} (ha : RtAt w a A n) (hb : RtAt w b B m) :
    Calls Tryd.prog 21 #[.agg #[.int .i64 a.kind, .int .i64 a.cost, .slice A n ca], .agg #[.int .i64 b.kind, .int .i64 b.cost, .slice B m cb]] w fun e w' => e = .returned (.bool v) ∧ Below w.heap.size w w' :=
  (atSame_any a b ca cb ha hb).mono fun _ _ ⟨he, hw⟩ => ⟨by rw [he, H.out], hw⟩
end Go.Proofs.YtlfdpfkimggeoaaDoor
