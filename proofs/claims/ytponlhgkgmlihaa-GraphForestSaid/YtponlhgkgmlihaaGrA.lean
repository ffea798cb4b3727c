/-
  Package graph: links around a node.
-/
import Derived.Maps.AppendAt
import Derived.Test.YtponlhgkgmlihaaPlV
import Derived.Test.YtponlhgkgmlihaaList
import Derived.Test.YtponlhgkgmlihaaGrBfs
namespace Go.Proofs.Ytponlhgkgmlihaa
open Go.RowKit
set_option linter.unusedVariables false

/-- A link's other end; -1, if there is none. -/
def otherI (l : PLink) (node : Int) : Int := if node = l.a then l.b else if node = l.b then l.a else -1
theorem other_any (l : PLink) (node : Int) (w : World) :
    Calls Try.prog 33 #[.agg #[.int .i64 l.a, .int .i64 l.b, .int .i64 l.cost], .int .i64 node] w fun e w' => e = .returned (.int .i64 (otherI l node)) ∧ Below w.heap.size w w' := by
  have hbx := fun o => below_new w o
  obtain ⟨la, lb, lc⟩ := l
  by_cases h1 : node = la
  · have HR := Lib.hid (show otherI ⟨la, lb, lc⟩ node = lb by unfold otherI; rw [if_pos h1])
    have t1 : (node == la) = true := by simp [h1]
    clear h1
    go_enter Try.func33, Try.ntmps33
    go_wp2
    go_ret
    exact ⟨ret_int HR.out.symm, hbx _⟩
  · have t1 : (node == la) = false := by simp [h1]
    by_cases h2 : node = lb
    · have HR := Lib.hid (show otherI ⟨la, lb, lc⟩ node = la by unfold otherI; rw [if_neg h1, if_pos h2])
      have t2 : (node == lb) = true := by simp [h2]
      clear h1 h2
      go_enter Try.func33, Try.ntmps33
      go_wp2
      go_ret
      exact ⟨ret_int HR.out.symm, hbx _⟩
    · have HR := Lib.hid (show otherI ⟨la, lb, lc⟩ node = -1 by unfold otherI; rw [if_neg h1, if_neg h2])
      have t2 : (node == lb) = false := by simp [h2]
      clear h1 h2
      go_enter Try.func33, Try.ntmps33
      go_wp2
      go_ret
      exact ⟨ret_int HR.out.symm, hbx _⟩
theorem other_is (l : PLink) (node v : Int) (H : Hid (otherI l node = v)) (w : World) :
    Calls Try.prog 33 #[.agg #[.int .i64 l.a, .int .i64 l.b, .int .i64 l.cost], .int .i64 node] w fun e w' => e = .returned (.int .i64 v) ∧ Below w.heap.size w w' :=
  (other_any l node w).mono fun _ _ ⟨he, hw⟩ => ⟨by rw [he, H.out], hw⟩

/-- Is the node one of so many? -/
def isNodeB (n : Nat) (x : Int) : Bool := decide (0 ≤ x) && decide (x < n)
theorem isNode_any (pr ca kk x : Int) (An Al Ad Ac : Option Addr) (ln cn ll cl ld cd lc cc : Nat) (w : World) :
    Calls Try.prog 34 #[.agg #[.int .i64 pr, .int .i64 ca, .int .i64 kk, .slice An ln cn, .slice Al ll cl, .slice Ad ld cd, .slice Ac lc cc], .int .i64 x] w fun e w' => e = .returned (.bool (isNodeB ln x)) ∧ Below w.heap.size w w' := by
  have hbx := fun o => below_new w o
  by_cases h0 : 0 ≤ x
  · have HR := Lib.hid (show isNodeB ln x = decide (x < (ln : Int)) by unfold isNodeB; rw [decide_eq_true h0]; rfl)
    by_cases h1 : x < (ln : Int)
    · go_enter Try.func34, Try.ntmps34
      go_wp2
      go_ret
      exact ⟨ret_bool (by rw [HR.out]; simp [h1]), hbx _⟩
    · go_enter Try.func34, Try.ntmps34
      go_wp2
      go_ret
      exact ⟨ret_bool (by rw [HR.out]; simp; omega), hbx _⟩
  · have HR := Lib.hid (show isNodeB ln x = false by unfold isNodeB; rw [decide_eq_false h0]; rfl)
    go_enter Try.func34, Try.ntmps34
    go_wp2
    go_ret
    exact ⟨ret_bool HR.out.symm, hbx _⟩
theorem isNode_is (b : Bool) (pr ca kk x : Int) (An Al Ad Ac : Option Addr) (ln cn ll cl ld cd lc cc : Nat) (H : Hid (isNodeB ln x = b)) (w : World) :
    Calls Try.prog 34 #[.agg #[.int .i64 pr, .int .i64 ca, .int .i64 kk, .slice An ln cn, .slice Al ll cl, .slice Ad ld cd, .slice Ac lc cc], .int .i64 x] w fun e w' => e = .returned (.bool b) ∧ Below w.heap.size w w' :=
  (isNode_any pr ca kk x An Al Ad Ac ln cn ll cl ld cd lc cc w).mono fun _ _ ⟨he, hw⟩ => ⟨by rw [he, H.out], hw⟩

/-- Does the link stand, and is the node one of its ends? -/
def arB (p : PPlan) (f node : Int) (i : Nat) : Bool := match p.links[i]? with
  | some l => decide (0 ≤ otherI l node) && !hasB f (i : Int)
  | none => false
def aroundK (p : PPlan) (f node : Int) (k : Nat) : List Nat := (List.range k).filter (arB p f node)
def aroundB (p : PPlan) (f node : Int) : List Nat := aroundK p f node p.links.length
theorem aroundK_yes {p : PPlan} {f node : Int} {k : Nat} (h : arB p f node k = true) : aroundK p f node (k + 1) = aroundK p f node k ++ [k] := by
  simp [aroundK, List.range_succ, List.filter_append, h]
theorem aroundK_no {p : PPlan} {f node : Int} {k : Nat} (h : arB p f node k = false) : aroundK p f node (k + 1) = aroundK p f node k := by
  simp [aroundK, List.range_succ, List.filter_append, h]
theorem aroundK_len (p : PPlan) (f node : Int) (k : Nat) : (aroundK p f node k).length ≤ k := by
  have := List.length_filter_le (arB p f node) (List.range k)
  simpa [aroundK] using this
theorem arB_at {p : PPlan} {f node : Int} {i : Nat} {l : PLink} (h : p.links[i]? = some l) : arB p f node i = (decide (0 ≤ otherI l node) && !hasB f (i : Int)) := by
  unfold arB; rw [h]

/-- A slice of links. -/
def LinksAs (l : List Nat) (w : World) (e : Ending) (w' : World) : Prop := ∃ v, e = .returned v ∧ w'.ownsRow w.heap.size 3 1 v l.length (intCells l) ∧ Below w.heap.size w w'

set_option maxRecDepth 100000 in
set_option maxHeartbeats 2000000 in
theorem around_any (p : PPlan) (f node : Int) {pr ca kk : Int} {An Al Ad Ac : Option Addr} {ln cn ll cl ld cd lc cc : Nat} {w : World} (h : RowAt w w.heap.size Al (p.links.flatMap linkC)) (hl : Hid (p.links.length = ll)) (hm : ll ≤ 4096) :
    Calls Try.prog 30 #[.agg #[.int .i64 pr, .int .i64 ca, .int .i64 kk, .slice An ln cn, .slice Al ll cl, .slice Ad ld cd, .slice Ac lc cc], .int .i64 f, .int .i64 node] w (LinksAs (aroundB p f node) w) := by
  obtain ⟨i0, hi, hz0, hz1, hz2'⟩ := info_parts intInfo
  have hbx := fun o => below_new w o
  go_enter Try.func30, Try.ntmps30
  go_wp2
  go_loopw [7, 8, 9, 13] (fun s7 _ _ i wr => ∃ k : Nat, k ≤ ll ∧ i = .int .i64 (k : Nat) ∧ wr.ownsRow w.heap.size 3 1 s7 (aroundK p f node k).length (intCells (aroundK p f node k)) ∧ Below w.heap.size w wr) (fun _ _ _ i _ => ll - (intOf i).toNat)
  case atStart => exact ⟨0, Nat.zero_le _, rfl, World.ownsRow_nil _ _ _ _, hbx _⟩
  case round =>
    clear hbx
    obtain ⟨k, hk, rfl, hown, hbw⟩ := hrel
    have hkl := aroundK_len p f node k
    by_cases hlt : k < ll
    · obtain ⟨⟨la, lb, lco⟩, hn'⟩ : ∃ n, p.links[k]? = some n := ⟨_, List.getElem?_eq_getElem (by rw [hl.out]; exact hlt)⟩
      have hup := h.up hbw
      obtain ⟨g, hAg, hg, c0, c1, c2⟩ := hup.link hn'
      dsimp only at c0 c1 c2
      have har := arB_at (f := f) (node := node) hn'
      obtain ⟨v, hv⟩ : ∃ v, otherI ⟨la, lb, lco⟩ node = v := ⟨_, rfl⟩
      obtain ⟨b, hb⟩ : ∃ b, hasB f (k : Int) = b := ⟨_, rfl⟩
      rw [hv, hb] at har
      have HV := Lib.hid hv
      have HB := Lib.hid hb
      clear hv hb hn' hup h
      subst hAg
      have n0 : (0 : Int) ≤ (k : Int) := by omega
      have n1 : (k : Int) < (ll : Int) := by omega
      by_cases hv0 : 0 ≤ v
      · cases b
        · have HY := Lib.hid (aroundK_yes (har.trans (by simp [hv0])))
          clear har
          go_wp2_with (first
            | (go_at_call 33; (with_reducible refine (other_is ⟨la, lb, lco⟩ node v HV _).mono ?_); rintro e w2 ⟨rfl, hb2⟩; have hown2 := own_below (own_alloc hown _) hb2; have hbw2 := hbw.trans ((below_box hb2).mono hbw.size); have hz2 := hbw2.size)
            | (go_at_call 27; (with_reducible refine (Has_is f (k : Int) false HB _).mono ?_); rintro e w3 ⟨rfl, rfl⟩)
            | (at_builtin; refine wpList_append_own _ rfl _ _ 22 rfl w.heap.size 3 i0 (.int .i64 0) 1 8 Try.underlying22 hi hz0 hz1 hz2' rfl (by decide) _ _ _ rfl (own_alloc hown2 _) ⟨w2.heap.size, 0, none⟩ 1 1 [.int .i64 (k : Nat)] rfl rfl (cell_one_new _ _ _) (by simp [Value.oneCell']) (by unfold maxLen; omega) (by omega) (by simp; omega) ?_; intro v' w4 hown4 hgrow4 _; have hbw4 := (hbw2.trans ((below_new w2 _).mono hz2)).grown hgrow4 (by simp; omega) (fun g hg => (hown2.lt g hg).1)))
          go_roundw
          case rel => exact ⟨k + 1, by omega, by go_num, by rw [HY.out]; simpa [intCells] using hown4, hbw4⟩
          case measure => simp [intOf]; omega
        · have HN := Lib.hid (aroundK_no (har.trans (by simp)))
          clear har
          go_wp2_with (first
            | (go_at_call 33; (with_reducible refine (other_is ⟨la, lb, lco⟩ node v HV _).mono ?_); rintro e w2 ⟨rfl, hb2⟩)
            | (go_at_call 27; (with_reducible refine (Has_is f (k : Int) true HB _).mono ?_); rintro e w3 ⟨rfl, rfl⟩))
          go_roundw
          case rel => exact ⟨k + 1, by omega, by go_num, by rw [HN.out]; exact own_below (own_alloc hown _) hb2, hbw.trans ((below_box hb2).mono hbw.size)⟩
          case measure => simp [intOf]; omega
      · have HN := Lib.hid (aroundK_no (har.trans (by simp [hv0])))
        clear har
        go_wp2_with (first
          | (go_at_call 33; (with_reducible refine (other_is ⟨la, lb, lco⟩ node v HV _).mono ?_); rintro e w2 ⟨rfl, hb2⟩))
        go_roundw
        case rel => exact ⟨k + 1, by omega, by go_num, by rw [HN.out]; exact own_below (own_alloc hown _) hb2, hbw.trans ((below_box hb2).mono hbw.size)⟩
        case measure => simp [intOf]; omega
    · have hkk : k = ll := by omega
      have HK := Lib.hid (show aroundK p f node k = aroundB p f node by unfold aroundB; rw [hl.out, hkk])
      have hge : ¬ (k : Int) < (ll : Int) := by omega
      clear hkk
      go_wp2
      go_ret
      exact ⟨_, rfl, by rw [HK.out] at hown; exact hown, hbw⟩
end Go.Proofs.Ytponlhgkgmlihaa
