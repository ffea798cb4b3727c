/-
  bits.List: a set's links in a new slice, by slices.Collect over the iterator.
-/
import Derived.RangeFuncBox
import Derived.Maps.AppendAt
import Derived.Test.YtponlhgkgmlihaaSize
namespace Go.Proofs.Ytponlhgkgmlihaa
open Go.RowKit Go.Shelf
attribute [local go_sem] Oper.semAt_some

theorem intInfo : (Try.prog.info? 3).map (fun i => (i.zero, i.size, i.bytes)) = some (some (.int .i64 0), 1, 8) := by kernel_rfl

theorem keepsBox_below {n₀ B : Nat} {W W' : World} (h : Below n₀ W W') (hB : B < n₀) : KeepsBox B W W' := fun _ _ hb => (h.block B hB).trans hb

/-- The numbers of a list as cells. -/
def intCells (l : List Nat) : List Value := l.map fun x : Nat => .int .i64 (x : Int)

/-- What lies from one block on lies from an earlier one on. -/
theorem ownsRow_lower {W : World} {base base' : Nat} {e : TypeId} {size : Nat} {v : Value} {k : Nat} {xs : List Value} (h : W.ownsRow base e size v k xs) (hb : base' ≤ base) : W.ownsRow base' e size v k xs := by
  obtain ⟨h1, h2⟩ := h
  refine ⟨h1, ?_⟩
  rcases h2 with h2 | ⟨g, cap, cur, hv, hg, h3⟩
  · exact .inl h2
  · exact .inr ⟨g, cap, cur, hv, Nat.le_trans hb hg, h3⟩

set_option maxRecDepth 100000 in
set_option maxHeartbeats 2000000 in
theorem AppendSeq_any (f : Int) (B : Nat) (w : World) (hBx : Boxed w B 3 (.int .i64 f)) :
    Calls Try.prog 52 #[.slice none 0 0, .func (.func 53) #[] #[.pointer (some ⟨B, 0, none⟩)]] w fun e W' =>
      ∃ v, e = .returned v ∧ W'.ownsRow w.heap.size 3 1 v (setB f).length (intCells (setB f)) ∧ (v = .slice none 0 0 ↔ setB f = []) ∧ Below w.heap.size w W' := by
  obtain ⟨i0, hi, hz0, hz1, hz2⟩ := info_parts intInfo
  have hBlt := hBx.lt
  refine (callsIn_wide (n := 3)).1 ?_
  refine callsIn_of_wp_marks Try.func52 rfl trivial ?_ rfl
  simp only [Try.ntmps52, List.size_toArray, List.length_cons, List.length_nil, Nat.reduceAdd, Nat.reduceSub, Array.replicate_succ, Array.replicate_zero, List.push_toArray, List.append_toArray, List.nil_append, List.cons_append]
  gi_wp2
  have bO := Boxed.new w 22 (.slice none 0 0)
  have hB0 : Below w.heap.size w (w.alloc (.cells #[.slice none 0 0] 22)) := (Below.refl _ w).alloc (Nat.le_refl _) _
  refine wpIn_rangeFunc_ownG rfl (by omega) (gf := 53) (lb := #[.pointer (some ⟨B, 0, none⟩)]) rfl trivial (enters_of Try.func53 (by kernel_rfl) rfl)
    (each_stops _ (by omega) B f _ (hBx.alloc _)) KeepsBox.trans (keepsBox_b (w := w.alloc (.cells #[.slice none 0 0] 22))) (Below.refl _ _) (fun _ => rfl)
    (fun pre W => (∃ v, Boxed W w.heap.size 22 v ∧ W.ownsRow w.heap.size 3 1 v pre.length (intCells pre) ∧ (v = .slice none 0 0 ↔ pre = [])) ∧ Below w.heap.size w W)
    (fun _ _ _ => False)
    (OwnFrom.and (Own.from (holdsRow_own w.heap.size w.heap.size 22 3 1 (fun pre : List Nat => pre.length) (fun pre => intCells pre) (fun pre v => v = .slice none 0 0 ↔ pre = [])) _) (ownFrom_below (Nat.le_refl _) (by simp)))
    (fun _ _ _ _ _ hs _ _ => hs)
    ⟨⟨_, bO, World.ownsRow_nil _ _ _ _, by simp⟩, hB0⟩
    (fun x => { tmps := #[.slice none 0 0, .func (.func 53) #[] #[.pointer (some ⟨B, 0, none⟩)], .pointer (some ⟨w.heap.size, 0, none⟩), undef, .slice none 0 0, .int .i64 (x : Nat), .func (.func 53) #[] #[.pointer (some ⟨B, 0, none⟩)], .int .i64 (x : Nat), undef, undef, undef, undef, undef], defers := [] }) ?assign ?body ?done ?stop
  case assign =>
    intro l x W K hK
    gi_wp2
    exact hK
  case body =>
    rintro l pre x W ⟨⟨v, hv, hrow, hnil⟩, hB⟩ hlt
    have hc := hv.cell
    have HN := Lib.hid hnil
    clear hnil
    gi_wp2_with (gi_at_builtin; refine wpListIn_append_own _ rfl _ _ 22 rfl w.heap.size 3 i0 (.int .i64 0) 1 8 Try.underlying22 hi hz0 hz1 hz2 rfl (by decide) _ _ _ rfl (hrow.alloc _) ⟨W.heap.size, 0, none⟩ 1 1 [.int .i64 (x : Nat)] rfl rfl (cell_one_new _ _ _) (by simp [Value.oneCell']) (by unfold maxLen; omega) (by omega) (by have := hB.size; simp; omega) ?_; intro v' w1 hown' hgrow _; obtain ⟨g', cap', rfl⟩ := ownsRow_succ hown'; obtain ⟨hv1, hv2, hr2, hk2, hb2⟩ := hv.appended (by decide) hrow hB.size (Nat.le_refl _) hown' hgrow; have hc1 := hv1.cell; have hf1 := hv1.frozen)
    exact ⟨hk2.from _, keepsBox_below hb2 hBlt, ⟨_, hv2, by simpa [intCells] using hr2, by simp⟩, hB.trans hb2⟩
  case done =>
    rintro D ys W hD rfl ⟨⟨v, hv, hrow, hnil⟩, hB⟩ hK
    have hc := hv.cell
    have HN := Lib.hid hnil
    clear hnil
    gi_wp2
    refine ⟨by simp, .inl ⟨_, _, rfl, run_takeDeferred hK, ?_⟩⟩
    exact ⟨_, results_tmp rfl _ _ _, v, rfl, ownsRow_putObj hrow _ hK rfl, HN.out, hB.trans (belowK_b (w := w) (Nat.le_refl _) W D _ _ (by simp at hD; omega) hK rfl rfl)⟩
  case stop =>
    rintro D c pre W _ _ h _
    exact h.elim

theorem Collect_any (f : Int) (B : Nat) (w : World) (hBx : Boxed w B 3 (.int .i64 f)) :
    Calls Try.prog 38 #[.func (.func 53) #[] #[.pointer (some ⟨B, 0, none⟩)]] w fun e W' =>
      ∃ v, e = .returned v ∧ W'.ownsRow w.heap.size 3 1 v (setB f).length (intCells (setB f)) ∧ (v = .slice none 0 0 ↔ setB f = []) ∧ Below w.heap.size w W' := by
  go_enter Try.func38, Try.ntmps38
  go_wp2_with (go_at_call 52; refine (AppendSeq_any f B _ hBx).mono ?_; rintro e w' ⟨v, rfl, h1, h2, h3⟩; have H2 := Lib.hid h2; clear h2)
  go_ret
  exact ⟨v, rfl, h1, H2.out, h3⟩

theorem List_any (f : Int) (w : World) :
    Calls Try.prog 26 #[.int .i64 f] w fun e W' =>
      ∃ v, e = .returned v ∧ W'.ownsRow w.heap.size 3 1 v (setB f).length (intCells (setB f)) ∧ (v = .slice none 0 0 ↔ setB f = []) ∧ Below w.heap.size w W' := by
  go_enter Try.func26, Try.ntmps26
  go_wp2_with (first
    | (go_at_call 39; refine (each_any _ _).mono ?_; rintro e w' ⟨rfl, rfl⟩)
    | (go_at_call 38; refine (Collect_any f w.heap.size _ (Boxed.new w _ _)).mono ?_; rintro e w' ⟨v, rfl, h1, h2, h3⟩; have H2 := Lib.hid h2; clear h2))
  go_ret
  have hb : Below w.heap.size w w' := ((Below.refl _ w).alloc (Nat.le_refl _) _).trans (h3.mono (by simp))
  rw [World.size_alloc] at h1
  exact ⟨v, rfl, ownsRow_lower h1 (by omega), H2.out, hb⟩

end Go.Proofs.Ytponlhgkgmlihaa
