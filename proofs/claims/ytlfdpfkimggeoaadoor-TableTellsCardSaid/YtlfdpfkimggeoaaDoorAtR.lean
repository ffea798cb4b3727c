/-
  What the laws that build paths of their own share: a new row, a route of it in its box; paths with a number more.
-/
import Derived.Test.YtlfdpfkimggeoaaDoorAtQ
namespace Go.Proofs.YtlfdpfkimggeoaaDoor
open Go.RowKit
set_option linter.unusedVariables false
set_option linter.unusedSimpArgs false

theorem own_newA (w : World) (base : Nat) (e : TypeId) (xs : List Value) (k : Nat) (hk : w.heap.size = k) (hb : base ≤ k) (n : Nat) (hn : xs.length = n) (hm : n ≤ 4096) : (w.alloc (.cells xs.toArray e)).ownsRow base e 1 (.slice (some ⟨k, 0, none⟩) n n) n xs := by
  subst hk hn
  exact ⟨by simp, .inr ⟨w.heap.size, xs.length, xs.toArray, rfl, hb, Blk.new w e _, Nat.le_refl _, by unfold maxLen; omega, by simp, by simp⟩⟩
section
variable {w : World} {g : Nat} {k c : Int} {l : List Int} {A : Option Addr} {n ca : Nat} {W W' : World}
theorem RB.cellsK (h : RB w g ⟨k, c, l⟩ A n ca W) : W.cell? ⟨g, 0, none⟩ = some (.int .i64 k) ∧ W.cell? ⟨g, 1, none⟩ = some (.int .i64 c) ∧ W.cell? ⟨g, 2, none⟩ = some (.slice A n ca) := ⟨h.blk.cell 0, h.blk.cell 1, h.blk.cell 2⟩
theorem RB.own {base : Nat} (hu : Below w.heap.size w W) (hT : PowTab w) (ho : W.ownsRow base 3 1 (.slice A n ca) n (l.map (Value.int .i64))) (hn : l.length = n) (hm : n ≤ 4096) : RB w W.heap.size ⟨k, c, l⟩ A n ca (W.alloc (.cells #[.int .i64 k, .int .i64 c, .slice A n ca] 25)) :=
  ⟨Blk.new _ _ _, RtAt.box ⟨hn, (RowAt.of_own ho).cells, by omega⟩ _, below_on hu (below_new _ _), hT.on (below_on hu (below_new _ _))⟩
end
theorem own_formB {w : World} {base : Nat} {e : TypeId} {v : Value} {n : Nat} {xs : List Value} (h : w.ownsRow base e 1 v n xs) : ∃ A c, v = .slice A n c ∧ n ≤ c ∧ c ≤ 9223372036854775807 := by
  rcases h.2 with ⟨hv, hn⟩ | ⟨g, cap, cur, hv, hb, hg, hc, hrest⟩
  · subst hn
    exact ⟨none, 0, hv, Nat.le_refl _, by omega⟩
  · refine ⟨_, cap, hv, hc, ?_⟩
    have := hrest.1
    unfold maxLen at this
    omega
theorem cmpL_cons (x y : Int) (p : List Int) : decide (cmpL (x :: p) (y :: p) < 0) = decide (x < y) := by
  rw [decide_eq_decide, cmpL]
  by_cases h : x = y
  · rw [if_pos h, cmpL_self]; omega
  · rw [if_neg h]
    rcases cmpI_cases x y with ⟨h1, e1⟩ | ⟨h1, e1⟩ | ⟨h1, e1⟩ <;> omega
theorem cmpL_app (x y : Int) : ∀ p : List Int, cmpL (p ++ [x]) (p ++ [y]) = cmpL [x] [y]
  | [] => rfl
  | z :: p => by rw [List.cons_append, List.cons_append, cmpL, if_pos rfl, cmpL_app x y p]
theorem better_path {p q : List Int} (h : p.length = q.length) : rtBetter ⟨2, 0, p⟩ ⟨2, 0, q⟩ = decide (cmpL p q < 0) := by
  unfold rtBetter
  have hl : rtLen ⟨2, 0, p⟩ = rtLen ⟨2, 0, q⟩ := by unfold rtLen lenV; simp [h]
  rw [if_pos rfl, if_pos hl]
theorem better_short {p q : List Int} (h : p.length < q.length) : rtBetter ⟨2, 0, p⟩ ⟨2, 0, q⟩ = true := by
  rw [better_iff]
  refine .inr ⟨rfl, .inl ?_⟩
  unfold rtLen lenV
  simp; omega
theorem right_path (p : List Int) : rtRight ⟨2, 0, p⟩ = pathB p := by
  show (decide ((0 : Int) = 0) && pathB p) = pathB p
  simp
theorem path_of {a : Rt} (h : rtRight a = true) (hk : a.kind = 2) : a.cost = 0 ∧ pathB a.path = true := by
  unfold rtRight at h
  rw [hk] at h
  simp only [show ¬ (2 : Int) = 0 by omega, show ¬ (2 : Int) = 1 by omega, if_false, if_true, Bool.and_eq_true, decide_eq_true_eq] at h
  exact h
theorem pathB_cons {p : List Int} {x : Int} (h : pathB p = true) (hl : p.length < 12) (hx : x ∉ p) (h1 : 1 ≤ x) (h2 : x ≤ 65535) : pathB (x :: p) = true := by
  unfold pathB pathOk at h ⊢
  simp only [Bool.and_eq_true, decide_eq_true_eq, List.all_cons, List.nodup_cons, List.length_cons] at h ⊢
  exact ⟨by omega, ⟨⟨h1, h2⟩, h.2.1⟩, hx, h.2.2⟩
theorem pathB_app {p : List Int} {x : Int} (h : pathB p = true) (hl : p.length < 12) (hx : x ∉ p) (h1 : 1 ≤ x) (h2 : x ≤ 65535) : pathB (p ++ [x]) = true := by
  unfold pathB pathOk at h ⊢
  simp only [Bool.and_eq_true, decide_eq_true_eq, List.all_append, List.all_cons, List.all_nil, List.length_append, List.length_cons, List.length_nil, List.nodup_append] at h ⊢
  refine ⟨by omega, ⟨h.2.1, ⟨h1, h2⟩, trivial⟩, h.2.2, by simp, fun a ha b hb => ?_⟩
  rw [List.mem_singleton] at hb
  subst hb
  exact fun e => hx (e ▸ ha)
end Go.Proofs.YtlfdpfkimggeoaaDoor
