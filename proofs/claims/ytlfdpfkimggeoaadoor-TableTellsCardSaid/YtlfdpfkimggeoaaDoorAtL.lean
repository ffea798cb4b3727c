/-
  The law's Route: of raw numbers, a route that may be.
-/
import Derived.Test.YtlfdpfkimggeoaaDoorAtK
namespace Go.Proofs.YtlfdpfkimggeoaaDoor
open Go.RowKit
set_option linter.unusedVariables false
set_option linter.unusedSimpArgs false

def numR (x : Int) : Int := if 1000 < x then 1 + pickN x 65535 else 1 + pickN x 9
def pathG (p : List Int) : List Int → List Int
  | [] => p
  | x :: l => if p.length < 12 then pathG (if memI (numR x) p = true then p else p ++ [numR x]) l else p
def vecC : List Int → Int
  | [] => 0
  | y :: _ => pickN y 16
def rtOf : List Int → Rt
  | [] => Rt.none
  | x :: l => if pickN x 4 = 0 then Rt.none else if pickN x 4 = 1 then ⟨1, vecC l, []⟩ else ⟨2, 0, pathG [] l⟩

theorem numR_in (x : Int) : 1 ≤ numR x ∧ numR x ≤ 65535 := by
  unfold numR
  have h1 := pickN_in x 65535 (by omega)
  have h2 := pickN_in x 9 (by omega)
  split <;> omega
structure PGood (p : List Int) : Prop where
  len : p.length ≤ 12
  ok : pathOk p = true
theorem PGood.nil : PGood [] := ⟨by simp, by simp [pathOk]⟩
theorem PGood.next {p : List Int} (h : PGood p) (hl : p.length < 12) (x : Int) (hm : memI (numR x) p = false) : PGood (p ++ [numR x]) := by
  refine ⟨by simp; omega, ?_⟩
  have h1 := h.ok
  have hn := numR_in x
  unfold pathOk at h1 ⊢
  unfold memI at hm
  rw [Bool.and_eq_true] at h1 ⊢
  rw [decide_eq_true_eq] at h1
  rw [decide_eq_false_iff_not] at hm
  refine ⟨by rw [List.all_append, h1.1]; simp [hn], ?_⟩
  rw [decide_eq_true_eq, List.nodup_append]
  refine ⟨h1.2, by simp, fun a ha b hb => ?_⟩
  rw [List.mem_singleton] at hb
  subst hb
  exact fun e => hm (e ▸ ha)
theorem pathG_good : ∀ (l p : List Int), PGood p → PGood (pathG p l)
  | [], p, h => h
  | x :: l, p, h => by
    rw [pathG]
    by_cases hl : p.length < 12
    · rw [if_pos hl]
      by_cases hm : memI (numR x) p = true
      · rw [if_pos hm]; exact pathG_good l p h
      · rw [if_neg hm]; exact pathG_good l _ (h.next hl x (by simpa using hm))
    · rw [if_neg hl]; exact h
theorem rtOf_right (l : List Int) : rtRight (rtOf l) = true := by
  cases l with
  | nil => rfl
  | cons x l =>
    rw [rtOf]
    by_cases h0 : pickN x 4 = 0
    · rw [if_pos h0]; rfl
    · rw [if_neg h0]
      by_cases h1 : pickN x 4 = 1
      · rw [if_pos h1]
        cases l with
        | nil => rfl
        | cons y l =>
          have := pickN_in y 16 (by omega)
          show (decide (0 ≤ pickN y 16) && (decide (pickN y 16 ≤ 15) && decide (([] : List Int).length = 0))) = true
          simp; omega
      · rw [if_neg h1]
        have := pathG_good l [] PGood.nil
        show (decide ((0 : Int) = 0) && pathB (pathG [] l)) = true
        unfold pathB
        rw [decide_eq_true this.len, this.ok]; rfl
theorem rt_len {r : Rt} (h : rtRight r = true) : r.path.length ≤ 12 := by
  unfold rtRight at h
  by_cases h0 : r.kind = 0
  · rw [if_pos h0] at h; simp at h; simp [h.2]
  · rw [if_neg h0] at h
    by_cases h1 : r.kind = 1
    · rw [if_pos h1] at h; simp at h; simp [h.2.2]
    · rw [if_neg h1] at h
      by_cases h2 : r.kind = 2
      · rw [if_pos h2] at h
        unfold pathB at h
        simp at h; omega
      · rw [if_neg h2] at h; cases h

/-- The path so far, in its box; the answer's box. -/
structure PathSt (w : World) (p : List Int) (A : Option Addr) (n ca : Nat) (W : World) : Prop where
  res : Blk W w.heap.size 25 #[.int .i64 0, .int .i64 0, .slice none 0 0]
  box : Blk W (w.heap.size + 1) 25 #[.int .i64 2, .int .i64 0, .slice A n ca]
  own : W.ownsRow w.heap.size 3 1 (.slice A n ca) n (p.map (Value.int .i64))
  len : p.length = n
  le : n ≤ ca
  up : Below w.heap.size w W
section
variable {w : World} {p : List Int} {A : Option Addr} {n ca : Nat} {W W' : World}
theorem PathSt.new (w : World) : PathSt w [] none 0 0 ((w.alloc (.cells #[.int .i64 0, .int .i64 0, .slice none 0 0] 25)).alloc (.cells #[.int .i64 2, .int .i64 0, .slice none 0 0] 25)) :=
  ⟨(Blk.new w _ _).alloc _, by have := Blk.new (w.alloc (.cells #[.int .i64 0, .int .i64 0, .slice none 0 0] 25)) 25 #[.int .i64 2, .int .i64 0, .slice none 0 0]; rwa [World.size_alloc] at this, World.ownsRow_nil _ _ _ _, rfl, Nat.le_refl _, below_2 w _ _⟩
theorem PathSt.cells (h : PathSt w p A n ca W) : W.cell? ⟨w.heap.size + 1, 0, none⟩ = some (.int .i64 2) ∧ W.cell? ⟨w.heap.size + 1, 1, none⟩ = some (.int .i64 0) ∧ W.cell? ⟨w.heap.size + 1, 2, none⟩ = some (.slice A n ca) :=
  ⟨h.box.cell 0, h.box.cell 1, h.box.cell 2⟩
theorem PathSt.at_ (h : PathSt w p A n ca W) {k : Nat} {x : Int} (hx : p[k]? = some x) : ∃ g, A = some ⟨g, 0, none⟩ ∧ W.cell? ⟨g, k, none⟩ = some (.int .i64 x) := by
  obtain ⟨g, hA, hg, hc⟩ := RowAt.of_own h.own (by intro e; rw [List.map_eq_nil_iff] at e; rw [e] at hx; simp at hx)
  exact ⟨g, hA, hc k _ (by rw [List.getElem?_map, hx]; rfl)⟩
end
end Go.Proofs.YtlfdpfkimggeoaaDoor
