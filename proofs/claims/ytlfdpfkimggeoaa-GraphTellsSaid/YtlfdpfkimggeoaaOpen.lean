/-
  Arguments opened: slices of ints, of pairs of ints; cells at an address.
-/
import Derived.Deep.Slices
import Derived.Laws.Rows
import Derived.ChangeMaps5
import Derived.ChangeSlices
import Derived.SizedLaws
import Derived.Test.YtlfdpfkimggeoaaBase
namespace Go.Proofs.Ytlfdpfkimggeoaa
open Go.RowKit Go.WideShapes Go.ChangeShapes Go.Deep

/-- Cells that lie at an address, below a block; none, if there are none. -/
def CellsAt (w : World) (B : Nat) (A : Option Addr) (xs : List Value) : Prop := xs ≠ [] → ∃ ad, A = some ad ∧ ad.block < B ∧ ∀ j u, xs[j]? = some u → w.cell? (ad.add j) = some u
theorem CellsAt.nil (w : World) (B : Nat) (A : Option Addr) : CellsAt w B A [] := fun h => absurd rfl h
theorem CellsAt.keep {w w' : World} {B : Nat} {A : Option Addr} {xs : List Value} (h : CellsAt w B A xs) (hk : ∀ p : Addr, p.block < B → w'.cell? p = w.cell? p) : CellsAt w' B A xs := fun hn => by
  obtain ⟨ad, e, hb, hc⟩ := h hn
  refine ⟨ad, e, hb, fun j u hu => (hk _ ?_).trans (hc j u hu)⟩
  unfold Addr.add; split <;> exact hb
theorem CellsAt.more {w : World} {B B' : Nat} {A : Option Addr} {xs : List Value} (h : CellsAt w B A xs) (hB : B ≤ B') : CellsAt w B' A xs := fun hn => by
  obtain ⟨ad, e, hb, hc⟩ := h hn
  exact ⟨ad, e, by omega, hc⟩
theorem CellsAt.below {w w' : World} {B : Nat} {A : Option Addr} {xs : List Value} (h : CellsAt w B A xs) (hb : Below B w w') : CellsAt w' B A xs := h.keep fun _ hp => hb.cell hp
theorem CellsAt.of_own {w : World} {base size n c : Nat} {e : TypeId} {A : Option Addr} {xs : List Value} (h : w.ownsRow base e size (.slice A n c) n xs) : CellsAt w w.heap.size A xs := by
  intro hn
  rcases h.2 with ⟨_, h0⟩ | ⟨g, cap, cur, hv, _, hgb, _⟩
  · subst h0
    have h1 := h.1
    rw [Nat.zero_mul] at h1
    exact absurd (List.eq_nil_of_length_eq_zero h1) hn
  · have hA : A = some ⟨g, 0, none⟩ := by injection hv
    subst hA
    exact ⟨_, rfl, (Array.getElem?_eq_some_iff.1 hgb).1, h.cells (g := g) rfl⟩

/-- A number that an int holds. -/
def InI (n : Int) : Prop := -9223372036854775808 ≤ n ∧ n ≤ 9223372036854775807

theorem add_of_add (a : Addr) (i j : Nat) : (a.add i).add j = a.add (i + j) := by
  unfold Addr.add
  by_cases hi : i = 0 <;> by_cases hj : j = 0 <;> simp [hi, hj, Nat.add_assoc]
theorem block_of_add (a : Addr) (n : Nat) : (a.add n).block = a.block := by unfold Addr.add; split <;> rfl

theorem CellsAt.int {w : World} {B : Nat} {A : Option Addr} {l : List Int} (h : CellsAt w B A (l.map (Value.int .i64))) {k : Nat} {v : Int} (hk : l[k]? = some v) :
    ∃ ad, A = some ad ∧ ad.block < B ∧ w.cell? (ad.add k) = some (.int .i64 v) := by
  obtain ⟨ad, hA, hb, hc⟩ := h (by intro e; rw [List.map_eq_nil_iff] at e; rw [e] at hk; simp at hk)
  exact ⟨ad, hA, hb, hc k _ (by rw [List.getElem?_map, hk]; rfl)⟩

/-- Pairs of ints as cells. -/
def pairCells (l : List (Int × Int)) : List Value := l.flatMap fun p => [.int .i64 p.1, .int .i64 p.2]
theorem pairs_at (l : List (Int × Int)) (k : Nat) (p : Int × Int) (h : l[k]? = some p) : (pairCells l)[k * 2]? = some (.int .i64 p.1) ∧ (pairCells l)[k * 2 + 1]? = some (.int .i64 p.2) := by
  induction l generalizing k with
  | nil => simp at h
  | cons x l ih =>
    have e : pairCells (x :: l) = [Value.int .i64 x.1, .int .i64 x.2] ++ pairCells l := by unfold pairCells; rw [List.flatMap_cons]
    rw [e]
    cases k with
    | zero => simp at h; subst h; exact ⟨rfl, rfl⟩
    | succ k =>
      obtain ⟨h1, h2⟩ := ih k (by simpa using h)
      constructor
      · rw [List.getElem?_append_right (by simp; omega), ← h1]; congr 1; simp; omega
      · rw [List.getElem?_append_right (by simp; omega), ← h2]; congr 1; simp; omega
theorem CellsAt.pair {w : World} {B : Nat} {A : Option Addr} {l : List (Int × Int)} (h : CellsAt w B A (pairCells l)) {k : Nat} {p : Int × Int} (hk : l[k]? = some p) :
    ∃ ad, A = some ad ∧ ad.block < B ∧ w.cell? (ad.add (k * 2)) = some (.int .i64 p.1) ∧ w.cell? ⟨(ad.add (k * 2)).block, (ad.add (k * 2)).off + 1, none⟩ = some (.int .i64 p.2) := by
  obtain ⟨h1, h2⟩ := pairs_at l k p hk
  obtain ⟨ad, hA, hb, hc⟩ := h (by intro e; rw [e] at h1; simp at h1)
  refine ⟨ad, hA, hb, hc _ _ h1, ?_⟩
  have := hc _ _ h2
  rw [← add_of_add] at this
  exact this

section
variable {H : Type} {enc : TypeId × Value → H} {P : Program} {w : World} {base : Nat} {spare : Nat → Bool} {held : Bool}

/-- A slice of ints that came in. -/
theorem open_intsC {t e : TypeId} {fuel : Nat} {A : Option Addr} {len cap : Nat} {x : DataW H × List MemPlace} (ht : P.underlying t = some (.slice e)) (he : P.underlying e = some (.int .i64)) (hc : P.cellsOf e = 1)
    (h : DataW.trod enc P w base spare held fuel t [.slice A len cap] = some x) : ∃ l : List Int, l.length = len ∧ CellsAt w w.heap.size A (l.map (Value.int .i64)) ∧ (∀ v ∈ l, InI v) ∧ l.length ≤ 9223372036854775807 := by
  rcases open_ints ht he hc h with ⟨hcs, _⟩ | ⟨a, len', cap', zs, hcs, _, hl, hm, hz, _, hcell, hwz⟩
  · simp at hcs
    obtain ⟨rfl, rfl, rfl⟩ := hcs
    exact ⟨[], rfl, CellsAt.nil _ _ _, by simp, by simp⟩
  · simp at hcs
    obtain ⟨rfl, rfl, rfl⟩ := hcs
    have hzl : len ≤ zs.length := by rw [hz]; split <;> omega
    unfold maxLen at hm
    refine ⟨zs.take len, by rw [List.length_take]; omega, ?_, fun v hv => wf_range (hwz v (List.mem_of_mem_take hv)), by rw [List.length_take]; omega⟩
    intro hn
    have hpos : 0 < zs.length := by
      cases zs with
      | nil => simp at hn
      | cons z zs => simp
    refine ⟨a, rfl, ?_, fun j u hu => ?_⟩
    · have := block_lt_of_cell (hcell 0 hpos)
      rwa [block_of_add] at this
    · rw [List.getElem?_map] at hu
      obtain ⟨y, hy, rfl⟩ := Option.map_eq_some_iff.1 hu
      rw [List.getElem?_take] at hy
      by_cases hj : j < len
      · rw [if_pos hj] at hy
        have hjz := (List.getElem?_eq_some_iff.1 hy).1
        rw [hcell j hjz]
        simp [List.getD, hy]
      · rw [if_neg hj] at hy; cases hy

/-- A slice of pairs of ints that came in. -/
theorem open_pairsC {t e i : TypeId} {fuel : Nat} {A : Option Addr} {len cap : Nat} {x : DataW H × List MemPlace} (ht : P.underlying t = some (.slice e)) (he : P.underlying e = some (.array 2 i)) (hi : P.underlying i = some (.int .i64)) (hce : P.cellsOf e = 2) (hci : P.cellsOf i = 1)
    (h : DataW.trod enc P w base spare held fuel t [.slice A len cap] = some x) : ∃ l : List (Int × Int), l.length = len ∧ CellsAt w w.heap.size A (pairCells l) ∧ (∀ p ∈ l, InI p.1 ∧ InI p.2) ∧ l.length ≤ 9223372036854775807 := by
  rcases open_slice ht h with ⟨hcs, _⟩ | ⟨a, len', cap', m, n, D, Pl, hcs, _, hl, hm, hmm, _, hel⟩
  · simp at hcs
    obtain ⟨rfl, rfl, rfl⟩ := hcs
    exact ⟨[], rfl, CellsAt.nil _ _ _, by simp, by simp⟩
  · simp at hcs
    obtain ⟨rfl, rfl, rfl⟩ := hcs
    unfold maxLen at hm
    have hlm : len ≤ m := by rw [hmm]; split <;> omega
    have hone : ∀ k, k < len → ∃ p : Int × Int, InI p.1 ∧ InI p.2 ∧ w.cell? (a.add (k * 2)) = some (.int .i64 p.1) ∧ w.cell? (a.add (k * 2 + 1)) = some (.int .i64 p.2) := by
      intro k hk
      obtain ⟨cs', h1, h2⟩ := hel k (by omega)
      obtain ⟨_, hcl, hcell⟩ := World.cells?_some h1
      rw [hce] at hcl hcell
      obtain ⟨xs, m', _, _, _, hxl, hat⟩ := DataW.trod_array he h2
      match cs', hcl with
      | [u, v], _ =>
        have e0 := hat 0 (by omega)
        have e1 := hat 1 (by omega)
        rw [hci] at e0 e1
        match xs, hxl with
        | [y0, y1], _ =>
          obtain ⟨n0, hn0, _, wf0⟩ := DataW.trod_int hi (show DataW.trod enc P w base spare held m' i [u] = some y0 from e0)
          obtain ⟨n1, hn1, _, wf1⟩ := DataW.trod_int hi (show DataW.trod enc P w base spare held m' i [v] = some y1 from e1)
          simp at hn0 hn1
          subst hn0 hn1
          have c0 := hcell 0 (by omega)
          have c1 := hcell 1 (by omega)
          rw [add_of_add] at c0 c1
          exact ⟨(n0, n1), wf_range wf0, wf_range wf1, c0, c1⟩
    obtain ⟨f, hf⟩ := choose_lt (α := Int × Int) (p := fun k p => InI p.1 ∧ InI p.2 ∧ w.cell? (a.add (k * 2)) = some (.int .i64 p.1) ∧ w.cell? (a.add (k * 2 + 1)) = some (.int .i64 p.2)) hone
    refine ⟨(List.range len).map f, by simp, ?_, ?_, by simp; omega⟩
    · intro hn
      have hpos : 0 < len := by
        cases len with
        | zero => simp [pairCells] at hn
        | succ n => omega
      refine ⟨a, rfl, ?_, ?_⟩
      · have := block_lt_of_cell (hf 0 hpos).2.2.1
        rwa [block_of_add] at this
      · intro j u hu
        have hk : j / 2 < len := by
          have h1 := (List.getElem?_eq_some_iff.1 hu).1
          have h2 : (pairCells ((List.range len).map f)).length = len * 2 := by
            unfold pairCells
            have : ∀ l : List (Int × Int), (l.flatMap fun p => [Value.int .i64 p.1, Value.int .i64 p.2]).length = l.length * 2 := by
              intro l
              induction l with
              | nil => rfl
              | cons q l ih => rw [List.flatMap_cons, List.length_append, ih, List.length_cons]; simp; omega
            rw [this]; simp
          omega
        have hg : ((List.range len).map f)[j / 2]? = some (f (j / 2)) := by rw [List.getElem?_map, List.getElem?_range hk]; rfl
        obtain ⟨p1, p2⟩ := pairs_at _ _ _ hg
        obtain ⟨_, _, q1, q2⟩ := hf (j / 2) hk
        rcases Nat.mod_two_eq_zero_or_one j with h0 | h0
        · rw [show j / 2 * 2 = j by omega] at p1 q1
          rw [p1] at hu
          injection hu with hu
          rw [← hu]; exact q1
        · rw [show j / 2 * 2 + 1 = j by omega] at p2 q2
          rw [p2] at hu
          injection hu with hu
          rw [← hu]; exact q2
    · intro p hp
      obtain ⟨k, hk, rfl⟩ := List.mem_map.1 hp
      obtain ⟨h1, h2, _⟩ := hf k (List.mem_range.1 hk)
      exact ⟨h1, h2⟩
end

theorem own_below {w w' : World} {base : Nat} {e : TypeId} {size : Nat} {v : Value} {n : Nat} {xs : List Value} (h : w.ownsRow base e size v n xs) (hb : Below w.heap.size w w') : w'.ownsRow base e size v n xs :=
  h.kept (row := none) ⟨hb.os, hb.tape, hb.output, hb.size, fun i hi _ => hb.block i hi⟩ (by cases v.ownBlock; exact .inl rfl; exact .inr (by simp))
theorem cells_new (w : World) (xs : List Value) (t : TypeId) : ∀ j u, xs[j]? = some u → (w.alloc (.cells xs.toArray t)).cell? ((⟨w.heap.size, 0, none⟩ : Addr).add j) = some u := by
  intro j u hu
  have ha : (⟨w.heap.size, 0, none⟩ : Addr).add j = ⟨w.heap.size, j, none⟩ := by
    unfold Addr.add
    split
    · rename_i h; subst h; rfl
    · simp
  rw [ha, cell_of_row _ _ _ _ _ _ (heap_alloc_new w _)]
  simpa using hu

theorem cells_new2 (w : World) (o : Obj) (c0 c1 c2 c3 : Value) (t : TypeId) : ∀ j u, [c0, c1, c2, c3][j]? = some u → ((w.alloc o).alloc (.cells #[c0, c1, c2, c3] t)).cell? ((⟨w.heap.size + 1, 0, none⟩ : Addr).add j) = some u := by
  have h := cells_new (w.alloc o) [c0, c1, c2, c3] t
  rw [World.size_alloc] at h
  exact h
end Go.Proofs.Ytlfdpfkimggeoaa
