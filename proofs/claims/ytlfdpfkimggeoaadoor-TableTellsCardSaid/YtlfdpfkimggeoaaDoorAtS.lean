/-
  Lists of lists of ints that came in; rows of routes that the call builds; the best of a list is one.
-/
import Derived.Test.YtlfdpfkimggeoaaDoorAtR
namespace Go.Proofs.YtlfdpfkimggeoaaDoor
open Go.RowKit Go.WideShapes Go.ChangeShapes Go.Deep
set_option linter.unusedVariables false
set_option linter.unusedSimpArgs false

/-! ### [][]int -/
def LsAt (w : World) (A : Option Addr) (L : List (List Int)) : Prop :=
  ∃ hs : List (Option Addr × Nat), hs.length = L.length ∧ CellsAt w w.heap.size A ((L.zip hs).map fun x => .slice x.2.1 x.1.length x.2.2) ∧ ∀ (i : Nat) (l : List Int) (h : Option Addr × Nat), L[i]? = some l → hs[i]? = some h → CellsAt w w.heap.size h.1 (l.map (Value.int .i64))
theorem LsAt.on {w w' : World} {A : Option Addr} {L : List (List Int)} (h : LsAt w A L) (hb : Below w.heap.size w w') : LsAt w' A L := by
  obtain ⟨hs, h1, h2, h3⟩ := h
  exact ⟨hs, h1, h2.on hb, fun i l q e1 e2 => (h3 i l q e1 e2).on hb⟩
theorem LsAt.get {w : World} {A : Option Addr} {L : List (List Int)} (h : LsAt w A L) {k : Nat} {l : List Int} (hk : L[k]? = some l) :
    ∃ ad Al cl, A = some ad ∧ w.cell? (ad.add k) = some (.slice Al l.length cl) ∧ CellsAt w w.heap.size Al (l.map (Value.int .i64)) := by
  obtain ⟨hs, h1, h2, h3⟩ := h
  have hlt := (List.getElem?_eq_some_iff.1 hk).1
  obtain ⟨q, hq⟩ : ∃ q, hs[k]? = some q := ⟨_, List.getElem?_eq_getElem (by omega)⟩
  have hz : (L.zip hs)[k]? = some (l, q) := by rw [List.getElem?_zip_eq_some]; exact ⟨hk, hq⟩
  have hm : ((L.zip hs).map fun x => Value.slice x.2.1 x.1.length x.2.2)[k]? = some (.slice q.1 l.length q.2) := by rw [List.getElem?_map, hz]; rfl
  obtain ⟨ad, hA, _, hc⟩ := h2 (by intro e; rw [e] at hm; simp at hm)
  exact ⟨ad, q.1, q.2, hA, hc k _ hm, h3 k l q hk hq⟩

section
variable {H : Type} {enc : TypeId × Value → H} {P : Program} {w : World} {base : Nat} {spare : Nat → Bool} {held : Bool}
/-- A slice of slices of ints that came in. -/
theorem open_intss {t e i : TypeId} {fuel : Nat} {A : Option Addr} {len cap : Nat} {x : DataW H × List MemPlace} (ht : P.underlying t = some (.slice e)) (he : P.underlying e = some (.slice i)) (hi : P.underlying i = some (.int .i64)) (hce : P.cellsOf e = 1) (hci : P.cellsOf i = 1)
    (h : DataW.trod enc P w base spare held fuel t [.slice A len cap] = some x) : ∃ L : List (List Int), L.length = len ∧ LsAt w A L ∧ (∀ l ∈ L, (∀ v ∈ l, InI v) ∧ l.length ≤ 9223372036854775807) ∧ L.length ≤ 9223372036854775807 := by
  rcases open_slice ht h with ⟨hcs, _⟩ | ⟨a, len', cap', m, n, D, Pl, hcs, _, hl, hm, hmm, _, hel⟩
  · simp at hcs
    obtain ⟨rfl, rfl, rfl⟩ := hcs
    exact ⟨[], rfl, ⟨[], rfl, CellsAt.nil _ _ _, fun i l q e1 => by simp at e1⟩, by simp, by simp⟩
  · simp at hcs
    obtain ⟨rfl, rfl, rfl⟩ := hcs
    unfold maxLen at hm
    have hlm : len ≤ m := by rw [hmm]; split <;> omega
    have hone : ∀ k, k < len → ∃ q : (List Int) × (Option Addr × Nat), w.cell? (a.add k) = some (.slice q.2.1 q.1.length q.2.2) ∧ CellsAt w w.heap.size q.2.1 (q.1.map (Value.int .i64)) ∧ (∀ v ∈ q.1, InI v) ∧ q.1.length ≤ 9223372036854775807 := by
      intro k hk
      obtain ⟨cs', h1, h2⟩ := hel k (by omega)
      obtain ⟨_, hcl, hcell⟩ := World.cells?_some h1
      rw [hce] at hcl
      rw [hce, Nat.mul_one] at hcell
      match cs', hcl with
      | [u], _ =>
        have c0 := hcell 0 (by omega)
        have e0 : (a.add k).add 0 = a.add k := by rw [add_of_add]; rfl
        rw [e0] at c0
        have hform : ∃ A' n' c', u = .slice A' n' c' := by
          rcases open_ints he hi hci h2 with ⟨hcs, _⟩ | ⟨a', len', cap', zs, hcs, _⟩
          · exact ⟨none, 0, 0, by simpa using hcs⟩
          · exact ⟨some a', len', cap', by simpa using hcs⟩
        obtain ⟨A', n', c', rfl⟩ := hform
        obtain ⟨l, hll, hC, hin, hmax⟩ := open_intsC he hi hci h2
        subst hll
        exact ⟨(l, (A', c')), c0, hC, hin, hmax⟩
    obtain ⟨f, hf⟩ := choose_lt (α := (List Int) × (Option Addr × Nat)) (p := fun k q => w.cell? (a.add k) = some (.slice q.2.1 q.1.length q.2.2) ∧ CellsAt w w.heap.size q.2.1 (q.1.map (Value.int .i64)) ∧ (∀ v ∈ q.1, InI v) ∧ q.1.length ≤ 9223372036854775807) hone
    refine ⟨(List.range len).map fun k => (f k).1, by simp, ⟨(List.range len).map fun k => (f k).2, by simp, ?_, ?_⟩, ?_, by simp; omega⟩
    · intro hn
      have hpos : 0 < len := by
        cases len with
        | zero => simp at hn
        | succ n => omega
      refine ⟨a, rfl, ?_, fun j u hu => ?_⟩
      · have := block_lt_of_cell (hf 0 hpos).1
        rwa [block_of_add] at this
      · rw [List.getElem?_map] at hu
        obtain ⟨y, hy, rfl⟩ := Option.map_eq_some_iff.1 hu
        rw [List.getElem?_zip_eq_some] at hy
        obtain ⟨y1, y2⟩ := hy
        have hj : j < len := by have := (List.getElem?_eq_some_iff.1 y1).1; simpa using this
        rw [List.getElem?_map, List.getElem?_range hj] at y1 y2
        simp at y1 y2
        rw [← y1, ← y2]
        exact (hf j hj).1
    · intro j l q e1 e2
      have hj : j < len := by have := (List.getElem?_eq_some_iff.1 e1).1; simpa using this
      rw [List.getElem?_map, List.getElem?_range hj] at e1 e2
      simp at e1 e2
      rw [← e1, ← e2]
      exact (hf j hj).2.1
    · intro l hl
      obtain ⟨k, hk, rfl⟩ := List.mem_map.1 hl
      have := hf k (List.mem_range.1 hk)
      exact ⟨this.2.2.1, this.2.2.2⟩
end

/-! ### Rows of routes of the call's own -/
theorem rtInfo : (Tryd.prog.info? 25).map (fun i => (i.zero, i.size, i.bytes)) = some (some (.agg #[.int .i64 0, .int .i64 0, .slice none 0 0]), 3, 40) := by kernel_rfl
/-- A path's numbers: a row of the call's own, or older memory. -/
def PathAt (B : Nat) (w : World) (r : Rt) (A : Option Addr) (c : Nat) : Prop :=
  w.ownsRow B 3 1 (.slice A r.path.length c) r.path.length (r.path.map (Value.int .i64)) ∨ CellsAt w B A (r.path.map (Value.int .i64))
theorem PathAt.at_ {B : Nat} {w : World} {r : Rt} {A : Option Addr} {c : Nat} (h : PathAt B w r A c) (hB : B ≤ w.heap.size) (hl : r.path.length ≤ 9223372036854775807) : RtAt w r A r.path.length := by
  rcases h with h | h
  · exact ⟨rfl, (RowAt.of_own h).cells, hl⟩
  · exact ⟨rfl, h.more hB, hl⟩
theorem PathAt.go {B : Nat} {w w' : World} {r : Rt} {A : Option Addr} {c : Nat} (h : PathAt B w r A c) (hB : B ≤ w.heap.size) (hb : Below w.heap.size w w') : PathAt B w' r A c := by
  rcases h with h | h
  · exact .inl (own_below h hb)
  · exact .inr (h.keep fun _ hp => hb.cell (Nat.lt_of_lt_of_le hp hB))
theorem own_farA {w w' : World} {base base' : Nat} {e e' : TypeId} {size size' : Nat} {v v' : Value} {n n' : Nat} {xs xs' : List Value} (h : w.ownsRow base e size v n xs) (k : w.ownsRow base' e' size' v' n' xs') (hne : e ≠ e') (hg : w.grownBy w' v'.ownBlock) : w'.ownsRow base e size v n xs := by
  refine h.kept (row := v'.ownBlock) ⟨hg.os, hg.tape, hg.output, hg.size, hg.block⟩ ?_
  cases hv : v.ownBlock with
  | none => exact .inl rfl
  | some g =>
    refine .inr fun e1 => ?_
    rcases k.2 with ⟨hv', _⟩ | ⟨g', cap, cur, hv', _, hb', _⟩
    · rw [hv'] at e1; simp [Value.ownBlock] at e1
    · rw [hv'] at e1
      have hgg : g = g' := by simpa [Value.ownBlock] using e1
      subst hgg
      exact own_blk_ne h hb' hne hv
theorem PathAt.grown {B : Nat} {w w' : World} {r : Rt} {A : Option Addr} {c : Nat} (h : PathAt B w r A c) (hB : B ≤ w.heap.size) {v' : Value} {n' : Nat} {xs' : List Value} (k : w.ownsRow B 25 3 v' n' xs') (hg : w.grownBy w' v'.ownBlock) : PathAt B w' r A c := by
  rcases h with h | h
  · exact .inl (own_farA h k (by decide) hg)
  · refine .inr (h.keep fun p hp => ?_)
    have hbl := hg.block p.block (Nat.lt_of_lt_of_le hp hB) (fun e => by
      have := (k.lt p.block e.symm).1
      omega)
    unfold World.cell?
    rw [hbl]
theorem own_base {w : World} {base base' : Nat} {e : TypeId} {size : Nat} {v : Value} {n : Nat} {xs : List Value} (h : w.ownsRow base e size v n xs) (hb : base' ≤ base) : w.ownsRow base' e size v n xs := by
  refine ⟨h.1, ?_⟩
  rcases h.2 with h | ⟨g, cap, cur, h1, h2, h3⟩
  · exact .inl h
  · exact .inr ⟨g, cap, cur, h1, by omega, h3⟩
def RtsOwn (B : Nat) (w : World) (A : Option Addr) (n c : Nat) (l : List Rt) : Prop :=
  ∃ hs : List (Option Addr × Nat), hs.length = l.length ∧ l.length = n ∧ w.ownsRow B 25 3 (.slice A n c) n ((l.zip hs).flatMap rtC) ∧ (∀ r ∈ l, rtRight r = true) ∧ B ≤ w.heap.size ∧ ∀ (i : Nat) (r : Rt) (h : Option Addr × Nat), l[i]? = some r → hs[i]? = some h → PathAt B w r h.1 h.2
theorem RtsOwn.nil (B : Nat) (w : World) (hB : B ≤ w.heap.size) : RtsOwn B w none 0 0 [] := ⟨[], rfl, rfl, World.ownsRow_nil _ _ _ _, fun r h => by (cases h), hB, fun i r h e => by simp at e⟩
theorem RtsOwn.go {B : Nat} {w w' : World} {A : Option Addr} {n c : Nat} {l : List Rt} (h : RtsOwn B w A n c l) (hb : Below w.heap.size w w') : RtsOwn B w' A n c l := by
  obtain ⟨hs, h1, h2, h3, h4, h5, h6⟩ := h
  exact ⟨hs, h1, h2, own_below h3 hb, h4, Nat.le_trans h5 hb.size, fun i r q e1 e2 => (h6 i r q e1 e2).go h5 hb⟩
theorem RtsOwn.at_ {B : Nat} {w : World} {A : Option Addr} {n c : Nat} {l : List Rt} (h : RtsOwn B w A n c l) : RtsAt w A l := by
  obtain ⟨hs, h1, h2, h3, h4, h5, h6⟩ := h
  exact ⟨hs, h1, (RowAt.of_own h3).cells, fun i r q e1 e2 => (h6 i r q e1 e2).at_ h5 (by have := rt_len (h4 r (List.mem_of_getElem? e1)); omega)⟩
/-- One more route behind. -/
theorem RtsOwn.next {B : Nat} {w w' : World} {hs : List (Option Addr × Nat)} {A A' : Option Addr} {n c c' : Nat} {l : List Rt} (h1 : hs.length = l.length) (h2 : l.length = n) (h3 : w.ownsRow B 25 3 (.slice A n c) n ((l.zip hs).flatMap rtC)) (h4 : ∀ r ∈ l, rtRight r = true) (h5 : B ≤ w.heap.size) (h6 : ∀ (i : Nat) (r : Rt) (h : Option Addr × Nat), l[i]? = some r → hs[i]? = some h → PathAt B w r h.1 h.2)
    {r : Rt} {Ar : Option Addr} {cr : Nat} (hr : PathAt B w r Ar cr) (hrr : rtRight r = true) (ho : w'.ownsRow B 25 3 (.slice A' (n + 1) c') (n + 1) ((l.zip hs).flatMap rtC ++ rtC (r, (Ar, cr)))) (hg : w.grownBy w' (Value.slice A n c).ownBlock) : RtsOwn B w' A' (n + 1) c' (l ++ [r]) := by
  refine ⟨hs ++ [(Ar, cr)], by simp [h1], by simp [h2], ?_, ?_, Nat.le_trans h5 hg.size, fun i x q e1 e2 => ?_⟩
  · rw [List.zip_append h1.symm, List.flatMap_append]
    simpa using ho
  · intro x hx
    rcases List.mem_append.1 hx with hx | hx
    · exact h4 x hx
    · rw [List.mem_singleton] at hx; rw [hx]; exact hrr
  · by_cases hi : i < l.length
    · rw [List.getElem?_append_left hi] at e1
      rw [List.getElem?_append_left (by omega)] at e2
      exact (h6 i x q e1 e2).grown h5 h3 hg
    · have hi2 : i = l.length := by
        have := (List.getElem?_eq_some_iff.1 e1).1
        simp at this; omega
      subst hi2
      rw [List.getElem?_append_right (Nat.le_refl _), Nat.sub_self] at e1
      rw [List.getElem?_append_right (by omega), h1, Nat.sub_self] at e2
      simp at e1 e2
      subst e1 e2
      exact hr.grown h5 h3 hg
theorem flat_snoc (l : List Rt) (hs : List (Option Addr × Nat)) (r : Rt) (q : Option Addr × Nat) (h : hs.length = l.length) : ((l ++ [r]).zip (hs ++ [q])).flatMap rtC = (l.zip hs).flatMap rtC ++ rtC (r, q) := by
  rw [List.zip_append h.symm, List.flatMap_append]; simp

/-! ### Pieces of a list of routes -/
theorem rtC_one (l : List (Rt × (Option Addr × Nat))) : ∀ u ∈ l.flatMap rtC, u.oneCell' = true := by
  intro u hu
  obtain ⟨x, _, hx⟩ := List.mem_flatMap.1 hu
  simp [rtC] at hx
  rcases hx with rfl | rfl | rfl <;> rfl
theorem zipD {α β : Type} : ∀ (k : Nat) (l : List α) (m : List β), (l.drop k).zip (m.drop k) = (l.zip m).drop k
  | 0, _, _ => rfl
  | k + 1, [], m => by simp
  | k + 1, x :: l, [] => by simp
  | k + 1, x :: l, y :: m => zipD k l m
theorem zipT {α β : Type} : ∀ (k : Nat) (l : List α) (m : List β), (l.take k).zip (m.take k) = (l.zip m).take k
  | 0, _, _ => rfl
  | k + 1, [], m => by simp
  | k + 1, x :: l, [] => by simp
  | k + 1, x :: l, y :: m => by
    rw [List.take_succ_cons, List.take_succ_cons, List.zip_cons_cons, List.zip_cons_cons, List.take_succ_cons, zipT k l m]
theorem drop_rows (l : List (Rt × (Option Addr × Nat))) (k : Nat) : (l.drop k).flatMap rtC = (l.flatMap rtC).drop (k * 3) := by
  induction l generalizing k with
  | nil => simp
  | cons x l ih =>
    cases k with
    | zero => simp
    | succ k =>
      rw [List.drop_succ_cons, ih, List.flatMap_cons, show (k + 1) * 3 = (rtC x).length + k * 3 by show _ = 3 + k * 3; omega, ← List.drop_drop, List.drop_left]
theorem take_rows (l : List (Rt × (Option Addr × Nat))) (k : Nat) : (l.take k).flatMap rtC = (l.flatMap rtC).take (k * 3) := by
  induction l generalizing k with
  | nil => simp
  | cons x l ih =>
    cases k with
    | zero => simp
    | succ k =>
      rw [List.take_succ_cons, List.flatMap_cons, ih, List.flatMap_cons, show (k + 1) * 3 = (rtC x).length + k * 3 by show _ = 3 + k * 3; omega, List.take_length_add_append]
theorem CellsAt.drop {w : World} {B : Nat} {A : Option Addr} {xs : List Value} (h : CellsAt w B A xs) (n : Nat) {A' : Option Addr} (hA : xs.drop n ≠ [] → A' = A.map (·.add n)) : CellsAt w B A' (xs.drop n) := fun hn => by
  obtain ⟨ad, e, hb, hc⟩ := h (by intro e; rw [e] at hn; simp at hn)
  subst e
  refine ⟨ad.add n, hA hn, by rw [block_of_add]; exact hb, fun j u hu => ?_⟩
  rw [List.getElem?_drop] at hu
  rw [add_of_add]
  exact hc _ u hu
theorem CellsAt.take {w : World} {B : Nat} {A : Option Addr} {xs : List Value} (h : CellsAt w B A xs) (n : Nat) : CellsAt w B A (xs.take n) := fun hn => by
  obtain ⟨ad, e, hb, hc⟩ := h (by intro e; rw [e] at hn; simp at hn)
  refine ⟨ad, e, hb, fun j u hu => hc j u ?_⟩
  rw [List.getElem?_take] at hu
  split at hu
  · exact hu
  · cases hu
/-- A list of routes with the places of its numbers. -/
structure RtsH (w : World) (A : Option Addr) (l : List Rt) (hs : List (Option Addr × Nat)) : Prop where
  len : hs.length = l.length
  cells : CellsAt w w.heap.size A ((l.zip hs).flatMap rtC)
  paths : ∀ (i : Nat) (r : Rt) (h : Option Addr × Nat), l[i]? = some r → hs[i]? = some h → RtAt w r h.1 r.path.length
theorem RtsAt.h {w : World} {A : Option Addr} {l : List Rt} (h : RtsAt w A l) : ∃ hs, RtsH w A l hs := by
  obtain ⟨hs, h1, h2, h3⟩ := h; exact ⟨hs, h1, h2, h3⟩
theorem RtsH.at_ {w : World} {A : Option Addr} {l : List Rt} {hs : List (Option Addr × Nat)} (h : RtsH w A l hs) : RtsAt w A l := ⟨hs, h.len, h.cells, h.paths⟩
theorem RtsH.on {w w' : World} {A : Option Addr} {l : List Rt} {hs : List (Option Addr × Nat)} (h : RtsH w A l hs) (hb : Below w.heap.size w w') : RtsH w' A l hs := ⟨h.len, h.cells.on hb, fun i r q e1 e2 => (h.paths i r q e1 e2).on hb⟩
theorem RtsH.drop {w : World} {A : Option Addr} {l : List Rt} {hs : List (Option Addr × Nat)} (h : RtsH w A l hs) (k : Nat) {A' : Option Addr} (hA : k < l.length → A' = A.map (·.add (k * 3))) : RtsH w A' (l.drop k) (hs.drop k) := by
  refine ⟨by simp [h.len], ?_, fun i r q e1 e2 => ?_⟩
  · rw [show (l.drop k).zip (hs.drop k) = (l.zip hs).drop k from zipD k l hs, drop_rows]
    refine h.cells.drop _ (fun hn => hA ?_)
    by_cases hk : k < l.length
    · exact hk
    · exfalso
      apply hn
      rw [List.drop_of_length_le]
      rw [rtC_len, List.length_zip, h.len]
      have : min l.length l.length = l.length := by omega
      rw [this]
      exact Nat.mul_le_mul_right 3 (by omega)
  · rw [List.getElem?_drop] at e1 e2
    exact h.paths _ r q e1 e2
theorem RtsH.take {w : World} {A : Option Addr} {l : List Rt} {hs : List (Option Addr × Nat)} (h : RtsH w A l hs) (k : Nat) : RtsH w A (l.take k) (hs.take k) := by
  refine ⟨by simp [h.len], ?_, fun i r q e1 e2 => ?_⟩
  · rw [show (l.take k).zip (hs.take k) = (l.zip hs).take k from zipT k l hs, take_rows]
    exact h.cells.take _
  · rw [List.getElem?_take] at e1 e2
    split at e1
    · rename_i hi
      rw [if_pos hi] at e2
      exact h.paths _ r q e1 e2
    · cases e1
/-- Two rows, one behind the other. -/
theorem RtsH.join {w w' : World} {A A' A2 : Option Addr} {l l' : List Rt} {hs hs' : List (Option Addr × Nat)} (h : RtsH w A l hs) (h' : RtsH w A' l' hs') (hb : Below w.heap.size w w') {B n c : Nat} (ho : w'.ownsRow B 25 3 (.slice A2 n c) n ((l.zip hs).flatMap rtC ++ (l'.zip hs').flatMap rtC)) : RtsH w' A2 (l ++ l') (hs ++ hs') := by
  refine ⟨by simp [h.len, h'.len], ?_, fun i r q e1 e2 => ?_⟩
  · rw [List.zip_append h.len.symm, List.flatMap_append]
    exact (RowAt.of_own ho).cells
  · by_cases hi : i < l.length
    · rw [List.getElem?_append_left hi] at e1
      rw [List.getElem?_append_left (by rw [h.len]; exact hi)] at e2
      exact (h.paths i r q e1 e2).on hb
    · rw [List.getElem?_append_right (by omega)] at e1
      rw [List.getElem?_append_right (by rw [h.len]; omega), h.len] at e2
      exact (h'.paths _ r q e1 e2).on hb
/-- Two routes in a new row. -/
theorem RtsAt.two {w : World} {a b : Rt} {A A' : Option Addr} {n n' c c' : Nat} (ha : RtAt w a A n) (hb : RtAt w b A' n') :
    RtsAt (w.alloc (.cells #[.int .i64 a.kind, .int .i64 a.cost, .slice A n c, .int .i64 b.kind, .int .i64 b.cost, .slice A' n' c'] 25)) (some ⟨w.heap.size, 0, none⟩) [a, b] := by
  have e1 := ha.1
  have e2 := hb.1
  subst e1 e2
  have hk := Blk.new w 25 #[.int .i64 a.kind, .int .i64 a.cost, .slice A a.path.length c, .int .i64 b.kind, .int .i64 b.cost, .slice A' b.path.length c']
  refine ⟨[(A, c), (A', c')], rfl, RowAt.cells (fun _ => ⟨w.heap.size, rfl, hk.lt, fun j u hu => by rw [hk.cell, ← hu]; simp [rtC]⟩), fun i r q e1 e2 => ?_⟩
  match i with
  | 0 => simp at e1 e2; subst e1 e2; exact ha.box _
  | 1 => simp at e1 e2; subst e1 e2; exact hb.box _
  | i + 2 => simp at e1
theorem RtsAt.two_at {w : World} {a b : Rt} {A A' : Option Addr} {n n' c c' : Nat} (g : Nat) (hg : w.heap.size = g) (ha : RtAt w a A n) (hb : RtAt w b A' n') :
    RtsAt (w.alloc (.cells #[.int .i64 a.kind, .int .i64 a.cost, .slice A n c, .int .i64 b.kind, .int .i64 b.cost, .slice A' n' c'] 25)) (some ⟨g, 0, none⟩) [a, b] := by subst hg; exact RtsAt.two ha hb
theorem best_right {l : List Rt} (h : ∀ r ∈ l, rtRight r = true) : rtRight (rtBest l) = true := by
  by_cases hl : l = []
  · subst hl; rfl
  · exact h _ (rtBest_mem hl)

/-! ### The best of a list is one -/
theorem best_is (l : List Rt) (hr : ∀ r ∈ l, rtRight r = true) (b : Rt) (hb : b ∈ l) (hn : ∀ r ∈ l, rtBetter r b = false) : rtBest l = b := by
  have hne : l ≠ [] := fun e => by rw [e] at hb; cases hb
  have hm := rtBest_mem hne
  have hbest : ∀ (k : Nat), k ≤ l.length → 0 < k → ∀ r ∈ l.take k, rtBetter r (rtBest (l.take k)) = false := by
    intro k
    induction k with
    | zero => intro _ h; omega
    | succ k ih =>
      intro hk _ r hrm
      obtain ⟨x, hx⟩ : ∃ x, l[k]? = some x := ⟨_, List.getElem?_eq_getElem (by omega)⟩
      rw [rtBest_take hx]
      rw [List.take_add_one, hx] at hrm
      by_cases hk0 : k = 0
      · subst hk0
        simp at hrm
        rw [if_pos rfl, hrm, better_irrefl]
      · rw [if_neg hk0]
        have ih' := ih (by omega) (by omega)
        by_cases hb2 : rtBetter x (rtBest (l.take k)) = true
        · rw [if_pos hb2]
          rcases List.mem_append.1 hrm with h1 | h1
          · have h3 := ih' r h1
            rw [← Bool.not_eq_true]
            intro h4
            have := better_trans h4 hb2
            rw [this] at h3; cases h3
          · simp at h1; rw [h1, better_irrefl]
        · rw [if_neg hb2]
          rcases List.mem_append.1 hrm with h1 | h1
          · exact ih' r h1
          · simp at h1; rw [h1]; simpa using hb2
  have h1 := hbest l.length (Nat.le_refl _) (List.length_pos_of_mem hb) b (by rw [List.take_length]; exact hb)
  rw [List.take_length] at h1
  have h2 := hn _ hm
  by_cases e : rtBest l = b
  · exact e
  · rcases better_total (hr _ hm) (hr _ hb) e with h3 | h3
    · rw [h3] at h2; cases h2
    · rw [h3] at h1; cases h1
theorem best_no {l : List Rt} (hr : ∀ r ∈ l, rtRight r = true) : ∀ r ∈ l, rtBetter r (rtBest l) = false := by
  -- as above, for the list itself
  have hbest : ∀ (k : Nat), k ≤ l.length → 0 < k → ∀ r ∈ l.take k, rtBetter r (rtBest (l.take k)) = false := by
    intro k
    induction k with
    | zero => intro _ h; omega
    | succ k ih =>
      intro hk _ r hrm
      obtain ⟨x, hx⟩ : ∃ x, l[k]? = some x := ⟨_, List.getElem?_eq_getElem (by omega)⟩
      rw [rtBest_take hx]
      rw [List.take_add_one, hx] at hrm
      by_cases hk0 : k = 0
      · subst hk0
        simp at hrm
        rw [if_pos rfl, hrm, better_irrefl]
      · rw [if_neg hk0]
        have ih' := ih (by omega) (by omega)
        by_cases hb2 : rtBetter x (rtBest (l.take k)) = true
        · rw [if_pos hb2]
          rcases List.mem_append.1 hrm with h1 | h1
          · have h3 := ih' r h1
            rw [← Bool.not_eq_true]
            intro h4
            have := better_trans h4 hb2
            rw [this] at h3; cases h3
          · simp at h1; rw [h1, better_irrefl]
        · rw [if_neg hb2]
          rcases List.mem_append.1 hrm with h1 | h1
          · exact ih' r h1
          · simp at h1; rw [h1]; simpa using hb2
  intro r hrm
  have := hbest l.length (Nat.le_refl _) (List.length_pos_of_mem hrm) r (by rw [List.take_length]; exact hrm)
  rwa [List.take_length] at this
theorem best_turned {l : List Rt} (hr : ∀ r ∈ l, rtRight r = true) (k : Nat) : rtBest (l.drop k ++ l) = rtBest l := by
  by_cases hl : l = []
  · subst hl; simp
  · refine best_is _ (fun r h => ?_) _ (List.mem_append_right _ (rtBest_mem hl)) (fun r h => ?_)
    · rcases List.mem_append.1 h with h | h
      · exact hr r (List.mem_of_mem_drop h)
      · exact hr r h
    · rcases List.mem_append.1 h with h | h
      · exact best_no hr r (List.mem_of_mem_drop h)
      · exact best_no hr r h
theorem best_parts {l : List Rt} (hr : ∀ r ∈ l, rtRight r = true) {k : Nat} (h0 : 0 < k) (hk : k < l.length) : rtBest [rtBest (l.take k), rtBest (l.drop k)] = rtBest l := by
  have hl : l ≠ [] := fun e => by rw [e] at hk; simp at hk
  have ht : l.take k ≠ [] := fun e => by have := congrArg List.length e; rw [List.length_take, List.length_nil] at this; omega
  have hd : l.drop k ≠ [] := fun e => by have := congrArg List.length e; rw [List.length_drop] at this; simp at this; omega
  have m1 := rtBest_mem ht
  have m2 := rtBest_mem hd
  have r1 : ∀ r ∈ l.take k, rtRight r = true := fun r h => hr r (List.mem_of_mem_take h)
  have r2 : ∀ r ∈ l.drop k, rtRight r = true := fun r h => hr r (List.mem_of_mem_drop h)
  have hm := rtBest_mem hl
  have key : rtBest l = rtBest (l.take k) ∨ rtBest l = rtBest (l.drop k) := by
    have hsplit : rtBest l ∈ l.take k ++ l.drop k := by rw [List.take_append_drop]; exact hm
    rcases List.mem_append.1 hsplit with h | h
    · exact .inl (best_is _ r1 _ h (fun r h => best_no hr r (List.mem_of_mem_take h))).symm
    · exact .inr (best_is _ r2 _ h (fun r h => best_no hr r (List.mem_of_mem_drop h))).symm
  refine best_is _ (fun r h => ?_) _ ?_ (fun r h => ?_)
  · simp at h
    rcases h with rfl | rfl
    · exact r1 _ m1
    · exact r2 _ m2
  · rcases key with e | e <;> rw [e] <;> simp
  · simp at h
    rcases h with rfl | rfl
    · exact best_no hr _ (List.mem_of_mem_take m1)
    · exact best_no hr _ (List.mem_of_mem_drop m2)
end Go.Proofs.YtlfdpfkimggeoaaDoor
