/-
  Tokens in memory; the program's Lex.
-/
import Derived.Maps.AppendAt
import Derived.Test.YtlfdpfkimggeoaaLxD
import Derived.Test.YtlfdpfkimggeoaaOpen
namespace Go.Proofs.Ytlfdpfkimggeoaa
open Go.RowKit Go.Shelf

def toksCells (T : List Tok) : List Value := T.flatMap tokCells
theorem toksCells_len (T : List Tok) : (toksCells T).length = T.length * 4 := by
  induction T with
  | nil => rfl
  | cons t T ih => unfold toksCells at ih ⊢; rw [List.flatMap_cons, List.length_append, ih, List.length_cons]; simp [tokCells]; omega
theorem toksCells_snoc (T : List Tok) (t : Tok) : toksCells (T ++ [t]) = toksCells T ++ tokCells t := by
  unfold toksCells; rw [List.flatMap_append]; simp

/-- Texts that were just laid out. -/
theorem texts_new (w : World) (xs : List (List UInt8)) (t : TypeId) (k : Nat) (x : List UInt8) (h : xs[k]? = some x) : (w.alloc (.cells (xs.map fun l => Value.string ⟨l.toArray⟩).toArray t)).cell? ⟨w.heap.size, k, none⟩ = some (.string ⟨x.toArray⟩) := by
  rw [cell_of_row _ _ _ _ _ _ (World.alloc_heap_new w _)]
  simp [h]

theorem toks_at (T : List Tok) (k : Nat) (t : Tok) (h : T[k]? = some t) (j : Nat) (u : Value) (hj : (tokCells t)[j]? = some u) : (toksCells T)[k * 4 + j]? = some u := by
  induction T generalizing k with
  | nil => simp at h
  | cons x T ih =>
    have e : toksCells (x :: T) = tokCells x ++ toksCells T := by unfold toksCells; rw [List.flatMap_cons]
    have h4 : ∀ t, (tokCells t).length = 4 := fun _ => rfl
    rw [e]
    cases k with
    | zero =>
      simp at h
      subst h
      rw [List.getElem?_append_left (by have := (List.getElem?_eq_some_iff.1 hj).1; omega), ← hj]; congr 1; omega
    | succ k =>
      rw [List.getElem?_append_right (by rw [h4]; omega), h4, ← ih k (by simpa using h)]
      congr 1; omega

theorem CellsAt.tok {w : World} {B : Nat} {A : Option Addr} {T : List Tok} (h : CellsAt w B A (toksCells T)) {k : Nat} {t : Tok} (hk : T[k]? = some t) :
    ∃ ad, A = some ad ∧ w.cell? (ad.add (k * 4)) = some (.int .i64 t.1) ∧ w.cell? ⟨(ad.add (k * 4)).block, (ad.add (k * 4)).off + 1, none⟩ = some (.string ⟨t.2.1.toArray⟩) ∧ w.cell? ⟨(ad.add (k * 4)).block, (ad.add (k * 4)).off + 2, none⟩ = some (.int .i64 t.2.2.1) ∧ w.cell? ⟨(ad.add (k * 4)).block, (ad.add (k * 4)).off + 3, none⟩ = some (.int .i64 (t.2.2.2 : Int)) := by
  have hne : toksCells T ≠ [] := by
    intro e
    have h1 := toksCells_len T
    rw [e] at h1
    have h2 := (List.getElem?_eq_some_iff.1 hk).1
    simp at h1
    omega
  obtain ⟨ad, hA, _, hc⟩ := h hne
  have ha : ∀ i j, (ad.add i).add j = ad.add (i + j) := by
    intro i j
    unfold Addr.add
    by_cases hi : i = 0 <;> by_cases hj : j = 0 <;> simp [hi, hj, Nat.add_assoc]
  refine ⟨ad, hA, ?_, ?_, ?_, ?_⟩
  · exact hc _ _ (toks_at T k t hk 0 _ rfl)
  · have := hc _ _ (toks_at T k t hk 1 _ rfl); rw [← ha] at this; exact this
  · have := hc _ _ (toks_at T k t hk 2 _ rfl); rw [← ha] at this; exact this
  · have := hc _ _ (toks_at T k t hk 3 _ rfl); rw [← ha] at this; exact this

/-- One step of Lex. -/
theorem tok_step (l : List UInt8) (p : Nat) (c : UInt8) (r : List UInt8) (hl : l = c :: r) (h1 : ¬ blaB c = true) (h2 : ¬ c.toNat = 35) :
    ((tokB l p).1 = 0 ∧ scan l p = ([], some p)) ∨
    ((tokB l p).1 ≠ 0 ∧ 1 ≤ (tokB l p).2.1.length ∧ (tokB l p).2.1.length ≤ l.length ∧
      scan l p = (tokB l p :: (scan (l.drop (tokB l p).2.1.length) (p + (tokB l p).2.1.length)).1, (scan (l.drop (tokB l p).2.1.length) (p + (tokB l p).2.1.length)).2)) := by
  have hc : l.getD 0 0 = c := by rw [hl]; rfl
  unfold tokB
  rw [hc]
  have hwl := wordN_le l
  have hlen : (l.take (wordN l)).length = wordN l := by rw [List.length_take]; omega
  by_cases h3 : c.toNat = 59
  · rw [if_pos h3]
    right
    refine ⟨by simp, Nat.le_refl _, by rw [hl]; simp, ?_⟩
    subst hl
    exact scan_stop c r p h3
  · rw [if_neg h3]
    by_cases hw : kwB (l.take (wordN l)) = true ∨ nameB (l.take (wordN l)) = true
    · rw [if_pos hw]
      right
      dsimp only
      rw [hlen]
      exact ⟨by simp, word_pos hw, hwl, scan_word l p hw⟩
    · rw [if_neg hw]
      by_cases hn : 0 ≤ numB (l.take (wordN l))
      · rw [if_pos hn]
        right
        dsimp only
        rw [hlen]
        exact ⟨by simp, num_pos hn, hwl, scan_num l p hw hn⟩
      · rw [if_neg hn]
        left
        subst hl
        exact ⟨rfl, scan_bad c r p h1 h2 h3 hw hn⟩

/-- Where Lex stands: behind these tokens, at this place, where nothing is passed over. -/
def LexAt (l : List UInt8) (T : List Tok) (p : Nat) : Prop :=
  p ≤ l.length ∧ T.length ≤ p ∧ (∀ c r, l.drop p = c :: r → ¬ blaB c = true ∧ ¬ c.toNat = 35) ∧ scan l 0 = (T ++ (scan (l.drop p) p).1, (scan (l.drop p) p).2)
theorem LexAt.start (l : List UInt8) : LexAt l [] (skipN false l) := by
  have h := (scan_skip l 0).1
  rw [Nat.zero_add] at h
  exact ⟨skipN_le l false, by simp, fun c r hc => skip_stops l false c r hc, by rw [h]; simp⟩
theorem LexAt.step {l : List UInt8} {T : List Tok} {p : Nat} (h : LexAt l T p) (hp : p < l.length) (hl : l.length ≤ 10000) {t : Tok} (ht : tokB (l.drop p) p = t) :
    (t.1 = 0 ∧ lexT l = [] ∧ lexE l = 21 ∧ lexP l = p) ∨
    (t.1 ≠ 0 ∧ 1 ≤ t.2.1.length ∧ p + t.2.1.length ≤ l.length ∧ LexAt l (T ++ [t]) (p + t.2.1.length + skipN false (l.drop (p + t.2.1.length)))) := by
  obtain ⟨h1, h2, h3, h4⟩ := h
  subst ht
  obtain ⟨c, r, hc⟩ : ∃ c r, l.drop p = c :: r := by
    cases hd : l.drop p with
    | nil => have := congrArg List.length hd; rw [List.length_drop] at this; simp at this; omega
    | cons c r => exact ⟨c, r, rfl⟩
  obtain ⟨hb, h35⟩ := h3 c r hc
  rcases tok_step (l.drop p) p c r hc hb h35 with ⟨e1, e2⟩ | ⟨e1, e2, e3, e4⟩
  · left
    rw [e2] at h4
    refine ⟨e1, ?_, ?_, ?_⟩
    · unfold lexT; rw [if_neg (by omega), h4]; simp
    · unfold lexE; rw [if_neg (by omega), h4]; simp
    · unfold lexP; rw [if_neg (by omega), h4]; rfl
  · right
    rw [List.length_drop] at e3
    obtain ⟨k, hk⟩ : ∃ k, (tokB (l.drop p) p).2.1.length = k := ⟨_, rfl⟩
    rw [hk] at e2 e3 e4 ⊢
    rw [List.drop_drop] at e4
    have hs := (scan_skip (l.drop (p + k)) (p + k)).1
    rw [List.drop_drop] at hs
    have hsl := skipN_le (l.drop (p + k)) false
    rw [List.length_drop] at hsl
    refine ⟨e1, e2, by omega, by omega, by rw [List.length_append]; simp; omega, fun c' r' hc' => ?_, ?_⟩
    · refine skip_stops (l.drop (p + k)) false c' r' ?_
      rw [List.drop_drop]; exact hc'
    · rw [hs, h4, e4]; simp
theorem LexAt.done {l : List UInt8} {T : List Tok} {p : Nat} (h : LexAt l T p) (hp : ¬ p < l.length) (hl : l.length ≤ 10000) : lexT l = T ++ [(4, [], 0, l.length)] ∧ lexE l = 0 ∧ lexP l = 0 := by
  obtain ⟨h1, h2, h3, h4⟩ := h
  rw [List.drop_of_length_le (by omega), scan_nil] at h4
  refine ⟨?_, ?_, ?_⟩
  · unfold lexT; rw [if_neg (by omega), h4]; simp
  · unfold lexE; rw [if_neg (by omega), h4]; simp
  · unfold lexP; rw [if_neg (by omega), h4]; rfl

/-- A token's box behind an append onto a row that is older. -/
theorem tok_later {w3 w4 : World} {base : Nat} {e : TypeId} {size : Nat} {v : Value} {n : Nat} {xs : List Value} {c0 c1 c2 c3 : Value} {t : TypeId} {o : Obj} (hown : w3.ownsRow base e size v n xs)
    (hg : World.grownBy ((w3.alloc (.cells #[c0, c1, c2, c3] t)).alloc o) w4 v.ownBlock) : w4.cell? ⟨w3.heap.size, 1, none⟩ = some c1 := by
  have hne : some w3.heap.size ≠ v.ownBlock := fun h => by have := (hown.lt _ h.symm).2; omega
  have h1 : w4.heap[w3.heap.size]? = some (.cells #[c0, c1, c2, c3] t (0, 0)) := by
    rw [hg.block w3.heap.size (by simp; omega) hne, Below.heap_alloc _ _ _ (by simp)]
    exact World.alloc_heap_new w3 _
  exact cell_of_row _ _ 1 _ _ _ h1

/-- What Lex tells. -/
def LexAs (l : List UInt8) (w : World) (e : Ending) (w' : World) : Prop :=
  ∃ A c, e = .returned (.tuple #[.slice A (lexT l).length c, .int .i64 (lexE l), .int .i64 (lexP l : Nat)]) ∧ CellsAt w' w'.heap.size A (toksCells (lexT l)) ∧ Below w.heap.size w w'

end Go.Proofs.Ytlfdpfkimggeoaa
