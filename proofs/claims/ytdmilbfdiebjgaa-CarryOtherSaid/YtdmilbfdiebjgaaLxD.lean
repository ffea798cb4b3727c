/-
  strings.Clone; the program's tokenAt.
-/
import Derived.Shelf.LaysM
import Derived.Shelf.Strconv.Clone
import Derived.Lib.Strings
import Derived.Test.YtdmilbfdiebjgaaLxC
namespace Go.Proofs.Ytdmilbfdiebjgaa
open Go.RowKit Go.Shelf

/-- A token's box, later: its cells; it may be written. -/
theorem tokBox {w w1 w2 : World} {v0 v1 v2 v3 : Value} {t : TypeId} (h1 : w1 = w.alloc (.cells #[v0, v1, v2, v3] t)) (hb : Below w1.heap.size w1 w2) :
    w2.cell? ⟨w.heap.size, 0, none⟩ = some v0 ∧ w2.cell? ⟨w.heap.size, 1, none⟩ = some v1 ∧ w2.cell? ⟨w.heap.size, 2, none⟩ = some v2 ∧ w2.cell? ⟨w.heap.size, 3, none⟩ = some v3 ∧
    w2.frozen? ⟨w.heap.size, 0, none⟩ = false ∧ w2.frozen? ⟨w.heap.size, 1, none⟩ = false ∧ w2.frozen? ⟨w.heap.size, 2, none⟩ = false ∧ w2.frozen? ⟨w.heap.size, 3, none⟩ = false := by
  have hh : w2.heap[w.heap.size]? = some (.cells #[v0, v1, v2, v3] t (0, 0)) := by
    rw [hb.block w.heap.size (by rw [h1]; simp), h1]; exact World.alloc_heap_new w _
  refine ⟨cell_of_row _ _ 0 _ _ _ hh, cell_of_row _ _ 1 _ _ _ hh, cell_of_row _ _ 2 _ _ _ hh, cell_of_row _ _ 3 _ _ _ hh, ?_, ?_, ?_, ?_⟩ <;> simp [World.frozen?, hh]

/-- A token as a struct's fields. -/
def tokCells (t : Tok) : List Value := [.int .i64 t.1, .string ⟨t.2.1.toArray⟩, .int .i64 t.2.2.1, .int .i64 (t.2.2.2 : Int)]
def tokAgg (t : Tok) : Value := .agg (tokCells t).toArray

/-- The token that begins with a text's first byte; its kind is 0, if there is none. -/
def tokB (l : List UInt8) (p : Nat) : Tok :=
  if (l.getD 0 0).toNat = 59 then (3, [59], 0, p)
  else if kwB (l.take (wordN l)) = true ∨ nameB (l.take (wordN l)) = true then (1, l.take (wordN l), 0, p)
  else if 0 ≤ numB (l.take (wordN l)) then (2, l.take (wordN l), numB (l.take (wordN l)), p)
  else (0, [], 0, 0)

theorem word_text (s : ByteArray) (p : Nat) : s.extract p (p + wordN (s.data.toList.drop p)) = ⟨((s.data.toList.drop p).take (wordN (s.data.toList.drop p))).toArray⟩ := by
  rw [Lib.extract_eq, Nat.add_sub_cancel_left]
theorem word_data (s : ByteArray) (p : Nat) : (s.extract p (p + wordN (s.data.toList.drop p))).data.toList = (s.data.toList.drop p).take (wordN (s.data.toList.drop p)) := by
  rw [word_text]

theorem Name_is (s : ByteArray) (hs : s.size ≤ 9223372036854775807) (b : Bool) (H : Hid (nameB s.data.toList = b)) (w : World) :
    Calls Try.prog 77 #[.string s] w fun e w' => e = .returned (.bool b) ∧ w = w' :=
  (Name_any s hs w).mono fun _ _ ⟨he, hw⟩ => ⟨by rw [he, H.out], hw⟩

theorem tok_word (l : List UInt8) (p : Nat) (x : ByteArray) (h59 : ¬ (l.getD 0 0).toNat = 59) (hd : x.data.toList = l.take (wordN l)) (hx : x = ⟨(l.take (wordN l)).toArray⟩) (h : kwB x.data.toList = true ∨ nameB x.data.toList = true) :
    tokAgg (tokB l p) = .agg #[.int .i64 1, .string x, .int .i64 0, .int .i64 (p : Int)] := by
  rw [hd] at h
  unfold tokB
  rw [if_neg h59, if_pos h, hx]; rfl
theorem tok_num (l : List UInt8) (p : Nat) (x : ByteArray) (h59 : ¬ (l.getD 0 0).toNat = 59) (hd : x.data.toList = l.take (wordN l)) (hx : x = ⟨(l.take (wordN l)).toArray⟩) (hk : kwB x.data.toList = false) (hn : nameB x.data.toList = false)
    (q : Int) (hq : numB x.data.toList = q) (h0 : 0 ≤ q) : tokAgg (tokB l p) = .agg #[.int .i64 2, .string x, .int .i64 q, .int .i64 (p : Int)] := by
  rw [hd] at hk hn hq
  unfold tokB
  rw [if_neg h59, if_neg (by rw [hk, hn]; simp), hq, if_pos h0, hx]; rfl
theorem tok_none (l : List UInt8) (p : Nat) (x : ByteArray) (h59 : ¬ (l.getD 0 0).toNat = 59) (hd : x.data.toList = l.take (wordN l)) (hk : kwB x.data.toList = false) (hn : nameB x.data.toList = false)
    (q : Int) (hq : numB x.data.toList = q) (h0 : ¬ 0 ≤ q) : tokAgg (tokB l p) = .agg #[.int .i64 0, .string ⟨#[]⟩, .int .i64 0, .int .i64 0] := by
  rw [hd] at hk hn hq
  unfold tokB
  rw [if_neg h59, if_neg (by rw [hk, hn]; simp), hq, if_neg h0]; rfl

end Go.Proofs.Ytdmilbfdiebjgaa
