/-
  strings.Clone; the program's tokenAt.
-/
import Derived.Test.YtdmilbfdiebjgaaLxB
import Derived.Shelf.LaysM
import Derived.Shelf.Strconv.Clone
import Derived.Lib.Strings
namespace Go.Proofs.Ytdmilbfdiebjgaa
open Go.RowKit Go.Shelf

theorem len_data (s : ByteArray) : s.data.toList.length = s.size := Array.length_toList

theorem head_at (s : ByteArray) (h : 0 < s.size) : s.data.toList.head? = some s[0] := by
  have := byte_at s 0 0 h
  rw [List.drop_zero] at this
  rw [List.head?_eq_getElem?]
  exact this
theorem u8_is (c d : UInt8) (h : c.toNat = d.toNat) : c = d := by
  rw [← UInt8.ofNat_toNat (x := c), h, UInt8.ofNat_toNat]

set_option maxHeartbeats 800000 in
theorem Name_any (s : ByteArray) (hs : s.size ≤ 9223372036854775807) (w : World) :
    Calls Try.prog 77 #[.string s] w fun e w' => e = .returned (.bool (nameB s.data.toList)) ∧ w = w' := by
  have hsz := len_data s
  by_cases h0 : s.size = 0
  · have hl : s.toList = [] := by rw [ByteArray.toList_eq]; exact List.eq_nil_of_length_eq_zero (by omega)
    have hn : nameB s.data.toList = false := by rw [← ByteArray.toList_eq, hl]; rfl
    have hl' : (!s.toList.isEmpty) = false := by rw [hl]; rfl
    have HN := Lib.hid hn
    clear hn
    go_enter Try.func77, Try.ntmps77
    go_wp2
    go_ret
    exact ⟨ret_bool HN.out.symm, rfl⟩
  · have hpos : 0 < s.size := by omega
    have hne : s.data.toList ≠ [] := by intro e; rw [e] at hsz; simp at hsz; omega
    have hl : (s.toList == []) = false := by
      rw [ByteArray.toList_eq]
      cases hh : s.data.toList with
      | nil => exact absurd hh hne
      | cons c r => rfl
    have hl' : s.toList ≠ [] := by intro e; rw [e] at hl; simp at hl
    have hhd := head_at s hpos
    have hnm : nameB s.data.toList = (decide (s.size ≤ 12) && letB s[0] && !kwB s.data.toList && s.data.toList.all parB) := by
      cases hh : s.data.toList with
      | nil => exact absurd hh hne
      | cons c r =>
        rw [hh] at hhd hsz
        simp at hhd
        rw [nameB, hsz, ← hhd]
    have hwa := wordN_all s.data.toList
    rw [hsz] at hwa
    have HN := Lib.hid hnm
    have HW := Lib.hid hwa
    clear hhd hne hsz hnm hwa
    by_cases h12 : 12 < s.size
    · go_enter Try.func77, Try.ntmps77
      go_wp2
      go_ret
      exact ⟨ret_bool (by rw [HN.out, decide_eq_false (by omega)]; rfl), rfl⟩
    · obtain ⟨b, hb⟩ : ∃ b, letB s[0] = b := ⟨_, rfl⟩
      have HB := Lib.hid hb
      clear hb
      cases b
      · go_enter Try.func77, Try.ntmps77
        go_wp2_with (go_at_call 89; refine (isLetter_is _ _ HB _).mono ?_; rintro e w' ⟨rfl, rfl⟩)
        go_ret
        exact ⟨ret_bool (by rw [HN.out, HB.out]; simp), rfl⟩
      · obtain ⟨k, hk⟩ : ∃ k, kwB s.data.toList = k := ⟨_, rfl⟩
        have HK := Lib.hid hk
        clear hk
        cases k
        · have hwe := wordEnd_any s 0 hs (by omega) w
          rw [List.drop_zero, Nat.zero_add] at hwe
          have HE := Lib.hid hwe
          clear hwe
          go_enter Try.func77, Try.ntmps77
          go_wp2_with (first
            | (go_at_call 89; refine (isLetter_is _ _ HB _).mono ?_; rintro e w' ⟨rfl, rfl⟩)
            | (go_at_call 90; refine (Keyword_is _ _ HK _).mono ?_; rintro e w' ⟨rfl, rfl⟩)
            | (go_at_call 91; refine HE.out.mono ?_; rintro e w' ⟨rfl, rfl⟩))
          go_ret
          refine ⟨ret_bool ?_, rfl⟩
          have hw := HW.out
          rw [HN.out, HB.out, HK.out, decide_eq_true (by omega)]
          generalize s.data.toList.all parB = q at hw ⊢
          rw [Bool.eq_iff_iff]
          simp
          rw [← hw]
          omega
        · go_enter Try.func77, Try.ntmps77
          go_wp2_with (first
            | (go_at_call 89; refine (isLetter_is _ _ HB _).mono ?_; rintro e w' ⟨rfl, rfl⟩)
            | (go_at_call 90; refine (Keyword_is _ _ HK _).mono ?_; rintro e w' ⟨rfl, rfl⟩))
          go_ret
          exact ⟨ret_bool (by rw [HN.out, HB.out, HK.out]; simp), rfl⟩

end Go.Proofs.Ytdmilbfdiebjgaa
namespace Go.Proofs.Ytdmilbfdiebjgaa
open Go.RowKit Go.Shelf

/-- A token's box, later: its cells; it may be written. -/
theorem tokBox {w w1 w2 : World} {v0 v1 v2 v3 : Value} {t : TypeId} (h1 : w1 = w.alloc (.cells #[v0, v1, v2, v3] t)) (hb : Below w1.heap.size w1 w2) :
    w2.cell? ⟨w.heap.size, 0, none⟩ = some v0 ∧ w2.cell? ⟨w.heap.size, 1, none⟩ = some v1 ∧ w2.cell? ⟨w.heap.size, 2, none⟩ = some v2 ∧ w2.cell? ⟨w.heap.size, 3, none⟩ = some v3 ∧
    w2.frozen? ⟨w.heap.size, 0, none⟩ = false ∧ w2.frozen? ⟨w.heap.size, 1, none⟩ = false ∧ w2.frozen? ⟨w.heap.size, 2, none⟩ = false ∧ w2.frozen? ⟨w.heap.size, 3, none⟩ = false := by
  have hh : w2.heap[w.heap.size]? = some (.cells #[v0, v1, v2, v3] t (0, 0)) := by
    rw [hb.block w.heap.size (by rw [h1]; simp), h1]; exact World.alloc_heap_new w _
  refine ⟨cell_of_row _ _ 0 _ _ _ hh, cell_of_row _ _ 1 _ _ _ hh, cell_of_row _ _ 2 _ _ _ hh, cell_of_row _ _ 3 _ _ _ hh, ?_, ?_, ?_, ?_⟩ <;> simp [World.frozen?, hh]

/-- A token as a struct's fields. -/
def tokCells (t : Tok) : List Value := [.int .i64 t.1, .string ⟨t.2.1.toArray⟩, .int .i64 t.2.2.1, .int .i64 (t.2.2.2 : Int)]
def tokAgg (t : Tok) : Value := .agg (tokCells t).toArray

/-- The token that begins with a text's first byte; its kind is 0, if there is none. -/
def tokB (l : List UInt8) (p : Nat) : Tok :=
  if (l.getD 0 0).toNat = 59 then (3, [59], 0, p)
  else if kwB (l.take (wordN l)) = true ∨ nameB (l.take (wordN l)) = true then (1, l.take (wordN l), 0, p)
  else if 0 ≤ numB (l.take (wordN l)) then (2, l.take (wordN l), numB (l.take (wordN l)), p)
  else (0, [], 0, 0)

theorem word_text (s : ByteArray) (p : Nat) : s.extract p (p + wordN (s.data.toList.drop p)) = ⟨((s.data.toList.drop p).take (wordN (s.data.toList.drop p))).toArray⟩ := by
  rw [Lib.extract_eq, Nat.add_sub_cancel_left]
theorem word_data (s : ByteArray) (p : Nat) : (s.extract p (p + wordN (s.data.toList.drop p))).data.toList = (s.data.toList.drop p).take (wordN (s.data.toList.drop p)) := by
  rw [word_text]

theorem Name_is (s : ByteArray) (hs : s.size ≤ 9223372036854775807) (b : Bool) (H : Hid (nameB s.data.toList = b)) (w : World) :
    Calls Try.prog 77 #[.string s] w fun e w' => e = .returned (.bool b) ∧ w = w' :=
  (Name_any s hs w).mono fun _ _ ⟨he, hw⟩ => ⟨by rw [he, H.out], hw⟩

theorem tok_word (l : List UInt8) (p : Nat) (x : ByteArray) (h59 : ¬ (l.getD 0 0).toNat = 59) (hd : x.data.toList = l.take (wordN l)) (hx : x = ⟨(l.take (wordN l)).toArray⟩) (h : kwB x.data.toList = true ∨ nameB x.data.toList = true) :
    tokAgg (tokB l p) = .agg #[.int .i64 1, .string x, .int .i64 0, .int .i64 (p : Int)] := by
  rw [hd] at h
  unfold tokB
  rw [if_neg h59, if_pos h, hx]; rfl
theorem tok_num (l : List UInt8) (p : Nat) (x : ByteArray) (h59 : ¬ (l.getD 0 0).toNat = 59) (hd : x.data.toList = l.take (wordN l)) (hx : x = ⟨(l.take (wordN l)).toArray⟩) (hk : kwB x.data.toList = false) (hn : nameB x.data.toList = false)
    (q : Int) (hq : numB x.data.toList = q) (h0 : 0 ≤ q) : tokAgg (tokB l p) = .agg #[.int .i64 2, .string x, .int .i64 q, .int .i64 (p : Int)] := by
  rw [hd] at hk hn hq
  unfold tokB
  rw [if_neg h59, if_neg (by rw [hk, hn]; simp), hq, if_pos h0, hx]; rfl
theorem tok_none (l : List UInt8) (p : Nat) (x : ByteArray) (h59 : ¬ (l.getD 0 0).toNat = 59) (hd : x.data.toList = l.take (wordN l)) (hk : kwB x.data.toList = false) (hn : nameB x.data.toList = false)
    (q : Int) (hq : numB x.data.toList = q) (h0 : ¬ 0 ≤ q) : tokAgg (tokB l p) = .agg #[.int .i64 0, .string ⟨#[]⟩, .int .i64 0, .int .i64 0] := by
  rw [hd] at hk hn hq
  unfold tokB
  rw [if_neg h59, if_neg (by rw [hk, hn]; simp), hq, if_neg h0]; rfl

end Go.Proofs.Ytdmilbfdiebjgaa
