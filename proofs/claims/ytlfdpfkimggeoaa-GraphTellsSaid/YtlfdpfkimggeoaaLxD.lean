/-
  strings.Clone; the program's tokenAt.
-/
import Derived.Test.YtlfdpfkimggeoaaLxMath
import Derived.Test.YtlfdpfkimggeoaaBase
import Derived.RangeFuncBox
import Derived.Shelf.Abstract
import Derived.Test.YtlfdpfkimggeoaaLxMathB
import Derived.Shelf.LaysM
import Derived.Shelf.Strconv.Clone
import Derived.Lib.Strings
namespace Go.Proofs.Ytlfdpfkimggeoaa
open Go.RowKit

theorem isLetter_any (c : UInt8) (w : World) :
    Calls Try.prog 78 #[.int .u8 (c.toNat : Int)] w fun e w' => e = .returned (.bool (letB c)) ∧ w = w' := by
  go_enter Try.func78, Try.ntmps78
  go_wp2
  all_goals
    go_ret
    exact ⟨ret_bool (by rw [Bool.eq_iff_iff]; simp [letB]; omega), rfl⟩
theorem isLetter_is (c : UInt8) (b : Bool) (H : Hid (letB c = b)) (w : World) :
    Calls Try.prog 78 #[.int .u8 (c.toNat : Int)] w fun e w' => e = .returned (.bool b) ∧ w = w' :=
  (isLetter_any c w).mono fun _ _ ⟨he, hw⟩ => ⟨by rw [he, H.out], hw⟩

theorem isDigit_any (c : UInt8) (w : World) :
    Calls Try.prog 90 #[.int .u8 (c.toNat : Int)] w fun e w' => e = .returned (.bool (digB c)) ∧ w = w' := by
  go_enter Try.func90, Try.ntmps90
  go_wp2
  all_goals
    go_ret
    exact ⟨ret_bool (by rw [Bool.eq_iff_iff]; simp [digB]; omega), rfl⟩
theorem isDigit_is (c : UInt8) (b : Bool) (H : Hid (digB c = b)) (w : World) :
    Calls Try.prog 90 #[.int .u8 (c.toNat : Int)] w fun e w' => e = .returned (.bool b) ∧ w = w' :=
  (isDigit_any c w).mono fun _ _ ⟨he, hw⟩ => ⟨by rw [he, H.out], hw⟩

set_option maxRecDepth 100000 in
set_option maxHeartbeats 1000000 in
theorem Keyword_any (s : ByteArray) (w : World) :
    Calls Try.prog 79 #[.string s] w fun e w' => e = .returned (.bool (kwB s.data.toList)) ∧ w = w' := by
  go_enter Try.func79, Try.ntmps79
  go_wp2
  all_goals
    go_ret
    refine ⟨ret_bool ?_, rfl⟩
    rw [← ByteArray.toList_eq]
    simp only [kwB, kws, List.contains_cons, List.contains_nil, Bool.or_false]
    simp only [*, Bool.true_or, Bool.or_true, Bool.false_or, reduceCtorEq] at *

theorem wordEnd1_any (c : UInt8) (w : World) :
    Calls Try.prog 89 #[.int .u8 (c.toNat : Int)] w fun e w' => e = .returned (.bool (parB c)) ∧ w = w' := by
  obtain ⟨l, hl⟩ : ∃ l, letB c = l := ⟨_, rfl⟩
  obtain ⟨d, hd⟩ : ∃ d, digB c = d := ⟨_, rfl⟩
  have HL := Lib.hid hl
  have HD := Lib.hid hd
  clear hl hd
  cases l <;> cases d
  all_goals
    go_enter Try.func89, Try.ntmps89
    go_wp2_with (first
      | (go_at_call 78; refine (isLetter_is _ _ HL _).mono ?_; rintro e w' ⟨rfl, rfl⟩)
      | (go_at_call 90; refine (isDigit_is _ _ HD _).mono ?_; rintro e w' ⟨rfl, rfl⟩))
    all_goals
      go_ret
      exact ⟨ret_bool (by unfold parB; rw [HL.out, HD.out, Bool.eq_iff_iff]; simp; try omega), rfl⟩

end Go.Proofs.Ytlfdpfkimggeoaa
namespace Go.Proofs.Ytlfdpfkimggeoaa
open Go.RowKit Go.Shelf

theorem Keyword_is (s : ByteArray) (b : Bool) (H : Hid (kwB s.data.toList = b)) (w : World) :
    Calls Try.prog 79 #[.string s] w fun e w' => e = .returned (.bool b) ∧ w = w' :=
  (Keyword_any s w).mono fun _ _ ⟨he, hw⟩ => ⟨by rw [he, H.out], hw⟩

/-- What a closure over one cell, or none, tells of the k-th byte of a run. -/
def TellsRun (g : Nat) (caps : Array Value) (s : ByteArray) (p : Nat) (T : Nat → Bool) (J : Nat → World → Prop) : Prop :=
  ∀ (k : Nat) (h : p + k < s.size) (W : World), J k W → Calls Try.prog g (#[.int .u8 (s[p + k].toNat : Int)] ++ caps) W fun e W' => e = .returned (.bool (T k)) ∧ J (k + 1) W'
/-- Where a run ends. -/
def RanTo (s : ByteArray) (p : Nat) (T : Nat → Bool) (J : Nat → World → Prop) (e : Ending) (W' : World) : Prop :=
  ∃ m : Nat, e = .returned (.int .i64 ((p + m : Nat) : Int)) ∧ p + m ≤ s.size ∧ (∀ j, j < m → T j = true) ∧ ((p + m = s.size ∧ J m W') ∨ (p + m < s.size ∧ T m = false ∧ J (m + 1) W'))

set_option maxHeartbeats 400000 in
theorem runEnd_any (g : Nat) (eg : ∀ args w, (callFunc g args).run Try.prog w = .ok (.enter g args) w) (caps : Array Value) (s : ByteArray) (p : Nat) (T : Nat → Bool) (J : Nat → World → Prop) (hs : s.size ≤ 9223372036854775807) (hp : p ≤ s.size)
    (hT : TellsRun g caps s p T J) (w : World) (h0 : J 0 w) :
    Calls Try.prog 88 #[.string s, .int .i64 (p : Int), .func (.func g) #[] caps] w (RanTo s p T J) := by
  go_enter Try.func88, Try.ntmps88
  go_wp2
  go_loopw [1] (fun i wr => ∃ m : Nat, p + m ≤ s.size ∧ i = .int .i64 ((p + m : Nat) : Int) ∧ (∀ j, j < m → T j = true) ∧ J m wr) (fun i _ => s.size - (intOf i).toNat)
  case atStart => exact ⟨0, hp, rfl, fun j h => absurd h (by omega), h0⟩
  case round =>
    obtain ⟨m, hm, rfl, hj, hJ⟩ := hrel
    have HJ := Lib.hid hj
    clear hj
    by_cases hlt : p + m < s.size
    · obtain ⟨t, ht⟩ : ∃ t, T m = t := ⟨_, rfl⟩
      have hcall := hT m hlt wr hJ
      rw [ht] at hcall
      have HT := Lib.hid ht
      clear ht hT
      cases t
      · go_wp2_with (refine hcall.mono ?_; rintro e w2 ⟨rfl, hJ2⟩)
        go_ret
        exact ⟨m, rfl, hm, HJ.out, .inr ⟨hlt, HT.out, hJ2⟩⟩
      · go_wp2_with (refine hcall.mono ?_; rintro e w2 ⟨rfl, hJ2⟩)
        go_roundw
        case rel => exact ⟨m + 1, by omega, by go_num, fun j h => by rcases Nat.lt_or_ge j m with h' | h'; exact HJ.out j h'; exact (show j = m by omega) ▸ HT.out, hJ2⟩
        case measure => simp [intOf]; omega
    · go_wp2
      go_ret
      exact ⟨m, rfl, hm, HJ.out, .inl ⟨by omega, hJ⟩⟩

/-- The end of a run of what a word is of. -/
theorem run_of_take (l : List UInt8) (m : Nat) (h1 : ∀ j, j < m → ∀ c, l[j]? = some c → parB c = true) (hm : m ≤ l.length) (h2 : m = l.length ∨ ∃ c, l[m]? = some c ∧ parB c = false) : wordN l = m := by
  induction l generalizing m with
  | nil => simp at hm; subst hm; rfl
  | cons c r ih =>
    cases m with
    | zero =>
      rcases h2 with h2 | ⟨d, hd, hp⟩
      · simp at h2
      · simp at hd; subst hd; unfold wordN; rw [List.takeWhile_cons]; simp [hp]
    | succ m =>
      have hp := h1 0 (by omega) c rfl
      have := ih m (fun j hj d hd => h1 (j + 1) (by omega) d (by simpa using hd)) (by simpa using hm) (by
        rcases h2 with h2 | ⟨d, hd, hp⟩
        · left; simpa using h2
        · right; exact ⟨d, by simpa using hd, hp⟩)
      unfold wordN at this ⊢
      rw [List.takeWhile_cons, hp]; simp [this]

theorem byte_at (s : ByteArray) (p k : Nat) (h : p + k < s.size) : (s.data.toList.drop p)[k]? = some s[p + k] := by
  rw [List.getElem?_drop]
  have : s.data.toList[p + k]? = some s.data[p + k] := by
    rw [Array.getElem?_toList, Array.getElem?_eq_getElem h]
  rw [this]; rfl

theorem byteD (s : ByteArray) (p k : Nat) (h : p + k < s.size) : (s.data.toList.drop p).getD k 0 = s[p + k] := by
  rw [List.getD_eq_getElem?_getD, byte_at s p k h]; rfl

theorem wordEnd_any (s : ByteArray) (p : Nat) (hs : s.size ≤ 9223372036854775807) (hp : p ≤ s.size) (w : World) :
    Calls Try.prog 80 #[.string s, .int .i64 (p : Int)] w fun e w' => e = .returned (.int .i64 ((p + wordN (s.data.toList.drop p) : Nat) : Int)) ∧ w = w' := by
  have hrun := runEnd_any 89 (enters_of Try.func89 (by kernel_rfl) rfl) #[] s p (fun k => parB ((s.data.toList.drop p).getD k 0)) (fun _ W => w = W) hs hp
    (fun k h W hW => (wordEnd1_any _ _).mono fun e W' ⟨he, hw⟩ => ⟨by show e = .returned (.bool (parB ((s.data.toList.drop p).getD k 0))); rw [he, byteD s p k h], hW.trans hw⟩) w rfl
  have HR := Lib.hid hrun
  clear hrun
  go_enter Try.func80, Try.ntmps80
  go_wp2_with (go_at_call 88; refine HR.out.mono ?_; rintro e w' ⟨m, rfl, h1, h2, h3⟩; have H2 := Lib.hid h2; have H3 := Lib.hid h3; clear h2 h3)
  go_ret
  have h2 := H2.out
  have hsz : s.data.toList.length = s.size := Array.length_toList
  have hw : w = w' := by rcases H3.out with ⟨_, h⟩ | ⟨_, _, h⟩ <;> exact h
  refine ⟨ret_int ?_, hw⟩
  have hr : wordN (s.data.toList.drop p) = m := by
    refine run_of_take (s.data.toList.drop p) m ?_ (by rw [List.length_drop]; omega) ?_
    · intro j hj c hc
      have h := h2 j hj
      rw [byteD s p j (by omega)] at h
      rw [byte_at s p j (by omega)] at hc
      injection hc with hc
      rw [← hc]; exact h
    · rcases H3.out with ⟨h, _⟩ | ⟨h, h', _⟩
      · left; rw [List.length_drop]; omega
      · right
        rw [byteD s p m h] at h'
        exact ⟨_, byte_at s p m h, h'⟩
  rw [hr]; omega

theorem nat_int (a b : Nat) : decide (a = b) = decide ((a : Int) = (b : Int)) := decide_eq_decide.2 ⟨fun h => by rw [h], fun h => by omega⟩
theorem comS_int (m : Bool) (c : UInt8) : comS m c = (decide ((c.toNat : Int) = 35) || (m && !decide ((c.toNat : Int) = 10))) := by unfold comS; rw [nat_int, nat_int]; rfl
theorem blaB_int (c : UInt8) : blaB c = (decide ((c.toNat : Int) = 32) || decide ((c.toNat : Int) = 9) || decide ((c.toNat : Int) = 10)) := by unfold blaB; rw [nat_int, nat_int, nat_int]; rfl

end Go.Proofs.Ytlfdpfkimggeoaa
namespace Go.Proofs.Ytlfdpfkimggeoaa
open Go.RowKit Go.Shelf

theorem len_data (s : ByteArray) : s.data.toList.length = s.size := Array.length_toList

theorem head_at (s : ByteArray) (h : 0 < s.size) : s.data.toList.head? = some s[0] := by
  have := byte_at s 0 0 h
  rw [List.drop_zero] at this
  rw [List.head?_eq_getElem?]
  exact this
theorem u8_is (c d : UInt8) (h : c.toNat = d.toNat) : c = d := by
  rw [← UInt8.ofNat_toNat (x := c), h, UInt8.ofNat_toNat]

set_option maxHeartbeats 800000 in
theorem Name_any (s : ByteArray) (hs : s.size ≤ 9223372036854775807) (w : World) :
    Calls Try.prog 67 #[.string s] w fun e w' => e = .returned (.bool (nameB s.data.toList)) ∧ w = w' := by
  have hsz := len_data s
  by_cases h0 : s.size = 0
  · have hl : s.toList = [] := by rw [ByteArray.toList_eq]; exact List.eq_nil_of_length_eq_zero (by omega)
    have hn : nameB s.data.toList = false := by rw [← ByteArray.toList_eq, hl]; rfl
    have hl' : (!s.toList.isEmpty) = false := by rw [hl]; rfl
    have HN := Lib.hid hn
    clear hn
    go_enter Try.func67, Try.ntmps67
    go_wp2
    go_ret
    exact ⟨ret_bool HN.out.symm, rfl⟩
  · have hpos : 0 < s.size := by omega
    have hne : s.data.toList ≠ [] := by intro e; rw [e] at hsz; simp at hsz; omega
    have hl : (s.toList == []) = false := by
      rw [ByteArray.toList_eq]
      cases hh : s.data.toList with
      | nil => exact absurd hh hne
      | cons c r => rfl
    have hl' : s.toList ≠ [] := by intro e; rw [e] at hl; simp at hl
    have hhd := head_at s hpos
    have hnm : nameB s.data.toList = (decide (s.size ≤ 12) && letB s[0] && !kwB s.data.toList && s.data.toList.all parB) := by
      cases hh : s.data.toList with
      | nil => exact absurd hh hne
      | cons c r =>
        rw [hh] at hhd hsz
        simp at hhd
        rw [nameB, hsz, ← hhd]
    have hwa := wordN_all s.data.toList
    rw [hsz] at hwa
    have HN := Lib.hid hnm
    have HW := Lib.hid hwa
    clear hhd hne hsz hnm hwa
    by_cases h12 : 12 < s.size
    · go_enter Try.func67, Try.ntmps67
      go_wp2
      go_ret
      exact ⟨ret_bool (by rw [HN.out, decide_eq_false (by omega)]; rfl), rfl⟩
    · obtain ⟨b, hb⟩ : ∃ b, letB s[0] = b := ⟨_, rfl⟩
      have HB := Lib.hid hb
      clear hb
      cases b
      · go_enter Try.func67, Try.ntmps67
        go_wp2_with (go_at_call 78; refine (isLetter_is _ _ HB _).mono ?_; rintro e w' ⟨rfl, rfl⟩)
        go_ret
        exact ⟨ret_bool (by rw [HN.out, HB.out]; simp), rfl⟩
      · obtain ⟨k, hk⟩ : ∃ k, kwB s.data.toList = k := ⟨_, rfl⟩
        have HK := Lib.hid hk
        clear hk
        cases k
        · have hwe := wordEnd_any s 0 hs (by omega) w
          rw [List.drop_zero, Nat.zero_add] at hwe
          have HE := Lib.hid hwe
          clear hwe
          go_enter Try.func67, Try.ntmps67
          go_wp2_with (first
            | (go_at_call 78; refine (isLetter_is _ _ HB _).mono ?_; rintro e w' ⟨rfl, rfl⟩)
            | (go_at_call 79; refine (Keyword_is _ _ HK _).mono ?_; rintro e w' ⟨rfl, rfl⟩)
            | (go_at_call 80; refine HE.out.mono ?_; rintro e w' ⟨rfl, rfl⟩))
          go_ret
          refine ⟨ret_bool ?_, rfl⟩
          have hw := HW.out
          rw [HN.out, HB.out, HK.out, decide_eq_true (by omega)]
          generalize s.data.toList.all parB = q at hw ⊢
          rw [Bool.eq_iff_iff]
          simp
          rw [← hw]
          omega
        · go_enter Try.func67, Try.ntmps67
          go_wp2_with (first
            | (go_at_call 78; refine (isLetter_is _ _ HB _).mono ?_; rintro e w' ⟨rfl, rfl⟩)
            | (go_at_call 79; refine (Keyword_is _ _ HK _).mono ?_; rintro e w' ⟨rfl, rfl⟩))
          go_ret
          exact ⟨ret_bool (by rw [HN.out, HB.out, HK.out]; simp), rfl⟩

end Go.Proofs.Ytlfdpfkimggeoaa
namespace Go.Proofs.Ytlfdpfkimggeoaa
open Go.RowKit Go.Shelf

/-- A token's box, later: its cells; it may be written. -/
theorem tokBox {w w1 w2 : World} {v0 v1 v2 v3 : Value} {t : TypeId} (h1 : w1 = w.alloc (.cells #[v0, v1, v2, v3] t)) (hb : Below w1.heap.size w1 w2) :
    w2.cell? ⟨w.heap.size, 0, none⟩ = some v0 ∧ w2.cell? ⟨w.heap.size, 1, none⟩ = some v1 ∧ w2.cell? ⟨w.heap.size, 2, none⟩ = some v2 ∧ w2.cell? ⟨w.heap.size, 3, none⟩ = some v3 ∧
    w2.frozen? ⟨w.heap.size, 0, none⟩ = false ∧ w2.frozen? ⟨w.heap.size, 1, none⟩ = false ∧ w2.frozen? ⟨w.heap.size, 2, none⟩ = false ∧ w2.frozen? ⟨w.heap.size, 3, none⟩ = false := by
  have hh : w2.heap[w.heap.size]? = some (.cells #[v0, v1, v2, v3] t (0, 0)) := by
    rw [hb.block w.heap.size (by rw [h1]; simp), h1]; exact World.alloc_heap_new w _
  refine ⟨cell_of_row _ _ 0 _ _ _ hh, cell_of_row _ _ 1 _ _ _ hh, cell_of_row _ _ 2 _ _ _ hh, cell_of_row _ _ 3 _ _ _ hh, ?_, ?_, ?_, ?_⟩ <;> simp [World.frozen?, hh]

/-- A token as a struct's fields. -/
def tokCells (t : Tok) : List Value := [.int .i64 t.1, .string ⟨t.2.1.toArray⟩, .int .i64 t.2.2.1, .int .i64 (t.2.2.2 : Int)]
def tokAgg (t : Tok) : Value := .agg (tokCells t).toArray

/-- The token that begins with a text's first byte; its kind is 0, if there is none. -/
def tokB (l : List UInt8) (p : Nat) : Tok :=
  if (l.getD 0 0).toNat = 59 then (3, [59], 0, p)
  else if kwB (l.take (wordN l)) = true ∨ nameB (l.take (wordN l)) = true then (1, l.take (wordN l), 0, p)
  else if 0 ≤ numB (l.take (wordN l)) then (2, l.take (wordN l), numB (l.take (wordN l)), p)
  else (0, [], 0, 0)

theorem word_text (s : ByteArray) (p : Nat) : s.extract p (p + wordN (s.data.toList.drop p)) = ⟨((s.data.toList.drop p).take (wordN (s.data.toList.drop p))).toArray⟩ := by
  rw [Lib.extract_eq, Nat.add_sub_cancel_left]
theorem word_data (s : ByteArray) (p : Nat) : (s.extract p (p + wordN (s.data.toList.drop p))).data.toList = (s.data.toList.drop p).take (wordN (s.data.toList.drop p)) := by
  rw [word_text]

theorem Name_is (s : ByteArray) (hs : s.size ≤ 9223372036854775807) (b : Bool) (H : Hid (nameB s.data.toList = b)) (w : World) :
    Calls Try.prog 67 #[.string s] w fun e w' => e = .returned (.bool b) ∧ w = w' :=
  (Name_any s hs w).mono fun _ _ ⟨he, hw⟩ => ⟨by rw [he, H.out], hw⟩

theorem tok_word (l : List UInt8) (p : Nat) (x : ByteArray) (h59 : ¬ (l.getD 0 0).toNat = 59) (hd : x.data.toList = l.take (wordN l)) (hx : x = ⟨(l.take (wordN l)).toArray⟩) (h : kwB x.data.toList = true ∨ nameB x.data.toList = true) :
    tokAgg (tokB l p) = .agg #[.int .i64 1, .string x, .int .i64 0, .int .i64 (p : Int)] := by
  rw [hd] at h
  unfold tokB
  rw [if_neg h59, if_pos h, hx]; rfl
theorem tok_num (l : List UInt8) (p : Nat) (x : ByteArray) (h59 : ¬ (l.getD 0 0).toNat = 59) (hd : x.data.toList = l.take (wordN l)) (hx : x = ⟨(l.take (wordN l)).toArray⟩) (hk : kwB x.data.toList = false) (hn : nameB x.data.toList = false)
    (q : Int) (hq : numB x.data.toList = q) (h0 : 0 ≤ q) : tokAgg (tokB l p) = .agg #[.int .i64 2, .string x, .int .i64 q, .int .i64 (p : Int)] := by
  rw [hd] at hk hn hq
  unfold tokB
  rw [if_neg h59, if_neg (by rw [hk, hn]; simp), hq, if_pos h0, hx]; rfl
theorem tok_none (l : List UInt8) (p : Nat) (x : ByteArray) (h59 : ¬ (l.getD 0 0).toNat = 59) (hd : x.data.toList = l.take (wordN l)) (hk : kwB x.data.toList = false) (hn : nameB x.data.toList = false)
    (q : Int) (hq : numB x.data.toList = q) (h0 : ¬ 0 ≤ q) : tokAgg (tokB l p) = .agg #[.int .i64 0, .string ⟨#[]⟩, .int .i64 0, .int .i64 0] := by
  rw [hd] at hk hn hq
  unfold tokB
  rw [if_neg h59, if_neg (by rw [hk, hn]; simp), hq, if_neg h0]; rfl

end Go.Proofs.Ytlfdpfkimggeoaa
