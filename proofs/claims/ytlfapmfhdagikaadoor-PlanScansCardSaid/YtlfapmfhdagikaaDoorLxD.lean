/-
  strings.Clone; the program's tokenAt.
-/
import Derived.Shelf.LaysM
import Derived.Shelf.Strconv.Clone
import Derived.Lib.Strings
import Derived.Test.YtlfapmfhdagikaaDoorLxC
namespace Go.Proofs.YtlfapmfhdagikaaDoor
open Go.RowKit Go.Shelf

def laysClone_ren : Go.Shelf.Ren := ⟨fun | 316 => 83 | n => n, fun | 9 => 9 | 3 => 3 | 4 => 4 | 37 => 58 | 0 => 0 | 127 => 96 | 5 => 5 | n => n, fun | n => n⟩
theorem laysClone : Go.Proofs.LaysM.n316 Tryd.prog laysClone_ren := {
  mixed := by kernel_rfl
  f316 := Tryd.func83.trans (congrArg some (by kernel_rfl))
  t0 := Tryd.underlying0
  a0 := Tryd.isAgg0
  z0 := Tryd.sizeOf0
  v0 := Tryd.zeroValue0
  t3 := Tryd.underlying3
  a3 := Tryd.isAgg3
  z3 := Tryd.sizeOf3
  v3 := Tryd.zeroValue3
  t4 := Tryd.underlying4
  a4 := Tryd.isAgg4
  z4 := Tryd.sizeOf4
  v4 := Tryd.zeroValue4
  t9 := Tryd.underlying9
  a9 := Tryd.isAgg9
  z9 := Tryd.sizeOf9
  v9 := Tryd.zeroValue9
  t37 := Tryd.underlying58
  a37 := Tryd.isAgg58
  z37 := Tryd.sizeOf58
  v37 := Tryd.zeroValue58
  t127 := Tryd.underlying96
  a127 := Tryd.isAgg96
  z127 := Tryd.sizeOf96
  v127 := Tryd.zeroValue96
  t5 := Tryd.underlying5
  a5 := Tryd.isAgg5
  z5 := Tryd.sizeOf5
  v5 := Tryd.zeroValue5
  i0 := by kernel_rfl
  i3 := by kernel_rfl
  i4 := by kernel_rfl
  i5 := by kernel_rfl
  i9 := by kernel_rfl
  i37 := by kernel_rfl
  i127 := by kernel_rfl }
theorem cloneIn_any (s : ByteArray) (w : World) (hlim : s.size ≤ 281474976710656) :
    Calls Tryd.prog 83 #[.string s] w fun e w' => e = .returned (.string s) ∧ Below w.heap.size w w' := Any.stringslite_Clone laysClone s w hlim
theorem Clone_any (s : ByteArray) (w : World) (hlim : s.size ≤ 281474976710656) :
    Calls Tryd.prog 72 #[.string s] w fun e w' => e = .returned (.string s) ∧ Below w.heap.size w w' := by
  have H := Lib.hid (cloneIn_any s w hlim)
  go_enter Tryd.func72, Tryd.ntmps72
  go_wp2_with (go_at_call 83; refine H.out.mono ?_; rintro e w' ⟨rfl, hb⟩)
  go_ret
  exact ⟨rfl, hb⟩

/-- A token's box, later: its cells; it may be written. -/
theorem tokBox {w w1 w2 : World} {v0 v1 v2 v3 : Value} {t : TypeId} (h1 : w1 = w.alloc (.cells #[v0, v1, v2, v3] t)) (hb : Below w1.heap.size w1 w2) :
    w2.cell? ⟨w.heap.size, 0, none⟩ = some v0 ∧ w2.cell? ⟨w.heap.size, 1, none⟩ = some v1 ∧ w2.cell? ⟨w.heap.size, 2, none⟩ = some v2 ∧ w2.cell? ⟨w.heap.size, 3, none⟩ = some v3 ∧
    w2.frozen? ⟨w.heap.size, 0, none⟩ = false ∧ w2.frozen? ⟨w.heap.size, 1, none⟩ = false ∧ w2.frozen? ⟨w.heap.size, 2, none⟩ = false ∧ w2.frozen? ⟨w.heap.size, 3, none⟩ = false := by
  have hh : w2.heap[w.heap.size]? = some (.cells #[v0, v1, v2, v3] t (0, 0)) := by
    rw [hb.block w.heap.size (by rw [h1]; simp), h1]; exact World.alloc_heap_new w _
  refine ⟨cell_of_row _ _ 0 _ _ _ hh, cell_of_row _ _ 1 _ _ _ hh, cell_of_row _ _ 2 _ _ _ hh, cell_of_row _ _ 3 _ _ _ hh, ?_, ?_, ?_, ?_⟩ <;> simp [World.frozen?, hh]

/-- A token as a struct's fields. -/
def tokCells (t : Tok) : List Value := [.int .i64 t.1, .string ⟨t.2.1.toArray⟩, .int .i64 t.2.2.1, .int .i64 (t.2.2.2 : Int)]
def tokAgg (t : Tok) : Value := .agg (tokCells t).toArray

/-- The token that begins with a text's first byte; its kind is 0, if there is none. -/
def tokB (l : List UInt8) (p : Nat) : Tok :=
  if (l.getD 0 0).toNat = 59 then (3, [59], 0, p)
  else if kwB (l.take (wordN l)) = true ∨ nameB (l.take (wordN l)) = true then (1, l.take (wordN l), 0, p)
  else if 0 ≤ numB (l.take (wordN l)) then (2, l.take (wordN l), numB (l.take (wordN l)), p)
  else (0, [], 0, 0)

theorem word_text (s : ByteArray) (p : Nat) : s.extract p (p + wordN (s.data.toList.drop p)) = ⟨((s.data.toList.drop p).take (wordN (s.data.toList.drop p))).toArray⟩ := by
  rw [Lib.extract_eq, Nat.add_sub_cancel_left]
theorem word_data (s : ByteArray) (p : Nat) : (s.extract p (p + wordN (s.data.toList.drop p))).data.toList = (s.data.toList.drop p).take (wordN (s.data.toList.drop p)) := by
  rw [word_text]

theorem Name_is (s : ByteArray) (hs : s.size ≤ 9223372036854775807) (b : Bool) (H : Hid (nameB s.data.toList = b)) (w : World) :
    Calls Tryd.prog 59 #[.string s] w fun e w' => e = .returned (.bool b) ∧ w = w' :=
  (Name_any s hs w).mono fun _ _ ⟨he, hw⟩ => ⟨by rw [he, H.out], hw⟩

theorem Number_is (s : ByteArray) (hs : s.size ≤ 9223372036854775807) (q : Int) (H : Hid (numB s.data.toList = q)) (w : World) :
    Calls Tryd.prog 73 #[.string s] w fun e w' => e = .returned (.int .i64 q) ∧ Below w.heap.size w w' :=
  (Number_any s hs w).mono fun _ _ ⟨he, hw⟩ => ⟨by rw [he, H.out], hw⟩

theorem tok_word (l : List UInt8) (p : Nat) (x : ByteArray) (h59 : ¬ (l.getD 0 0).toNat = 59) (hd : x.data.toList = l.take (wordN l)) (hx : x = ⟨(l.take (wordN l)).toArray⟩) (h : kwB x.data.toList = true ∨ nameB x.data.toList = true) :
    tokAgg (tokB l p) = .agg #[.int .i64 1, .string x, .int .i64 0, .int .i64 (p : Int)] := by
  rw [hd] at h
  unfold tokB
  rw [if_neg h59, if_pos h, hx]; rfl
theorem tok_num (l : List UInt8) (p : Nat) (x : ByteArray) (h59 : ¬ (l.getD 0 0).toNat = 59) (hd : x.data.toList = l.take (wordN l)) (hx : x = ⟨(l.take (wordN l)).toArray⟩) (hk : kwB x.data.toList = false) (hn : nameB x.data.toList = false)
    (q : Int) (hq : numB x.data.toList = q) (h0 : 0 ≤ q) : tokAgg (tokB l p) = .agg #[.int .i64 2, .string x, .int .i64 q, .int .i64 (p : Int)] := by
  rw [hd] at hk hn hq
  unfold tokB
  rw [if_neg h59, if_neg (by rw [hk, hn]; simp), hq, if_pos h0, hx]; rfl
theorem tok_none (l : List UInt8) (p : Nat) (x : ByteArray) (h59 : ¬ (l.getD 0 0).toNat = 59) (hd : x.data.toList = l.take (wordN l)) (hk : kwB x.data.toList = false) (hn : nameB x.data.toList = false)
    (q : Int) (hq : numB x.data.toList = q) (h0 : ¬ 0 ≤ q) : tokAgg (tokB l p) = .agg #[.int .i64 0, .string ⟨#[]⟩, .int .i64 0, .int .i64 0] := by
  rw [hd] at hk hn hq
  unfold tokB
  rw [if_neg h59, if_neg (by rw [hk, hn]; simp), hq, if_neg h0]; rfl

set_option maxHeartbeats 2000000 in
theorem tokenAt_any (s : ByteArray) (p : Nat) (hs : s.size ≤ 10000) (hp : p < s.size) (w : World) :
    Calls Tryd.prog 55 #[.string s, .int .i64 (p : Int)] w fun e w' => e = .returned (tokAgg (tokB (s.data.toList.drop p) p)) ∧ Below w.heap.size w w' := by
  have hsz := len_data s
  have hby := byteD s p 0 hp
  simp only [Nat.add_zero] at hby
  have hwl := wordN_le (s.data.toList.drop p)
  rw [List.length_drop, hsz] at hwl
  have HBY := Lib.hid hby
  by_cases h59 : s[p].toNat = 59
  · have htk : tokB (s.data.toList.drop p) p = (3, [59], 0, p) := by unfold tokB; rw [hby, if_pos h59]
    have HT := Lib.hid htk
    clear htk hby
    go_enter Tryd.func55, Tryd.ntmps55
    go_wp2
    refine bodyPost_ret (v := .agg #[.int .i64 3, .string ⟨#[59]⟩, .int .i64 0, .int .i64 (p : Int)]) (by simp [results, Tryd.results55, go_sem]) rfl ⟨by rw [HT.out]; rfl, ?_⟩
    exact (Below.refl _ w).alloc (Nat.le_refl _) _
  · have hwe := wordEnd_any s p (by omega) (by omega) 
    have HWE := Lib.hid hwe
    obtain ⟨n, hn⟩ : ∃ n, wordN (s.data.toList.drop p) = n := ⟨_, rfl⟩
    have hwd := word_data s p
    have hwt := word_text s p
    have h59' : ¬ ((s[p].toNat : Int) = 59) := by omega
    obtain ⟨x, hx⟩ : ∃ x, s.extract p (p + wordN (s.data.toList.drop p)) = x := ⟨_, rfl⟩
    have hxs : x.size ≤ 10000 := by rw [← hx, ByteArray.size_extract]; omega
    rw [hx] at hwd hwt
    have HWD := Lib.hid hwd
    have HWT := Lib.hid hwt
    have HX := Lib.hid hx
    have HN := Lib.hid hn
    rw [hn] at hwl
    rw [hn] at hx
    have hpn : p + n ≤ s.size := by omega
    have hsl : ∀ W : World, (Instr.slice 9 (.string s) (some (.int .i64 (p : Int))) (some (.int .i64 ((p : Int) + (n : Int)))) none).run Tryd.prog W = .ok (.string x) W := fun W => by
      rw [run_slice_string W 9 s .i64 .i64 (p : Int) ((p : Int) + (n : Int)) Tryd.underlying9 (by omega) (by omega) (by omega), ← hx]
      rfl
    clear hby hsz hwe hwd hwt h59 hn hwl hx
    obtain ⟨k, hk⟩ : ∃ k, kwB x.data.toList = k := ⟨_, rfl⟩
    obtain ⟨m, hm⟩ : ∃ m, nameB x.data.toList = m := ⟨_, rfl⟩
    have HK := Lib.hid hk
    have HM := Lib.hid hm
    clear hk hm
    have hb0 := (Below.refl w.heap.size w).alloc (Nat.le_refl _) (.cells #[.int .i64 0, .string ⟨#[]⟩, .int .i64 0, .int .i64 0] 45)
    have htk : ¬ ((s.data.toList.drop p).getD 0 0).toNat = 59 := by rw [HBY.out]; omega
    have HTK := Lib.hid htk
    clear htk
    cases k
    · cases m
      · obtain ⟨q, hq⟩ : ∃ q, numB x.data.toList = q := ⟨_, rfl⟩
        have hq1 := num_ge x.data.toList
        have hq2 := num_le x.data.toList
        rw [hq] at hq1 hq2
        have HQ := Lib.hid hq
        clear hq
        by_cases h0 : 0 ≤ q
        · go_enter Tryd.func55, Tryd.ntmps55
          go_wp2_with (first
            | (go_at_call 70; refine (HWE.out _).mono ?_; rintro e w' ⟨rfl, rfl⟩; rw [HN.out])
            | (go_at_call 71; refine (Keyword_is _ _ HK _).mono ?_; rintro e w' ⟨rfl, rfl⟩)
            | (go_at_call 59; refine (Name_is _ (by omega) _ HM _).mono ?_; rintro e w' ⟨rfl, rfl⟩)
            | (go_at_call 73; refine (Number_is _ (by omega) _ HQ _).mono ?_; rintro e w' ⟨rfl, hb⟩; obtain ⟨c0, c1, c2, c3, f0, f1, f2, f3⟩ := tokBox rfl hb)
            | (go_at_call 72; refine (Clone_any _ _ (by omega)).mono ?_; clear c0 c1 c2 c3 f0 f1 f2 f3; rintro e w2 ⟨rfl, hb2⟩; replace hb := hb.trans (hb2.mono hb.size); clear hb2; obtain ⟨c0, c1, c2, c3, f0, f1, f2, f3⟩ := tokBox rfl hb))
          refine bodyPost_ret (v := .agg #[.int .i64 2, .string x, .int .i64 q, .int .i64 (p : Int)]) (by simp [results, Tryd.results55, go_sem, c0, c1, c2, c3]) rfl ⟨?_, ?_⟩
          · exact congrArg Ending.returned (tok_num (s.data.toList.drop p) p x HTK.out HWD.out HWT.out HK.out HM.out q HQ.out h0).symm
          · have h1 := ((Below.refl w.heap.size w).alloc (Nat.le_refl _) _).trans (hb.mono (by simp))
            exact (((h1.setCell (p := ⟨w.heap.size, 0, none⟩) (Nat.le_refl _) _).setCell (p := ⟨w.heap.size, 1, none⟩) (Nat.le_refl _) _).setCell (p := ⟨w.heap.size, 2, none⟩) (Nat.le_refl _) _).setCell (p := ⟨w.heap.size, 3, none⟩) (Nat.le_refl _) _
        · go_enter Tryd.func55, Tryd.ntmps55
          go_wp2_with (first
            | (go_at_call 70; refine (HWE.out _).mono ?_; rintro e w' ⟨rfl, rfl⟩; rw [HN.out])
            | (go_at_call 71; refine (Keyword_is _ _ HK _).mono ?_; rintro e w' ⟨rfl, rfl⟩)
            | (go_at_call 59; refine (Name_is _ (by omega) _ HM _).mono ?_; rintro e w' ⟨rfl, rfl⟩)
            | (go_at_call 73; refine (Number_is _ (by omega) _ HQ _).mono ?_; rintro e w' ⟨rfl, hb⟩; obtain ⟨c0, c1, c2, c3, f0, f1, f2, f3⟩ := tokBox rfl hb))
          refine bodyPost_ret (v := .agg #[.int .i64 0, .string ⟨#[]⟩, .int .i64 0, .int .i64 0]) (by simp [results, Tryd.results55, go_sem, c0, c1, c2, c3]) rfl ⟨?_, ?_⟩
          · exact congrArg Ending.returned (tok_none (s.data.toList.drop p) p x HTK.out HWD.out HK.out HM.out q HQ.out (by omega)).symm
          · have h1 := ((Below.refl w.heap.size w).alloc (Nat.le_refl _) _).trans (hb.mono (by simp))
            exact (((h1.setCell (p := ⟨w.heap.size, 0, none⟩) (Nat.le_refl _) _).setCell (p := ⟨w.heap.size, 1, none⟩) (Nat.le_refl _) _).setCell (p := ⟨w.heap.size, 2, none⟩) (Nat.le_refl _) _).setCell (p := ⟨w.heap.size, 3, none⟩) (Nat.le_refl _) _
      · go_enter Tryd.func55, Tryd.ntmps55
        go_wp2_with (first
          | (go_at_call 70; refine (HWE.out _).mono ?_; rintro e w' ⟨rfl, rfl⟩; rw [HN.out])
          | (go_at_call 71; refine (Keyword_is _ _ HK _).mono ?_; rintro e w' ⟨rfl, rfl⟩)
          | (go_at_call 59; refine (Name_is _ (by omega) _ HM _).mono ?_; rintro e w' ⟨rfl, rfl⟩)
          | (go_at_call 72; refine (Clone_any _ _ (by omega)).mono ?_; rintro e w' ⟨rfl, hb⟩; obtain ⟨c0, c1, c2, c3, f0, f1, f2, f3⟩ := tokBox rfl hb))
        refine bodyPost_ret (v := .agg #[.int .i64 1, .string x, .int .i64 0, .int .i64 (p : Int)]) (by simp [results, Tryd.results55, go_sem, c0, c1, c2, c3]) rfl ⟨?_, ?_⟩
        · exact congrArg Ending.returned (tok_word (s.data.toList.drop p) p x HTK.out HWD.out HWT.out (.inr HM.out)).symm
        · have h1 := ((Below.refl w.heap.size w).alloc (Nat.le_refl _) _).trans (hb.mono (by simp))
          exact (((h1.setCell (p := ⟨w.heap.size, 0, none⟩) (Nat.le_refl _) _).setCell (p := ⟨w.heap.size, 1, none⟩) (Nat.le_refl _) _).setCell (p := ⟨w.heap.size, 2, none⟩) (Nat.le_refl _) _).setCell (p := ⟨w.heap.size, 3, none⟩) (Nat.le_refl _) _
    · go_enter Tryd.func55, Tryd.ntmps55
      go_wp2_with (first
          | (go_at_call 70; refine (HWE.out _).mono ?_; rintro e w' ⟨rfl, rfl⟩; rw [HN.out])
          | (go_at_call 71; refine (Keyword_is _ _ HK _).mono ?_; rintro e w' ⟨rfl, rfl⟩)
          | (go_at_call 59; refine (Name_is _ (by omega) _ HM _).mono ?_; rintro e w' ⟨rfl, rfl⟩)
          | (go_at_call 72; refine (Clone_any _ _ (by omega)).mono ?_; rintro e w' ⟨rfl, hb⟩; obtain ⟨c0, c1, c2, c3, f0, f1, f2, f3⟩ := tokBox rfl hb))
      refine bodyPost_ret (v := .agg #[.int .i64 1, .string x, .int .i64 0, .int .i64 (p : Int)]) (by simp [results, Tryd.results55, go_sem, c0, c1, c2, c3]) rfl ⟨?_, ?_⟩
      · exact congrArg Ending.returned (tok_word (s.data.toList.drop p) p x HTK.out HWD.out HWT.out (.inl HK.out)).symm
      · have h1 := ((Below.refl w.heap.size w).alloc (Nat.le_refl _) _).trans (hb.mono (by simp))
        exact (((h1.setCell (p := ⟨w.heap.size, 0, none⟩) (Nat.le_refl _) _).setCell (p := ⟨w.heap.size, 1, none⟩) (Nat.le_refl _) _).setCell (p := ⟨w.heap.size, 2, none⟩) (Nat.le_refl _) _).setCell (p := ⟨w.heap.size, 3, none⟩) (Nat.le_refl _) _

end Go.Proofs.YtlfapmfhdagikaaDoor
