/-
  The program's passedEnd, Number, Name.
-/
import Derived.Test.YtlfapmfhdagikaaDoorLxB
namespace Go.Proofs.YtlfapmfhdagikaaDoor
open Go.RowKit Go.Shelf

theorem len_data (s : ByteArray) : s.data.toList.length = s.size := Array.length_toList

set_option maxHeartbeats 400000 in
theorem passedEnd_any (s : ByteArray) (p : Nat) (hs : s.size ≤ 9223372036854775807) (hp : p ≤ s.size) (w : World) :
    Calls Tryd.prog 54 #[.string s, .int .i64 (p : Int)] w fun e w' => e = .returned (.int .i64 ((p + skipN false (s.data.toList.drop p) : Nat) : Int)) ∧ Below w.heap.size w w' := by
  have hrun := runEnd_any 69 (enters_of Tryd.func69 (by kernel_rfl) rfl) #[.pointer (some ⟨w.heap.size, 0, none⟩)] s p
    (fun k => comS (comN false ((s.data.toList.drop p).take k)) ((s.data.toList.drop p).getD k 0) || blaB ((s.data.toList.drop p).getD k 0))
    (fun k W => Boxed W w.heap.size 4 (.bool (comN false ((s.data.toList.drop p).take k))) ∧ Below w.heap.size w W) hs hp
    (fun k h W hW => (passedEnd1_any w.heap.size _ _ W hW.1).mono fun e W' ⟨he, hw⟩ => by
      dsimp only
      rw [byteD s p k h]
      refine ⟨he, ?_⟩
      rw [take_snocD _ k (by rw [List.length_drop, len_data]; omega), comN_snoc, byteD s p k h, ← hw]
      exact ⟨hW.1.set _, hW.2.setCell (p := ⟨w.heap.size, 0, none⟩) (Nat.le_refl _) _⟩)
    (w.alloc (.cells #[.bool false] 4)) ⟨Boxed.new w _ _, (Below.refl _ w).alloc (Nat.le_refl _) _⟩
  have HR := Lib.hid hrun
  clear hrun
  go_enter Tryd.func54, Tryd.ntmps54
  go_wp2_with (go_at_call 68; refine HR.out.mono ?_; rintro e w' ⟨m, rfl, h1, h2, h3⟩; have H2 := Lib.hid h2; have H3 := Lib.hid h3; clear h2 h3)
  go_ret
  have h2 := H2.out
  have hsz := len_data s
  have hr : skipN false (s.data.toList.drop p) = m := by
    refine skip_of_take (s.data.toList.drop p) false m h2 (by rw [List.length_drop]; omega) ?_
    rcases H3.out with ⟨h, _⟩ | ⟨h, h', _⟩
    · left; rw [List.length_drop]; omega
    · right; exact h'
  refine ⟨ret_int ?_, ?_⟩
  · rw [hr]; omega
  · rcases H3.out with ⟨_, _, h⟩ | ⟨_, _, _, h⟩ <;> exact h

theorem Number1_any (B : Nat) (n : Nat) (hn : n ≤ 1000000) (c : UInt8) (w : World) (hB : Boxed w B 3 (.int .i64 (n : Int))) :
    Calls Tryd.prog 84 #[.int .u8 (c.toNat : Int), .pointer (some ⟨B, 0, none⟩)] w fun e w' => e = .returned (.bool (digB c && decide (n ≤ 65535))) ∧ Boxed w' B 3 (.int .i64 (nS n c : Int)) ∧ (w = w' ∨ ∃ v, w.setCell ⟨B, 0, none⟩ v = w') := by
  have hc := hB.cell
  have hf := hB.frozen
  cases hd : digB c with
  | false =>
    have HD := Lib.hid hd
    have HB := Lib.hid hB
    clear hd hB
    go_enter Tryd.func84, Tryd.ntmps84
    go_wp2_with (go_at_call 82; refine (isDigit_is _ _ HD _).mono ?_; rintro e w' ⟨rfl, rfl⟩)
    go_ret
    refine ⟨by simp, ?_, .inl rfl⟩
    have e : nS n c = n := by unfold nS; rw [HD.out]; simp
    rw [e]; exact HB.out
  | true =>
    have hr : 48 ≤ c.toNat ∧ c.toNat ≤ 57 := by unfold digB at hd; simpa using hd
    obtain ⟨hr1, hr2⟩ := hr
    have HD := Lib.hid hd
    have HB := Lib.hid hB
    by_cases hn : n ≤ 65535
    · have hB' := hB.set (.int .i64 (10 * (n : Int) + ((c.toNat : Int) - 48)))
      have HB' := Lib.hid hB'
      clear hd hB hB'
      go_enter Tryd.func84, Tryd.ntmps84
      go_wp2_with (go_at_call 82; refine (isDigit_is _ _ HD _).mono ?_; rintro e w' ⟨rfl, rfl⟩)
      go_ret
      have e : (nS n c : Int) = 10 * (n : Int) + ((c.toNat : Int) - 48) := by unfold nS; rw [if_pos ⟨HD.out, hn⟩]; omega
      exact ⟨ret_bool (by simp [hn]), by rw [e]; exact HB'.out, .inr ⟨_, rfl⟩⟩
    · clear hd hB
      go_enter Tryd.func84, Tryd.ntmps84
      go_wp2_with (go_at_call 82; refine (isDigit_is _ _ HD _).mono ?_; rintro e w' ⟨rfl, rfl⟩)
      go_ret
      have e : nS n c = n := by unfold nS; rw [if_neg (fun h => hn h.2)]
      exact ⟨ret_bool (by simp [hn]), by rw [e]; exact HB.out, .inl rfl⟩

theorem head_at (s : ByteArray) (h : 0 < s.size) : s.data.toList.head? = some s[0] := by
  have := byte_at s 0 0 h
  rw [List.drop_zero] at this
  rw [List.head?_eq_getElem?]
  exact this
theorem u8_is (c d : UInt8) (h : c.toNat = d.toNat) : c = d := by
  rw [← UInt8.ofNat_toNat (x := c), h, UInt8.ofNat_toNat]

/-- The closure of Number, round by round. -/
theorem Number_run (s : ByteArray) (hs : s.size ≤ 9223372036854775807) (B0 B : Nat) (W0 w : World) (hB : Boxed w B 3 (.int .i64 0)) (hb : Below B0 W0 w) (hlt : B0 ≤ B) :
    Calls Tryd.prog 68 #[.string s, .int .i64 0, .func (.func 84) #[] #[.pointer (some ⟨B, 0, none⟩)]] w fun e w' =>
      ∃ m : Nat, e = .returned (.int .i64 (m : Int)) ∧ m ≤ s.size ∧ (m ≤ s.size → s.data.toList ≠ [] → ¬ (1 < s.data.toList.length ∧ s.data.toList.head? = some 48) →
        numB s.data.toList = if m < s.size ∨ 65535 < nF (s.data.toList.take m) then -1 else (nF (s.data.toList.take m) : Int)) ∧ Boxed w' B 3 (.int .i64 (nF (s.data.toList.take m) : Int)) ∧ Below B0 W0 w' := by
  have hrun := runEnd_any 84 (enters_of Tryd.func84 (by kernel_rfl) rfl) #[.pointer (some ⟨B, 0, none⟩)] s 0
    (fun k => digB (s.data.toList.getD k 0) && decide (nF (s.data.toList.take k) ≤ 65535))
    (fun k W => Boxed W B 3 (.int .i64 (nF (s.data.toList.take k) : Int)) ∧ Below B0 W0 W) hs (by omega)
    (fun k h W hW => (Number1_any B _ (nF_le _) _ W hW.1).mono fun e W' ⟨he, hw, hx⟩ => by
      dsimp only
      have hd := byteD s 0 k h
      rw [List.drop_zero] at hd
      rw [hd]
      refine ⟨he, ?_⟩
      rw [take_snocD _ k (by rw [len_data]; omega), nF_snoc, hd]
      refine ⟨hw, ?_⟩
      rcases hx with rfl | ⟨v, rfl⟩
      · exact hW.2
      · exact hW.2.setCell (p := ⟨B, 0, none⟩) hlt _)
    w ⟨hB, hb⟩
  refine hrun.mono fun e w' ⟨m, he, h1, h2, h3⟩ => ?_
  have hsz := len_data s
  rw [Nat.zero_add] at he h1 h3
  refine ⟨m, he, h1, fun _ hl hz => ?_, ?_⟩
  · have := num_of_take s.data.toList m hl hz h2 (by omega) (by rcases h3 with ⟨h, _⟩ | ⟨h, h', _⟩; left; omega; right; exact ⟨by omega, h'⟩)
    rw [hsz] at this
    exact this
  · rcases h3 with ⟨_, h⟩ | ⟨hlt', h', hbx, h⟩
    · exact h
    · refine ⟨?_, h⟩
      rw [take_snocD _ m (by omega), nF_snoc] at hbx
      have e : nS (nF (s.data.toList.take m)) (s.data.toList.getD m 0) = nF (s.data.toList.take m) := by
        unfold nS
        rw [if_neg]
        rintro ⟨ha, hb'⟩
        dsimp only at h'
        rw [ha, decide_eq_true hb'] at h'
        cases h'
      rw [e] at hbx
      exact hbx

set_option maxHeartbeats 800000 in
theorem Number_any (s : ByteArray) (hs : s.size ≤ 9223372036854775807) (w : World) :
    Calls Tryd.prog 73 #[.string s] w fun e w' => e = .returned (.int .i64 (numB s.data.toList)) ∧ Below w.heap.size w w' := by
  have hsz := len_data s
  by_cases h0 : s.size = 0
  · have hl : s.toList = [] := by rw [ByteArray.toList_eq]; exact List.eq_nil_of_length_eq_zero (by omega)
    have hn : numB s.data.toList = -1 := by rw [← ByteArray.toList_eq, hl]; rfl
    have hl' : (!s.toList.isEmpty) = false := by rw [hl]; rfl
    have HN := Lib.hid hn
    clear hn
    go_enter Tryd.func73, Tryd.ntmps73
    go_wp2
    go_ret
    exact ⟨ret_int HN.out.symm, Below.refl _ _⟩
  · have hpos : 0 < s.size := by omega
    have hne : s.data.toList ≠ [] := by intro e; rw [e] at hsz; simp at hsz; omega
    have hl : (s.toList == []) = false := by
      rw [ByteArray.toList_eq]
      cases hh : s.data.toList with
      | nil => exact absurd hh hne
      | cons c r => rfl
    have hl' : s.toList ≠ [] := by intro e; rw [e] at hl; simp at hl
    have hhd := head_at s hpos
    have HH := Lib.hid hhd
    have HNE := Lib.hid hne
    have HSZ := Lib.hid hsz
    clear hhd hne hsz
    by_cases hz : s[0].toNat = 48 ∧ 1 < s.size
    · go_enter Tryd.func73, Tryd.ntmps73
      go_wp2
      go_ret
      exact ⟨ret_int (num_zero _ (by rw [HSZ.out]; exact hz.2) (by rw [HH.out, u8_is s[0] 48 hz.1])).symm, Below.refl _ _⟩
    · have hnz : ¬ (1 < s.data.toList.length ∧ s.data.toList.head? = some 48) := by
        rintro ⟨h1, h2⟩
        rw [HH.out] at h2
        injection h2 with h2
        exact hz ⟨by rw [h2]; rfl, by rw [HSZ.out] at h1; exact h1⟩
      have hrun := Number_run s hs w.heap.size w.heap.size w (w.alloc (.cells #[.int .i64 0] 3)) (Boxed.new w _ _) ((Below.refl _ w).alloc (Nat.le_refl _) _) (Nat.le_refl _)
      have HR := Lib.hid hrun
      have HZ := Lib.hid hnz
      clear hrun hnz
      by_cases h1 : 1 < s.size
      · have hz0 : ¬ ((s[0].toNat : Int) = 48) := by omega
        clear hz
        go_enter Tryd.func73, Tryd.ntmps73
        go_wp2_with (go_at_call 68; refine HR.out.mono ?_; rintro e w' ⟨m, rfl, hm1, hm2, hbx, hbl⟩; have HM := Lib.hid hm2; clear hm2; have hc := hbx.cell; have hbd := nF_le (s.data.toList.take m))
        all_goals
          go_ret
          refine ⟨ret_int ?_, hbl⟩
          rw [HM.out hm1 HNE.out HZ.out]
          first
            | rw [if_pos (by omega)]
            | rw [if_neg (by omega)]
      · clear hz
        go_enter Tryd.func73, Tryd.ntmps73
        go_wp2_with (go_at_call 68; refine HR.out.mono ?_; rintro e w' ⟨m, rfl, hm1, hm2, hbx, hbl⟩; have HM := Lib.hid hm2; clear hm2; have hc := hbx.cell; have hbd := nF_le (s.data.toList.take m))
        all_goals
          go_ret
          refine ⟨ret_int ?_, hbl⟩
          rw [HM.out hm1 HNE.out HZ.out]
          first
            | rw [if_pos (by omega)]
            | rw [if_neg (by omega)]

set_option maxHeartbeats 800000 in
theorem Name_any (s : ByteArray) (hs : s.size ≤ 9223372036854775807) (w : World) :
    Calls Tryd.prog 59 #[.string s] w fun e w' => e = .returned (.bool (nameB s.data.toList)) ∧ w = w' := by
  have hsz := len_data s
  by_cases h0 : s.size = 0
  · have hl : s.toList = [] := by rw [ByteArray.toList_eq]; exact List.eq_nil_of_length_eq_zero (by omega)
    have hn : nameB s.data.toList = false := by rw [← ByteArray.toList_eq, hl]; rfl
    have hl' : (!s.toList.isEmpty) = false := by rw [hl]; rfl
    have HN := Lib.hid hn
    clear hn
    go_enter Tryd.func59, Tryd.ntmps59
    go_wp2
    go_ret
    exact ⟨ret_bool HN.out.symm, rfl⟩
  · have hpos : 0 < s.size := by omega
    have hne : s.data.toList ≠ [] := by intro e; rw [e] at hsz; simp at hsz; omega
    have hl : (s.toList == []) = false := by
      rw [ByteArray.toList_eq]
      cases hh : s.data.toList with
      | nil => exact absurd hh hne
      | cons c r => rfl
    have hl' : s.toList ≠ [] := by intro e; rw [e] at hl; simp at hl
    have hhd := head_at s hpos
    have hnm : nameB s.data.toList = (decide (s.size ≤ 12) && letB s[0] && !kwB s.data.toList && s.data.toList.all parB) := by
      cases hh : s.data.toList with
      | nil => exact absurd hh hne
      | cons c r =>
        rw [hh] at hhd hsz
        simp at hhd
        rw [nameB, hsz, ← hhd]
    have hwa := wordN_all s.data.toList
    rw [hsz] at hwa
    have HN := Lib.hid hnm
    have HW := Lib.hid hwa
    clear hhd hne hsz hnm hwa
    by_cases h12 : 12 < s.size
    · go_enter Tryd.func59, Tryd.ntmps59
      go_wp2
      go_ret
      exact ⟨ret_bool (by rw [HN.out, decide_eq_false (by omega)]; rfl), rfl⟩
    · obtain ⟨b, hb⟩ : ∃ b, letB s[0] = b := ⟨_, rfl⟩
      have HB := Lib.hid hb
      clear hb
      cases b
      · go_enter Tryd.func59, Tryd.ntmps59
        go_wp2_with (go_at_call 77; refine (isLetter_is _ _ HB _).mono ?_; rintro e w' ⟨rfl, rfl⟩)
        go_ret
        exact ⟨ret_bool (by rw [HN.out, HB.out]; simp), rfl⟩
      · obtain ⟨k, hk⟩ : ∃ k, kwB s.data.toList = k := ⟨_, rfl⟩
        have HK := Lib.hid hk
        clear hk
        cases k
        · have hwe := wordEnd_any s 0 hs (by omega) w
          rw [List.drop_zero, Nat.zero_add] at hwe
          have HE := Lib.hid hwe
          clear hwe
          go_enter Tryd.func59, Tryd.ntmps59
          go_wp2_with (first
            | (go_at_call 77; refine (isLetter_is _ _ HB _).mono ?_; rintro e w' ⟨rfl, rfl⟩)
            | (go_at_call 71; refine (Keyword_is _ _ HK _).mono ?_; rintro e w' ⟨rfl, rfl⟩)
            | (go_at_call 70; refine HE.out.mono ?_; rintro e w' ⟨rfl, rfl⟩))
          go_ret
          refine ⟨ret_bool ?_, rfl⟩
          have hw := HW.out
          rw [HN.out, HB.out, HK.out, decide_eq_true (by omega)]
          generalize s.data.toList.all parB = q at hw ⊢
          rw [Bool.eq_iff_iff]
          simp
          rw [← hw]
          omega
        · go_enter Tryd.func59, Tryd.ntmps59
          go_wp2_with (first
            | (go_at_call 77; refine (isLetter_is _ _ HB _).mono ?_; rintro e w' ⟨rfl, rfl⟩)
            | (go_at_call 71; refine (Keyword_is _ _ HK _).mono ?_; rintro e w' ⟨rfl, rfl⟩))
          go_ret
          exact ⟨ret_bool (by rw [HN.out, HB.out, HK.out]; simp), rfl⟩

end Go.Proofs.YtlfapmfhdagikaaDoor
