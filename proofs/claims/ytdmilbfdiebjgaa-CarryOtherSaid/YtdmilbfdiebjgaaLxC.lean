/-
  The program's passedEnd, Number, Name.
-/
import Derived.Test.YtdmilbfdiebjgaaLxB
namespace Go.Proofs.Ytdmilbfdiebjgaa
open Go.RowKit Go.Shelf

theorem len_data (s : ByteArray) : s.data.toList.length = s.size := Array.length_toList

theorem head_at (s : ByteArray) (h : 0 < s.size) : s.data.toList.head? = some s[0] := by
  have := byte_at s 0 0 h
  rw [List.drop_zero] at this
  rw [List.head?_eq_getElem?]
  exact this
theorem u8_is (c d : UInt8) (h : c.toNat = d.toNat) : c = d := by
  rw [← UInt8.ofNat_toNat (x := c), h, UInt8.ofNat_toNat]

set_option maxHeartbeats 800000 in
theorem Name_any (s : ByteArray) (hs : s.size ≤ 9223372036854775807) (w : World) :
    Calls Try.prog 77 #[.string s] w fun e w' => e = .returned (.bool (nameB s.data.toList)) ∧ w = w' := by
  have hsz := len_data s
  by_cases h0 : s.size = 0
  · have hl : s.toList = [] := by rw [ByteArray.toList_eq]; exact List.eq_nil_of_length_eq_zero (by omega)
    have hn : nameB s.data.toList = false := by rw [← ByteArray.toList_eq, hl]; rfl
    have hl' : (!s.toList.isEmpty) = false := by rw [hl]; rfl
    have HN := Lib.hid hn
    clear hn
    go_enter Try.func77, Try.ntmps77
    go_wp2
    go_ret
    exact ⟨ret_bool HN.out.symm, rfl⟩
  · have hpos : 0 < s.size := by omega
    have hne : s.data.toList ≠ [] := by intro e; rw [e] at hsz; simp at hsz; omega
    have hl : (s.toList == []) = false := by
      rw [ByteArray.toList_eq]
      cases hh : s.data.toList with
      | nil => exact absurd hh hne
      | cons c r => rfl
    have hl' : s.toList ≠ [] := by intro e; rw [e] at hl; simp at hl
    have hhd := head_at s hpos
    have hnm : nameB s.data.toList = (decide (s.size ≤ 12) && letB s[0] && !kwB s.data.toList && s.data.toList.all parB) := by
      cases hh : s.data.toList with
      | nil => exact absurd hh hne
      | cons c r =>
        rw [hh] at hhd hsz
        simp at hhd
        rw [nameB, hsz, ← hhd]
    have hwa := wordN_all s.data.toList
    rw [hsz] at hwa
    have HN := Lib.hid hnm
    have HW := Lib.hid hwa
    clear hhd hne hsz hnm hwa
    by_cases h12 : 12 < s.size
    · go_enter Try.func77, Try.ntmps77
      go_wp2
      go_ret
      exact ⟨ret_bool (by rw [HN.out, decide_eq_false (by omega)]; rfl), rfl⟩
    · obtain ⟨b, hb⟩ : ∃ b, letB s[0] = b := ⟨_, rfl⟩
      have HB := Lib.hid hb
      clear hb
      cases b
      · go_enter Try.func77, Try.ntmps77
        go_wp2_with (go_at_call 89; refine (isLetter_is _ _ HB _).mono ?_; rintro e w' ⟨rfl, rfl⟩)
        go_ret
        exact ⟨ret_bool (by rw [HN.out, HB.out]; simp), rfl⟩
      · obtain ⟨k, hk⟩ : ∃ k, kwB s.data.toList = k := ⟨_, rfl⟩
        have HK := Lib.hid hk
        clear hk
        cases k
        · have hwe := wordEnd_any s 0 hs (by omega) w
          rw [List.drop_zero, Nat.zero_add] at hwe
          have HE := Lib.hid hwe
          clear hwe
          go_enter Try.func77, Try.ntmps77
          go_wp2_with (first
            | (go_at_call 89; refine (isLetter_is _ _ HB _).mono ?_; rintro e w' ⟨rfl, rfl⟩)
            | (go_at_call 90; refine (Keyword_is _ _ HK _).mono ?_; rintro e w' ⟨rfl, rfl⟩)
            | (go_at_call 91; refine HE.out.mono ?_; rintro e w' ⟨rfl, rfl⟩))
          go_ret
          refine ⟨ret_bool ?_, rfl⟩
          have hw := HW.out
          rw [HN.out, HB.out, HK.out, decide_eq_true (by omega)]
          generalize s.data.toList.all parB = q at hw ⊢
          rw [Bool.eq_iff_iff]
          simp
          rw [← hw]
          omega
        · go_enter Try.func77, Try.ntmps77
          go_wp2_with (first
            | (go_at_call 89; refine (isLetter_is _ _ HB _).mono ?_; rintro e w' ⟨rfl, rfl⟩)
            | (go_at_call 90; refine (Keyword_is _ _ HK _).mono ?_; rintro e w' ⟨rfl, rfl⟩))
          go_ret
          exact ⟨ret_bool (by rw [HN.out, HB.out, HK.out]; simp), rfl⟩

end Go.Proofs.Ytdmilbfdiebjgaa
