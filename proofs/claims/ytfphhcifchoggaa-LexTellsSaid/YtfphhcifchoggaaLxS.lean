/-
  The document's own Name, Number.
-/
import Derived.Test.YtfphhcifchoggaaLxR
namespace Go.Proofs.Ytfphhcifchoggaa
open Go.RowKit Go.Shelf

theorem refKeyword_is (s : ByteArray) (b : Bool) (H : Hid (kwB s.data.toList = b)) {B : Nat} {w0 w : World} (hb : Below B w0 w) (hB : B ≤ w0.heap.size) :
    Calls Try.prog 21 #[.string s] w fun e w' => e = .returned (.bool b) ∧ Below w.heap.size w w' ∧ Below B w0 w' :=
  (refKeyword_any s w).mono fun _ _ ⟨he, hw⟩ => ⟨by rw [he, H.out], hw, below_up hb hB hw⟩

theorem data_at (s : ByteArray) (k : Nat) (h : k < s.size) : s.data.toList[k]? = some s[k] := by
  have := byte_at s 0 k (by omega)
  rw [List.drop_zero] at this
  simpa using this
theorem data_take (s : ByteArray) (k : Nat) (h : k < s.size) : s.data.toList.take (k + 1) = s.data.toList.take k ++ [s[k]] := by
  obtain ⟨h1, h2⟩ := List.getElem?_eq_some_iff.1 (data_at s k h)
  rw [List.take_succ_eq_append_getElem h1, h2]

/-- What is known of a text that is not empty. -/
theorem text_pos (s : ByteArray) (h : ¬ s.size = 0) : s.data.toList ≠ [] ∧ (s.toList == []) = false ∧ s.toList ≠ [] ∧ s.data.toList.head? = some s[0] := by
  have hsz := len_data s
  have hne : s.data.toList ≠ [] := by intro e; rw [e] at hsz; simp at hsz; omega
  have hl : (s.toList == []) = false := by
    rw [ByteArray.toList_eq]
    cases hh : s.data.toList with
    | nil => exact absurd hh hne
    | cons c r => rfl
  exact ⟨hne, hl, by intro e; rw [e] at hl; simp at hl, head_at s (by omega)⟩
theorem text_nil (s : ByteArray) (h : s.size = 0) : s.data.toList = [] ∧ s.toList = [] ∧ (!s.toList.isEmpty) = false := by
  have hsz := len_data s
  have hl : s.data.toList = [] := List.eq_nil_of_length_eq_zero (by omega)
  have hl' : s.toList = [] := by rw [ByteArray.toList_eq]; exact hl
  exact ⟨hl, hl', by rw [hl']; rfl⟩

theorem name_is (s : ByteArray) (h : ¬ s.size = 0) : nameB s.data.toList = (decide (s.size ≤ 12) && letB s[0] && !kwB s.data.toList && s.data.toList.all parB) := by
  obtain ⟨hne, _, _, hhd⟩ := text_pos s h
  have hsz := len_data s
  cases hh : s.data.toList with
  | nil => exact absurd hh hne
  | cons c r =>
    rw [hh] at hhd hsz
    simp at hhd
    rw [nameB, hsz, ← hhd]

set_option maxHeartbeats 1000000 in
theorem refName_any (s : ByteArray) (hs : s.size ≤ 9223372036854775807) (w : World) :
    Calls Try.prog 17 #[.string s] w fun e w' => e = .returned (.bool (nameB s.data.toList)) ∧ Below w.heap.size w w' := by
  have hb := Below.refl w.heap.size w
  by_cases h0 : s.size = 0
  · obtain ⟨hn, hl, hl'⟩ := text_nil s h0
    have HN := Lib.hid hn
    clear hn
    go_enter Try.func17, Try.ntmps17
    go_wp2
    go_ret
    exact ⟨ret_bool (by rw [HN.out]; rfl), hb⟩
  · have hnm := name_is s h0
    obtain ⟨hne, hl, hl', hhd⟩ := text_pos s h0
    have hpos : 0 < s.size := by omega
    have HN := Lib.hid hnm
    clear hne hhd hnm
    by_cases h12 : 12 < s.size
    · go_enter Try.func17, Try.ntmps17
      go_wp2
      go_ret
      exact ⟨ret_bool (by rw [HN.out, decide_eq_false (by omega)]; rfl), hb⟩
    · obtain ⟨b, hlb⟩ : ∃ b, letB s[0] = b := ⟨_, rfl⟩
      have HB := Lib.hid hlb
      clear hlb
      cases b
      · go_enter Try.func17, Try.ntmps17
        go_wp2_with (go_at_call 29; refine (refLetter_is _ _ HB _).mono ?_; rintro e w' ⟨rfl, rfl⟩)
        go_ret
        exact ⟨ret_bool (by rw [HN.out, HB.out]; simp), hb⟩
      · obtain ⟨k, hk⟩ : ∃ k, kwB s.data.toList = k := ⟨_, rfl⟩
        have HK := Lib.hid hk
        clear hk
        cases k
        · go_enter Try.func17, Try.ntmps17
          go_wp2_with (first
            | (go_at_call 29; refine (refLetter_is _ _ HB _).mono ?_; rintro e w' ⟨rfl, rfl⟩)
            | (go_at_call 21; refine (refKeyword_is _ _ HK hb (Nat.le_refl _)).mono ?_; clear hb; rintro e w1 ⟨rfl, _, hb⟩))
          go_loop [3] (fun i => ∃ k : Nat, k ≤ s.size ∧ i = .int .i64 (k : Nat) ∧ (s.data.toList.take k).all parB = true) (fun i => s.size - (intOf i).toNat)
          case atStart => exact ⟨0, by omega, rfl, by simp⟩
          case round =>
            obtain ⟨k, hk, rfl, ha⟩ := hrel
            have HA := Lib.hid ha
            clear ha
            by_cases hlt : k < s.size
            · obtain ⟨p, hp⟩ : ∃ p, parB s[k] = p := ⟨_, rfl⟩
              have HP := Lib.hid hp
              clear hp
              cases p
              · go_wp2_with (go_at_call 26; refine (refPart_is _ _ HP _).mono ?_; rintro e w' ⟨rfl, rfl⟩)
                go_ret
                refine ⟨ret_bool ?_, hb⟩
                rw [HN.out]
                have : s.data.toList.all parB = false := by
                  rw [List.all_eq_false]
                  exact ⟨_, List.mem_of_getElem? (data_at s k hlt), by rw [HP.out]; simp⟩
                rw [this]; simp
              · go_wp2_with (go_at_call 26; refine (refPart_is _ _ HP _).mono ?_; rintro e w' ⟨rfl, rfl⟩)
                go_round
                case rel =>
                  refine ⟨k + 1, by omega, by go_num, ?_⟩
                  rw [data_take s k hlt, List.all_append, HA.out, List.all_cons, HP.out]; rfl
                case measure => simp [intOf]; omega
            · go_wp2
              go_ret
              refine ⟨ret_bool ?_, hb⟩
              have ha := HA.out
              rw [List.take_of_length_le (by rw [len_data]; omega)] at ha
              rw [HN.out, ha, HB.out, HK.out, decide_eq_true (by omega)]; rfl
        · go_enter Try.func17, Try.ntmps17
          go_wp2_with (first
            | (go_at_call 29; refine (refLetter_is _ _ HB _).mono ?_; rintro e w' ⟨rfl, rfl⟩)
            | (go_at_call 21; refine (refKeyword_is _ _ HK hb (Nat.le_refl _)).mono ?_; clear hb; rintro e w1 ⟨rfl, _, hb⟩))
          go_ret
          exact ⟨ret_bool (by rw [HN.out, HB.out, HK.out]; simp), hb⟩

theorem valF_snoc (l : List UInt8) (c : UInt8) : valF 0 (l ++ [c]) = 10 * valF 0 l + (c.toNat - 48) := by rw [valF_append]; rfl
theorem valF_five : ∀ (l : List UInt8), l.all digB = true → valF 0 l < 10 ^ l.length := by
  intro l
  have h : ∀ (l : List UInt8) (n : Nat), l.all digB = true → valF n l < (n + 1) * 10 ^ l.length := by
    intro l
    induction l with
    | nil => intro n _; simp [valF]
    | cons c r ih =>
      intro n ha
      rw [List.all_cons, Bool.and_eq_true] at ha
      have e : valF n (c :: r) = valF (10 * n + (c.toNat - 48)) r := rfl
      have hd := ha.1
      unfold digB at hd
      simp at hd
      have := ih (10 * n + (c.toNat - 48)) ha.2
      rw [e, List.length_cons, Nat.pow_succ]
      refine Nat.lt_of_lt_of_le this ?_
      rw [Nat.mul_comm (10 ^ r.length) 10, ← Nat.mul_assoc]
      exact Nat.mul_le_mul_right _ (by omega)
  intro ha
  have := h l 0 ha
  simpa using this

set_option maxHeartbeats 1000000 in
theorem refNumber_any (s : ByteArray) (hs : s.size ≤ 9223372036854775807) (w : World) :
    Calls Try.prog 19 #[.string s] w fun e w' => e = .returned (.int .i64 (numB s.data.toList)) ∧ w = w' := by
  have hsz := len_data s
  have HSZ := Lib.hid hsz
  clear hsz
  by_cases h0 : s.size = 0
  · obtain ⟨hn, hl, hl'⟩ := text_nil s h0
    have HN := Lib.hid hn
    clear hn
    go_enter Try.func19, Try.ntmps19
    go_wp2
    go_ret
    exact ⟨ret_int (by rw [HN.out]; rfl), rfl⟩
  · obtain ⟨hne, hl, hl', hhd⟩ := text_pos s h0
    have hpos : 0 < s.size := by omega
    have HNE := Lib.hid hne
    have HH := Lib.hid hhd
    clear hne hhd
    by_cases h5 : 5 < s.size
    · go_enter Try.func19, Try.ntmps19
      go_wp2
      go_ret
      exact ⟨ret_int (num_long _ (by rw [HSZ.out]; exact h5)).symm, rfl⟩
    · by_cases hz : 1 < s.size ∧ s[0].toNat = 48
      · obtain ⟨hz1, hz2⟩ := hz
        have hz3 : (s[0].toNat : Int) = 48 := by omega
        have hz4 := Lib.hid hz2
        clear hz2
        go_enter Try.func19, Try.ntmps19
        go_wp2
        go_ret
        exact ⟨ret_int (num_zero _ (by rw [HSZ.out]; exact hz1) (by rw [HH.out, u8_is s[0] 48 hz4.out])).symm, rfl⟩
      · have hnz : ¬ (1 < s.data.toList.length ∧ s.data.toList.head? = some 48) := by
          rintro ⟨h1, h2⟩
          rw [HH.out] at h2
          injection h2 with h2
          exact hz ⟨by rw [HSZ.out] at h1; exact h1, by rw [h2]; rfl⟩
        have HZ := Lib.hid hnz
        clear hnz
        have hcase : s.size ≤ 1 ∨ (1 < s.size ∧ ((s[0].toNat : Int) == 48) = false) := by
          rw [beq_eq_false_iff_ne]; omega
        clear hz
        rcases hcase with h1 | ⟨h1, h1'⟩
        all_goals
          go_enter Try.func19, Try.ntmps19
          go_wp2
          go_loop [3, 4] (fun n i => ∃ k : Nat, k ≤ s.size ∧ i = .int .i64 (k : Nat) ∧ n = .int .i64 (valF 0 (s.data.toList.take k) : Nat) ∧ (s.data.toList.take k).all digB = true) (fun _ i => s.size - (intOf i).toNat)
          case atStart => exact ⟨0, by omega, rfl, rfl, by simp⟩
          case round =>
            obtain ⟨k, hk, rfl, rfl, ha⟩ := hrel
            have hv := valF_five _ ha
            have hp : 10 ^ (s.data.toList.take k).length ≤ 10 ^ 5 := Nat.pow_le_pow_right (by omega) (by rw [List.length_take]; omega)
            have hv' : valF 0 (s.data.toList.take k) < 100000 := Nat.lt_of_lt_of_le hv hp
            have HA := Lib.hid ha
            clear ha hv hp
            by_cases hlt : k < s.size
            · obtain ⟨d, hd⟩ : ∃ d, digB s[k] = d := ⟨_, rfl⟩
              have HD := Lib.hid hd
              cases d
              · clear hd
                go_wp2_with (go_at_call 33; refine (refDigit_is _ _ HD _).mono ?_; rintro e w' ⟨rfl, rfl⟩)
                go_ret
                refine ⟨ret_int ?_, rfl⟩
                have : s.data.toList.all digB = false := by
                  rw [List.all_eq_false]
                  exact ⟨_, List.mem_of_getElem? (data_at s k hlt), by rw [HD.out]; simp⟩
                unfold numB
                rw [if_neg]
                rintro ⟨_, _, h, _⟩
                rw [this] at h; cases h
              · have hr : 48 ≤ s[k].toNat ∧ s[k].toNat ≤ 57 := by unfold digB at hd; simpa using hd
                obtain ⟨hr1, hr2⟩ := hr
                clear hd
                go_wp2_with (go_at_call 33; refine (refDigit_is _ _ HD _).mono ?_; rintro e w' ⟨rfl, rfl⟩)
                go_round
                case rel =>
                  refine ⟨k + 1, by omega, by go_num, ?_, ?_⟩
                  · rw [data_take s k hlt, valF_snoc]
                    exact congrArg (Value.int .i64) (by omega)
                  · rw [data_take s k hlt, List.all_append, HA.out, List.all_cons, HD.out]; rfl
                case measure => simp [intOf]; omega
            · have ha := HA.out
              have hte : s.data.toList.take k = s.data.toList := List.take_of_length_le (by rw [len_data]; omega)
              rw [hte] at ha hv'
              rw [hte]
              have HA' := Lib.hid ha
              clear ha hte
              by_cases hb : 65535 < valF 0 s.data.toList
              · go_wp2
                go_ret
                refine ⟨ret_int ?_, rfl⟩
                unfold numB
                rw [if_neg]
                rintro ⟨_, _, _, h⟩
                omega
              · go_wp2
                go_ret
                refine ⟨ret_int ?_, rfl⟩
                unfold numB
                rw [if_pos ⟨HNE.out, HZ.out, HA'.out, by omega⟩]

end Go.Proofs.Ytfphhcifchoggaa
