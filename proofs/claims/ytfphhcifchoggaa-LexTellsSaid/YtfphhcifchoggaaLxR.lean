/-
  The document's own words on bytes and texts: letter, digit, part, Keyword, Name, Number.
-/
import Derived.Test.YtfphhcifchoggaaLxE
namespace Go.Proofs.Ytfphhcifchoggaa
open Go.RowKit Go.Shelf

theorem refLetter_any (c : UInt8) (w : World) :
    Calls Try.prog 29 #[.int .u8 (c.toNat : Int)] w fun e w' => e = .returned (.bool (letB c)) ∧ w = w' := by
  go_enter Try.func29, Try.ntmps29
  go_wp2
  all_goals
    go_ret
    exact ⟨ret_bool (by rw [Bool.eq_iff_iff]; simp [letB]; omega), rfl⟩
theorem refLetter_is (c : UInt8) (b : Bool) (H : Hid (letB c = b)) (w : World) :
    Calls Try.prog 29 #[.int .u8 (c.toNat : Int)] w fun e w' => e = .returned (.bool b) ∧ w = w' :=
  (refLetter_any c w).mono fun _ _ ⟨he, hw⟩ => ⟨by rw [he, H.out], hw⟩
theorem refDigit_any (c : UInt8) (w : World) :
    Calls Try.prog 33 #[.int .u8 (c.toNat : Int)] w fun e w' => e = .returned (.bool (digB c)) ∧ w = w' := by
  go_enter Try.func33, Try.ntmps33
  go_wp2
  all_goals
    go_ret
    exact ⟨ret_bool (by rw [Bool.eq_iff_iff]; simp [digB]; omega), rfl⟩
theorem refDigit_is (c : UInt8) (b : Bool) (H : Hid (digB c = b)) (w : World) :
    Calls Try.prog 33 #[.int .u8 (c.toNat : Int)] w fun e w' => e = .returned (.bool b) ∧ w = w' :=
  (refDigit_any c w).mono fun _ _ ⟨he, hw⟩ => ⟨by rw [he, H.out], hw⟩
theorem refPart_any (c : UInt8) (w : World) :
    Calls Try.prog 26 #[.int .u8 (c.toNat : Int)] w fun e w' => e = .returned (.bool (parB c)) ∧ w = w' := by
  obtain ⟨l, hl⟩ : ∃ l, letB c = l := ⟨_, rfl⟩
  obtain ⟨d, hd⟩ : ∃ d, digB c = d := ⟨_, rfl⟩
  have HL := Lib.hid hl
  have HD := Lib.hid hd
  clear hl hd
  cases l <;> cases d
  all_goals
    go_enter Try.func26, Try.ntmps26
    go_wp2_with (first
      | (go_at_call 29; refine (refLetter_is _ _ HL _).mono ?_; rintro e w' ⟨rfl, rfl⟩)
      | (go_at_call 33; refine (refDigit_is _ _ HD _).mono ?_; rintro e w' ⟨rfl, rfl⟩))
    all_goals
      go_ret
      exact ⟨ret_bool (by unfold parB; rw [HL.out, HD.out, Bool.eq_iff_iff]; simp; try omega), rfl⟩
theorem refPart_is (c : UInt8) (b : Bool) (H : Hid (parB c = b)) (w : World) :
    Calls Try.prog 26 #[.int .u8 (c.toNat : Int)] w fun e w' => e = .returned (.bool b) ∧ w = w' :=
  (refPart_any c w).mono fun _ _ ⟨he, hw⟩ => ⟨by rw [he, H.out], hw⟩

theorem kws_len : kws.length = 13 := rfl

set_option maxRecDepth 100000 in
set_option maxHeartbeats 1000000 in
theorem refKeyword_any (s : ByteArray) (w : World) :
    Calls Try.prog 21 #[.string s] w fun e w' => e = .returned (.bool (kwB s.data.toList)) ∧ Below w.heap.size w w' := by
  have hkw : kwB s.data.toList = kws.contains s.toList := by rw [ByteArray.toList_eq]; rfl
  obtain ⟨W, hW⟩ : ∃ W, w.alloc (.cells (kws.map fun l => Value.string ⟨l.toArray⟩).toArray 9) = W := ⟨_, rfl⟩
  have hb : Below w.heap.size w W := by rw [← hW]; exact (Below.refl _ _).alloc (Nat.le_refl _) _
  have hc : ∀ k x, kws[k]? = some x → W.cell? ⟨w.heap.size, k, none⟩ = some (.string ⟨x.toArray⟩) := fun k x h => by rw [← hW]; exact texts_new w kws 9 k x h
  have HC := Lib.hid hc
  have HW := Lib.hid hW
  have HK := Lib.hid hkw
  clear hc hW hkw
  go_enter Try.func21, Try.ntmps21
  go_wp2
  have hW := HW.out
  simp only [kws, List.map_cons, List.map_nil] at hW
  rw [hW]
  clear hW
  go_loop [4] (fun i => ∃ k : Nat, k ≤ 13 ∧ i = .int .i64 (k : Nat) ∧ (kws.take k).contains s.toList = false) (fun i => 13 - (intOf i).toNat)
  case atStart => exact ⟨0, by omega, rfl, by simp⟩
  case round =>
    obtain ⟨k, hk, rfl, hn⟩ := hrel
    have HN := Lib.hid hn
    clear hn
    by_cases hlt : k < 13
    · obtain ⟨x, hx⟩ : ∃ x, kws[k]? = some x := ⟨_, List.getElem?_eq_getElem (by rw [kws_len]; exact hlt)⟩
      have hcell := HC.out k x hx
      have hnext : kws.take (k + 1) = kws.take k ++ [x] := by
        obtain ⟨h1, h2⟩ := List.getElem?_eq_some_iff.1 hx
        rw [List.take_succ_eq_append_getElem h1, h2]
      have HX := Lib.hid hx
      have HT := Lib.hid hnext
      clear hx hnext
      by_cases e : x = s.toList
      · have e1 : (x == s.toList) = true := by simp [e]
        have E := Lib.hid e
        clear e
        go_wp2
        go_ret
        refine ⟨ret_bool ?_, hb⟩
        rw [HK.out]
        refine (List.contains_iff_mem.2 ?_).symm
        rw [← E.out]
        exact List.mem_of_getElem? HX.out
      · have e1 : (x == s.toList) = false := by simp [e]
        have E := Lib.hid e
        clear e
        go_wp2
        go_round
        case rel =>
          refine ⟨k + 1, by omega, by go_num, ?_⟩
          rw [HT.out, List.contains_append, HN.out]
          simp
          exact fun h => E.out h.symm
        case measure => simp [intOf]; omega
    · go_wp2
      go_ret
      refine ⟨ret_bool ?_, hb⟩
      have h := HN.out
      rw [show k = 13 from by omega] at h
      rw [HK.out, ← h]; rfl

end Go.Proofs.Ytfphhcifchoggaa
