/-
  The document's own Right: places, names.
-/
import Derived.Test.YtlfdpfkimggeoaaLxE
import Derived.Deep.QuietTactic
import Derived.BigQuiet
import Derived.IntWalk
import Derived.Deep.DeepCutAuto
import Derived.Test.YtlfdpfkimggeoaaPlG
namespace Go.Proofs.Ytlfdpfkimggeoaa
open Go.RowKit Go.Shelf

theorem refLetter_any (c : UInt8) (w : World) :
    Calls Try.prog 85 #[.int .u8 (c.toNat : Int)] w fun e w' => e = .returned (.bool (letB c)) ∧ w = w' := by
  go_enter Try.func85, Try.ntmps85
  go_wp2
  all_goals
    go_ret
    exact ⟨ret_bool (by rw [Bool.eq_iff_iff]; simp [letB]; omega), rfl⟩
theorem refLetter_is (c : UInt8) (b : Bool) (H : Hid (letB c = b)) (w : World) :
    Calls Try.prog 85 #[.int .u8 (c.toNat : Int)] w fun e w' => e = .returned (.bool b) ∧ w = w' :=
  (refLetter_any c w).mono fun _ _ ⟨he, hw⟩ => ⟨by rw [he, H.out], hw⟩
theorem refDigit_any (c : UInt8) (w : World) :
    Calls Try.prog 91 #[.int .u8 (c.toNat : Int)] w fun e w' => e = .returned (.bool (digB c)) ∧ w = w' := by
  go_enter Try.func91, Try.ntmps91
  go_wp2
  all_goals
    go_ret
    exact ⟨ret_bool (by rw [Bool.eq_iff_iff]; simp [digB]; omega), rfl⟩
theorem refDigit_is (c : UInt8) (b : Bool) (H : Hid (digB c = b)) (w : World) :
    Calls Try.prog 91 #[.int .u8 (c.toNat : Int)] w fun e w' => e = .returned (.bool b) ∧ w = w' :=
  (refDigit_any c w).mono fun _ _ ⟨he, hw⟩ => ⟨by rw [he, H.out], hw⟩
theorem refPart_any (c : UInt8) (w : World) :
    Calls Try.prog 87 #[.int .u8 (c.toNat : Int)] w fun e w' => e = .returned (.bool (parB c)) ∧ w = w' := by
  obtain ⟨l, hl⟩ : ∃ l, letB c = l := ⟨_, rfl⟩
  obtain ⟨d, hd⟩ : ∃ d, digB c = d := ⟨_, rfl⟩
  have HL := Lib.hid hl
  have HD := Lib.hid hd
  clear hl hd
  cases l <;> cases d
  all_goals
    go_enter Try.func87, Try.ntmps87
    go_wp2_with (first
      | (go_at_call 85; refine (refLetter_is _ _ HL _).mono ?_; rintro e w' ⟨rfl, rfl⟩)
      | (go_at_call 91; refine (refDigit_is _ _ HD _).mono ?_; rintro e w' ⟨rfl, rfl⟩))
    all_goals
      go_ret
      exact ⟨ret_bool (by unfold parB; rw [HL.out, HD.out, Bool.eq_iff_iff]; simp; try omega), rfl⟩
theorem refPart_is (c : UInt8) (b : Bool) (H : Hid (parB c = b)) (w : World) :
    Calls Try.prog 87 #[.int .u8 (c.toNat : Int)] w fun e w' => e = .returned (.bool b) ∧ w = w' :=
  (refPart_any c w).mono fun _ _ ⟨he, hw⟩ => ⟨by rw [he, H.out], hw⟩

theorem kws_len : kws.length = 13 := rfl

set_option maxRecDepth 100000 in
set_option maxHeartbeats 1000000 in
theorem refKeyword_any (s : ByteArray) (w : World) :
    Calls Try.prog 86 #[.string s] w fun e w' => e = .returned (.bool (kwB s.data.toList)) ∧ Below w.heap.size w w' := by
  have hkw : kwB s.data.toList = kws.contains s.toList := by rw [ByteArray.toList_eq]; rfl
  obtain ⟨W, hW⟩ : ∃ W, w.alloc (.cells (kws.map fun l => Value.string ⟨l.toArray⟩).toArray 9) = W := ⟨_, rfl⟩
  have hb : Below w.heap.size w W := by rw [← hW]; exact (Below.refl _ _).alloc (Nat.le_refl _) _
  have hc : ∀ k x, kws[k]? = some x → W.cell? ⟨w.heap.size, k, none⟩ = some (.string ⟨x.toArray⟩) := fun k x h => by rw [← hW]; exact texts_new w kws 9 k x h
  have HC := Lib.hid hc
  have HW := Lib.hid hW
  have HK := Lib.hid hkw
  clear hc hW hkw
  go_enter Try.func86, Try.ntmps86
  go_wp2
  have hW := HW.out
  simp only [kws, List.map_cons, List.map_nil] at hW
  rw [hW]
  clear hW
  go_loop [4] (fun i => ∃ k : Nat, k ≤ 13 ∧ i = .int .i64 (k : Nat) ∧ (kws.take k).contains s.toList = false) (fun i => 13 - (intOf i).toNat)
  case atStart => exact ⟨0, by omega, rfl, by simp⟩
  case round =>
    obtain ⟨k, hk, rfl, hn⟩ := hrel
    have HN := Lib.hid hn
    clear hn
    by_cases hlt : k < 13
    · obtain ⟨x, hx⟩ : ∃ x, kws[k]? = some x := ⟨_, List.getElem?_eq_getElem (by rw [kws_len]; exact hlt)⟩
      have hcell := HC.out k x hx
      have hnext : kws.take (k + 1) = kws.take k ++ [x] := by
        obtain ⟨h1, h2⟩ := List.getElem?_eq_some_iff.1 hx
        rw [List.take_succ_eq_append_getElem h1, h2]
      have HX := Lib.hid hx
      have HT := Lib.hid hnext
      clear hx hnext
      by_cases e : x = s.toList
      · have e1 : (x == s.toList) = true := by simp [e]
        have E := Lib.hid e
        clear e
        go_wp2
        go_ret
        refine ⟨ret_bool ?_, hb⟩
        rw [HK.out]
        refine (List.contains_iff_mem.2 ?_).symm
        rw [← E.out]
        exact List.mem_of_getElem? HX.out
      · have e1 : (x == s.toList) = false := by simp [e]
        have E := Lib.hid e
        clear e
        go_wp2
        go_round
        case rel =>
          refine ⟨k + 1, by omega, by go_num, ?_⟩
          rw [HT.out, List.contains_append, HN.out]
          simp
          exact fun h => E.out h.symm
        case measure => simp [intOf]; omega
    · go_wp2
      go_ret
      refine ⟨ret_bool ?_, hb⟩
      have h := HN.out
      rw [show k = 13 from by omega] at h
      rw [HK.out, ← h]; rfl

end Go.Proofs.Ytlfdpfkimggeoaa
namespace Go.Proofs.Ytlfdpfkimggeoaa
open Go.RowKit Go.Shelf

theorem refKeyword_is (s : ByteArray) (b : Bool) (H : Hid (kwB s.data.toList = b)) {B : Nat} {w0 w : World} (hb : Below B w0 w) (hB : B ≤ w0.heap.size) :
    Calls Try.prog 86 #[.string s] w fun e w' => e = .returned (.bool b) ∧ Below w.heap.size w w' ∧ Below B w0 w' :=
  (refKeyword_any s w).mono fun _ _ ⟨he, hw⟩ => ⟨by rw [he, H.out], hw, below_up hb hB hw⟩

theorem data_at (s : ByteArray) (k : Nat) (h : k < s.size) : s.data.toList[k]? = some s[k] := by
  have := byte_at s 0 k (by omega)
  rw [List.drop_zero] at this
  simpa using this
theorem data_take (s : ByteArray) (k : Nat) (h : k < s.size) : s.data.toList.take (k + 1) = s.data.toList.take k ++ [s[k]] := by
  obtain ⟨h1, h2⟩ := List.getElem?_eq_some_iff.1 (data_at s k h)
  rw [List.take_succ_eq_append_getElem h1, h2]

/-- What is known of a text that is not empty. -/
theorem text_pos (s : ByteArray) (h : ¬ s.size = 0) : s.data.toList ≠ [] ∧ (s.toList == []) = false ∧ s.toList ≠ [] ∧ s.data.toList.head? = some s[0] := by
  have hsz := len_data s
  have hne : s.data.toList ≠ [] := by intro e; rw [e] at hsz; simp at hsz; omega
  have hl : (s.toList == []) = false := by
    rw [ByteArray.toList_eq]
    cases hh : s.data.toList with
    | nil => exact absurd hh hne
    | cons c r => rfl
  exact ⟨hne, hl, by intro e; rw [e] at hl; simp at hl, head_at s (by omega)⟩
theorem text_nil (s : ByteArray) (h : s.size = 0) : s.data.toList = [] ∧ s.toList = [] ∧ (!s.toList.isEmpty) = false := by
  have hsz := len_data s
  have hl : s.data.toList = [] := List.eq_nil_of_length_eq_zero (by omega)
  have hl' : s.toList = [] := by rw [ByteArray.toList_eq]; exact hl
  exact ⟨hl, hl', by rw [hl']; rfl⟩

theorem name_is (s : ByteArray) (h : ¬ s.size = 0) : nameB s.data.toList = (decide (s.size ≤ 12) && letB s[0] && !kwB s.data.toList && s.data.toList.all parB) := by
  obtain ⟨hne, _, _, hhd⟩ := text_pos s h
  have hsz := len_data s
  cases hh : s.data.toList with
  | nil => exact absurd hh hne
  | cons c r =>
    rw [hh] at hhd hsz
    simp at hhd
    rw [nameB, hsz, ← hhd]

set_option maxHeartbeats 1000000 in
theorem refName_any (s : ByteArray) (hs : s.size ≤ 9223372036854775807) (w : World) :
    Calls Try.prog 75 #[.string s] w fun e w' => e = .returned (.bool (nameB s.data.toList)) ∧ Below w.heap.size w w' := by
  have hb := Below.refl w.heap.size w
  by_cases h0 : s.size = 0
  · obtain ⟨hn, hl, hl'⟩ := text_nil s h0
    have HN := Lib.hid hn
    clear hn
    go_enter Try.func75, Try.ntmps75
    go_wp2
    go_ret
    exact ⟨ret_bool (by rw [HN.out]; rfl), hb⟩
  · have hnm := name_is s h0
    obtain ⟨hne, hl, hl', hhd⟩ := text_pos s h0
    have hpos : 0 < s.size := by omega
    have HN := Lib.hid hnm
    clear hne hhd hnm
    by_cases h12 : 12 < s.size
    · go_enter Try.func75, Try.ntmps75
      go_wp2
      go_ret
      exact ⟨ret_bool (by rw [HN.out, decide_eq_false (by omega)]; rfl), hb⟩
    · obtain ⟨b, hlb⟩ : ∃ b, letB s[0] = b := ⟨_, rfl⟩
      have HB := Lib.hid hlb
      clear hlb
      cases b
      · go_enter Try.func75, Try.ntmps75
        go_wp2_with (go_at_call 85; refine (refLetter_is _ _ HB _).mono ?_; rintro e w' ⟨rfl, rfl⟩)
        go_ret
        exact ⟨ret_bool (by rw [HN.out, HB.out]; simp), hb⟩
      · obtain ⟨k, hk⟩ : ∃ k, kwB s.data.toList = k := ⟨_, rfl⟩
        have HK := Lib.hid hk
        clear hk
        cases k
        · go_enter Try.func75, Try.ntmps75
          go_wp2_with (first
            | (go_at_call 85; refine (refLetter_is _ _ HB _).mono ?_; rintro e w' ⟨rfl, rfl⟩)
            | (go_at_call 86; refine (refKeyword_is _ _ HK hb (Nat.le_refl _)).mono ?_; clear hb; rintro e w1 ⟨rfl, _, hb⟩))
          go_loop [3] (fun i => ∃ k : Nat, k ≤ s.size ∧ i = .int .i64 (k : Nat) ∧ (s.data.toList.take k).all parB = true) (fun i => s.size - (intOf i).toNat)
          case atStart => exact ⟨0, by omega, rfl, by simp⟩
          case round =>
            obtain ⟨k, hk, rfl, ha⟩ := hrel
            have HA := Lib.hid ha
            clear ha
            by_cases hlt : k < s.size
            · obtain ⟨p, hp⟩ : ∃ p, parB s[k] = p := ⟨_, rfl⟩
              have HP := Lib.hid hp
              clear hp
              cases p
              · go_wp2_with (go_at_call 87; refine (refPart_is _ _ HP _).mono ?_; rintro e w' ⟨rfl, rfl⟩)
                go_ret
                refine ⟨ret_bool ?_, hb⟩
                rw [HN.out]
                have : s.data.toList.all parB = false := by
                  rw [List.all_eq_false]
                  exact ⟨_, List.mem_of_getElem? (data_at s k hlt), by rw [HP.out]; simp⟩
                rw [this]; simp
              · go_wp2_with (go_at_call 87; refine (refPart_is _ _ HP _).mono ?_; rintro e w' ⟨rfl, rfl⟩)
                go_round
                case rel =>
                  refine ⟨k + 1, by omega, by go_num, ?_⟩
                  rw [data_take s k hlt, List.all_append, HA.out, List.all_cons, HP.out]; rfl
                case measure => simp [intOf]; omega
            · go_wp2
              go_ret
              refine ⟨ret_bool ?_, hb⟩
              have ha := HA.out
              rw [List.take_of_length_le (by rw [len_data]; omega)] at ha
              rw [HN.out, ha, HB.out, HK.out, decide_eq_true (by omega)]; rfl
        · go_enter Try.func75, Try.ntmps75
          go_wp2_with (first
            | (go_at_call 85; refine (refLetter_is _ _ HB _).mono ?_; rintro e w' ⟨rfl, rfl⟩)
            | (go_at_call 86; refine (refKeyword_is _ _ HK hb (Nat.le_refl _)).mono ?_; clear hb; rintro e w1 ⟨rfl, _, hb⟩))
          go_ret
          exact ⟨ret_bool (by rw [HN.out, HB.out, HK.out]; simp), hb⟩

theorem valF_snoc (l : List UInt8) (c : UInt8) : valF 0 (l ++ [c]) = 10 * valF 0 l + (c.toNat - 48) := by rw [valF_append]; rfl
theorem valF_five : ∀ (l : List UInt8), l.all digB = true → valF 0 l < 10 ^ l.length := by
  intro l
  have h : ∀ (l : List UInt8) (n : Nat), l.all digB = true → valF n l < (n + 1) * 10 ^ l.length := by
    intro l
    induction l with
    | nil => intro n _; simp [valF]
    | cons c r ih =>
      intro n ha
      rw [List.all_cons, Bool.and_eq_true] at ha
      have e : valF n (c :: r) = valF (10 * n + (c.toNat - 48)) r := rfl
      have hd := ha.1
      unfold digB at hd
      simp at hd
      have := ih (10 * n + (c.toNat - 48)) ha.2
      rw [e, List.length_cons, Nat.pow_succ]
      refine Nat.lt_of_lt_of_le this ?_
      rw [Nat.mul_comm (10 ^ r.length) 10, ← Nat.mul_assoc]
      exact Nat.mul_le_mul_right _ (by omega)
  intro ha
  have := h l 0 ha
  simpa using this

end Go.Proofs.Ytlfdpfkimggeoaa
namespace Go.Proofs.Ytlfdpfkimggeoaa
open Go.RowKit
set_option linter.unusedVariables false
set_option linter.unusedSimpArgs false

theorem refPlace_is (n : Int) (many : Nat) (hm : many ≤ 9223372036854775807) (b : Bool) (H : Hid (placeB n many = b)) (w : World) :
    Calls Try.prog 76 #[.int .i64 n, .int .i64 (many : Int)] w fun e w' => e = .returned (.bool b) ∧ w = w' := by
  have hb : b = (decide (0 ≤ n) && decide (n < (many : Int))) := by rw [← H.out]; rfl
  by_cases h0 : 0 ≤ n
  · go_enter Try.func76, Try.ntmps76
    go_wp2
    go_ret
    exact ⟨ret_bool (by first | (rw [hb]; simp [h0]; done) | (simp; omega)), rfl⟩
  · go_enter Try.func76, Try.ntmps76
    go_wp2
    go_ret
    exact ⟨ret_bool (by first | (rw [hb]; simp [h0]; done) | (simp; omega)), rfl⟩

theorem RowAt.str {w : World} {B : Nat} {A : Option Addr} {l : List ByteArray} (h : RowAt w B A (l.map Value.string)) {k : Nat} {x : ByteArray} (hk : l[k]? = some x) :
    ∃ g, A = some ⟨g, 0, none⟩ ∧ g < B ∧ ∀ j y, l[j]? = some y → w.cell? ⟨g, j, none⟩ = some (.string y) := by
  obtain ⟨g, hA, hb, hc⟩ := h (by intro e; rw [List.map_eq_nil_iff] at e; rw [e] at hk; simp at hk)
  exact ⟨g, hA, hb, fun j y hj => hc j _ (by rw [List.getElem?_map, hj]; rfl)⟩
theorem str_same (a : ByteArray) : (a.toList == a.toList) = true := beq_self_eq_true _

/-- A name that no one ahead has. -/
def nameAt (xs : List ByteArray) (i : Nat) (x : ByteArray) : Bool := nameB x.data.toList && (xs.take i).all fun y => decide (x ≠ y)
set_option maxHeartbeats 4000000 in
set_option maxRecDepth 100000 in
theorem refNames_any (xs : List ByteArray) {A : Option Addr} {n c : Nat} {w : World} (hA : RowAt w w.heap.size A (xs.map Value.string)) (hn : Hid (xs.length = n)) (hm : n ≤ 100000) (hsz : ∀ x ∈ xs, x.size ≤ 9223372036854775807) :
    Calls Try.prog 58 #[.slice A n c] w fun e w' => e = .returned (.bool (allF (nameAt xs) xs 0)) ∧ Below w.heap.size w w' := by
  have hb0 := Below.refl w.heap.size w
  have HSZ := Lib.hid hsz
  clear hsz
  go_enter Try.func58, Try.ntmps58
  go_wp2
  go_loopw [3] (fun s wr => ∃ k : Nat, k ≤ n ∧ s = .int .i64 (k : Nat) ∧ AllAt (nameAt xs) xs k ∧ Below w.heap.size w wr) (fun s _ => n - (intOf s).toNat)
  case atStart => exact ⟨0, Nat.zero_le _, rfl, AllAt.start _ _, hb0⟩
  case round =>
    clear hb0
    obtain ⟨k, hk, rfl, hat, hb⟩ := hrel
    by_cases hlt : k < n
    · obtain ⟨x, hx⟩ : ∃ x, xs[k]? = some x := ⟨_, List.getElem?_eq_getElem (by rw [hn.out]; exact hlt)⟩
      obtain ⟨g, hAg, hg, hc⟩ := (hA.up hb).str hx
      have hcx := hc k x hx
      have HC := Lib.hid hc
      have n0 : (0 : Int) ≤ (k : Int) := by omega
      have n1 : (k : Int) < (n : Int) := by omega
      have hxz := HSZ.out x (List.mem_of_getElem? hx)
      obtain ⟨b1, e1⟩ : ∃ b, nameB x.data.toList = b := ⟨_, rfl⟩
      have HX := Lib.hid hx
      have HAT := Lib.hid hat
      subst hAg
      clear hc hat hx
      cases b1
      · have HF : Hid (allF (nameAt xs) xs 0 = false) := Lib.hid (HAT.out.stop HX.out (by unfold nameAt; rw [e1]; rfl))
        have H1 := Lib.hid e1
        clear e1
        go_wp2_with (go_at_call 75; (refine (refName_any x hxz _).mono ?_; rw [H1.out]; rintro e w2 ⟨rfl, hb2⟩))
        go_ret
        exact ⟨ret_bool HF.out.symm, hb.trans (hb2.mono hb.size)⟩
      · have H1 := Lib.hid e1
        clear e1
        go_wp2_with (go_at_call 75; (refine (refName_any x hxz _).mono ?_; rw [H1.out]; rintro e w2 ⟨rfl, hb2⟩))
        have hbw := hb.trans (hb2.mono hb.size)
        have HC2 := Lib.hid fun (j : Nat) (y : ByteArray) (h : xs[j]? = some y) => (hb2.cell (p := ⟨g, j, none⟩) hg).trans (HC.out j y h)
        have hg2 := Nat.lt_of_lt_of_le hg hb2.size
        clear hb hb2 hcx hg
        go_loopw [4] (fun s wr2 => ∃ j : Nat, j ≤ k ∧ s = .int .i64 (j : Nat) ∧ (xs.take j).all (fun y => decide (x ≠ y)) = true ∧ Below w2.heap.size w2 wr2) (fun s _ => k - (intOf s).toNat)
        case atStart => exact ⟨0, Nat.zero_le _, rfl, by simp, Below.refl _ _⟩
        case round =>
          obtain ⟨j, hj, rfl, hall, hb3⟩ := hrel
          have hbx := hbw.trans (hb3.mono hbw.size)
          by_cases hlt2 : j < k
          · obtain ⟨y, hy⟩ : ∃ y, xs[j]? = some y := ⟨_, List.getElem?_eq_getElem (by rw [hn.out]; omega)⟩
            have cy := (hb3.cell (p := ⟨g, j, none⟩) hg2).trans (HC2.out j y hy)
            have cx := (hb3.cell (p := ⟨g, k, none⟩) hg2).trans (HC2.out k x HX.out)
            have HY := Lib.hid hy
            have HALL := Lib.hid hall
            have j0 : (0 : Int) ≤ (j : Int) := by omega
            have j1 : (j : Int) < (n : Int) := by omega
            have j2 : (j : Int) < (k : Int) := by omega
            clear hy hall
            by_cases e : x = y
            · have HF : Hid (allF (nameAt xs) xs 0 = false) := Lib.hid (HAT.out.stop HX.out (by
                unfold nameAt
                rw [H1.out, Bool.true_and, List.all_eq_false]
                exact ⟨y, List.mem_of_getElem? (i := j) (by rw [List.getElem?_take_of_lt hlt2]; exact HY.out), by simp [e]⟩))
              have t1 : (x.toList == y.toList) = true := by rw [e]; exact str_same y
              clear e
              go_upto_region 9 with (fail)
              go_quiet (fail)
              go_wp2
              go_ret
              exact ⟨ret_bool HF.out.symm, below_draws hbx _⟩
            · have HN : Hid ((xs.take (j + 1)).all (fun y => decide (x ≠ y)) = true) := Lib.hid (by
                rw [List.take_add_one, HY.out, List.all_append, HALL.out]
                simp [e])
              have t1 := str_ne e
              clear e
              go_upto_region 9 with (fail)
              go_quiet (fail)
              go_wp2
              go_roundw
              case rel => exact ⟨j + 1, by omega, by go_num, HN.out, below_draws hb3 _⟩
              case measure => simp [intOf]; omega
          · have hjk : j = k := by omega
            subst hjk
            have hat' := HAT.out.next HX.out (by unfold nameAt; rw [H1.out, hall]; rfl)
            have HAT2 := Lib.hid hat'
            have hge : ¬ (j : Int) < (j : Int) := by omega
            clear hall hat'
            go_wp2
            go_roundw
            case rel => exact ⟨j + 1, by omega, by go_num, HAT2.out, hbx⟩
            case measure => simp [intOf]; omega
    · have HF : Hid (allF (nameAt xs) xs 0 = true) := Lib.hid (hat.done (by rw [hn.out]; omega))
      go_wp2
      go_ret
      exact ⟨ret_bool HF.out.symm, hb⟩
end Go.Proofs.Ytlfdpfkimggeoaa
