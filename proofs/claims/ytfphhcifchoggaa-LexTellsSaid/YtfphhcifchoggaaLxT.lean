/-
  The document's own Lex.
-/
import Derived.Test.YtfphhcifchoggaaLxS
namespace Go.Proofs.Ytfphhcifchoggaa
open Go.RowKit Go.Shelf

/-- Where the document's Lex stands. -/
def RefAt (l : List UInt8) (T : List Tok) (p : Nat) : Prop := p ≤ l.length ∧ T.length ≤ p ∧ scan l 0 = (T ++ (scan (l.drop p) p).1, (scan (l.drop p) p).2)
theorem RefAt.start (l : List UInt8) : RefAt l [] 0 := ⟨Nat.zero_le _, Nat.le_refl _, by simp⟩
theorem RefAt.bla {l : List UInt8} {T : List Tok} {p : Nat} (h : RefAt l T p) {c : UInt8} (hc : l.drop p = c :: l.drop (p + 1)) (hp : p < l.length) (hb : blaB c = true) : RefAt l T (p + 1) := by
  obtain ⟨h1, h2, h3⟩ := h
  refine ⟨by omega, by omega, ?_⟩
  rw [hc, scan_bla c _ p hb] at h3
  exact h3
theorem RefAt.line {l : List UInt8} {T : List Tok} {p : Nat} (h : RefAt l T p) {c : UInt8} (hc : l.drop p = c :: l.drop (p + 1)) (hp : p < l.length) (h35 : c.toNat = 35) : 1 ≤ lineN (l.drop p) ∧ RefAt l T (p + lineN (l.drop p)) := by
  obtain ⟨h1, h2, h3⟩ := h
  have hl := lineN_le (l.drop (p + 1))
  rw [List.length_drop] at hl
  have e : lineN (l.drop p) = lineN (l.drop (p + 1)) + 1 := by rw [hc, lineN_on c _ (by omega)]
  rw [hc, scan_line c _ p h35, List.drop_drop] at h3
  rw [e]
  refine ⟨by omega, by omega, by omega, ?_⟩
  rw [show p + (lineN (l.drop (p + 1)) + 1) = p + 1 + lineN (l.drop (p + 1)) by omega]
  exact h3
theorem RefAt.step {l : List UInt8} {T : List Tok} {p : Nat} (h : RefAt l T p) {c : UInt8} (hc : l.drop p = c :: l.drop (p + 1)) (hp : p < l.length) (hl : l.length ≤ 10000) (hb : ¬ blaB c = true) (h35 : ¬ c.toNat = 35) {t : Tok} (ht : tokB (l.drop p) p = t) :
    (t.1 = 0 ∧ lexT l = [] ∧ lexE l = 21 ∧ lexP l = p) ∨ (t.1 ≠ 0 ∧ 1 ≤ t.2.1.length ∧ p + t.2.1.length ≤ l.length ∧ RefAt l (T ++ [t]) (p + t.2.1.length)) := by
  obtain ⟨h1, h2, h4⟩ := h
  subst ht
  rcases tok_step (l.drop p) p c _ hc hb h35 with ⟨e1, e2⟩ | ⟨e1, e2, e3, e4⟩
  · left
    rw [e2] at h4
    refine ⟨e1, ?_, ?_, ?_⟩
    · unfold lexT; rw [if_neg (by omega), h4]; simp
    · unfold lexE; rw [if_neg (by omega), h4]; simp
    · unfold lexP; rw [if_neg (by omega), h4]; rfl
  · right
    rw [List.length_drop] at e3
    obtain ⟨k, hk⟩ : ∃ k, (tokB (l.drop p) p).2.1.length = k := ⟨_, rfl⟩
    rw [hk] at e2 e3 e4 ⊢
    rw [List.drop_drop] at e4
    refine ⟨e1, e2, by omega, by omega, by rw [List.length_append]; simp; omega, ?_⟩
    rw [h4, e4]; simp
theorem RefAt.done {l : List UInt8} {T : List Tok} {p : Nat} (h : RefAt l T p) (hp : ¬ p < l.length) (hl : l.length ≤ 10000) : lexT l = T ++ [(4, [], 0, l.length)] ∧ lexE l = 0 ∧ lexP l = 0 := by
  obtain ⟨h1, h2, h4⟩ := h
  rw [List.drop_of_length_le (by omega), scan_nil] at h4
  refine ⟨?_, ?_, ?_⟩
  · unfold lexT; rw [if_neg (by omega), h4]; simp
  · unfold lexE; rw [if_neg (by omega), h4]; simp
  · unfold lexP; rw [if_neg (by omega), h4]; rfl

theorem take_in (q : UInt8 → Bool) : ∀ (l : List UInt8) (m : Nat), m < (l.takeWhile q).length → q (l.getD m 0) = true
  | [], m, h => by simp at h
  | c :: r, m, h => by
    rw [List.takeWhile_cons] at h
    cases hc : q c with
    | false => rw [hc] at h; simp at h
    | true =>
      rw [hc] at h
      cases m with
      | zero => simpa using hc
      | succ m => simpa using take_in q r m (by simpa using h)
theorem take_out (q : UInt8 → Bool) : ∀ (l : List UInt8), (l.takeWhile q).length < l.length → q (l.getD (l.takeWhile q).length 0) = false
  | [], h => by simp at h
  | c :: r, h => by
    rw [List.takeWhile_cons] at h ⊢
    cases hc : q c with
    | false => simpa using hc
    | true =>
      rw [hc] at h
      simpa using take_out q r (by simpa using h)

theorem drop_at (s : ByteArray) (p : Nat) (h : p < s.size) : s.data.toList.drop p = s[p] :: s.data.toList.drop (p + 1) := by
  obtain ⟨h1, h2⟩ := List.getElem?_eq_some_iff.1 (data_at s p h)
  rw [List.drop_eq_getElem_cons h1, h2]

theorem refName_is (s : ByteArray) (hs : s.size ≤ 9223372036854775807) (b : Bool) (H : Hid (nameB s.data.toList = b)) {B : Nat} {w0 w : World} (hb : Below B w0 w) (hB : B ≤ w0.heap.size) :
    Calls Try.prog 17 #[.string s] w fun e w' => e = .returned (.bool b) ∧ Below w.heap.size w w' ∧ Below B w0 w' :=
  (refName_any s hs w).mono fun _ _ ⟨he, hw⟩ => ⟨by rw [he, H.out], hw, below_up hb hB hw⟩
theorem refNumber_is (s : ByteArray) (hs : s.size ≤ 9223372036854775807) (q : Int) (H : Hid (numB s.data.toList = q)) (w : World) :
    Calls Try.prog 19 #[.string s] w fun e w' => e = .returned (.int .i64 q) ∧ w = w' :=
  (refNumber_any s hs w).mono fun _ _ ⟨he, hw⟩ => ⟨by rw [he, H.out], hw⟩

/-- The token at a place, by its parts. -/
theorem tok_stop' (l : List UInt8) (p : Nat) (h59 : (l.getD 0 0).toNat = 59) : tokB l p = (3, [59], 0, p) := by unfold tokB; rw [if_pos h59]
theorem tok_word' (l : List UInt8) (p : Nat) (h59 : ¬ (l.getD 0 0).toNat = 59) (h : kwB (l.take (wordN l)) = true ∨ nameB (l.take (wordN l)) = true) : tokB l p = (1, l.take (wordN l), 0, p) := by
  unfold tokB; rw [if_neg h59, if_pos h]
theorem tok_num' (l : List UInt8) (p : Nat) (h59 : ¬ (l.getD 0 0).toNat = 59) (hk : kwB (l.take (wordN l)) = false) (hn : nameB (l.take (wordN l)) = false) (q : Int) (hq : numB (l.take (wordN l)) = q) (h0 : 0 ≤ q) : tokB l p = (2, l.take (wordN l), q, p) := by
  unfold tokB; rw [if_neg h59, if_neg (by rw [hk, hn]; simp), hq, if_pos h0]
theorem tok_none' (l : List UInt8) (p : Nat) (h59 : ¬ (l.getD 0 0).toNat = 59) (hk : kwB (l.take (wordN l)) = false) (hn : nameB (l.take (wordN l)) = false) (q : Int) (hq : numB (l.take (wordN l)) = q) (h0 : ¬ 0 ≤ q) : tokB l p = (0, [], 0, 0) := by
  unfold tokB; rw [if_neg h59, if_neg (by rw [hk, hn]; simp), hq, if_neg h0]

set_option maxRecDepth 100000 in
set_option maxHeartbeats 4000000 in
theorem refLex_any (s : ByteArray) (hs : s.size ≤ 9223372036854775807) (w : World) : Calls Try.prog 14 #[.string s] w (LexAs s.data.toList w) := by
  have hsz := len_data s
  by_cases hbig : 10000 < s.size
  · have e1 : lexT s.data.toList = [] := by unfold lexT; rw [if_pos (by omega)]
    have e2 : lexE s.data.toList = 20 := by unfold lexE; rw [if_pos (by omega)]
    have e3 : lexP s.data.toList = 10000 := by unfold lexP; rw [if_pos (by omega)]
    have E1 := Lib.hid e1
    have E2 := Lib.hid e2
    have E3 := Lib.hid e3
    clear e1 e2 e3 hsz
    go_enter Try.func14, Try.ntmps14
    go_wp2
    go_ret3
    refine ⟨none, 0, by rw [E1.out, E2.out, E3.out]; rfl, ?_, Below.refl _ _⟩
    rw [E1.out]; exact CellsAt.nil _ _ _
  · obtain ⟨i0, hi, hz0, hz1, hz2⟩ := info_parts tokInfo
    have HSZ := Lib.hid hsz
    clear hsz
    go_enter Try.func14, Try.ntmps14
    go_wp2
    go_loopw [5, 6] (fun v i wr => ∃ T p, i = .int .i64 (p : Nat) ∧ RefAt s.data.toList T p ∧ wr.ownsRow w.heap.size 39 4 v T.length (toksCells T) ∧ Below w.heap.size w wr) (fun _ i _ => s.size - (intOf i).toNat)
    case atStart => exact ⟨[], 0, rfl, RefAt.start _, World.ownsRow_nil _ _ _ _, Below.refl _ _⟩
    case round =>
      obtain ⟨T, p, rfl, hat, hown, hb⟩ := hrel
      have hps : p ≤ s.size := by rw [← HSZ.out]; exact hat.1
      have hTp := hat.2.1
      by_cases hlt : p < s.size
      · have hdr := drop_at s p hlt
        have HD := Lib.hid hdr
        have HAT := Lib.hid hat
        obtain ⟨n, hn⟩ : ∃ n, wordN (s.data.toList.drop p) = n := ⟨_, rfl⟩
        have hwl := wordN_le (s.data.toList.drop p)
        rw [List.length_drop, HSZ.out, hn] at hwl
        have hpn : p + n ≤ s.size := by omega
        obtain ⟨x, hx⟩ : ∃ x, s.extract p (p + n) = x := ⟨_, rfl⟩
        have hxs : x.size ≤ 10000 := by rw [← hx, ByteArray.size_extract]; omega
        have hsl : ∀ W : World, (Instr.slice 9 (.string s) (some (.int .i64 (p : Int))) (some (.int .i64 ((p : Int) + (n : Int)))) none).run Try.prog W = .ok (.string x) W := fun W => by
          rw [run_slice_string W 9 s .i64 .i64 (p : Int) ((p : Int) + (n : Int)) Try.underlying9 (by omega) (by omega) (by omega), ← hx]
          rfl
        have hwd := word_data s p
        have hwt := word_text s p
        rw [hn, hx] at hwd hwt
        have HWD := Lib.hid hwd
        have HWT := Lib.hid hwt
        have HN := Lib.hid hn
        clear hdr hat hn hx hwd hwt hwl
        go_wp2
        obtain ⟨wo, rfl⟩ : ∃ wo : World, wo = wr := ⟨_, rfl⟩
        go_loop [7] (fun k => ∃ m : Nat, m ≤ n ∧ k = .int .i64 ((p + m : Nat) : Int)) (fun k => s.size - (intOf k).toNat)
        case atStart => exact ⟨0, Nat.zero_le _, rfl⟩
        case round =>
          obtain ⟨m, hm, rfl⟩ := hrel
          by_cases hmn : m < n
          · have hpm : p + m < s.size := by omega
            have hpar := take_in parB (s.data.toList.drop p) m (by have := HN.out; unfold wordN at this; omega)
            rw [byteD s p m hpm] at hpar
            have HP := Lib.hid hpar
            clear hpar
            go_wp2_with (go_at_call 26; refine (refPart_is _ _ HP _).mono ?_; rintro e w' ⟨rfl, rfl⟩)
            go_round
            case rel => exact ⟨m + 1, by omega, by go_num⟩
            case measure => simp [intOf]; omega
          · obtain rfl : n = m := by omega
            have hends : s.size ≤ p + n ∨ (p + n < s.size ∧ Hid (∀ h : p + n < s.size, parB (s[p + n]'h) = false)) := by
              rcases Nat.lt_or_ge (p + n) s.size with h | h
              · refine .inr ⟨h, fun h' => ?_⟩
                have := take_out parB (s.data.toList.drop p) (by have e := HN.out; unfold wordN at e; rw [e, List.length_drop, len_data]; omega)
                have e := HN.out
                unfold wordN at e
                rw [e, byteD s p n h'] at this
                exact this
              · exact .inl (by omega)
            have hhd : (s.data.toList.drop p).getD 0 0 = s[p] := by have := byteD s p 0 hlt; simpa using this
            have HH := Lib.hid hhd
            clear hhd
            have hkinds : ((s[p].toNat : Int) = 32 ∨ (s[p].toNat : Int) = 9 ∨ (s[p].toNat : Int) = 10) ∨ (s[p].toNat : Int) = 35 ∨ (s[p].toNat : Int) = 59 ∨
                (((s[p].toNat : Int) == 32) = false ∧ ((s[p].toNat : Int) == 9) = false ∧ ((s[p].toNat : Int) == 10) = false ∧ ((s[p].toNat : Int) == 35) = false ∧ ((s[p].toNat : Int) == 59) = false ∧ Hid (¬ blaB s[p] = true ∧ ¬ s[p].toNat = 35 ∧ ¬ s[p].toNat = 59)) := by
              simp only [beq_eq_false_iff_ne]
              by_cases hb : blaB s[p] = true
              · left; unfold blaB at hb; simp at hb; omega
              · by_cases h35 : s[p].toNat = 35
                · right; left; omega
                · by_cases h59 : s[p].toNat = 59
                  · right; right; left; omega
                  · right; right; right
                    have hb' := hb
                    unfold blaB at hb'
                    simp at hb'
                    exact ⟨by omega, by omega, by omega, by omega, by omega, hb, h35, h59⟩
            rcases hkinds with hbl | h35 | h59 | ⟨k1, k2, k3, k4, k5, HO⟩
            · have hnext := HAT.out.bla HD.out (by rw [HSZ.out]; exact hlt) (by unfold blaB; simp; omega)
              have HX := Lib.hid hnext
              clear hnext
              rcases hbl with h | h | h <;> rcases hends with hend | ⟨hend, HE⟩
              all_goals
                try have HP := Lib.hid (HE hend)
                go_wp2_with (first
                  | (go_at_call 26; refine (refPart_is _ _ HP _).mono ?_; rintro e w' ⟨rfl, rfl⟩))
                refine ⟨⟨T, p + 1, congrArg (Value.int .i64) (by omega), HX.out, hown, hb⟩, by simp only [intOf]; omega⟩
            · obtain ⟨hl1, hnext⟩ := HAT.out.line HD.out (by rw [HSZ.out]; exact hlt) (by omega)
              obtain ⟨r, hr⟩ : ∃ r, lineN (s.data.toList.drop p) = r := ⟨_, rfl⟩
              rw [hr] at hl1 hnext
              have hpr : p + r ≤ s.size := by rw [← HSZ.out]; exact hnext.1
              have HX := Lib.hid hnext
              have HR := Lib.hid hr
              clear hnext hr
              rcases hends with hend | ⟨hend, HE⟩
              all_goals
                try have HP := Lib.hid (HE hend)
                go_wp2_with (first
                  | (go_at_call 26; refine (refPart_is _ _ HP _).mono ?_; rintro e w' ⟨rfl, rfl⟩))
                go_loop [6] (fun i => ∃ m : Nat, m ≤ r ∧ i = .int .i64 ((p + m : Nat) : Int)) (fun i => s.size - (intOf i).toNat)
                case atStart => exact ⟨0, Nat.zero_le _, rfl⟩
                case round =>
                  obtain ⟨m, hm, rfl⟩ := hrel
                  by_cases hmr : m < r
                  · have hpm : p + m < s.size := by omega
                    have hline := take_in (fun c => !decide (c.toNat = 10)) (s.data.toList.drop p) m (by have := HR.out; unfold lineN at this; omega)
                    rw [byteD s p m hpm] at hline
                    have hne : ((s[p + m].toNat : Int) != 10) = true := by simp at hline; rw [bne_iff_ne]; omega
                    clear hline
                    go_wp2
                    go_round
                    case rel => exact ⟨m + 1, by omega, by go_num⟩
                    case measure => simp [intOf]; omega
                  · obtain rfl : r = m := by omega
                    rcases Nat.lt_or_ge (p + r) s.size with hpm | hpm
                    · have hline := take_out (fun c => !decide (c.toNat = 10)) (s.data.toList.drop p) (by have e := HR.out; unfold lineN at e; rw [e, List.length_drop, len_data]; omega)
                      have e := HR.out
                      unfold lineN at e
                      rw [e, byteD s p r hpm] at hline
                      have hne : ((s[p + r].toNat : Int) != 10) = false := by simp at hline; rw [bne_eq_false_iff_eq]; omega
                      clear hline e
                      go_wp2
                      refine ⟨⟨T, p + r, congrArg (Value.int .i64) (by omega), HX.out, hown, hb⟩, by simp only [intOf]; omega⟩
                    · go_wp2
                      refine ⟨⟨T, p + r, congrArg (Value.int .i64) (by omega), HX.out, hown, hb⟩, by simp only [intOf]; omega⟩
            · have htk := tok_stop' (s.data.toList.drop p) p (by rw [HH.out]; omega)
              rcases HAT.out.step HD.out (by rw [HSZ.out]; exact hlt) (by rw [HSZ.out]; omega) (by unfold blaB; simp; omega) (by omega) htk with ⟨h0, _⟩ | ⟨_, _, _, hnext⟩
              · cases h0
              · have HX := Lib.hid hnext
                clear hnext htk
                rcases hends with hend | ⟨hend, HE⟩
                all_goals
                  try have HP := Lib.hid (HE hend)
                  go_wp2_with (first
                    | (go_at_call 26; refine (refPart_is _ _ HP _).mono ?_; rintro e w' ⟨rfl, rfl⟩)
                    | (at_builtin; refine wpList_append_own _ rfl _ _ 30 rfl w.heap.size 39 i0 (.agg #[.int .i64 0, .string ⟨#[]⟩, .int .i64 0, .int .i64 0]) 4 40 Try.underlying30 hi hz0 hz1 hz2 rfl (by decide) _ _ _ rfl (hown.alloc _) ⟨wo.heap.size, 0, none⟩ 1 1 [.int .i64 3, .string ⟨#[59]⟩, .int .i64 0, .int .i64 (p : Int)] rfl rfl (cells_new _ _ _) (by simp [Value.oneCell']) (by unfold maxLen; omega) (by omega) (by have := hb.size; simp; omega) ?_; intro v' w4 hown4 hgrow4 _; have hb5 := (hb.alloc hb.size _).grown hgrow4 (by have := hb.size; simp; omega) (fun g hg => (hown.lt _ hg).1); clear hgrow4 hb hown))
                  have e : (T ++ [(3, [59], 0, p)] : List Tok).length = T.length + 1 := by rw [List.length_append]; rfl
                  refine ⟨⟨T ++ [(3, [59], 0, p)], p + 1, congrArg (Value.int .i64) (by omega), HX.out, by rw [e, toksCells_snoc]; exact hown4, hb5⟩, by simp only [intOf]; omega⟩
            · obtain ⟨ho1, ho2, ho3⟩ := HO.out
              have h59 : ¬ ((s.data.toList.drop p).getD 0 0).toNat = 59 := by rw [HH.out]; exact ho3
              have hxl : x.data.toList.length = n := by rw [HWD.out, List.length_take, List.length_drop, len_data]; omega
              have hxd : (s.data.toList.drop p).take (wordN (s.data.toList.drop p)) = x.data.toList := by rw [HN.out, HWD.out]
              have hstep := fun t ht => HAT.out.step (t := t) HD.out (by rw [HSZ.out]; exact hlt) (by rw [HSZ.out]; omega) ho1 ho2 ht
              obtain ⟨k, hk⟩ : ∃ k, kwB x.data.toList = k := ⟨_, rfl⟩
              obtain ⟨m, hm⟩ : ∃ m, nameB x.data.toList = m := ⟨_, rfl⟩
              obtain ⟨q, hq⟩ : ∃ q, numB x.data.toList = q := ⟨_, rfl⟩
              have hq1 := num_ge x.data.toList
              have hq2 := num_le x.data.toList
              rw [hq] at hq1 hq2
              have HK := Lib.hid hk
              have HM := Lib.hid hm
              have HQ := Lib.hid hq
              clear ho1 ho2 ho3
              cases k
              · cases m
                · by_cases h0 : 0 ≤ q
                  · have htk : tokB (s.data.toList.drop p) p = (2, x.data.toList, q, p) := by rw [tok_num' (s.data.toList.drop p) p h59 (by rw [hxd]; exact hk) (by rw [hxd]; exact hm) q (by rw [hxd]; exact hq) h0, hxd]
                    rcases hstep _ htk with ⟨h0, _⟩ | ⟨_, hn1, _, hnext⟩
                    · cases h0
                    · dsimp only at hn1 hnext
                      rw [hxl] at hn1 hnext
                      have HX := Lib.hid hnext
                      have HST := Lib.hid hstep
                      have HXL := Lib.hid hxl
                      have HXD := Lib.hid hxd
                      have H59 := Lib.hid h59
                      have hcs : tokCells (2, x.data.toList, q, p) = [.int .i64 2, .string x, .int .i64 q, .int .i64 (p : Int)] := by unfold tokCells; rw [Lib.mk_data]
                      have HCS := Lib.hid hcs
                      clear hnext htk hstep hxl hxd h59 hcs hk hm hq
                      rcases hends with hend | ⟨hend, HE⟩
                      all_goals
                        try have HP := Lib.hid (HE hend)
                        go_wp2_with (first
                          | (go_at_call 26; refine (refPart_is _ _ HP _).mono ?_; rintro e w' ⟨rfl, rfl⟩)
                          | (go_at_call 21; refine (refKeyword_is _ _ HK hb (Nat.le_refl _)).mono ?_; clear hb; rintro e w1 ⟨rfl, hb1, hb⟩; have hown1 := own_below hown hb1; clear hb1 hown)
                          | (go_at_call 17; refine (refName_is _ (by omega) _ HM hb (Nat.le_refl _)).mono ?_; clear hb; rintro e w2 ⟨rfl, hb1, hb⟩; have hown := own_below hown1 hb1; clear hb1 hown1)
                          | (go_at_call 19; refine (refNumber_is _ (by omega) _ HQ _).mono ?_; rintro e w' ⟨rfl, rfl⟩)
                          | (at_builtin; refine wpList_append_own _ rfl _ _ 30 rfl w.heap.size 39 i0 (.agg #[.int .i64 0, .string ⟨#[]⟩, .int .i64 0, .int .i64 0]) 4 40 Try.underlying30 hi hz0 hz1 hz2 rfl (by decide) _ _ _ rfl (hown.alloc _) ⟨w2.heap.size, 0, none⟩ 1 1 [.int .i64 2, .string x, .int .i64 q, .int .i64 (p : Int)] rfl rfl (cells_new _ _ _) (by simp [Value.oneCell']) (by unfold maxLen; omega) (by omega) (by have := hb.size; simp; omega) ?_; intro v' w4 hown4 hgrow4 _; have hb5 := (hb.alloc hb.size _).grown hgrow4 (by have := hb.size; simp; omega) (fun g hg => (hown.lt _ hg).1); clear hgrow4 hb hown))
                        have e : (T ++ [(2, x.data.toList, q, p)] : List Tok).length = T.length + 1 := by rw [List.length_append]; rfl
                        refine ⟨⟨T ++ [(2, x.data.toList, q, p)], p + n, congrArg (Value.int .i64) (by omega), HX.out, by rw [e, toksCells_snoc, HCS.out]; exact hown4, hb5⟩, by simp only [intOf]; omega⟩
                  · have htk := tok_none' (s.data.toList.drop p) p h59 (by rw [hxd]; exact hk) (by rw [hxd]; exact hm) q (by rw [hxd]; exact hq) h0
                    rcases hstep _ htk with ⟨_, e1, e2, e3⟩ | ⟨hc, _⟩
                    · have E1 := Lib.hid e1
                      have E2 := Lib.hid e2
                      have E3 := Lib.hid e3
                      clear e1 e2 e3 htk hstep hxl hxd h59 hk hm hq
                      rcases hends with hend | ⟨hend, HE⟩
                      all_goals
                        try have HP := Lib.hid (HE hend)
                        go_wp2_with (first
                          | (go_at_call 26; refine (refPart_is _ _ HP _).mono ?_; rintro e w' ⟨rfl, rfl⟩)
                          | (go_at_call 21; refine (refKeyword_is _ _ HK hb (Nat.le_refl _)).mono ?_; clear hb; rintro e w1 ⟨rfl, hb1, hb⟩; have hown1 := own_below hown hb1; clear hb1 hown)
                          | (go_at_call 17; refine (refName_is _ (by omega) _ HM hb (Nat.le_refl _)).mono ?_; clear hb; rintro e w2 ⟨rfl, hb1, hb⟩; have hown := own_below hown1 hb1; clear hb1 hown1)
                          | (go_at_call 19; refine (refNumber_is _ (by omega) _ HQ _).mono ?_; rintro e w' ⟨rfl, rfl⟩))
                        go_ret3
                        exact ⟨none, 0, by rw [E1.out, E2.out, E3.out]; rfl, by rw [E1.out]; exact CellsAt.nil _ _ _, hb⟩
                    · exact absurd rfl hc
                · have htk : tokB (s.data.toList.drop p) p = (1, x.data.toList, 0, p) := by rw [tok_word' (s.data.toList.drop p) p h59 (.inr (by rw [hxd]; exact hm)), hxd]
                  rcases hstep _ htk with ⟨h0, _⟩ | ⟨_, hn1, _, hnext⟩
                  · cases h0
                  · dsimp only at hn1 hnext
                    rw [hxl] at hn1 hnext
                    have HX := Lib.hid hnext
                    have HST := Lib.hid hstep
                    have HXL := Lib.hid hxl
                    have HXD := Lib.hid hxd
                    have H59 := Lib.hid h59
                    have hcs : tokCells (1, x.data.toList, 0, p) = [.int .i64 1, .string x, .int .i64 0, .int .i64 (p : Int)] := by unfold tokCells; rw [Lib.mk_data]
                    have HCS := Lib.hid hcs
                    clear hnext htk hstep hxl hxd h59 hcs hk hm hq
                    rcases hends with hend | ⟨hend, HE⟩
                    all_goals
                      try have HP := Lib.hid (HE hend)
                      go_wp2_with (first
                        | (go_at_call 26; refine (refPart_is _ _ HP _).mono ?_; rintro e w' ⟨rfl, rfl⟩)
                        | (go_at_call 21; refine (refKeyword_is _ _ HK hb (Nat.le_refl _)).mono ?_; clear hb; rintro e w1 ⟨rfl, hb1, hb⟩; have hown1 := own_below hown hb1; clear hb1 hown)
                        | (go_at_call 17; refine (refName_is _ (by omega) _ HM hb (Nat.le_refl _)).mono ?_; clear hb; rintro e w2 ⟨rfl, hb1, hb⟩; have hown := own_below hown1 hb1; clear hb1 hown1)
                        | (at_builtin; refine wpList_append_own _ rfl _ _ 30 rfl w.heap.size 39 i0 (.agg #[.int .i64 0, .string ⟨#[]⟩, .int .i64 0, .int .i64 0]) 4 40 Try.underlying30 hi hz0 hz1 hz2 rfl (by decide) _ _ _ rfl (hown.alloc _) ⟨w2.heap.size, 0, none⟩ 1 1 [.int .i64 1, .string x, .int .i64 0, .int .i64 (p : Int)] rfl rfl (cells_new _ _ _) (by simp [Value.oneCell']) (by unfold maxLen; omega) (by omega) (by have := hb.size; simp; omega) ?_; intro v' w4 hown4 hgrow4 _; have hb5 := (hb.alloc hb.size _).grown hgrow4 (by have := hb.size; simp; omega) (fun g hg => (hown.lt _ hg).1); clear hgrow4 hb hown))
                      have e : (T ++ [(1, x.data.toList, 0, p)] : List Tok).length = T.length + 1 := by rw [List.length_append]; rfl
                      refine ⟨⟨T ++ [(1, x.data.toList, 0, p)], p + n, congrArg (Value.int .i64) (by omega), HX.out, by rw [e, toksCells_snoc, HCS.out]; exact hown4, hb5⟩, by simp only [intOf]; omega⟩
              · have htk : tokB (s.data.toList.drop p) p = (1, x.data.toList, 0, p) := by rw [tok_word' (s.data.toList.drop p) p h59 (.inl (by rw [hxd]; exact hk)), hxd]
                rcases hstep _ htk with ⟨h0, _⟩ | ⟨_, hn1, _, hnext⟩
                · cases h0
                · dsimp only at hn1 hnext
                  rw [hxl] at hn1 hnext
                  have HX := Lib.hid hnext
                  have HST := Lib.hid hstep
                  have HXL := Lib.hid hxl
                  have HXD := Lib.hid hxd
                  have H59 := Lib.hid h59
                  have hcs : tokCells (1, x.data.toList, 0, p) = [.int .i64 1, .string x, .int .i64 0, .int .i64 (p : Int)] := by unfold tokCells; rw [Lib.mk_data]
                  have HCS := Lib.hid hcs
                  clear hnext htk hstep hxl hxd h59 hcs hk hm hq
                  rcases hends with hend | ⟨hend, HE⟩
                  all_goals
                    try have HP := Lib.hid (HE hend)
                    go_wp2_with (first
                      | (go_at_call 26; refine (refPart_is _ _ HP _).mono ?_; rintro e w' ⟨rfl, rfl⟩)
                      | (go_at_call 21; refine (refKeyword_is _ _ HK hb (Nat.le_refl _)).mono ?_; clear hb; rintro e w1 ⟨rfl, hb1, hb⟩; have hown1 := own_below hown hb1; clear hb1 hown)
                      | (at_builtin; refine wpList_append_own _ rfl _ _ 30 rfl w.heap.size 39 i0 (.agg #[.int .i64 0, .string ⟨#[]⟩, .int .i64 0, .int .i64 0]) 4 40 Try.underlying30 hi hz0 hz1 hz2 rfl (by decide) _ _ _ rfl (hown1.alloc _) ⟨w1.heap.size, 0, none⟩ 1 1 [.int .i64 1, .string x, .int .i64 0, .int .i64 (p : Int)] rfl rfl (cells_new _ _ _) (by simp [Value.oneCell']) (by unfold maxLen; omega) (by omega) (by have := hb.size; simp; omega) ?_; intro v' w4 hown4 hgrow4 _; have hb5 := (hb.alloc hb.size _).grown hgrow4 (by have := hb.size; simp; omega) (fun g hg => (hown1.lt _ hg).1); clear hgrow4 hb hown1))
                    have e : (T ++ [(1, x.data.toList, 0, p)] : List Tok).length = T.length + 1 := by rw [List.length_append]; rfl
                    refine ⟨⟨T ++ [(1, x.data.toList, 0, p)], p + n, congrArg (Value.int .i64) (by omega), HX.out, by rw [e, toksCells_snoc, HCS.out]; exact hown4, hb5⟩, by simp only [intOf]; omega⟩
      · obtain ⟨e1, e2, e3⟩ := hat.done (by rw [HSZ.out]; omega) (by rw [HSZ.out]; omega)
        have E1 := Lib.hid e1
        have E2 := Lib.hid e2
        have E3 := Lib.hid e3
        have hpe := HSZ.out
        have HPE := Lib.hid hpe
        clear e1 e2 e3 hpe
        go_wp2_with (at_builtin; refine wpList_append_own _ rfl _ _ 30 rfl w.heap.size 39 i0 (.agg #[.int .i64 0, .string ⟨#[]⟩, .int .i64 0, .int .i64 0]) 4 40 Try.underlying30 hi hz0 hz1 hz2 rfl (by decide) _ _ _ rfl (hown.alloc _) ⟨wr.heap.size, 0, none⟩ 1 1 [.int .i64 4, .string ⟨#[]⟩, .int .i64 0, .int .i64 (s.size : Int)] rfl rfl (cells_new _ _ _) (by simp [Value.oneCell']) (by unfold maxLen; omega) (by omega) (by have := hb.size; simp; omega) ?_; intro v' w4 hown4 hgrow4 _; obtain ⟨g', cap', rfl⟩ := ownsRow_succ hown4; have hb5 := (hb.alloc hb.size _).grown hgrow4 (by have := hb.size; simp; omega) (fun g hg => (hown.lt _ hg).1))
        go_ret3
        have e : (T ++ [(4, [], 0, s.data.toList.length)] : List Tok).length = T.length + 1 := by rw [List.length_append]; rfl
        refine ⟨some ⟨g', 0, none⟩, cap', by rw [E1.out, E2.out, E3.out, e]; rfl, ?_, hb5⟩
        rw [E1.out, toksCells_snoc, HPE.out]
        exact CellsAt.of_own hown4

end Go.Proofs.Ytfphhcifchoggaa
