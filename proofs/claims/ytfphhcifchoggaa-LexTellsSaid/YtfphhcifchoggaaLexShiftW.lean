/-
  LexShift, its walk.
-/
import Derived.Test.YtfphhcifchoggaaLexSegs
namespace Go.Proofs.Ytfphhcifchoggaa
open Go.RowKit Go.Shelf Go.Sort

/-- Lex, what it tells named. -/
theorem Lex_is (s : ByteArray) (hs : s.size ≤ 9223372036854775807) (T : List Tok) (E : Int) (q : Nat) (H : Hid (lexT s.data.toList = T ∧ lexE s.data.toList = E ∧ lexP s.data.toList = q)) {B : Nat} {w0 w : World} (hb : Below B w0 w) (hB : B ≤ w0.heap.size) :
    Calls Try.prog 13 #[.string s] w fun e w' => ∃ A c, e = .returned (.tuple #[.slice A T.length c, .int .i64 E, .int .i64 (q : Int)]) ∧ CellsAt w' w'.heap.size A (toksCells T) ∧ Below w.heap.size w w' ∧ Below B w0 w' := by
  obtain ⟨h1, h2, h3⟩ := H.out
  refine (Lex_acc s hs hb hB).mono ?_
  rintro e w' ⟨A, c, he, hc, hw1, hw⟩
  rw [h1, h2, h3] at he
  rw [h1] at hc
  exact ⟨A, c, he, hc, hw1, hw⟩

theorem lexE_cases (l : List UInt8) (h : l.length ≤ 10000) : (lexE l = 0 ∧ lexP l = 0) ∨ (lexE l = 21 ∧ lexT l = []) := by
  have h1 : ¬ 10000 < l.length := by omega
  unfold lexE lexP lexT
  simp only [if_neg h1]
  cases (scan l 0).2 with
  | none => left; simp
  | some q => right; simp

theorem scanF_len : ∀ (f : Nat) (l : List UInt8) (p : Nat), (scanF f l p).1.length ≤ l.length
  | 0, _, _ => Nat.zero_le _
  | _ + 1, [], _ => Nat.zero_le _
  | f + 1, c :: r, p => by
    rw [scanF]
    have h1 := scanF_len f r (p + 1)
    have h2 := scanF_len f (r.drop (lineN r)) (p + 1 + lineN r)
    have h3 := scanF_len f ((c :: r).drop (wordN (c :: r))) (p + wordN (c :: r))
    rw [List.length_drop] at h2 h3
    have hw := wordN_le (c :: r)
    rw [List.length_cons] at *
    by_cases hb : blaB c = true
    · rw [if_pos hb]; omega
    · rw [if_neg hb]
      by_cases h35 : c.toNat = 35
      · rw [if_pos h35]; omega
      · rw [if_neg h35]
        by_cases h59 : c.toNat = 59
        · rw [if_pos h59]; dsimp only; rw [List.length_cons]; omega
        · rw [if_neg h59]
          by_cases hk : kwB ((c :: r).take (wordN (c :: r))) = true ∨ nameB ((c :: r).take (wordN (c :: r))) = true
          · have := word_pos hk
            rw [if_pos hk]; dsimp only; rw [List.length_cons]; omega
          · rw [if_neg hk]
            by_cases hn : 0 ≤ numB ((c :: r).take (wordN (c :: r)))
            · have := num_pos hn
              rw [if_pos hn]; dsimp only; rw [List.length_cons]; omega
            · rw [if_neg hn]; simp
theorem scanF_pos : ∀ (f : Nat) (l : List UInt8) (p : Nat), ∀ t ∈ (scanF f l p).1, t.2.2.2 ≤ p + l.length
  | 0, _, _, t, h => by simp [scanF] at h
  | _ + 1, [], _, t, h => by simp [scanF] at h
  | f + 1, c :: r, p, t, h => by
    rw [scanF] at h
    have h1 := scanF_pos f r (p + 1) t
    have h2 := scanF_pos f (r.drop (lineN r)) (p + 1 + lineN r) t
    have h3 := scanF_pos f ((c :: r).drop (wordN (c :: r))) (p + wordN (c :: r)) t
    rw [List.length_drop] at h2 h3
    have hw := wordN_le (c :: r)
    have hl := lineN_le r
    rw [List.length_cons] at *
    by_cases hb : blaB c = true
    · rw [if_pos hb] at h; have := h1 h; omega
    · rw [if_neg hb] at h
      by_cases h35 : c.toNat = 35
      · rw [if_pos h35] at h; have := h2 h; omega
      · rw [if_neg h35] at h
        by_cases h59 : c.toNat = 59
        · rw [if_pos h59] at h
          rcases List.mem_cons.1 h with rfl | h
          · exact Nat.le_add_right _ _
          · have := h1 h; omega
        · rw [if_neg h59] at h
          by_cases hk : kwB ((c :: r).take (wordN (c :: r))) = true ∨ nameB ((c :: r).take (wordN (c :: r))) = true
          · rw [if_pos hk] at h
            rcases List.mem_cons.1 h with rfl | h
            · exact Nat.le_add_right _ _
            · have := h3 h; omega
          · rw [if_neg hk] at h
            by_cases hn : 0 ≤ numB ((c :: r).take (wordN (c :: r)))
            · rw [if_pos hn] at h
              rcases List.mem_cons.1 h with rfl | h
              · exact Nat.le_add_right _ _
              · have := h3 h; omega
            · rw [if_neg hn] at h; simp at h
theorem scanF_err : ∀ (f : Nat) (l : List UInt8) (p q : Nat), (scanF f l p).2 = some q → q ≤ p + l.length
  | 0, _, _, q, h => by simp [scanF] at h
  | _ + 1, [], _, q, h => by simp [scanF] at h
  | f + 1, c :: r, p, q, h => by
    rw [scanF] at h
    have h1 := scanF_err f r (p + 1) q
    have h2 := scanF_err f (r.drop (lineN r)) (p + 1 + lineN r) q
    have h3 := scanF_err f ((c :: r).drop (wordN (c :: r))) (p + wordN (c :: r)) q
    rw [List.length_drop] at h2 h3
    have hw := wordN_le (c :: r)
    have hl := lineN_le r
    rw [List.length_cons] at *
    by_cases hb : blaB c = true
    · rw [if_pos hb] at h; have := h1 h; omega
    · rw [if_neg hb] at h
      by_cases h35 : c.toNat = 35
      · rw [if_pos h35] at h; have := h2 h; omega
      · rw [if_neg h35] at h
        by_cases h59 : c.toNat = 59
        · rw [if_pos h59] at h; have := h1 h; omega
        · rw [if_neg h59] at h
          by_cases hk : kwB ((c :: r).take (wordN (c :: r))) = true ∨ nameB ((c :: r).take (wordN (c :: r))) = true
          · rw [if_pos hk] at h; have := h3 h; omega
          · rw [if_neg hk] at h
            by_cases hn : 0 ≤ numB ((c :: r).take (wordN (c :: r)))
            · rw [if_pos hn] at h; have := h3 h; omega
            · rw [if_neg hn] at h
              injection h with h
              omega
theorem lexP_le (l : List UInt8) : lexP l ≤ 10000 := by
  unfold lexP
  by_cases hl : 10000 < l.length
  · rw [if_pos hl]; exact Nat.le_refl _
  · rw [if_neg hl]
    cases h : (scan l 0).2 with
    | none => exact Nat.zero_le _
    | some q => have := scanF_err (l.length + 1) l 0 q h; show q ≤ 10000; omega
theorem lexT_pos (l : List UInt8) : ∀ t ∈ lexT l, t.2.2.2 ≤ 10000 := by
  intro t h
  unfold lexT at h
  by_cases hl : 10000 < l.length
  · rw [if_pos hl] at h; simp at h
  · rw [if_neg hl] at h
    split at h
    · rcases List.mem_append.1 h with h | h
      · have := scanF_pos (l.length + 1) l 0 t h; omega
      · simp at h; subst h; show l.length ≤ 10000; omega
    · simp at h
theorem lexT_len (l : List UInt8) : (lexT l).length ≤ 10001 := by
  unfold lexT
  by_cases h : 10000 < l.length
  · rw [if_pos h]; simp
  · rw [if_neg h]
    have := scanF_len (l.length + 1) l 0
    split
    · rw [List.length_append]; show (scanF (l.length + 1) l 0).1.length + 1 ≤ _; omega
    · simp

/-- Blanks ahead: all stands so much further on. -/
theorem lex_shift (b x : List UInt8) (hb : ∀ c ∈ b, blaB c = true) (hbl : b.length ≤ 8) (hx : x.length ≤ 9000) :
    lexT (b ++ x) = (lexT x).map (shiftT b.length) ∧ lexE (b ++ x) = lexE x ∧ (lexE x ≠ 0 → lexP (b ++ x) = lexP x + b.length) := by
  have hs : scan (b ++ x) 0 = ((scan x 0).1.map (shiftT b.length), (scan x 0).2.map (· + b.length)) := by rw [scan_blanks b x 0 hb, scan_shift]
  have hl : (b ++ x).length = b.length + x.length := List.length_append
  have h1 : ¬ 10000 < x.length := by omega
  have h2 : ¬ 10000 < (b ++ x).length := by omega
  unfold lexT lexE lexP
  simp only [if_neg h1, if_neg h2, hs]
  cases (scan x 0).2 with
  | none =>
    refine ⟨?_, rfl, fun h => absurd rfl h⟩
    rw [hl, Nat.add_comm b.length]
    simp [shiftT]
  | some q => exact ⟨by simp, by simp, fun _ => by simp⟩

/-- The text of the first raw words, a blank behind each. -/
def TextAt (l : List (Int × Int)) (m : Nat) (x : ByteArray) : Prop := x.data.toList = segsB (segsK l [] m)
theorem TextAt.size {l : List (Int × Int)} {m : Nat} {x : ByteArray} (h : TextAt l m x) : x.size ≤ m * 26 := by
  have e : x.size = (segsB (segsK l [] m)).length := by rw [Lib.size_eq, h]
  have := segsK_len l [] m
  omega
theorem TextAt.step {l : List (Int × Int)} {m : Nat} {x : ByteArray} (h : TextAt l m x) {r : Int × Int} (hr : l[m]? = some r) {y : List UInt8} (hy : pieceB r.1 r.2 = y) : TextAt l (m + 1) (x ++ ⟨y.toArray⟩ ++ ⟨#[32]⟩) := by
  unfold TextAt
  rw [data_add, data_add, h, segsK_step l [] m r hr, segsB_snoc, hy, List.append_assoc]; rfl

theorem CellsAt.tokO {w : World} {B : Nat} {A : Option Addr} {T : List Tok} (h : CellsAt w B A (toksCells T)) (hB : B ≤ w.heap.size) {k : Nat} {t : Tok} (hk : T[k]? = some t) :
    ∃ ad, A = some ad ∧ (∀ o, (w.alloc o).cell? (ad.add (k * 4)) = some (.int .i64 t.1)) ∧ (∀ o, (w.alloc o).cell? ⟨(ad.add (k * 4)).block, (ad.add (k * 4)).off + 1, none⟩ = some (.string ⟨t.2.1.toArray⟩)) ∧
      (∀ o, (w.alloc o).cell? ⟨(ad.add (k * 4)).block, (ad.add (k * 4)).off + 2, none⟩ = some (.int .i64 t.2.2.1)) ∧ (∀ o, (w.alloc o).cell? ⟨(ad.add (k * 4)).block, (ad.add (k * 4)).off + 3, none⟩ = some (.int .i64 (t.2.2.2 : Int))) := by
  obtain ⟨ad, rfl, _⟩ := h.tok hk
  have hx : ∀ o, _ := fun o => (h.below ((Below.refl B w).alloc hB o)).tok hk
  refine ⟨ad, rfl, fun o => ?_, fun o => ?_, fun o => ?_, fun o => ?_⟩
  all_goals
    obtain ⟨ad', hA, c0, c1, c2, c3⟩ := hx o
    cases hA
    first
      | exact c0
      | exact c1
      | exact c2
      | exact c3

def blanks8 : List UInt8 := [32, 10, 9, 32, 10, 32, 9, 10]
theorem blanks8_bla : ∀ c ∈ blanks8, blaB c = true := by decide

theorem shift_get (T : List Tok) (d k : Nat) (t : Tok) (h : T[k]? = some t) : (T.map (shiftT d))[k]? = some (shiftT d t) := by rw [List.getElem?_map, h]; rfl

set_option maxRecDepth 100000 in
set_option maxHeartbeats 4000000 in
theorem LexShift_walk (s : ByteArray) (_ : s.size ≤ 140737488351232) (A : Option Addr) (c : Nat) (l : List (Int × Int)) (hwf : ∀ p ∈ l, InI p.1 ∧ InI p.2) (_ : l.length ≤ 9223372036854775807) (a2 : Int) (w2 : InI a2)
    (w : World) (hA : CellsAt w w.heap.size A (pairCells l)) :
    Calls Try.prog 7 #[.string s, .slice A l.length c, .int .i64 a2] w fun e w' => e = .returned (.bool true) ∧ Below w.heap.size w w' := by
  obtain ⟨n, hn, hn9⟩ : ∃ n : Nat, pickN a2 9 = (n : Int) ∧ n < 9 := pickN_nat a2 9 (by omega)
  have KN := Lib.hid (pick2_at a2 9 (n : Int) w2 (by omega) (by omega) hn)
  obtain ⟨b, hbd⟩ : ∃ b : ByteArray, (ByteArray.mk blanks8.toArray).extract 0 n = b := ⟨_, rfl⟩
  have hbl : b.data.toList = blanks8.take n := by rw [← hbd, Lib.extract_data]; simp
  have hbn : b.data.toList.length = n := by rw [hbl, List.length_take]; exact Nat.min_eq_left (by show n ≤ 8; omega)
  have hbz : b.size ≤ 8 := by rw [Lib.size_eq, hbn]; omega
  have hbb : ∀ c ∈ b.data.toList, blaB c = true := fun c hc => by rw [hbl] at hc; exact blanks8_bla c (List.mem_of_mem_take hc)
  have hsl : ∀ W : World, (Instr.slice 9 (.string ⟨#[32, 10, 9, 32, 10, 32, 9, 10]⟩) none (some (.int .i64 (n : Int))) none).run Try.prog W = .ok (.string b) W := fun W => by
    rw [run_slice_string_h W 9 _ Try.underlying9 .i64 (n : Int) (by omega) (by show (n : Int) ≤ 8; omega), ← hbd]
    rfl
  have HWF := Lib.hid hwf
  have HBB := Lib.hid hbb
  have HBN := Lib.hid hbn
  have hb := Below.refl w.heap.size w
  have hmx : Try.prog.follows .mixedOrders = true := by kernel_rfl
  clear hwf hn hbd hbl hbb hbn
  go_enter Try.func7, Try.ntmps7
  go_wp2_with (go_at_call 9; refine (awake2_acc hb (Nat.le_refl _)).mono ?_; clear hb; rintro e w3 ⟨rfl, hb⟩)
  go_loopw [8, 9] (fun t i wr => ∃ (m : Nat) (x : ByteArray), m ≤ l.length ∧ m ≤ 20 ∧ i = .int .i64 (m : Nat) ∧ t = .string x ∧ TextAt l m x ∧ Below w.heap.size w wr) (fun _ i _ => 20 - (intOf i).toNat)
  case atStart => exact ⟨0, ⟨#[]⟩, Nat.zero_le _, by omega, rfl, rfl, rfl, hb⟩
  case round =>
    clear hb
    obtain ⟨m, x, hml, hm20, rfl, rfl, hat, hb⟩ := hrel
    have hxs := hat.size
    by_cases hlt : m < l.length ∧ m < 20
    · obtain ⟨hlt1, hlt2⟩ := hlt
      obtain ⟨r, hr⟩ : ∃ r, l[m]? = some r := ⟨_, List.getElem?_eq_getElem hlt1⟩
      obtain ⟨ad, rfl, had, d0, d1⟩ := (hA.below hb).pair hr
      obtain ⟨wf0, wf1⟩ := HWF.out r (List.mem_of_getElem? hr)
      obtain ⟨y, hy⟩ : ∃ y, pieceB r.1 r.2 = y := ⟨_, rfl⟩
      have hyl : y.length ≤ 20 := by rw [← hy]; exact piece_len _ _
      have c0 := cell_regrown d0
      have c1 := cell_regrown d1
      have HS := Lib.hid (hat.step hr hy)
      have HY := Lib.hid hy
      clear hy hat hr hA d0 d1
      go_wp2
      refine wp_region_quiet_below hmx (by kernel_rfl) ?_
      repeat (any_goals (first
        | go_big_quiet_step ((go_at_call 10; exact Calls.regrown_of (Piece_named _ _ wf0 wf1 y HY _)))
        | quiet_step ((go_at_call 10; exact Calls.regrown_of (Piece_named _ _ wf0 wf1 y HY _)))))
      refine wpQuiet_nil ?_
      intro _ hw'
      obtain ⟨⟨dq, osq⟩, hw''⟩ := hw'
      subst hw''
      have hb' := hb.trans ((below_regrown wr dq osq).mono hb.size)
      clear c0 c1
      go_wp2
      exact ⟨⟨m + 1, _, by omega, by omega, by go_num, rfl, HS.out, hb'⟩, by simp only [intOf]; omega⟩
    · have hnlt : (m < l.length ∧ ¬ m < 20) ∨ l.length ≤ m := by omega
      clear hlt hat
      rcases hnlt with ⟨hl1, hl2⟩ | hl1
      all_goals
        go_wp2_with (go_at_call 12; ((with_reducible refine (KN.out _).mono ?_); rintro e w2 ⟨rfl, rfl⟩))
        obtain ⟨wq, rfl⟩ : ∃ wq : World, wq = wr := ⟨_, rfl⟩
        obtain ⟨W, hW⟩ : ∃ W, wq.alloc (.cells #[.string s, .string x] 9) = W := ⟨_, rfl⟩
        have hcs : ∀ (k : Nat) (y : ByteArray), [s, x][k]? = some y → W.cell? ⟨wq.heap.size, k, none⟩ = some (.string y) := fun k y h => by rw [← hW]; exact strs_new wq [s, x] 9 k y h
        have hws : W.heap.size = wq.heap.size + 1 := by rw [← hW]; simp
        have hbW : Below w.heap.size w W := by rw [← hW]; exact hb.alloc hb.size _
        rw [hW]
        have HCS := Lib.hid hcs
        have hltW : wq.heap.size < W.heap.size := by omega
        clear hcs hb hW hws
        go_loopw [55] (fun i wx => ∃ j : Nat, j ≤ 2 ∧ i = .int .i64 j ∧ Below W.heap.size W wx) (fun i _ => 2 - (intOf i).toNat)
        case atStart => exact ⟨0, by omega, rfl, Below.refl _ _⟩
        case round =>
          obtain ⟨j, hj, rfl, hb⟩ := hrel
          by_cases hlt : j < 2
          · obtain ⟨y, hy⟩ : ∃ y, [s, x][j]? = some y := ⟨_, List.getElem?_eq_getElem (by simpa using hlt)⟩
            have hc := (hb.cell (p := ⟨wq.heap.size, j, none⟩) hltW).trans (HCS.out j y hy)
            clear hy
            by_cases hbig : 9000 < y.size
            · go_wp2
              exact ⟨⟨j + 1, by omega, by go_num, hb⟩, by simp only [intOf]; omega⟩
            · have hys : y.data.toList.length ≤ 9000 := by rw [← Lib.size_eq]; omega
              obtain ⟨f1, f2, f3⟩ := lex_shift b.data.toList y.data.toList HBB.out (by rw [HBN.out]; omega) hys
              have hE := lexE_cases y.data.toList (by omega)
              obtain ⟨T, hT⟩ : ∃ T, lexT y.data.toList = T := ⟨_, rfl⟩
              obtain ⟨E, hEe⟩ : ∃ E, lexE y.data.toList = E := ⟨_, rfl⟩
              obtain ⟨q, hq⟩ : ∃ q, lexP y.data.toList = q := ⟨_, rfl⟩
              obtain ⟨q', hq'⟩ : ∃ q, lexP (b ++ y).data.toList = q := ⟨_, rfl⟩
              rw [HBN.out, ← data_add] at f1 f3
              rw [← data_add] at f2
              rw [hT] at f1 hE
              rw [hEe] at f2 f3 hE
              rw [hq, hq'] at f3
              rw [hq] at hE
              have hyz : y.size ≤ 9000 := by omega
              have hsz : (b ++ y).size ≤ 9223372036854775807 := by rw [ByteArray.size_append]; omega
              have HL1 := Lib.hid (fun (V : World) (hbx : Below W.heap.size W V) => Lex_is y (by omega) T E q (Lib.hid ⟨hT, hEe, hq⟩) hbx (Nat.le_refl _))
              have HL2 := Lib.hid (fun (V : World) (hbx : Below W.heap.size W V) => Lex_is (b ++ y) hsz (T.map (shiftT n)) E q' (Lib.hid ⟨f1, f2, hq'⟩) hbx (Nat.le_refl _))
              have hTl : (T.map (shiftT n)).length = T.length := List.length_map _
              have hE2 : E = 0 ∨ (E = 21 ∧ T = [] ∧ q' = q + n) := by
                rcases hE with ⟨h1, _⟩ | ⟨h1, h2⟩
                · exact .inl h1
                · exact .inr ⟨h1, h2, f3 (by rw [h1]; decide)⟩
              have hqz : q ≤ 10000 := by rw [← hq]; exact lexP_le _
              have hTm : T.length ≤ 10001 := by rw [← hT]; exact lexT_len _
              have hTp : ∀ t ∈ T, t.2.2.2 ≤ 10000 := by rw [← hT]; exact lexT_pos _
              have HTP := Lib.hid hTp
              clear hTp
              clear f1 f2 f3 hE hT hEe hq hq' hys hbig
              rcases hE2 with rfl | ⟨rfl, rfl, rfl⟩
              · go_wp2_with (first
                  | (go_at_call 13; ((with_reducible refine (HL1.out _ hb).mono ?_); clear hb); rintro e w4 ⟨A1, k1, rfl, hC1, _, hb⟩)
                  | (go_at_call 13; ((with_reducible refine (HL2.out _ hb).mono ?_); clear hb); rintro e w5 ⟨A2, k2, rfl, hC2, hb5, hb⟩))
                have hC1' := hC1.below hb5
                clear hC1
                have hb5s := hb5.size
                go_loopw [20] (fun i wz => ∃ k : Nat, k ≤ T.length ∧ i = .int .i64 k ∧ Below w5.heap.size w5 wz) (fun i _ => T.length - (intOf i).toNat)
                case atStart => exact ⟨0, by omega, rfl, Below.refl _ _⟩
                case round =>
                  obtain ⟨k, hk, rfl, hbz⟩ := hrel
                  by_cases hltk : k < T.length
                  · obtain ⟨⟨tk, tx, tn, tp⟩, ht⟩ : ∃ t, T[k]? = some t := ⟨_, List.getElem?_eq_getElem hltk⟩
                    obtain ⟨ad1, rfl, a0, a1, a2, a3⟩ := ((hC1'.more hb5s).below hbz).tok ht
                    obtain ⟨ad2, rfl, b0, b1, b2, b3⟩ := (hC2.below hbz).tokO hbz.size (shift_get T n k _ ht)
                    simp only [shiftT] at b0 b1 b2 b3
                    rw [Int.natCast_add] at b3
                    dsimp only at a0 a1 a2 a3
                    have htp : tp ≤ 10000 := HTP.out _ (List.mem_of_getElem? ht)
                    clear ht hC1' hC2
                    go_wp2
                    go_quiet (fail)
                    go_wp2
                    exact ⟨⟨k + 1, by omega, by go_num, below_draws (hbz.alloc hbz.size _) _⟩, by simp only [intOf]; omega⟩
                  · go_wp2
                    exact ⟨⟨j + 1, by omega, by go_num, hb.trans (hbz.mono hb.size)⟩, by simp only [intOf]; omega⟩
              · clear HTP hTm hTl
                rw [Int.natCast_add] at HL2
                go_wp2_with (first
                  | (go_at_call 13; ((with_reducible refine (HL1.out _ hb).mono ?_); clear hb); rintro e w4 ⟨A1, k1, rfl, hC1, _, hb⟩)
                  | (go_at_call 13; ((with_reducible refine (HL2.out _ hb).mono ?_); clear hb); rintro e w5 ⟨A2, k2, rfl, hC2, hb5, hb⟩))
                go_loopw [20] (fun i wz => i = .int .i64 0 ∧ Below w5.heap.size w5 wz) (fun _ _ => 0)
                case atStart => exact ⟨rfl, Below.refl _ _⟩
                case round =>
                  obtain ⟨rfl, hbz⟩ := hrel
                  go_wp2
                  exact ⟨⟨j + 1, by omega, by go_num, hb.trans (hbz.mono hb.size)⟩, by simp only [intOf]; omega⟩
          · go_wp2
            go_ret
            exact ⟨rfl, hbW.trans (hb.mono hbW.size)⟩

end Go.Proofs.Ytfphhcifchoggaa
