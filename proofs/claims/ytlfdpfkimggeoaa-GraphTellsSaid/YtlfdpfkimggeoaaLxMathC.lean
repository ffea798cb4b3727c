/-
  Plain facts: texts of pieces and gaps are scanned to their tokens; shifts; joins.
-/
import Derived.Test.YtlfdpfkimggeoaaLxMathB
namespace Go.Proofs.Ytlfdpfkimggeoaa

/-! ### Numbers' texts -/
/-- A number's text. -/
def decF : Nat → Nat → List UInt8
  | 0, _ => []
  | f + 1, n => if n < 10 then [UInt8.ofNat (48 + n)] else decF f (n / 10) ++ [UInt8.ofNat (48 + n % 10)]
def decB (n : Nat) : List UInt8 := decF 20 n

theorem decF_len : ∀ (f n : Nat), (decF f n).length ≤ f
  | 0, n => Nat.le_refl _
  | f + 1, n => by
    have ih := decF_len f (n / 10)
    rw [decF]
    split
    · simp
    · rw [List.length_append]; simp; omega

theorem digit_is (d : Nat) (h : d < 10) : (UInt8.ofNat (48 + d)).toNat = 48 + d ∧ digB (UInt8.ofNat (48 + d)) = true := by
  have e : (UInt8.ofNat (48 + d)).toNat = 48 + d := by rw [UInt8.toNat_ofNat']; omega
  refine ⟨e, ?_⟩
  unfold digB
  rw [e]
  simp
  omega

theorem decF_is : ∀ (f n : Nat), n < 10 ^ f → 1 ≤ f → valF 0 (decF f n) = n ∧ (decF f n).all digB = true ∧ decF f n ≠ [] ∧ (1 < (decF f n).length → 10 ≤ n) ∧ ((decF f n).head? = some 48 → n = 0)
  | 0, n, _, h => absurd h (by omega)
  | f + 1, n, hn, _ => by
    rw [decF]
    by_cases h10 : n < 10
    · rw [if_pos h10]
      obtain ⟨e1, e2⟩ := digit_is n h10
      refine ⟨?_, by rw [List.all_cons, e2]; rfl, by simp, by simp, fun h => ?_⟩
      · unfold valF; rw [List.foldl_cons, List.foldl_nil, e1]; omega
      · injection h with h
        have := congrArg UInt8.toNat h
        rw [e1] at this
        have h48 : (48 : UInt8).toNat = 48 := rfl
        omega
    · rw [if_neg h10]
      obtain ⟨e1, e2⟩ := digit_is (n % 10) (by omega)
      obtain ⟨i1, i2, i3, i4, i5⟩ := decF_is f (n / 10) (by rw [Nat.pow_succ] at hn; omega) (by
        rcases Nat.eq_zero_or_pos f with h | h
        · subst h; simp at hn; omega
        · exact h)
      refine ⟨?_, ?_, by simp, fun _ => by omega, fun h => ?_⟩
      · rw [valF_append, i1]
        unfold valF
        rw [List.foldl_cons, List.foldl_nil, e1]
        omega
      · rw [List.all_append, i2, List.all_cons, e2]; rfl
      · obtain ⟨c, r, hcr⟩ := List.exists_cons_of_ne_nil i3
        rw [hcr] at h i5
        have := i5 h
        omega

theorem dec_num (n : Nat) (hn : n ≤ 65535) : numB (decB n) = (n : Int) ∧ (decB n).all digB = true ∧ decB n ≠ [] := by
  obtain ⟨h1, h2, h3, h4, h5⟩ := decF_is 20 n (by omega) (by omega)
  refine ⟨?_, h2, h3⟩
  unfold numB
  rw [if_pos]
  · show ((valF 0 (decF 20 n) : Nat) : Int) = n; rw [h1]
  · refine ⟨h3, ?_, h2, ?_⟩
    · rintro ⟨g1, g2⟩
      have := h4 g1
      have := h5 g2
      omega
    · show valF 0 (decF 20 n) ≤ 65535; rw [h1]; exact hn

theorem kinds_apart (l : List UInt8) : (nameB l = true → kwB l = false ∧ numB l = -1) ∧ (kwB l = true → numB l = -1) := by
  have hk : ∀ l, kwB l = true → numB l = -1 := by
    intro l h
    have hm : l ∈ kws := List.contains_iff_mem.1 h
    have : ∀ l ∈ kws, numB l = -1 := by decide +kernel
    exact this l hm
  refine ⟨fun h => ?_, hk l⟩
  cases l with
  | nil => simp [nameB] at h
  | cons c r =>
    rw [nameB] at h
    simp only [Bool.and_eq_true, Bool.not_eq_true'] at h
    refine ⟨h.1.2, ?_⟩
    unfold numB
    rw [if_neg]
    rintro ⟨_, _, ha, _⟩
    have hd : digB c = true := List.all_eq_true.1 ha c (by simp)
    have hl := h.1.1.2
    unfold digB at hd
    unfold letB at hl
    simp at hd hl
    omega

/-! ### Runs -/
theorem run_full (x : List UInt8) (c : UInt8) (r : List UInt8) (hx : x.all parB = true) (hc : parB c = false) : wordN (x ++ c :: r) = x.length ∧ (x ++ c :: r).take (wordN (x ++ c :: r)) = x ∧ (x ++ c :: r).drop (wordN (x ++ c :: r)) = c :: r := by
  have e : wordN (x ++ c :: r) = x.length := by
    unfold wordN
    induction x with
    | nil => simp [hc]
    | cons y x ih =>
      rw [List.all_cons, Bool.and_eq_true] at hx
      rw [List.cons_append, List.takeWhile_cons, if_pos hx.1, List.length_cons, ih hx.2, List.length_cons]
  rw [e]
  exact ⟨rfl, List.take_left .., List.drop_left ..⟩

/-! ### What may stand between -/
def GapB (g : List UInt8) : Prop := ∃ c r, g = c :: r ∧ parB c = false ∧ ∀ rest p, scan (g ++ rest) p = scan rest (p + g.length)
def blks : List (List UInt8) := [[32], [32, 32], [9], [10], [32, 10, 10], [32, 35, 32, 120, 59, 10], [10, 35, 10, 9]]
theorem gap_all : ∀ g ∈ blks, GapB g := by
  intro g hg
  simp only [blks, List.mem_cons, List.not_mem_nil, or_false] at hg
  have b32 : blaB 32 = true := rfl
  have b9 : blaB 9 = true := rfl
  have b10 : blaB 10 = true := rfl
  rcases hg with rfl | rfl | rfl | rfl | rfl | rfl | rfl
  · exact ⟨32, [], rfl, rfl, fun rest p => by rw [List.cons_append, scan_bla _ _ _ b32]; rfl⟩
  · exact ⟨32, [32], rfl, rfl, fun rest p => by rw [List.cons_append, scan_bla _ _ _ b32, List.cons_append, scan_bla _ _ _ b32]; rfl⟩
  · exact ⟨9, [], rfl, rfl, fun rest p => by rw [List.cons_append, scan_bla _ _ _ b9]; rfl⟩
  · exact ⟨10, [], rfl, rfl, fun rest p => by rw [List.cons_append, scan_bla _ _ _ b10]; rfl⟩
  · exact ⟨32, [10, 10], rfl, rfl, fun rest p => by rw [List.cons_append, scan_bla _ _ _ b32, List.cons_append, scan_bla _ _ _ b10, List.cons_append, scan_bla _ _ _ b10]; rfl⟩
  · exact ⟨32, [35, 32, 120, 59, 10], rfl, rfl, fun rest p => by
      have hl : lineN ([32, 120, 59, 10] ++ rest) = 3 := by
        rw [List.cons_append, lineN_on _ _ (by decide), List.cons_append, lineN_on _ _ (by decide), List.cons_append, lineN_on _ _ (by decide), List.cons_append, lineN_end _ _ (by decide)]
      rw [List.cons_append, scan_bla _ _ _ b32, List.cons_append, scan_line _ _ _ rfl, hl]
      show scan (10 :: rest) (p + 1 + 1 + 3) = _
      rw [scan_bla _ _ _ b10]; rfl⟩
  · exact ⟨10, [35, 10, 9], rfl, rfl, fun rest p => by
      have hl : lineN ([10, 9] ++ rest) = 0 := by rw [List.cons_append, lineN_end _ _ (by decide)]
      rw [List.cons_append, scan_bla _ _ _ b10, List.cons_append, scan_line _ _ _ rfl, hl, List.drop_zero, List.cons_append, scan_bla _ _ _ b10, List.cons_append, scan_bla _ _ _ b9]
      rfl⟩

/-! ### Pieces -/
def PieceTok (x : List UInt8) (t : Nat → Tok) : Prop := ∀ c r p, parB c = false → scan (x ++ c :: r) p = (t p :: (scan (c :: r) (p + x.length)).1, (scan (c :: r) (p + x.length)).2)
theorem piece_word (x : List UInt8) (ha : x.all parB = true) (h : kwB x = true ∨ nameB x = true) : PieceTok x fun p => (1, x, 0, p) := by
  intro c r p hc
  obtain ⟨e1, e2, e3⟩ := run_full x c r ha hc
  have hw := scan_word (x ++ c :: r) p (by rw [e2]; exact h)
  rw [e2, e3, e1] at hw
  exact hw
theorem piece_num (x : List UInt8) (ha : x.all digB = true) (q : Int) (hq : numB x = q) (h0 : 0 ≤ q) : PieceTok x fun p => (2, x, q, p) := by
  intro c r p hc
  have hp : x.all parB = true := by
    rw [List.all_eq_true] at ha ⊢
    intro y hy
    unfold parB
    rw [ha y hy]; simp
  obtain ⟨e1, e2, e3⟩ := run_full x c r hp hc
  obtain ⟨k1, k2⟩ := kinds_apart x
  have hno : ¬ (kwB x = true ∨ nameB x = true) := by
    rintro (h | h)
    · have := k2 h; omega
    · have := (k1 h).2; omega
  have hw := scan_num (x ++ c :: r) p (by rw [e2]; exact hno) (by rw [e2, hq]; exact h0)
  rw [e2, e3, e1, hq] at hw
  exact hw
theorem piece_stop : PieceTok [59] fun p => (3, [59], 0, p) := by
  intro c r p _
  exact scan_stop 59 (c :: r) p rfl

/-! ### Texts -/
/-- A text's parts: a piece, its token at a place, a gap. -/
abbrev Seg := List UInt8 × (Nat → Tok) × List UInt8
def segOk (s : Seg) : Prop := PieceTok s.1 s.2.1 ∧ GapB s.2.2
def segsB (l : List Seg) : List UInt8 := l.flatMap fun s => s.1 ++ s.2.2
def segsT : List Seg → Nat → List Tok
  | [], _ => []
  | s :: l, p => s.2.1 p :: segsT l (p + s.1.length + s.2.2.length)
theorem segsB_snoc (l : List Seg) (s : Seg) : segsB (l ++ [s]) = segsB l ++ (s.1 ++ s.2.2) := by unfold segsB; rw [List.flatMap_append]; simp
theorem segsB_cons (l : List Seg) (s : Seg) : segsB (s :: l) = s.1 ++ (s.2.2 ++ segsB l) := by unfold segsB; rw [List.flatMap_cons, List.append_assoc]
theorem segsT_snoc : ∀ (l : List Seg) (s : Seg) (p : Nat), segsT (l ++ [s]) p = segsT l p ++ [s.2.1 (p + (segsB l).length)]
  | [], s, p => by simp [segsT, segsB]
  | x :: l, s, p => by
    rw [List.cons_append, segsT, segsT, segsT_snoc l s, segsB_cons, List.length_append, List.length_append, List.cons_append]
    rw [show p + x.1.length + x.2.2.length + (segsB l).length = p + (x.1.length + (x.2.2.length + (segsB l).length)) by omega]
theorem segsB_append (a b : List Seg) : segsB (a ++ b) = segsB a ++ segsB b := by unfold segsB; rw [List.flatMap_append]
theorem segsT_len : ∀ (l : List Seg) (p : Nat), (segsT l p).length = l.length
  | [], _ => rfl
  | s :: l, p => by rw [segsT, List.length_cons, segsT_len l, List.length_cons]
theorem scan_segs : ∀ (l : List Seg) (rest : List UInt8) (p : Nat), (∀ s ∈ l, segOk s) → scan (segsB l ++ rest) p = (segsT l p ++ (scan rest (p + (segsB l).length)).1, (scan rest (p + (segsB l).length)).2)
  | [], rest, p, _ => by simp [segsB, segsT]
  | s :: l, rest, p, h => by
    obtain ⟨hp, c, r, hg, hc, hs⟩ := h s (by simp)
    have ih := scan_segs l rest (p + s.1.length + s.2.2.length) (fun x hx => h x (by simp [hx]))
    rw [segsB_cons, List.append_assoc, List.append_assoc]
    have e : s.2.2 ++ (segsB l ++ rest) = c :: (r ++ (segsB l ++ rest)) := by rw [hg]; rfl
    rw [e, hp c _ p hc, ← e, hs, ih, segsT]
    rw [show p + (s.1 ++ (s.2.2 ++ segsB l)).length = p + s.1.length + s.2.2.length + (segsB l).length by simp only [List.length_append]; omega]
    rfl

/-! ### Shifts -/
def shiftT (d : Nat) (t : Tok) : Tok := (t.1, t.2.1, t.2.2.1, t.2.2.2 + d)
theorem scanF_shift : ∀ (f : Nat) (l : List UInt8) (p d : Nat), scanF f l (p + d) = ((scanF f l p).1.map (shiftT d), (scanF f l p).2.map (· + d))
  | 0, _, _, _ => rfl
  | _ + 1, [], _, _ => rfl
  | f + 1, c :: r, p, d => by
    rw [scanF, scanF]
    have h1 := scanF_shift f r (p + 1) d
    have h2 := scanF_shift f (r.drop (lineN r)) (p + 1 + lineN r) d
    have h3 := scanF_shift f ((c :: r).drop (wordN (c :: r))) (p + wordN (c :: r)) d
    rw [show p + 1 + d = p + d + 1 by omega] at h1
    rw [show p + 1 + lineN r + d = p + d + 1 + lineN r by omega] at h2
    rw [show p + wordN (c :: r) + d = p + d + wordN (c :: r) by omega] at h3
    split
    · exact h1
    · split
      · exact h2
      · split
        · rw [h1]; rfl
        · split
          · rw [h3]; rfl
          · split
            · rw [h3]; rfl
            · rfl
theorem scan_shift (l : List UInt8) (p d : Nat) : scan l (p + d) = ((scan l p).1.map (shiftT d), (scan l p).2.map (· + d)) := scanF_shift _ _ _ _

/-- Blanks ahead. -/
theorem scan_blanks : ∀ (b : List UInt8) (x : List UInt8) (p : Nat), (∀ c ∈ b, blaB c = true) → scan (b ++ x) p = scan x (p + b.length)
  | [], x, p, _ => rfl
  | c :: b, x, p, h => by
    rw [List.cons_append, scan_bla c _ p (h c (by simp)), scan_blanks b x (p + 1) (fun y hy => h y (by simp [hy])), List.length_cons]
    congr 1; omega

/-! ### Joins -/
theorem while_line (q : UInt8 → Bool) (hq : q 10 = false) (l b : List UInt8) : (l ++ 10 :: b).takeWhile q = l.takeWhile q := by
  induction l with
  | nil => simp [hq]
  | cons c l ih =>
    rw [List.cons_append, List.takeWhile_cons, List.takeWhile_cons, ih]
theorem word_line (l b : List UInt8) : wordN (l ++ 10 :: b) = wordN l := by unfold wordN; rw [while_line parB rfl]
theorem line_line (l b : List UInt8) : lineN (l ++ 10 :: b) = lineN l := by unfold lineN; rw [while_line _ rfl]
theorem take_line (l b : List UInt8) (k : Nat) (h : k ≤ l.length) : (l ++ 10 :: b).take k = l.take k ∧ (l ++ 10 :: b).drop k = l.drop k ++ 10 :: b := ⟨List.take_append_of_le_length h, List.drop_append_of_le_length h⟩

/-- What stands behind a line feed. -/
def thenB (r : List Tok × Option Nat) (u : List Tok × Option Nat) : List Tok × Option Nat := match r.2 with | none => (r.1 ++ u.1, u.2) | some q => (r.1, some q)
theorem thenB_cons (t : Tok) (r u : List Tok × Option Nat) : thenB (t :: r.1, r.2) u = (t :: (thenB r u).1, (thenB r u).2) := by
  obtain ⟨r1, r2⟩ := r
  cases r2 <;> rfl
theorem scan_line_join : ∀ (n : Nat) (a b : List UInt8) (p : Nat), a.length ≤ n → scan (a ++ 10 :: b) p = thenB (scan a p) (scan b (p + a.length + 1))
  | _, [], b, p, _ => by rw [List.nil_append, scan_bla _ _ _ rfl]; rfl
  | 0, c :: r, _, _, h => by simp at h
  | n + 1, c :: r, b, p, h => by
    have hr : r.length ≤ n := by simpa using h
    by_cases hb : blaB c = true
    · rw [List.cons_append, scan_bla c _ p hb, scan_bla c r p hb, scan_line_join n r b (p + 1) hr, List.length_cons]
      congr 2; omega
    · by_cases h35 : c.toNat = 35
      · have hl := lineN_le r
        have ih := scan_line_join n (r.drop (lineN r)) b (p + 1 + lineN r) (by rw [List.length_drop]; omega)
        rw [List.cons_append, scan_line c _ p h35, line_line, (take_line r b _ hl).2, ih, scan_line c r p h35, List.length_drop, List.length_cons]
        congr 2; omega
      · by_cases h59 : c.toNat = 59
        · have ih := scan_line_join n r b (p + 1) hr
          rw [List.cons_append, scan_stop c _ p h59, scan_stop c r p h59, ih, ← thenB_cons, List.length_cons, show p + 1 + r.length + 1 = p + (r.length + 1) + 1 by omega]
        · have hwl := wordN_le (c :: r)
          obtain ⟨t1, t2⟩ := take_line (c :: r) b (wordN (c :: r)) hwl
          by_cases hw : kwB ((c :: r).take (wordN (c :: r))) = true ∨ nameB ((c :: r).take (wordN (c :: r))) = true
          · have hp := word_pos hw
            have ih := scan_line_join n ((c :: r).drop (wordN (c :: r))) b (p + wordN (c :: r)) (by rw [List.length_drop, List.length_cons] at *; omega)
            have hs := scan_word ((c :: r) ++ 10 :: b) p (by rw [word_line, t1]; exact hw)
            rw [word_line, t1, t2, ih] at hs
            rw [hs, scan_word (c :: r) p hw, ← thenB_cons, List.length_drop]
            rw [show p + wordN (c :: r) + ((c :: r).length - wordN (c :: r)) + 1 = p + (c :: r).length + 1 by omega]
          · by_cases hn : 0 ≤ numB ((c :: r).take (wordN (c :: r)))
            · have hp := num_pos hn
              have ih := scan_line_join n ((c :: r).drop (wordN (c :: r))) b (p + wordN (c :: r)) (by rw [List.length_drop, List.length_cons] at *; omega)
              have hs := scan_num ((c :: r) ++ 10 :: b) p (by rw [word_line, t1]; exact hw) (by rw [word_line, t1]; exact hn)
              rw [word_line, t1, t2, ih] at hs
              rw [hs, scan_num (c :: r) p hw hn, ← thenB_cons, List.length_drop]
              rw [show p + wordN (c :: r) + ((c :: r).length - wordN (c :: r)) + 1 = p + (c :: r).length + 1 by omega]
            · rw [scan_bad c r p hb h35 h59 hw hn]
              have hs := scan_bad c (r ++ 10 :: b) p hb h35 h59 (by rw [← List.cons_append, word_line, t1]; exact hw) (by rw [← List.cons_append, word_line, t1]; exact hn)
              rw [List.cons_append, hs]; rfl

end Go.Proofs.Ytlfdpfkimggeoaa
