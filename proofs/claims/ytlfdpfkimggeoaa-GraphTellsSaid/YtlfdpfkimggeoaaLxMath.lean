/-
  Plain facts on texts and their tokens: no program is named here.
-/
namespace Go.Proofs.Ytlfdpfkimggeoaa

/-- Letters, digits, what a word is of. -/
def letB (c : UInt8) : Bool := (decide (97 ≤ c.toNat) && decide (c.toNat ≤ 122)) || (decide (65 ≤ c.toNat) && decide (c.toNat ≤ 90))
def digB (c : UInt8) : Bool := decide (48 ≤ c.toNat) && decide (c.toNat ≤ 57)
def parB (c : UInt8) : Bool := letB c || digB c || decide (c.toNat = 45) || decide (c.toNat = 95)
def blaB (c : UInt8) : Bool := decide (c.toNat = 32) || decide (c.toNat = 9) || decide (c.toNat = 10)

/-- The keywords. -/
def kws : List (List UInt8) := [[112, 114, 111, 116, 111, 99, 111, 108], [118, 101, 99, 116, 111, 114], [112, 97, 116, 104], [102, 97, 105, 108, 117, 114, 101, 115], [110, 111, 100, 101], [108, 105, 110, 107], [100, 101, 115, 116], [97, 116], [99, 104, 101, 99, 107], [114, 101, 97, 99, 104], [119, 105, 116, 104, 105, 110], [119, 97, 121, 112, 111, 105, 110, 116], [101, 113, 117, 97, 108]]
def kwB (l : List UInt8) : Bool := kws.contains l

/-- May a text be a name? -/
def nameB : List UInt8 → Bool
  | [] => false
  | c :: r => decide ((c :: r).length ≤ 12) && letB c && !kwB (c :: r) && (c :: r).all parB

/-- The number of digits. -/
def valF (n : Nat) (l : List UInt8) : Nat := l.foldl (fun n c => 10 * n + (c.toNat - 48)) n
def numB (l : List UInt8) : Int :=
  if l ≠ [] ∧ ¬ (1 < l.length ∧ l.head? = some 48) ∧ l.all digB = true ∧ valF 0 l ≤ 65535 then (valF 0 l : Int) else -1

/-- A token: its kind, text, number, place. -/
abbrev Tok := Int × List UInt8 × Int × Nat

def wordN (l : List UInt8) : Nat := (l.takeWhile parB).length
def lineN (l : List UInt8) : Nat := (l.takeWhile fun c => !decide (c.toNat = 10)).length

/-- The tokens of a text whose first byte stands at a place, but for the end; and the place of a byte that is wrong. -/
def scanF : Nat → List UInt8 → Nat → List Tok × Option Nat
  | 0, _, _ => ([], none)
  | _ + 1, [], _ => ([], none)
  | f + 1, c :: r, p =>
    if blaB c = true then scanF f r (p + 1)
    else if c.toNat = 35 then scanF f (r.drop (lineN r)) (p + 1 + lineN r)
    else if c.toNat = 59 then ((3, [59], 0, p) :: (scanF f r (p + 1)).1, (scanF f r (p + 1)).2)
    else
      if kwB ((c :: r).take (wordN (c :: r))) = true ∨ nameB ((c :: r).take (wordN (c :: r))) = true then
        ((1, (c :: r).take (wordN (c :: r)), 0, p) :: (scanF f ((c :: r).drop (wordN (c :: r))) (p + wordN (c :: r))).1, (scanF f ((c :: r).drop (wordN (c :: r))) (p + wordN (c :: r))).2)
      else if 0 ≤ numB ((c :: r).take (wordN (c :: r))) then
        ((2, (c :: r).take (wordN (c :: r)), numB ((c :: r).take (wordN (c :: r))), p) :: (scanF f ((c :: r).drop (wordN (c :: r))) (p + wordN (c :: r))).1, (scanF f ((c :: r).drop (wordN (c :: r))) (p + wordN (c :: r))).2)
      else ([], some p)

def scan (l : List UInt8) (p : Nat) : List Tok × Option Nat := scanF (l.length + 1) l p

/-- What Lex tells: tokens, an error's number, a place. -/
def lexT (l : List UInt8) : List Tok := if 10000 < l.length then [] else if (scan l 0).2 = none then (scan l 0).1 ++ [(4, [], 0, l.length)] else []
def lexE (l : List UInt8) : Int := if 10000 < l.length then 20 else if (scan l 0).2 = none then 0 else 21
def lexP (l : List UInt8) : Nat := if 10000 < l.length then 10000 else ((scan l 0).2).getD 0

theorem kw_nil : kwB [] = false := by decide +kernel
theorem name_nil : nameB [] = false := rfl
theorem num_nil : numB [] = -1 := rfl

theorem wordN_le (l : List UInt8) : wordN l ≤ l.length := by
  unfold wordN; exact (List.takeWhile_sublist _).length_le
theorem lineN_le (l : List UInt8) : lineN l ≤ l.length := by
  unfold lineN; exact (List.takeWhile_sublist _).length_le

theorem word_pos {l : List UInt8} (h : kwB (l.take (wordN l)) = true ∨ nameB (l.take (wordN l)) = true) : 1 ≤ wordN l := by
  rcases Nat.eq_zero_or_pos (wordN l) with h0 | h0
  · rw [h0, List.take_zero, kw_nil, name_nil] at h; simp at h
  · exact h0
theorem num_pos {l : List UInt8} (h : 0 ≤ numB (l.take (wordN l))) : 1 ≤ wordN l := by
  rcases Nat.eq_zero_or_pos (wordN l) with h0 | h0
  · rw [h0, List.take_zero, num_nil] at h; omega
  · exact h0

/-- More rounds change nothing. -/
theorem scanF_more : ∀ (f g : Nat) (l : List UInt8) (p : Nat), l.length < f → l.length < g → scanF f l p = scanF g l p
  | 0, _, _, _, h, _ => by omega
  | _ + 1, 0, _, _, _, h => by omega
  | f + 1, g + 1, [], p, _, _ => rfl
  | f + 1, g + 1, c :: r, p, hf, hg => by
    have hf' : r.length < f := by simpa using hf
    have hg' : r.length < g := by simpa using hg
    rw [scanF, scanF]
    have h1 := scanF_more f g r (p + 1) hf' hg'
    have h2 := scanF_more f g (r.drop (lineN r)) (p + 1 + lineN r) (by rw [List.length_drop]; omega) (by rw [List.length_drop]; omega)
    rw [h1, h2]
    by_cases hw : kwB ((c :: r).take (wordN (c :: r))) = true ∨ nameB ((c :: r).take (wordN (c :: r))) = true
    · have hp := word_pos hw
      have h3 := scanF_more f g ((c :: r).drop (wordN (c :: r))) (p + wordN (c :: r)) (by rw [List.length_drop, List.length_cons]; omega) (by rw [List.length_drop, List.length_cons]; omega)
      rw [if_pos hw, if_pos hw, h3]
    · by_cases hn : 0 ≤ numB ((c :: r).take (wordN (c :: r)))
      · have hp := num_pos hn
        have h3 := scanF_more f g ((c :: r).drop (wordN (c :: r))) (p + wordN (c :: r)) (by rw [List.length_drop, List.length_cons]; omega) (by rw [List.length_drop, List.length_cons]; omega)
        rw [if_neg hw, if_neg hw, if_pos hn, if_pos hn, h3]
      · rw [if_neg hw, if_neg hw, if_neg hn, if_neg hn]

theorem scan_f (f : Nat) (l : List UInt8) (p : Nat) (h : l.length < f) : scanF f l p = scan l p := scanF_more _ _ _ _ h (Nat.lt_succ_self _)

theorem scan_nil (p : Nat) : scan [] p = ([], none) := rfl
theorem scan_bla (c : UInt8) (r : List UInt8) (p : Nat) (h : blaB c = true) : scan (c :: r) p = scan r (p + 1) := by
  rw [scan, scanF, if_pos h]; exact scan_f _ _ _ (by simp)
theorem bla_not {c : UInt8} {k : Nat} (h : c.toNat = k) (h32 : k ≠ 32) (h9 : k ≠ 9) (h10 : k ≠ 10) : ¬ blaB c = true := by
  unfold blaB; simp; omega
theorem scan_line (c : UInt8) (r : List UInt8) (p : Nat) (h : c.toNat = 35) : scan (c :: r) p = scan (r.drop (lineN r)) (p + 1 + lineN r) := by
  rw [scan, scanF, if_neg (bla_not h (by omega) (by omega) (by omega)), if_pos h]; exact scan_f _ _ _ (by rw [List.length_drop, List.length_cons]; omega)
theorem scan_stop (c : UInt8) (r : List UInt8) (p : Nat) (h : c.toNat = 59) : scan (c :: r) p = ((3, [59], 0, p) :: (scan r (p + 1)).1, (scan r (p + 1)).2) := by
  rw [scan, scanF, if_neg (bla_not h (by omega) (by omega) (by omega)), if_neg (by omega), if_pos h, scan_f _ _ _ (by simp)]

/-- A byte of which a word is is no blank, no comment, no stop. -/
theorem par_not {c : UInt8} (h : parB c = true) : ¬ blaB c = true ∧ ¬ c.toNat = 35 ∧ ¬ c.toNat = 59 := by
  unfold parB letB digB at h
  unfold blaB
  simp at h ⊢
  omega
theorem word_cons_pos {c : UInt8} {r : List UInt8} (h : 1 ≤ wordN (c :: r)) : parB c = true := by
  unfold wordN at h
  rw [List.takeWhile_cons] at h
  cases hp : parB c with
  | true => rfl
  | false => rw [hp] at h; simp at h

theorem scan_word (l : List UInt8) (p : Nat) (h : kwB (l.take (wordN l)) = true ∨ nameB (l.take (wordN l)) = true) :
    scan l p = ((1, l.take (wordN l), 0, p) :: (scan (l.drop (wordN l)) (p + wordN l)).1, (scan (l.drop (wordN l)) (p + wordN l)).2) := by
  have hp := word_pos h
  cases l with
  | nil => simp [wordN] at hp
  | cons c r =>
    obtain ⟨h1, h2, h3⟩ := par_not (word_cons_pos hp)
    rw [scan, scanF, if_neg h1, if_neg h2, if_neg h3, if_pos h, scan_f _ _ _ (by rw [List.length_drop, List.length_cons]; omega)]
theorem scan_num (l : List UInt8) (p : Nat) (hw : ¬ (kwB (l.take (wordN l)) = true ∨ nameB (l.take (wordN l)) = true)) (h : 0 ≤ numB (l.take (wordN l))) :
    scan l p = ((2, l.take (wordN l), numB (l.take (wordN l)), p) :: (scan (l.drop (wordN l)) (p + wordN l)).1, (scan (l.drop (wordN l)) (p + wordN l)).2) := by
  have hp := num_pos h
  cases l with
  | nil => simp [wordN] at hp
  | cons c r =>
    obtain ⟨h1, h2, h3⟩ := par_not (word_cons_pos hp)
    rw [scan, scanF, if_neg h1, if_neg h2, if_neg h3, if_neg hw, if_pos h, scan_f _ _ _ (by rw [List.length_drop, List.length_cons]; omega)]
theorem scan_bad (c : UInt8) (r : List UInt8) (p : Nat) (h1 : ¬ blaB c = true) (h2 : ¬ c.toNat = 35) (h3 : ¬ c.toNat = 59)
    (hw : ¬ (kwB ((c :: r).take (wordN (c :: r))) = true ∨ nameB ((c :: r).take (wordN (c :: r))) = true)) (hn : ¬ 0 ≤ numB ((c :: r).take (wordN (c :: r)))) : scan (c :: r) p = ([], some p) := by
  rw [scan, scanF, if_neg h1, if_neg h2, if_neg h3, if_neg hw, if_neg hn]

/-- What is passed over, byte by byte; within a comment or not. -/
def skipN : Bool → List UInt8 → Nat
  | _, [] => 0
  | m, c :: r => if (decide (c.toNat = 35) || (m && !decide (c.toNat = 10))) = true then 1 + skipN true r else if blaB c = true then 1 + skipN false r else 0
theorem skipN_le : ∀ (l : List UInt8) (m : Bool), skipN m l ≤ l.length
  | [], m => by simp [skipN]
  | c :: r, m => by
    have h1 := skipN_le r true
    have h2 := skipN_le r false
    rw [skipN, List.length_cons]
    split
    · omega
    · split <;> omega

theorem lineN_nil : lineN [] = 0 := rfl
theorem lineN_end (c : UInt8) (r : List UInt8) (h : c.toNat = 10) : lineN (c :: r) = 0 := by
  unfold lineN; rw [List.takeWhile_cons]; simp [h]
theorem lineN_on (c : UInt8) (r : List UInt8) (h : ¬ c.toNat = 10) : lineN (c :: r) = lineN r + 1 := by
  unfold lineN; rw [List.takeWhile_cons]; simp [h]

/-- What is passed over changes nothing. -/
theorem scan_skip : ∀ (l : List UInt8) (p : Nat), scan (l.drop (skipN false l)) (p + skipN false l) = scan l p ∧ scan (l.drop (skipN true l)) (p + skipN true l) = scan (l.drop (lineN l)) (p + lineN l)
  | [], p => by simp [skipN, lineN_nil]
  | c :: r, p => by
    obtain ⟨ih1, ih2⟩ := scan_skip r (p + 1)
    constructor
    · rw [skipN]
      by_cases h : c.toNat = 35
      · have hc : (decide (c.toNat = 35) || (false && !decide (c.toNat = 10))) = true := by simp [h]
        rw [if_pos hc, scan_line c r p h, Nat.add_comm 1, List.drop_succ_cons, show p + (skipN true r + 1) = p + 1 + skipN true r by omega, ih2]
      · have hc : ¬ (decide (c.toNat = 35) || (false && !decide (c.toNat = 10))) = true := by simp [h]
        rw [if_neg hc]
        by_cases hb : blaB c = true
        · rw [if_pos hb, scan_bla c r p hb, Nat.add_comm 1, List.drop_succ_cons, show p + (skipN false r + 1) = p + 1 + skipN false r by omega, ih1]
        · rw [if_neg hb, List.drop_zero, Nat.add_zero]
    · rw [skipN]
      by_cases h10 : c.toNat = 10
      · have hc : ¬ (decide (c.toNat = 35) || (true && !decide (c.toNat = 10))) = true := by simp [h10]
        have hb : blaB c = true := by simp [blaB, h10]
        rw [if_neg hc, if_pos hb, lineN_end c r h10, List.drop_zero, Nat.add_zero, scan_bla c r p hb, Nat.add_comm 1, List.drop_succ_cons, show p + (skipN false r + 1) = p + 1 + skipN false r by omega, ih1]
      · have hc : (decide (c.toNat = 35) || (true && !decide (c.toNat = 10))) = true := by simp [h10]
        rw [if_pos hc, lineN_on c r h10, Nat.add_comm 1, List.drop_succ_cons, List.drop_succ_cons, show p + (skipN true r + 1) = p + 1 + skipN true r by omega, ih2, show p + (lineN r + 1) = p + 1 + lineN r by omega]

/-- Behind what is passed over stands nothing that is passed over. -/
theorem skip_stops : ∀ (l : List UInt8) (m : Bool) (c : UInt8) (r : List UInt8), l.drop (skipN m l) = c :: r → ¬ blaB c = true ∧ ¬ c.toNat = 35
  | [], m, c, r, h => by simp at h
  | x :: l, m, c, r, h => by
    rw [skipN] at h
    by_cases hc : (decide (x.toNat = 35) || (m && !decide (x.toNat = 10))) = true
    · rw [if_pos hc, Nat.add_comm 1, List.drop_succ_cons] at h
      exact skip_stops l true c r h
    · rw [if_neg hc] at h
      by_cases hb : blaB x = true
      · rw [if_pos hb, Nat.add_comm 1, List.drop_succ_cons] at h
        exact skip_stops l false c r h
      · rw [if_neg hb, List.drop_zero] at h
        injection h with h1 h2
        subst h1
        refine ⟨hb, fun e => hc ?_⟩
        simp [e]

end Go.Proofs.Ytlfdpfkimggeoaa
