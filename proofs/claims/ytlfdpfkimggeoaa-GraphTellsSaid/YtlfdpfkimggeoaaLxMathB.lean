/-
  Plain facts: runs of bytes by states; numbers; names.
-/
import Derived.Test.YtlfdpfkimggeoaaLxMath
namespace Go.Proofs.Ytlfdpfkimggeoaa

/-- Is the end within a comment? -/
def comS (m : Bool) (c : UInt8) : Bool := decide (c.toNat = 35) || (m && !decide (c.toNat = 10))
def comN (m : Bool) : List UInt8 → Bool
  | [] => m
  | c :: r => comN (comS m c) r
theorem comN_snoc (m : Bool) : ∀ (l : List UInt8) (c : UInt8), comN m (l ++ [c]) = comS (comN m l) c
  | [], c => rfl
  | x :: l, c => by rw [List.cons_append, comN, comN_snoc _ l c, comN]

theorem skipN_com {m : Bool} {c : UInt8} {r : List UInt8} (h : comS m c = true) : skipN m (c :: r) = 1 + skipN true r := by rw [skipN]; exact if_pos h
theorem skipN_bla {m : Bool} {c : UInt8} {r : List UInt8} (h : comS m c = false) (hb : blaB c = true) : skipN m (c :: r) = 1 + skipN false r := by
  rw [skipN, if_neg (by unfold comS at h; rw [h]; simp), if_pos hb]
theorem skipN_no {m : Bool} {c : UInt8} {r : List UInt8} (h : comS m c = false) (hb : blaB c = false) : skipN m (c :: r) = 0 := by
  rw [skipN, if_neg (by unfold comS at h; rw [h]; simp), if_neg (by rw [hb]; simp)]

theorem skip_of_take : ∀ (l : List UInt8) (st : Bool) (m : Nat), (∀ j, j < m → (comS (comN st (l.take j)) (l.getD j 0) || blaB (l.getD j 0)) = true) → m ≤ l.length →
    (m = l.length ∨ (comS (comN st (l.take m)) (l.getD m 0) || blaB (l.getD m 0)) = false) → skipN st l = m
  | [], st, m, _, hm, _ => by simp at hm; subst hm; rfl
  | c :: r, st, 0, _, _, h2 => by
    rcases h2 with h2 | h2
    · simp at h2
    · simp only [List.take_zero, comN, List.getD_cons_zero] at h2
      exact skipN_no (by revert h2; cases comS st c <;> simp) (by revert h2; cases blaB c <;> simp)
  | c :: r, st, m + 1, h1, hm, h2 => by
    have h0 := h1 0 (by omega)
    simp only [List.take_zero, comN, List.getD_cons_zero] at h0
    have ih := skip_of_take r (comS st c) m (fun j hj => by have := h1 (j + 1) (by omega); simpa [comN] using this) (by simpa using hm)
      (by rcases h2 with h2 | h2; left; simpa using h2; right; simpa [comN] using h2)
    cases hc : comS st c with
    | true => rw [skipN_com hc]; rw [hc] at ih; omega
    | false =>
      rw [hc] at h0 ih
      rw [skipN_bla hc (by simpa using h0)]; omega

/-- The number that is told so far: it stops at what is no digit, and beyond. -/
def nS (n : Nat) (c : UInt8) : Nat := if digB c = true ∧ n ≤ 65535 then 10 * n + (c.toNat - 48) else n
def nF (l : List UInt8) : Nat := l.foldl nS 0
theorem nF_snoc (l : List UInt8) (c : UInt8) : nF (l ++ [c]) = nS (nF l) c := by unfold nF; rw [List.foldl_append]; rfl
theorem nS_le (n : Nat) (c : UInt8) (h : n ≤ 1000000) : nS n c ≤ 1000000 := by
  unfold nS
  split
  · rename_i h'
    have := h'.1
    unfold digB at this
    simp at this
    omega
  · exact h
theorem nF_le_aux : ∀ (l : List UInt8) (n : Nat), n ≤ 1000000 → l.foldl nS n ≤ 1000000
  | [], _, h => h
  | c :: l, n, h => nF_le_aux l _ (nS_le n c h)
theorem nF_le (l : List UInt8) : nF l ≤ 1000000 := nF_le_aux l 0 (by omega)

theorem getD_at (l : List UInt8) (j : Nat) (h : j < l.length) : l.getD j 0 = l[j] := by
  rw [List.getD_eq_getElem?_getD, List.getElem?_eq_getElem h]; rfl
theorem take_snocD (l : List UInt8) (j : Nat) (h : j < l.length) : l.take (j + 1) = l.take j ++ [l.getD j 0] := by
  rw [List.take_succ_eq_append_getElem h, getD_at _ _ h]

theorem valF_grows : ∀ (l : List UInt8) (n : Nat), n ≤ valF n l
  | [], _ => Nat.le_refl _
  | c :: l, n => by
    have := valF_grows l (10 * n + (c.toNat - 48))
    unfold valF at this ⊢
    rw [List.foldl_cons]
    omega
theorem valF_append (n : Nat) (a b : List UInt8) : valF n (a ++ b) = valF (valF n a) b := by unfold valF; rw [List.foldl_append]

theorem nF_val (l : List UInt8) (m : Nat) (hm : m ≤ l.length) (h1 : ∀ j, j < m → (digB (l.getD j 0) && decide (nF (l.take j) ≤ 65535)) = true) : nF (l.take m) = valF 0 (l.take m) ∧ (l.take m).all digB = true := by
  induction m with
  | zero => simp [nF, valF]
  | succ m ih =>
    obtain ⟨ih1, ih2⟩ := ih (by omega) (fun j hj => h1 j (by omega))
    have h := h1 m (by omega)
    rw [Bool.and_eq_true, decide_eq_true_eq] at h
    rw [take_snocD l m (by omega)]
    constructor
    · rw [nF_snoc, nS, if_pos h, valF_append, ih1]; rfl
    · rw [List.all_append, ih2, List.all_cons, h.1]; rfl

theorem num_of_take (l : List UInt8) (m : Nat) (hl : l ≠ []) (hz : ¬ (1 < l.length ∧ l.head? = some 48)) (h1 : ∀ j, j < m → (digB (l.getD j 0) && decide (nF (l.take j) ≤ 65535)) = true) (hm : m ≤ l.length)
    (h2 : m = l.length ∨ (m < l.length ∧ (digB (l.getD m 0) && decide (nF (l.take m) ≤ 65535)) = false)) : numB l = if m < l.length ∨ 65535 < nF (l.take m) then -1 else (nF (l.take m) : Int) := by
  obtain ⟨e, ha⟩ := nF_val l m hm h1
  rcases h2 with h2 | ⟨hlt, h2⟩
  · subst h2
    rw [List.take_length] at e ha ⊢
    unfold numB
    by_cases hb : valF 0 l ≤ 65535
    · rw [if_pos ⟨hl, hz, ha, hb⟩, if_neg (by omega), e]
    · rw [if_neg (by rintro ⟨_, _, _, h⟩; exact hb h), if_pos (by omega)]
  · rw [if_pos (.inl hlt)]
    unfold numB
    rw [if_neg]
    rintro ⟨_, _, hall, hv⟩
    have hd : digB (l.getD m 0) = true := by
      rw [getD_at _ _ hlt]
      exact List.all_eq_true.1 hall _ (List.getElem_mem _)
    rw [hd, Bool.true_and, decide_eq_false_iff_not, e] at h2
    have hg := valF_grows (l.drop m) (valF 0 (l.take m))
    rw [← valF_append, List.take_append_drop] at hg
    omega

/-- A number of more than five digits is none. -/
theorem valF_big : ∀ (l : List UInt8) (n : Nat), n * 10 ^ l.length ≤ valF n l
  | [], n => by simp [valF]
  | c :: l, n => by
    have h := valF_big l (10 * n + (c.toNat - 48))
    have e : valF n (c :: l) = valF (10 * n + (c.toNat - 48)) l := rfl
    rw [e, List.length_cons, Nat.pow_succ]
    refine Nat.le_trans ?_ h
    rw [Nat.mul_comm (10 ^ l.length) 10, ← Nat.mul_assoc, Nat.mul_comm n 10]
    exact Nat.mul_le_mul_right _ (by omega)
theorem num_long (l : List UInt8) (h : 5 < l.length) : numB l = -1 := by
  unfold numB
  rw [if_neg]
  rintro ⟨_, hz, hall, hv⟩
  match l, h with
  | c :: r, h =>
    have hd : digB c = true := List.all_eq_true.1 hall c (by simp)
    have hc : c ≠ 48 := fun e => hz ⟨by omega, by rw [e]; rfl⟩
    have hp : 10 ^ 5 ≤ 10 ^ r.length := Nat.pow_le_pow_right (by omega) (by have := h; rw [List.length_cons] at this; omega)
    have hb := valF_big r (c.toNat - 48)
    have e : valF 0 (c :: r) = valF (c.toNat - 48) r := by unfold valF; rw [List.foldl_cons]; simp
    have h1 : 1 ≤ c.toNat - 48 := by
      unfold digB at hd
      simp at hd
      have : c.toNat ≠ 48 := fun e => hc (by rw [← UInt8.ofNat_toNat (x := c), e]; rfl)
      omega
    have h2 : 10 ^ r.length ≤ (c.toNat - 48) * 10 ^ r.length := Nat.le_mul_of_pos_left _ h1
    rw [e] at hv
    omega
theorem num_zero (l : List UInt8) (h : 1 < l.length) (h0 : l.head? = some 48) : numB l = -1 := by
  unfold numB; rw [if_neg]; rintro ⟨_, hz, _⟩; exact hz ⟨h, h0⟩
theorem num_ge (l : List UInt8) : -1 ≤ numB l := by unfold numB; split <;> omega
theorem num_le (l : List UInt8) : numB l ≤ 65535 := by unfold numB; split <;> omega

theorem wordN_all (l : List UInt8) : wordN l = l.length ↔ l.all parB = true := by
  unfold wordN
  induction l with
  | nil => simp
  | cons c r ih =>
    rw [List.takeWhile_cons, List.all_cons]
    cases hp : parB c with
    | true => simpa using ih
    | false => simp

end Go.Proofs.Ytlfdpfkimggeoaa
