/-
  The program's runs of bytes: runEnd over whatever closure; the closures; wordEnd, passedEnd.
-/
import Derived.Test.YtdmilbfdiebjgaaLxMath
import Derived.RangeFuncBox
import Derived.Shelf.Abstract
import Derived.Test.YtdmilbfdiebjgaaLxA
namespace Go.Proofs.Ytdmilbfdiebjgaa

/-- Is the end within a comment? -/
def comS (m : Bool) (c : UInt8) : Bool := decide (c.toNat = 35) || (m && !decide (c.toNat = 10))
def comN (m : Bool) : List UInt8 → Bool
  | [] => m
  | c :: r => comN (comS m c) r
theorem comN_snoc (m : Bool) : ∀ (l : List UInt8) (c : UInt8), comN m (l ++ [c]) = comS (comN m l) c
  | [], c => rfl
  | x :: l, c => by rw [List.cons_append, comN, comN_snoc _ l c, comN]

theorem skipN_com {m : Bool} {c : UInt8} {r : List UInt8} (h : comS m c = true) : skipN m (c :: r) = 1 + skipN true r := by rw [skipN]; exact if_pos h
theorem skipN_bla {m : Bool} {c : UInt8} {r : List UInt8} (h : comS m c = false) (hb : blaB c = true) : skipN m (c :: r) = 1 + skipN false r := by
  rw [skipN, if_neg (by unfold comS at h; rw [h]; simp), if_pos hb]
theorem skipN_no {m : Bool} {c : UInt8} {r : List UInt8} (h : comS m c = false) (hb : blaB c = false) : skipN m (c :: r) = 0 := by
  rw [skipN, if_neg (by unfold comS at h; rw [h]; simp), if_neg (by rw [hb]; simp)]

theorem skip_of_take : ∀ (l : List UInt8) (st : Bool) (m : Nat), (∀ j, j < m → (comS (comN st (l.take j)) (l.getD j 0) || blaB (l.getD j 0)) = true) → m ≤ l.length →
    (m = l.length ∨ (comS (comN st (l.take m)) (l.getD m 0) || blaB (l.getD m 0)) = false) → skipN st l = m
  | [], st, m, _, hm, _ => by simp at hm; subst hm; rfl
  | c :: r, st, 0, _, _, h2 => by
    rcases h2 with h2 | h2
    · simp at h2
    · simp only [List.take_zero, comN, List.getD_cons_zero] at h2
      exact skipN_no (by revert h2; cases comS st c <;> simp) (by revert h2; cases blaB c <;> simp)
  | c :: r, st, m + 1, h1, hm, h2 => by
    have h0 := h1 0 (by omega)
    simp only [List.take_zero, comN, List.getD_cons_zero] at h0
    have ih := skip_of_take r (comS st c) m (fun j hj => by have := h1 (j + 1) (by omega); simpa [comN] using this) (by simpa using hm)
      (by rcases h2 with h2 | h2; left; simpa using h2; right; simpa [comN] using h2)
    cases hc : comS st c with
    | true => rw [skipN_com hc]; rw [hc] at ih; omega
    | false =>
      rw [hc] at h0 ih
      rw [skipN_bla hc (by simpa using h0)]; omega

/-- The number that is told so far: it stops at what is no digit, and beyond. -/
def nS (n : Nat) (c : UInt8) : Nat := if digB c = true ∧ n ≤ 65535 then 10 * n + (c.toNat - 48) else n
def nF (l : List UInt8) : Nat := l.foldl nS 0
theorem nF_snoc (l : List UInt8) (c : UInt8) : nF (l ++ [c]) = nS (nF l) c := by unfold nF; rw [List.foldl_append]; rfl
theorem nS_le (n : Nat) (c : UInt8) (h : n ≤ 1000000) : nS n c ≤ 1000000 := by
  unfold nS
  split
  · rename_i h'
    have := h'.1
    unfold digB at this
    simp at this
    omega
  · exact h
theorem nF_le_aux : ∀ (l : List UInt8) (n : Nat), n ≤ 1000000 → l.foldl nS n ≤ 1000000
  | [], _, h => h
  | c :: l, n, h => nF_le_aux l _ (nS_le n c h)
theorem nF_le (l : List UInt8) : nF l ≤ 1000000 := nF_le_aux l 0 (by omega)

theorem getD_at (l : List UInt8) (j : Nat) (h : j < l.length) : l.getD j 0 = l[j] := by
  rw [List.getD_eq_getElem?_getD, List.getElem?_eq_getElem h]; rfl
theorem take_snocD (l : List UInt8) (j : Nat) (h : j < l.length) : l.take (j + 1) = l.take j ++ [l.getD j 0] := by
  rw [List.take_succ_eq_append_getElem h, getD_at _ _ h]

theorem valF_grows : ∀ (l : List UInt8) (n : Nat), n ≤ valF n l
  | [], _ => Nat.le_refl _
  | c :: l, n => by
    have := valF_grows l (10 * n + (c.toNat - 48))
    unfold valF at this ⊢
    rw [List.foldl_cons]
    omega
theorem valF_append (n : Nat) (a b : List UInt8) : valF n (a ++ b) = valF (valF n a) b := by unfold valF; rw [List.foldl_append]

theorem nF_val (l : List UInt8) (m : Nat) (hm : m ≤ l.length) (h1 : ∀ j, j < m → (digB (l.getD j 0) && decide (nF (l.take j) ≤ 65535)) = true) : nF (l.take m) = valF 0 (l.take m) ∧ (l.take m).all digB = true := by
  induction m with
  | zero => simp [nF, valF]
  | succ m ih =>
    obtain ⟨ih1, ih2⟩ := ih (by omega) (fun j hj => h1 j (by omega))
    have h := h1 m (by omega)
    rw [Bool.and_eq_true, decide_eq_true_eq] at h
    rw [take_snocD l m (by omega)]
    constructor
    · rw [nF_snoc, nS, if_pos h, valF_append, ih1]; rfl
    · rw [List.all_append, ih2, List.all_cons, h.1]; rfl

theorem num_of_take (l : List UInt8) (m : Nat) (hl : l ≠ []) (hz : ¬ (1 < l.length ∧ l.head? = some 48)) (h1 : ∀ j, j < m → (digB (l.getD j 0) && decide (nF (l.take j) ≤ 65535)) = true) (hm : m ≤ l.length)
    (h2 : m = l.length ∨ (m < l.length ∧ (digB (l.getD m 0) && decide (nF (l.take m) ≤ 65535)) = false)) : numB l = if m < l.length ∨ 65535 < nF (l.take m) then -1 else (nF (l.take m) : Int) := by
  obtain ⟨e, ha⟩ := nF_val l m hm h1
  rcases h2 with h2 | ⟨hlt, h2⟩
  · subst h2
    rw [List.take_length] at e ha ⊢
    unfold numB
    by_cases hb : valF 0 l ≤ 65535
    · rw [if_pos ⟨hl, hz, ha, hb⟩, if_neg (by omega), e]
    · rw [if_neg (by rintro ⟨_, _, _, h⟩; exact hb h), if_pos (by omega)]
  · rw [if_pos (.inl hlt)]
    unfold numB
    rw [if_neg]
    rintro ⟨_, _, hall, hv⟩
    have hd : digB (l.getD m 0) = true := by
      rw [getD_at _ _ hlt]
      exact List.all_eq_true.1 hall _ (List.getElem_mem _)
    rw [hd, Bool.true_and, decide_eq_false_iff_not, e] at h2
    have hg := valF_grows (l.drop m) (valF 0 (l.take m))
    rw [← valF_append, List.take_append_drop] at hg
    omega

/-- A number of more than five digits is none. -/
theorem valF_big : ∀ (l : List UInt8) (n : Nat), n * 10 ^ l.length ≤ valF n l
  | [], n => by simp [valF]
  | c :: l, n => by
    have h := valF_big l (10 * n + (c.toNat - 48))
    have e : valF n (c :: l) = valF (10 * n + (c.toNat - 48)) l := rfl
    rw [e, List.length_cons, Nat.pow_succ]
    refine Nat.le_trans ?_ h
    rw [Nat.mul_comm (10 ^ l.length) 10, ← Nat.mul_assoc, Nat.mul_comm n 10]
    exact Nat.mul_le_mul_right _ (by omega)
theorem num_long (l : List UInt8) (h : 5 < l.length) : numB l = -1 := by
  unfold numB
  rw [if_neg]
  rintro ⟨_, hz, hall, hv⟩
  match l, h with
  | c :: r, h =>
    have hd : digB c = true := List.all_eq_true.1 hall c (by simp)
    have hc : c ≠ 48 := fun e => hz ⟨by omega, by rw [e]; rfl⟩
    have hp : 10 ^ 5 ≤ 10 ^ r.length := Nat.pow_le_pow_right (by omega) (by have := h; rw [List.length_cons] at this; omega)
    have hb := valF_big r (c.toNat - 48)
    have e : valF 0 (c :: r) = valF (c.toNat - 48) r := by unfold valF; rw [List.foldl_cons]; simp
    have h1 : 1 ≤ c.toNat - 48 := by
      unfold digB at hd
      simp at hd
      have : c.toNat ≠ 48 := fun e => hc (by rw [← UInt8.ofNat_toNat (x := c), e]; rfl)
      omega
    have h2 : 10 ^ r.length ≤ (c.toNat - 48) * 10 ^ r.length := Nat.le_mul_of_pos_left _ h1
    rw [e] at hv
    omega
theorem num_zero (l : List UInt8) (h : 1 < l.length) (h0 : l.head? = some 48) : numB l = -1 := by
  unfold numB; rw [if_neg]; rintro ⟨_, hz, _⟩; exact hz ⟨h, h0⟩
theorem num_ge (l : List UInt8) : -1 ≤ numB l := by unfold numB; split <;> omega
theorem num_le (l : List UInt8) : numB l ≤ 65535 := by unfold numB; split <;> omega

theorem wordN_all (l : List UInt8) : wordN l = l.length ↔ l.all parB = true := by
  unfold wordN
  induction l with
  | nil => simp
  | cons c r ih =>
    rw [List.takeWhile_cons, List.all_cons]
    cases hp : parB c with
    | true => simpa using ih
    | false => simp

end Go.Proofs.Ytdmilbfdiebjgaa
namespace Go.Proofs.Ytdmilbfdiebjgaa
open Go.RowKit Go.Shelf

theorem Keyword_is (s : ByteArray) (b : Bool) (H : Hid (kwB s.data.toList = b)) (w : World) :
    Calls Try.prog 90 #[.string s] w fun e w' => e = .returned (.bool b) ∧ w = w' :=
  (Keyword_any s w).mono fun _ _ ⟨he, hw⟩ => ⟨by rw [he, H.out], hw⟩

/-- What a closure over one cell, or none, tells of the k-th byte of a run. -/
def TellsRun (g : Nat) (caps : Array Value) (s : ByteArray) (p : Nat) (T : Nat → Bool) (J : Nat → World → Prop) : Prop :=
  ∀ (k : Nat) (h : p + k < s.size) (W : World), J k W → Calls Try.prog g (#[.int .u8 (s[p + k].toNat : Int)] ++ caps) W fun e W' => e = .returned (.bool (T k)) ∧ J (k + 1) W'
/-- Where a run ends. -/
def RanTo (s : ByteArray) (p : Nat) (T : Nat → Bool) (J : Nat → World → Prop) (e : Ending) (W' : World) : Prop :=
  ∃ m : Nat, e = .returned (.int .i64 ((p + m : Nat) : Int)) ∧ p + m ≤ s.size ∧ (∀ j, j < m → T j = true) ∧ ((p + m = s.size ∧ J m W') ∨ (p + m < s.size ∧ T m = false ∧ J (m + 1) W'))

set_option maxHeartbeats 400000 in
theorem runEnd_any (g : Nat) (eg : ∀ args w, (callFunc g args).run Try.prog w = .ok (.enter g args) w) (caps : Array Value) (s : ByteArray) (p : Nat) (T : Nat → Bool) (J : Nat → World → Prop) (hs : s.size ≤ 9223372036854775807) (hp : p ≤ s.size)
    (hT : TellsRun g caps s p T J) (w : World) (h0 : J 0 w) :
    Calls Try.prog 99 #[.string s, .int .i64 (p : Int), .func (.func g) #[] caps] w (RanTo s p T J) := by
  go_enter Try.func99, Try.ntmps99
  go_wp2
  go_loopw [1] (fun i wr => ∃ m : Nat, p + m ≤ s.size ∧ i = .int .i64 ((p + m : Nat) : Int) ∧ (∀ j, j < m → T j = true) ∧ J m wr) (fun i _ => s.size - (intOf i).toNat)
  case atStart => exact ⟨0, hp, rfl, fun j h => absurd h (by omega), h0⟩
  case round =>
    obtain ⟨m, hm, rfl, hj, hJ⟩ := hrel
    have HJ := Lib.hid hj
    clear hj
    by_cases hlt : p + m < s.size
    · obtain ⟨t, ht⟩ : ∃ t, T m = t := ⟨_, rfl⟩
      have hcall := hT m hlt wr hJ
      rw [ht] at hcall
      have HT := Lib.hid ht
      clear ht hT
      cases t
      · go_wp2_with (refine hcall.mono ?_; rintro e w2 ⟨rfl, hJ2⟩)
        go_ret
        exact ⟨m, rfl, hm, HJ.out, .inr ⟨hlt, HT.out, hJ2⟩⟩
      · go_wp2_with (refine hcall.mono ?_; rintro e w2 ⟨rfl, hJ2⟩)
        go_roundw
        case rel => exact ⟨m + 1, by omega, by go_num, fun j h => by rcases Nat.lt_or_ge j m with h' | h'; exact HJ.out j h'; exact (show j = m by omega) ▸ HT.out, hJ2⟩
        case measure => simp [intOf]; omega
    · go_wp2
      go_ret
      exact ⟨m, rfl, hm, HJ.out, .inl ⟨by omega, hJ⟩⟩

/-- The end of a run of what a word is of. -/
theorem run_of_take (l : List UInt8) (m : Nat) (h1 : ∀ j, j < m → ∀ c, l[j]? = some c → parB c = true) (hm : m ≤ l.length) (h2 : m = l.length ∨ ∃ c, l[m]? = some c ∧ parB c = false) : wordN l = m := by
  induction l generalizing m with
  | nil => simp at hm; subst hm; rfl
  | cons c r ih =>
    cases m with
    | zero =>
      rcases h2 with h2 | ⟨d, hd, hp⟩
      · simp at h2
      · simp at hd; subst hd; unfold wordN; rw [List.takeWhile_cons]; simp [hp]
    | succ m =>
      have hp := h1 0 (by omega) c rfl
      have := ih m (fun j hj d hd => h1 (j + 1) (by omega) d (by simpa using hd)) (by simpa using hm) (by
        rcases h2 with h2 | ⟨d, hd, hp⟩
        · left; simpa using h2
        · right; exact ⟨d, by simpa using hd, hp⟩)
      unfold wordN at this ⊢
      rw [List.takeWhile_cons, hp]; simp [this]

theorem byte_at (s : ByteArray) (p k : Nat) (h : p + k < s.size) : (s.data.toList.drop p)[k]? = some s[p + k] := by
  rw [List.getElem?_drop]
  have : s.data.toList[p + k]? = some s.data[p + k] := by
    rw [Array.getElem?_toList, Array.getElem?_eq_getElem h]
  rw [this]; rfl

theorem byteD (s : ByteArray) (p k : Nat) (h : p + k < s.size) : (s.data.toList.drop p).getD k 0 = s[p + k] := by
  rw [List.getD_eq_getElem?_getD, byte_at s p k h]; rfl

theorem wordEnd_any (s : ByteArray) (p : Nat) (hs : s.size ≤ 9223372036854775807) (hp : p ≤ s.size) (w : World) :
    Calls Try.prog 91 #[.string s, .int .i64 (p : Int)] w fun e w' => e = .returned (.int .i64 ((p + wordN (s.data.toList.drop p) : Nat) : Int)) ∧ w = w' := by
  have hrun := runEnd_any 100 (enters_of Try.func100 (by kernel_rfl) rfl) #[] s p (fun k => parB ((s.data.toList.drop p).getD k 0)) (fun _ W => w = W) hs hp
    (fun k h W hW => (wordEnd1_any _ _).mono fun e W' ⟨he, hw⟩ => ⟨by show e = .returned (.bool (parB ((s.data.toList.drop p).getD k 0))); rw [he, byteD s p k h], hW.trans hw⟩) w rfl
  have HR := Lib.hid hrun
  clear hrun
  go_enter Try.func91, Try.ntmps91
  go_wp2_with (go_at_call 99; refine HR.out.mono ?_; rintro e w' ⟨m, rfl, h1, h2, h3⟩; have H2 := Lib.hid h2; have H3 := Lib.hid h3; clear h2 h3)
  go_ret
  have h2 := H2.out
  have hsz : s.data.toList.length = s.size := Array.length_toList
  have hw : w = w' := by rcases H3.out with ⟨_, h⟩ | ⟨_, _, h⟩ <;> exact h
  refine ⟨ret_int ?_, hw⟩
  have hr : wordN (s.data.toList.drop p) = m := by
    refine run_of_take (s.data.toList.drop p) m ?_ (by rw [List.length_drop]; omega) ?_
    · intro j hj c hc
      have h := h2 j hj
      rw [byteD s p j (by omega)] at h
      rw [byte_at s p j (by omega)] at hc
      injection hc with hc
      rw [← hc]; exact h
    · rcases H3.out with ⟨h, _⟩ | ⟨h, h', _⟩
      · left; rw [List.length_drop]; omega
      · right
        rw [byteD s p m h] at h'
        exact ⟨_, byte_at s p m h, h'⟩
  rw [hr]; omega

theorem nat_int (a b : Nat) : decide (a = b) = decide ((a : Int) = (b : Int)) := decide_eq_decide.2 ⟨fun h => by rw [h], fun h => by omega⟩
theorem comS_int (m : Bool) (c : UInt8) : comS m c = (decide ((c.toNat : Int) = 35) || (m && !decide ((c.toNat : Int) = 10))) := by unfold comS; rw [nat_int, nat_int]; rfl
theorem blaB_int (c : UInt8) : blaB c = (decide ((c.toNat : Int) = 32) || decide ((c.toNat : Int) = 9) || decide ((c.toNat : Int) = 10)) := by unfold blaB; rw [nat_int, nat_int, nat_int]; rfl

end Go.Proofs.Ytdmilbfdiebjgaa
