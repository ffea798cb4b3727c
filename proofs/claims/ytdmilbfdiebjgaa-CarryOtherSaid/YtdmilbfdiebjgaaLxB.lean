/-
  The program's runs of bytes: runEnd over whatever closure; the closures; wordEnd, passedEnd.
-/
import Derived.RangeFuncBox
import Derived.Shelf.Abstract
import Derived.Test.YtdmilbfdiebjgaaLxMathB
import Derived.Test.YtdmilbfdiebjgaaLxA
namespace Go.Proofs.Ytdmilbfdiebjgaa
open Go.RowKit Go.Shelf

theorem Keyword_is (s : ByteArray) (b : Bool) (H : Hid (kwB s.data.toList = b)) (w : World) :
    Calls Try.prog 90 #[.string s] w fun e w' => e = .returned (.bool b) ∧ w = w' :=
  (Keyword_any s w).mono fun _ _ ⟨he, hw⟩ => ⟨by rw [he, H.out], hw⟩

/-- What a closure over one cell, or none, tells of the k-th byte of a run. -/
def TellsRun (g : Nat) (caps : Array Value) (s : ByteArray) (p : Nat) (T : Nat → Bool) (J : Nat → World → Prop) : Prop :=
  ∀ (k : Nat) (h : p + k < s.size) (W : World), J k W → Calls Try.prog g (#[.int .u8 (s[p + k].toNat : Int)] ++ caps) W fun e W' => e = .returned (.bool (T k)) ∧ J (k + 1) W'
/-- Where a run ends. -/
def RanTo (s : ByteArray) (p : Nat) (T : Nat → Bool) (J : Nat → World → Prop) (e : Ending) (W' : World) : Prop :=
  ∃ m : Nat, e = .returned (.int .i64 ((p + m : Nat) : Int)) ∧ p + m ≤ s.size ∧ (∀ j, j < m → T j = true) ∧ ((p + m = s.size ∧ J m W') ∨ (p + m < s.size ∧ T m = false ∧ J (m + 1) W'))

set_option maxHeartbeats 400000 in
theorem runEnd_any (g : Nat) (eg : ∀ args w, (callFunc g args).run Try.prog w = .ok (.enter g args) w) (caps : Array Value) (s : ByteArray) (p : Nat) (T : Nat → Bool) (J : Nat → World → Prop) (hs : s.size ≤ 9223372036854775807) (hp : p ≤ s.size)
    (hT : TellsRun g caps s p T J) (w : World) (h0 : J 0 w) :
    Calls Try.prog 99 #[.string s, .int .i64 (p : Int), .func (.func g) #[] caps] w (RanTo s p T J) := by
  go_enter Try.func99, Try.ntmps99
  go_wp2
  go_loopw [1] (fun i wr => ∃ m : Nat, p + m ≤ s.size ∧ i = .int .i64 ((p + m : Nat) : Int) ∧ (∀ j, j < m → T j = true) ∧ J m wr) (fun i _ => s.size - (intOf i).toNat)
  case atStart => exact ⟨0, hp, rfl, fun j h => absurd h (by omega), h0⟩
  case round =>
    obtain ⟨m, hm, rfl, hj, hJ⟩ := hrel
    have HJ := Lib.hid hj
    clear hj
    by_cases hlt : p + m < s.size
    · obtain ⟨t, ht⟩ : ∃ t, T m = t := ⟨_, rfl⟩
      have hcall := hT m hlt wr hJ
      rw [ht] at hcall
      have HT := Lib.hid ht
      clear ht hT
      cases t
      · go_wp2_with (refine hcall.mono ?_; rintro e w2 ⟨rfl, hJ2⟩)
        go_ret
        exact ⟨m, rfl, hm, HJ.out, .inr ⟨hlt, HT.out, hJ2⟩⟩
      · go_wp2_with (refine hcall.mono ?_; rintro e w2 ⟨rfl, hJ2⟩)
        go_roundw
        case rel => exact ⟨m + 1, by omega, by go_num, fun j h => by rcases Nat.lt_or_ge j m with h' | h'; exact HJ.out j h'; exact (show j = m by omega) ▸ HT.out, hJ2⟩
        case measure => simp [intOf]; omega
    · go_wp2
      go_ret
      exact ⟨m, rfl, hm, HJ.out, .inl ⟨by omega, hJ⟩⟩

/-- The end of a run of what a word is of. -/
theorem run_of_take (l : List UInt8) (m : Nat) (h1 : ∀ j, j < m → ∀ c, l[j]? = some c → parB c = true) (hm : m ≤ l.length) (h2 : m = l.length ∨ ∃ c, l[m]? = some c ∧ parB c = false) : wordN l = m := by
  induction l generalizing m with
  | nil => simp at hm; subst hm; rfl
  | cons c r ih =>
    cases m with
    | zero =>
      rcases h2 with h2 | ⟨d, hd, hp⟩
      · simp at h2
      · simp at hd; subst hd; unfold wordN; rw [List.takeWhile_cons]; simp [hp]
    | succ m =>
      have hp := h1 0 (by omega) c rfl
      have := ih m (fun j hj d hd => h1 (j + 1) (by omega) d (by simpa using hd)) (by simpa using hm) (by
        rcases h2 with h2 | ⟨d, hd, hp⟩
        · left; simpa using h2
        · right; exact ⟨d, by simpa using hd, hp⟩)
      unfold wordN at this ⊢
      rw [List.takeWhile_cons, hp]; simp [this]

theorem byte_at (s : ByteArray) (p k : Nat) (h : p + k < s.size) : (s.data.toList.drop p)[k]? = some s[p + k] := by
  rw [List.getElem?_drop]
  have : s.data.toList[p + k]? = some s.data[p + k] := by
    rw [Array.getElem?_toList, Array.getElem?_eq_getElem h]
  rw [this]; rfl

theorem byteD (s : ByteArray) (p k : Nat) (h : p + k < s.size) : (s.data.toList.drop p).getD k 0 = s[p + k] := by
  rw [List.getD_eq_getElem?_getD, byte_at s p k h]; rfl

theorem wordEnd_any (s : ByteArray) (p : Nat) (hs : s.size ≤ 9223372036854775807) (hp : p ≤ s.size) (w : World) :
    Calls Try.prog 91 #[.string s, .int .i64 (p : Int)] w fun e w' => e = .returned (.int .i64 ((p + wordN (s.data.toList.drop p) : Nat) : Int)) ∧ w = w' := by
  have hrun := runEnd_any 100 (enters_of Try.func100 (by kernel_rfl) rfl) #[] s p (fun k => parB ((s.data.toList.drop p).getD k 0)) (fun _ W => w = W) hs hp
    (fun k h W hW => (wordEnd1_any _ _).mono fun e W' ⟨he, hw⟩ => ⟨by show e = .returned (.bool (parB ((s.data.toList.drop p).getD k 0))); rw [he, byteD s p k h], hW.trans hw⟩) w rfl
  have HR := Lib.hid hrun
  clear hrun
  go_enter Try.func91, Try.ntmps91
  go_wp2_with (go_at_call 99; refine HR.out.mono ?_; rintro e w' ⟨m, rfl, h1, h2, h3⟩; have H2 := Lib.hid h2; have H3 := Lib.hid h3; clear h2 h3)
  go_ret
  have h2 := H2.out
  have hsz : s.data.toList.length = s.size := Array.length_toList
  have hw : w = w' := by rcases H3.out with ⟨_, h⟩ | ⟨_, _, h⟩ <;> exact h
  refine ⟨ret_int ?_, hw⟩
  have hr : wordN (s.data.toList.drop p) = m := by
    refine run_of_take (s.data.toList.drop p) m ?_ (by rw [List.length_drop]; omega) ?_
    · intro j hj c hc
      have h := h2 j hj
      rw [byteD s p j (by omega)] at h
      rw [byte_at s p j (by omega)] at hc
      injection hc with hc
      rw [← hc]; exact h
    · rcases H3.out with ⟨h, _⟩ | ⟨h, h', _⟩
      · left; rw [List.length_drop]; omega
      · right
        rw [byteD s p m h] at h'
        exact ⟨_, byte_at s p m h, h'⟩
  rw [hr]; omega

theorem nat_int (a b : Nat) : decide (a = b) = decide ((a : Int) = (b : Int)) := decide_eq_decide.2 ⟨fun h => by rw [h], fun h => by omega⟩
theorem comS_int (m : Bool) (c : UInt8) : comS m c = (decide ((c.toNat : Int) = 35) || (m && !decide ((c.toNat : Int) = 10))) := by unfold comS; rw [nat_int, nat_int]; rfl
theorem blaB_int (c : UInt8) : blaB c = (decide ((c.toNat : Int) = 32) || decide ((c.toNat : Int) = 9) || decide ((c.toNat : Int) = 10)) := by unfold blaB; rw [nat_int, nat_int, nat_int]; rfl

end Go.Proofs.Ytdmilbfdiebjgaa
