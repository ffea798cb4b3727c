/-
  Routes' texts: decimals, lists of numbers; unlike routes have unlike texts.
-/
import Derived.Lib.ItoaNum
import Derived.Lib.Join
import Derived.Test.YtlfdpfkimggeoaaDoorAtF
namespace Go.Proofs.YtlfdpfkimggeoaaDoor
open Go.RowKit
set_option linter.unusedVariables false
set_option linter.unusedSimpArgs false

/-! ### Decimals -/
theorem dig_small {n : Nat} (h : n < 10) : Lib.decDigits n = [UInt8.ofNat (48 + n)] := by rw [Lib.decDigits, dif_pos h]
theorem dig_great {n : Nat} (h : ¬ n < 10) : Lib.decDigits n = Lib.decDigits (n / 10) ++ [UInt8.ofNat (48 + n % 10)] := by rw [Lib.decDigits, dif_neg h]
theorem dig_len : ∀ (f n : Nat), n < 10 ^ f → 1 ≤ f → (Lib.decDigits n).length ≤ f
  | 0, n, _, h => absurd h (by omega)
  | f + 1, n, hn, _ => by
    by_cases h : n < 10
    · rw [dig_small h]; simp
    · rw [dig_great h, List.length_append]
      have := dig_len f (n / 10) (by rw [Nat.pow_succ] at hn; omega) (by
        rcases Nat.eq_zero_or_pos f with h0 | h0
        · subst h0; simp at hn; omega
        · exact h0)
      simp; omega
def digVal (l : List UInt8) : Nat := l.foldl (fun a b => a * 10 + (b.toNat - 48)) 0
theorem dig_facts : ∀ (f n : Nat), n < 10 ^ f → 1 ≤ f → digVal (Lib.decDigits n) = n ∧ (∀ b ∈ Lib.decDigits n, 48 ≤ b.toNat ∧ b.toNat ≤ 57) ∧ Lib.decDigits n ≠ []
  | 0, n, _, h => absurd h (by omega)
  | f + 1, n, hn, _ => by
    have hb : ∀ d : Nat, d < 10 → (UInt8.ofNat (48 + d)).toNat = 48 + d := fun d hd => by
      rw [UInt8.toNat_ofNat']; omega
    by_cases h : n < 10
    · rw [dig_small h]
      refine ⟨?_, ?_, by simp⟩
      · show 0 * 10 + ((UInt8.ofNat (48 + n)).toNat - 48) = n
        rw [hb n h]; omega
      · intro b hm
        rw [List.mem_singleton] at hm
        subst hm
        rw [hb n h]; omega
    · rw [dig_great h]
      obtain ⟨h1, h2, h3⟩ := dig_facts f (n / 10) (by rw [Nat.pow_succ] at hn; omega) (by
        rcases Nat.eq_zero_or_pos f with h0 | h0
        · subst h0; simp at hn; omega
        · exact h0)
      have hm10 := Nat.mod_lt n (show 10 > 0 by omega)
      refine ⟨?_, ?_, by simp⟩
      · unfold digVal at h1 ⊢
        rw [List.foldl_append, h1]
        show n / 10 * 10 + ((UInt8.ofNat (48 + n % 10)).toNat - 48) = n
        rw [hb _ hm10]; omega
      · intro b hm
        rcases List.mem_append.1 hm with hm | hm
        · exact h2 b hm
        · rw [List.mem_singleton] at hm
          subst hm
          rw [hb _ hm10]; omega
theorem dig_ok (n : Nat) : digVal (Lib.decDigits n) = n ∧ (∀ b ∈ Lib.decDigits n, 48 ≤ b.toNat ∧ b.toNat ≤ 57) ∧ Lib.decDigits n ≠ [] :=
  dig_facts (n + 1) n (by
    have h1 : n < 2 ^ n := Nat.lt_two_pow_self
    have h2 : 2 ^ n ≤ 10 ^ n := Nat.pow_le_pow_left (by omega) n
    have h3 : 10 ^ n ≤ 10 ^ (n + 1) := Nat.pow_le_pow_right (by omega) (by omega)
    omega) (by omega)
theorem dig_inj {n m : Nat} (h : Lib.decDigits n = Lib.decDigits m) : n = m := by
  rw [← (dig_ok n).1, ← (dig_ok m).1, h]
theorem dig_no32 (n : Nat) : (32 : UInt8) ∉ Lib.decDigits n := fun h => by
  have := (dig_ok n).2.1 _ h
  have h32 : (32 : UInt8).toNat = 32 := rfl
  omega

/-! ### Joined lists -/
theorem joinTail_nil (sep : List UInt8) : Lib.joinTail sep [] = [] := rfl
theorem joinTail_cons (y : List UInt8) (r : List (List UInt8)) : Lib.joinTail [32] (y :: r) = 32 :: (y ++ Lib.joinTail [32] r) := by
  simp [Lib.joinTail]
theorem tail_cut : ∀ (x y : List UInt8) (r s : List (List UInt8)), (32 : UInt8) ∉ x → (32 : UInt8) ∉ y → x ++ Lib.joinTail [32] r = y ++ Lib.joinTail [32] s → x = y ∧ Lib.joinTail [32] r = Lib.joinTail [32] s
  | [], [], r, s, _, _, h => ⟨rfl, h⟩
  | [], c :: y, r, s, _, hy, h => by
    cases r with
    | nil => simp [joinTail_nil] at h
    | cons z r =>
      rw [joinTail_cons] at h
      simp at h
      exact absurd (by rw [h.1]; simp : (32 : UInt8) ∈ c :: y) hy
  | c :: x, [], r, s, hx, _, h => by
    cases s with
    | nil => simp [joinTail_nil] at h
    | cons z s =>
      rw [joinTail_cons] at h
      simp at h
      exact absurd (by rw [← h.1]; simp : (32 : UInt8) ∈ c :: x) hx
  | c :: x, d :: y, r, s, hx, hy, h => by
    simp only [List.cons_append, List.cons.injEq] at h
    obtain ⟨e1, e2⟩ := tail_cut x y r s (fun h => hx (List.mem_cons_of_mem _ h)) (fun h => hy (List.mem_cons_of_mem _ h)) h.2
    exact ⟨by rw [h.1, e1], e2⟩
theorem tail_inj : ∀ (r s : List (List UInt8)), (∀ x ∈ r, (32 : UInt8) ∉ x) → (∀ x ∈ s, (32 : UInt8) ∉ x) → Lib.joinTail [32] r = Lib.joinTail [32] s → r = s
  | [], [], _, _, _ => rfl
  | [], y :: s, _, _, h => by rw [joinTail_cons, joinTail_nil] at h; cases h
  | y :: r, [], _, _, h => by rw [joinTail_cons, joinTail_nil] at h; cases h
  | y :: r, z :: s, hr, hs, h => by
    rw [joinTail_cons, joinTail_cons] at h
    simp only [List.cons.injEq, true_and] at h
    obtain ⟨e1, e2⟩ := tail_cut y z r s (hr y (by simp)) (hs z (by simp)) h
    rw [e1, tail_inj r s (fun x hx => hr x (List.mem_cons_of_mem _ hx)) (fun x hx => hs x (List.mem_cons_of_mem _ hx)) e2]
theorem join_inj (xs ys : List (List UInt8)) (hx : ∀ x ∈ xs, (32 : UInt8) ∉ x ∧ x ≠ []) (hy : ∀ x ∈ ys, (32 : UInt8) ∉ x ∧ x ≠ []) (h : Lib.join xs [32] = Lib.join ys [32]) : xs = ys := by
  cases xs with
  | nil =>
    cases ys with
    | nil => rfl
    | cons y s =>
      rw [Lib.join_nil, Lib.join_cons] at h
      have := (hy y (by simp)).2
      cases y with
      | nil => exact absurd rfl this
      | cons c y => cases h
  | cons x r =>
    cases ys with
    | nil =>
      rw [Lib.join_nil, Lib.join_cons] at h
      have := (hx x (by simp)).2
      cases x with
      | nil => exact absurd rfl this
      | cons c y => cases h
    | cons y s =>
      rw [Lib.join_cons, Lib.join_cons] at h
      obtain ⟨e1, e2⟩ := tail_cut x y r s (hx x (by simp)).1 (hy y (by simp)).1 h
      rw [e1, tail_inj r s (fun x h => (hx x (List.mem_cons_of_mem _ h)).1) (fun x h => (hy x (List.mem_cons_of_mem _ h)).1) e2]

/-! ### Texts -/
def numsW (l : List Int) : List (List UInt8) := l.map fun x => Lib.decDigits x.toNat
def numsJ (l : List Int) : List UInt8 := Lib.join (numsW l) [32]
def rtText (r : Rt) : List UInt8 := if r.kind = 1 then Lib.decDigits r.cost.toNat else if r.kind = 2 then 91 :: (numsJ r.path ++ [93]) else [45]
theorem numsJ_take {l : List Int} {k : Nat} {x : Int} (hx : l[k]? = some x) : numsJ (l.take (k + 1)) = (if k = 0 then [] else numsJ (l.take k) ++ [32]) ++ Lib.decDigits x.toNat := by
  unfold numsJ numsW
  cases l with
  | nil => simp at hx
  | cons y l =>
    cases k with
    | zero => simp at hx; subst hx; simp [Lib.join_one]
    | succ k =>
      rw [if_neg (by omega), List.take_succ_cons, List.take_succ_cons, List.map_cons, List.map_cons, Lib.join_cons, Lib.join_cons, List.map_take, List.map_take,
        Lib.joinTail_take_succ [32] _ k (Lib.decDigits x.toNat) (by rw [List.getElem?_map]; simp at hx; rw [hx]; rfl)]
      simp [List.append_assoc]
theorem numsJ_len (l : List Int) (h : ∀ x ∈ l, x ≤ 65535) : (numsJ l).length ≤ 6 * l.length := by
  have key : ∀ k, k ≤ l.length → (numsJ (l.take k)).length ≤ 6 * k := by
    intro k
    induction k with
    | zero => intro _; simp [numsJ, numsW, Lib.join_nil]
    | succ k ih =>
      intro hk
      have hx : l[k]? = some l[k] := List.getElem?_eq_getElem (by omega)
      rw [numsJ_take hx, List.length_append]
      have h1 := dig_len 5 l[k].toNat (by have := h l[k] (List.getElem_mem _); omega) (by omega)
      by_cases e : k = 0
      · rw [if_pos e]; simp; omega
      · rw [if_neg e, List.length_append]
        have := ih (by omega)
        simp; omega
  have := key l.length (Nat.le_refl _)
  rwa [List.take_length] at this
theorem pathOk_in {l : List Int} (h : pathOk l = true) : ∀ x ∈ l, 1 ≤ x ∧ x ≤ 65535 := by
  intro x hx
  unfold pathOk at h
  rw [Bool.and_eq_true, List.all_eq_true] at h
  simpa using h.1 x hx
theorem rtText_inj {a b : Rt} (ha : rtRight a = true) (hb : rtRight b = true) : decide (rtText a = rtText b) = rtSame a b := by
  obtain ⟨k, c, l⟩ := a
  obtain ⟨k', c', l'⟩ := b
  have hrk := rtRight_kind ha
  have hrk' := rtRight_kind hb
  have hsame : rtSame ⟨k, c, l⟩ ⟨k', c', l'⟩ = decide (k = k' ∧ c = c' ∧ l = l') := by
    unfold rtSame; dsimp only; rw [Bool.decide_and, Bool.decide_and]
  rw [hsame, decide_eq_decide]
  unfold rtRight at ha hb
  unfold rtText
  dsimp only at ha hb hrk hrk' ⊢
  have hd : ∀ n, ∃ c0 r, Lib.decDigits n = c0 :: r ∧ 48 ≤ c0.toNat ∧ c0.toNat ≤ 57 := fun n => by
    obtain ⟨_, h2, h3⟩ := dig_ok n
    cases e : Lib.decDigits n with
    | nil => exact absurd e h3
    | cons c0 r => exact ⟨c0, r, rfl, h2 c0 (by rw [e]; simp)⟩
  have h91 : (91 : UInt8).toNat = 91 := rfl
  have h45 : (45 : UInt8).toNat = 45 := rfl
  constructor
  · intro h
    have hkk : k = k' := by
      by_cases e1 : k = 1
      · rw [if_pos e1] at h
        obtain ⟨c0, r, e, h1, h2⟩ := hd c.toNat
        rw [e] at h
        by_cases f1 : k' = 1
        · omega
        · rw [if_neg f1] at h
          by_cases f2 : k' = 2
          · rw [if_pos f2] at h
            simp only [List.cons.injEq] at h
            rw [h.1, h91] at h2; omega
          · rw [if_neg f2] at h
            simp only [List.cons.injEq] at h
            rw [h.1, h45] at h1; omega
      · rw [if_neg e1] at h
        by_cases e2 : k = 2
        · rw [if_pos e2] at h
          by_cases f1 : k' = 1
          · rw [if_pos f1] at h
            obtain ⟨c0, r, e, h1, h2⟩ := hd c'.toNat
            rw [e] at h
            simp only [List.cons.injEq] at h
            rw [← h.1, h91] at h2; omega
          · rw [if_neg f1] at h
            by_cases f2 : k' = 2
            · omega
            · rw [if_neg f2] at h
              simp at h
        · rw [if_neg e2] at h
          by_cases f1 : k' = 1
          · rw [if_pos f1] at h
            obtain ⟨c0, r, e, h1, h2⟩ := hd c'.toNat
            rw [e] at h
            simp only [List.cons.injEq] at h
            rw [← h.1, h45] at h1; omega
          · rw [if_neg f1] at h
            by_cases f2 : k' = 2
            · rw [if_pos f2] at h
              simp at h
            · omega
    subst hkk
    refine ⟨rfl, ?_⟩
    by_cases e0 : k = 0
    · rw [if_pos e0] at ha hb
      simp only [Bool.and_eq_true, decide_eq_true_eq] at ha hb
      exact ⟨by omega, by rw [List.eq_nil_of_length_eq_zero ha.2, List.eq_nil_of_length_eq_zero hb.2]⟩
    · rw [if_neg e0] at ha hb
      by_cases e1 : k = 1
      · rw [if_pos e1] at ha hb h
        rw [if_pos e1] at h
        simp only [Bool.and_eq_true, decide_eq_true_eq] at ha hb
        have := dig_inj h
        exact ⟨by omega, by rw [List.eq_nil_of_length_eq_zero ha.2.2, List.eq_nil_of_length_eq_zero hb.2.2]⟩
      · rw [if_neg e1] at ha hb h
        have e2 : k = 2 := by omega
        rw [if_pos e2] at ha hb h
        rw [if_neg e1, if_pos e2] at h
        unfold pathB at ha hb
        simp only [Bool.and_eq_true, decide_eq_true_eq] at ha hb
        refine ⟨by omega, ?_⟩
        simp only [List.cons.injEq, true_and] at h
        have hj := List.append_cancel_right h
        unfold numsJ at hj
        have hw := join_inj (numsW l) (numsW l') (fun x hx => by
          obtain ⟨y, _, rfl⟩ := List.mem_map.1 hx
          exact ⟨dig_no32 _, (dig_ok _).2.2⟩) (fun x hx => by
          obtain ⟨y, _, rfl⟩ := List.mem_map.1 hx
          exact ⟨dig_no32 _, (dig_ok _).2.2⟩) hj
        have p1 := pathOk_in ha.2.2
        have p2 := pathOk_in hb.2.2
        clear ha hb h hj hsame
        unfold numsW at hw
        induction l generalizing l' with
        | nil =>
          cases l' with
          | nil => rfl
          | cons y l' => cases hw
        | cons x l ih =>
          cases l' with
          | nil => cases hw
          | cons y l' =>
            simp only [List.map_cons, List.cons.injEq] at hw
            have hxy := dig_inj hw.1
            have q1 := p1 x (by simp)
            have q2 := p2 y (by simp)
            rw [show x = y by omega, ih l' hw.2 (fun z hz => p1 z (List.mem_cons_of_mem _ hz)) (fun z hz => p2 z (List.mem_cons_of_mem _ hz))]
  · rintro ⟨rfl, rfl, rfl⟩
    rfl
end Go.Proofs.YtlfdpfkimggeoaaDoor
