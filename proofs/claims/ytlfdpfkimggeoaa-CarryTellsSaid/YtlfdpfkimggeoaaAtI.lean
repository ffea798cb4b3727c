/-
  Lists of routes in memory; the best of them; append with whatever source.
-/
import Derived.Lib.ItoaNum
import Derived.Lib.Join
import Derived.Test.YtlfdpfkimggeoaaAtF
import Derived.Lib.AppendIntMem
import Derived.IntWalk
import Derived.Maps.AppendAt
import Derived.Test.YtlfdpfkimggeoaaShelf
import Derived.Deep.MidRow
import Derived.Deep.DeepCutAuto
import Derived.Test.YtlfdpfkimggeoaaApp
namespace Go.Proofs.Ytlfdpfkimggeoaa
open Go.RowKit
set_option linter.unusedVariables false
set_option linter.unusedSimpArgs false

/-! ### Decimals -/
theorem dig_small {n : Nat} (h : n < 10) : Lib.decDigits n = [UInt8.ofNat (48 + n)] := by rw [Lib.decDigits, dif_pos h]
theorem dig_great {n : Nat} (h : ¬ n < 10) : Lib.decDigits n = Lib.decDigits (n / 10) ++ [UInt8.ofNat (48 + n % 10)] := by rw [Lib.decDigits, dif_neg h]
theorem dig_len : ∀ (f n : Nat), n < 10 ^ f → 1 ≤ f → (Lib.decDigits n).length ≤ f
  | 0, n, _, h => absurd h (by omega)
  | f + 1, n, hn, _ => by
    by_cases h : n < 10
    · rw [dig_small h]; simp
    · rw [dig_great h, List.length_append]
      have := dig_len f (n / 10) (by rw [Nat.pow_succ] at hn; omega) (by
        rcases Nat.eq_zero_or_pos f with h0 | h0
        · subst h0; simp at hn; omega
        · exact h0)
      simp; omega
def digVal (l : List UInt8) : Nat := l.foldl (fun a b => a * 10 + (b.toNat - 48)) 0
theorem dig_facts : ∀ (f n : Nat), n < 10 ^ f → 1 ≤ f → digVal (Lib.decDigits n) = n ∧ (∀ b ∈ Lib.decDigits n, 48 ≤ b.toNat ∧ b.toNat ≤ 57) ∧ Lib.decDigits n ≠ []
  | 0, n, _, h => absurd h (by omega)
  | f + 1, n, hn, _ => by
    have hb : ∀ d : Nat, d < 10 → (UInt8.ofNat (48 + d)).toNat = 48 + d := fun d hd => by
      rw [UInt8.toNat_ofNat']; omega
    by_cases h : n < 10
    · rw [dig_small h]
      refine ⟨?_, ?_, by simp⟩
      · show 0 * 10 + ((UInt8.ofNat (48 + n)).toNat - 48) = n
        rw [hb n h]; omega
      · intro b hm
        rw [List.mem_singleton] at hm
        subst hm
        rw [hb n h]; omega
    · rw [dig_great h]
      obtain ⟨h1, h2, h3⟩ := dig_facts f (n / 10) (by rw [Nat.pow_succ] at hn; omega) (by
        rcases Nat.eq_zero_or_pos f with h0 | h0
        · subst h0; simp at hn; omega
        · exact h0)
      have hm10 := Nat.mod_lt n (show 10 > 0 by omega)
      refine ⟨?_, ?_, by simp⟩
      · unfold digVal at h1 ⊢
        rw [List.foldl_append, h1]
        show n / 10 * 10 + ((UInt8.ofNat (48 + n % 10)).toNat - 48) = n
        rw [hb _ hm10]; omega
      · intro b hm
        rcases List.mem_append.1 hm with hm | hm
        · exact h2 b hm
        · rw [List.mem_singleton] at hm
          subst hm
          rw [hb _ hm10]; omega
theorem dig_ok (n : Nat) : digVal (Lib.decDigits n) = n ∧ (∀ b ∈ Lib.decDigits n, 48 ≤ b.toNat ∧ b.toNat ≤ 57) ∧ Lib.decDigits n ≠ [] :=
  dig_facts (n + 1) n (by
    have h1 : n < 2 ^ n := Nat.lt_two_pow_self
    have h2 : 2 ^ n ≤ 10 ^ n := Nat.pow_le_pow_left (by omega) n
    have h3 : 10 ^ n ≤ 10 ^ (n + 1) := Nat.pow_le_pow_right (by omega) (by omega)
    omega) (by omega)
theorem dig_inj {n m : Nat} (h : Lib.decDigits n = Lib.decDigits m) : n = m := by
  rw [← (dig_ok n).1, ← (dig_ok m).1, h]
theorem dig_no32 (n : Nat) : (32 : UInt8) ∉ Lib.decDigits n := fun h => by
  have := (dig_ok n).2.1 _ h
  have h32 : (32 : UInt8).toNat = 32 := rfl
  omega

/-! ### Joined lists -/
theorem joinTail_nil (sep : List UInt8) : Lib.joinTail sep [] = [] := rfl
theorem joinTail_cons (y : List UInt8) (r : List (List UInt8)) : Lib.joinTail [32] (y :: r) = 32 :: (y ++ Lib.joinTail [32] r) := by
  simp [Lib.joinTail]
theorem tail_cut : ∀ (x y : List UInt8) (r s : List (List UInt8)), (32 : UInt8) ∉ x → (32 : UInt8) ∉ y → x ++ Lib.joinTail [32] r = y ++ Lib.joinTail [32] s → x = y ∧ Lib.joinTail [32] r = Lib.joinTail [32] s
  | [], [], r, s, _, _, h => ⟨rfl, h⟩
  | [], c :: y, r, s, _, hy, h => by
    cases r with
    | nil => simp [joinTail_nil] at h
    | cons z r =>
      rw [joinTail_cons] at h
      simp at h
      exact absurd (by rw [h.1]; simp : (32 : UInt8) ∈ c :: y) hy
  | c :: x, [], r, s, hx, _, h => by
    cases s with
    | nil => simp [joinTail_nil] at h
    | cons z s =>
      rw [joinTail_cons] at h
      simp at h
      exact absurd (by rw [← h.1]; simp : (32 : UInt8) ∈ c :: x) hx
  | c :: x, d :: y, r, s, hx, hy, h => by
    simp only [List.cons_append, List.cons.injEq] at h
    obtain ⟨e1, e2⟩ := tail_cut x y r s (fun h => hx (List.mem_cons_of_mem _ h)) (fun h => hy (List.mem_cons_of_mem _ h)) h.2
    exact ⟨by rw [h.1, e1], e2⟩
theorem tail_inj : ∀ (r s : List (List UInt8)), (∀ x ∈ r, (32 : UInt8) ∉ x) → (∀ x ∈ s, (32 : UInt8) ∉ x) → Lib.joinTail [32] r = Lib.joinTail [32] s → r = s
  | [], [], _, _, _ => rfl
  | [], y :: s, _, _, h => by rw [joinTail_cons, joinTail_nil] at h; cases h
  | y :: r, [], _, _, h => by rw [joinTail_cons, joinTail_nil] at h; cases h
  | y :: r, z :: s, hr, hs, h => by
    rw [joinTail_cons, joinTail_cons] at h
    simp only [List.cons.injEq, true_and] at h
    obtain ⟨e1, e2⟩ := tail_cut y z r s (hr y (by simp)) (hs z (by simp)) h
    rw [e1, tail_inj r s (fun x hx => hr x (List.mem_cons_of_mem _ hx)) (fun x hx => hs x (List.mem_cons_of_mem _ hx)) e2]
theorem join_inj (xs ys : List (List UInt8)) (hx : ∀ x ∈ xs, (32 : UInt8) ∉ x ∧ x ≠ []) (hy : ∀ x ∈ ys, (32 : UInt8) ∉ x ∧ x ≠ []) (h : Lib.join xs [32] = Lib.join ys [32]) : xs = ys := by
  cases xs with
  | nil =>
    cases ys with
    | nil => rfl
    | cons y s =>
      rw [Lib.join_nil, Lib.join_cons] at h
      have := (hy y (by simp)).2
      cases y with
      | nil => exact absurd rfl this
      | cons c y => cases h
  | cons x r =>
    cases ys with
    | nil =>
      rw [Lib.join_nil, Lib.join_cons] at h
      have := (hx x (by simp)).2
      cases x with
      | nil => exact absurd rfl this
      | cons c y => cases h
    | cons y s =>
      rw [Lib.join_cons, Lib.join_cons] at h
      obtain ⟨e1, e2⟩ := tail_cut x y r s (hx x (by simp)).1 (hy y (by simp)).1 h
      rw [e1, tail_inj r s (fun x h => (hx x (List.mem_cons_of_mem _ h)).1) (fun x h => (hy x (List.mem_cons_of_mem _ h)).1) e2]

/-! ### Texts -/
def numsW (l : List Int) : List (List UInt8) := l.map fun x => Lib.decDigits x.toNat
def numsJ (l : List Int) : List UInt8 := Lib.join (numsW l) [32]
def rtText (r : Rt) : List UInt8 := if r.kind = 1 then Lib.decDigits r.cost.toNat else if r.kind = 2 then 91 :: (numsJ r.path ++ [93]) else [45]
theorem numsJ_take {l : List Int} {k : Nat} {x : Int} (hx : l[k]? = some x) : numsJ (l.take (k + 1)) = (if k = 0 then [] else numsJ (l.take k) ++ [32]) ++ Lib.decDigits x.toNat := by
  unfold numsJ numsW
  cases l with
  | nil => simp at hx
  | cons y l =>
    cases k with
    | zero => simp at hx; subst hx; simp [Lib.join_one]
    | succ k =>
      rw [if_neg (by omega), List.take_succ_cons, List.take_succ_cons, List.map_cons, List.map_cons, Lib.join_cons, Lib.join_cons, List.map_take, List.map_take,
        Lib.joinTail_take_succ [32] _ k (Lib.decDigits x.toNat) (by rw [List.getElem?_map]; simp at hx; rw [hx]; rfl)]
      simp [List.append_assoc]
theorem numsJ_len (l : List Int) (h : ∀ x ∈ l, x ≤ 65535) : (numsJ l).length ≤ 6 * l.length := by
  have key : ∀ k, k ≤ l.length → (numsJ (l.take k)).length ≤ 6 * k := by
    intro k
    induction k with
    | zero => intro _; simp [numsJ, numsW, Lib.join_nil]
    | succ k ih =>
      intro hk
      have hx : l[k]? = some l[k] := List.getElem?_eq_getElem (by omega)
      rw [numsJ_take hx, List.length_append]
      have h1 := dig_len 5 l[k].toNat (by have := h l[k] (List.getElem_mem _); omega) (by omega)
      by_cases e : k = 0
      · rw [if_pos e]; simp; omega
      · rw [if_neg e, List.length_append]
        have := ih (by omega)
        simp; omega
  have := key l.length (Nat.le_refl _)
  rwa [List.take_length] at this
theorem pathOk_in {l : List Int} (h : pathOk l = true) : ∀ x ∈ l, 1 ≤ x ∧ x ≤ 65535 := by
  intro x hx
  unfold pathOk at h
  rw [Bool.and_eq_true, List.all_eq_true] at h
  simpa using h.1 x hx
theorem rtText_inj {a b : Rt} (ha : rtRight a = true) (hb : rtRight b = true) : decide (rtText a = rtText b) = rtSame a b := by
  obtain ⟨k, c, l⟩ := a
  obtain ⟨k', c', l'⟩ := b
  have hrk := rtRight_kind ha
  have hrk' := rtRight_kind hb
  have hsame : rtSame ⟨k, c, l⟩ ⟨k', c', l'⟩ = decide (k = k' ∧ c = c' ∧ l = l') := by
    unfold rtSame; dsimp only; rw [Bool.decide_and, Bool.decide_and]
  rw [hsame, decide_eq_decide]
  unfold rtRight at ha hb
  unfold rtText
  dsimp only at ha hb hrk hrk' ⊢
  have hd : ∀ n, ∃ c0 r, Lib.decDigits n = c0 :: r ∧ 48 ≤ c0.toNat ∧ c0.toNat ≤ 57 := fun n => by
    obtain ⟨_, h2, h3⟩ := dig_ok n
    cases e : Lib.decDigits n with
    | nil => exact absurd e h3
    | cons c0 r => exact ⟨c0, r, rfl, h2 c0 (by rw [e]; simp)⟩
  have h91 : (91 : UInt8).toNat = 91 := rfl
  have h45 : (45 : UInt8).toNat = 45 := rfl
  constructor
  · intro h
    have hkk : k = k' := by
      by_cases e1 : k = 1
      · rw [if_pos e1] at h
        obtain ⟨c0, r, e, h1, h2⟩ := hd c.toNat
        rw [e] at h
        by_cases f1 : k' = 1
        · omega
        · rw [if_neg f1] at h
          by_cases f2 : k' = 2
          · rw [if_pos f2] at h
            simp only [List.cons.injEq] at h
            rw [h.1, h91] at h2; omega
          · rw [if_neg f2] at h
            simp only [List.cons.injEq] at h
            rw [h.1, h45] at h1; omega
      · rw [if_neg e1] at h
        by_cases e2 : k = 2
        · rw [if_pos e2] at h
          by_cases f1 : k' = 1
          · rw [if_pos f1] at h
            obtain ⟨c0, r, e, h1, h2⟩ := hd c'.toNat
            rw [e] at h
            simp only [List.cons.injEq] at h
            rw [← h.1, h91] at h2; omega
          · rw [if_neg f1] at h
            by_cases f2 : k' = 2
            · omega
            · rw [if_neg f2] at h
              simp at h
        · rw [if_neg e2] at h
          by_cases f1 : k' = 1
          · rw [if_pos f1] at h
            obtain ⟨c0, r, e, h1, h2⟩ := hd c'.toNat
            rw [e] at h
            simp only [List.cons.injEq] at h
            rw [← h.1, h45] at h1; omega
          · rw [if_neg f1] at h
            by_cases f2 : k' = 2
            · rw [if_pos f2] at h
              simp at h
            · omega
    subst hkk
    refine ⟨rfl, ?_⟩
    by_cases e0 : k = 0
    · rw [if_pos e0] at ha hb
      simp only [Bool.and_eq_true, decide_eq_true_eq] at ha hb
      exact ⟨by omega, by rw [List.eq_nil_of_length_eq_zero ha.2, List.eq_nil_of_length_eq_zero hb.2]⟩
    · rw [if_neg e0] at ha hb
      by_cases e1 : k = 1
      · rw [if_pos e1] at ha hb h
        rw [if_pos e1] at h
        simp only [Bool.and_eq_true, decide_eq_true_eq] at ha hb
        have := dig_inj h
        exact ⟨by omega, by rw [List.eq_nil_of_length_eq_zero ha.2.2, List.eq_nil_of_length_eq_zero hb.2.2]⟩
      · rw [if_neg e1] at ha hb h
        have e2 : k = 2 := by omega
        rw [if_pos e2] at ha hb h
        rw [if_neg e1, if_pos e2] at h
        unfold pathB at ha hb
        simp only [Bool.and_eq_true, decide_eq_true_eq] at ha hb
        refine ⟨by omega, ?_⟩
        simp only [List.cons.injEq, true_and] at h
        have hj := List.append_cancel_right h
        unfold numsJ at hj
        have hw := join_inj (numsW l) (numsW l') (fun x hx => by
          obtain ⟨y, _, rfl⟩ := List.mem_map.1 hx
          exact ⟨dig_no32 _, (dig_ok _).2.2⟩) (fun x hx => by
          obtain ⟨y, _, rfl⟩ := List.mem_map.1 hx
          exact ⟨dig_no32 _, (dig_ok _).2.2⟩) hj
        have p1 := pathOk_in ha.2.2
        have p2 := pathOk_in hb.2.2
        clear ha hb h hj hsame
        unfold numsW at hw
        induction l generalizing l' with
        | nil =>
          cases l' with
          | nil => rfl
          | cons y l' => cases hw
        | cons x l ih =>
          cases l' with
          | nil => cases hw
          | cons y l' =>
            simp only [List.map_cons, List.cons.injEq] at hw
            have hxy := dig_inj hw.1
            have q1 := p1 x (by simp)
            have q2 := p2 y (by simp)
            rw [show x = y by omega, ih l' hw.2 (fun z hz => p1 z (List.mem_cons_of_mem _ hz)) (fun z hz => p2 z (List.mem_cons_of_mem _ hz))]
  · rintro ⟨rfl, rfl, rfl⟩
    rfl
end Go.Proofs.Ytlfdpfkimggeoaa
namespace Go.Proofs.Ytlfdpfkimggeoaa
open Go.RowKit
set_option linter.unusedVariables false
set_option linter.unusedSimpArgs false

/-- The library's table of powers of ten lies as its text lays it. -/
def PowTab (w : World) : Prop := Lib.TabIs Try.prog w "internal/strconv.uint64pow10" .u64 Lib.pow10Tab
theorem PowTab.on {w w' : World} (h : PowTab w) (hb : Below w.heap.size w w') : PowTab w' := Lib.tabBelow_of_tabIs h w' hb

theorem below_grow (w : World) (k : Nat) (os : Array Obj) : Below w.heap.size w (Go.Sort.grow (w.drewN k) os) :=
  ⟨rfl, rfl, rfl, by show w.heap.size ≤ (w.heap ++ os).size; rw [Array.size_append]; omega, fun j hj => by show (w.heap ++ os)[j]? = w.heap[j]?; rw [Array.getElem?_append_left hj]⟩
theorem conv_oneA (W : World) (d : Int) : (convert 102 9 (.slice (some ⟨W.heap.size, 0, none⟩) 1 1)).run Try.prog (W.alloc (.cells #[.int .u8 d] 5)) = .ok (.string ⟨#[UInt8.ofNat d.toNat]⟩) (W.alloc (.cells #[.int .u8 d] 5)) := by
  rw [run_convert_bytes_string _ _ _ _ _ _ _ Try.underlying102 Try.underlying5 Try.underlying9]
  rw [run_bytesToString _ _ 1 1 [d] (run_loadCells_list _ ⟨W.heap.size, 0, none⟩ [.int .u8 d] (cells_new W [.int .u8 d] 5))]
  rfl
def digS (n : Nat) : ByteArray := ⟨(Lib.decDigits n).toArray⟩
theorem digS_small {n : Nat} (h : n < 10) : digS n = ⟨#[48 + UInt8.ofNat (n % 10)]⟩ := by
  unfold digS; rw [dig_small h, UInt8.ofNat_add, Nat.mod_eq_of_lt h]; rfl
theorem digS_great {n : Nat} (h : ¬ n < 10) : digS n = digS (n / 10) ++ ⟨#[48 + UInt8.ofNat (n % 10)]⟩ := by
  unfold digS
  rw [dig_great h, UInt8.ofNat_add]
  apply ByteArray.ext
  simp [ByteArray.data_append]
theorem digS_size {f n : Nat} (hn : n < 10 ^ f) (h1 : 1 ≤ f) : (digS n).size ≤ f := by
  have := dig_len f n hn h1
  unfold digS
  simpa [ByteArray.size] using this
set_option maxHeartbeats 4000000 in
set_option maxRecDepth 100000 in
theorem refDigits_go : ∀ (f n : Nat) (w : World), f ≤ 20 → n < 10 ^ (f + 1) → n ≤ 65535 →
    Calls Try.prog 64 #[.int .i64 (n : Int)] w fun e w' => e = .returned (.string (digS n)) ∧ Below w.heap.size w w'
  | f, n, w, hf, hn, hm => by
    have hcv1 := conv_oneA
    have hb1 := below_new w (.cells #[.int .u8 (48 + (n : Int) % 10)] 5)
    have e1 : (48 + (n : Int) % 10).toNat = 48 + n % 10 := by omega
    by_cases h : n < 10
    · have hS := digS_small h
      have HS := Lib.hid hS
      have hge : ¬ (10 : Int) ≤ (n : Int) := by omega
      clear hS
      go_enter Try.func64, Try.ntmps64
      go_wp2
      go_ret
      exact ⟨by rw [HS.out]; rfl, hb1⟩
    · match f, hf, hn with
      | 0, _, hn => exact absurd hn (by omega)
      | f + 1, hf, hn =>
        have ih := fun w' => refDigits_go f (n / 10) w' (by omega) (by rw [Nat.pow_succ] at hn; omega) (by omega)
        have hS := digS_great h
        have hz := digS_size (f := 5) (n := n / 10) (by omega) (by omega)
        obtain ⟨s, hs⟩ : ∃ s, digS (n / 10) = s := ⟨_, rfl⟩
        rw [hs] at hS hz ih
        have HS := Lib.hid hS
        have IH := Lib.hid ih
        have hge : (10 : Int) ≤ (n : Int) := by omega
        have g1 : ¬ (9223372036854775807 < s.size + 1) := by omega
        have g2 : ((n : Int).tdiv 10) = ((n / 10 : Nat) : Int) := by rw [Int.tdiv_eq_ediv_of_nonneg (by omega)]; omega
        have g3 : IntKind.i64.wrap ((n / 10 : Nat) : Int) = ((n / 10 : Nat) : Int) := IntWalk.i64_in _ (by omega)
        clear hS ih hs
        go_enter Try.func64, Try.ntmps64
        go_wp2_with (go_at_call 64; refine (IH.out _).mono ?_; rintro e w2 ⟨rfl, hb2⟩)
        go_ret
        exact ⟨by rw [HS.out]; rfl, hb1.trans (hb2.mono hb1.size)⟩
theorem refDigits_int (n : Int) (s : ByteArray) (HS : Hid (s = ⟨(Lib.decDigits n.toNat).toArray⟩)) (h0 : 0 ≤ n) (hn : n ≤ 65535) (w : World) :
    Calls Try.prog 64 #[.int .i64 n] w fun e w' => e = .returned (.string s) ∧ Below w.heap.size w w' := by
  obtain ⟨k, rfl⟩ := Int.eq_ofNat_of_zero_le h0
  exact (refDigits_go 19 k w (by omega) (by omega) (by omega)).mono fun _ _ ⟨he, hw⟩ => ⟨by rw [he, HS.out, Int.toNat_natCast]; rfl, hw⟩

/-! ### The texts of the numbers, one after the other -/
def numsS (l : List Int) : List ByteArray := (numsW l).map fun b => ⟨b.toArray⟩
theorem numsS_take {l : List Int} {k : Nat} {x : Int} (hx : l[k]? = some x) : numsS (l.take (k + 1)) = numsS (l.take k) ++ [⟨(Lib.decDigits x.toNat).toArray⟩] := by
  unfold numsS numsW
  rw [List.take_add_one, hx]
  simp
theorem numsS_len (l : List Int) : (numsS l).length = l.length := by unfold numsS numsW; simp
theorem numsS_join (l : List Int) : Lib.join ((numsS l).map (·.data.toList)) [32] = numsJ l := by
  unfold numsJ numsS
  rw [List.map_map]
  congr 1
  exact (List.map_congr_left (g := id) (fun x _ => (rfl : _ = id x))).trans (List.map_id _)
theorem strInfoA : (Try.prog.info? 9).map (fun i => (i.zero, i.size, i.bytes)) = some (some (.string ⟨#[]⟩), 1, 16) := by kernel_rfl
theorem own_formA {w : World} {base : Nat} {e : TypeId} {size : Nat} {v : Value} {n : Nat} {xs : List Value} (h : w.ownsRow base e size v n xs) : ∃ A c, v = .slice A n c ∧ n ≤ c := by
  rcases h.2 with ⟨hv, hn⟩ | ⟨g, cap, cur, hv, hb, hg, hc, hrest⟩
  · have h1 := h.1
    subst hn
    exact ⟨none, 0, hv, Nat.le_refl _⟩
  · exact ⟨_, cap, hv, hc⟩
end Go.Proofs.Ytlfdpfkimggeoaa
namespace Go.Proofs.Ytlfdpfkimggeoaa
open Go.RowKit
set_option linter.unusedVariables false
set_option linter.unusedSimpArgs false

def rtS (r : Rt) : ByteArray := ⟨(rtText r).toArray⟩
theorem rtS_eq {a b : Rt} : decide (rtS a = rtS b) = decide (rtText a = rtText b) := by
  rw [decide_eq_decide]
  constructor
  · intro h
    have := congrArg (fun x : ByteArray => x.data.toList) h
    simpa [rtS] using this
  · intro h; unfold rtS; rw [h]

set_option maxHeartbeats 4000000 in
set_option maxRecDepth 100000 in
theorem refPrint6_any (r : Rt) (hr : rtRight r = true) {A : Option Addr} {n : Nat} (ca : Nat) {w : World} (h : RtAt w r A n) :
    Calls Try.prog 44 #[.agg #[.int .i64 r.kind, .int .i64 r.cost, .slice A n ca]] w fun e w' => e = .returned (.string (rtS r)) ∧ Below w.heap.size w w' := by
  obtain ⟨k, c, l⟩ := r
  obtain ⟨hn, hA, hm⟩ := h
  dsimp only at hn hA ⊢
  have hbx := fun o => below_new w o
  have hk := rtRight_kind hr
  dsimp only at hk
  unfold rtRight at hr
  dsimp only at hr
  have HA := Lib.hid hA
  have HN := Lib.hid hn
  clear hA hn
  by_cases k1 : k = 1
  · subst k1
    simp only [show ¬ (1 : Int) = 0 by omega, if_false, if_true, Bool.and_eq_true, decide_eq_true_eq] at hr
    obtain ⟨c0, c15, _⟩ := hr
    obtain ⟨s, hs⟩ : ∃ s : ByteArray, s = rtS ⟨1, c, l⟩ := ⟨_, rfl⟩
    have HS : Hid (s = ⟨(Lib.decDigits c.toNat).toArray⟩) := Lib.hid (by rw [hs]; rfl)
    rw [← hs]
    clear hs hk
    go_enter Try.func44, Try.ntmps44
    go_wp2_with (go_at_call 64; (with_reducible refine (refDigits_int c s HS (by omega) (by omega) _).mono ?_); rintro e w2 ⟨rfl, hb2⟩)
    go_ret
    exact ⟨rfl, below_on (hbx _) hb2⟩
  · by_cases k2 : k = 2
    · subst k2
      rw [HN.out] at hr
      simp only [show ¬ (2 : Int) = 0 by omega, show ¬ (2 : Int) = 1 by omega, if_false, if_true, Bool.and_eq_true, decide_eq_true_eq, pathB] at hr
      obtain ⟨rfl, h12, hp⟩ := hr
      rw [HN.out] at h12
      have hpi := pathOk_in hp
      have HJL : Hid (∀ j, (numsJ (l.take j)).length ≤ 6 * j) := Lib.hid fun j => by
        have h1 := numsJ_len (l.take j) fun x hx => (hpi x (List.mem_of_mem_take hx)).2
        have h2 : (l.take j).length ≤ j := by rw [List.length_take]; omega
        omega
      have HP := Lib.hid hpi
      obtain ⟨s, hs⟩ : ∃ s : ByteArray, s = rtS ⟨2, 0, l⟩ := ⟨_, rfl⟩
      have HS : Hid (s = ⟨(91 :: (numsJ l ++ [93])).toArray⟩) := Lib.hid (by rw [hs]; rfl)
      rw [← hs]
      have h1 := Rt1.new w 2 0 A n ca
      obtain ⟨q0, q1, q2⟩ := h1.cells
      clear hs hk hp k1 hpi
      go_enter Try.func44, Try.ntmps44
      go_wp2
      go_loopw [3, 4] (fun s3 i wr => ∃ (j : Nat) (T : ByteArray), j ≤ n ∧ i = .int .i64 (j : Nat) ∧ s3 = .string T ∧ Hid (T = ⟨(91 :: numsJ (l.take j)).toArray⟩) ∧ Rt1 w 2 0 A n ca wr) (fun _ i _ => n - (intOf i).toNat)
      case atStart => exact ⟨0, _, Nat.zero_le _, rfl, rfl, Lib.hid (by simp [numsJ, numsW, Lib.join_nil]), h1⟩
      case round =>
        clear h1 q0 q1 q2
        obtain ⟨j, T, hj, rfl, rfl, HT, h1⟩ := hrel
        obtain ⟨q0, q1, q2⟩ := h1.cells
        have hTs : T.size ≤ 1 + 6 * j := by
          have := HJL.out j
          rw [HT.out]; simp [ByteArray.size]; omega
        by_cases hlt : j < n
        · obtain ⟨x, hx⟩ : ∃ x, l[j]? = some x := ⟨_, List.getElem?_eq_getElem (by rw [HN.out]; exact hlt)⟩
          obtain ⟨ad, rfl, hg, c0⟩ := (HA.out.on h1.up).int hx
          obtain ⟨x1, x2⟩ := HP.out x (List.mem_of_getElem? hx)
          have hnx := numsJ_take hx
          obtain ⟨u, hu⟩ : ∃ u : ByteArray, u = ⟨(Lib.decDigits x.toNat).toArray⟩ := ⟨_, rfl⟩
          have hus : u.size ≤ 5 := by
            have := dig_len 5 x.toNat (by omega) (by omega)
            rw [hu]; simpa [ByteArray.size] using this
          have HU := Lib.hid hu
          have HNX := Lib.hid hnx
          clear hu hnx hx
          by_cases hj0 : j = 0
          · have g0 : ¬ (0 : Int) < (j : Int) := by omega
            have g1 : ¬ (9223372036854775807 < T.size + u.size) := by omega
            have HJ0 := Lib.hid hj0
            clear hj0
            go_wp2_with (go_at_call 64; (with_reducible refine (refDigits_int x u HU (by omega) (by omega) _).mono ?_); rintro e w2 ⟨rfl, hb2⟩; obtain ⟨r0, r1, r2⟩ := (h1.go hb2).cells)
            go_roundw
            case rel =>
              refine ⟨j + 1, T ++ u, by omega, by go_num, rfl, Lib.hid ?_, h1.go hb2⟩
              have := HNX.out
              rw [if_pos HJ0.out, List.nil_append] at this
              rw [HT.out, HU.out, this, HJ0.out]
              apply ByteArray.ext
              simp [ByteArray.data_append, numsJ, numsW, Lib.join_nil]
            case measure => simp [intOf]; omega
          · have hjpos : (0 : Int) < (j : Int) := by omega
            have g0 : ¬ (9223372036854775807 < T.size + 1) := by omega
            have g1 : ¬ (9223372036854775807 < T.size + 1 + u.size) := by omega
            have HJ0 := Lib.hid hj0
            clear hj0
            go_wp2_with (go_at_call 64; (with_reducible refine (refDigits_int x u HU (by omega) (by omega) _).mono ?_); rintro e w2 ⟨rfl, hb2⟩; obtain ⟨r0, r1, r2⟩ := (h1.go hb2).cells)
            go_roundw
            case rel =>
              refine ⟨j + 1, _, by omega, by go_num, rfl, Lib.hid ?_, h1.go hb2⟩
              have := HNX.out
              rw [if_neg HJ0.out] at this
              rw [HT.out, HU.out, this]
              apply ByteArray.ext
              simp [ByteArray.data_append]
            case measure => simp [intOf]; omega
        · have hjn : j = n := by omega
          subst hjn
          have g1 : ¬ (9223372036854775807 < T.size + 1) := by omega
          go_wp2
          go_ret
          refine ⟨ret_string ?_, h1.up⟩
          rw [HS.out, HT.out, List.take_of_length_le (by rw [HN.out]; exact Nat.le_refl _)]
          apply ByteArray.ext
          simp [ByteArray.data_append]
    · have k0 : k = 0 := by omega
      subst k0
      obtain ⟨s, hs⟩ : ∃ s : ByteArray, s = rtS ⟨0, c, l⟩ := ⟨_, rfl⟩
      have HS : Hid (s = ⟨#[45]⟩) := Lib.hid (by rw [hs]; rfl)
      rw [← hs]
      clear hs hk hr k1 k2
      go_enter Try.func44, Try.ntmps44
      go_wp2
      go_ret
      exact ⟨ret_string HS.out.symm, hbx _⟩
theorem refPrint6_is (r : Rt) (s : ByteArray) (HS : Hid (rtS r = s)) (hr : Hid (rtRight r = true)) {A : Option Addr} {n ca : Nat} {w : World} (h : RtAt w r A n) :
    Calls Try.prog 44 #[.agg #[.int .i64 r.kind, .int .i64 r.cost, .slice A n ca]] w fun e w' => e = .returned (.string s) ∧ Below w.heap.size w w' :=
  (refPrint6_any r hr.out ca h).mono fun _ _ ⟨he, hw⟩ => ⟨by rw [he, HS.out], hw⟩
end Go.Proofs.Ytlfdpfkimggeoaa
namespace Go.Proofs.Ytlfdpfkimggeoaa
open Go.RowKit
set_option linter.unusedVariables false
set_option linter.unusedSimpArgs false

theorem numInfoA : (Try.prog.info? 3).map (fun i => (i.zero, i.size, i.bytes)) = some (some (.int .i64 0), 1, 8) := by kernel_rfl

/-! ### Lists of routes -/
def rtC (x : Rt × (Option Addr × Nat)) : List Value := [.int .i64 x.1.kind, .int .i64 x.1.cost, .slice x.2.1 x.1.path.length x.2.2]
theorem rtC_len (l : List (Rt × (Option Addr × Nat))) : (l.flatMap rtC).length = l.length * 3 := rows_len rtC 3 (fun _ => rfl) l
/-- Routes in memory: a row of kinds, costs and slices, each slice with its numbers. -/
def RtsAt (w : World) (A : Option Addr) (l : List Rt) : Prop :=
  ∃ hs : List (Option Addr × Nat), hs.length = l.length ∧ CellsAt w w.heap.size A ((l.zip hs).flatMap rtC) ∧ ∀ (i : Nat) (r : Rt) (h : Option Addr × Nat), l[i]? = some r → hs[i]? = some h → RtAt w r h.1 r.path.length
theorem RtsAt.nil (w : World) (A : Option Addr) : RtsAt w A [] := ⟨[], rfl, CellsAt.nil _ _ _, fun i r h e => by simp at e⟩
theorem RtsAt.on {w w' : World} {A : Option Addr} {l : List Rt} (h : RtsAt w A l) (hb : Below w.heap.size w w') : RtsAt w' A l := by
  obtain ⟨hs, h1, h2, h3⟩ := h
  exact ⟨hs, h1, h2.on hb, fun i r q e1 e2 => (h3 i r q e1 e2).on hb⟩
theorem RtsAt.get {w : World} {A : Option Addr} {l : List Rt} (h : RtsAt w A l) {k : Nat} {r : Rt} (hk : l[k]? = some r) :
    ∃ ad Ao c, A = some ad ∧ ad.block < w.heap.size ∧ w.cell? (ad.add (k * 3)) = some (.int .i64 r.kind) ∧ w.cell? ⟨(ad.add (k * 3)).block, (ad.add (k * 3)).off + 1, none⟩ = some (.int .i64 r.cost) ∧ w.cell? ⟨(ad.add (k * 3)).block, (ad.add (k * 3)).off + 2, none⟩ = some (.slice Ao r.path.length c) ∧ RtAt w r Ao r.path.length := by
  obtain ⟨hs, h1, h2, h3⟩ := h
  have hlt := (List.getElem?_eq_some_iff.1 hk).1
  obtain ⟨q, hq⟩ : ∃ q, hs[k]? = some q := ⟨_, List.getElem?_eq_getElem (by omega)⟩
  have hz : (l.zip hs)[k]? = some (r, q) := by rw [List.getElem?_zip_eq_some]; exact ⟨hk, hq⟩
  have hr := rows_at rtC 3 (fun _ => rfl) (l.zip hs) k (r, q) hz
  have hne : (l.zip hs).flatMap rtC ≠ [] := by
    intro e
    have := hr 0 _ rfl
    rw [e] at this
    simp at this
  obtain ⟨ad, hA, hb, hc⟩ := h2 hne
  have c0 := hc _ _ (hr 0 _ rfl)
  have c1 := hc _ _ (hr 1 _ rfl)
  have c2 := hc _ _ (hr 2 _ rfl)
  rw [Nat.add_zero] at c0
  rw [← add_of_add] at c1 c2
  exact ⟨ad, q.1, q.2, hA, hb, c0, c1, c2, h3 k r q hk hq⟩

/-! ### The best of a list -/
def rtBestF (b : Rt) : List Rt → Rt
  | [] => b
  | r :: l => rtBestF (if rtBetter r b = true then r else b) l
def rtBest : List Rt → Rt
  | [] => Rt.none
  | r :: l => rtBestF r l
theorem rtBestF_snoc (b : Rt) (l : List Rt) (r : Rt) : rtBestF b (l ++ [r]) = if rtBetter r (rtBestF b l) = true then r else rtBestF b l := by
  induction l generalizing b with
  | nil => rfl
  | cons x l ih => exact ih _
theorem rtBest_take {l : List Rt} {k : Nat} {r : Rt} (hk : l[k]? = some r) : rtBest (l.take (k + 1)) = if k = 0 then r else if rtBetter r (rtBest (l.take k)) = true then r else rtBest (l.take k) := by
  cases l with
  | nil => simp at hk
  | cons x l =>
    cases k with
    | zero => simp at hk; subst hk; simp [rtBest, rtBestF]
    | succ k =>
      rw [if_neg (by omega), List.take_succ_cons, List.take_succ_cons]
      have hk' : l[k]? = some r := by simpa using hk
      rw [List.take_add_one, hk']
      exact rtBestF_snoc x (l.take k) r
theorem rtBest_mem {l : List Rt} (h : l ≠ []) : rtBest l ∈ l := by
  cases l with
  | nil => exact absurd rfl h
  | cons x l =>
    have : ∀ (b : Rt) (l : List Rt), rtBestF b l = b ∨ rtBestF b l ∈ l := by
      intro b l
      induction l generalizing b with
      | nil => exact .inl rfl
      | cons y l ih =>
        show rtBestF (if rtBetter y b = true then y else b) l = b ∨ _
        rcases ih (if rtBetter y b = true then y else b) with e | e
        · by_cases hy : rtBetter y b = true
          · rw [if_pos hy] at e
            exact .inr (by show rtBestF (if rtBetter y b = true then y else b) l ∈ y :: l; rw [if_pos hy, e]; simp)
          · rw [if_neg hy] at e
            exact .inl (by rw [if_neg hy, e])
        · exact .inr (List.mem_cons_of_mem _ e)
    rcases this x l with e | e
    · exact (by rw [show rtBest (x :: l) = rtBestF x l from rfl, e]; simp)
    · exact List.mem_cons_of_mem _ e
/-- A route handed out: its numbers are new memory. -/
def RtGives (r : Rt) (w : World) (e : Ending) (w' : World) : Prop :=
  ∃ A c, e = .returned (.agg #[.int .i64 r.kind, .int .i64 r.cost, .slice A r.path.length c]) ∧ w'.ownsRow w.heap.size 3 1 (.slice A r.path.length c) r.path.length (r.path.map (Value.int .i64)) ∧ r.path.length ≤ c ∧ Below w.heap.size w w'
theorem RtGives.at_ {r : Rt} {w w' : World} {A : Option Addr} {c B : Nat} (h : w'.ownsRow B 3 1 (.slice A r.path.length c) r.path.length (r.path.map (Value.int .i64))) (hm : r.path.length ≤ 9223372036854775807) : RtAt w' r A r.path.length :=
  ⟨rfl, (RowAt.of_own h).cells, hm⟩
end Go.Proofs.Ytlfdpfkimggeoaa
