/-
  The document's own Print: a network that may not be; a node's line.
-/
import Derived.Test.YtlfdpfkimggeoaaPlUa
import Derived.Test.YtlfdpfkimggeoaaLxMathC
import Derived.Test.YtlfdpfkimggeoaaPlN
import Derived.Test.YtlfdpfkimggeoaaPlZa
import Derived.Test.YtlfdpfkimggeoaaPlZd
import Derived.Test.YtlfdpfkimggeoaaPlUf
namespace Go.Proofs.Ytlfdpfkimggeoaa
open Go.RowKit
set_option linter.unusedVariables false
set_option linter.unusedSimpArgs false
theorem conv_oneR (W : World) (d : Int) : (convert 102 9 (.slice (some ⟨W.heap.size, 0, none⟩) 1 1)).run Try.prog (W.alloc (.cells #[.int .u8 d] 5)) = .ok (.string ⟨#[UInt8.ofNat d.toNat]⟩) (W.alloc (.cells #[.int .u8 d] 5)) := by
  rw [run_convert_bytes_string _ _ _ _ _ _ _ Try.underlying102 Try.underlying5 Try.underlying9]
  rw [run_bytesToString _ _ 1 1 [d] (run_loadCells_list _ ⟨W.heap.size, 0, none⟩ [.int .u8 d] (cells_new W [.int .u8 d] 5))]
  rfl
def decS (f n : Nat) : ByteArray := ⟨(decF f n).toArray⟩
theorem decS_small {f n : Nat} (h : n < 10) : decS (f + 1) n = ⟨#[48 + UInt8.ofNat (n % 10)]⟩ := by
  unfold decS; rw [decF, if_pos h, UInt8.ofNat_add, Nat.mod_eq_of_lt h]; rfl
theorem decS_great {f n : Nat} (h : ¬ n < 10) : decS (f + 1) n = decS f (n / 10) ++ ⟨#[48 + UInt8.ofNat (n % 10)]⟩ := by
  unfold decS
  rw [decF, if_neg h, UInt8.ofNat_add]
  apply ByteArray.ext
  simp [ByteArray.data_append]
theorem decS_size (f n : Nat) : (decS f n).size ≤ f := by
  have := decF_len f n
  unfold decS
  simpa [ByteArray.size] using this
set_option maxHeartbeats 4000000 in
set_option maxRecDepth 100000 in
theorem Digits_any : ∀ (f n : Nat) (w : World), f ≤ 20 → n < 10 ^ (f + 1) → n ≤ 65535 →
    Calls Try.prog 64 #[.int .i64 (n : Int)] w fun e w' => e = .returned (.string (decS (f + 1) n)) ∧ Below w.heap.size w w'
  | f, n, w, hf, hn, hm => by
    have hcv1 := conv_oneR
    have hb1 := below_new w (.cells #[.int .u8 (48 + (n : Int) % 10)] 5)
    have e1 : (48 + (n : Int) % 10).toNat = 48 + n % 10 := by omega
    by_cases h : n < 10
    · have hS := decS_small (f := f) h
      have HS := Lib.hid hS
      have hge : ¬ (10 : Int) ≤ (n : Int) := by omega
      clear hS
      go_enter Try.func64, Try.ntmps64
      go_wp2
      go_ret
      exact ⟨by rw [HS.out]; rfl, hb1⟩
    · match f, hf, hn with
      | 0, _, hn => exact absurd hn (by omega)
      | f + 1, hf, hn =>
        have ih := fun w' => Digits_any f (n / 10) w' (by omega) (by rw [Nat.pow_succ] at hn; omega) (by omega)
        have hS := decS_great (f := f + 1) h
        have hz := decS_size (f + 1) (n / 10)
        obtain ⟨s, hs⟩ : ∃ s, decS (f + 1) (n / 10) = s := ⟨_, rfl⟩
        rw [hs] at hS hz ih
        have HS := Lib.hid hS
        have IH := Lib.hid ih
        have hge : (10 : Int) ≤ (n : Int) := by omega
        have g1 : ¬ (9223372036854775807 < s.size + 1) := by omega
        have g2 : ((n : Int).tdiv 10) = ((n / 10 : Nat) : Int) := by rw [Int.tdiv_eq_ediv_of_nonneg (by omega)]; omega
        have g3 : IntKind.i64.wrap ((n / 10 : Nat) : Int) = ((n / 10 : Nat) : Int) := IntWalk.i64_in _ (by omega)
        clear hS ih hs
        go_enter Try.func64, Try.ntmps64
        go_wp2_with (go_at_call 64; refine (IH.out _).mono ?_; rintro e w2 ⟨rfl, hb2⟩)
        go_ret
        exact ⟨by rw [HS.out]; rfl, hb1.trans (hb2.mono hb1.size)⟩
/-- A number's text is decB's. -/
theorem RefDigits_is (n : Nat) (hn : n ≤ 65535) (w : World) :
    Calls Try.prog 64 #[.int .i64 (n : Int)] w fun e w' => e = .returned (.string (decS 20 n)) ∧ Below w.heap.size w w' :=
  Digits_any 19 n w (by omega) (by omega) hn
theorem decS_list (n : Nat) : (decS 20 n).data.toList = decB n := rfl
end Go.Proofs.Ytlfdpfkimggeoaa
namespace Go.Proofs.Ytlfdpfkimggeoaa
open Go.RowKit
set_option linter.unusedVariables false
set_option linter.unusedSimpArgs false

def refCheckS (ns : List PNode) (ds : List PDest) (c : PCheck) : ByteArray :=
  if c.kind = 1 then (⟨#[99, 104, 101, 99, 107, 32, 114, 101, 97, 99, 104, 32]⟩ : ByteArray) ++ nmB ns c.node ++ (⟨#[32]⟩ : ByteArray) ++ dnB ds c.dest
  else if c.kind = 2 then (⟨#[99, 104, 101, 99, 107, 32, 119, 105, 116, 104, 105, 110, 32]⟩ : ByteArray) ++ nmB ns c.node ++ (⟨#[32]⟩ : ByteArray) ++ dnB ds c.dest ++ (⟨#[32]⟩ : ByteArray) ++ decS 20 c.limit.toNat
  else if c.kind = 3 then (⟨#[99, 104, 101, 99, 107, 32, 119, 97, 121, 112, 111, 105, 110, 116, 32]⟩ : ByteArray) ++ nmB ns c.node ++ (⟨#[32]⟩ : ByteArray) ++ dnB ds c.dest ++ (⟨#[32]⟩ : ByteArray) ++ nmB ns c.other
  else (⟨#[99, 104, 101, 99, 107, 32, 101, 113, 117, 97, 108, 32]⟩ : ByteArray) ++ nmB ns c.node ++ (⟨#[32]⟩ : ByteArray) ++ nmB ns c.other ++ (⟨#[32]⟩ : ByteArray) ++ dnB ds c.dest
end Go.Proofs.Ytlfdpfkimggeoaa
namespace Go.Proofs.Ytlfdpfkimggeoaa
set_option linter.unusedVariables false

def stopsT (T : List Tok) : Nat := T.countP (fun t => decide (t.1 = 3))
theorem stops_append (a b : List Tok) : stopsT (a ++ b) = stopsT a + stopsT b := List.countP_append
/-- A word that is scanned to one token, not a stop. -/
def WOk (x : List UInt8) : Prop := x.all parB = true ∧ ((kwB x = true ∨ nameB x = true) ∨ (x.all digB = true ∧ 0 ≤ numB x)) ∧ x.length ≤ 12
theorem WOk.piece {x : List UInt8} (h : WOk x) : ∃ t : Nat → Tok, PieceTok x t ∧ ∀ p, (t p).1 ≠ 3 := by
  rcases h.2.1 with h2 | ⟨h2, h3⟩
  · exact ⟨_, piece_word x h.1 h2, fun p => by show (1 : Int) ≠ 3; decide⟩
  · exact ⟨_, piece_num x h2 _ rfl h3, fun p => by show (2 : Int) ≠ 3; decide⟩
/-- A text that is scanned to so many stops, whatever follows. -/
def ScanTo (l : List UInt8) (n : Nat) : Prop := ∀ rest p, ∃ T, stopsT T = n ∧ T.length ≤ l.length ∧ scan (l ++ rest) p = (T ++ (scan rest (p + l.length)).1, (scan rest (p + l.length)).2)
theorem ScanTo.append {a b : List UInt8} {m n : Nat} (h1 : ScanTo a m) (h2 : ScanTo b n) : ScanTo (a ++ b) (m + n) := by
  intro rest p
  obtain ⟨T1, e1, k1, s1⟩ := h1 (b ++ rest) p
  obtain ⟨T2, e2, k2, s2⟩ := h2 rest (p + a.length)
  refine ⟨T1 ++ T2, by rw [stops_append, e1, e2], by rw [List.length_append, List.length_append]; omega, ?_⟩
  rw [List.append_assoc, s1, s2, List.length_append, Nat.add_assoc, List.append_assoc]
theorem line_one (x rest : List UInt8) : lineB [x] ++ rest = x ++ 59 :: (10 :: rest) := by unfold lineB; rw [Lib.join_one]; simp
theorem line_more (x y : List UInt8) (r : List (List UInt8)) (rest : List UInt8) : lineB (x :: y :: r) ++ rest = x ++ 32 :: (lineB (y :: r) ++ rest) := by unfold lineB; rw [Lib.join_cons, Lib.join_cons]; simp [Lib.joinTail]
theorem scan_lineB : ∀ (xs : List (List UInt8)), xs ≠ [] → (∀ x ∈ xs, WOk x) → ScanTo (lineB xs) 1
  | [], h, _ => absurd rfl h
  | [x], _, h => by
    intro rest p
    obtain ⟨t, ht, hk⟩ := (h x (by simp)).piece
    have hl : (lineB [x]).length = x.length + 2 := by
      have := congrArg List.length (line_one x [])
      simpa using this
    have h2 := piece_stop 10 rest (p + x.length) rfl
    have e2 : p + x.length + ([59] : List UInt8).length + 1 = p + (x.length + 2) := by simp only [List.length_cons, List.length_nil]; omega
    rw [line_one, ht 59 (10 :: rest) p rfl, show (59 :: 10 :: rest : List UInt8) = [59] ++ 10 :: rest from rfl, h2, scan_bla 10 rest _ rfl, e2, hl]
    refine ⟨[t p, (3, [59], 0, p + x.length)], ?_, by simp, rfl⟩
    unfold stopsT
    rw [List.countP_cons_of_neg (by simpa using hk p)]
    rfl
  | x :: y :: r, _, h => by
    have ih := scan_lineB (y :: r) (by simp) (fun z hz => h z (List.mem_cons_of_mem _ hz))
    intro rest p
    obtain ⟨t, ht, hk⟩ := (h x (by simp)).piece
    have hl : (lineB (x :: y :: r)).length = x.length + 1 + (lineB (y :: r)).length := by
      have := congrArg List.length (line_more x y r [])
      rw [List.append_nil, List.append_nil, List.length_append, List.length_cons] at this
      omega
    obtain ⟨T, e1, k1, e2⟩ := ih rest (p + x.length + 1)
    rw [line_more, ht 32 _ p rfl, scan_bla 32 _ _ rfl, e2, hl, show p + x.length + 1 + (lineB (y :: r)).length = p + (x.length + 1 + (lineB (y :: r)).length) by omega]
    refine ⟨t p :: T, ?_, by rw [List.length_cons]; omega, rfl⟩
    unfold stopsT at e1 ⊢
    rw [List.countP_cons_of_neg (by simpa using hk p)]
    exact e1
theorem scan_flat {α : Type} (f : α → List UInt8) : ∀ (xs : List α), (∀ x ∈ xs, ScanTo (f x) 1) → ScanTo (xs.flatMap f) xs.length
  | [], _ => fun rest p => ⟨[], rfl, by simp, by simp⟩
  | x :: xs, h => by
    rw [List.flatMap_cons, List.length_cons, Nat.add_comm]
    exact (h x (by simp)).append (scan_flat f xs (fun y hy => h y (List.mem_cons_of_mem _ hy)))

/-! ### Words and lines -/
theorem name_ok {x : List UInt8} (h : nameB x = true) : WOk x := by
  have h0 := h
  cases x with
  | nil => simp [nameB] at h
  | cons c r =>
    rw [nameB] at h
    simp only [Bool.and_eq_true, decide_eq_true_eq] at h
    exact ⟨h.2, .inl (.inr h0), h.1.1.1⟩
theorem dec_digits : ∀ (f n : Nat), n < 10 ^ f → 1 ≤ f → Lib.decDigits n = decF f n
  | 0, n, _, h => absurd h (by omega)
  | f + 1, n, hn, _ => by
    rw [Lib.decDigits, decF]
    by_cases h10 : n < 10
    · rw [dif_pos h10, if_pos h10]
    · rw [dif_neg h10, if_neg h10, dec_digits f (n / 10) (by rw [Nat.pow_succ] at hn; omega) (by
        rcases Nat.eq_zero_or_pos f with h | h
        · subst h; simp at hn; omega
        · exact h)]
theorem dec_ok (n : Nat) (hn : n < 100) : WOk (decW (n : Int)).data.toList := by
  show WOk (Lib.decDigits (n : Int).toNat)
  rw [Int.toNat_natCast]
  obtain ⟨h1, h2, h3⟩ := dec_num n (by omega)
  have e1 : decB n = Lib.decDigits n := (dec_digits 20 n (by omega) (by omega)).symm
  have e2 : Lib.decDigits n = decF 2 n := dec_digits 2 n (by omega) (by omega)
  rw [e1] at h1 h2
  refine ⟨?_, .inr ⟨h2, by rw [h1]; omega⟩, by rw [e2]; have := decF_len 2 n; omega⟩
  rw [List.all_eq_true] at h2 ⊢
  intro y hy
  unfold parB
  rw [h2 y hy]; simp
theorem kw_ok {x : List UInt8} (h : x ∈ kws) : WOk x := by
  have h1 : ∀ x ∈ kws, x.all parB = true ∧ x.length ≤ 12 := by decide +kernel
  exact ⟨(h1 x h).1, .inl (.inl (List.contains_iff_mem.2 h)), (h1 x h).2⟩

theorem tail_len : ∀ (r : List (List UInt8)), (∀ x ∈ r, WOk x) → (Lib.joinTail [32] r).length ≤ 13 * r.length
  | [], _ => by simp [Lib.joinTail]
  | x :: r, h => by
    have ih := tail_len r (fun y hy => h y (List.mem_cons_of_mem _ hy))
    have hx := (h x (by simp)).2.2
    unfold Lib.joinTail at ih ⊢
    rw [List.map_cons, List.flatten_cons, List.length_append, List.length_append, List.length_cons]
    simp only [List.length_cons, List.length_nil]
    omega
/-- A line of such words. -/
def LOk (xs : List ByteArray) : Prop := xs ≠ [] ∧ xs.length ≤ 10 ∧ ∀ x ∈ xs, WOk x.data.toList
theorem LOk.scan {xs : List ByteArray} (h : LOk xs) : ScanTo (lineS xs) 1 := by
  unfold lineS
  refine scan_lineB _ (by simpa using h.1) (fun y hy => ?_)
  obtain ⟨x, hx, rfl⟩ := List.mem_map.1 hy
  exact h.2.2 x hx
theorem LOk.len {xs : List ByteArray} (h : LOk xs) : (lineS xs).length ≤ 132 := by
  unfold lineS lineB
  have hw : ∀ y ∈ xs.map (·.data.toList), WOk y := fun y hy => by
    obtain ⟨x, hx, rfl⟩ := List.mem_map.1 hy
    exact h.2.2 x hx
  have hn : (xs.map (·.data.toList)).length ≤ 10 := by rw [List.length_map]; exact h.2.1
  generalize xs.map (·.data.toList) = ys at hw hn
  cases ys with
  | nil => simp [Lib.join_nil]
  | cons y r =>
    have h1 := (hw y (by simp)).2.2
    have h2 := tail_len r (fun z hz => hw z (List.mem_cons_of_mem _ hz))
    rw [Lib.join_cons, List.length_append, List.length_append]
    rw [List.length_cons] at hn
    simp only [List.length_cons, List.length_nil]
    omega
theorem flat_ln {α : Type} (f : α → List UInt8) : ∀ (xs : List α), (∀ x ∈ xs, (f x).length ≤ 132) → (xs.flatMap f).length ≤ 132 * xs.length
  | [], _ => by simp
  | x :: xs, h => by
    have ih := flat_ln f xs (fun y hy => h y (List.mem_cons_of_mem _ hy))
    have := h x (by simp)
    rw [List.flatMap_cons, List.length_append, List.length_cons]
    omega
theorem orig_len (m : Nat) : ∀ (l : List Int) (least : Int), origF m l least = true → least ≤ (m : Int) → (l.length : Int) + least ≤ (m : Int)
  | [], least, _, h => by simpa using h
  | x :: r, least, h, _ => by
    unfold origF withinB at h
    simp only [Bool.and_eq_true, decide_eq_true_eq] at h
    have ih := orig_len m r (x + 1) h.2 (by omega)
    rw [List.length_cons]
    omega

section
variable {p : PPlan} (hk : NetOk p)
include hk
theorem nodes_named : ∀ x ∈ p.nodes, nameB x.name.data.toList = true := fun x hx => by
  have h := (right_parts hk.right).2.2.1
  unfold nodesB at h
  rw [Bool.and_eq_true] at h
  obtain ⟨i, hi⟩ := List.getElem?_of_mem hx
  have := (allF_iff _ _ _).1 h.2 i x hi
  unfold nodeOk at this
  rw [Bool.and_eq_true] at this
  exact this.1
theorem dests_named : ∀ x ∈ p.dests, nameB x.name.data.toList = true ∧ x.orig.length ≤ p.nodes.length := fun x hx => by
  have h := (right_parts hk.right).2.2.2.2.1
  unfold destsB at h
  rw [Bool.and_eq_true] at h
  obtain ⟨i, hi⟩ := List.getElem?_of_mem hx
  have := (allF_iff _ _ _).1 h.2 i x hi
  unfold destOk origB at this
  simp only [Bool.and_eq_true] at this
  refine ⟨this.1, ?_⟩
  have := orig_len _ _ _ this.2.2.2.1 (by omega)
  omega
theorem nm_ok {i : Nat} (hi : i < p.nodes.length) : WOk (nmB p.nodes (i : Int)).data.toList := by
  obtain ⟨x, hx⟩ : ∃ x, p.nodes[i]? = some x := ⟨_, List.getElem?_eq_getElem hi⟩
  rw [nm_is hx]
  exact name_ok (nodes_named hk x (List.mem_of_getElem? hx))
theorem dn_ok {i : Nat} (hi : i < p.dests.length) : WOk (dnB p.dests (i : Int)).data.toList := by
  obtain ⟨x, hx⟩ : ∃ x, p.dests[i]? = some x := ⟨_, List.getElem?_eq_getElem hi⟩
  rw [dn_is hx]
  exact name_ok (dests_named hk x (List.mem_of_getElem? hx)).1
theorem lines_ok : LOk (protoW p.proto p.cap) ∧ LOk (failW p.k) ∧ (∀ n ∈ p.nodes, LOk (nodeW n)) ∧ (∀ l ∈ p.links, LOk (linkW p.nodes l)) ∧ (∀ d ∈ p.dests, LOk (destW p.nodes d)) ∧ (∀ c ∈ p.checks, LOk (checkW p.nodes p.dests c)) := by
  have ht := hk.tiny
  refine ⟨?_, ?_, fun n hn => ?_, fun l hl => ?_, fun d hd => ?_, fun c hc => ?_⟩
  · obtain ⟨ca, e, h⟩ := ht.cap
    unfold protoW
    rw [e]
    split
    · exact ⟨by simp, by simp, by simp only [List.mem_cons, List.not_mem_nil, or_false]; rintro x (rfl | rfl) <;> exact kw_ok (by decide)⟩
    · exact ⟨by simp, by simp, by simp only [List.mem_cons, List.not_mem_nil, or_false]; rintro x (rfl | rfl | rfl) <;> first | exact dec_ok ca h | exact kw_ok (by decide)⟩
  · obtain ⟨k, e, h⟩ := ht.k
    unfold failW
    rw [e]
    exact ⟨by simp, by simp, by simp only [List.mem_cons, List.not_mem_nil, or_false]; rintro x (rfl | rfl) <;> first | exact dec_ok k h | exact kw_ok (by decide)⟩
  · obtain ⟨k, e, h⟩ := ht.nodes n hn
    have h1 := name_ok (nodes_named hk n hn)
    unfold nodeW
    rw [e]
    exact ⟨by simp, by simp, by simp only [List.mem_cons, List.not_mem_nil, or_false]; rintro x (rfl | rfl | rfl) <;> first | exact h1 | exact dec_ok k h | exact kw_ok (by decide)⟩
  · obtain ⟨a, b, co, e1, e2, e3, h1, h2, h3⟩ := ht.links l hl
    unfold linkW
    rw [e1, e2, e3]
    exact ⟨by simp, by simp, by simp only [List.mem_cons, List.not_mem_nil, or_false]; rintro x (rfl | rfl | rfl | rfl) <;> first | exact nm_ok hk h1 | exact nm_ok hk h2 | exact dec_ok co h3 | exact kw_ok (by decide)⟩
  · obtain ⟨h1, h2⟩ := dests_named hk d hd
    have h3 := hk.nodes1
    unfold destW
    refine ⟨by simp, by simp; omega, fun x hx => ?_⟩
    rcases List.mem_append.1 hx with hx | hx
    · simp only [List.mem_cons, List.not_mem_nil, or_false] at hx
      rcases hx with rfl | rfl | rfl <;> first | exact name_ok h1 | exact kw_ok (by decide)
    · obtain ⟨a, ha, rfl⟩ := List.mem_map.1 hx
      obtain ⟨i, rfl, hi⟩ := ht.dests d hd a ha
      exact nm_ok hk hi
  · obtain ⟨hkd, n, d, li, o, e1, e2, e3, e4, h1, h2, h3, h4⟩ := ht.checks c hc
    unfold checkW
    rw [e1, e2, e3, e4]
    split
    · exact ⟨by simp, by simp, by simp only [List.mem_cons, List.not_mem_nil, or_false]; rintro x (rfl | rfl | rfl | rfl) <;> first | exact nm_ok hk h1 | exact dn_ok hk h2 | exact kw_ok (by decide)⟩
    split
    · exact ⟨by simp, by simp, by simp only [List.mem_cons, List.not_mem_nil, or_false]; rintro x (rfl | rfl | rfl | rfl | rfl) <;> first | exact nm_ok hk h1 | exact dn_ok hk h2 | exact dec_ok li h4 | exact kw_ok (by decide)⟩
    split
    · exact ⟨by simp, by simp, by simp only [List.mem_cons, List.not_mem_nil, or_false]; rintro x (rfl | rfl | rfl | rfl | rfl) <;> first | exact nm_ok hk h1 | exact dn_ok hk h2 | exact nm_ok hk h3 | exact kw_ok (by decide)⟩
    · exact ⟨by simp, by simp, by simp only [List.mem_cons, List.not_mem_nil, or_false]; rintro x (rfl | rfl | rfl | rfl | rfl) <;> first | exact nm_ok hk h1 | exact dn_ok hk h2 | exact nm_ok hk h3 | exact kw_ok (by decide)⟩
theorem text_len : (textB p).length ≤ 10000 := by
  obtain ⟨l1, l2, l3, l4, l5, l6⟩ := lines_ok hk
  have k1 := l1.len
  have k2 := l2.len
  have k3 := flat_ln _ _ (fun n hn => (l3 n hn).len)
  have k4 := flat_ln _ _ (fun n hn => (l4 n hn).len)
  have k5 := flat_ln _ _ (fun n hn => (l5 n hn).len)
  have k6 := flat_ln _ _ (fun n hn => (l6 n hn).len)
  have h1 := hk.nodes1
  have h2 := hk.links1
  have h3 := hk.dests1
  have h4 := hk.checks1
  unfold textB
  simp only [List.length_append]
  omega
theorem text_scan : ScanTo (textB p) (2 + p.nodes.length + p.links.length + p.dests.length + p.checks.length) := by
  obtain ⟨l1, l2, l3, l4, l5, l6⟩ := lines_ok hk
  have h := l1.scan.append (l2.scan.append ((scan_flat _ _ (fun n hn => (l3 n hn).scan)).append ((scan_flat _ _ (fun n hn => (l4 n hn).scan)).append ((scan_flat _ _ (fun n hn => (l5 n hn).scan)).append (scan_flat _ _ (fun n hn => (l6 n hn).scan))))))
  rw [show 2 + p.nodes.length + p.links.length + p.dests.length + p.checks.length = 1 + (1 + (p.nodes.length + (p.links.length + (p.dests.length + p.checks.length)))) by omega]
  exact h
/-- What Lex tells of a network's text. -/
theorem text_lex : ∃ T, lexT (textB p) = T ∧ stopsT T = 2 + p.nodes.length + p.links.length + p.dests.length + p.checks.length ∧ T.length ≤ 20000 ∧ lexE (textB p) = 0 := by
  have hl := text_len hk
  obtain ⟨T, e1, k1, e2⟩ := text_scan hk [] 0
  rw [List.append_nil, scan_nil, List.append_nil] at e2
  have e3 : lexT (textB p) = T ++ [(4, [], 0, (textB p).length)] := by unfold lexT; rw [if_neg (by omega), e2]; rfl
  have e4 : lexE (textB p) = 0 := by unfold lexE; rw [if_neg (by omega), e2]; rfl
  refine ⟨_, e3, ?_, by rw [List.length_append]; simp only [List.length_cons, List.length_nil]; omega, e4⟩
  rw [stops_append, e1]
  rfl
end
theorem stops_take {T : List Tok} {k : Nat} {t : Tok} (h : T[k]? = some t) : stopsT (T.take (k + 1)) = stopsT (T.take k) + if t.1 = 3 then 1 else 0 := by
  rw [List.take_add_one, h, stops_append]
  unfold stopsT
  by_cases h3 : t.1 = 3
  · rw [if_pos h3]; simp [h3]
  · rw [if_neg h3]; simp [h3]
theorem stops_le (T : List Tok) : stopsT T ≤ T.length := List.countP_le_length
end Go.Proofs.Ytlfdpfkimggeoaa
namespace Go.Proofs.Ytlfdpfkimggeoaa
open Go.RowKit
set_option linter.unusedVariables false
set_option linter.unusedSimpArgs false
section
variable {p : PPlan} {pr ca kk : Int} {An Al Ad Ac : Option Addr} {ln cn ll cl ld cd lc cc : Nat} {w : World}
end
theorem decS_decW (n : Nat) (hn : n ≤ 65535) : decS 20 n = decW (n : Int) := by
  rw [decW_nat, dec_digits 20 n (by omega) (by omega)]; rfl
theorem ref_check (ns : List PNode) (ds : List PDest) (kd : Int) (i d o li : Nat) (hk : kd = 1 ∨ kd = 2 ∨ kd = 3 ∨ kd = 4) (hli : li ≤ 65535) :
    (refCheckS ns ds ⟨kd, i, d, li, o⟩).data.toList ++ [59, 10] = lineS (checkW ns ds ⟨kd, i, d, li, o⟩) := by
  have hd := decS_decW li hli
  unfold refCheckS checkW lineS lineB
  dsimp only
  rw [Int.toNat_natCast, hd]
  rcases hk with rfl | rfl | rfl | rfl <;> simp [ByteArray.data_append, Lib.join]
end Go.Proofs.Ytlfdpfkimggeoaa
