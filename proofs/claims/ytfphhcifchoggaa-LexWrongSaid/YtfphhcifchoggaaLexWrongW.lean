/-
  LexWrong, its walk.
-/
import Derived.Test.YtfphhcifchoggaaLexSegs
namespace Go.Proofs.Ytfphhcifchoggaa
open Go.RowKit Go.Shelf Go.Sort

/-- What is no token. -/
def bads : List (List UInt8) := [[64], [13], [61], [49, 97], [48, 48], [54, 53, 53, 51, 54], [45, 97], [95], [97, 98, 99, 100, 101, 102, 103, 104, 105, 106, 107, 108, 109], [0], [57, 45, 57]]
def badOk (x : List UInt8) : Bool :=
  match x with
  | [] => false
  | c :: _ => !blaB c && !decide (c.toNat = 35) && !decide (c.toNat = 59) && ((x.all parB && !kwB x && !nameB x && decide (numB x = -1)) || !parB c)
theorem bads_ok : ∀ x ∈ bads, badOk x = true ∧ x.length ≤ 13 := by decide +kernel

theorem word_zero (c : UInt8) (r : List UInt8) (h : parB c = false) : wordN (c :: r) = 0 := by unfold wordN; rw [List.takeWhile_cons, h]; rfl
theorem word_all_end (x : List UInt8) (h : x.all parB = true) : wordN x = x.length := (wordN_all x).2 h

/-- A wrong run, at the end or ahead of a blank. -/
theorem scan_bad_run (x rest : List UInt8) (p : Nat) (h : badOk x = true) (hr : rest = [] ∨ ∃ c r, rest = c :: r ∧ parB c = false) : scan (x ++ rest) p = ([], some p) := by
  match x, h with
  | c :: r, h =>
    simp only [badOk, Bool.and_eq_true, Bool.or_eq_true, Bool.not_eq_true', decide_eq_false_iff_not, decide_eq_true_eq] at h
    obtain ⟨⟨⟨h1, h2⟩, h3⟩, h4⟩ := h
    rw [List.cons_append]
    rcases h4 with ⟨⟨⟨ha, hk⟩, hn⟩, hm⟩ | hp
    · have ht : ((c :: r) ++ rest).take (wordN ((c :: r) ++ rest)) = c :: r := by
        rcases hr with rfl | ⟨d, q, rfl, hd⟩
        · rw [List.append_nil, word_all_end _ ha, List.take_length]
        · exact (run_full (c :: r) d q ha hd).2.1
      rw [List.cons_append] at ht
      exact scan_bad c (r ++ rest) p (by rw [h1]; simp) h2 h3 (by rw [ht, hk, hn]; simp) (by rw [ht, hm]; omega)
    · refine scan_bad c (r ++ rest) p (by rw [h1]; simp) h2 h3 ?_ ?_
      · rw [word_zero c _ hp, List.take_zero, kw_nil, name_nil]; simp
      · rw [word_zero c _ hp, List.take_zero, num_nil]; omega

theorem lex_wrong (l : List UInt8) (T : List Tok) (q : Nat) (hl : l.length ≤ 10000) (h : scan l 0 = (T, some q)) : lexT l = [] ∧ lexE l = 21 ∧ lexP l = q := by
  refine ⟨?_, ?_, ?_⟩
  · unfold lexT; rw [if_neg (by omega), h]; simp
  · unfold lexE; rw [if_neg (by omega), h]; simp
  · unfold lexP; rw [if_neg (by omega), h]; rfl

theorem bads_get (k : Nat) (h : k < 11) : bads[k]? = some (bads.getD k []) := by
  have h' : k < bads.length := h
  rw [List.getElem?_eq_getElem h', List.getD_eq_getElem?_getD, List.getElem?_eq_getElem h']; rfl

/-- The text so far, and the place; a wrong run among it or not. -/
def WrongAt (l : List (Int × Int)) (bad : List UInt8) (k i : Nat) (x : ByteArray) (pl : Nat) : Prop :=
  x.size ≤ i * 26 + 20 ∧ ((i ≤ k ∧ x.data.toList = segsB (segsK l [] i) ∧ pl = 0) ∨ (k < i ∧ ∃ rest, x.data.toList = segsB (segsK l [] k) ++ (bad ++ 32 :: rest) ∧ pl = (segsB (segsK l [] k)).length))
theorem WrongAt.start (l : List (Int × Int)) (bad : List UInt8) (k : Nat) : WrongAt l bad k 0 ⟨#[]⟩ 0 := ⟨by decide, .inl ⟨Nat.zero_le _, rfl, rfl⟩⟩
theorem WrongAt.step {l : List (Int × Int)} {bad : List UInt8} {k i : Nat} {x : ByteArray} {pl : Nat} (h : WrongAt l bad k i x pl) (hne : i ≠ k) {r : Int × Int} (hr : l[i]? = some r) {y : List UInt8} (hy : pieceB r.1 r.2 = y) : WrongAt l bad k (i + 1) (x ++ ⟨y.toArray⟩ ++ ⟨#[32]⟩) pl := by
  have hyl : y.length ≤ 20 := by rw [← hy]; exact piece_len _ _
  have hd : (x ++ ⟨y.toArray⟩ ++ ⟨#[32]⟩ : ByteArray).data.toList = x.data.toList ++ (y ++ [32]) := by rw [data_add, data_add, List.append_assoc]
  refine ⟨?_, ?_⟩
  · have h1 := h.1
    rw [Lib.size_eq] at h1 ⊢
    rw [hd]
    simp only [List.length_append, List.length_cons, List.length_nil]
    omega
  · rcases h.2 with ⟨h1, h2, h3⟩ | ⟨h1, rest, h2, h3⟩
    · refine .inl ⟨by omega, ?_, h3⟩
      rw [hd, h2, segsK_step l [] i r hr, segsB_snoc, hy]
      rfl
    · refine .inr ⟨by omega, rest ++ (y ++ [32]), ?_, h3⟩
      rw [hd, h2]; simp
theorem WrongAt.bad {l : List (Int × Int)} {bad : List UInt8} {k : Nat} {x : ByteArray} {pl : Nat} (h : WrongAt l bad k k x pl) (hbl : bad.length ≤ 13) {r : Int × Int} {y : List UInt8} (hy : pieceB r.1 r.2 = y) : WrongAt l bad k (k + 1) (x ++ ⟨bad.toArray⟩ ++ ⟨#[32]⟩ ++ ⟨y.toArray⟩ ++ ⟨#[32]⟩) x.size := by
  have hyl : y.length ≤ 20 := by rw [← hy]; exact piece_len _ _
  rcases h.2 with ⟨h1, h2, h3⟩ | ⟨h1, _⟩
  · have hd : (x ++ ⟨bad.toArray⟩ ++ ⟨#[32]⟩ ++ ⟨y.toArray⟩ ++ ⟨#[32]⟩ : ByteArray).data.toList = segsB (segsK l [] k) ++ (bad ++ 32 :: (y ++ [32])) := by
      rw [data_add, data_add, data_add, data_add, h2]; simp
    have hxs : x.size = (segsB (segsK l [] k)).length := by rw [Lib.size_eq, h2]
    have hsl := segsK_len l [] k
    refine ⟨?_, .inr ⟨by omega, _, hd, hxs⟩⟩
    rw [Lib.size_eq, hd]
    simp only [List.length_append, List.length_cons, List.length_nil]
    omega
  · omega
theorem WrongAt.end {l : List (Int × Int)} {bad : List UInt8} {k n : Nat} {x : ByteArray} {pl : Nat} (h : WrongAt l bad k n x pl) (hk : k < n) (hn : n ≤ 30) (hbad : badOk bad = true) : lexT x.data.toList = [] ∧ lexE x.data.toList = 21 ∧ lexP x.data.toList = pl := by
  rcases h.2 with ⟨h1, _⟩ | ⟨h1, rest, h2, h3⟩
  · omega
  · have h0 := h.1
    rw [Lib.size_eq] at h0
    refine lex_wrong _ (segsT (segsK l [] k) 0) pl (by omega) ?_
    rw [h2, scan_segs _ _ 0 (segsK_ok l [] k), scan_bad_run bad _ _ hbad (.inr ⟨32, rest, rfl, rfl⟩), h3]
    simp
theorem WrongAt.last {l : List (Int × Int)} {bad : List UInt8} {n : Nat} {x : ByteArray} {pl : Nat} (h : WrongAt l bad n n x pl) (hn : n ≤ 30) (hbad : badOk bad = true) (hbl : bad.length ≤ 13) :
    lexT (x ++ ⟨bad.toArray⟩).data.toList = [] ∧ lexE (x ++ ⟨bad.toArray⟩).data.toList = 21 ∧ lexP (x ++ ⟨bad.toArray⟩).data.toList = x.size := by
  rcases h.2 with ⟨h1, h2, h3⟩ | ⟨h1, _⟩
  · have hd : (x ++ ⟨bad.toArray⟩ : ByteArray).data.toList = segsB (segsK l [] n) ++ (bad ++ []) := by rw [data_add, h2]; simp
    have hxs : x.size = (segsB (segsK l [] n)).length := by rw [Lib.size_eq, h2]
    have hsl := segsK_len l [] n
    rw [hd]
    refine lex_wrong _ (segsT (segsK l [] n) 0) x.size (by simp only [List.length_append, List.length_nil]; omega) ?_
    rw [scan_segs _ _ 0 (segsK_ok l [] n), scan_bad_run bad _ _ hbad (.inl rfl), hxs]
    simp
  · omega

/-- Lex of a text that is wrong at a place. -/
theorem Lex_wrong (s : ByteArray) (hs : s.size ≤ 9223372036854775807) (q : Nat) (H : Hid (lexT s.data.toList = [] ∧ lexE s.data.toList = 21 ∧ lexP s.data.toList = q)) {B : Nat} {w0 w : World} (hb : Below B w0 w) (hB : B ≤ w0.heap.size) :
    Calls Try.prog 13 #[.string s] w fun e w' => ∃ A c, e = .returned (.tuple #[.slice A 0 c, .int .i64 21, .int .i64 (q : Int)]) ∧ Below B w0 w' := by
  obtain ⟨h1, h2, h3⟩ := H.out
  refine (Lex_acc s hs hb hB).mono ?_
  rintro e w' ⟨A, c, he, _, _, hw⟩
  rw [h1, h2, h3] at he
  exact ⟨A, c, he, hw⟩

set_option maxRecDepth 100000 in
set_option maxHeartbeats 2000000 in
theorem LexWrong_walk (A : Option Addr) (c : Nat) (l : List (Int × Int)) (hwf : ∀ p ∈ l, InI p.1 ∧ InI p.2) (hm : l.length ≤ 9223372036854775807) (a1 : Int) (w1 : InI a1) (a2 : Int) (w2 : InI a2) (w : World) (hA : CellsAt w w.heap.size A (pairCells l)) :
    Calls Try.prog 6 #[.slice A l.length c, .int .i64 a1, .int .i64 a2] w fun e w' => e = .returned (.bool true) ∧ Below w.heap.size w w' := by
  obtain ⟨j, hj, hj11⟩ : ∃ j : Nat, pickN a2 11 = (j : Int) ∧ j < 11 := pickN_nat a2 11 (by omega)
  have KJ := Lib.hid (pick2_at a2 11 (j : Int) w2 (by omega) (by omega) hj)
  obtain ⟨bad, hbad⟩ : ∃ bad, bads.getD j [] = bad := ⟨_, rfl⟩
  have hbg := bads_get j hj11
  rw [hbad] at hbg
  obtain ⟨hok, hbl⟩ := bads_ok bad (List.mem_of_getElem? hbg)
  have hcell : ∀ W : World, (W.alloc (.cells (bads.map fun l => Value.string ⟨l.toArray⟩).toArray 9)).cell? ⟨W.heap.size, j, none⟩ = some (.string ⟨bad.toArray⟩) := fun W => texts_new W bads 9 j bad hbg
  obtain ⟨n, hmin, hn30, hnl⟩ : ∃ n : Nat, min (l.length : Int) 30 = (n : Int) ∧ n ≤ 30 ∧ n ≤ l.length := ⟨min l.length 30, by omega, by omega, by omega⟩
  obtain ⟨k, hk, hkn⟩ : ∃ k : Nat, pickN a1 ((n : Int) + 1) = (k : Int) ∧ k < n + 1 := pickN_nat a1 (n + 1) (by omega)
  have KK := Lib.hid (pick2_at a1 ((n : Int) + 1) (k : Int) w1 (by omega) (by omega) hk)
  have HC := Lib.hid hcell
  have HOK := Lib.hid hok
  have HWF := Lib.hid hwf
  have hb := Below.refl w.heap.size w
  have hmx : Try.prog.follows .mixedOrders = true := by kernel_rfl
  clear hj hbad hbg hcell hok hk hwf
  go_enter Try.func6, Try.ntmps6
  go_wp2_with (first
    | (go_at_call 9; refine (awake2_acc hb (Nat.le_refl _)).mono ?_; clear hb; rintro e w3 ⟨rfl, hb⟩; have hc := HC.out w3; simp only [bads, List.map_cons, List.map_nil] at hc)
    | (go_at_call 12; ((with_reducible refine (KJ.out _).mono ?_); rintro e w2 ⟨rfl, rfl⟩))
    | (go_at_call 12; ((with_reducible refine (KK.out _).mono ?_); rintro e w2 ⟨rfl, rfl⟩)))
  clear hc
  obtain ⟨W, hW⟩ : ∃ W, w3.alloc (.cells (bads.map fun l => Value.string ⟨l.toArray⟩).toArray 9) = W := ⟨_, rfl⟩
  have hbW : Below w.heap.size w W := by rw [← hW]; exact hb.alloc hb.size _
  simp only [bads, List.map_cons, List.map_nil] at hW
  rw [hW]
  clear hW hb
  go_loopw [11, 12, 13] (fun t p i wr => ∃ (m : Nat) (x : ByteArray) (pl : Nat), m ≤ n ∧ i = .int .i64 (m : Nat) ∧ t = .string x ∧ p = .int .i64 (pl : Nat) ∧ WrongAt l bad k m x pl ∧ Below w.heap.size w wr) (fun _ _ i _ => n - (intOf i).toNat)
  case atStart => exact ⟨0, ⟨#[]⟩, 0, Nat.zero_le _, rfl, rfl, rfl, WrongAt.start l bad k, hbW⟩
  case round =>
    obtain ⟨m, x, pl, hmn, rfl, rfl, rfl, hat, hb⟩ := hrel
    have hxs := hat.1
    by_cases hlt : m < n
    · obtain ⟨r, hr⟩ : ∃ r, l[m]? = some r := ⟨_, List.getElem?_eq_getElem (by omega)⟩
      obtain ⟨ad, rfl, _, c0, c1⟩ := (hA.below hb).pair hr
      obtain ⟨wf0, wf1⟩ := HWF.out r (List.mem_of_getElem? hr)
      obtain ⟨y, hy⟩ : ∃ y, pieceB r.1 r.2 = y := ⟨_, rfl⟩
      have hyl : y.length ≤ 20 := by rw [← hy]; exact piece_len _ _
      have c0 := cell_regrown c0
      have c1 := cell_regrown c1
      have HY := Lib.hid hy
      have HAT := Lib.hid hat
      have HR := Lib.hid hr
      clear hy hat hr hA
      by_cases hmk : m = k
      · have e1 : ((m : Int) == (k : Int)) = true := by rw [hmk]; simp
        have HMK := Lib.hid hmk
        clear hmk
        go_wp2
        refine wp_region_quiet_below hmx (by kernel_rfl) ?_
        repeat (any_goals (first
          | go_big_quiet_step ((go_at_call 10; exact Calls.regrown_of (Piece_named _ _ wf0 wf1 y HY _)))
          | quiet_step ((go_at_call 10; exact Calls.regrown_of (Piece_named _ _ wf0 wf1 y HY _)))))
        refine wpQuiet_nil ?_
        intro _ hw'
        obtain ⟨⟨dq, osq⟩, hw''⟩ := hw'
        subst hw''
        have hb' := hb.trans ((below_regrown wr dq osq).mono hb.size)
        have hnext : WrongAt l bad k (m + 1) (x ++ ⟨bad.toArray⟩ ++ ⟨#[32]⟩ ++ ⟨y.toArray⟩ ++ ⟨#[32]⟩) x.size := by
          have h := HAT.out
          have e := HMK.out
          subst e
          exact h.bad hbl HY.out
        go_wp2
        exact ⟨⟨m + 1, _, _, by omega, by go_num, rfl, rfl, hnext, hb'⟩, by simp only [intOf]; omega⟩
      · have e1 : ((m : Int) == (k : Int)) = false := by rw [beq_eq_false_iff_ne]; omega
        go_wp2
        refine wp_region_quiet_below hmx (by kernel_rfl) ?_
        repeat (any_goals (first
          | go_big_quiet_step ((go_at_call 10; exact Calls.regrown_of (Piece_named _ _ wf0 wf1 y HY _)))
          | quiet_step ((go_at_call 10; exact Calls.regrown_of (Piece_named _ _ wf0 wf1 y HY _)))))
        refine wpQuiet_nil ?_
        intro _ hw'
        obtain ⟨⟨dq, osq⟩, hw''⟩ := hw'
        subst hw''
        have hb' := hb.trans ((below_regrown wr dq osq).mono hb.size)
        go_wp2
        exact ⟨⟨m + 1, _, _, by omega, by go_num, rfl, rfl, HAT.out.step hmk HR.out HY.out, hb'⟩, by simp only [intOf]; omega⟩
    · obtain rfl : n = m := by omega
      by_cases hkn' : k = n
      · have e1 : ((k : Int) == (n : Int)) = true := by rw [hkn']; simp
        have hfin : lexT (x ++ ⟨bad.toArray⟩).data.toList = [] ∧ lexE (x ++ ⟨bad.toArray⟩).data.toList = 21 ∧ lexP (x ++ ⟨bad.toArray⟩).data.toList = x.size := by
          subst hkn'; exact hat.last hn30 HOK.out hbl
        have hsz : (x ++ ⟨bad.toArray⟩ : ByteArray).size ≤ 9223372036854775807 := by
          rw [ByteArray.size_append]
          have : (ByteArray.mk bad.toArray).size = bad.length := by rw [Lib.size_eq]
          omega
        have HL := Lib.hid hfin
        clear hfin hkn' hat
        have HQ := Lib.hid (fun (W : World) (hbx : Below w.heap.size w W) => Lex_wrong (x ++ ⟨bad.toArray⟩) hsz _ HL hbx (Nat.le_refl _))
        go_wp2_with (go_at_call 13; ((with_reducible refine (HQ.out _ hb).mono ?_); clear hb); rintro e w6 ⟨A6, c6, rfl, hb⟩)
        go_ret
        exact ⟨rfl, hb⟩
      · have e1 : ((k : Int) == (n : Int)) = false := by rw [beq_eq_false_iff_ne]; omega
        have HL := Lib.hid (hat.end (by omega) hn30 HOK.out)
        clear hat hkn'
        have HQ := Lib.hid (fun (W : World) (hbx : Below w.heap.size w W) => Lex_wrong x (by omega) _ HL hbx (Nat.le_refl _))
        go_wp2_with (go_at_call 13; ((with_reducible refine (HQ.out _ hb).mono ?_); clear hb); rintro e w6 ⟨A6, c6, rfl, hb⟩)
        go_ret
        exact ⟨rfl, hb⟩

end Go.Proofs.Ytfphhcifchoggaa
