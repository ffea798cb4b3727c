/-
  LexWords, its walk.
-/
import Derived.Test.YtfphhcifchoggaaLexSegs
import Derived.Test.YtfphhcifchoggaaLxU
namespace Go.Proofs.Ytfphhcifchoggaa
open Go.RowKit Go.Shelf Go.Sort

theorem lex_words (S : List Seg) (hS : ∀ s ∈ S, segOk s) (hl : (segsB S).length ≤ 10000) : lexT (segsB S) = segsT S 0 ++ [(4, [], 0, (segsB S).length)] ∧ lexE (segsB S) = 0 ∧ lexP (segsB S) = 0 := by
  have h := scan_segs S [] 0 hS
  rw [List.append_nil, scan_nil] at h
  refine ⟨?_, ?_, ?_⟩
  · unfold lexT; rw [if_neg (by omega), h]; simp
  · unfold lexE; rw [if_neg (by omega), h]; simp
  · unfold lexP; rw [if_neg (by omega), h]; rfl
theorem segsK_size (l : List (Int × Int)) (bl : List Int) : ∀ k, k ≤ l.length → (segsK l bl k).length = k
  | 0, _ => rfl
  | k + 1, h => by
    have hk : k < l.length := by omega
    rw [segsK_step l bl k _ (List.getElem?_eq_getElem hk), List.length_append, segsK_size l bl k (by omega)]
    rfl

/-- Where LexWords stands. -/
def WordsAt (l : List (Int × Int)) (bl : List Int) (m : Nat) (x : ByteArray) : Prop := x.data.toList = segsB (segsK l bl m)
theorem WordsAt.size {l : List (Int × Int)} {bl : List Int} {m : Nat} {x : ByteArray} (h : WordsAt l bl m x) : x.size = (segsB (segsK l bl m)).length ∧ x.size ≤ m * 26 := by
  have e : x.size = (segsB (segsK l bl m)).length := by rw [Lib.size_eq, h]
  have := segsK_len l bl m
  omega
theorem WordsAt.step {l : List (Int × Int)} {bl : List Int} {m : Nat} {x : ByteArray} (h : WordsAt l bl m x) {r : Int × Int} (hr : l[m]? = some r) {y g : List UInt8} (hy : pieceB r.1 r.2 = y) (hg : blankB bl m = g) :
    WordsAt l bl (m + 1) (x ++ ⟨y.toArray⟩ ++ ⟨g.toArray⟩) ∧ segsT (segsK l bl (m + 1)) 0 = segsT (segsK l bl m) 0 ++ [ptok r.1 r.2 x.size] := by
  constructor
  · unfold WordsAt
    rw [data_add, data_add, h, segsK_step l bl m r hr, segsB_snoc, hy, hg, List.append_assoc]
  · rw [segsK_step l bl m r hr, segsT_snoc, Nat.zero_add, ← h.size.1]
theorem ptok_word (kind n : Int) (p : Nat) (y : List UInt8) (hy : pieceB kind n = y) (h : pickN kind 4 = 0 ∨ pickN kind 4 = 3) : ptok kind n p = (1, y, 0, p) := by
  unfold ptok; rw [if_neg (by omega), if_neg (by omega), hy]
theorem ptok_stop (kind n : Int) (p : Nat) (y : List UInt8) (hy : pieceB kind n = y) (h : pickN kind 4 = 1) : ptok kind n p = (3, y, 0, p) := by unfold ptok; rw [if_pos h, hy]
theorem ptok_num (kind n : Int) (p : Nat) (y : List UInt8) (hy : pieceB kind n = y) (h : pickN kind 4 = 2) : ptok kind n p = (2, y, pickN n 65536, p) := by unfold ptok; rw [if_neg (by omega), if_pos h, hy]

theorem blank_is (A : Option Addr) (c : Nat) (l : List Int) (i : Nat) (hwf : ∀ v ∈ l, InI v) (g : List UInt8) (H : Hid (blankB l i = g)) (B0 : Nat) (w : World) (hB : B0 ≤ w.heap.size) (hl : CellsAt w B0 A (l.map (Value.int .i64))) :
    Calls Try.prog 11 #[.slice A l.length c, .int .i64 (i : Int)] w fun e w' => e = .returned (.string ⟨g.toArray⟩) ∧ Below w.heap.size w w' :=
  (blank_any A c l i hwf w (hl.more hB)).mono fun _ _ ⟨he, hw⟩ => ⟨by rw [he, H.out], hw⟩

set_option maxRecDepth 100000 in
set_option maxHeartbeats 4000000 in
theorem LexWords_walk (A : Option Addr) (c : Nat) (l : List (Int × Int)) (hwf : ∀ p ∈ l, InI p.1 ∧ InI p.2) (_ : l.length ≤ 9223372036854775807) (Ab : Option Addr) (cb : Nat) (bl : List Int) (hwb : ∀ v ∈ bl, InI v) (_ : bl.length ≤ 9223372036854775807)
    (w : World) (hA : CellsAt w w.heap.size A (pairCells l)) (hBl : CellsAt w w.heap.size Ab (bl.map (Value.int .i64))) :
    Calls Try.prog 4 #[.slice A l.length c, .slice Ab bl.length cb] w fun e w' => e = .returned (.bool true) ∧ Below w.heap.size w w' := by
  obtain ⟨i0, hi, hz0, hz1, hz2⟩ := info_parts tokInfo
  have HWF := Lib.hid hwf
  have HWB := Lib.hid hwb
  have hb := Below.refl w.heap.size w
  have hmx : Try.prog.follows .mixedOrders = true := by kernel_rfl
  clear hwf hwb
  go_enter Try.func4, Try.ntmps4
  go_wp2_with (go_at_call 9; refine (awake2_acc hb (Nat.le_refl _)).mono ?_; clear hb; rintro e w3 ⟨rfl, hb⟩)
  go_loopw [6, 7, 8] (fun t v i wr => ∃ (m : Nat) (x : ByteArray), m ≤ l.length ∧ m ≤ 40 ∧ i = .int .i64 (m : Nat) ∧ t = .string x ∧ WordsAt l bl m x ∧ wr.ownsRow w.heap.size 39 4 v m (toksCells (segsT (segsK l bl m) 0)) ∧ Below w.heap.size w wr) (fun _ _ i _ => 40 - (intOf i).toNat)
  case atStart => exact ⟨0, ⟨#[]⟩, Nat.zero_le _, by omega, rfl, rfl, rfl, World.ownsRow_nil _ _ _ _, hb⟩
  case round =>
    clear hb
    obtain ⟨m, x, hml, hm40, rfl, rfl, hat, hown, hb⟩ := hrel
    have hxs := hat.size.2
    by_cases hlt : m < l.length ∧ m < 40
    · obtain ⟨hlt1, hlt2⟩ := hlt
      obtain ⟨r, hr⟩ : ∃ r, l[m]? = some r := ⟨_, List.getElem?_eq_getElem hlt1⟩
      obtain ⟨ad, rfl, had, d0, d1⟩ := (hA.below hb).pair hr
      have hbs := hb.size
      obtain ⟨wf0, wf1⟩ := HWF.out r (List.mem_of_getElem? hr)
      obtain ⟨y, hy⟩ : ∃ y, pieceB r.1 r.2 = y := ⟨_, rfl⟩
      obtain ⟨g, hg⟩ : ∃ g, blankB bl m = g := ⟨_, rfl⟩
      have hyl : y.length ≤ 20 := by rw [← hy]; exact piece_len _ _
      have hgl : g.length ≤ 6 := by rw [← hg]; exact (blank_gap bl m).2
      have c0 := cell_regrown d0
      have c1 := cell_regrown d1
      have hq := pickN_in r.1 4 (by omega)
      have hstep := hat.step hr hy hg
      have HY := Lib.hid hy
      have HG := Lib.hid hg
      have HS := Lib.hid hstep
      clear hy hat hr hA hstep hg hq
      go_wp2
      refine wp_region_quiet_below hmx (by kernel_rfl) ?_
      repeat (any_goals (first
        | go_big_quiet_step ((go_at_call 10; exact Calls.regrown_of (Piece_named _ _ wf0 wf1 y HY _)))
        | quiet_step ((go_at_call 10; exact Calls.regrown_of (Piece_named _ _ wf0 wf1 y HY _)))))
      refine wpQuiet_nil ?_
      intro _ hw'
      obtain ⟨⟨dq, osq⟩, hw''⟩ := hw'
      subst hw''
      have hbw1 := below_regrown wr dq osq
      obtain ⟨w1, hw1⟩ : ∃ w1, grow (redrawn wr dq) osq = w1 := ⟨_, rfl⟩
      rw [hw1] at hbw1
      rw [hw1]
      have hb1 := hb.trans (hbw1.mono hbs)
      have hown1 := own_below hown hbw1
      have hlt1' : ad.block < w1.heap.size := Nat.lt_of_lt_of_le had hb1.size
      have e0 : ∀ o, (w1.alloc o).cell? (ad.add (m * 2)) = some (.int .i64 r.1) := fun o => by
        rw [World.cell?_alloc_lt w1 o _ (by rw [block_of_add]; exact hlt1')]
        exact (hbw1.cell (by rw [block_of_add]; exact Nat.lt_of_lt_of_le had hbs)).trans d0
      have e1 : ∀ o, (w1.alloc o).cell? ⟨(ad.add (m * 2)).block, (ad.add (m * 2)).off + 1, none⟩ = some (.int .i64 r.2) := fun o => by
        rw [World.cell?_alloc_lt w1 o _ (by show (ad.add (m * 2)).block < _; rw [block_of_add]; exact hlt1')]
        exact (hbw1.cell (by show (ad.add (m * 2)).block < _; rw [block_of_add]; exact Nat.lt_of_lt_of_le had hbs)).trans d1
      clear hbw1 hown hb c0 c1 d0 d1 hw1
      have hq := pickN_in r.1 4 (by omega)
      have hcases : pickN r.1 4 = 0 ∨ pickN r.1 4 = 1 ∨ pickN r.1 4 = 2 ∨ pickN r.1 4 = 3 := by omega
      clear hq
      obtain ⟨hstep, hT⟩ := HS.out
      have HST := Lib.hid hstep
      clear hstep
      rcases hcases with hk | hk | hk | hk
      · have htk := ptok_word r.1 r.2 x.size y HY.out (.inl hk)
        have KA := Lib.hid (pick2_at r.1 4 0 wf0 (by omega) (by omega) hk)
        rw [htk] at hT
        have HT := Lib.hid hT
        clear hT htk hk
        go_wp2_with (first
          | (go_at_call 12; ((with_reducible refine (KA.out _).mono ?_); rintro e w2 ⟨rfl, rfl⟩))
          | (at_builtin; refine wpList_append_own _ rfl _ _ 30 rfl w.heap.size 39 i0 (.agg #[.int .i64 0, .string ⟨#[]⟩, .int .i64 0, .int .i64 0]) 4 40 Try.underlying30 hi hz0 hz1 hz2 rfl (by decide) _ _ _ rfl ((hown1.alloc _).alloc _) ⟨w1.heap.size + 1, 0, none⟩ 1 1 [.int .i64 1, .string ⟨y.toArray⟩, .int .i64 0, .int .i64 (x.size : Int)] rfl rfl (cells_new2 _ _ _ _ _ _ _) (by simp [Value.oneCell']) (by unfold maxLen; omega) (by omega) (by have := hb1.size; simp; omega) ?_; intro v' w4 hown4 hgrow4 _; have hb5 := ((hb1.alloc hb1.size _).alloc (by simp; have := hb1.size; omega) _).grown hgrow4 (by simp; have := hb1.size; omega) (fun g hg => (hown1.lt _ hg).1); clear hown1 hgrow4 hb1 e0 e1)
          | (go_at_call 11; refine (blank_is Ab cb bl m HWB.out g HG w.heap.size _ hb5.size (hBl.below hb5)).mono ?_; rintro e w5 ⟨rfl, hb6⟩; have hown5 := own_below hown4 hb6; have hb7 := below_up hb5 (Nat.le_refl _) hb6; clear hown4 hb5 hb6))
        refine ⟨⟨m + 1, x ++ ⟨y.toArray⟩ ++ ⟨g.toArray⟩, by omega, by omega, by go_num, rfl, HST.out, ?_, hb7⟩, by simp only [intOf]; omega⟩
        rw [HT.out, toksCells_snoc]
        exact hown5
      · have htk := ptok_stop r.1 r.2 x.size y HY.out hk
        have KA := Lib.hid (pick2_at r.1 4 1 wf0 (by omega) (by omega) hk)
        rw [htk] at hT
        have HT := Lib.hid hT
        clear hT htk hk
        go_wp2_with (first
          | (go_at_call 12; ((with_reducible refine (KA.out _).mono ?_); rintro e w2 ⟨rfl, rfl⟩))
          | (at_builtin; refine wpList_append_own _ rfl _ _ 30 rfl w.heap.size 39 i0 (.agg #[.int .i64 0, .string ⟨#[]⟩, .int .i64 0, .int .i64 0]) 4 40 Try.underlying30 hi hz0 hz1 hz2 rfl (by decide) _ _ _ rfl ((hown1.alloc _).alloc _) ⟨w1.heap.size + 1, 0, none⟩ 1 1 [.int .i64 3, .string ⟨y.toArray⟩, .int .i64 0, .int .i64 (x.size : Int)] rfl rfl (cells_new2 _ _ _ _ _ _ _) (by simp [Value.oneCell']) (by unfold maxLen; omega) (by omega) (by have := hb1.size; simp; omega) ?_; intro v' w4 hown4 hgrow4 _; have hb5 := ((hb1.alloc hb1.size _).alloc (by simp; have := hb1.size; omega) _).grown hgrow4 (by simp; have := hb1.size; omega) (fun g hg => (hown1.lt _ hg).1); clear hown1 hgrow4 hb1 e0 e1)
          | (go_at_call 11; refine (blank_is Ab cb bl m HWB.out g HG w.heap.size _ hb5.size (hBl.below hb5)).mono ?_; rintro e w5 ⟨rfl, hb6⟩; have hown5 := own_below hown4 hb6; have hb7 := below_up hb5 (Nat.le_refl _) hb6; clear hown4 hb5 hb6))
        refine ⟨⟨m + 1, x ++ ⟨y.toArray⟩ ++ ⟨g.toArray⟩, by omega, by omega, by go_num, rfl, HST.out, ?_, hb7⟩, by simp only [intOf]; omega⟩
        rw [HT.out, toksCells_snoc]
        exact hown5
      · have htk := ptok_num r.1 r.2 x.size y HY.out hk
        have KA := Lib.hid (pick2_at r.1 4 2 wf0 (by omega) (by omega) hk)
        have KB := Lib.hid (pick2_at r.2 65536 (pickN r.2 65536) wf1 (by omega) (by omega) rfl)
        obtain ⟨q, hq⟩ : ∃ q, pickN r.2 65536 = q := ⟨_, rfl⟩
        rw [hq] at htk KB
        rw [htk] at hT
        have HT := Lib.hid hT
        clear hT htk hk hq
        go_wp2_with (first
          | (go_at_call 12; ((with_reducible refine (KA.out _).mono ?_); rintro e w2 ⟨rfl, rfl⟩))
          | (go_at_call 12; ((with_reducible refine (KB.out _).mono ?_); rintro e w2 ⟨rfl, rfl⟩))
          | (at_builtin; refine wpList_append_own _ rfl _ _ 30 rfl w.heap.size 39 i0 (.agg #[.int .i64 0, .string ⟨#[]⟩, .int .i64 0, .int .i64 0]) 4 40 Try.underlying30 hi hz0 hz1 hz2 rfl (by decide) _ _ _ rfl ((hown1.alloc _).alloc _) ⟨w1.heap.size + 1, 0, none⟩ 1 1 [.int .i64 2, .string ⟨y.toArray⟩, .int .i64 q, .int .i64 (x.size : Int)] rfl rfl (cells_new2 _ _ _ _ _ _ _) (by simp [Value.oneCell']) (by unfold maxLen; omega) (by omega) (by have := hb1.size; simp; omega) ?_; intro v' w4 hown4 hgrow4 _; have hb5 := ((hb1.alloc hb1.size _).alloc (by simp; have := hb1.size; omega) _).grown hgrow4 (by simp; have := hb1.size; omega) (fun g hg => (hown1.lt _ hg).1); clear hown1 hgrow4 hb1 e0 e1)
          | (go_at_call 11; refine (blank_is Ab cb bl m HWB.out g HG w.heap.size _ hb5.size (hBl.below hb5)).mono ?_; rintro e w5 ⟨rfl, hb6⟩; have hown5 := own_below hown4 hb6; have hb7 := below_up hb5 (Nat.le_refl _) hb6; clear hown4 hb5 hb6))
        refine ⟨⟨m + 1, x ++ ⟨y.toArray⟩ ++ ⟨g.toArray⟩, by omega, by omega, by go_num, rfl, HST.out, ?_, hb7⟩, by simp only [intOf]; omega⟩
        rw [HT.out, toksCells_snoc]
        exact hown5
      · have htk := ptok_word r.1 r.2 x.size y HY.out (.inr hk)
        have KA := Lib.hid (pick2_at r.1 4 3 wf0 (by omega) (by omega) hk)
        rw [htk] at hT
        have HT := Lib.hid hT
        clear hT htk hk
        go_wp2_with (first
          | (go_at_call 12; ((with_reducible refine (KA.out _).mono ?_); rintro e w2 ⟨rfl, rfl⟩))
          | (at_builtin; refine wpList_append_own _ rfl _ _ 30 rfl w.heap.size 39 i0 (.agg #[.int .i64 0, .string ⟨#[]⟩, .int .i64 0, .int .i64 0]) 4 40 Try.underlying30 hi hz0 hz1 hz2 rfl (by decide) _ _ _ rfl ((hown1.alloc _).alloc _) ⟨w1.heap.size + 1, 0, none⟩ 1 1 [.int .i64 1, .string ⟨y.toArray⟩, .int .i64 0, .int .i64 (x.size : Int)] rfl rfl (cells_new2 _ _ _ _ _ _ _) (by simp [Value.oneCell']) (by unfold maxLen; omega) (by omega) (by have := hb1.size; simp; omega) ?_; intro v' w4 hown4 hgrow4 _; have hb5 := ((hb1.alloc hb1.size _).alloc (by simp; have := hb1.size; omega) _).grown hgrow4 (by simp; have := hb1.size; omega) (fun g hg => (hown1.lt _ hg).1); clear hown1 hgrow4 hb1 e0 e1)
          | (go_at_call 11; refine (blank_is Ab cb bl m HWB.out g HG w.heap.size _ hb5.size (hBl.below hb5)).mono ?_; rintro e w5 ⟨rfl, hb6⟩; have hown5 := own_below hown4 hb6; have hb7 := below_up hb5 (Nat.le_refl _) hb6; clear hown4 hb5 hb6))
        refine ⟨⟨m + 1, x ++ ⟨y.toArray⟩ ++ ⟨g.toArray⟩, by omega, by omega, by go_num, rfl, HST.out, ?_, hb7⟩, by simp only [intOf]; omega⟩
        rw [HT.out, toksCells_snoc]
        exact hown5
    · have hn : (segsK l bl m).length = m := segsK_size l bl m hml
      obtain ⟨t1, t2, t3⟩ := lex_words (segsK l bl m) (segsK_ok l bl m) (by have := segsK_len l bl m; omega)
      rw [← hat.size.1] at t1
      rw [← show x.data.toList = segsB (segsK l bl m) from hat] at t1 t2 t3
      have hnlt : (m < l.length ∧ ¬ m < 40) ∨ l.length ≤ m := by omega
      have T1 := Lib.hid t1
      have T2 := Lib.hid t2
      have T3 := Lib.hid t3
      have hTl : (segsT (segsK l bl m) 0).length = m := by rw [segsT_len, hn]
      clear hat hlt t1 t2 t3 hn
      rcases hnlt with ⟨hl1, hl2⟩ | hl1
      all_goals
        go_wp2_with (first
          | (at_builtin; refine wpList_append_own _ rfl _ _ 30 rfl w.heap.size 39 i0 (.agg #[.int .i64 0, .string ⟨#[]⟩, .int .i64 0, .int .i64 0]) 4 40 Try.underlying30 hi hz0 hz1 hz2 rfl (by decide) _ _ _ rfl (hown.alloc _) ⟨wr.heap.size, 0, none⟩ 1 1 [.int .i64 4, .string ⟨#[]⟩, .int .i64 0, .int .i64 (x.size : Int)] rfl rfl (cells_new _ _ _) (by simp [Value.oneCell']) (by unfold maxLen; omega) (by omega) (by have := hb.size; simp; omega) ?_; intro v' w4 hown4 hgrow4 _; obtain ⟨g', cap', rfl⟩ := ownsRow_succ hown4; have hb5 := (hb.alloc hb.size _).grown hgrow4 (by have := hb.size; simp; omega) (fun g hg => (hown.lt _ hg).1); clear hown hgrow4 hb)
          | (go_at_call 13; refine (Lex_acc x (by omega) hb5 (Nat.le_refl _)).mono ?_; clear hb5; rintro e w6 ⟨A6, c6, rfl, hC6, hb6, hb7⟩; rw [T1.out, T2.out, T3.out] at *; have hown6 := own_below hown4 hb6; clear hown4 hb6))
        have hC2 : CellsAt w6 w6.heap.size (some ⟨g', 0, none⟩) (toksCells (segsT (segsK l bl m) 0 ++ [(4, [], 0, x.size)])) := by rw [toksCells_snoc]; exact CellsAt.of_own hown6
        have hs := same_any A6 (some ⟨g', 0, none⟩) c6 cap' _ _ w6.heap.size w6 hC6 hC2 (by rw [List.length_append, hTl]; simp; omega)
        rw [show (segsT (segsK l bl m) 0 ++ [(4, [], 0, x.size)] : List Tok).length = m + 1 by rw [List.length_append, hTl]; rfl, decide_eq_true rfl] at hs
        refine hs.mono ?_
        rintro e w8 ⟨rfl, nq, rfl⟩
        go_wp2
        go_ret
        exact ⟨rfl, below_draws hb7 _⟩

end Go.Proofs.Ytfphhcifchoggaa
