/-
  LexTells, its walk.
-/
import Derived.IntWalk
import Derived.Test.YtfphhcifchoggaaLexShiftW
import Derived.Test.YtfphhcifchoggaaLexWordsW
namespace Go.Proofs.Ytfphhcifchoggaa
open Go.RowKit Go.Shelf Go.Sort

theorem refLex_is (s : ByteArray) (hs : s.size ≤ 9223372036854775807) (T : List Tok) (E : Int) (q : Nat) (H : Hid (lexT s.data.toList = T ∧ lexE s.data.toList = E ∧ lexP s.data.toList = q)) {B : Nat} {w0 w : World} (hb : Below B w0 w) (hB : B ≤ w0.heap.size) :
    Calls Try.prog 14 #[.string s] w fun e w' => ∃ A c, e = .returned (.tuple #[.slice A T.length c, .int .i64 E, .int .i64 (q : Int)]) ∧ CellsAt w' w'.heap.size A (toksCells T) ∧ Below w.heap.size w w' ∧ Below B w0 w' := by
  obtain ⟨h1, h2, h3⟩ := H.out
  refine (refLex_any s hs w).mono ?_
  rintro e w' ⟨A, c, he, hc, hw⟩
  rw [h1, h2, h3] at he
  rw [h1] at hc
  exact ⟨A, c, he, hc, hw, below_up hb hB hw⟩

theorem refName_acc (s : ByteArray) (hs : s.size ≤ 9223372036854775807) (b : Bool) (H : Hid (nameB s.data.toList = b)) {B : Nat} {w0 w : World} (hb : Below B w0 w) (hB : B ≤ w0.heap.size) :
    Calls Try.prog 17 #[.string s] w fun e w' => e = .returned (.bool b) ∧ Below B w0 w' :=
  (refName_is s hs b H hb hB).mono fun _ _ h => ⟨h.1, h.2.2⟩
theorem refKeyword_acc (s : ByteArray) (b : Bool) (H : Hid (kwB s.data.toList = b)) {B : Nat} {w0 w : World} (hb : Below B w0 w) (hB : B ≤ w0.heap.size) :
    Calls Try.prog 21 #[.string s] w fun e w' => e = .returned (.bool b) ∧ Below B w0 w' :=
  (refKeyword_is s b H hb hB).mono fun _ _ h => ⟨h.1, h.2.2⟩

set_option maxRecDepth 100000 in
set_option maxHeartbeats 8000000 in
theorem LexTells_walk (s : ByteArray) (zs : s.size ≤ 140737488351232) (A : Option Addr) (c : Nat) (l : List (Int × Int)) (hwf : ∀ p ∈ l, InI p.1 ∧ InI p.2) (_ : l.length ≤ 9223372036854775807) (Ab : Option Addr) (cb : Nat) (bl : List Int) (hwb : ∀ v ∈ bl, InI v) (_ : bl.length ≤ 9223372036854775807)
    (a3 : Int) (w3' : InI a3) (s4 : ByteArray) (zs4 : s4.size ≤ 140737488351232) (w : World) (hA : CellsAt w w.heap.size A (pairCells l)) (hBl : CellsAt w w.heap.size Ab (bl.map (Value.int .i64))) :
    Calls Try.prog 3 #[.string s, .slice A l.length c, .slice Ab bl.length cb, .int .i64 a3, .string s4] w fun e w' => e = .returned (.bool true) ∧ Below w.heap.size w w' := by
  have HWF := Lib.hid hwf
  have HWB := Lib.hid hwb
  have hb := Below.refl w.heap.size w
  have hmx : Try.prog.follows .mixedOrders = true := by kernel_rfl
  clear hwf hwb
  go_enter Try.func3, Try.ntmps3
  go_wp2_with (go_at_call 9; refine (awake2_acc hb (Nat.le_refl _)).mono ?_; clear hb; rintro e w3 ⟨rfl, hb⟩)
  go_loopw [12, 13] (fun t i wr => ∃ (m : Nat) (x : ByteArray), m ≤ l.length ∧ m ≤ 30 ∧ i = .int .i64 (m : Nat) ∧ t = .string x ∧ x.size ≤ m * 26 ∧ Below w.heap.size w wr) (fun _ i _ => 30 - (intOf i).toNat)
  case atStart => exact ⟨0, ⟨#[]⟩, Nat.zero_le _, by omega, rfl, rfl, by decide, hb⟩
  case round =>
    clear hb
    obtain ⟨m, x, hml, hm30, rfl, rfl, hxs, hb⟩ := hrel
    by_cases hlt : m < l.length ∧ m < 30
    · obtain ⟨hlt1, hlt2⟩ := hlt
      obtain ⟨r, hr⟩ : ∃ r, l[m]? = some r := ⟨_, List.getElem?_eq_getElem hlt1⟩
      obtain ⟨ad, rfl, had, d0, d1⟩ := (hA.below hb).pair hr
      obtain ⟨wf0, wf1⟩ := HWF.out r (List.mem_of_getElem? hr)
      obtain ⟨y, hy⟩ : ∃ y, pieceB r.1 r.2 = y := ⟨_, rfl⟩
      obtain ⟨g, hg⟩ : ∃ g, blankB bl m = g := ⟨_, rfl⟩
      have hyl : y.length ≤ 20 := by rw [← hy]; exact piece_len _ _
      have hgl : g.length ≤ 6 := by rw [← hg]; exact (blank_gap bl m).2
      have c0 := cell_regrown d0
      have c1 := cell_regrown d1
      have HY := Lib.hid hy
      have HG := Lib.hid hg
      have HBG := Lib.hid (fun (d : Nat) (os : Array Obj) => (hBl.below (hb.trans ((below_regrown wr d os).mono hb.size)) : CellsAt (grow (redrawn wr d) os) w.heap.size Ab (bl.map (Value.int .i64))))
      have HBS := Lib.hid (fun (d : Nat) (os : Array Obj) => Nat.le_trans hb.size (below_regrown wr d os).size)
      clear hy hr hA d0 d1 hg hBl
      go_wp2
      refine wp_region_quiet_below hmx (by kernel_rfl) ?_
      repeat (any_goals (first
        | go_big_quiet_step ((first | (go_at_call 10; exact Calls.regrown_of (Piece_named _ _ wf0 wf1 y HY _)) | (go_at_call 11; exact Calls.regrown_of (blank_is Ab cb bl m HWB.out g HG w.heap.size _ (HBS.out _ _) (HBG.out _ _)))))
        | quiet_step ((first | (go_at_call 10; exact Calls.regrown_of (Piece_named _ _ wf0 wf1 y HY _)) | (go_at_call 11; exact Calls.regrown_of (blank_is Ab cb bl m HWB.out g HG w.heap.size _ (HBS.out _ _) (HBG.out _ _)))))))
      refine wpQuiet_nil ?_
      intro _ hw'
      obtain ⟨⟨dq, osq⟩, hw''⟩ := hw'
      subst hw''
      have hb' := hb.trans ((below_regrown wr dq osq).mono hb.size)
      have hsz' : (x ++ ⟨y.toArray⟩ ++ ⟨g.toArray⟩ : ByteArray).size ≤ (m + 1) * 26 := by
        rw [Lib.size_eq] at hxs ⊢
        rw [data_add, data_add, List.length_append, List.length_append]
        show x.data.toList.length + y.length + g.length ≤ _
        omega
      clear c0 c1
      go_wp2
      exact ⟨⟨m + 1, _, by omega, by omega, by go_num, rfl, hsz', hb'⟩, by simp only [intOf]; omega⟩
    · have hnlt : (m < l.length ∧ ¬ m < 30) ∨ l.length ≤ m := by omega
      obtain ⟨k, hk, hkx⟩ : ∃ k : Nat, pickN a3 ((x.size : Int) + 1) = (k : Int) ∧ k < x.size + 1 := pickN_nat a3 (x.size + 1) (by omega)
      have KK := Lib.hid (pick2_at a3 ((x.size : Int) + 1) (k : Int) w3' (by omega) (by omega) hk)
      obtain ⟨mm, hmm, hmmx⟩ : ∃ mm : Nat, min ((k : Int) + (s4.size : Int)) (x.size : Int) = (mm : Int) ∧ mm ≤ x.size := ⟨min (k + s4.size) x.size, by omega, by omega⟩
      obtain ⟨xa, hxa⟩ : ∃ xa, x.extract 0 k = xa := ⟨_, rfl⟩
      obtain ⟨xb, hxb⟩ : ∃ xb, x.extract mm x.size = xb := ⟨_, rfl⟩
      obtain ⟨xc, hxc⟩ : ∃ xc, x.extract k x.size = xc := ⟨_, rfl⟩
      have za : xa.size ≤ 1000 := by rw [← hxa, ByteArray.size_extract]; omega
      have zb : xb.size ≤ 1000 := by rw [← hxb, ByteArray.size_extract]; omega
      have zc : xc.size ≤ 1000 := by rw [← hxc, ByteArray.size_extract]; omega
      have hsa : ∀ V : World, (Instr.slice 9 (.string x) none (some (.int .i64 (k : Int))) none).run Try.prog V = .ok (.string xa) V := fun V => by
        rw [run_slice_string_h V 9 x Try.underlying9 .i64 (k : Int) (by omega) (by omega), ← hxa]; rfl
      have hsb : ∀ V : World, (Instr.slice 9 (.string x) (some (.int .i64 (mm : Int))) none none).run Try.prog V = .ok (.string xb) V := fun V => by
        rw [run_slice_string_l V 9 x Try.underlying9 .i64 (mm : Int) (by omega) (by omega), ← hxb]; rfl
      have hsc : ∀ V : World, (Instr.slice 9 (.string x) (some (.int .i64 (k : Int))) none none).run Try.prog V = .ok (.string xc) V := fun V => by
        rw [run_slice_string_l V 9 x Try.underlying9 .i64 (k : Int) (by omega) (by omega), ← hxc]; rfl
      have i1 : IntKind.i64.wrap ((k : Int) + (s4.size : Int)) = (k : Int) + (s4.size : Int) := IntWalk.i64_in _ (by omega)
      have n1 : ¬ 9223372036854775807 < xa.size + s4.size := by omega
      have n2 : ¬ 9223372036854775807 < xa.size + s4.size + xb.size := by omega
      have n3 : ¬ 9223372036854775807 < xa.size + s4.size + xc.size := by omega
      clear hlt hk hxa hxb hxc
      have hsx : ∀ y ∈ [s, x, xa ++ s4 ++ xb, xa ++ s4 ++ xc, xa], y.size ≤ 9223372036854775807 := by
        intro y hy
        simp only [List.mem_cons, List.not_mem_nil, or_false] at hy
        rcases hy with rfl | rfl | rfl | rfl | rfl
        · omega
        · omega
        · rw [ByteArray.size_append, ByteArray.size_append]; omega
        · rw [ByteArray.size_append, ByteArray.size_append]; omega
        · omega
      have hsz : ∀ y ∈ [s, s4, s ++ ⟨#[49]⟩, ⟨#[48]⟩ ++ s4], y.size ≤ 9223372036854775807 := by
        intro y hy
        have e1 : (ByteArray.mk #[49]).size = 1 := rfl
        have e2 : (ByteArray.mk #[48]).size = 1 := rfl
        simp only [List.mem_cons, List.not_mem_nil, or_false] at hy
        rcases hy with rfl | rfl | rfl | rfl
        · omega
        · omega
        · rw [ByteArray.size_append]; omega
        · rw [ByteArray.size_append]; omega
      have HSX := Lib.hid hsx
      have HSZ := Lib.hid hsz
      clear hsx hsz
      rcases hnlt with ⟨hl1, hl2⟩ | hl1
      all_goals
        go_wp2_with (go_at_call 12; ((with_reducible refine (KK.out _).mono ?_); rintro e w2 ⟨rfl, rfl⟩))
        go_region_with (fail)
        clear n1 n2 n3 hsa hsb hsc i1
        go_wp2
        simp only [Act.put, Array.reduceGetElem, List.setIfInBounds_toArray, List.set_cons_succ, List.set_cons_zero]
        obtain ⟨wq, rfl⟩ : ∃ wq : World, wq = wr := ⟨_, rfl⟩
        obtain ⟨W, hW⟩ : ∃ W, (wq.alloc (.cells #[.string s, .string x, .string (xa ++ s4 ++ xb), .string (xa ++ s4 ++ xc), .string xa] 9)).drew = W := ⟨_, rfl⟩
        have hcs : ∀ (k : Nat) (y : ByteArray), [s, x, xa ++ s4 ++ xb, xa ++ s4 ++ xc, xa][k]? = some y → W.cell? ⟨wq.heap.size, k, none⟩ = some (.string y) := fun k y h => by
          rw [← hW]; exact strs_new wq [s, x, xa ++ s4 ++ xb, xa ++ s4 ++ xc, xa] 9 k y h
        have hws : W.heap.size = wq.heap.size + 1 := by rw [← hW]; simp
        have hbW : Below w.heap.size w W := by rw [← hW]; exact (hb.alloc hb.size _).drew
        rw [hW]
        have HCS := Lib.hid hcs
        have hltW : wq.heap.size < W.heap.size := by omega
        clear hcs hb hW hws
        go_loopw [89] (fun i wx => ∃ j : Nat, j ≤ 5 ∧ i = .int .i64 j ∧ Below W.heap.size W wx) (fun i _ => 5 - (intOf i).toNat)
        case atStart => exact ⟨0, by omega, rfl, Below.refl _ _⟩
        case round =>
          obtain ⟨j, hj, rfl, hb⟩ := hrel
          by_cases hlt : j < 5
          · obtain ⟨y, hy⟩ : ∃ y, [s, x, xa ++ s4 ++ xb, xa ++ s4 ++ xc, xa][j]? = some y := ⟨_, List.getElem?_eq_getElem (by simpa using hlt)⟩
            have hc := (hb.cell (p := ⟨wq.heap.size, j, none⟩) hltW).trans (HCS.out j y hy)
            have hys := HSX.out y (List.mem_of_getElem? hy)
            obtain ⟨T, hT⟩ : ∃ T, lexT y.data.toList = T := ⟨_, rfl⟩
            obtain ⟨E, hE⟩ : ∃ E, lexE y.data.toList = E := ⟨_, rfl⟩
            obtain ⟨q, hq⟩ : ∃ q, lexP y.data.toList = q := ⟨_, rfl⟩
            have hTm : T.length ≤ 10001 := by rw [← hT]; exact lexT_len _
            have HL := Lib.hid (show lexT y.data.toList = T ∧ lexE y.data.toList = E ∧ lexP y.data.toList = q from ⟨hT, hE, hq⟩)
            clear hy hT hE hq
            go_wp2_with (first
              | (go_at_call 13; refine (Lex_is y hys T E q HL hb (Nat.le_refl _)).mono ?_; clear hb; rintro e w4 ⟨A1, k1, rfl, hC1, _, hb⟩)
              | (go_at_call 14; refine (refLex_is y hys T E q HL hb (Nat.le_refl _)).mono ?_; clear hb; rintro e w5 ⟨A2, k2, rfl, hC2, hb5, hb⟩)
              | (go_at_call 15; have hs := same_any A1 A2 k1 k2 T T w5.heap.size w5 ((hC1.below hb5).more hb5.size) hC2 (by omega); rw [decide_eq_true rfl] at hs; refine hs.mono ?_; clear hs; rintro e w6 ⟨rfl, nq, rfl⟩))
            exact ⟨⟨j + 1, by omega, by go_num, below_draws hb _⟩, by simp only [intOf]; omega⟩
          · have hb2 := hbW.trans (hb.mono hbW.size)
            clear hb
            go_wp2
            obtain ⟨wp, rfl⟩ : ∃ wp : World, wp = wr := ⟨_, rfl⟩
            obtain ⟨V, hV⟩ : ∃ V, (wp.alloc (.cells #[.string s, .string s4, .string (s ++ ⟨#[49]⟩), .string (⟨#[48]⟩ ++ s4)] 9)) = V := ⟨_, rfl⟩
            have hcs : ∀ (k : Nat) (y : ByteArray), [s, s4, s ++ ⟨#[49]⟩, ⟨#[48]⟩ ++ s4][k]? = some y → V.cell? ⟨wp.heap.size, k, none⟩ = some (.string y) := fun k y h => by
              rw [← hV]; exact strs_new wp [s, s4, s ++ ⟨#[49]⟩, ⟨#[48]⟩ ++ s4] 9 k y h
            have hvs : V.heap.size = wp.heap.size + 1 := by rw [← hV]; simp
            have hbV : Below w.heap.size w V := by rw [← hV]; exact hb2.alloc hb2.size _
            rw [hV]
            have HCS2 := Lib.hid hcs
            have hltV : wp.heap.size < V.heap.size := by omega
            clear hcs hb2 hV hvs HCS hltW hbW hlt
            go_loopw [128] (fun i wx => ∃ j : Nat, j ≤ 4 ∧ i = .int .i64 j ∧ Below V.heap.size V wx) (fun i _ => 4 - (intOf i).toNat)
            case atStart => exact ⟨0, by omega, rfl, Below.refl _ _⟩
            case round =>
              obtain ⟨j, hj, rfl, hb⟩ := hrel
              by_cases hlt : j < 4
              · obtain ⟨y, hy⟩ : ∃ y, [s, s4, s ++ ⟨#[49]⟩, ⟨#[48]⟩ ++ s4][j]? = some y := ⟨_, List.getElem?_eq_getElem (by simpa using hlt)⟩
                have hc := (hb.cell (p := ⟨wp.heap.size, j, none⟩) hltV).trans (HCS2.out j y hy)
                have hys := HSZ.out y (List.mem_of_getElem? hy)
                obtain ⟨nm, hn⟩ : ∃ nm, nameB y.data.toList = nm := ⟨_, rfl⟩
                obtain ⟨kw, hk⟩ : ∃ kw, kwB y.data.toList = kw := ⟨_, rfl⟩
                obtain ⟨q, hq⟩ : ∃ q, numB y.data.toList = q := ⟨_, rfl⟩
                have HN := Lib.hid hn
                have HK := Lib.hid hk
                have HQ := Lib.hid hq
                clear hy hn hk hq
                cases nm <;> cases kw
                all_goals
                  go_wp2_with (first
                    | (go_at_call 16; refine (Name_is y hys _ HN _).mono ?_; rintro e w4 ⟨rfl, rfl⟩)
                    | (go_at_call 17; refine (refName_acc y hys _ HN hb (Nat.le_refl _)).mono ?_; clear hb; rintro e w4 ⟨rfl, hb⟩)
                    | (go_at_call 18; refine (Number_acc y hys q HQ hb (Nat.le_refl _)).mono ?_; clear hb; rintro e w4 ⟨rfl, hb⟩)
                    | (go_at_call 19; refine (refNumber_is y hys q HQ _).mono ?_; rintro e w4 ⟨rfl, rfl⟩)
                    | (go_at_call 20; refine (Keyword_is y _ HK _).mono ?_; rintro e w4 ⟨rfl, rfl⟩)
                    | (go_at_call 21; refine (refKeyword_acc y _ HK hb (Nat.le_refl _)).mono ?_; clear hb; rintro e w4 ⟨rfl, hb⟩))
                  exact ⟨⟨j + 1, by omega, by go_num, hb⟩, by simp only [intOf]; omega⟩
              · have hb2 := hbV.trans (hb.mono hbV.size)
                clear hb
                go_wp2
                go_ret
                exact ⟨rfl, hb2⟩

end Go.Proofs.Ytfphhcifchoggaa
