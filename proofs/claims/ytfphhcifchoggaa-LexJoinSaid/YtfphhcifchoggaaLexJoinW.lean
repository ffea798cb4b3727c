/-
  LexJoin, its walk.
-/
import Derived.Test.YtfphhcifchoggaaLexShiftW
namespace Go.Proofs.Ytfphhcifchoggaa
open Go.RowKit Go.Shelf Go.Sort

/-- Lex, what it tells named, the number of tokens too. -/
theorem Lex_isN (s : ByteArray) (hs : s.size ≤ 9223372036854775807) (T : List Tok) (N : Nat) (E : Int) (q : Nat) (H : Hid (lexT s.data.toList = T ∧ lexE s.data.toList = E ∧ lexP s.data.toList = q ∧ T.length = N)) {B : Nat} {w0 w : World} (hb : Below B w0 w) (hB : B ≤ w0.heap.size) :
    Calls Try.prog 13 #[.string s] w fun e w' => ∃ A c, e = .returned (.tuple #[.slice A N c, .int .i64 E, .int .i64 (q : Int)]) ∧ CellsAt w' w'.heap.size A (toksCells T) ∧ Below w.heap.size w w' ∧ Below B w0 w' := by
  obtain ⟨h1, h2, h3, rfl⟩ := H.out
  exact Lex_is s hs T E q (Lib.hid ⟨h1, h2, h3⟩) hb hB

/-- Two texts, a line feed between. -/
theorem lex_join (a b : List UInt8) (ha : a.length ≤ 4000) (hb : b.length ≤ 4000) :
    (lexE a = 21 ∧ lexT (a ++ 10 :: b) = [] ∧ lexE (a ++ 10 :: b) = 21 ∧ lexP (a ++ 10 :: b) = lexP a) ∨
    (lexE a = 0 ∧ lexE b = 21 ∧ lexT (a ++ 10 :: b) = [] ∧ lexE (a ++ 10 :: b) = 21 ∧ lexP (a ++ 10 :: b) = lexP b + (a.length + 1)) ∨
    (lexE a = 0 ∧ lexE b = 0 ∧ lexE (a ++ 10 :: b) = 0 ∧ ∃ TA, lexT a = TA ++ [(4, [], 0, a.length)] ∧ lexT (a ++ 10 :: b) = TA ++ (lexT b).map (shiftT (a.length + 1))) := by
  have hj := scan_line_join a.length a b 0 (Nat.le_refl _)
  rw [show 0 + a.length + 1 = 0 + (a.length + 1) by omega, scan_shift b 0 (a.length + 1)] at hj
  have hl : (a ++ 10 :: b).length = a.length + 1 + b.length := by simp; omega
  have h1 : ¬ 10000 < a.length := by omega
  have h2 : ¬ 10000 < b.length := by omega
  have h3 : ¬ 10000 < (a ++ 10 :: b).length := by omega
  unfold lexT lexE lexP
  simp only [if_neg h1, if_neg h2, if_neg h3, hj]
  cases hA : (scan a 0).2 with
  | some q =>
    left
    simp [thenB, hA]
  | none =>
    right
    cases hB : (scan b 0).2 with
    | some q => left; simp [thenB, hA]
    | none =>
      right
      refine ⟨rfl, rfl, by simp [thenB, hA], (scan a 0).1, rfl, ?_⟩
      rw [hl]
      simp [thenB, hA, shiftT]
      omega

set_option maxRecDepth 100000 in
set_option maxHeartbeats 8000000 in
theorem LexJoin_walk (s : ByteArray) (_ : s.size ≤ 140737488351232) (s2 : ByteArray) (_ : s2.size ≤ 140737488351232) (A : Option Addr) (c : Nat) (l : List (Int × Int)) (hwf : ∀ p ∈ l, InI p.1 ∧ InI p.2) (_ : l.length ≤ 9223372036854775807)
    (w : World) (hA : CellsAt w w.heap.size A (pairCells l)) :
    Calls Try.prog 5 #[.string s, .string s2, .slice A l.length c] w fun e w' => e = .returned (.bool true) ∧ Below w.heap.size w w' := by
  have HWF := Lib.hid hwf
  have hb := Below.refl w.heap.size w
  have hmx : Try.prog.follows .mixedOrders = true := by kernel_rfl
  clear hwf
  go_enter Try.func5, Try.ntmps5
  go_wp2_with (go_at_call 9; refine (awake2_acc hb (Nat.le_refl _)).mono ?_; clear hb; rintro e w3 ⟨rfl, hb⟩)
  go_loopw [8, 9] (fun t i wr => ∃ (m : Nat) (x : ByteArray), m ≤ l.length ∧ m ≤ 20 ∧ i = .int .i64 (m : Nat) ∧ t = .string x ∧ TextAt l m x ∧ Below w.heap.size w wr) (fun _ i _ => 20 - (intOf i).toNat)
  case atStart => exact ⟨0, ⟨#[]⟩, Nat.zero_le _, by omega, rfl, rfl, rfl, hb⟩
  case round =>
    clear hb
    obtain ⟨m, x, hml, hm20, rfl, rfl, hat, hb⟩ := hrel
    have hxs := hat.size
    by_cases hlt : m < l.length ∧ m < 20
    · obtain ⟨hlt1, hlt2⟩ := hlt
      obtain ⟨r, hr⟩ : ∃ r, l[m]? = some r := ⟨_, List.getElem?_eq_getElem hlt1⟩
      obtain ⟨ad, rfl, had, d0, d1⟩ := (hA.below hb).pair hr
      obtain ⟨wf0, wf1⟩ := HWF.out r (List.mem_of_getElem? hr)
      obtain ⟨y, hy⟩ : ∃ y, pieceB r.1 r.2 = y := ⟨_, rfl⟩
      have hyl : y.length ≤ 20 := by rw [← hy]; exact piece_len _ _
      have c0 := cell_regrown d0
      have c1 := cell_regrown d1
      have HS := Lib.hid (hat.step hr hy)
      have HY := Lib.hid hy
      clear hy hat hr hA d0 d1
      go_wp2
      refine wp_region_quiet_below hmx (by kernel_rfl) ?_
      repeat (any_goals (first
        | go_big_quiet_step ((go_at_call 10; exact Calls.regrown_of (Piece_named _ _ wf0 wf1 y HY _)))
        | quiet_step ((go_at_call 10; exact Calls.regrown_of (Piece_named _ _ wf0 wf1 y HY _)))))
      refine wpQuiet_nil ?_
      intro _ hw'
      obtain ⟨⟨dq, osq⟩, hw''⟩ := hw'
      subst hw''
      have hb' := hb.trans ((below_regrown wr dq osq).mono hb.size)
      clear c0 c1
      go_wp2
      exact ⟨⟨m + 1, _, by omega, by omega, by go_num, rfl, HS.out, hb'⟩, by simp only [intOf]; omega⟩
    · have hnlt : (m < l.length ∧ ¬ m < 20) ∨ l.length ≤ m := by omega
      clear hlt hat
      by_cases hs1 : 4000 < s.size
      · rcases hnlt with ⟨hl1, hl2⟩ | hl1
        all_goals
          go_wp2
          go_ret
          exact ⟨rfl, hb⟩
      · by_cases hs2 : 4000 < s2.size
        · rcases hnlt with ⟨hl1, hl2⟩ | hl1
          all_goals
            go_wp2
            go_ret
            exact ⟨rfl, hb⟩
        · rcases hnlt with ⟨hl1, hl2⟩ | hl1
          all_goals
            go_wp2
            obtain ⟨wq, rfl⟩ : ∃ wq : World, wq = wr := ⟨_, rfl⟩
            obtain ⟨W, hW⟩ : ∃ W, wq.alloc (.cells #[.string s, .string x] 9) = W := ⟨_, rfl⟩
            have hcs : ∀ (k : Nat) (y : ByteArray), [s, x][k]? = some y → W.cell? ⟨wq.heap.size, k, none⟩ = some (.string y) := fun k y h => by rw [← hW]; exact strs_new wq [s, x] 9 k y h
            have hws : W.heap.size = wq.heap.size + 1 := by rw [← hW]; simp
            have hbW : Below w.heap.size w W := by rw [← hW]; exact hb.alloc hb.size _
            rw [hW]
            have HCS := Lib.hid hcs
            have hltW : wq.heap.size < W.heap.size := by omega
            clear hcs hb hW hws
            go_loopw [62] (fun i wx => ∃ j : Nat, j ≤ 2 ∧ i = .int .i64 j ∧ Below W.heap.size W wx) (fun i _ => 2 - (intOf i).toNat)
            case atStart => exact ⟨0, by omega, rfl, Below.refl _ _⟩
            case round =>
              obtain ⟨j, hj, rfl, hb⟩ := hrel
              by_cases hlt : j < 2
              · obtain ⟨y, hy⟩ : ∃ y, [s, x][j]? = some y := ⟨_, List.getElem?_eq_getElem (by simpa using hlt)⟩
                have hc := (hb.cell (p := ⟨wq.heap.size, j, none⟩) hltW).trans (HCS.out j y hy)
                have hyz : y.size ≤ 4000 := by
                  have hm := List.mem_of_getElem? hy
                  simp only [List.mem_cons, List.not_mem_nil, or_false] at hm
                  rcases hm with rfl | rfl <;> omega
                clear hy
                have hjd : (y ++ ⟨#[10]⟩ ++ s2 : ByteArray).data.toList = y.data.toList ++ 10 :: s2.data.toList := by rw [data_add, data_add, List.append_assoc]; rfl
                have hyl : y.data.toList.length = y.size := (Lib.size_eq y).symm
                have hjoin := lex_join y.data.toList s2.data.toList (by omega) (by rw [← Lib.size_eq]; omega)
                rw [← hjd, hyl] at hjoin
                have hsz : (y ++ ⟨#[10]⟩ ++ s2 : ByteArray).size ≤ 9223372036854775807 := by
                  rw [ByteArray.size_append, ByteArray.size_append]
                  have : (ByteArray.mk #[10]).size = 1 := rfl
                  omega
                obtain ⟨Ta, hTa⟩ : ∃ T, lexT y.data.toList = T := ⟨_, rfl⟩
                obtain ⟨qa, hqa⟩ : ∃ q, lexP y.data.toList = q := ⟨_, rfl⟩
                obtain ⟨Tb, hTb⟩ : ∃ T, lexT s2.data.toList = T := ⟨_, rfl⟩
                obtain ⟨qb, hqb⟩ : ∃ q, lexP s2.data.toList = q := ⟨_, rfl⟩
                obtain ⟨qj, hqj⟩ : ∃ q, lexP (y ++ ⟨#[10]⟩ ++ s2).data.toList = q := ⟨_, rfl⟩
                obtain ⟨N, hN⟩ : ∃ N, Ta.length = N := ⟨_, rfl⟩
                obtain ⟨M, hM⟩ : ∃ M, Tb.length = M := ⟨_, rfl⟩
                have hqaz : qa ≤ 10000 := by rw [← hqa]; exact lexP_le _
                have hqbz : qb ≤ 10000 := by rw [← hqb]; exact lexP_le _
                have hNz : N ≤ 10001 := by rw [← hN, ← hTa]; exact lexT_len _
                have hMz : M ≤ 10001 := by rw [← hM, ← hTb]; exact lexT_len _
                rw [hTa, hqa, hTb, hqb, hqj] at hjoin
                rcases hjoin with ⟨e1, e2, e3, e4⟩ | ⟨e1, e2, e3, e4, e5⟩ | ⟨e1, e2, e3, TA, e4, e5⟩
                · obtain ⟨Eb, hEb⟩ : ∃ E, lexE s2.data.toList = E := ⟨_, rfl⟩
                  have HL1 := Lib.hid (fun (V : World) (hbx : Below W.heap.size W V) => Lex_isN y (by omega) Ta N 21 qa (Lib.hid ⟨hTa, e1, hqa, hN⟩) hbx (Nat.le_refl _))
                  have HL2 := Lib.hid (fun (V : World) (hbx : Below W.heap.size W V) => Lex_isN s2 (by omega) Tb M Eb qb (Lib.hid ⟨hTb, hEb, hqb, hM⟩) hbx (Nat.le_refl _))
                  have HL3 := Lib.hid (fun (V : World) (hbx : Below W.heap.size W V) => Lex_isN (y ++ ⟨#[10]⟩ ++ s2) hsz [] 0 21 qa (Lib.hid ⟨e2, e3, hqj.trans e4, rfl⟩) hbx (Nat.le_refl _))
                  clear e1 e2 e3 e4 hTa hqa hTb hqb hqj hN hM hEb hjd hyl
                  go_wp2_with (first
                    | (go_at_call 13; ((with_reducible refine (HL3.out _ hb).mono ?_); clear hb); rintro e w6 ⟨A3, k3, rfl, _, _, hb⟩)
                    | (go_at_call 13; ((with_reducible refine (HL1.out _ hb).mono ?_); clear hb); rintro e w4 ⟨A1, k1, rfl, _, _, hb⟩; clear HL1)
                    | (go_at_call 13; ((with_reducible refine (HL2.out _ hb).mono ?_); clear hb); rintro e w5 ⟨A2, k2, rfl, _, _, hb⟩))
                  exact ⟨⟨j + 1, by omega, by go_num, hb⟩, by simp only [intOf]; omega⟩
                · have HL1 := Lib.hid (fun (V : World) (hbx : Below W.heap.size W V) => Lex_isN y (by omega) Ta N 0 qa (Lib.hid ⟨hTa, e1, hqa, hN⟩) hbx (Nat.le_refl _))
                  have HL2 := Lib.hid (fun (V : World) (hbx : Below W.heap.size W V) => Lex_isN s2 (by omega) Tb M 21 qb (Lib.hid ⟨hTb, e2, hqb, hM⟩) hbx (Nat.le_refl _))
                  have h3 := fun (V : World) (hbx : Below W.heap.size W V) => Lex_isN (y ++ ⟨#[10]⟩ ++ s2) hsz [] 0 21 (qb + (y.size + 1)) (Lib.hid ⟨e3, e4, hqj.trans e5, rfl⟩) hbx (Nat.le_refl _)
                  rw [show ((qb + (y.size + 1) : Nat) : Int) = (qb : Int) + (y.size : Int) + 1 by omega] at h3
                  have HL3 := Lib.hid h3
                  clear e1 e2 e3 e4 e5 hTa hqa hTb hqb hqj hN hM h3 hjd hyl
                  go_wp2_with (first
                    | (go_at_call 13; ((with_reducible refine (HL3.out _ hb).mono ?_); clear hb); rintro e w6 ⟨A3, k3, rfl, _, _, hb⟩)
                    | (go_at_call 13; ((with_reducible refine (HL1.out _ hb).mono ?_); clear hb); rintro e w4 ⟨A1, k1, rfl, _, _, hb⟩; clear HL1)
                    | (go_at_call 13; ((with_reducible refine (HL2.out _ hb).mono ?_); clear hb); rintro e w5 ⟨A2, k2, rfl, _, _, hb⟩))
                  exact ⟨⟨j + 1, by omega, by go_num, hb⟩, by simp only [intOf]; omega⟩
                · obtain ⟨K, hK⟩ : ∃ K, TA.length = K := ⟨_, rfl⟩
                  have hN1 : Ta.length = K + 1 := by rw [e4, List.length_append, hK]; rfl
                  have hTjl : (TA ++ Tb.map (shiftT (y.size + 1))).length = K + M := by rw [List.length_append, List.length_map, hK, hM]
                  have HL1 := Lib.hid (fun (V : World) (hbx : Below W.heap.size W V) => Lex_isN y (by omega) Ta (K + 1) 0 qa (Lib.hid ⟨hTa, e1, hqa, hN1⟩) hbx (Nat.le_refl _))
                  have HL2 := Lib.hid (fun (V : World) (hbx : Below W.heap.size W V) => Lex_isN s2 (by omega) Tb M 0 qb (Lib.hid ⟨hTb, e2, hqb, hM⟩) hbx (Nat.le_refl _))
                  have HL3 := Lib.hid (fun (V : World) (hbx : Below W.heap.size W V) => Lex_isN (y ++ ⟨#[10]⟩ ++ s2) hsz (TA ++ Tb.map (shiftT (y.size + 1))) (K + M) 0 qj (Lib.hid ⟨e5, e3, hqj, hTjl⟩) hbx (Nat.le_refl _))
                  have hTp : ∀ t ∈ Tb, t.2.2.2 ≤ 10000 := by rw [← hTb]; exact lexT_pos _
                  have HTP := Lib.hid hTp
                  have HE4 := Lib.hid e4
                  have HK := Lib.hid hK
                  have HM := Lib.hid hM
                  have hKz : K ≤ 10001 := by omega
                  clear e1 e2 e3 e4 e5 hTa hqa hTb hqb hqj hN hM hjd hyl hTp hK hN1 hTjl
                  go_wp2_with (first
                    | (go_at_call 13; ((with_reducible refine (HL3.out _ hb).mono ?_); clear hb); rintro e w6 ⟨A3, k3, rfl, hC3, hb6, hb⟩)
                    | (go_at_call 13; ((with_reducible refine (HL1.out _ hb).mono ?_); clear hb); rintro e w4 ⟨A1, k1, rfl, hC1, _, hb⟩; clear HL1)
                    | (go_at_call 13; ((with_reducible refine (HL2.out _ hb).mono ?_); clear hb); rintro e w5 ⟨A2, k2, rfl, hC2, hb5, hb⟩))
                  have hC1' := (((hC1.below hb5).more hb5.size).below hb6).more hb6.size
                  have hC2' := (hC2.below hb6).more hb6.size
                  clear hC1 hC2 hb5 hb6
                  go_loopw [21] (fun i wz => ∃ k : Nat, k ≤ K ∧ i = .int .i64 k ∧ Below w6.heap.size w6 wz) (fun i _ => K - (intOf i).toNat)
                  case atStart => exact ⟨0, by omega, rfl, Below.refl _ _⟩
                  case round =>
                    obtain ⟨k, hk, rfl, hbz⟩ := hrel
                    by_cases hltk : k < K
                    · obtain ⟨⟨tk, tx, tn, tp⟩, ht⟩ : ∃ t, TA[k]? = some t := ⟨_, List.getElem?_eq_getElem (by rw [HK.out]; exact hltk)⟩
                      have ha : Ta[k]? = some (tk, tx, tn, tp) := by rw [HE4.out, List.getElem?_append_left (by rw [HK.out]; exact hltk)]; exact ht
                      have hj3 : (TA ++ Tb.map (shiftT (y.size + 1)))[k]? = some (tk, tx, tn, tp) := by rw [List.getElem?_append_left (by rw [HK.out]; exact hltk)]; exact ht
                      obtain ⟨ad1, rfl, a0, a1, a2, a3⟩ := (hC1'.below hbz).tok ha
                      obtain ⟨ad3, rfl, b0, b1, b2, b3⟩ := (hC3.below hbz).tok hj3
                      dsimp only at a0 a1 a2 a3 b0 b1 b2 b3
                      clear ht ha hj3 hC1' hC2' hC3
                      go_wp2
                      go_quiet (fail)
                      go_wp2
                      exact ⟨⟨k + 1, by omega, by go_num, below_draws hbz _⟩, by simp only [intOf]; omega⟩
                    · clear hC1'
                      go_wp2
                      go_loopw [22] (fun i wz => ∃ k : Nat, k ≤ M ∧ i = .int .i64 k ∧ Below w6.heap.size w6 wz) (fun i _ => M - (intOf i).toNat)
                      case atStart => exact ⟨0, by omega, rfl, hbz⟩
                      case round =>
                        clear hbz
                        obtain ⟨k, hk, rfl, hbz⟩ := hrel
                        by_cases hltk : k < M
                        · obtain ⟨⟨tk, tx, tn, tp⟩, ht⟩ : ∃ t, Tb[k]? = some t := ⟨_, List.getElem?_eq_getElem (by rw [HM.out]; exact hltk)⟩
                          have hj3 : (TA ++ Tb.map (shiftT (y.size + 1)))[K + k]? = some (shiftT (y.size + 1) (tk, tx, tn, tp)) := by
                            rw [List.getElem?_append_right (by rw [HK.out]; omega), HK.out, Nat.add_sub_cancel_left]
                            exact shift_get Tb _ k _ ht
                          obtain ⟨ad2, rfl, a0, a1, a2, a3⟩ := (hC2'.below hbz).tok ht
                          obtain ⟨ad3, rfl, b0, b1, b2, b3⟩ := (hC3.below hbz).tokO hbz.size hj3
                          simp only [shiftT] at b0 b1 b2 b3
                          rw [show ((tp + (y.size + 1) : Nat) : Int) = (tp : Int) + (y.size : Int) + 1 by omega] at b3
                          dsimp only at a0 a1 a2 a3
                          have htp : tp ≤ 10000 := HTP.out _ (List.mem_of_getElem? ht)
                          have i1 : IntKind.i64.wrap (K : Int) = (K : Int) := IntWalk.i64_in _ (by omega)
                          have i2 : IntKind.i64.wrap ((K : Int) + (k : Int)) = (K : Int) + (k : Int) := IntWalk.i64_in _ (by omega)
                          have i3 : 0 ≤ (K : Int) + (k : Int) := by omega
                          have i4 : ((K : Int) + (k : Int)).toNat = K + k := by omega
                          have i5 : (K : Int) + (k : Int) < (K : Int) + (M : Int) := by omega
                          clear ht hj3 hC2' hC3
                          go_wp2
                          go_quiet (fail)
                          go_wp2
                          exact ⟨⟨k + 1, by omega, by go_num, below_draws (hbz.alloc hbz.size _) _⟩, by simp only [intOf]; omega⟩
                        · go_wp2
                          exact ⟨⟨j + 1, by omega, by go_num, hb.trans (hbz.mono hb.size)⟩, by simp only [intOf]; omega⟩
              · go_wp2
                go_ret
                exact ⟨rfl, hbW.trans (hb.mono hbW.size)⟩

end Go.Proofs.Ytfphhcifchoggaa
