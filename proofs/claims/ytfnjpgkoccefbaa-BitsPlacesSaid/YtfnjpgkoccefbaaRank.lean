/-
  bits.Rank: the place of a set.
-/
import Derived.Test.YtfnjpgkoccefbaaBefore
import Derived.Test.YtfnjpgkoccefbaaRound
import Derived.Test.YtfnjpgkoccefbaaRankM
namespace Go.Proofs.Ytfnjpgkoccefbaa
open Go.RowKit Go.Shelf
attribute [local go_sem] Oper.semAt_some

theorem wrap_le (z : Int) : IntKind.i64.wrap z ≤ 9223372036854775807 := by rw [IntKind.wrap_i64]; omega

theorem wrap_le' (z : Int) : wrap64 z ≤ 9223372036854775807 := by unfold wrap64; omega

/-- What choose's loop makes of whatever numbers. -/
def chI (n : Int) : Nat → Int
  | 0 => 1
  | j + 1 => wrap64 ((wrap64 (chI n j * wrap64 (n - (j : Int)))).tdiv ((j : Int) + 1))
set_option maxHeartbeats 400000 in
theorem choose_some (n k : Int) (w : World) (h3 : k ≤ 9223372036854775807) :
    Calls Try.prog 34 #[.int .i64 n, .int .i64 k] w fun e w' => e = .returned (.int .i64 (chI n k.toNat)) ∧ w' = w := by
  go_enter Try.func34, Try.ntmps34
  go_wp2
  go_loop [5, 8] (fun v i => ∃ j : Nat, i = .int .i64 j ∧ v = .int .i64 (chI n j) ∧ ((j : Int) ≤ k ∨ j = 0)) (fun _ i => k.toNat - (intOf i).toNat)
  case atStart => exact ⟨0, rfl, rfl, .inr rfl⟩
  case round =>
    obtain ⟨j, rfl, rfl, hj⟩ := hrel
    by_cases hlt : (j : Int) < k
    · clear hj
      go_wp2
      go_round
      case rel => exact ⟨j + 1, by go_num, rfl, .inl (by omega)⟩
      case measure => simp [intOf]; omega
    · have hj' : j = k.toNat := by omega
      have HJ := Lib.hid hj'
      clear hj hj'
      go_wp2
      go_ret
      exact ⟨by rw [HJ.out]; rfl, rfl⟩

theorem choose_still (x y : Int) (n k : Nat) (hx : x = n) (hy : y = k) (hn : n ≤ 16) (hk : k ≤ 20) (w : World) :
    Calls Try.prog 34 #[.int .i64 x, .int .i64 y] w fun e w' => e = .returned (.int .i64 (chN n k : Nat)) ∧ w' = w :=
  (choose_at x y n k hx hy hn hk w).mono fun _ _ ⟨he, hw⟩ => ⟨he, hw.symm⟩

/-- Between two rounds: what the four boxes hold; as long as the links have come in their order, what is reckoned of them. -/
def RankAt (n : Nat) (L : List Nat) (B3 B7 : Nat) (pre : List (Fin 16)) (W : World) : Prop :=
  ∃ lf nx pl : Int, Boxed W B3 3 (.int .i64 (n : Int)) ∧ Boxed W B7 3 (.int .i64 lf) ∧ Boxed W (B7 + 1) 3 (.int .i64 nx) ∧ Boxed W (B7 + 1 + 1) 3 (.int .i64 pl) ∧ lf ≤ 9223372036854775807 ∧ 0 ≤ nx ∧
    (pre.map (fun x : Fin 16 => x.val) <+: L → lf = ((runR n L.length (pre.map fun x : Fin 16 => x.val)).1 : Nat) ∧ nx = ((runR n L.length (pre.map fun x : Fin 16 => x.val)).2.1 : Nat) ∧ pl = ((runR n L.length (pre.map fun x : Fin 16 => x.val)).2.2 : Nat))
theorem boxed_drew {W : World} {B : Nat} {t : TypeId} {v : Value} (h : Boxed W B t v) : Boxed W.drew B t v := h
theorem boxed_kept {W W' : World} {row : Option Nat} {B : Nat} {t : TypeId} {v : Value} (h : Boxed W B t v) (hg : W.grownBy W' row) (hrow : ∀ r, row = some r → ∃ o : Obj, W.heap[r]? = some o ∧ o.isCells = false) : Boxed W' B t v :=
  boxed_own (β := Unit) B t (fun _ => v) () W W' row h hg hrow
theorem rankAt_own (n : Nat) (L : List Nat) (B3 B7 : Nat) : Own (RankAt n L B3 B7) := by
  rintro s W W' row ⟨lf, nx, pl, h3, h7, h8, h9, hl, hn, hp⟩ hg hr
  exact ⟨lf, nx, pl, boxed_kept h3 hg hr, boxed_kept h7 hg hr, boxed_kept h8 hg hr, boxed_kept h9 hg hr, hl, hn, hp⟩

/-- Size, over whatever has been laid since block B; a box that lies stays. -/
theorem Size_keeps (f : Int) {B B' : Nat} {t : TypeId} {v : Value} {w0 w : World} (h : Below B w0 w) (hB : B ≤ w0.heap.size) (hx : Boxed w B' t v) :
    Calls Try.prog 13 #[.int .i64 f] w fun e w' => e = .returned (.int .i64 ((linksB f).length : Nat)) ∧ Below B w0 w' ∧ Boxed w' B' t v :=
  (Size_any f w).mono fun _ _ ⟨he, hb⟩ => ⟨he, h.trans (hb.mono (Nat.le_trans hB h.size)), (hb.block B' hx.lt).trans hx⟩

set_option maxRecDepth 100000 in
set_option maxHeartbeats 1000000 in
theorem Rank_yes (n : Nat) (most : Int) (f : Nat) (w : World) (hn : n ≤ 16) (hf : f < 2 ^ n) (hs : ((linksB (f : Int)).length : Int) ≤ most) :
    Calls Try.prog 28 #[.int .i64 (n : Int), .int .i64 most, .int .i64 (f : Int)] w fun e w' => e = .returned (.int .i64 (rankL n (linksB (f : Int)) : Nat)) ∧ Below w.heap.size w w' := by
  have hp := pow16 n hn
  have hla : (linksB (f : Int)).length ≤ 16 := uptoB_len _ 16
  have hd1 : decide (wrap64 ((2 : Int) ^ n) ≤ (f : Int)) = false := by
    rw [shl_one n hn]
    generalize 2 ^ n = m at hf
    exact decide_eq_false (by omega)
  have hb : Below w.heap.size w (w.alloc (.cells #[.int .i64 (n : Int)] 3)) := (Below.refl w.heap.size w).alloc (Nat.le_refl _) _
  have hx : Boxed (w.alloc (.cells #[.int .i64 (n : Int)] 3)) w.heap.size 3 (.int .i64 (n : Int)) := Boxed.new w _ _
  refine (callsIn_wide (n := 5)).1 ?_
  refine callsIn_of_wp_marks Try.func28 rfl trivial ?_ rfl
  simp only [Try.ntmps28, List.size_toArray, List.length_cons, List.length_nil, Nat.reduceAdd, Nat.reduceSub, Array.replicate_succ, Array.replicate_zero, List.push_toArray, List.append_toArray, List.nil_append, List.cons_append]
  gi_wp2_with (first
    | (refine ⟨trivial, ?_⟩; gi_at_call 13; refine (callsIn_wide.2 (Size_keeps _ hb (Nat.le_refl _) hx)).mono ?_; clear hb hx; rintro e w' ⟨rfl, hb, hx⟩; have hc := hx.cell; have hz := hx.lt)
    | (refine ⟨trivial, ?_⟩; gi_at_call 24; refine (callsIn_wide.2 (Count_any _ _ _)).mono ?_; rintro e w1 ⟨rfl, rfl⟩)
    | (refine ⟨trivial, ?_⟩; gi_at_call 30; refine (callsIn_wide.2 (each_any _ _)).mono ?_; rintro e w1 ⟨rfl, rfl⟩))
  have hlen := linksB_short f n hn hf
  rw [countB_less n (linksB (f : Int)).length hn hlen]
  obtain ⟨s0, hs0⟩ : ∃ s0, (linksB (f : Int)).length = s0 := ⟨_, rfl⟩
  obtain ⟨W0, hW0⟩ : ∃ W0, (((w'.alloc (.cells #[.int .i64 ((linksB (f : Int)).length : Nat)] 3)).alloc (.cells #[.int .i64 0] 3)).alloc (.cells #[.int .i64 (sumC n (linksB (f : Int)).length : Nat)] 3)).alloc (.cells #[.int .i64 (f : Int)] 3) = W0 := ⟨_, rfl⟩
  have hsz : W0.heap.size = w'.heap.size + 4 := by rw [← hW0]; simp
  have b3 : Boxed W0 w.heap.size 3 (.int .i64 (n : Int)) := by rw [← hW0]; exact (((hx.alloc _).alloc _).alloc _).alloc _
  have b7 : Boxed W0 w'.heap.size 3 (.int .i64 ((linksB (f : Int)).length : Nat)) := by rw [← hW0]; exact (((Boxed.new w' _ _).alloc _).alloc _).alloc _
  have b8 : Boxed W0 (w'.heap.size + 1) 3 (.int .i64 0) := by
    rw [← hW0]; have := Boxed.new (w'.alloc (.cells #[.int .i64 ((linksB (f : Int)).length : Nat)] 3)) 3 (.int .i64 0); rw [World.size_alloc] at this; exact (this.alloc _).alloc _
  have b9 : Boxed W0 (w'.heap.size + 1 + 1) 3 (.int .i64 (sumC n (linksB (f : Int)).length : Nat)) := by
    rw [← hW0]; have := Boxed.new ((w'.alloc (.cells #[.int .i64 ((linksB (f : Int)).length : Nat)] 3)).alloc (.cells #[.int .i64 0] 3)) 3 (.int .i64 (sumC n (linksB (f : Int)).length : Nat)); rw [World.size_alloc, World.size_alloc] at this; exact this.alloc _
  have bE : Boxed W0 (w'.heap.size + 1 + 1 + 1) 3 (.int .i64 (f : Int)) := by
    rw [← hW0]; have := Boxed.new (((w'.alloc (.cells #[.int .i64 ((linksB (f : Int)).length : Nat)] 3)).alloc (.cells #[.int .i64 0] 3)).alloc (.cells #[.int .i64 (sumC n (linksB (f : Int)).length : Nat)] 3)) 3 (.int .i64 (f : Int)); rw [World.size_alloc, World.size_alloc, World.size_alloc] at this; exact this
  have hBW : Below w.heap.size w W0 := by
    rw [← hW0]; exact (((hb.alloc (by omega) _).alloc (by simp; omega) _).alloc (by simp; omega) _).alloc (by simp; omega) _
  rw [hW0]
  refine wpIn_rangeFunc_ownF (α := Fin 16) rfl (by omega) (gf := 37) (lb := #[.pointer (some ⟨w'.heap.size + 1 + 1 + 1, 0, none⟩)]) rfl trivial (enters_of Try.func37 (by kernel_rfl) rfl)
    (each_gives (fun x : Fin 16 => x.val) (fun i h => ⟨i, h⟩) (fun _ _ => rfl) _ (by omega) (w'.heap.size + 1 + 1 + 1) f W0 bE) KeepsBox.trans (keepsBox_b (w := W0)) (Below.refl _ _) (fun _ => rfl)
    (fun pre W => RankAt n (linksB (f : Int)) w.heap.size w'.heap.size pre W ∧ Below w.heap.size w W)
    (fun _ _ _ => False)
    (OwnFrom.and (Own.from (rankAt_own _ _ _ _) _) (ownFrom_below (Nat.le_refl _) (by omega)))
    (fun _ _ _ _ _ hs _ _ => hs)
    ⟨⟨_, _, _, b3, b7, b8, b9, by omega, by omega, fun _ => ⟨rfl, rfl, rfl⟩⟩, hBW⟩
    ?a1 ?assign ?body ?done ?stop
  case assign =>
    intro l x W K hK
    gi_wp2
    exact hK
  case body =>
    rintro l pre x W ⟨hR, hB⟩ hl
    by_cases hgood : (pre ++ [x]).map (fun x : Fin 16 => x.val) <+: linksB (f : Int)
    · obtain ⟨lf, nx, pl, h3, h7, h8, h9, _, _, hst⟩ := hR
      rw [List.map_append] at hgood
      obtain ⟨e1, e2, e3⟩ := hst ((List.prefix_append _ _).trans hgood)
      generalize hpr : pre.map (fun x : Fin 16 => x.val) = P at hgood e1 e2 e3 hst
      simp only [List.map_cons, List.map_nil] at hgood
      have hPl : P.length = pre.length := by rw [← hpr]; simp
      have hris : (P ++ [x.val]).Pairwise (· < ·) := (linksB_rising (f : Int)).sublist hgood.sublist
      have hnx := runR_next n (linksB (f : Int)).length P x.val hris
      have hxn : x.val < n := linksB_below f n hf x.val (hgood.subset (by simp))
      have hleft := runR_left n (linksB (f : Int)).length P
      have hgl := hgood.length_le
      have hpl := runR_place n (linksB (f : Int)).length P hn hla (fun y hy => linksB_lt (f : Int) y (hgood.subset (by simp [hy]))) (by omega)
      simp only [List.length_append, List.length_cons, List.length_nil] at hgl
      obtain ⟨a, ha⟩ : ∃ a, (runR n (linksB (f : Int)).length P).1 = a := ⟨_, rfl⟩
      obtain ⟨b, hb'⟩ : ∃ b, (runR n (linksB (f : Int)).length P).2.1 = b := ⟨_, rfl⟩
      obtain ⟨c, hc'⟩ : ∃ c, (runR n (linksB (f : Int)).length P).2.2 = c := ⟨_, rfl⟩
      have hsn : runR n (linksB (f : Int)).length (P ++ [x.val]) = (a - 1, x.val + 1, c + gapS n (a - 1) b (x.val - b)) := by
        rw [runR_snoc, stepR, ha, hb', hc']
      rw [ha] at e1 hleft
      rw [hb'] at e2 hnx
      rw [hc'] at e3 hpl
      subst e1 e2 e3
      have HS := Lib.hid hsn
      have HPR := Lib.hid hpr
      have HG := Lib.hid hgood
      have hc3 := h3.cell
      have hc7 := h7.cell
      have hc8 := h8.cell
      have hc9 := h9.cell
      have hf7 := h7.frozen
      have hf8 := h8.frozen
      have hf9 := h9.frozen
      have ha1 : 1 ≤ a := by omega
      have ha2 : a ≤ 16 := by omega
      obtain ⟨xv, hxv⟩ : ∃ xv : Nat, x.val = xv := ⟨_, rfl⟩
      rw [hxv] at hnx hxn
      have HXV := Lib.hid hxv
      clear hsn hpr hgood hst ha hb' hc' hris hleft hgl hPl
      gi_wp2
      rw [show ((x.val : Nat) : Int) = (xv : Int) from by rw [hxv]]
      clear hxv
      gi_loopw [11] (fun i wr => ∃ d : Nat, b + d ≤ xv ∧ i = .int .i64 ((b + d : Nat) : Int) ∧ Boxed wr w.heap.size 3 (.int .i64 (n : Int)) ∧ Boxed wr w'.heap.size 3 (.int .i64 (a : Int)) ∧ Boxed wr (w'.heap.size + 1) 3 (.int .i64 (b : Int)) ∧
          Boxed wr (w'.heap.size + 1 + 1) 3 (.int .i64 ((c + gapS n (a - 1) b d : Nat) : Int)) ∧ KeepsOthers W wr ∧ KeepsBox (w'.heap.size + 1 + 1 + 1) W wr ∧ Below w.heap.size w wr)
        (fun i _ => xv - (intOf i).toNat)
      case atStart => exact ⟨0, by omega, rfl, h3, h7, h8, h9, KeepsOthers.refl _, KeepsBox.refl _ _, hB⟩
      case round =>
        obtain ⟨d, hd, rfl, g3, g7, g8, g9, gk, gb, gB⟩ := hrel
        have hgs := gapS_le n (a - 1) b hn (by omega) d
        have hds : d * 12870 ≤ 16 * 12870 := Nat.mul_le_mul_right _ (by omega)
        have hC := chN_le (n - (b + d) - 1) (by omega) (a - 1) (by omega)
        have hmx : Try.prog.follows .mixedOrders = true := by kernel_rfl
        clear hc3 hc7 hc8 hc9 hf7 hf8 hf9
        have hc3 := g3.cell
        have hc7 := g7.cell
        have hc8 := g8.cell
        have hc9 := g9.cell
        have hf7 := g7.frozen
        have hf8 := g8.frozen
        have hf9 := g9.frozen
        by_cases hlt : b + d < xv
        · gi_wp2
          refine round_still_tail 9 hmx (by kernel_rfl) (by kernel_rfl) ?_
          simp only [List.take_succ_cons, List.take_zero, List.drop_succ_cons, List.drop_zero]
          repeat still_step
          still_call (choose_still _ _ (n - (b + d) - 1) (a - 1) (by simp (disch := omega) only [IntWalk.i64_in]; omega) (by simp (disch := omega) only [IntWalk.i64_in]; omega) (by omega) (by omega) _)
          repeat still_step
          refine wpStill_nil ?_
          go_wp2
          refine ⟨rfl, ?_⟩
          gi_wp2
          go_roundw
          case rel =>
            refine ⟨d + 1, by omega, by go_num, ?_, ?_, ?_, ?_, ?_, ?_, ?_⟩
            · exact g3.other (by omega) _
            · exact g7.other (by omega) _
            · exact g8.other (by omega) _
            · have := g9.set (.int .i64 ((c + gapS n (a - 1) b (d + 1) : Nat) : Int))
              refine boxed_drew ?_
              simpa [gapS, Int.add_assoc] using this
            · exact gk.trans ((KeepsOthers.setCell _ _ _).trans (KeepsOthers.drew _))
            · exact gb.trans (keepsBox_set _ (by omega) _)
            · exact (gB.setCell (p := ⟨w'.heap.size + 1 + 1, 0, none⟩) (by dsimp only; omega) _).drew
          case measure => simp [intOf]; omega
        · gi_wp2
          refine ⟨gk.trans ((KeepsOthers.setCell _ _ _).trans (KeepsOthers.setCell _ _ _)), gb.trans ((keepsBox_set _ (by omega) _).trans (keepsBox_set _ (by omega) _)), ?_, (gB.setCell (p := ⟨w'.heap.size, 0, none⟩) (by dsimp only; omega) _).setCell (p := ⟨w'.heap.size + 1, 0, none⟩) (by dsimp only; omega) _⟩
          refine ⟨(a : Int) - 1, (xv : Int) + 1, ((c + gapS n (a - 1) b d : Nat) : Int), (g3.other (by omega) _).other (by omega) _, (g7.set _).other (by omega) _, (g8.other (by omega) _).set _, (g9.other (by omega) _).other (by omega) _, by omega, by omega, fun _ => ?_⟩
          have hx := HXV.out
          have e : (pre ++ [x]).map (fun x : Fin 16 => x.val) = P ++ [x.val] := by rw [List.map_append, HPR.out]; rfl
          rw [e, HS.out, hx]
          obtain rfl : d = xv - b := by omega
          exact ⟨by dsimp only; omega, by dsimp only; omega, rfl⟩
    · obtain ⟨lf, nx, pl, h3, h7, h8, h9, hlf, hnx, _⟩ := hR
      have HG := Lib.hid hgood
      have hc3 := h3.cell
      have hc7 := h7.cell
      have hc8 := h8.cell
      have hc9 := h9.cell
      have hf7 := h7.frozen
      have hf8 := h8.frozen
      have hf9 := h9.frozen
      obtain ⟨xv, hxv⟩ : ∃ xv : Nat, x.val = xv := ⟨_, rfl⟩
      have hx16 : xv < 16 := by omega
      have HXV := Lib.hid hxv
      clear hgood
      gi_wp2
      rw [show ((x.val : Nat) : Int) = (xv : Int) from by rw [hxv]]
      clear hxv
      gi_loopw [11] (fun i wr => ∃ k p : Int, 0 ≤ k ∧ i = .int .i64 k ∧ Boxed wr w.heap.size 3 (.int .i64 (n : Int)) ∧ Boxed wr w'.heap.size 3 (.int .i64 lf) ∧ Boxed wr (w'.heap.size + 1) 3 (.int .i64 nx) ∧
          Boxed wr (w'.heap.size + 1 + 1) 3 (.int .i64 p) ∧ KeepsOthers W wr ∧ KeepsBox (w'.heap.size + 1 + 1 + 1) W wr ∧ Below w.heap.size w wr)
        (fun i _ => ((xv : Int) - intOf i).toNat)
      case atStart => exact ⟨nx, pl, hnx, rfl, h3, h7, h8, h9, KeepsOthers.refl _, KeepsBox.refl _ _, hB⟩
      case round =>
        obtain ⟨k, p, hk0, rfl, g3, g7, g8, g9, gk, gb, gB⟩ := hrel
        have hmx : Try.prog.follows .mixedOrders = true := by kernel_rfl
        clear hc3 hc7 hc8 hc9 hf7 hf8 hf9
        have hc3 := g3.cell
        have hc7 := g7.cell
        have hc8 := g8.cell
        have hc9 := g9.cell
        have hf7 := g7.frozen
        have hf8 := g8.frozen
        have hf9 := g9.frozen
        by_cases hlt : k < (xv : Int)
        · gi_wp2
          refine round_still_tail 9 hmx (by kernel_rfl) (by kernel_rfl) ?_
          simp only [List.take_succ_cons, List.take_zero, List.drop_succ_cons, List.drop_zero]
          repeat still_step
          still_call (choose_some _ _ _ (wrap_le _))
          repeat still_step
          refine wpStill_nil ?_
          go_wp2
          refine ⟨rfl, ?_⟩
          gi_wp2
          go_roundw
          case rel =>
            refine ⟨k + 1, _, by omega, rfl, boxed_drew (g3.other (by omega) _), boxed_drew (g7.other (by omega) _), boxed_drew (g8.other (by omega) _), boxed_drew (g9.set _), ?_, ?_, ?_⟩
            · exact gk.trans ((KeepsOthers.setCell _ _ _).trans (KeepsOthers.drew _))
            · exact gb.trans (keepsBox_set _ (by omega) _)
            · exact (gB.setCell (p := ⟨w'.heap.size + 1 + 1, 0, none⟩) (by dsimp only; omega) _).drew
          case measure => simp [intOf]; omega
        · gi_wp2
          refine ⟨gk.trans ((KeepsOthers.setCell _ _ _).trans (KeepsOthers.setCell _ _ _)), gb.trans ((keepsBox_set _ (by omega) _).trans (keepsBox_set _ (by omega) _)), ?_, (gB.setCell (p := ⟨w'.heap.size, 0, none⟩) (by dsimp only; omega) _).setCell (p := ⟨w'.heap.size + 1, 0, none⟩) (by dsimp only; omega) _⟩
          exact ⟨_, (xv : Int) + 1, p, (g3.other (by omega) _).other (by omega) _, (g7.set _).other (by omega) _, (g8.other (by omega) _).set _, (g9.other (by omega) _).other (by omega) _, wrap_le' _, by omega, fun hh => absurd hh HG.out⟩
  case done =>
    rintro D ys W hD hys ⟨⟨lf, nx, pl, h3, h7, h8, h9, _, _, hst⟩, hB⟩ hK
    obtain ⟨_, _, e3⟩ := hst (by rw [hys]; exact List.prefix_refl _)
    rw [hys] at e3
    have HE := Lib.hid e3
    clear e3 hst hys
    have hc9 := h9.cell
    gi_wp2
    refine ⟨by simp, .inl ⟨_, _, rfl, run_takeDeferred hK, ?_⟩⟩
    exact ⟨_, results_tmp rfl _ _ _, by rw [HE.out]; rfl, hB.trans (belowK_b (w := w) (Nat.le_refl _) W D _ _ (by omega) hK rfl rfl)⟩
  case stop =>
    rintro D c pre W hD _ h _
    exact h.elim

end Go.Proofs.Ytfnjpgkoccefbaa
