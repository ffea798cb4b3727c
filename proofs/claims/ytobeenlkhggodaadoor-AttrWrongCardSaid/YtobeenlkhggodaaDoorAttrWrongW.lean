/-
  AttrWrong: the walk.
-/
import Derived.IntWalk
import Derived.Test.YtobeenlkhggodaaDoorAtR
namespace Go.Proofs.YtobeenlkhggodaaDoor
open Go.RowKit
set_option linter.unusedVariables false
set_option linter.unusedSimpArgs false

theorem wrong_cost {k c : Int} {l : List Int} (h : c = 16 ∨ c = -1) : rtRight ⟨k, c, l⟩ = false := by
  unfold rtRight
  dsimp only
  by_cases h0 : k = 0
  · rw [if_pos h0, decide_eq_false (show ¬ c = 0 by omega)]; rfl
  · rw [if_neg h0]
    by_cases h1 : k = 1
    · rw [if_pos h1]
      rcases h with h | h
      · rw [decide_eq_false (show ¬ c ≤ 15 by omega)]; simp
      · rw [decide_eq_false (show ¬ 0 ≤ c by omega)]; simp
    · rw [if_neg h1]
      by_cases h2 : k = 2
      · rw [if_pos h2, decide_eq_false (show ¬ c = 0 by omega)]; rfl
      · rw [if_neg h2]
theorem wrong_kind {k c : Int} {l : List Int} (h : 3 ≤ k) : rtRight ⟨k, c, l⟩ = false := by
  unfold rtRight
  dsimp only
  rw [if_neg (by omega), if_neg (by omega), if_neg (by omega)]
theorem wrong_path {k c : Int} {l : List Int} (h0 : l ≠ []) (h : pathOk l = false) : rtRight ⟨k, c, l⟩ = false := by
  have hl : decide (l.length = 0) = false := decide_eq_false fun e => h0 (List.eq_nil_of_length_eq_zero e)
  unfold rtRight pathB
  dsimp only
  rw [hl, h]
  simp
theorem pathOk_bad {l : List Int} {x : Int} (hx : x ∈ l) (h : x < 1 ∨ 65535 < x) : pathOk l = false := by
  rw [← Bool.not_eq_true]
  intro hp
  have := pathOk_in hp x hx
  omega
theorem pathOk_twice {l : List Int} {i j : Nat} {x : Int} (hij : i < j) (hi : l[i]? = some x) (hj : l[j]? = some x) : pathOk l = false := by
  rw [← Bool.not_eq_true]
  intro hp
  unfold pathOk at hp
  rw [Bool.and_eq_true, decide_eq_true_eq] at hp
  obtain ⟨li, ei⟩ := List.getElem?_eq_some_iff.1 hi
  obtain ⟨lj, ej⟩ := List.getElem?_eq_some_iff.1 hj
  have := (List.nodup_iff_pairwise_ne.1 hp.2)
  exact (List.pairwise_iff_getElem.1 this i j li lj hij) (ei.trans ej.symm)
/-- A row of the call's own with one number turned. -/
theorem own_turned {w : World} {base n : Nat} {A : Option Addr} {c : Nat} {l : List Int} (h : w.ownsRow base 3 1 (.slice A n c) n (l.map (Value.int .i64))) (k : Nat) (v : Int) (hk : k < n) :
    ∃ g, A = some ⟨g, 0, none⟩ ∧ base ≤ g ∧ w.frozen? ⟨g, k, none⟩ = false ∧ (∀ (j : Nat) (x : Int), l[j]? = some x → w.cell? ⟨g, j, none⟩ = some (.int .i64 x)) ∧ RowAt (w.setCell ⟨g, k, none⟩ (.int .i64 v)) (w.setCell ⟨g, k, none⟩ (.int .i64 v)).heap.size A ((l.set k v).map (Value.int .i64)) := by
  rcases h.2 with ⟨_, h0⟩ | ⟨g, cap, cur, hv, hb, hg, hc, hcm, hsz, htk⟩
  · omega
  · have hA : A = some ⟨g, 0, none⟩ := by injection hv
    have hB : Blk w g 3 cur := hg
    have hl : l.length = n := by have := h.1; simpa using this
    have hcur : ∀ (j : Nat) (x : Int), l[j]? = some x → cur[j]? = some (Value.int .i64 x) := by
      intro j x hx
      have hj : j < n := by rw [← hl]; exact (List.getElem?_eq_some_iff.1 hx).1
      have e := congrArg (fun t : List Value => t[j]?) htk
      simp only [List.getElem?_take, Nat.mul_one, hj, if_true, List.getElem?_map, hx] at e
      simpa using e
    subst hA
    refine ⟨g, rfl, hb, hB.frozen k, fun j x hx => by rw [hB.cell]; exact hcur j x hx, fun _ => ⟨g, rfl, (hB.set_ k _).lt, fun j u hu => ?_⟩⟩
    rw [(hB.set_ k (.int .i64 v)).cell j]
    rw [List.getElem?_map, List.getElem?_set] at hu
    rw [Array.getElem?_setIfInBounds]
    by_cases e : k = j
    · subst e
      rw [if_pos rfl, if_pos (by omega)] at hu
      rw [if_pos rfl, if_pos (by omega)]
      exact hu
    · rw [if_neg e] at hu ⊢
      obtain ⟨y, hy, rfl⟩ := Option.map_eq_some_iff.1 hu
      exact hcur j y hy

set_option maxHeartbeats 8000000 in
set_option maxRecDepth 100000 in
theorem attrWrong_walk (A1 : Option Addr) (c1 : Nat) (l1 : List Int) (hwf1 : ∀ v ∈ l1, InI v) (hm1 : l1.length ≤ 9223372036854775807) (hc1 : l1.length ≤ c1) (hcm1 : c1 ≤ 9223372036854775807) (x1 : Int) (hx1 : InI x1) (x2 : Int) (hx2 : InI x2) (w : World) (hT : PowTab w) (hA1 : CellsAt w w.heap.size A1 (l1.map (Value.int .i64))) :
    Calls Tryd.prog 8 #[.slice A1 l1.length c1, .int .i64 x1, .int .i64 x2] w fun e w' => e = .returned (.bool true) ∧ Below w.heap.size w w' := by
  obtain ⟨a, ha⟩ : ∃ r, rtOf l1 = r := ⟨_, rfl⟩
  have hra := rtOf_right l1
  rw [ha] at hra
  have hla := rt_len hra
  obtain ⟨na, hna⟩ : ∃ n, a.path.length = n := ⟨_, rfl⟩
  rw [hna] at hla
  obtain ⟨m1, hml1⟩ : ∃ n, l1.length = n := ⟨_, rfl⟩
  rw [hml1] at hm1 hc1 ⊢
  have HRa := Lib.hid ha
  have HQa := Lib.hid hra
  have HNa := Lib.hid hna
  have HM1 := Lib.hid hml1
  have HW1 := Lib.hid hwf1
  clear ha hra hna hml1 hwf1
  obtain ⟨q, hq⟩ : ∃ v, pickN x1 6 = v := ⟨_, rfl⟩
  have bq := pickN_in x1 6 (by omega)
  rw [hq] at bq
  obtain ⟨bq0, bq1⟩ := bq
  have HQ := Lib.hid hq
  clear hq
  obtain ⟨p, hp⟩ : ∃ p, a.path = p := ⟨_, rfl⟩
  have hpn : p.length = na := by rw [← hp]; exact HNa.out
  have HPN := Lib.hid hpn
  have HP := Lib.hid hp
  clear hp hpn
  obtain ⟨i0, hi, hz0, hz1, hz2⟩ := info_parts numInfoA
  obtain ⟨mk, hmk⟩ : ∃ v : Int, max (na : Int) 1 = v := ⟨_, rfl⟩
  have bm : 1 ≤ mk ∧ mk ≤ 12 ∧ (1 ≤ na → mk = na) := by
    rw [← hmk]; refine ⟨by omega, by omega, fun h => by omega⟩
  obtain ⟨bm1, bm2, bm3⟩ := bm
  obtain ⟨kk, hkk⟩ : ∃ v, pickN x2 mk = v := ⟨_, rfl⟩
  have bk := pickN_in x2 mk (by omega)
  rw [hkk] at bk
  obtain ⟨bk0, bk1⟩ := bk
  have HKK := Lib.hid hkk
  have HMK := Lib.hid hmk
  clear hkk hmk
  go_enter Tryd.func8, Tryd.ntmps8
  go_upto_region 3 with (first
    | (go_at_call 11; refine (awake6_any _ hT).mono ?_; rintro e w1 ⟨rfl, hb1⟩; have hA1x := hA1.on hb1)
    | (go_at_call 14; (with_reducible refine (Route_is l1 a HRa na m1 HNa HM1 HW1.out hm1 hA1x).mono ?_); rintro e w2 ⟨Aa, ca, rfl, raa, lea, hb2⟩; have Ba := RB.new (c := ca) hb1 hT hb2 raa; obtain ⟨a0, a1, a2⟩ := Ba.cells))
  obtain ⟨W0, hW0⟩ : ∃ W0, W0 = w2.alloc (.cells #[.int .i64 a.kind, .int .i64 a.cost, .slice Aa na ca] 24) := ⟨_, rfl⟩
  rw [← hW0] at Ba a0 a1 a2 ⊢
  have hg0 : w.heap.size ≤ w2.heap.size := by have := hb1.size; have := hb2.size; omega
  have HUP := Lib.hid hW0
  clear hW0
  have f2 := Ba.blk.frozen 2
  go_upto_region 4 with (refine wpList_append_cells _ rfl _ _ 22 rfl W0.heap.size 3 i0 (.int .i64 0) 1 8 Tryd.underlying22 hi hz0 hz1 hz2 rfl (by decide) _ 0 [] rfl (World.ownsRow_nil _ _ _ _) _ Aa na ca (p.map (Value.int .i64)) rfl (by rw [List.length_map, HPN.out, Nat.mul_one]) (by rw [← HP.out]; exact Ba.at_.2.1) (fun u hu => by obtain ⟨y, _, rfl⟩ := List.mem_map.1 hu; rfl) (by omega) (by omega) (Nat.le_refl _) ?_; intro v9 u9 hown9 hgrow8; have hgrow9 : W0.grownBy u9 none := hgrow8; clear hgrow8; rw [Nat.zero_add, List.nil_append] at hown9; obtain ⟨A9, c9, rfl, hc9, hcm9⟩ := own_formB hown9; have hb9 := Ba.blk.grown hgrow9 (by simp); have hu9 := Ba.up.grown hgrow9 Ba.up.size (fun g hg => by cases hg); have s2 := hb9.cell 2; have e2 := hb9.frozen 2)
  have hbox := hb9.set_ 2 (.slice A9 na c9)
  have hown := own_setA hown9 hb9 (by decide) 2 (.slice A9 na c9)
  have hup := hu9.setCell (p := ⟨w2.heap.size, 2, none⟩) hg0 (.slice A9 na c9)
  have hsz9 : W0.heap.size ≤ (u9.setCell ⟨w2.heap.size, 2, none⟩ (.slice A9 na c9)).heap.size := by have := hgrow9.size; simpa [World.setCell] using this
  have hglt : w2.heap.size < W0.heap.size := Ba.blk.lt
  obtain ⟨W1, hW1⟩ : ∃ W1, W1 = u9.setCell ⟨w2.heap.size, 2, none⟩ (.slice A9 na c9) := ⟨_, rfl⟩
  rw [← hW1] at hbox hown hup hsz9 ⊢
  clear hW1 hb9 hown9 hu9 s2 e2 hgrow9 f2 Ba a0 a1 a2
  replace hbox : Blk W1 w2.heap.size 24 #[.int .i64 a.kind, .int .i64 a.cost, .slice A9 na c9] := hbox
  have b0 : W1.cell? ⟨w2.heap.size, 0, none⟩ = some (.int .i64 a.kind) := hbox.cell 0
  have b1 : W1.cell? ⟨w2.heap.size, 1, none⟩ = some (.int .i64 a.cost) := hbox.cell 1
  have b2 : W1.cell? ⟨w2.heap.size, 2, none⟩ = some (.slice A9 na c9) := hbox.cell 2
  have f0 := hbox.frozen 0
  have f1 := hbox.frozen 1
  have f2 := hbox.frozen 2
  have hmx : max (na : Int) 1 = mk := HMK.out
  rcases (show q = 0 ∨ q = 1 ∨ q = 2 ∨ q = 3 ∨ q = 4 ∨ q = 5 by omega) with rfl | rfl | rfl | rfl | rfl | rfl
  · have o1 := own_setA hown hbox (by decide) 1 (.int .i64 16)
    have u1 := hup.setCell (p := ⟨w2.heap.size, 1, none⟩) hg0 (.int .i64 16)
    have r1 : RtAt (W1.setCell ⟨w2.heap.size, 1, none⟩ (.int .i64 16)) ⟨a.kind, 16, p⟩ A9 na := ⟨HPN.out, (RowAt.of_own o1).cells, by omega⟩
    have HF : Hid (rtRight ⟨a.kind, 16, p⟩ = false) := Lib.hid (wrong_cost (by omega))
    go_wp2_with (first
      | (go_at_call 25; (with_reducible refine (pick6_is x2 mk _ hx2 (by omega) (by omega) HKK _).mono ?_); rintro e w3 ⟨rfl, rfl⟩)
      | (go_at_call 25; (with_reducible refine (pick6_is x1 6 _ hx1 (by omega) (by omega) HQ _).mono ?_); rintro e w4 ⟨rfl, rfl⟩)
      | (go_at_call 12; (with_reducible refine (atRight_is ⟨a.kind, 16, p⟩ false HF r1 hc9 hcm9).mono ?_); rintro e y1 ⟨rfl, hy1⟩))
    go_ret
    exact ⟨rfl, below_on u1 hy1⟩
  · have o1 := own_setA hown hbox (by decide) 1 (.int .i64 (-1))
    have u1 := hup.setCell (p := ⟨w2.heap.size, 1, none⟩) hg0 (.int .i64 (-1))
    have r1 : RtAt (W1.setCell ⟨w2.heap.size, 1, none⟩ (.int .i64 (-1))) ⟨a.kind, (-1), p⟩ A9 na := ⟨HPN.out, (RowAt.of_own o1).cells, by omega⟩
    have HF : Hid (rtRight ⟨a.kind, (-1), p⟩ = false) := Lib.hid (wrong_cost (by omega))
    go_wp2_with (first
      | (go_at_call 25; (with_reducible refine (pick6_is x2 mk _ hx2 (by omega) (by omega) HKK _).mono ?_); rintro e w3 ⟨rfl, rfl⟩)
      | (go_at_call 25; (with_reducible refine (pick6_is x1 6 _ hx1 (by omega) (by omega) HQ _).mono ?_); rintro e w4 ⟨rfl, rfl⟩)
      | (go_at_call 12; (with_reducible refine (atRight_is ⟨a.kind, (-1), p⟩ false HF r1 hc9 hcm9).mono ?_); rintro e y1 ⟨rfl, hy1⟩))
    go_ret
    exact ⟨rfl, below_on u1 hy1⟩
  · obtain ⟨v9, hv9⟩ : ∃ v, pickN x2 9 = v := ⟨_, rfl⟩
    have b9 := pickN_in x2 9 (by omega)
    rw [hv9] at b9
    obtain ⟨b90, b91⟩ := b9
    have HV9 := Lib.hid hv9
    have o1 := own_setA hown hbox (by decide) 0 (.int .i64 (3 + v9))
    have u1 := hup.setCell (p := ⟨w2.heap.size, 0, none⟩) hg0 (.int .i64 (3 + v9))
    have r1 : RtAt (W1.setCell ⟨w2.heap.size, 0, none⟩ (.int .i64 (3 + v9))) ⟨3 + v9, a.cost, p⟩ A9 na := ⟨HPN.out, (RowAt.of_own o1).cells, by omega⟩
    have HF : Hid (rtRight ⟨3 + v9, a.cost, p⟩ = false) := Lib.hid (wrong_kind (by omega))
    clear hv9
    go_wp2_with (first
      | (go_at_call 25; (with_reducible refine (pick6_is x2 mk _ hx2 (by omega) (by omega) HKK _).mono ?_); rintro e w3 ⟨rfl, rfl⟩)
      | (go_at_call 25; (with_reducible refine (pick6_is x1 6 _ hx1 (by omega) (by omega) HQ _).mono ?_); rintro e w4 ⟨rfl, rfl⟩)
      | (go_at_call 25; (with_reducible refine (pick6_is x2 9 v9 hx2 (by omega) (by omega) HV9 _).mono ?_); rintro e w5 ⟨rfl, rfl⟩)
      | (go_at_call 12; (with_reducible refine (atRight_is ⟨3 + v9, a.cost, p⟩ false HF r1 hc9 hcm9).mono ?_); rintro e y1 ⟨rfl, hy1⟩))
    go_ret
    exact ⟨rfl, below_on u1 hy1⟩
  · obtain ⟨L, hL⟩ : ∃ L, p ++ [65536] = L := ⟨_, rfl⟩
    have HML : Hid (p.map (Value.int .i64) ++ [.int .i64 65536] = L.map (Value.int .i64)) := Lib.hid (by rw [← hL, List.map_append]; rfl)
    have HLL : Hid (L.length = na + 1) := Lib.hid (by rw [← hL, List.length_append, HPN.out]; rfl)
    have HF : Hid (rtRight ⟨a.kind, a.cost, L⟩ = false) := Lib.hid (wrong_path (by rw [← hL]; simp) (by rw [← hL]; exact pathOk_bad (x := 65536) (by simp) (by omega)))
    clear hL
    go_wp2_with (first
      | (go_at_call 25; (with_reducible refine (pick6_is x2 mk _ hx2 (by omega) (by omega) HKK _).mono ?_); rintro e w3 ⟨rfl, rfl⟩)
      | (go_at_call 25; (with_reducible refine (pick6_is x1 6 _ hx1 (by omega) (by omega) HQ _).mono ?_); rintro e w4 ⟨rfl, rfl⟩)
      | (refine wpList_append_own _ rfl _ _ 22 rfl W0.heap.size 3 i0 (.int .i64 0) 1 8 Tryd.underlying22 hi hz0 hz1 hz2 rfl (by decide) _ _ _ rfl (hown.alloc _) ⟨W1.heap.size, 0, none⟩ 1 1 [.int .i64 65536] rfl rfl (cell_one_new _ _ _) (by simp [Value.oneCell']) (by unfold maxLen; omega) (by omega) (by simp; omega) ?_; intro v' u5 hown5 hgrow5 _; rw [HML.out] at hown5; obtain ⟨A5, c5, rfl, hc5, hcm5⟩ := own_formB hown5; have hb5 := (hbox.alloc (.cells #[.int .i64 65536] 3)).grown hgrow5 (fun e => own_blk_ne hown hbox (by decide) e.symm); have hu5 := (below_on hup (below_new W1 (.cells #[.int .i64 65536] 3))).grown hgrow5 (by have := hup.size; simp; omega) (fun g hg => by have := (hown.lt g hg).1; omega); have s0 := hb5.cell 0; have s1 := hb5.cell 1; have s2 := hb5.cell 2; have e2 := hb5.frozen 2; have o5 := own_setA hown5 hb5 (by decide) 2 (.slice A5 (na + 1) c5); have x5 := hu5.setCell (p := ⟨w2.heap.size, 2, none⟩) hg0 (.slice A5 (na + 1) c5); have r5 : RtAt (u5.setCell ⟨w2.heap.size, 2, none⟩ (.slice A5 (na + 1) c5)) ⟨a.kind, a.cost, L⟩ A5 (na + 1) := ⟨HLL.out, (RowAt.of_own o5).cells, by omega⟩)
      | (go_at_call 12; (with_reducible refine (atRight_is ⟨a.kind, a.cost, L⟩ false HF r5 hc5 hcm5).mono ?_); rintro e y1 ⟨rfl, hy1⟩))
    go_ret
    exact ⟨rfl, below_on x5 hy1⟩
  · obtain ⟨L, hL⟩ : ∃ L, p ++ [0] = L := ⟨_, rfl⟩
    have HML : Hid (p.map (Value.int .i64) ++ [.int .i64 0] = L.map (Value.int .i64)) := Lib.hid (by rw [← hL, List.map_append]; rfl)
    have HLL : Hid (L.length = na + 1) := Lib.hid (by rw [← hL, List.length_append, HPN.out]; rfl)
    have HF : Hid (rtRight ⟨a.kind, a.cost, L⟩ = false) := Lib.hid (wrong_path (by rw [← hL]; simp) (by rw [← hL]; exact pathOk_bad (x := 0) (by simp) (by omega)))
    clear hL
    go_wp2_with (first
      | (go_at_call 25; (with_reducible refine (pick6_is x2 mk _ hx2 (by omega) (by omega) HKK _).mono ?_); rintro e w3 ⟨rfl, rfl⟩)
      | (go_at_call 25; (with_reducible refine (pick6_is x1 6 _ hx1 (by omega) (by omega) HQ _).mono ?_); rintro e w4 ⟨rfl, rfl⟩)
      | (refine wpList_append_own _ rfl _ _ 22 rfl W0.heap.size 3 i0 (.int .i64 0) 1 8 Tryd.underlying22 hi hz0 hz1 hz2 rfl (by decide) _ _ _ rfl (hown.alloc _) ⟨W1.heap.size, 0, none⟩ 1 1 [.int .i64 0] rfl rfl (cell_one_new _ _ _) (by simp [Value.oneCell']) (by unfold maxLen; omega) (by omega) (by simp; omega) ?_; intro v' u5 hown5 hgrow5 _; rw [HML.out] at hown5; obtain ⟨A5, c5, rfl, hc5, hcm5⟩ := own_formB hown5; have hb5 := (hbox.alloc (.cells #[.int .i64 0] 3)).grown hgrow5 (fun e => own_blk_ne hown hbox (by decide) e.symm); have hu5 := (below_on hup (below_new W1 (.cells #[.int .i64 0] 3))).grown hgrow5 (by have := hup.size; simp; omega) (fun g hg => by have := (hown.lt g hg).1; omega); have s0 := hb5.cell 0; have s1 := hb5.cell 1; have s2 := hb5.cell 2; have e2 := hb5.frozen 2; have o5 := own_setA hown5 hb5 (by decide) 2 (.slice A5 (na + 1) c5); have x5 := hu5.setCell (p := ⟨w2.heap.size, 2, none⟩) hg0 (.slice A5 (na + 1) c5); have r5 : RtAt (u5.setCell ⟨w2.heap.size, 2, none⟩ (.slice A5 (na + 1) c5)) ⟨a.kind, a.cost, L⟩ A5 (na + 1) := ⟨HLL.out, (RowAt.of_own o5).cells, by omega⟩)
      | (go_at_call 12; (with_reducible refine (atRight_is ⟨a.kind, a.cost, L⟩ false HF r5 hc5 hcm5).mono ?_); rintro e y1 ⟨rfl, hy1⟩))
    go_ret
    exact ⟨rfl, below_on x5 hy1⟩
  · obtain ⟨L, hL⟩ : ∃ L, p ++ [65535, 65535] = L := ⟨_, rfl⟩
    have HML : Hid (p.map (Value.int .i64) ++ [.int .i64 65535, .int .i64 65535] = L.map (Value.int .i64)) := Lib.hid (by rw [← hL, List.map_append]; rfl)
    have HLL : Hid (L.length = na + 2) := Lib.hid (by rw [← hL, List.length_append, HPN.out]; rfl)
    have hL1 : L[na]? = some 65535 := by rw [← hL, List.getElem?_append_right (by rw [HPN.out]; omega), HPN.out, Nat.sub_self]; rfl
    have hL2 : L[na + 1]? = some 65535 := by rw [← hL, List.getElem?_append_right (by rw [HPN.out]; omega), HPN.out, Nat.add_sub_cancel_left]; rfl
    have HL1 := Lib.hid hL1
    have HL2 := Lib.hid hL2
    clear hL hL1 hL2
    obtain ⟨km, rfl⟩ : ∃ km : Nat, kk = (km : Int) := ⟨kk.toNat, by omega⟩
    by_cases hkn : km < na
    · have hlt : (km : Int) < (na : Int) := by omega
      have HF : Hid (rtRight ⟨a.kind, a.cost, L.set km 65535⟩ = false) := Lib.hid (wrong_path (by intro e; have := congrArg List.length e; rw [List.length_set, HLL.out] at this; simp at this) (pathOk_twice (i := na) (j := na + 1) (x := 65535) (by omega) (by rw [List.getElem?_set, if_neg (by omega)]; exact HL1.out) (by rw [List.getElem?_set, if_neg (by omega)]; exact HL2.out)))
      go_upto_region 8 with (first
        | (go_at_call 25; (with_reducible refine (pick6_is x2 mk _ hx2 (by omega) (by omega) HKK _).mono ?_); rintro e w3 ⟨rfl, rfl⟩)
        | (go_at_call 25; (with_reducible refine (pick6_is x1 6 _ hx1 (by omega) (by omega) HQ _).mono ?_); rintro e w4 ⟨rfl, rfl⟩)
        | (refine wpList_append_own _ rfl _ _ 22 rfl W0.heap.size 3 i0 (.int .i64 0) 1 8 Tryd.underlying22 hi hz0 hz1 hz2 rfl (by decide) _ _ _ rfl (hown.alloc _) ⟨W1.heap.size, 0, none⟩ 2 2 [.int .i64 65535, .int .i64 65535] rfl rfl (cells_new _ _ _) (by simp [Value.oneCell']) (by unfold maxLen; omega) (by omega) (by simp; omega) ?_; intro v' u5 hown5 hgrow5 _; rw [HML.out] at hown5; obtain ⟨A5, c5, rfl, hc5, hcm5⟩ := own_formB hown5; have hb5 := (hbox.alloc (.cells #[.int .i64 65535, .int .i64 65535] 3)).grown hgrow5 (fun e => own_blk_ne hown hbox (by decide) e.symm); have hu5 := (below_on hup (below_new W1 (.cells #[.int .i64 65535, .int .i64 65535] 3))).grown hgrow5 (by have := hup.size; simp; omega) (fun g hg => by have := (hown.lt g hg).1; omega); have s0 := hb5.cell 0; have s1 := hb5.cell 1; have s2 := hb5.cell 2; have e2 := hb5.frozen 2; have o5 := own_setA hown5 hb5 (by decide) 2 (.slice A5 (na + 2) c5); have x5 := hu5.setCell (p := ⟨w2.heap.size, 2, none⟩) hg0 (.slice A5 (na + 2) c5); have r5 : RtAt (u5.setCell ⟨w2.heap.size, 2, none⟩ (.slice A5 (na + 2) c5)) ⟨a.kind, a.cost, L⟩ A5 (na + 2) := ⟨HLL.out, (RowAt.of_own o5).cells, by omega⟩))
      obtain ⟨W5, hW5⟩ : ∃ W, W = u5.setCell ⟨w2.heap.size, 2, none⟩ (.slice A5 (na + 2) c5) := ⟨_, rfl⟩
      have k5 := hb5.set_ 2 (.slice A5 (na + 2) c5)
      rw [← hW5] at o5 x5 k5 ⊢
      replace k5 : Blk W5 w2.heap.size 24 #[.int .i64 a.kind, .int .i64 a.cost, .slice A5 (na + 2) c5] := k5
      clear r5 hW5 s0 s1 s2 e2 b0 b1 b2 f0 f1 f2 hb5 hu5 hgrow5 hown5
      obtain ⟨gA, rfl, hgA, fA, hcA, hrA⟩ := own_turned o5 km 65535 (by omega)
      have c1 := hcA (na + 1) 65535 HL2.out
      obtain ⟨z, hz⟩ : ∃ z, L[km]? = some z := ⟨_, List.getElem?_eq_getElem (by rw [HLL.out]; omega)⟩
      have c2 := hcA km z hz
      have b0 : W5.cell? ⟨w2.heap.size, 0, none⟩ = some (.int .i64 a.kind) := k5.cell 0
      have b1 : W5.cell? ⟨w2.heap.size, 1, none⟩ = some (.int .i64 a.cost) := k5.cell 1
      have b2 : W5.cell? ⟨w2.heap.size, 2, none⟩ = some (.slice (some ⟨gA, 0, none⟩) (na + 2) c5) := k5.cell 2
      have hne : w2.heap.size ≠ gA := by omega
      have hne2 : ¬ gA = w2.heap.size := by omega
      have n1 : ¬ km = na + 1 := by omega
      have n2 : ¬ na + 1 = km := by omega
      have w1 : IntKind.i64.wrap ((na : Int) + 2 - 1) = (na : Int) + 1 := by rw [IntWalk.i64_in _ (by omega)]; omega
      have i0 : (0 : Int) ≤ (na : Int) + 1 := by omega
      have i2 : (0 : Int) ≤ (km : Int) := by omega
      have i3 : (km : Int) < (na : Int) + 2 := by omega
      have i4 : (na : Int) + 1 < (na : Int) + 2 := by omega
      have i1 : ((na : Int) + 1).toNat = na + 1 := by omega
      have x6 := x5.setCell (p := ⟨gA, km, none⟩) (by show w.heap.size ≤ gA; omega) (.int .i64 65535)
      have k6 := k5.far (p := ⟨gA, km, none⟩) hne (.int .i64 65535)
      have r6 : RtAt (W5.setCell ⟨gA, km, none⟩ (.int .i64 65535)) ⟨a.kind, a.cost, L.set km 65535⟩ (some ⟨gA, 0, none⟩) (na + 2) := ⟨by rw [List.length_set, HLL.out], hrA.cells, by omega⟩
      have kf : (W5.setCell ⟨gA, km, none⟩ (.int .i64 65535)).cell? ⟨gA, na + 1, none⟩ = some (.int .i64 65535) := (World.cell?_setCell_other W5 ⟨gA, km, none⟩ ⟨gA, na + 1, none⟩ _ (fun e => by injection e with _ e; omega)).trans c1
      have kfd : (W5.setCell ⟨gA, km, none⟩ (.int .i64 65535)).drew.cell? ⟨gA, na + 1, none⟩ = some (.int .i64 65535) := kf
      clear hcA hrA hz
      go_region_held3 (fun w' => w'.cell? ⟨w2.heap.size, 2, none⟩ = some (.slice (some ⟨gA, 0, none⟩) (na + 2) c5) ∧ w'.cell? ⟨gA, na + 1, none⟩ = some (.int .i64 65535)) (go_keep) (fail)
      obtain ⟨W6, hW6⟩ : ∃ W, W = (W5.setCell ⟨gA, km, none⟩ (.int .i64 65535)).drew := ⟨_, rfl⟩
      have r7 : RtAt W6 ⟨a.kind, a.cost, L.set km 65535⟩ (some ⟨gA, 0, none⟩) (na + 2) := by rw [hW6]; exact r6.on ((Below.refl _ _).drew)
      have k7 : Blk W6 w2.heap.size 24 #[.int .i64 a.kind, .int .i64 a.cost, .slice (some ⟨gA, 0, none⟩) (na + 2) c5] := by rw [hW6]; exact k6.up ((Below.refl _ _).drew)
      have x7 : Below w.heap.size w W6 := by rw [hW6]; exact x6.drew
      rw [← hW6]
      clear hW6 kf kfd c1 c2 fA b0 b1 b2 x6 k6 r6 k5 o5
      have d0 : W6.cell? ⟨w2.heap.size, 0, none⟩ = some (.int .i64 a.kind) := k7.cell 0
      have d1 : W6.cell? ⟨w2.heap.size, 1, none⟩ = some (.int .i64 a.cost) := k7.cell 1
      have d2 : W6.cell? ⟨w2.heap.size, 2, none⟩ = some (.slice (some ⟨gA, 0, none⟩) (na + 2) c5) := k7.cell 2
      go_step
      go_wp2_with (first
        | (go_at_call 12; (with_reducible refine (atRight_is ⟨a.kind, a.cost, L.set km 65535⟩ false HF r7 hc5 hcm5).mono ?_); rintro e y1 ⟨rfl, hy1⟩))
      go_ret
      exact ⟨rfl, below_on x7 hy1⟩
    · have hlt : ¬ (km : Int) < (na : Int) := by omega
      have HF : Hid (rtRight ⟨a.kind, a.cost, L⟩ = false) := Lib.hid (wrong_path (by intro e; have := HLL.out; rw [e] at this; simp at this) (pathOk_twice (i := na) (j := na + 1) (x := 65535) (by omega) HL1.out HL2.out))
      go_wp2_with (first
        | (go_at_call 25; (with_reducible refine (pick6_is x2 mk _ hx2 (by omega) (by omega) HKK _).mono ?_); rintro e w3 ⟨rfl, rfl⟩)
        | (go_at_call 25; (with_reducible refine (pick6_is x1 6 _ hx1 (by omega) (by omega) HQ _).mono ?_); rintro e w4 ⟨rfl, rfl⟩)
        | (refine wpList_append_own _ rfl _ _ 22 rfl W0.heap.size 3 i0 (.int .i64 0) 1 8 Tryd.underlying22 hi hz0 hz1 hz2 rfl (by decide) _ _ _ rfl (hown.alloc _) ⟨W1.heap.size, 0, none⟩ 2 2 [.int .i64 65535, .int .i64 65535] rfl rfl (cells_new _ _ _) (by simp [Value.oneCell']) (by unfold maxLen; omega) (by omega) (by simp; omega) ?_; intro v' u5 hown5 hgrow5 _; rw [HML.out] at hown5; obtain ⟨A5, c5, rfl, hc5, hcm5⟩ := own_formB hown5; have hb5 := (hbox.alloc (.cells #[.int .i64 65535, .int .i64 65535] 3)).grown hgrow5 (fun e => own_blk_ne hown hbox (by decide) e.symm); have hu5 := (below_on hup (below_new W1 (.cells #[.int .i64 65535, .int .i64 65535] 3))).grown hgrow5 (by have := hup.size; simp; omega) (fun g hg => by have := (hown.lt g hg).1; omega); have s0 := hb5.cell 0; have s1 := hb5.cell 1; have s2 := hb5.cell 2; have e2 := hb5.frozen 2; have o5 := own_setA hown5 hb5 (by decide) 2 (.slice A5 (na + 2) c5); have x5 := hu5.setCell (p := ⟨w2.heap.size, 2, none⟩) hg0 (.slice A5 (na + 2) c5); have r5 : RtAt (u5.setCell ⟨w2.heap.size, 2, none⟩ (.slice A5 (na + 2) c5)) ⟨a.kind, a.cost, L⟩ A5 (na + 2) := ⟨HLL.out, (RowAt.of_own o5).cells, by omega⟩)
        | (go_at_call 12; (with_reducible refine (atRight_is ⟨a.kind, a.cost, L⟩ false HF r5 hc5 hcm5).mono ?_); rintro e y1 ⟨rfl, hy1⟩))
      go_ret
      exact ⟨rfl, below_on x5 hy1⟩
end Go.Proofs.YtobeenlkhggodaaDoor
