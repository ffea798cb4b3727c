/-
  AttrFirst: the walk.
-/
import Derived.Test.YtobeenlkhggodaaDoorAtR
namespace Go.Proofs.YtobeenlkhggodaaDoor
open Go.RowKit
set_option linter.unusedVariables false
set_option linter.unusedSimpArgs false

set_option maxHeartbeats 8000000 in
set_option maxRecDepth 100000 in
theorem attrFirst_walk (A1 : Option Addr) (c1 : Nat) (l1 : List Int) (hwf1 : ∀ v ∈ l1, InI v) (hm1 : l1.length ≤ 9223372036854775807) (hc1 : l1.length ≤ c1) (hcm1 : c1 ≤ 9223372036854775807) (x1 : Int) (hx1 : InI x1) (x2 : Int) (hx2 : InI x2) (w : World) (hT : PowTab w) (hA1 : CellsAt w w.heap.size A1 (l1.map (Value.int .i64))) :
    Calls Tryd.prog 10 #[.slice A1 l1.length c1, .int .i64 x1, .int .i64 x2] w fun e w' => e = .returned (.bool true) ∧ Below w.heap.size w w' := by
  obtain ⟨a, ha⟩ : ∃ r, rtOf l1 = r := ⟨_, rfl⟩
  have hra := rtOf_right l1
  rw [ha] at hra
  have hla := rt_len hra
  obtain ⟨na, hna⟩ : ∃ n, a.path.length = n := ⟨_, rfl⟩
  rw [hna] at hla
  obtain ⟨m1, hml1⟩ : ∃ n, l1.length = n := ⟨_, rfl⟩
  rw [hml1] at hm1 hc1 ⊢
  have HRa := Lib.hid ha
  have HQa := Lib.hid hra
  have HNa := Lib.hid hna
  have HM1 := Lib.hid hml1
  have HW1 := Lib.hid hwf1
  clear ha hra hna hml1 hwf1
  obtain ⟨px, hpx⟩ : ∃ v, pickN x1 40000 = v := ⟨_, rfl⟩
  obtain ⟨py, hpy⟩ : ∃ v, pickN x2 40000 = v := ⟨_, rfl⟩
  have bx := pickN_in x1 40000 (by omega)
  have by_ := pickN_in x2 40000 (by omega)
  rw [hpx] at bx
  rw [hpy] at by_
  obtain ⟨bx0, bx1⟩ := bx
  obtain ⟨by0, by1⟩ := by_
  have HPX := Lib.hid hpx
  have HPY := Lib.hid hpy
  clear hpx hpy
  by_cases hk2 : a.kind = 2
  · by_cases hl10 : 10 < na
    · have t2 : (a.kind != 2) = false := by simp [hk2]
      have hl' : (10 : Int) < (na : Int) := by omega
      clear hk2
      go_enter Tryd.func10, Tryd.ntmps10
      go_wp2_with (first
        | (go_at_call 11; refine (awake6_any _ hT).mono ?_; rintro e w1 ⟨rfl, hb1⟩; have hA1x := hA1.on hb1)
        | (go_at_call 14; (with_reducible refine (Route_is l1 a HRa na m1 HNa HM1 HW1.out hm1 hA1x).mono ?_); rintro e w2 ⟨Aa, ca, rfl, raa, lea, hb2⟩; have Ba := RB.new (c := ca) hb1 hT hb2 raa; obtain ⟨a0, a1, a2⟩ := Ba.cells))
      go_ret
      exact ⟨rfl, Ba.up⟩
    · have t2 : (a.kind != 2) = false := by simp [hk2]
      have hl' : ¬ (10 : Int) < (na : Int) := by omega
      obtain ⟨hc0, hpB⟩ := path_of HQa.out hk2
      obtain ⟨p, hp⟩ : ∃ p, a.path = p := ⟨_, rfl⟩
      have hpn : p.length = na := by rw [← hp]; exact HNa.out
      have hea : a = ⟨2, 0, p⟩ := by
        obtain ⟨k, c, l⟩ := a
        dsimp only at hp hc0
        dsimp only at hk2
        subst hp hc0
        rw [hk2]
      rw [hp] at hpB
      obtain ⟨X, hX⟩ : ∃ v, 20000 + px = v := ⟨_, rfl⟩
      obtain ⟨Y, hY⟩ : ∃ v, 20000 + py = v := ⟨_, rfl⟩
      have HX := Lib.hid hX
      have HY := Lib.hid hY
      have HPB := Lib.hid hpB
      have HPN := Lib.hid hpn
      have HEA := Lib.hid hea
      have HP := Lib.hid hp
      have hX0 : 20000 ≤ X ∧ X ≤ 60000 := by omega
      have hY0 : 20000 ≤ Y ∧ Y ≤ 60000 := by omega
      clear hX hY hpB hpn hea hk2 hc0 hp
      go_enter Tryd.func10, Tryd.ntmps10
      go_upto_region 7 with (first
        | (go_at_call 11; refine (awake6_any _ hT).mono ?_; rintro e w1 ⟨rfl, hb1⟩; have hA1x := hA1.on hb1)
        | (go_at_call 14; (with_reducible refine (Route_is l1 a HRa na m1 HNa HM1 HW1.out hm1 hA1x).mono ?_); rintro e w2 ⟨Aa, ca, rfl, raa, lea, hb2⟩; have Ba := RB.new (c := ca) hb1 hT hb2 raa; obtain ⟨a0, a1, a2⟩ := Ba.cells)
        | (go_at_call 25; (with_reducible refine (pick6_is x1 40000 px hx1 (by omega) (by omega) HPX _).mono ?_); rintro e w3 ⟨rfl, rfl⟩)
        | (go_at_call 25; (with_reducible refine (pick6_is x2 40000 py hx2 (by omega) (by omega) HPY _).mono ?_); rintro e w4 ⟨rfl, rfl⟩))
      rw [HX.out, HY.out]
      go_wp2_with fail
      obtain ⟨W0, hW0⟩ : ∃ W0, W0 = w2.alloc (.cells #[.int .i64 a.kind, .int .i64 a.cost, .slice Aa na ca] 24) := ⟨_, rfl⟩
      rw [← hW0] at Ba a0 a1 a2 ⊢
      have HBa := Lib.hid Ba
      clear Ba hW0
      go_loop [11] (fun i => ∃ j : Nat, j ≤ na ∧ i = .int .i64 (j : Nat) ∧ Hid (memI X (p.take j) = false ∧ memI Y (p.take j) = false)) (fun i => na - (intOf i).toNat)
      case atStart => exact ⟨0, Nat.zero_le _, rfl, Lib.hid ⟨by simp [memI], by simp [memI]⟩⟩
      case round =>
        obtain ⟨j, hj, rfl, HM⟩ := hrel
        by_cases hlt : j < na
        · obtain ⟨z, hz⟩ : ∃ z, p[j]? = some z := ⟨_, List.getElem?_eq_getElem (by rw [HPN.out]; exact hlt)⟩
          have hcl := HBa.out.at_.2.1
          rw [HP.out] at hcl
          obtain ⟨ad, rfl, _, cz⟩ := hcl.int hz
          have hlt' : (j : Int) < (na : Int) := by omega
          have hm : ∀ v, memI v (p.take (j + 1)) = (memI v (p.take j) || decide (v = z)) := by
            intro v
            unfold memI
            rw [List.take_add_one, hz]
            simp [List.mem_append, Bool.decide_or]
          have HMX := Lib.hid (hm X)
          have HMY := Lib.hid (hm Y)
          clear hm hz hcl
          by_cases e1 : z = X
          · have t1 : (z == X) = true := by simpa using e1
            clear e1
            go_wp2
            go_ret
            exact ⟨rfl, HBa.out.up⟩
          · have t1 : (z == X) = false := by simpa using e1
            by_cases e2 : z = Y
            · have t3 : (z == Y) = true := by simpa using e2
              clear e1 e2
              go_wp2
              go_ret
              exact ⟨rfl, HBa.out.up⟩
            · have t3 : (z == Y) = false := by simpa using e2
              have HM2 : Hid (memI X (p.take (j + 1)) = false ∧ memI Y (p.take (j + 1)) = false) := Lib.hid ⟨by rw [HMX.out, HM.out.1, decide_eq_false (fun h => e1 h.symm)]; rfl, by rw [HMY.out, HM.out.2, decide_eq_false (fun h => e2 h.symm)]; rfl⟩
              clear e1 e2
              go_wp2
              go_round
              case rel => exact ⟨j + 1, by omega, by go_num, HM2⟩
              case measure => simp [intOf]; omega
        · have hlt' : ¬ (j : Int) < (na : Int) := by omega
          obtain ⟨mx, my⟩ := HM.out
          rw [List.take_of_length_le (by rw [HPN.out]; omega)] at mx my
          have nX : X ∉ p := by unfold memI at mx; simpa using mx
          have nY : Y ∉ p := by unfold memI at my; simpa using my
          obtain ⟨X1, hX1⟩ : ∃ l, X :: p = l := ⟨_, rfl⟩
          obtain ⟨Y1, hY1⟩ : ∃ l, Y :: p = l := ⟨_, rfl⟩
          obtain ⟨X2, hX2⟩ : ∃ l, p ++ [X] = l := ⟨_, rfl⟩
          obtain ⟨Y2, hY2⟩ : ∃ l, p ++ [Y] = l := ⟨_, rfl⟩
          obtain ⟨lt, hlt2⟩ : ∃ b, decide (X < Y) = b := ⟨_, rfl⟩
          have hp12 : p.length < 12 := by rw [HPN.out]; omega
          have G1 : Hid (rtBetter ⟨2, 0, X1⟩ ⟨2, 0, Y1⟩ = lt) := Lib.hid (by rw [← hX1, ← hY1, better_path (by simp), cmpL_cons, hlt2])
          have G2 : Hid (rtBetter ⟨2, 0, X2⟩ ⟨2, 0, Y2⟩ = lt) := Lib.hid (by rw [← hX2, ← hY2, better_path (by simp), cmpL_app, cmpL_cons, hlt2])
          have G3 : Hid (rtBetter a ⟨2, 0, X1⟩ = true) := Lib.hid (by rw [HEA.out, ← hX1]; exact better_short (by simp))
          have G4 : Hid (rtRight ⟨2, 0, X1⟩ = true) := Lib.hid (by rw [right_path, ← hX1]; exact pathB_cons HPB.out hp12 nX (by omega) (by omega))
          have G5 : Hid (rtRight ⟨2, 0, X2⟩ = true) := Lib.hid (by rw [right_path, ← hX2]; exact pathB_app HPB.out hp12 nX (by omega) (by omega))
          have N1 : Hid (X1.length = 1 + na) := Lib.hid (by rw [← hX1, List.length_cons, HPN.out]; omega)
          have N2 : Hid (Y1.length = 1 + na) := Lib.hid (by rw [← hY1, List.length_cons, HPN.out]; omega)
          have N3 : Hid (X2.length = na + 1) := Lib.hid (by rw [← hX2, List.length_append, HPN.out]; rfl)
          have N4 : Hid (Y2.length = na + 1) := Lib.hid (by rw [← hY2, List.length_append, HPN.out]; rfl)
          have M1 : Hid ([Value.int .i64 X] ++ p.map (Value.int .i64) = X1.map (Value.int .i64)) := Lib.hid (by rw [← hX1]; rfl)
          have M2 : Hid ([Value.int .i64 Y] ++ p.map (Value.int .i64) = Y1.map (Value.int .i64)) := Lib.hid (by rw [← hY1]; rfl)
          have M3 : Hid ([] ++ p.map (Value.int .i64) ++ [Value.int .i64 X] = X2.map (Value.int .i64)) := Lib.hid (by rw [← hX2, List.map_append]; rfl)
          have M4 : Hid ([] ++ p.map (Value.int .i64) ++ [Value.int .i64 Y] = Y2.map (Value.int .i64)) := Lib.hid (by rw [← hY2, List.map_append]; rfl)
          clear hX1 hY1 hX2 hY2 mx my nX nY hp12
          obtain ⟨i0, hi, hz0, hz1, hz2⟩ := info_parts numInfoA
          have Ba := HBa.out
          have z2 : ∀ o, (W0.alloc o).cell? ⟨w2.heap.size, 2, none⟩ = some (.slice Aa na ca) := fun o => (Ba.alloc o).cells.2.2
          have z3 : W0.cell? ⟨w2.heap.size, 2, none⟩ = some (.slice Aa na ca) := Ba.cells.2.2
          go_upto_region 13 with (refine wpList_append_cells _ rfl _ _ 22 rfl w.heap.size 3 i0 (.int .i64 0) 1 8 Tryd.underlying22 hi hz0 hz1 hz2 rfl (by decide) _ 1 [.int .i64 X] rfl (own_newA W0 w.heap.size 3 [.int .i64 X] _ rfl Ba.up.size 1 rfl (by omega)) _ Aa na ca (p.map (Value.int .i64)) rfl (by rw [List.length_map, HPN.out, Nat.mul_one]) (by rw [← HP.out]; exact (Ba.at_.box (.cells #[.int .i64 X] 3)).2.1) (fun u hu => by obtain ⟨y, _, rfl⟩ := List.mem_map.1 hu; rfl) (by omega) (by omega) (by have := Ba.up.size; simp; omega) ?_; intro v' u5 hown hgrow; rw [M1.out] at hown; obtain ⟨AX, cX, rfl, hcX, hcX2⟩ := own_formB hown; have hq5 : Below (W0).heap.size (W0) u5 := (below_new (W0) (.cells #[.int .i64 X] 3)).grown hgrow (by simp) (fun g hg => by cases hg; exact Nat.le_refl _); have BX : RB w u5.heap.size ⟨2, 0, X1⟩ AX (1 + na) cX (u5.alloc (.cells #[.int .i64 2, .int .i64 0, .slice AX (1 + na) cX] 24)) := RB.own (below_on Ba.up hq5) hT hown N1.out (by omega))
          obtain ⟨W1, hW1⟩ : ∃ W, W = u5.alloc (.cells #[.int .i64 2, .int .i64 0, .slice AX (1 + na) cX] 24) := ⟨_, rfl⟩
          have Ba := (Ba.go hq5).alloc (.cells #[.int .i64 2, .int .i64 0, .slice AX (1 + na) cX] 24)
          rw [← hW1] at Ba BX ⊢
          clear hW1 z2 z3 hq5 hown
          have z2 : ∀ o, (W1.alloc o).cell? ⟨w2.heap.size, 2, none⟩ = some (.slice Aa na ca) := fun o => (Ba.alloc o).cells.2.2
          have z3 : W1.cell? ⟨w2.heap.size, 2, none⟩ = some (.slice Aa na ca) := Ba.cells.2.2
          go_upto_region 14 with (refine wpList_append_cells _ rfl _ _ 22 rfl w.heap.size 3 i0 (.int .i64 0) 1 8 Tryd.underlying22 hi hz0 hz1 hz2 rfl (by decide) _ 1 [.int .i64 Y] rfl (own_newA W1 w.heap.size 3 [.int .i64 Y] _ rfl Ba.up.size 1 rfl (by omega)) _ Aa na ca (p.map (Value.int .i64)) rfl (by rw [List.length_map, HPN.out, Nat.mul_one]) (by rw [← HP.out]; exact (Ba.at_.box (.cells #[.int .i64 Y] 3)).2.1) (fun u hu => by obtain ⟨y, _, rfl⟩ := List.mem_map.1 hu; rfl) (by omega) (by omega) (by have := Ba.up.size; simp; omega) ?_; intro v' u6 hown hgrow; rw [M2.out] at hown; obtain ⟨AY, cY, rfl, hcY, hcY2⟩ := own_formB hown; have hq6 : Below (W1).heap.size (W1) u6 := (below_new (W1) (.cells #[.int .i64 Y] 3)).grown hgrow (by simp) (fun g hg => by cases hg; exact Nat.le_refl _); have BY : RB w u6.heap.size ⟨2, 0, Y1⟩ AY (1 + na) cY (u6.alloc (.cells #[.int .i64 2, .int .i64 0, .slice AY (1 + na) cY] 24)) := RB.own (below_on Ba.up hq6) hT hown N2.out (by omega))
          obtain ⟨W2, hW2⟩ : ∃ W, W = u6.alloc (.cells #[.int .i64 2, .int .i64 0, .slice AY (1 + na) cY] 24) := ⟨_, rfl⟩
          have Ba := (Ba.go hq6).alloc (.cells #[.int .i64 2, .int .i64 0, .slice AY (1 + na) cY] 24)
          have BX := (BX.go hq6).alloc (.cells #[.int .i64 2, .int .i64 0, .slice AY (1 + na) cY] 24)
          rw [← hW2] at Ba BX BY ⊢
          clear hW2 z2 z3 hq6 hown
          have z2 : ∀ o, (W2.alloc o).cell? ⟨w2.heap.size, 2, none⟩ = some (.slice Aa na ca) := fun o => (Ba.alloc o).cells.2.2
          have z3 : W2.cell? ⟨w2.heap.size, 2, none⟩ = some (.slice Aa na ca) := Ba.cells.2.2
          go_upto_region 15 with (first
            | (refine wpList_append_own _ rfl _ _ 22 rfl W2.heap.size 3 i0 (.int .i64 0) 1 8 Tryd.underlying22 hi hz0 hz1 hz2 rfl (by decide) _ _ _ rfl (hown9.alloc _) ⟨u9.heap.size, 0, none⟩ 1 1 [.int .i64 X] rfl rfl (cell_one_new _ _ _) (by simp [Value.oneCell']) (by unfold maxLen; omega) (by omega) (by simp; omega) ?_; intro v' u7 hown hgrow _; rw [M3.out] at hown; obtain ⟨AP, cP, rfl, hcP, hcP2⟩ := own_formB hown; have hq7 : Below W2.heap.size W2 u7 := (hq9.trans ((below_new u9 (.cells #[.int .i64 X] 3)).mono hz9)).grown hgrow (by simp; omega) (fun g hg => (hown9.lt g hg).1); have BP : RB w u7.heap.size ⟨2, 0, X2⟩ AP (na + 1) cP (u7.alloc (.cells #[.int .i64 2, .int .i64 0, .slice AP (na + 1) cP] 24)) := RB.own (below_on Ba.up hq7) hT hown N3.out (by omega))
            | (refine wpList_append_cells _ rfl _ _ 22 rfl W2.heap.size 3 i0 (.int .i64 0) 1 8 Tryd.underlying22 hi hz0 hz1 hz2 rfl (by decide) _ 0 [] rfl (World.ownsRow_nil _ _ _ _) _ Aa na ca (p.map (Value.int .i64)) rfl (by rw [List.length_map, HPN.out, Nat.mul_one]) (by rw [← HP.out]; exact Ba.at_.2.1) (fun u hu => by obtain ⟨y, _, rfl⟩ := List.mem_map.1 hu; rfl) (by omega) (by omega) (Nat.le_refl _) ?_; intro v9 u9 hown9 hgrow9; rw [Nat.zero_add] at hown9; have hq9 : Below W2.heap.size W2 u9 := (Below.refl _ _).grown hgrow9 (Nat.le_refl _) (fun g hg => by cases hg); have hz9 := hq9.size))
          obtain ⟨W3, hW3⟩ : ∃ W, W = u7.alloc (.cells #[.int .i64 2, .int .i64 0, .slice AP (na + 1) cP] 24) := ⟨_, rfl⟩
          have Ba := (Ba.go hq7).alloc (.cells #[.int .i64 2, .int .i64 0, .slice AP (na + 1) cP] 24)
          have BX := (BX.go hq7).alloc (.cells #[.int .i64 2, .int .i64 0, .slice AP (na + 1) cP] 24)
          have BY := (BY.go hq7).alloc (.cells #[.int .i64 2, .int .i64 0, .slice AP (na + 1) cP] 24)
          rw [← hW3] at Ba BX BY BP ⊢
          clear hW3 z2 z3 hq7 hown
          clear hown9 hgrow9 hgrow hq9 hz9
          have z2 : ∀ o, (W3.alloc o).cell? ⟨w2.heap.size, 2, none⟩ = some (.slice Aa na ca) := fun o => (Ba.alloc o).cells.2.2
          have z3 : W3.cell? ⟨w2.heap.size, 2, none⟩ = some (.slice Aa na ca) := Ba.cells.2.2
          go_upto_region 16 with (first
            | (refine wpList_append_own _ rfl _ _ 22 rfl W3.heap.size 3 i0 (.int .i64 0) 1 8 Tryd.underlying22 hi hz0 hz1 hz2 rfl (by decide) _ _ _ rfl (hown9.alloc _) ⟨u9.heap.size, 0, none⟩ 1 1 [.int .i64 Y] rfl rfl (cell_one_new _ _ _) (by simp [Value.oneCell']) (by unfold maxLen; omega) (by omega) (by simp; omega) ?_; intro v' u8 hown hgrow _; rw [M4.out] at hown; obtain ⟨AQ, cQ, rfl, hcQ, hcQ2⟩ := own_formB hown; have hq8 : Below W3.heap.size W3 u8 := (hq9.trans ((below_new u9 (.cells #[.int .i64 Y] 3)).mono hz9)).grown hgrow (by simp; omega) (fun g hg => (hown9.lt g hg).1); have BQ : RB w u8.heap.size ⟨2, 0, Y2⟩ AQ (na + 1) cQ (u8.alloc (.cells #[.int .i64 2, .int .i64 0, .slice AQ (na + 1) cQ] 24)) := RB.own (below_on Ba.up hq8) hT hown N4.out (by omega))
            | (refine wpList_append_cells _ rfl _ _ 22 rfl W3.heap.size 3 i0 (.int .i64 0) 1 8 Tryd.underlying22 hi hz0 hz1 hz2 rfl (by decide) _ 0 [] rfl (World.ownsRow_nil _ _ _ _) _ Aa na ca (p.map (Value.int .i64)) rfl (by rw [List.length_map, HPN.out, Nat.mul_one]) (by rw [← HP.out]; exact Ba.at_.2.1) (fun u hu => by obtain ⟨y, _, rfl⟩ := List.mem_map.1 hu; rfl) (by omega) (by omega) (Nat.le_refl _) ?_; intro v9 u9 hown9 hgrow9; rw [Nat.zero_add] at hown9; have hq9 : Below W3.heap.size W3 u9 := (Below.refl _ _).grown hgrow9 (Nat.le_refl _) (fun g hg => by cases hg); have hz9 := hq9.size))
          obtain ⟨W4, hW4⟩ : ∃ W, W = u8.alloc (.cells #[.int .i64 2, .int .i64 0, .slice AQ (na + 1) cQ] 24) := ⟨_, rfl⟩
          have Ba := (Ba.go hq8).alloc (.cells #[.int .i64 2, .int .i64 0, .slice AQ (na + 1) cQ] 24)
          have BX := (BX.go hq8).alloc (.cells #[.int .i64 2, .int .i64 0, .slice AQ (na + 1) cQ] 24)
          have BY := (BY.go hq8).alloc (.cells #[.int .i64 2, .int .i64 0, .slice AQ (na + 1) cQ] 24)
          have BP := (BP.go hq8).alloc (.cells #[.int .i64 2, .int .i64 0, .slice AQ (na + 1) cQ] 24)
          rw [← hW4] at Ba BX BY BP BQ ⊢
          clear hW4 z2 z3 hq8 hown
          clear hown9 hgrow9 hgrow hq9 hz9
          obtain ⟨a0, a1, a2⟩ := Ba.cells
          obtain ⟨xx0, xx1, xx2⟩ := BX.cellsK
          obtain ⟨yy0, yy1, yy2⟩ := BY.cellsK
          obtain ⟨pp0, pp1, pp2⟩ := BP.cellsK
          obtain ⟨qq0, qq1, qq2⟩ := BQ.cellsK
          cases lt
          all_goals
            go_wp2_with (first
              | (go_at_call 21; (with_reducible refine (atBetter_is ⟨2, 0, X1⟩ ⟨2, 0, Y1⟩ _ G1 BX.at_ BY.at_).mono ?_); rintro e y1 ⟨rfl, hy1⟩; replace Ba := Ba.go hy1; obtain ⟨a0, a1, a2⟩ := Ba.cells; replace BX := BX.go hy1; obtain ⟨xx0, xx1, xx2⟩ := BX.cellsK; replace BY := BY.go hy1; obtain ⟨yy0, yy1, yy2⟩ := BY.cellsK; replace BP := BP.go hy1; obtain ⟨pp0, pp1, pp2⟩ := BP.cellsK; replace BQ := BQ.go hy1; obtain ⟨qq0, qq1, qq2⟩ := BQ.cellsK)
              | (go_at_call 21; (with_reducible refine (atBetter_is ⟨2, 0, X2⟩ ⟨2, 0, Y2⟩ _ G2 BP.at_ BQ.at_).mono ?_); rintro e y2 ⟨rfl, hy2⟩; replace Ba := Ba.go hy2; obtain ⟨a0, a1, a2⟩ := Ba.cells; replace BX := BX.go hy2; obtain ⟨xx0, xx1, xx2⟩ := BX.cellsK; replace BY := BY.go hy2; obtain ⟨yy0, yy1, yy2⟩ := BY.cellsK; replace BP := BP.go hy2; obtain ⟨pp0, pp1, pp2⟩ := BP.cellsK; replace BQ := BQ.go hy2; obtain ⟨qq0, qq1, qq2⟩ := BQ.cellsK)
              | (go_at_call 21; (with_reducible refine (atBetter_is a ⟨2, 0, X1⟩ true G3 Ba.at_ BX.at_).mono ?_); rintro e y3 ⟨rfl, hy3⟩; replace Ba := Ba.go hy3; obtain ⟨a0, a1, a2⟩ := Ba.cells; replace BX := BX.go hy3; obtain ⟨xx0, xx1, xx2⟩ := BX.cellsK; replace BY := BY.go hy3; obtain ⟨yy0, yy1, yy2⟩ := BY.cellsK; replace BP := BP.go hy3; obtain ⟨pp0, pp1, pp2⟩ := BP.cellsK; replace BQ := BQ.go hy3; obtain ⟨qq0, qq1, qq2⟩ := BQ.cellsK)
              | (go_at_call 12; (with_reducible refine (atRight_is ⟨2, 0, X1⟩ true G4 BX.at_ hcX hcX2).mono ?_); rintro e y4 ⟨rfl, hy4⟩; replace Ba := Ba.go hy4; obtain ⟨a0, a1, a2⟩ := Ba.cells; replace BX := BX.go hy4; obtain ⟨xx0, xx1, xx2⟩ := BX.cellsK; replace BY := BY.go hy4; obtain ⟨yy0, yy1, yy2⟩ := BY.cellsK; replace BP := BP.go hy4; obtain ⟨pp0, pp1, pp2⟩ := BP.cellsK; replace BQ := BQ.go hy4; obtain ⟨qq0, qq1, qq2⟩ := BQ.cellsK)
              | (go_at_call 12; (with_reducible refine (atRight_is ⟨2, 0, X2⟩ true G5 BP.at_ hcP hcP2).mono ?_); rintro e y5 ⟨rfl, hy5⟩; replace Ba := Ba.go hy5; obtain ⟨a0, a1, a2⟩ := Ba.cells; replace BX := BX.go hy5; obtain ⟨xx0, xx1, xx2⟩ := BX.cellsK; replace BY := BY.go hy5; obtain ⟨yy0, yy1, yy2⟩ := BY.cellsK; replace BP := BP.go hy5; obtain ⟨pp0, pp1, pp2⟩ := BP.cellsK; replace BQ := BQ.go hy5; obtain ⟨qq0, qq1, qq2⟩ := BQ.cellsK))
            go_ret
            exact ⟨ret_bool (by first | rfl | simp), Ba.up⟩
  · have t2 : (a.kind != 2) = true := by simp [hk2]
    clear hk2
    go_enter Tryd.func10, Tryd.ntmps10
    go_wp2_with (first
      | (go_at_call 11; refine (awake6_any _ hT).mono ?_; rintro e w1 ⟨rfl, hb1⟩; have hA1x := hA1.on hb1)
      | (go_at_call 14; (with_reducible refine (Route_is l1 a HRa na m1 HNa HM1 HW1.out hm1 hA1x).mono ?_); rintro e w2 ⟨Aa, ca, rfl, raa, lea, hb2⟩; have Ba := RB.new (c := ca) hb1 hT hb2 raa; obtain ⟨a0, a1, a2⟩ := Ba.cells))
    go_ret
    exact ⟨rfl, Ba.up⟩
end Go.Proofs.YtobeenlkhggodaaDoor
