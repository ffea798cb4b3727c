/-
  AttrTells: the walk.
-/
import Derived.Test.YtobeenlkhggodaaDoorAttrTellsS
namespace Go.Proofs.YtobeenlkhggodaaDoor
open Go.RowKit
set_option linter.unusedVariables false
set_option linter.unusedSimpArgs false

theorem tells_first {w W w4 : World} (r : Rt) (A0 A4 : Option Addr) (n0 c0 c4 : Nat) (hr0 : r.path.length = n0) (hc0 : n0 ≤ c0) (hc1 : c0 ≤ 9223372036854775807) (hrr : rtRight r = true) (hA0 : CellsAt w w.heap.size A0 (r.path.map (Value.int .i64))) (hb : Below w.heap.size w W) (ho : w4.ownsRow w.heap.size 24 3 (.slice A4 (0 + 1) c4) (0 + 1) ([] ++ [.int .i64 r.kind, .int .i64 r.cost, .slice A0 n0 c0])) (hg : W.grownBy w4 (Value.slice none 0 0).ownBlock) :
    TOwn w.heap.size w4 A4 1 c4 ([] ++ [r]) ∧ Below w.heap.size w w4 := by
  subst hr0
  refine ⟨TOwn.next (hs := []) (l := []) (n := 0) (c := 0) rfl rfl (World.ownsRow_nil W _ _ _) (fun r h => by cases h) hb.size (fun i r h e => by simp at e) (fun i r h e => by simp at e) (.inr (hA0.keep fun p hp => hb.cell hp)) ⟨hc0, hc1⟩ hrr ho hg, hb.grown hg hb.size (fun g hg => by cases hg)⟩

set_option maxHeartbeats 8000000 in
set_option maxRecDepth 100000 in
theorem attrTells_walk (r : Rt) (A0 : Option Addr) (n0 c0 : Nat) (hr0 : r.path.length = n0) (hc0 : n0 ≤ c0) (hc1 : c0 ≤ 9223372036854775807) (A1 : Option Addr) (c1 : Nat) (L1 : List (List Int)) (hz1 : ∀ l ∈ L1, (∀ v ∈ l, InI v) ∧ l.length ≤ 9223372036854775807) (hm1 : L1.length ≤ 9223372036854775807) (w : World) (hT : PowTab w) (hA0 : CellsAt w w.heap.size A0 (r.path.map (Value.int .i64))) (hA1 : LsAt w A1 L1) :
    Calls Tryd.prog 3 #[.agg #[.int .i64 r.kind, .int .i64 r.cost, .slice A0 n0 c0], .slice A1 L1.length c1] w fun e w' => e = .returned (.bool true) ∧ Below w.heap.size w w' := by
  obtain ⟨N, hN⟩ : ∃ n, L1.length = n := ⟨_, rfl⟩
  rw [hN] at hm1 ⊢
  have HNN := Lib.hid hN
  have HZ := Lib.hid hz1
  have HA := Lib.hid hA1
  have HA0 := Lib.hid hA0
  have HR0 := Lib.hid hr0
  have hra : RtAt w r A0 n0 := ⟨hr0, hA0, by omega⟩
  obtain ⟨v, hv⟩ : ∃ v, rtRight r = v := ⟨_, rfl⟩
  have HV := Lib.hid hv
  have B0 : RB w w.heap.size r A0 n0 c0 (w.alloc (.cells #[.int .i64 r.kind, .int .i64 r.cost, .slice A0 n0 c0] 24)) := RB.new (c := c0) (Below.refl _ _) hT (Below.refl _ _) hra
  clear hN hz1 hA1 hA0 hr0 hra hv
  obtain ⟨i0, hi, hz0, hz1, hz2⟩ := info_parts rtInfo
  obtain ⟨a0, a1, a2⟩ := B0.cells
  go_enter Tryd.func3, Tryd.ntmps3
  go_upto_region 2 with (go_at_call 11; refine (awake6_any _ B0.tab).mono ?_; rintro e w1 ⟨rfl, hb1⟩; have B1 := B0.go hb1; obtain ⟨a0, a1, a2⟩ := B1.cells)
  obtain ⟨a0, a1, a2⟩ := B1.cells
  have E1 := B1.drew
  go_region_held3 (fun w' => w'.cell? ⟨w.heap.size, 0, none⟩ = some (.int .i64 r.kind) ∧ w'.cell? ⟨w.heap.size, 1, none⟩ = some (.int .i64 r.cost) ∧ w'.cell? ⟨w.heap.size, 2, none⟩ = some (.slice A0 n0 c0)) (go_keep) (first
    | (go_at_call 12; (with_reducible refine (RB.right E1 v HV hc0 hc1).mono ?_); rintro e y1 ⟨rfl, hy1⟩; replace E1 := E1.go hy1; obtain ⟨a0, a1, a2⟩ := E1.cells)
    | (go_at_call 13; (with_reducible refine (refRight6_is r v HV E1.at_).mono ?_); rintro e y2 ⟨rfl, hy2⟩; replace E1 := E1.go hy2; obtain ⟨a0, a1, a2⟩ := E1.cells))
  go_step
  clear B0 B1
  have HUP := E1.up
  obtain ⟨E2, hE2⟩ : ∃ x : RB w w.heap.size r A0 n0 c0 y2, True := ⟨E1, trivial⟩
  cases v
  · repeat (first
      | exact tells_loop w _ [] none 0 0 (TOwn.nil _ _ hu.size) (by omega) A1 c1 L1 HZ.out N HNN.out hm1 hu hT HA.out _ _ _ _ _ _ _ _ _ _ _ _ _ _ _ _ _ _ _ _ _ _ _ _ _ _ _ _ _ _ _ _ _ _ _ _ _ _ _ _ _ _ _ _ _ _ _ _ _ _ _ _ _ _ _ _ _ _ _ _ _ _ _ _ _ _ _ _ _ _ _ _ _ _ _ _ _ _ _ _ _ _ _ _ _ _ _ _ _ _ _ _ _ _ _ _ _ _ _ _
      | (go_at_call 13; (with_reducible refine (refRight6_is r false HV E2.at_).mono ?_); rintro e y3 ⟨rfl, hy3⟩; have hu := below_on HUP hy3; dsimp only)
      | go_values | go_skip | go_guarded | go_step | go_upon)
    done
  · go_upto_region 6 with (go_at_call 13; (with_reducible refine (refRight6_is r true HV E2.at_).mono ?_); rintro e y3 ⟨rfl, hy3⟩; have E3 := E2.go hy3; obtain ⟨a0, a1, a2⟩ := E3.cells; have hu := below_on HUP hy3)
    repeat (first
      | exact tells_loop w _ ([] ++ [r]) _ 1 _ hnext (by omega) A1 c1 L1 HZ.out N HNN.out hm1 hb4 hT HA.out _ _ _ _ _ _ _ _ _ _ _ _ _ _ _ _ _ _ _ _ _ _ _ _ _ _ _ _ _ _ _ _ _ _ _ _ _ _ _ _ _ _ _ _ _ _ _ _ _ _ _ _ _ _ _ _ _ _ _ _ _ _ _ _ _ _ _ _ _ _ _ _ _ _ _ _ _ _ _ _ _ _ _ _ _ _ _ _ _ _ _ _ _ _ _ _ _ _ _ _
      | (refine wpList_append_own _ rfl _ _ 28 rfl w.heap.size 24 i0 (.agg #[.int .i64 0, .int .i64 0, .slice none 0 0]) 3 40 Tryd.underlying28 hi hz0 hz1 hz2 rfl (by decide) _ 0 [] rfl (World.ownsRow_nil _ _ _ _) ⟨y3.heap.size, 0, none⟩ 1 1 [.int .i64 r.kind, .int .i64 r.cost, .slice A0 n0 c0] rfl rfl (cells_new _ _ _) (by simp [Value.oneCell']) (by unfold maxLen; omega) (by omega) (by have := hu.size; simp; omega) ?_; intro v' w4 hown4 hgrow4 _; obtain ⟨A4, c4, rfl, hc4⟩ := own_formA hown4; obtain ⟨hnext, hb4⟩ := tells_first r A0 A4 n0 c0 c4 HR0.out hc0 hc1 HV.out HA0.out (below_on hu (below_new _ _)) hown4 hgrow4)
      | go_values | go_skip | go_guarded | go_step | go_upon)
    done
end Go.Proofs.YtobeenlkhggodaaDoor
