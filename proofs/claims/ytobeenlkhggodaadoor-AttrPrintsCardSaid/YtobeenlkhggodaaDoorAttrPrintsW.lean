/-
  AttrPrints: the walk.
-/
import Derived.Test.YtobeenlkhggodaaDoorAtQ
namespace Go.Proofs.YtobeenlkhggodaaDoor
open Go.RowKit
set_option linter.unusedVariables false
set_option linter.unusedSimpArgs false

set_option maxHeartbeats 8000000 in
set_option maxRecDepth 100000 in
theorem attrPrints_walk (A1 : Option Addr) (c1 : Nat) (l1 : List Int) (hwf1 : ∀ v ∈ l1, InI v) (hm1 : l1.length ≤ 9223372036854775807) (hc1 : l1.length ≤ c1) (hcm1 : c1 ≤ 9223372036854775807) (A2 : Option Addr) (c2 : Nat) (l2 : List Int) (hwf2 : ∀ v ∈ l2, InI v) (hm2 : l2.length ≤ 9223372036854775807) (hc2 : l2.length ≤ c2) (hcm2 : c2 ≤ 9223372036854775807) (w : World) (hT : PowTab w) (hA1 : CellsAt w w.heap.size A1 (l1.map (Value.int .i64))) (hA2 : CellsAt w w.heap.size A2 (l2.map (Value.int .i64))) :
    Calls Tryd.prog 6 #[.slice A1 l1.length c1, .slice A2 l2.length c2] w fun e w' => e = .returned (.bool true) ∧ Below w.heap.size w w' := by
  obtain ⟨a, ha⟩ : ∃ r, rtOf l1 = r := ⟨_, rfl⟩
  have hra := rtOf_right l1
  rw [ha] at hra
  have hla := rt_len hra
  obtain ⟨na, hna⟩ : ∃ n, a.path.length = n := ⟨_, rfl⟩
  rw [hna] at hla
  obtain ⟨m1, hml1⟩ : ∃ n, l1.length = n := ⟨_, rfl⟩
  rw [hml1] at hm1 hc1 ⊢
  have HRa := Lib.hid ha
  have HQa := Lib.hid hra
  have HNa := Lib.hid hna
  have HM1 := Lib.hid hml1
  have HW1 := Lib.hid hwf1
  clear ha hra hna hml1 hwf1
  obtain ⟨b, hb⟩ : ∃ r, rtOf l2 = r := ⟨_, rfl⟩
  have hrb := rtOf_right l2
  rw [hb] at hrb
  have hlb := rt_len hrb
  obtain ⟨nb, hnb⟩ : ∃ n, b.path.length = n := ⟨_, rfl⟩
  rw [hnb] at hlb
  obtain ⟨m2, hml2⟩ : ∃ n, l2.length = n := ⟨_, rfl⟩
  rw [hml2] at hm2 hc2 ⊢
  have HRb := Lib.hid hb
  have HQb := Lib.hid hrb
  have HNb := Lib.hid hnb
  have HM2 := Lib.hid hml2
  have HW2 := Lib.hid hwf2
  clear hb hrb hnb hml2 hwf2
  obtain ⟨sa, hsa⟩ : ∃ s, rtS a = s := ⟨_, rfl⟩
  obtain ⟨sb, hsb⟩ : ∃ s, rtS b = s := ⟨_, rfl⟩
  obtain ⟨sm, hsm⟩ : ∃ v, rtSame a b = v := ⟨_, rfl⟩
  have hD : (sa = sb ∧ sm = true) ∨ ((sa.toList == sb.toList) = false ∧ sm = false) := by
    have e1 : decide (sa = sb) = sm := by rw [← hsa, ← hsb, rtS_eq, rtText_inj HQa.out HQb.out, hsm]
    by_cases e : sa = sb
    · exact .inl ⟨e, by rw [← e1, decide_eq_true e]⟩
    · exact .inr ⟨str_ne e, by rw [← e1, decide_eq_false e]⟩
  have HSA := Lib.hid hsa
  have HSB := Lib.hid hsb
  have HSM := Lib.hid hsm
  clear hsa hsb hsm
  rcases hD with ⟨rfl, rfl⟩ | ⟨hne, rfl⟩
  all_goals
    go_enter Tryd.func6, Tryd.ntmps6
    go_wp2_with (first
      | (go_at_call 11; refine (awake6_any _ hT).mono ?_; rintro e w1 ⟨rfl, hb1⟩; have hA1x := hA1.on hb1; have hA2x := hA2.on hb1)
      | (go_at_call 14; (with_reducible refine (Route_is l1 a HRa na m1 HNa HM1 HW1.out hm1 hA1x).mono ?_); rintro e w2 ⟨Aa, ca, rfl, raa, lea, hb2⟩; have Ba := RB.new (c := ca) hb1 hT hb2 raa; have hA2x := (hA2x.on hb2).on (below_new _ (.cells #[.int .i64 a.kind, .int .i64 a.cost, .slice Aa na ca] 24)); obtain ⟨a0, a1, a2⟩ := Ba.cells)
      | (go_at_call 14; (with_reducible refine (Route_is l2 b HRb nb m2 HNb HM2 HW2.out hm2 hA2x).mono ?_); rintro e w3 ⟨Ab, cb, rfl, rab, leb, hb3⟩; have Bb := RB.new (c := cb) Ba.up hT hb3 rab; have Ba := (Ba.go hb3).alloc (.cells #[.int .i64 b.kind, .int .i64 b.cost, .slice Ab nb cb] 24); obtain ⟨b0, b1, b2⟩ := Bb.cells; obtain ⟨a0, a1, a2⟩ := Ba.cells)
      | (go_at_call 20; (with_reducible refine (refSame6_is a b _ HSM Ba.at_ Bb.at_).mono ?_); rintro e w4 ⟨rfl, hb4⟩; have Ba := Ba.go hb4; obtain ⟨a0, a1, a2⟩ := Ba.cells; have Bb := Bb.go hb4; obtain ⟨b0, b1, b2⟩ := Bb.cells))
    have Da := Ba.drew
    have Db := Bb.drew
    go_region_held3 (fun w' => w'.cell? ⟨w2.heap.size, 0, none⟩ = some (.int .i64 a.kind) ∧ w'.cell? ⟨w2.heap.size, 1, none⟩ = some (.int .i64 a.cost) ∧ w'.cell? ⟨w2.heap.size, 2, none⟩ = some (.slice Aa na ca) ∧ w'.cell? ⟨w3.heap.size, 0, none⟩ = some (.int .i64 b.kind) ∧ w'.cell? ⟨w3.heap.size, 1, none⟩ = some (.int .i64 b.cost) ∧ w'.cell? ⟨w3.heap.size, 2, none⟩ = some (.slice Ab nb cb)) (go_keep) (first
      | (go_at_call 15; (with_reducible refine (atPrint_is a _ HSA HQa Da.at_ Da.tab).mono ?_); rintro e w5 ⟨rfl, hb5⟩; have Ea := Da.go hb5; have Eb := Db.go hb5; obtain ⟨a0, a1, a2⟩ := Ea.cells; obtain ⟨b0, b1, b2⟩ := Eb.cells)
      | (go_at_call 15; (with_reducible refine (atPrint_is b _ HSB HQb Eb.at_ Eb.tab).mono ?_); rintro e w6 ⟨rfl, hb6⟩; have Fa := Ea.go hb6; have Fb := Eb.go hb6; obtain ⟨a0, a1, a2⟩ := Fa.cells; obtain ⟨b0, b1, b2⟩ := Fb.cells)
      | (go_at_call 19; (with_reducible refine (atSame_is a b _ HSM Fa.at_ Fb.at_).mono ?_); rintro e w7 ⟨rfl, hb7⟩; have Ga := Fa.go hb7; have Gb := Fb.go hb7; obtain ⟨a0, a1, a2⟩ := Ga.cells; obtain ⟨b0, b1, b2⟩ := Gb.cells))
    go_step
    go_wp2
    go_ret
    exact ⟨ret_bool (by first | rfl | simp), Ga.up⟩
end Go.Proofs.YtobeenlkhggodaaDoor
