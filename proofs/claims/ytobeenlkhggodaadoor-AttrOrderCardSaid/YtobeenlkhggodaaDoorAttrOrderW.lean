/-
  AttrOrder: the walk.
-/
import Derived.Test.YtobeenlkhggodaaDoorAtQ
namespace Go.Proofs.YtobeenlkhggodaaDoor
open Go.RowKit
set_option linter.unusedVariables false
set_option linter.unusedSimpArgs false

theorem ord_cases : ∀ ab ba sm bc ac : Bool, (ab || ba) = !sm → (ab = true → ba = false) → (ab = true → bc = true → ac = true) → (ab = true ∧ ba = false ∧ sm = false ∧ bc = false) ∨ (ab = true ∧ ba = false ∧ sm = false ∧ bc = true ∧ ac = true) ∨ (ab = false ∧ ba = true ∧ sm = false) ∨ (ab = false ∧ ba = false ∧ sm = true) := by
  intro ab ba sm bc ac
  cases ab <;> cases ba <;> cases sm <;> cases bc <;> cases ac <;> simp
set_option maxHeartbeats 8000000 in
set_option maxRecDepth 100000 in
theorem attrOrder_walk (A1 : Option Addr) (c1 : Nat) (l1 : List Int) (hwf1 : ∀ v ∈ l1, InI v) (hm1 : l1.length ≤ 9223372036854775807) (hc1 : l1.length ≤ c1) (hcm1 : c1 ≤ 9223372036854775807) (A2 : Option Addr) (c2 : Nat) (l2 : List Int) (hwf2 : ∀ v ∈ l2, InI v) (hm2 : l2.length ≤ 9223372036854775807) (hc2 : l2.length ≤ c2) (hcm2 : c2 ≤ 9223372036854775807) (A3 : Option Addr) (c3 : Nat) (l3 : List Int) (hwf3 : ∀ v ∈ l3, InI v) (hm3 : l3.length ≤ 9223372036854775807) (hc3 : l3.length ≤ c3) (hcm3 : c3 ≤ 9223372036854775807) (w : World) (hT : PowTab w) (hA1 : CellsAt w w.heap.size A1 (l1.map (Value.int .i64))) (hA2 : CellsAt w w.heap.size A2 (l2.map (Value.int .i64))) (hA3 : CellsAt w w.heap.size A3 (l3.map (Value.int .i64))) :
    Calls Tryd.prog 4 #[.slice A1 l1.length c1, .slice A2 l2.length c2, .slice A3 l3.length c3] w fun e w' => e = .returned (.bool true) ∧ Below w.heap.size w w' := by
  obtain ⟨a, ha⟩ : ∃ r, rtOf l1 = r := ⟨_, rfl⟩
  have hra := rtOf_right l1
  rw [ha] at hra
  have hla := rt_len hra
  obtain ⟨na, hna⟩ : ∃ n, a.path.length = n := ⟨_, rfl⟩
  rw [hna] at hla
  obtain ⟨m1, hml1⟩ : ∃ n, l1.length = n := ⟨_, rfl⟩
  rw [hml1] at hm1 hc1 ⊢
  have HRa := Lib.hid ha
  have HQa := Lib.hid hra
  have HNa := Lib.hid hna
  have HM1 := Lib.hid hml1
  have HW1 := Lib.hid hwf1
  clear ha hra hna hml1 hwf1
  obtain ⟨b, hb⟩ : ∃ r, rtOf l2 = r := ⟨_, rfl⟩
  have hrb := rtOf_right l2
  rw [hb] at hrb
  have hlb := rt_len hrb
  obtain ⟨nb, hnb⟩ : ∃ n, b.path.length = n := ⟨_, rfl⟩
  rw [hnb] at hlb
  obtain ⟨m2, hml2⟩ : ∃ n, l2.length = n := ⟨_, rfl⟩
  rw [hml2] at hm2 hc2 ⊢
  have HRb := Lib.hid hb
  have HQb := Lib.hid hrb
  have HNb := Lib.hid hnb
  have HM2 := Lib.hid hml2
  have HW2 := Lib.hid hwf2
  clear hb hrb hnb hml2 hwf2
  obtain ⟨c, hc⟩ : ∃ r, rtOf l3 = r := ⟨_, rfl⟩
  have hrc := rtOf_right l3
  rw [hc] at hrc
  have hlc := rt_len hrc
  obtain ⟨nc, hnc⟩ : ∃ n, c.path.length = n := ⟨_, rfl⟩
  rw [hnc] at hlc
  obtain ⟨m3, hml3⟩ : ∃ n, l3.length = n := ⟨_, rfl⟩
  rw [hml3] at hm3 hc3 ⊢
  have HRc := Lib.hid hc
  have HQc := Lib.hid hrc
  have HNc := Lib.hid hnc
  have HM3 := Lib.hid hml3
  have HW3 := Lib.hid hwf3
  clear hc hrc hnc hml3 hwf3
  obtain ⟨ab, hab⟩ : ∃ v, rtBetter a b = v := ⟨_, rfl⟩
  obtain ⟨ba, hba⟩ : ∃ v, rtBetter b a = v := ⟨_, rfl⟩
  obtain ⟨bc, hbc⟩ : ∃ v, rtBetter b c = v := ⟨_, rfl⟩
  obtain ⟨ac, hac⟩ : ∃ v, rtBetter a c = v := ⟨_, rfl⟩
  obtain ⟨sm, hsm⟩ : ∃ v, rtSame a b = v := ⟨_, rfl⟩
  have hD : (ab = true ∧ ba = false ∧ sm = false ∧ bc = false) ∨ (ab = true ∧ ba = false ∧ sm = false ∧ bc = true ∧ ac = true) ∨ (ab = false ∧ ba = true ∧ sm = false) ∨ (ab = false ∧ ba = false ∧ sm = true) := by
    have e1 : (ab || ba) = !sm := by rw [← hab, ← hba, ← hsm]; exact better_same HQa.out HQb.out
    have e2 : ab = true → ba = false := fun h => by rw [← hba]; rw [← hab] at h; exact better_asym h
    have e3 : ab = true → bc = true → ac = true := fun h1 h2 => by rw [← hac]; rw [← hab] at h1; rw [← hbc] at h2; exact better_trans h1 h2
    exact ord_cases ab ba sm bc ac e1 e2 e3
  have HAB := Lib.hid hab
  have HBA := Lib.hid hba
  have HBC := Lib.hid hbc
  have HAC := Lib.hid hac
  have HSM := Lib.hid hsm
  have HAA := Lib.hid (better_irrefl a)
  clear hab hba hbc hac hsm
  rcases hD with ⟨rfl, rfl, rfl, rfl⟩ | ⟨rfl, rfl, rfl, rfl, rfl⟩ | ⟨rfl, rfl, rfl⟩ | ⟨rfl, rfl, rfl⟩
  all_goals
    go_enter Tryd.func4, Tryd.ntmps4
    go_wp2_with (first
      | (go_at_call 11; refine (awake6_any _ hT).mono ?_; rintro e w1 ⟨rfl, hb1⟩; have hA1x := hA1.on hb1; have hA2x := hA2.on hb1; have hA3x := hA3.on hb1)
      | (go_at_call 14; (with_reducible refine (Route_is l1 a HRa na m1 HNa HM1 HW1.out hm1 hA1x).mono ?_); rintro e w2 ⟨Aa, ca, rfl, raa, lea, hb2⟩; have Ba := RB.new (c := ca) hb1 hT hb2 raa; have hA2x := (hA2x.on hb2).on (below_new _ (.cells #[.int .i64 a.kind, .int .i64 a.cost, .slice Aa na ca] 24)); have hA3x := (hA3x.on hb2).on (below_new _ (.cells #[.int .i64 a.kind, .int .i64 a.cost, .slice Aa na ca] 24)); obtain ⟨a0, a1, a2⟩ := Ba.cells)
      | (go_at_call 14; (with_reducible refine (Route_is l2 b HRb nb m2 HNb HM2 HW2.out hm2 hA2x).mono ?_); rintro e w3 ⟨Ab, cb, rfl, rab, leb, hb3⟩; have Bb := RB.new (c := cb) Ba.up hT hb3 rab; have Ba := (Ba.go hb3).alloc (.cells #[.int .i64 b.kind, .int .i64 b.cost, .slice Ab nb cb] 24); have hA3x := (hA3x.on hb3).on (below_new _ (.cells #[.int .i64 b.kind, .int .i64 b.cost, .slice Ab nb cb] 24)); obtain ⟨b0, b1, b2⟩ := Bb.cells; obtain ⟨a0, a1, a2⟩ := Ba.cells)
      | (go_at_call 14; (with_reducible refine (Route_is l3 c HRc nc m3 HNc HM3 HW3.out hm3 hA3x).mono ?_); rintro e w4 ⟨Ac, cc, rfl, rac, lec, hb4⟩; have Bc := RB.new (c := cc) Bb.up hT hb4 rac; have Ba := (Ba.go hb4).alloc (.cells #[.int .i64 c.kind, .int .i64 c.cost, .slice Ac nc cc] 24); have Bb := (Bb.go hb4).alloc (.cells #[.int .i64 c.kind, .int .i64 c.cost, .slice Ac nc cc] 24); obtain ⟨c0, c1, c2⟩ := Bc.cells; obtain ⟨a0, a1, a2⟩ := Ba.cells; obtain ⟨b0, b1, b2⟩ := Bb.cells)
      | (go_at_call 21; (with_reducible refine (atBetter_is a b _ HAB Ba.at_ Bb.at_).mono ?_); rintro e w5 ⟨rfl, hb5⟩; have Ba := Ba.go hb5; obtain ⟨a0, a1, a2⟩ := Ba.cells; have Bb := Bb.go hb5; obtain ⟨b0, b1, b2⟩ := Bb.cells; have Bc := Bc.go hb5; obtain ⟨c0, c1, c2⟩ := Bc.cells)
      | (go_at_call 21; (with_reducible refine (atBetter_is b a _ HBA Bb.at_ Ba.at_).mono ?_); rintro e w6 ⟨rfl, hb6⟩; have Ba := Ba.go hb6; obtain ⟨a0, a1, a2⟩ := Ba.cells; have Bb := Bb.go hb6; obtain ⟨b0, b1, b2⟩ := Bb.cells; have Bc := Bc.go hb6; obtain ⟨c0, c1, c2⟩ := Bc.cells)
      | (go_at_call 21; (with_reducible refine (atBetter_is b c _ HBC Bb.at_ Bc.at_).mono ?_); rintro e w7 ⟨rfl, hb7⟩; have Ba := Ba.go hb7; obtain ⟨a0, a1, a2⟩ := Ba.cells; have Bb := Bb.go hb7; obtain ⟨b0, b1, b2⟩ := Bb.cells; have Bc := Bc.go hb7; obtain ⟨c0, c1, c2⟩ := Bc.cells)
      | (go_at_call 21; (with_reducible refine (atBetter_is a c _ HAC Ba.at_ Bc.at_).mono ?_); rintro e w9 ⟨rfl, hb9⟩; have Ba := Ba.go hb9; obtain ⟨a0, a1, a2⟩ := Ba.cells; have Bb := Bb.go hb9; obtain ⟨b0, b1, b2⟩ := Bb.cells; have Bc := Bc.go hb9; obtain ⟨c0, c1, c2⟩ := Bc.cells)
      | (go_at_call 21; (with_reducible refine (atBetter_is a a false HAA Ba.at_ Ba.at_).mono ?_); rintro e w10 ⟨rfl, hb10⟩; have Ba := Ba.go hb10; obtain ⟨a0, a1, a2⟩ := Ba.cells; have Bb := Bb.go hb10; obtain ⟨b0, b1, b2⟩ := Bb.cells; have Bc := Bc.go hb10; obtain ⟨c0, c1, c2⟩ := Bc.cells)
      | (go_at_call 20; (with_reducible refine (refSame6_is a b _ HSM Ba.at_ Bb.at_).mono ?_); rintro e w8 ⟨rfl, hb8⟩; have Ba := Ba.go hb8; obtain ⟨a0, a1, a2⟩ := Ba.cells; have Bb := Bb.go hb8; obtain ⟨b0, b1, b2⟩ := Bb.cells; have Bc := Bc.go hb8; obtain ⟨c0, c1, c2⟩ := Bc.cells))
    go_ret
    exact ⟨rfl, Ba.up⟩
end Go.Proofs.YtobeenlkhggodaaDoor
