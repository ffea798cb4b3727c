/-
  Package plan: Same.
-/
import Derived.Test.YtdmilbfdiebjgaaDoorPlG
import Derived.Test.YtdmilbfdiebjgaaDoorPlJ
namespace Go.Proofs.YtdmilbfdiebjgaaDoor
open Go.RowKit

section
variable {n1 n2 c d : Nat} {A M : Option Addr} {w : World}
theorem EqualNodes_is {l m : List PNode} (r : Bool) (H : Hid (eqF nodeEq l m = r)) (hl : Hid (l.length = n1)) (hm : Hid (m.length = n2)) (b1 : n1 ≤ 4096) (b2 : n2 ≤ 4096) (hA : RowAt w w.heap.size A (l.flatMap nodeC)) (hM : RowAt w w.heap.size M (m.flatMap nodeC)) :
    Calls Tryd.prog 36 #[.slice A n1 c, .slice M n2 d] w fun e w' => e = .returned (.bool r) ∧ Below w.heap.size w w' :=
  (EqualNodes_any l m A M n1 n2 c d w hl hm b1 b2 hA hM).mono fun _ _ ⟨he, hw⟩ => ⟨by rw [he, H.out], hw⟩
theorem EqualLinks_is {l m : List PLink} (r : Bool) (H : Hid (eqF linkEq l m = r)) (hl : Hid (l.length = n1)) (hm : Hid (m.length = n2)) (b1 : n1 ≤ 4096) (b2 : n2 ≤ 4096) (hA : RowAt w w.heap.size A (l.flatMap linkC)) (hM : RowAt w w.heap.size M (m.flatMap linkC)) :
    Calls Tryd.prog 37 #[.slice A n1 c, .slice M n2 d] w fun e w' => e = .returned (.bool r) ∧ Below w.heap.size w w' :=
  (EqualLinks_any l m A M n1 n2 c d w hl hm b1 b2 hA hM).mono fun _ _ ⟨he, hw⟩ => ⟨by rw [he, H.out], hw⟩
theorem EqualChecks_is {l m : List PCheck} (r : Bool) (H : Hid (eqF checkEq l m = r)) (hl : Hid (l.length = n1)) (hm : Hid (m.length = n2)) (b1 : n1 ≤ 4096) (b2 : n2 ≤ 4096) (hA : RowAt w w.heap.size A (l.flatMap checkC)) (hM : RowAt w w.heap.size M (m.flatMap checkC)) :
    Calls Tryd.prog 40 #[.slice A n1 c, .slice M n2 d] w fun e w' => e = .returned (.bool r) ∧ Below w.heap.size w w' :=
  (EqualChecks_any l m A M n1 n2 c d w hl hm b1 b2 hA hM).mono fun _ _ ⟨he, hw⟩ => ⟨by rw [he, H.out], hw⟩
theorem EqualDests_is {l m : List PDest} (r : Bool) (H : Hid (eqF destEq l m = r)) (hl : Hid (l.length = n1)) (hm : Hid (m.length = n2)) (b1 : n1 ≤ 4096) (b2 : n2 ≤ 4096) (z1 : Hid (∀ x ∈ l, x.name.size ≤ 4096 ∧ x.orig.length ≤ 4000)) (z2 : Hid (∀ x ∈ m, x.name.size ≤ 4096 ∧ x.orig.length ≤ 4000)) (hA : DestsAt w w.heap.size A l) (hM : DestsAt w w.heap.size M m) :
    Calls Tryd.prog 38 #[.slice A n1 c, .slice M n2 d, .func (.func 39) #[] #[]] w fun e w' => e = .returned (.bool r) ∧ Below w.heap.size w w' :=
  (EqualDests_any l m A M n1 n2 c d w hl hm b1 b2 z1.out z2.out hA hM).mono fun _ _ ⟨he, hw⟩ => ⟨by rw [he, H.out], hw⟩
end

set_option maxRecDepth 100000 in
set_option maxHeartbeats 8000000 in
theorem Same_any {p q : PPlan} (hs : PSmall p) (hs2 : PSmall q) {pr ca kk pr2 ca2 kk2 : Int} {An Al Ad Ac An2 Al2 Ad2 Ac2 : Option Addr} {ln cn ll cl ld cd lc cc ln2 cn2 ll2 cl2 ld2 cd2 lc2 cc2 : Nat} {w : World}
    (h : PAt w p pr ca kk An ln Al ll Ad ld Ac lc) (h2 : PAt w q pr2 ca2 kk2 An2 ln2 Al2 ll2 Ad2 ld2 Ac2 lc2) :
    Calls Tryd.prog 11 #[.agg #[.int .i64 pr, .int .i64 ca, .int .i64 kk, .slice An ln cn, .slice Al ll cl, .slice Ad ld cd, .slice Ac lc cc], .agg #[.int .i64 pr2, .int .i64 ca2, .int .i64 kk2, .slice An2 ln2 cn2, .slice Al2 ll2 cl2, .slice Ad2 ld2 cd2, .slice Ac2 lc2 cc2]] w fun e w' => e = .returned (.bool (sameB p q)) ∧ Below w.heap.size w w' := by
  have hR : sameB p q = (decide (pr = pr2) && (decide (ca = ca2) && (decide (kk = kk2) && (eqF nodeEq p.nodes q.nodes && (eqF linkEq p.links q.links && (eqF destEq p.dests q.dests && eqF checkEq p.checks q.checks)))))) := by
    unfold sameB; rw [h.pr, h.ca, h.kk, h2.pr, h2.ca, h2.kk]
  have hB2 := Lib.hid (fun (o1 o2 : Obj) => below_box (below_box (Below.refl ((w.alloc o1).alloc o2).heap.size ((w.alloc o1).alloc o2))))
  have b1 : ln ≤ 4096 := by rw [← h.ln]; exact hs.ln
  have b2 : ll ≤ 4096 := by rw [← h.ll]; exact hs.ll
  have b3 : ld ≤ 4096 := by rw [← h.ld]; exact hs.ld
  have b4 : lc ≤ 4096 := by rw [← h.lc]; exact hs.lc
  have c1 : ln2 ≤ 4096 := by rw [← h2.ln]; exact hs2.ln
  have c2 : ll2 ≤ 4096 := by rw [← h2.ll]; exact hs2.ll
  have c3 : ld2 ≤ 4096 := by rw [← h2.ld]; exact hs2.ld
  have c4 : lc2 ≤ 4096 := by rw [← h2.lc]; exact hs2.lc
  have Z1 := Lib.hid hs.dests
  have Z2 := Lib.hid hs2.dests
  have L1 := Lib.hid h.ln
  have L2 := Lib.hid h.ll
  have L3 := Lib.hid h.ld
  have L4 := Lib.hid h.lc
  have M1 := Lib.hid h2.ln
  have M2 := Lib.hid h2.ll
  have M3 := Lib.hid h2.ld
  have M4 := Lib.hid h2.lc
  have HP := Lib.hid (fun o1 o2 => (h.box o1).box o2)
  have HQ := Lib.hid (fun o1 o2 => (h2.box o1).box o2)
  have HX := Lib.hid (fun o2 => (Blk.new w 29 #[.int .i64 pr, .int .i64 ca, .int .i64 kk, .slice An ln cn, .slice Al ll cl, .slice Ad ld cd, .slice Ac lc cc]).alloc o2)
  have hy : ∀ o1, Blk ((w.alloc o1).alloc (.cells #[.int .i64 pr2, .int .i64 ca2, .int .i64 kk2, .slice An2 ln2 cn2, .slice Al2 ll2 cl2, .slice Ad2 ld2 cd2, .slice Ac2 lc2 cc2] 29)) (w.heap.size + 1) 29 #[.int .i64 pr2, .int .i64 ca2, .int .i64 kk2, .slice An2 ln2 cn2, .slice Al2 ll2 cl2, .slice Ad2 ld2 cd2, .slice Ac2 lc2 cc2] := fun o1 => by
    have h := Blk.new (w.alloc o1) 29 #[.int .i64 pr2, .int .i64 ca2, .int .i64 kk2, .slice An2 ln2 cn2, .slice Al2 ll2 cl2, .slice Ad2 ld2 cd2, .slice Ac2 lc2 cc2]
    rwa [World.size_alloc] at h
  have HY := Lib.hid hy
  clear h h2 hs hs2 hy
  by_cases e1 : pr = pr2
  case neg =>
    have HR := Lib.hid (show sameB p q = false by rw [hR, decide_eq_false e1]; rfl)
    have q1 : (pr == pr2) = false := by simpa using e1
    clear hR e1
    go_enter Tryd.func11, Tryd.ntmps11
    go_wp2
    go_ret
    exact ⟨ret_bool HR.out.symm, hB2.out _ _⟩
  subst e1
  by_cases e2 : ca = ca2
  case neg =>
    have HR := Lib.hid (show sameB p q = false by rw [hR, decide_eq_false e2]; simp)
    have q1 : (ca == ca2) = false := by simpa using e2
    clear hR e2
    go_enter Tryd.func11, Tryd.ntmps11
    go_wp2
    go_ret
    exact ⟨ret_bool HR.out.symm, hB2.out _ _⟩
  subst e2
  by_cases e3 : kk = kk2
  case neg =>
    have HR := Lib.hid (show sameB p q = false by rw [hR, decide_eq_false e3]; simp)
    have q1 : (kk == kk2) = false := by simpa using e3
    clear hR e3
    go_enter Tryd.func11, Tryd.ntmps11
    go_wp2
    go_ret
    exact ⟨ret_bool HR.out.symm, hB2.out _ _⟩
  subst e3
  rw [decide_eq_true rfl, decide_eq_true rfl, decide_eq_true rfl, Bool.true_and, Bool.true_and, Bool.true_and] at hR
  obtain ⟨r1, f1⟩ : ∃ b, eqF nodeEq p.nodes q.nodes = b := ⟨_, rfl⟩
  obtain ⟨r2, f2⟩ : ∃ b, eqF linkEq p.links q.links = b := ⟨_, rfl⟩
  obtain ⟨r3, f3⟩ : ∃ b, eqF destEq p.dests q.dests = b := ⟨_, rfl⟩
  obtain ⟨r4, f4⟩ : ∃ b, eqF checkEq p.checks q.checks = b := ⟨_, rfl⟩
  rw [f1, f2, f3, f4] at hR
  have HR := Lib.hid hR
  have F1 := Lib.hid f1
  have F2 := Lib.hid f2
  have F3 := Lib.hid f3
  have F4 := Lib.hid f4
  clear hR f1 f2 f3 f4
  cases r1
  case false =>
    go_enter Tryd.func11, Tryd.ntmps11
    go_wp2_with (first
      | (go_at_call 36; refine (EqualNodes_is _ F1 L1 M1 b1 c1 (HP.out _ _).nodes (HQ.out _ _).nodes).mono ?_; rintro e w1 ⟨rfl, hb⟩; skip))
    go_ret
    exact ⟨ret_bool (by rw [HR.out]; rfl), below_box (below_box hb)⟩
  cases r2
  case false =>
    go_enter Tryd.func11, Tryd.ntmps11
    go_wp2_with (first
      | (go_at_call 36; refine (EqualNodes_is _ F1 L1 M1 b1 c1 (HP.out _ _).nodes (HQ.out _ _).nodes).mono ?_; rintro e w1 ⟨rfl, hb⟩; have x4 := ((HX.out _).up hb).cell 4; have y4 := ((HY.out _).up hb).cell 4)
      | (go_at_call 37; refine (EqualLinks_is _ F2 L2 M2 b2 c2 ((HP.out _ _).up hb).links ((HQ.out _ _).up hb).links).mono ?_; rintro e w2 ⟨rfl, hb2⟩; replace hb := hb.trans (hb2.mono hb.size); skip))
    go_ret
    exact ⟨ret_bool (by rw [HR.out]; rfl), below_box (below_box hb)⟩
  cases r3
  case false =>
    go_enter Tryd.func11, Tryd.ntmps11
    go_wp2_with (first
      | (go_at_call 36; refine (EqualNodes_is _ F1 L1 M1 b1 c1 (HP.out _ _).nodes (HQ.out _ _).nodes).mono ?_; rintro e w1 ⟨rfl, hb⟩; have x4 := ((HX.out _).up hb).cell 4; have y4 := ((HY.out _).up hb).cell 4)
      | (go_at_call 37; refine (EqualLinks_is _ F2 L2 M2 b2 c2 ((HP.out _ _).up hb).links ((HQ.out _ _).up hb).links).mono ?_; rintro e w2 ⟨rfl, hb2⟩; replace hb := hb.trans (hb2.mono hb.size); have x5 := ((HX.out _).up hb).cell 5; have y5 := ((HY.out _).up hb).cell 5)
      | (go_at_call 38; refine (EqualDests_is _ F3 L3 M3 b3 c3 Z1 Z2 ((HP.out _ _).up hb).dests ((HQ.out _ _).up hb).dests).mono ?_; rintro e w3 ⟨rfl, hb3⟩; replace hb := hb.trans (hb3.mono hb.size); skip))
    go_ret
    exact ⟨ret_bool (by rw [HR.out]; rfl), below_box (below_box hb)⟩
  go_enter Tryd.func11, Tryd.ntmps11
  go_wp2_with (first
    | (go_at_call 36; refine (EqualNodes_is _ F1 L1 M1 b1 c1 (HP.out _ _).nodes (HQ.out _ _).nodes).mono ?_; rintro e w1 ⟨rfl, hb⟩; have x4 := ((HX.out _).up hb).cell 4; have y4 := ((HY.out _).up hb).cell 4)
    | (go_at_call 37; refine (EqualLinks_is _ F2 L2 M2 b2 c2 ((HP.out _ _).up hb).links ((HQ.out _ _).up hb).links).mono ?_; rintro e w2 ⟨rfl, hb2⟩; replace hb := hb.trans (hb2.mono hb.size); have x5 := ((HX.out _).up hb).cell 5; have y5 := ((HY.out _).up hb).cell 5)
    | (go_at_call 38; refine (EqualDests_is _ F3 L3 M3 b3 c3 Z1 Z2 ((HP.out _ _).up hb).dests ((HQ.out _ _).up hb).dests).mono ?_; rintro e w3 ⟨rfl, hb3⟩; replace hb := hb.trans (hb3.mono hb.size); have x6 := ((HX.out _).up hb).cell 6; have y6 := ((HY.out _).up hb).cell 6)
    | (go_at_call 40; refine (EqualChecks_is _ F4 L4 M4 b4 c4 ((HP.out _ _).up hb).checks ((HQ.out _ _).up hb).checks).mono ?_; rintro e w4 ⟨rfl, hb4⟩; replace hb := hb.trans (hb4.mono hb.size); skip))
  go_ret
  exact ⟨ret_bool (by rw [HR.out]; rfl), below_box (below_box hb)⟩

theorem Same_is {p q : PPlan} (b : Bool) (H : Hid (sameB p q = b)) (hs : PSmall p) (hs2 : PSmall q) {pr ca kk pr2 ca2 kk2 : Int} {An Al Ad Ac An2 Al2 Ad2 Ac2 : Option Addr} {ln cn ll cl ld cd lc cc ln2 cn2 ll2 cl2 ld2 cd2 lc2 cc2 : Nat} {w : World}
    (h : PAt w p pr ca kk An ln Al ll Ad ld Ac lc) (h2 : PAt w q pr2 ca2 kk2 An2 ln2 Al2 ll2 Ad2 ld2 Ac2 lc2) :
    Calls Tryd.prog 11 #[.agg #[.int .i64 pr, .int .i64 ca, .int .i64 kk, .slice An ln cn, .slice Al ll cl, .slice Ad ld cd, .slice Ac lc cc], .agg #[.int .i64 pr2, .int .i64 ca2, .int .i64 kk2, .slice An2 ln2 cn2, .slice Al2 ll2 cl2, .slice Ad2 ld2 cd2, .slice Ac2 lc2 cc2]] w fun e w' => e = .returned (.bool b) ∧ Below w.heap.size w w' :=
  (Same_any hs hs2 h h2).mono fun _ _ ⟨he, hw⟩ => ⟨by rw [he, H.out], hw⟩

end Go.Proofs.YtdmilbfdiebjgaaDoor
