/-
  Package plan: Right.
-/
import Derived.Test.YtlfapmfhdagikaaDoorPlG
import Derived.Test.YtlfapmfhdagikaaDoorPlH
namespace Go.Proofs.YtlfapmfhdagikaaDoor
open Go.RowKit

def rightB (p : PPlan) : Bool := protoB p.proto p.cap && (withinB p.k 0 (min 4 (p.links.length : Int)) && (nodesB p.nodes && (linksB p.nodes.length p.links && (destsB p.nodes p.dests && checksB p.nodes.length p.dests.length p.checks))))

section
variable {p : PPlan} {pr ca kk : Int} {An Al Ad Ac : Option Addr} {ln cn ll cl ld cd lc cc : Nat} {w : World}
theorem rightProto_is (b : Bool) (H : Hid (protoB pr ca = b)) :
    Calls Tryd.prog 35 #[.agg #[.int .i64 pr, .int .i64 ca, .int .i64 kk, .slice An ln cn, .slice Al ll cl, .slice Ad ld cd, .slice Ac lc cc]] w fun e w' => e = .returned (.bool b) ∧ Below w.heap.size w w' :=
  (rightProto_any pr ca kk An Al Ad Ac ln cn ll cl ld cd lc cc w).mono fun _ _ ⟨he, hw⟩ => ⟨by rw [he, H.out], hw⟩
theorem rightNodes_is (b : Bool) (H : Hid (nodesB p.nodes = b)) (hs : PSmall p) (h : PAt w p pr ca kk An ln Al ll Ad ld Ac lc) :
    Calls Tryd.prog 37 #[.agg #[.int .i64 pr, .int .i64 ca, .int .i64 kk, .slice An ln cn, .slice Al ll cl, .slice Ad ld cd, .slice Ac lc cc]] w fun e w' => e = .returned (.bool b) ∧ Below w.heap.size w w' :=
  (rightNodes_any p hs h.nodes (Lib.hid h.ln) (by rw [← h.ln]; exact hs.ln)).mono fun _ _ ⟨he, hw⟩ => ⟨by rw [he, H.out], hw⟩
theorem rightLinks_is (b : Bool) (H : Hid (linksB p.nodes.length p.links = b)) (hs : PSmall p) (h : PAt w p pr ca kk An ln Al ll Ad ld Ac lc) :
    Calls Tryd.prog 38 #[.agg #[.int .i64 pr, .int .i64 ca, .int .i64 kk, .slice An ln cn, .slice Al ll cl, .slice Ad ld cd, .slice Ac lc cc]] w fun e w' => e = .returned (.bool b) ∧ Below w.heap.size w w' :=
  (rightLinks_any p (ln := ln) h.links (Lib.hid h.ll) (by rw [← h.ll]; exact hs.ll) (by rw [← h.ln]; exact hs.ln)).mono fun _ _ ⟨he, hw⟩ => ⟨by rw [he, ← H.out, h.ln], hw⟩
theorem rightDests_is (b : Bool) (H : Hid (destsB p.nodes p.dests = b)) (hs : PSmall p) (h : PAt w p pr ca kk An ln Al ll Ad ld Ac lc) :
    Calls Tryd.prog 39 #[.agg #[.int .i64 pr, .int .i64 ca, .int .i64 kk, .slice An ln cn, .slice Al ll cl, .slice Ad ld cd, .slice Ac lc cc]] w fun e w' => e = .returned (.bool b) ∧ Below w.heap.size w w' :=
  (rightDests_any p hs h.nodes h.dests (Lib.hid h.ln) (Lib.hid h.ld) (by rw [← h.ln]; exact hs.ln) (by rw [← h.ld]; exact hs.ld)).mono fun _ _ ⟨he, hw⟩ => ⟨by rw [he, H.out], hw⟩
theorem rightChecks_is (b : Bool) (H : Hid (checksB p.nodes.length p.dests.length p.checks = b)) (hs : PSmall p) (h : PAt w p pr ca kk An ln Al ll Ad ld Ac lc) :
    Calls Tryd.prog 40 #[.agg #[.int .i64 pr, .int .i64 ca, .int .i64 kk, .slice An ln cn, .slice Al ll cl, .slice Ad ld cd, .slice Ac lc cc]] w fun e w' => e = .returned (.bool b) ∧ Below w.heap.size w w' :=
  (rightChecks_any p (ln := ln) (ld := ld) h.checks (Lib.hid h.lc) (by rw [← h.lc]; exact hs.lc) (by rw [← h.ln]; exact hs.ln) (by rw [← h.ld]; exact hs.ld)).mono fun _ _ ⟨he, hw⟩ => ⟨by rw [he, ← H.out, h.ln, h.ld], hw⟩

theorem PAt.box (h : PAt w p pr ca kk An ln Al ll Ad ld Ac lc) (o : Obj) : PAt (w.alloc o) p pr ca kk An ln Al ll Ad ld Ac lc := h.up (below_new w o)

set_option maxRecDepth 100000 in
set_option maxHeartbeats 4000000 in
theorem Right_any (hs : PSmall p) (h : PAt w p pr ca kk An ln Al ll Ad ld Ac lc) :
    Calls Tryd.prog 16 #[.agg #[.int .i64 pr, .int .i64 ca, .int .i64 kk, .slice An ln cn, .slice Al ll cl, .slice Ad ld cd, .slice Ac lc cc]] w fun e w' => e = .returned (.bool (rightB p)) ∧ Below w.heap.size w w' := by
  have HB := Lib.hid (fun o => below_new w o)
  have HBX := Lib.hid (Blk.new w 29 #[.int .i64 pr, .int .i64 ca, .int .i64 kk, .slice An ln cn, .slice Al ll cl, .slice Ad ld cd, .slice Ac lc cc])
  have hR : rightB p = (protoB pr ca && (withinB kk 0 (min 4 (ll : Int)) && (nodesB p.nodes && (linksB p.nodes.length p.links && (destsB p.nodes p.dests && checksB p.nodes.length p.dests.length p.checks))))) := by
    unfold rightB; rw [h.pr, h.ca, h.kk, h.ll]
  have hP := Lib.hid (h.box (.cells #[.int .i64 pr, .int .i64 ca, .int .i64 kk, .slice An ln cn, .slice Al ll cl, .slice Ad ld cd, .slice Ac lc cc] 29))
  have hll : ll ≤ 4096 := by rw [← h.ll]; exact hs.ll
  clear h
  obtain ⟨b1, e1⟩ : ∃ b, protoB pr ca = b := ⟨_, rfl⟩
  obtain ⟨b2, e2⟩ : ∃ b, withinB kk 0 (min 4 (ll : Int)) = b := ⟨_, rfl⟩
  obtain ⟨b3, e3⟩ : ∃ b, nodesB p.nodes = b := ⟨_, rfl⟩
  obtain ⟨b4, e4⟩ : ∃ b, linksB p.nodes.length p.links = b := ⟨_, rfl⟩
  obtain ⟨b5, e5⟩ : ∃ b, destsB p.nodes p.dests = b := ⟨_, rfl⟩
  obtain ⟨b6, e6⟩ : ∃ b, checksB p.nodes.length p.dests.length p.checks = b := ⟨_, rfl⟩
  rw [e1, e2, e3, e4, e5, e6] at hR
  have HR := Lib.hid hR
  have H1 := Lib.hid e1
  have H2 := Lib.hid e2
  have H3 := Lib.hid e3
  have H4 := Lib.hid e4
  have H5 := Lib.hid e5
  have H6 := Lib.hid e6
  clear hR e1 e2 e3 e4 e5 e6
  cases b1
  · go_enter Tryd.func16, Tryd.ntmps16
    go_wp2_with (go_at_call 35; refine (rightProto_is _ H1).mono ?_; rintro e w1 ⟨rfl, hb1⟩)
    go_ret
    exact ⟨ret_bool HR.out.symm, below_box hb1⟩
  cases b2
  · go_enter Tryd.func16, Tryd.ntmps16
    go_wp2_with (first
      | (go_at_call 35; refine (rightProto_is _ H1).mono ?_; rintro e w1 ⟨rfl, hb1⟩; obtain ⟨q0, q1, q2, q3, q4, q5, q6⟩ := box7 (HBX.out.up hb1))
      | (go_at_call 36; refine (isWithin_is _ _ _ _ H2 _).mono ?_; rintro e w2 ⟨rfl, rfl⟩))
    go_ret
    exact ⟨ret_bool HR.out.symm, below_box hb1⟩
  cases b3
  · go_enter Tryd.func16, Tryd.ntmps16
    go_wp2_with (first
      | (go_at_call 35; refine (rightProto_is _ H1).mono ?_; rintro e w1 ⟨rfl, hb1⟩; obtain ⟨q0, q1, q2, q3, q4, q5, q6⟩ := box7 (HBX.out.up hb1))
      | (go_at_call 36; refine (isWithin_is _ _ _ _ H2 _).mono ?_; rintro e w2 ⟨rfl, rfl⟩)
      | (go_at_call 37; refine (rightNodes_is _ H3 hs (hP.out.up hb1)).mono ?_; rintro e w3 ⟨rfl, hb3⟩; have hb := hb1.trans (hb3.mono hb1.size)))
    go_ret
    exact ⟨ret_bool HR.out.symm, below_box hb⟩
  cases b4
  · go_enter Tryd.func16, Tryd.ntmps16
    go_wp2_with (first
      | (go_at_call 35; refine (rightProto_is _ H1).mono ?_; rintro e w1 ⟨rfl, hb1⟩; obtain ⟨q0, q1, q2, q3, q4, q5, q6⟩ := box7 (HBX.out.up hb1))
      | (go_at_call 36; refine (isWithin_is _ _ _ _ H2 _).mono ?_; rintro e w2 ⟨rfl, rfl⟩)
      | (go_at_call 37; refine (rightNodes_is _ H3 hs (hP.out.up hb1)).mono ?_; rintro e w3 ⟨rfl, hb3⟩; have hb := hb1.trans (hb3.mono hb1.size); obtain ⟨r0, r1, r2, r3, r4, r5, r6⟩ := box7 (HBX.out.up hb))
      | (go_at_call 38; refine (rightLinks_is _ H4 hs (hP.out.up hb)).mono ?_; rintro e w4 ⟨rfl, hb4⟩; replace hb := hb.trans (hb4.mono hb.size)))
    go_ret
    exact ⟨ret_bool HR.out.symm, below_box hb⟩
  cases b5
  · go_enter Tryd.func16, Tryd.ntmps16
    go_wp2_with (first
      | (go_at_call 35; refine (rightProto_is _ H1).mono ?_; rintro e w1 ⟨rfl, hb1⟩; obtain ⟨q0, q1, q2, q3, q4, q5, q6⟩ := box7 (HBX.out.up hb1))
      | (go_at_call 36; refine (isWithin_is _ _ _ _ H2 _).mono ?_; rintro e w2 ⟨rfl, rfl⟩)
      | (go_at_call 37; refine (rightNodes_is _ H3 hs (hP.out.up hb1)).mono ?_; rintro e w3 ⟨rfl, hb3⟩; have hb := hb1.trans (hb3.mono hb1.size); obtain ⟨r0, r1, r2, r3, r4, r5, r6⟩ := box7 (HBX.out.up hb))
      | (go_at_call 38; refine (rightLinks_is _ H4 hs (hP.out.up hb)).mono ?_; rintro e w4 ⟨rfl, hb4⟩; replace hb := hb.trans (hb4.mono hb.size); obtain ⟨s0, s1, s2, s3, s4, s5, s6⟩ := box7 (HBX.out.up hb))
      | (go_at_call 39; refine (rightDests_is _ H5 hs (hP.out.up hb)).mono ?_; rintro e w5 ⟨rfl, hb5⟩; replace hb := hb.trans (hb5.mono hb.size)))
    go_ret
    exact ⟨ret_bool HR.out.symm, below_box hb⟩
  · go_enter Tryd.func16, Tryd.ntmps16
    go_wp2_with (first
      | (go_at_call 35; refine (rightProto_is _ H1).mono ?_; rintro e w1 ⟨rfl, hb1⟩; obtain ⟨q0, q1, q2, q3, q4, q5, q6⟩ := box7 (HBX.out.up hb1))
      | (go_at_call 36; refine (isWithin_is _ _ _ _ H2 _).mono ?_; rintro e w2 ⟨rfl, rfl⟩)
      | (go_at_call 37; refine (rightNodes_is _ H3 hs (hP.out.up hb1)).mono ?_; rintro e w3 ⟨rfl, hb3⟩; have hb := hb1.trans (hb3.mono hb1.size); obtain ⟨r0, r1, r2, r3, r4, r5, r6⟩ := box7 (HBX.out.up hb))
      | (go_at_call 38; refine (rightLinks_is _ H4 hs (hP.out.up hb)).mono ?_; rintro e w4 ⟨rfl, hb4⟩; replace hb := hb.trans (hb4.mono hb.size); obtain ⟨s0, s1, s2, s3, s4, s5, s6⟩ := box7 (HBX.out.up hb))
      | (go_at_call 39; refine (rightDests_is _ H5 hs (hP.out.up hb)).mono ?_; rintro e w5 ⟨rfl, hb5⟩; replace hb := hb.trans (hb5.mono hb.size); obtain ⟨t0, t1, t2, t3, t4, t5, t6⟩ := box7 (HBX.out.up hb))
      | (go_at_call 40; refine (rightChecks_is _ H6 hs (hP.out.up hb)).mono ?_; rintro e w6 ⟨rfl, hb6⟩; replace hb := hb.trans (hb6.mono hb.size)))
    go_ret
    exact ⟨ret_bool HR.out.symm, below_box hb⟩
theorem Right_is (b : Bool) (H : Hid (rightB p = b)) (hs : PSmall p) (h : PAt w p pr ca kk An ln Al ll Ad ld Ac lc) :
    Calls Tryd.prog 16 #[.agg #[.int .i64 pr, .int .i64 ca, .int .i64 kk, .slice An ln cn, .slice Al ll cl, .slice Ad ld cd, .slice Ac lc cc]] w fun e w' => e = .returned (.bool b) ∧ Below w.heap.size w w' :=
  (Right_any hs h).mono fun _ _ ⟨he, hw⟩ => ⟨by rw [he, H.out], hw⟩
end

end Go.Proofs.YtlfapmfhdagikaaDoor
