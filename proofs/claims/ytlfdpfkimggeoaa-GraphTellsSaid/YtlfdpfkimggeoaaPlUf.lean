/-
  The document's own Right.
-/
import Derived.Test.YtlfdpfkimggeoaaPlUe
import Derived.Test.YtlfdpfkimggeoaaPlX
namespace Go.Proofs.Ytlfdpfkimggeoaa
open Go.RowKit
set_option linter.unusedVariables false
set_option linter.unusedSimpArgs false

theorem strInfoR : (Try.prog.info? 9).map (fun i => (i.zero, i.size, i.bytes)) = some (some (.string ⟨#[]⟩), 1, 16) := by kernel_rfl
theorem names_take1 (p : PPlan) {k : Nat} {n : PNode} (h : p.nodes[k]? = some n) : (namesL p).take (k + 1) = (namesL p).take k ++ [n.name] := by
  rw [List.take_add_one]
  unfold namesL
  rw [List.getElem?_append_left (by rw [List.length_map]; exact (List.getElem?_eq_some_iff.1 h).1), List.getElem?_map, h]; rfl
theorem names_take2 (p : PPlan) {k : Nat} {n : PDest} (h : p.dests[k]? = some n) : (namesL p).take (p.nodes.length + (k + 1)) = (namesL p).take (p.nodes.length + k) ++ [n.name] := by
  rw [← Nat.add_assoc, List.take_add_one]
  unfold namesL
  rw [List.getElem?_append_right (by rw [List.length_map]; omega), List.length_map, Nat.add_sub_cancel_left, List.getElem?_map, h]; rfl
theorem names_len (p : PPlan) : (namesL p).length = p.nodes.length + p.dests.length := by unfold namesL; simp
theorem refNames_is (xs : List ByteArray) (b : Bool) (H : Hid (allF (nameAt xs) xs 0 = b)) {A : Option Addr} {n c : Nat} {w : World} (hA : RowAt w w.heap.size A (xs.map Value.string)) (hn : Hid (xs.length = n)) (hm : n ≤ 100000) (hsz : ∀ x ∈ xs, x.size ≤ 9223372036854775807) :
    Calls Try.prog 58 #[.slice A n c] w fun e w' => e = .returned (.bool b) ∧ Below w.heap.size w w' :=
  (refNames_any xs hA hn hm hsz).mono fun _ _ ⟨he, hw⟩ => ⟨by rw [he, H.out], hw⟩
theorem refLinks_is {p : PPlan} {pr ca kk : Int} {An Al Ad Ac : Option Addr} {ln cn ll cl ld cd lc cc : Nat} {w : World} (b : Bool) (H : Hid ((allF (refLinkOk ln p.links) p.links 0 && decide (ll ≤ 16)) = b)) (h : RowAt w w.heap.size Al (p.links.flatMap linkC)) (hl : Hid (p.links.length = ll)) (hm : ll ≤ 4096) (hn : ln ≤ 4096) :
    Calls Try.prog 59 #[.agg #[.int .i64 pr, .int .i64 ca, .int .i64 kk, .slice An ln cn, .slice Al ll cl, .slice Ad ld cd, .slice Ac lc cc]] w fun e w' => e = .returned (.bool b) ∧ Below w.heap.size w w' :=
  (refLinks_any p h hl hm hn).mono fun _ _ ⟨he, hw⟩ => ⟨by rw [he, H.out], hw⟩
theorem refDests_is {p : PPlan} {pr ca kk : Int} {An Al Ad Ac : Option Addr} {ln cn ll cl ld cd lc cc : Nat} {w : World} (b : Bool) (H : Hid ((allF (fun _ d => refDestOk ln d) p.dests 0 && decide (ld ≤ 4)) = b)) (hs : PSmall p) (h : DestsAt w w.heap.size Ad p.dests) (hl : Hid (p.dests.length = ld)) (hm : ld ≤ 4096) (hn : ln ≤ 4096) :
    Calls Try.prog 60 #[.agg #[.int .i64 pr, .int .i64 ca, .int .i64 kk, .slice An ln cn, .slice Al ll cl, .slice Ad ld cd, .slice Ac lc cc]] w fun e w' => e = .returned (.bool b) ∧ Below w.heap.size w w' :=
  (refDests_any p hs h hl hm hn).mono fun _ _ ⟨he, hw⟩ => ⟨by rw [he, H.out], hw⟩
theorem refChecks_is {p : PPlan} {pr ca kk : Int} {An Al Ad Ac : Option Addr} {ln cn ll cl ld cd lc cc : Nat} {w : World} (b : Bool) (H : Hid ((allF (fun _ c => refCheckOk ln ld c) p.checks 0 && decide (lc ≤ 16)) = b)) (h : RowAt w w.heap.size Ac (p.checks.flatMap checkC)) (hl : Hid (p.checks.length = lc)) (hm : lc ≤ 4096) (hn : ln ≤ 4096) (hd : ld ≤ 4096) :
    Calls Try.prog 61 #[.agg #[.int .i64 pr, .int .i64 ca, .int .i64 kk, .slice An ln cn, .slice Al ll cl, .slice Ad ld cd, .slice Ac lc cc]] w fun e w' => e = .returned (.bool b) ∧ Below w.heap.size w w' :=
  (refChecks_any p h hl hm hn hd).mono fun _ _ ⟨he, hw⟩ => ⟨by rw [he, H.out], hw⟩
set_option maxHeartbeats 8000000 in
set_option maxRecDepth 100000 in
theorem RefRight_any {p : PPlan} (hs : PSmall p) {pr ca kk : Int} {An Al Ad Ac : Option Addr} {ln cn ll cl ld cd lc cc : Nat} {w : World} (h : PAt w p pr ca kk An ln Al ll Ad ld Ac lc) :
    Calls Try.prog 35 #[.agg #[.int .i64 pr, .int .i64 ca, .int .i64 kk, .slice An ln cn, .slice Al ll cl, .slice Ad ld cd, .slice Ac lc cc]] w fun e w' => e = .returned (.bool (refRightB p)) ∧ Below w.heap.size w w' := by
  have hbx := fun o => below_new w o
  have k0 := Blk.new w 29 #[.int .i64 pr, .int .i64 ca, .int .i64 kk, .slice An ln cn, .slice Al ll cl, .slice Ad ld cd, .slice Ac lc cc]
  obtain ⟨i0, hi, hz0, hz1, hz2⟩ := info_parts strInfoR
  have s1 := hs.ln
  have s2 := hs.ll
  have s3 := hs.ld
  have s4 := hs.lc
  rw [h.ln] at s1
  rw [h.ll] at s2
  rw [h.ld] at s3
  rw [h.lc] at s4
  have HP := Lib.hid h
  have HS := Lib.hid hs
  obtain ⟨Q, hQ⟩ : ∃ Q, (allF (nameAt (namesL p)) (namesL p) 0 && ((allF (refLinkOk p.nodes.length p.links) p.links 0 && decide (p.links.length ≤ 16)) && ((allF (fun _ d => refDestOk p.nodes.length d) p.dests 0 && decide (p.dests.length ≤ 4)) && (allF (fun _ c => refCheckOk p.nodes.length p.dests.length c) p.checks 0 && decide (p.checks.length ≤ 16))))) = Q := ⟨_, rfl⟩
  have hR : refRightB p = (protoB pr ca && (decide (0 ≤ kk ∧ kk ≤ 4 ∧ kk ≤ (ll : Int) ∧ 1 ≤ ln ∧ ln ≤ 12 ∧ ll ≤ 16 ∧ ld ≤ 4 ∧ lc ≤ 16) && (allF (fun _ n => asnB n) p.nodes 0 && Q))) := by
    unfold refRightB
    rw [hQ, h.pr, h.ca, h.kk, h.ln, h.ll, h.ld, h.lc]
  have HR := Lib.hid hR
  have HQ := Lib.hid hQ
  clear h hs hR hQ
  by_cases hg : 0 ≤ kk ∧ kk ≤ 4 ∧ kk ≤ (ll : Int) ∧ 1 ≤ ln ∧ ln ≤ 12 ∧ ll ≤ 16 ∧ ld ≤ 4 ∧ lc ≤ 16
  case neg =>
    have HF : Hid (refRightB p = false) := Lib.hid (by rw [HR.out, decide_eq_false hg]; simp)
    clear HQ HR k0
    go_enter Try.func35, Try.ntmps35
    go_wp2
    all_goals first
      | (exfalso; omega)
      | (go_ret; exact ⟨ret_bool HF.out.symm, hbx _⟩)
  by_cases hproto : protoB pr ca = true
  case neg =>
    have HF : Hid (refRightB p = false) := Lib.hid (by rw [HR.out, Bool.eq_false_iff.2 hproto]; rfl)
    have hpn : ¬ (pr = 1 ∧ ca = 0) ∧ ¬ (pr = 2 ∧ 1 ≤ ca ∧ ca ≤ 12) := by
      unfold protoB withinB at hproto
      constructor
      · rintro ⟨rfl, rfl⟩; simp at hproto
      · rintro ⟨rfl, a, b⟩; simp at hproto; omega
    clear HQ HR k0 hproto
    go_enter Try.func35, Try.ntmps35
    go_wp2
    all_goals first
      | (exfalso; omega)
      | (go_ret; exact ⟨ret_bool HF.out.symm, hbx _⟩)
  have hpp : (pr = 1 ∧ ca = 0) ∨ (pr = 2 ∧ 1 ≤ ca ∧ ca ≤ 12) := by
    unfold protoB withinB at hproto
    by_cases e1 : pr = 1
    · subst e1; simp at hproto; exact .inl ⟨rfl, hproto⟩
    · rw [if_neg e1] at hproto
      by_cases e2 : pr = 2
      · subst e2; simp at hproto; exact .inr ⟨rfl, by omega, by omega⟩
      · rw [if_neg e2] at hproto; cases hproto
  have HG : Hid (refRightB p = (allF (fun _ n => asnB n) p.nodes 0 && Q)) := Lib.hid (by rw [HR.out, hproto, decide_eq_true hg]; simp)
  obtain ⟨g1, g2, g3, g4, g5, g6, g7, g8⟩ := hg
  have HPR := HP.out.pr
  have HCA := HP.out.ca
  clear HR hproto
  rcases hpp with ⟨rfl, rfl⟩ | ⟨rfl, v1, v2⟩
  · clear HPR HCA
    go_enter Try.func35, Try.ntmps35
    go_wp2
    go_loopw [5, 6] (fun v i wr => ∃ (k : Nat) (A : Option Addr) (c : Nat), k ≤ ln ∧ i = .int .i64 (k : Nat) ∧ v = .slice A k c ∧ wr.ownsRow w.heap.size 9 1 (.slice A k c) k (((namesL p).take k).map Value.string) ∧ AllAt (fun _ n => asnB n) p.nodes k ∧ Below w.heap.size w wr ∧ Blk wr w.heap.size 29 #[.int .i64 1, .int .i64 0, .int .i64 kk, .slice An ln cn, .slice Al ll cl, .slice Ad ld cd, .slice Ac lc cc]) (fun _ i _ => ln - (intOf i).toNat)
    case atStart => exact ⟨0, none, 0, Nat.zero_le _, rfl, rfl, World.ownsRow_nil _ _ _ _, AllAt.start _ _, hbx _, k0⟩
    case round =>
      clear hbx k0
      obtain ⟨k, A, c, hk, rfl, rfl, hown, hat, hbw, hbox⟩ := hrel
      obtain ⟨d0, d1, d2, d3, d4, d5, d6⟩ := box7 hbox
      have hHW := Lib.hid hbw
      have hHB := Lib.hid hbox
      have hx0 := HP.out.up hbw
      by_cases hlt : k < ln
      · obtain ⟨⟨nm, num⟩, hn'⟩ : ∃ n, p.nodes[k]? = some n := ⟨_, List.getElem?_eq_getElem (by rw [HP.out.ln]; exact hlt)⟩
        obtain ⟨g, hAg, hg, c0, c1⟩ := hx0.nodes.node hn'
        dsimp only at c0 c1
        have n0 : (0 : Int) ≤ (k : Int) := by omega
        have n1 : (k : Int) < (ln : Int) := by omega
        have HAT := Lib.hid hat
        have HN := Lib.hid hn'
        have htk := names_take1 p hn'
        have HTK := Lib.hid htk
        have hnx := Lib.hid (cells_new wr [.string nm] 9)
        have hsz := hbw.size
        subst hAg
        clear hat hn' htk hbw hbox hx0
        by_cases hnum : 1 ≤ num ∧ num ≤ 65535
        · obtain ⟨m1, m2⟩ := hnum
          have hat' := HAT.out.next HN.out (by unfold asnB withinB; dsimp only; rw [decide_eq_true m1, decide_eq_true m2]; rfl)
          have HAT2 := Lib.hid hat'
          clear hat'
          go_wp2_with (at_builtin; refine wpList_append_own _ rfl _ _ 62 rfl w.heap.size 9 i0 (.string ⟨#[]⟩) 1 16 Try.underlying62 hi hz0 hz1 hz2 rfl (by decide) _ _ _ rfl (hown.alloc _) ⟨wr.heap.size, 0, none⟩ 1 1 [.string nm] rfl rfl hnx.out (by simp [Value.oneCell']) (by unfold maxLen; omega) (by omega) (by simp; have := hHW.out.size; omega) ?_; intro v' w4 hown4 hgrow4 _)
          all_goals first | (exfalso; omega) | skip
          obtain ⟨A', c', rfl, _⟩ := own_form hown4
          go_roundw
          case rel =>
            refine ⟨k + 1, A', c', by omega, by go_num, rfl, ?_, HAT2.out, (hHW.out.alloc hsz _).grown hgrow4 (by simp; omega) (fun q hq => (hown.lt q hq).1), (hHB.out.alloc _).grown hgrow4 (fun e => own_blk_ne hown hHB.out (by decide) e.symm)⟩
            rw [HTK.out, List.map_append]
            exact hown4
          case measure => simp [intOf]; omega
        · have HF : Hid (refRightB p = false) := Lib.hid (by
            rw [HG.out, HAT.out.stop HN.out (by unfold asnB withinB; dsimp only; rw [Bool.eq_false_iff]; intro e; simp at e; exact hnum e)]
            rfl)
          clear HAT HG
          go_wp2
          all_goals first
            | (exfalso; omega)
            | (go_ret; exact ⟨ret_bool HF.out.symm, hHW.out⟩)
      · have hkk : k = ln := by omega
        have hge : ¬ (k : Int) < (ln : Int) := by omega
        have HG2 : Hid (refRightB p = Q) := Lib.hid (by rw [HG.out, hat.done (by rw [HP.out.ln]; omega)]; rfl)
        subst hkk
        clear hat HG hbw hbox hx0
        go_wp2
        go_loopw [5, 7] (fun v i wr => ∃ (m : Nat) (A : Option Addr) (c : Nat), m ≤ ld ∧ i = .int .i64 (m : Nat) ∧ v = .slice A (k + m) c ∧ wr.ownsRow w.heap.size 9 1 (.slice A (k + m) c) (k + m) (((namesL p).take (k + m)).map Value.string) ∧ Below w.heap.size w wr ∧ Blk wr w.heap.size 29 #[.int .i64 1, .int .i64 0, .int .i64 kk, .slice An k cn, .slice Al ll cl, .slice Ad ld cd, .slice Ac lc cc]) (fun _ i _ => ld - (intOf i).toNat)
        case atStart => exact ⟨0, A, c, Nat.zero_le _, rfl, rfl, hown, hHW.out, hHB.out⟩
        case round =>
          clear hown hHW hHB d0 d1 d2 d3 d4 d5 d6
          obtain ⟨m, A, c, hm, rfl, rfl, hown, hbw, hbox⟩ := hrel
          obtain ⟨d0, d1, d2, d3, d4, d5, d6⟩ := box7 hbox
          have hHW := Lib.hid hbw
          have hHB := Lib.hid hbox
          have hx0 := HP.out.up hbw
          by_cases hlt : m < ld
          · obtain ⟨⟨nm, og⟩, hn'⟩ : ∃ n, p.dests[m]? = some n := ⟨_, List.getElem?_eq_getElem (by rw [HP.out.ld]; exact hlt)⟩
            obtain ⟨g, Ao, co, hAg, hg, c0, c1, _⟩ := hx0.dests.dest hn'
            dsimp only at c0 c1
            have n0 : (0 : Int) ≤ (m : Int) := by omega
            have n1 : (m : Int) < (ld : Int) := by omega
            have htk := names_take2 p hn'
            rw [HP.out.ln] at htk
            have HTK := Lib.hid htk
            have hnx := Lib.hid (cells_new wr [.string nm] 9)
            have hsz := hbw.size
            subst hAg
            clear hn' htk hbw hbox hx0
            go_wp2_with (at_builtin; refine wpList_append_own _ rfl _ _ 62 rfl w.heap.size 9 i0 (.string ⟨#[]⟩) 1 16 Try.underlying62 hi hz0 hz1 hz2 rfl (by decide) _ _ _ rfl (hown.alloc _) ⟨wr.heap.size, 0, none⟩ 1 1 [.string nm] rfl rfl hnx.out (by simp [Value.oneCell']) (by unfold maxLen; omega) (by omega) (by simp; have := hHW.out.size; omega) ?_; intro v' w4 hown4 hgrow4 _)
            obtain ⟨A', c', rfl, _⟩ := own_form hown4
            go_roundw
            case rel =>
              refine ⟨m + 1, A', c', by omega, by go_num, rfl, ?_, (hHW.out.alloc hsz _).grown hgrow4 (by simp; omega) (fun q hq => (hown.lt q hq).1), (hHB.out.alloc _).grown hgrow4 (fun e => own_blk_ne hown hHB.out (by decide) e.symm)⟩
              rw [HTK.out, List.map_append]
              exact hown4
            case measure => simp [intOf]; omega
          · have hmm : m = ld := by omega
            have hge2 : ¬ (m : Int) < (ld : Int) := by omega
            subst hmm
            have HNL : Hid ((namesL p).length = k + m) := Lib.hid (by rw [names_len, HP.out.ln, HP.out.ld])
            rw [← HNL.out, List.take_length, HNL.out] at hown
            have hrow := RowAt.of_own hown
            have HSZ : Hid (∀ x ∈ namesL p, x.size ≤ 9223372036854775807) := Lib.hid fun x hx => by
              unfold namesL at hx
              rcases List.mem_append.1 hx with hx | hx
              · obtain ⟨n, hn, rfl⟩ := List.mem_map.1 hx
                exact Nat.le_trans (HS.out.nodes n hn) (by omega)
              · obtain ⟨n, hn, rfl⟩ := List.mem_map.1 hx
                exact Nat.le_trans (HS.out.dests n hn).1 (by omega)
            obtain ⟨q1, hq1⟩ : ∃ q, allF (nameAt (namesL p)) (namesL p) 0 = q := ⟨_, rfl⟩
            obtain ⟨q2, hq2⟩ : ∃ q, (allF (refLinkOk k p.links) p.links 0 && decide (ll ≤ 16)) = q := ⟨_, rfl⟩
            obtain ⟨q3, hq3⟩ : ∃ q, (allF (fun _ d => refDestOk k d) p.dests 0 && decide (m ≤ 4)) = q := ⟨_, rfl⟩
            obtain ⟨q4, hq4⟩ : ∃ q, (allF (fun _ c => refCheckOk k m c) p.checks 0 && decide (lc ≤ 16)) = q := ⟨_, rfl⟩
            have HV1 := Lib.hid hq1
            have HV2 := Lib.hid hq2
            have HV3 := Lib.hid hq3
            have HV4 := Lib.hid hq4
            have HF : Hid (refRightB p = (q1 && (q2 && (q3 && q4)))) := Lib.hid (by
              rw [HG2.out, ← HQ.out, ← hq1, ← hq2, ← hq3, ← hq4, HP.out.ln, HP.out.ll, HP.out.ld, HP.out.lc])
            clear hq1 hq2 hq3 hq4 hbw hbox hown HG2 HQ
            cases q1
            · go_wp2_with (first
            | (go_at_call 61; (with_reducible refine (refChecks_is _ HV4 hx3.checks (Lib.hid hx3.lc) s4 s1 s3).mono ?_); rintro e wd ⟨rfl, hd4⟩)
            | (go_at_call 60; (with_reducible refine (refDests_is _ HV3 HS.out hx2.dests (Lib.hid hx2.ld) s3 s1).mono ?_); rintro e wc ⟨rfl, hd3⟩; have hx3 := hx2.up hd3; have hk3 := hk2.up hd3; obtain ⟨z0, z1, z2, z3, z4, z5, z6⟩ := box7 hk3)
            | (go_at_call 59; (with_reducible refine (refLinks_is _ HV2 hx1.links (Lib.hid hx1.ll) s2 s1).mono ?_); rintro e wb ⟨rfl, hd2⟩; have hx2 := hx1.up hd2; have hk2 := hk1.up hd2; obtain ⟨y0, y1, y2, y3, y4, y5, y6⟩ := box7 hk2)
            | (go_at_call 58; (with_reducible refine (refNames_is (namesL p) _ HV1 hrow HNL (by omega) HSZ.out).mono ?_); rintro e wa ⟨rfl, hd1⟩; have hx1 := hx0.up hd1; have hk1 := hHB.out.up hd1; obtain ⟨x0, x1, x2, x3, x4, x5, x6⟩ := box7 hk1))
              go_ret
              exact ⟨ret_bool (by rw [HF.out]; rfl), hHW.out.trans (hd1.mono hHW.out.size)⟩
            cases q2
            · go_wp2_with (first
            | (go_at_call 61; (with_reducible refine (refChecks_is _ HV4 hx3.checks (Lib.hid hx3.lc) s4 s1 s3).mono ?_); rintro e wd ⟨rfl, hd4⟩)
            | (go_at_call 60; (with_reducible refine (refDests_is _ HV3 HS.out hx2.dests (Lib.hid hx2.ld) s3 s1).mono ?_); rintro e wc ⟨rfl, hd3⟩; have hx3 := hx2.up hd3; have hk3 := hk2.up hd3; obtain ⟨z0, z1, z2, z3, z4, z5, z6⟩ := box7 hk3)
            | (go_at_call 59; (with_reducible refine (refLinks_is _ HV2 hx1.links (Lib.hid hx1.ll) s2 s1).mono ?_); rintro e wb ⟨rfl, hd2⟩; have hx2 := hx1.up hd2; have hk2 := hk1.up hd2; obtain ⟨y0, y1, y2, y3, y4, y5, y6⟩ := box7 hk2)
            | (go_at_call 58; (with_reducible refine (refNames_is (namesL p) _ HV1 hrow HNL (by omega) HSZ.out).mono ?_); rintro e wa ⟨rfl, hd1⟩; have hx1 := hx0.up hd1; have hk1 := hHB.out.up hd1; obtain ⟨x0, x1, x2, x3, x4, x5, x6⟩ := box7 hk1))
              go_ret
              exact ⟨ret_bool (by rw [HF.out]; rfl), (hHW.out.trans (hd1.mono hHW.out.size)).trans (hd2.mono (Nat.le_trans hHW.out.size hd1.size))⟩
            cases q3
            · go_wp2_with (first
            | (go_at_call 61; (with_reducible refine (refChecks_is _ HV4 hx3.checks (Lib.hid hx3.lc) s4 s1 s3).mono ?_); rintro e wd ⟨rfl, hd4⟩)
            | (go_at_call 60; (with_reducible refine (refDests_is _ HV3 HS.out hx2.dests (Lib.hid hx2.ld) s3 s1).mono ?_); rintro e wc ⟨rfl, hd3⟩; have hx3 := hx2.up hd3; have hk3 := hk2.up hd3; obtain ⟨z0, z1, z2, z3, z4, z5, z6⟩ := box7 hk3)
            | (go_at_call 59; (with_reducible refine (refLinks_is _ HV2 hx1.links (Lib.hid hx1.ll) s2 s1).mono ?_); rintro e wb ⟨rfl, hd2⟩; have hx2 := hx1.up hd2; have hk2 := hk1.up hd2; obtain ⟨y0, y1, y2, y3, y4, y5, y6⟩ := box7 hk2)
            | (go_at_call 58; (with_reducible refine (refNames_is (namesL p) _ HV1 hrow HNL (by omega) HSZ.out).mono ?_); rintro e wa ⟨rfl, hd1⟩; have hx1 := hx0.up hd1; have hk1 := hHB.out.up hd1; obtain ⟨x0, x1, x2, x3, x4, x5, x6⟩ := box7 hk1))
              go_ret
              exact ⟨ret_bool (by rw [HF.out]; rfl), ((hHW.out.trans (hd1.mono hHW.out.size)).trans (hd2.mono (Nat.le_trans hHW.out.size hd1.size))).trans (hd3.mono (Nat.le_trans hHW.out.size (Nat.le_trans hd1.size hd2.size)))⟩
            · go_wp2_with (first
            | (go_at_call 61; (with_reducible refine (refChecks_is _ HV4 hx3.checks (Lib.hid hx3.lc) s4 s1 s3).mono ?_); rintro e wd ⟨rfl, hd4⟩)
            | (go_at_call 60; (with_reducible refine (refDests_is _ HV3 HS.out hx2.dests (Lib.hid hx2.ld) s3 s1).mono ?_); rintro e wc ⟨rfl, hd3⟩; have hx3 := hx2.up hd3; have hk3 := hk2.up hd3; obtain ⟨z0, z1, z2, z3, z4, z5, z6⟩ := box7 hk3)
            | (go_at_call 59; (with_reducible refine (refLinks_is _ HV2 hx1.links (Lib.hid hx1.ll) s2 s1).mono ?_); rintro e wb ⟨rfl, hd2⟩; have hx2 := hx1.up hd2; have hk2 := hk1.up hd2; obtain ⟨y0, y1, y2, y3, y4, y5, y6⟩ := box7 hk2)
            | (go_at_call 58; (with_reducible refine (refNames_is (namesL p) _ HV1 hrow HNL (by omega) HSZ.out).mono ?_); rintro e wa ⟨rfl, hd1⟩; have hx1 := hx0.up hd1; have hk1 := hHB.out.up hd1; obtain ⟨x0, x1, x2, x3, x4, x5, x6⟩ := box7 hk1))
              go_ret
              exact ⟨ret_bool (by rw [HF.out]; first | rfl | simp), (((hHW.out.trans (hd1.mono hHW.out.size)).trans (hd2.mono (Nat.le_trans hHW.out.size hd1.size))).trans (hd3.mono (Nat.le_trans hHW.out.size (Nat.le_trans hd1.size hd2.size)))).trans (hd4.mono (Nat.le_trans hHW.out.size (Nat.le_trans hd1.size (Nat.le_trans hd2.size hd3.size))))⟩
  · clear HPR HCA
    go_enter Try.func35, Try.ntmps35
    go_wp2
    go_loopw [5, 6] (fun v i wr => ∃ (k : Nat) (A : Option Addr) (c : Nat), k ≤ ln ∧ i = .int .i64 (k : Nat) ∧ v = .slice A k c ∧ wr.ownsRow w.heap.size 9 1 (.slice A k c) k (((namesL p).take k).map Value.string) ∧ AllAt (fun _ n => asnB n) p.nodes k ∧ Below w.heap.size w wr ∧ Blk wr w.heap.size 29 #[.int .i64 2, .int .i64 ca, .int .i64 kk, .slice An ln cn, .slice Al ll cl, .slice Ad ld cd, .slice Ac lc cc]) (fun _ i _ => ln - (intOf i).toNat)
    case atStart => exact ⟨0, none, 0, Nat.zero_le _, rfl, rfl, World.ownsRow_nil _ _ _ _, AllAt.start _ _, hbx _, k0⟩
    case round =>
      clear hbx k0
      obtain ⟨k, A, c, hk, rfl, rfl, hown, hat, hbw, hbox⟩ := hrel
      obtain ⟨d0, d1, d2, d3, d4, d5, d6⟩ := box7 hbox
      have hHW := Lib.hid hbw
      have hHB := Lib.hid hbox
      have hx0 := HP.out.up hbw
      by_cases hlt : k < ln
      · obtain ⟨⟨nm, num⟩, hn'⟩ : ∃ n, p.nodes[k]? = some n := ⟨_, List.getElem?_eq_getElem (by rw [HP.out.ln]; exact hlt)⟩
        obtain ⟨g, hAg, hg, c0, c1⟩ := hx0.nodes.node hn'
        dsimp only at c0 c1
        have n0 : (0 : Int) ≤ (k : Int) := by omega
        have n1 : (k : Int) < (ln : Int) := by omega
        have HAT := Lib.hid hat
        have HN := Lib.hid hn'
        have htk := names_take1 p hn'
        have HTK := Lib.hid htk
        have hnx := Lib.hid (cells_new wr [.string nm] 9)
        have hsz := hbw.size
        subst hAg
        clear hat hn' htk hbw hbox hx0
        by_cases hnum : 1 ≤ num ∧ num ≤ 65535
        · obtain ⟨m1, m2⟩ := hnum
          have hat' := HAT.out.next HN.out (by unfold asnB withinB; dsimp only; rw [decide_eq_true m1, decide_eq_true m2]; rfl)
          have HAT2 := Lib.hid hat'
          clear hat'
          go_wp2_with (at_builtin; refine wpList_append_own _ rfl _ _ 62 rfl w.heap.size 9 i0 (.string ⟨#[]⟩) 1 16 Try.underlying62 hi hz0 hz1 hz2 rfl (by decide) _ _ _ rfl (hown.alloc _) ⟨wr.heap.size, 0, none⟩ 1 1 [.string nm] rfl rfl hnx.out (by simp [Value.oneCell']) (by unfold maxLen; omega) (by omega) (by simp; have := hHW.out.size; omega) ?_; intro v' w4 hown4 hgrow4 _)
          all_goals first | (exfalso; omega) | skip
          obtain ⟨A', c', rfl, _⟩ := own_form hown4
          go_roundw
          case rel =>
            refine ⟨k + 1, A', c', by omega, by go_num, rfl, ?_, HAT2.out, (hHW.out.alloc hsz _).grown hgrow4 (by simp; omega) (fun q hq => (hown.lt q hq).1), (hHB.out.alloc _).grown hgrow4 (fun e => own_blk_ne hown hHB.out (by decide) e.symm)⟩
            rw [HTK.out, List.map_append]
            exact hown4
          case measure => simp [intOf]; omega
        · have HF : Hid (refRightB p = false) := Lib.hid (by
            rw [HG.out, HAT.out.stop HN.out (by unfold asnB withinB; dsimp only; rw [Bool.eq_false_iff]; intro e; simp at e; exact hnum e)]
            rfl)
          clear HAT HG
          go_wp2
          all_goals first
            | (exfalso; omega)
            | (go_ret; exact ⟨ret_bool HF.out.symm, hHW.out⟩)
      · have hkk : k = ln := by omega
        have hge : ¬ (k : Int) < (ln : Int) := by omega
        have HG2 : Hid (refRightB p = Q) := Lib.hid (by rw [HG.out, hat.done (by rw [HP.out.ln]; omega)]; rfl)
        subst hkk
        clear hat HG hbw hbox hx0
        go_wp2
        go_loopw [5, 7] (fun v i wr => ∃ (m : Nat) (A : Option Addr) (c : Nat), m ≤ ld ∧ i = .int .i64 (m : Nat) ∧ v = .slice A (k + m) c ∧ wr.ownsRow w.heap.size 9 1 (.slice A (k + m) c) (k + m) (((namesL p).take (k + m)).map Value.string) ∧ Below w.heap.size w wr ∧ Blk wr w.heap.size 29 #[.int .i64 2, .int .i64 ca, .int .i64 kk, .slice An k cn, .slice Al ll cl, .slice Ad ld cd, .slice Ac lc cc]) (fun _ i _ => ld - (intOf i).toNat)
        case atStart => exact ⟨0, A, c, Nat.zero_le _, rfl, rfl, hown, hHW.out, hHB.out⟩
        case round =>
          clear hown hHW hHB d0 d1 d2 d3 d4 d5 d6
          obtain ⟨m, A, c, hm, rfl, rfl, hown, hbw, hbox⟩ := hrel
          obtain ⟨d0, d1, d2, d3, d4, d5, d6⟩ := box7 hbox
          have hHW := Lib.hid hbw
          have hHB := Lib.hid hbox
          have hx0 := HP.out.up hbw
          by_cases hlt : m < ld
          · obtain ⟨⟨nm, og⟩, hn'⟩ : ∃ n, p.dests[m]? = some n := ⟨_, List.getElem?_eq_getElem (by rw [HP.out.ld]; exact hlt)⟩
            obtain ⟨g, Ao, co, hAg, hg, c0, c1, _⟩ := hx0.dests.dest hn'
            dsimp only at c0 c1
            have n0 : (0 : Int) ≤ (m : Int) := by omega
            have n1 : (m : Int) < (ld : Int) := by omega
            have htk := names_take2 p hn'
            rw [HP.out.ln] at htk
            have HTK := Lib.hid htk
            have hnx := Lib.hid (cells_new wr [.string nm] 9)
            have hsz := hbw.size
            subst hAg
            clear hn' htk hbw hbox hx0
            go_wp2_with (at_builtin; refine wpList_append_own _ rfl _ _ 62 rfl w.heap.size 9 i0 (.string ⟨#[]⟩) 1 16 Try.underlying62 hi hz0 hz1 hz2 rfl (by decide) _ _ _ rfl (hown.alloc _) ⟨wr.heap.size, 0, none⟩ 1 1 [.string nm] rfl rfl hnx.out (by simp [Value.oneCell']) (by unfold maxLen; omega) (by omega) (by simp; have := hHW.out.size; omega) ?_; intro v' w4 hown4 hgrow4 _)
            obtain ⟨A', c', rfl, _⟩ := own_form hown4
            go_roundw
            case rel =>
              refine ⟨m + 1, A', c', by omega, by go_num, rfl, ?_, (hHW.out.alloc hsz _).grown hgrow4 (by simp; omega) (fun q hq => (hown.lt q hq).1), (hHB.out.alloc _).grown hgrow4 (fun e => own_blk_ne hown hHB.out (by decide) e.symm)⟩
              rw [HTK.out, List.map_append]
              exact hown4
            case measure => simp [intOf]; omega
          · have hmm : m = ld := by omega
            have hge2 : ¬ (m : Int) < (ld : Int) := by omega
            subst hmm
            have HNL : Hid ((namesL p).length = k + m) := Lib.hid (by rw [names_len, HP.out.ln, HP.out.ld])
            rw [← HNL.out, List.take_length, HNL.out] at hown
            have hrow := RowAt.of_own hown
            have HSZ : Hid (∀ x ∈ namesL p, x.size ≤ 9223372036854775807) := Lib.hid fun x hx => by
              unfold namesL at hx
              rcases List.mem_append.1 hx with hx | hx
              · obtain ⟨n, hn, rfl⟩ := List.mem_map.1 hx
                exact Nat.le_trans (HS.out.nodes n hn) (by omega)
              · obtain ⟨n, hn, rfl⟩ := List.mem_map.1 hx
                exact Nat.le_trans (HS.out.dests n hn).1 (by omega)
            obtain ⟨q1, hq1⟩ : ∃ q, allF (nameAt (namesL p)) (namesL p) 0 = q := ⟨_, rfl⟩
            obtain ⟨q2, hq2⟩ : ∃ q, (allF (refLinkOk k p.links) p.links 0 && decide (ll ≤ 16)) = q := ⟨_, rfl⟩
            obtain ⟨q3, hq3⟩ : ∃ q, (allF (fun _ d => refDestOk k d) p.dests 0 && decide (m ≤ 4)) = q := ⟨_, rfl⟩
            obtain ⟨q4, hq4⟩ : ∃ q, (allF (fun _ c => refCheckOk k m c) p.checks 0 && decide (lc ≤ 16)) = q := ⟨_, rfl⟩
            have HV1 := Lib.hid hq1
            have HV2 := Lib.hid hq2
            have HV3 := Lib.hid hq3
            have HV4 := Lib.hid hq4
            have HF : Hid (refRightB p = (q1 && (q2 && (q3 && q4)))) := Lib.hid (by
              rw [HG2.out, ← HQ.out, ← hq1, ← hq2, ← hq3, ← hq4, HP.out.ln, HP.out.ll, HP.out.ld, HP.out.lc])
            clear hq1 hq2 hq3 hq4 hbw hbox hown HG2 HQ
            cases q1
            · go_wp2_with (first
            | (go_at_call 61; (with_reducible refine (refChecks_is _ HV4 hx3.checks (Lib.hid hx3.lc) s4 s1 s3).mono ?_); rintro e wd ⟨rfl, hd4⟩)
            | (go_at_call 60; (with_reducible refine (refDests_is _ HV3 HS.out hx2.dests (Lib.hid hx2.ld) s3 s1).mono ?_); rintro e wc ⟨rfl, hd3⟩; have hx3 := hx2.up hd3; have hk3 := hk2.up hd3; obtain ⟨z0, z1, z2, z3, z4, z5, z6⟩ := box7 hk3)
            | (go_at_call 59; (with_reducible refine (refLinks_is _ HV2 hx1.links (Lib.hid hx1.ll) s2 s1).mono ?_); rintro e wb ⟨rfl, hd2⟩; have hx2 := hx1.up hd2; have hk2 := hk1.up hd2; obtain ⟨y0, y1, y2, y3, y4, y5, y6⟩ := box7 hk2)
            | (go_at_call 58; (with_reducible refine (refNames_is (namesL p) _ HV1 hrow HNL (by omega) HSZ.out).mono ?_); rintro e wa ⟨rfl, hd1⟩; have hx1 := hx0.up hd1; have hk1 := hHB.out.up hd1; obtain ⟨x0, x1, x2, x3, x4, x5, x6⟩ := box7 hk1))
              go_ret
              exact ⟨ret_bool (by rw [HF.out]; rfl), hHW.out.trans (hd1.mono hHW.out.size)⟩
            cases q2
            · go_wp2_with (first
            | (go_at_call 61; (with_reducible refine (refChecks_is _ HV4 hx3.checks (Lib.hid hx3.lc) s4 s1 s3).mono ?_); rintro e wd ⟨rfl, hd4⟩)
            | (go_at_call 60; (with_reducible refine (refDests_is _ HV3 HS.out hx2.dests (Lib.hid hx2.ld) s3 s1).mono ?_); rintro e wc ⟨rfl, hd3⟩; have hx3 := hx2.up hd3; have hk3 := hk2.up hd3; obtain ⟨z0, z1, z2, z3, z4, z5, z6⟩ := box7 hk3)
            | (go_at_call 59; (with_reducible refine (refLinks_is _ HV2 hx1.links (Lib.hid hx1.ll) s2 s1).mono ?_); rintro e wb ⟨rfl, hd2⟩; have hx2 := hx1.up hd2; have hk2 := hk1.up hd2; obtain ⟨y0, y1, y2, y3, y4, y5, y6⟩ := box7 hk2)
            | (go_at_call 58; (with_reducible refine (refNames_is (namesL p) _ HV1 hrow HNL (by omega) HSZ.out).mono ?_); rintro e wa ⟨rfl, hd1⟩; have hx1 := hx0.up hd1; have hk1 := hHB.out.up hd1; obtain ⟨x0, x1, x2, x3, x4, x5, x6⟩ := box7 hk1))
              go_ret
              exact ⟨ret_bool (by rw [HF.out]; rfl), (hHW.out.trans (hd1.mono hHW.out.size)).trans (hd2.mono (Nat.le_trans hHW.out.size hd1.size))⟩
            cases q3
            · go_wp2_with (first
            | (go_at_call 61; (with_reducible refine (refChecks_is _ HV4 hx3.checks (Lib.hid hx3.lc) s4 s1 s3).mono ?_); rintro e wd ⟨rfl, hd4⟩)
            | (go_at_call 60; (with_reducible refine (refDests_is _ HV3 HS.out hx2.dests (Lib.hid hx2.ld) s3 s1).mono ?_); rintro e wc ⟨rfl, hd3⟩; have hx3 := hx2.up hd3; have hk3 := hk2.up hd3; obtain ⟨z0, z1, z2, z3, z4, z5, z6⟩ := box7 hk3)
            | (go_at_call 59; (with_reducible refine (refLinks_is _ HV2 hx1.links (Lib.hid hx1.ll) s2 s1).mono ?_); rintro e wb ⟨rfl, hd2⟩; have hx2 := hx1.up hd2; have hk2 := hk1.up hd2; obtain ⟨y0, y1, y2, y3, y4, y5, y6⟩ := box7 hk2)
            | (go_at_call 58; (with_reducible refine (refNames_is (namesL p) _ HV1 hrow HNL (by omega) HSZ.out).mono ?_); rintro e wa ⟨rfl, hd1⟩; have hx1 := hx0.up hd1; have hk1 := hHB.out.up hd1; obtain ⟨x0, x1, x2, x3, x4, x5, x6⟩ := box7 hk1))
              go_ret
              exact ⟨ret_bool (by rw [HF.out]; rfl), ((hHW.out.trans (hd1.mono hHW.out.size)).trans (hd2.mono (Nat.le_trans hHW.out.size hd1.size))).trans (hd3.mono (Nat.le_trans hHW.out.size (Nat.le_trans hd1.size hd2.size)))⟩
            · go_wp2_with (first
            | (go_at_call 61; (with_reducible refine (refChecks_is _ HV4 hx3.checks (Lib.hid hx3.lc) s4 s1 s3).mono ?_); rintro e wd ⟨rfl, hd4⟩)
            | (go_at_call 60; (with_reducible refine (refDests_is _ HV3 HS.out hx2.dests (Lib.hid hx2.ld) s3 s1).mono ?_); rintro e wc ⟨rfl, hd3⟩; have hx3 := hx2.up hd3; have hk3 := hk2.up hd3; obtain ⟨z0, z1, z2, z3, z4, z5, z6⟩ := box7 hk3)
            | (go_at_call 59; (with_reducible refine (refLinks_is _ HV2 hx1.links (Lib.hid hx1.ll) s2 s1).mono ?_); rintro e wb ⟨rfl, hd2⟩; have hx2 := hx1.up hd2; have hk2 := hk1.up hd2; obtain ⟨y0, y1, y2, y3, y4, y5, y6⟩ := box7 hk2)
            | (go_at_call 58; (with_reducible refine (refNames_is (namesL p) _ HV1 hrow HNL (by omega) HSZ.out).mono ?_); rintro e wa ⟨rfl, hd1⟩; have hx1 := hx0.up hd1; have hk1 := hHB.out.up hd1; obtain ⟨x0, x1, x2, x3, x4, x5, x6⟩ := box7 hk1))
              go_ret
              exact ⟨ret_bool (by rw [HF.out]; first | rfl | simp), (((hHW.out.trans (hd1.mono hHW.out.size)).trans (hd2.mono (Nat.le_trans hHW.out.size hd1.size))).trans (hd3.mono (Nat.le_trans hHW.out.size (Nat.le_trans hd1.size hd2.size)))).trans (hd4.mono (Nat.le_trans hHW.out.size (Nat.le_trans hd1.size (Nat.le_trans hd2.size hd3.size))))⟩
theorem RefRight_is {p : PPlan} (b : Bool) (H : Hid (rightB p = b)) (hs : PSmall p) {pr ca kk : Int} {An Al Ad Ac : Option Addr} {ln cn ll cl ld cd lc cc : Nat} {w : World} (h : PAt w p pr ca kk An ln Al ll Ad ld Ac lc) :
    Calls Try.prog 35 #[.agg #[.int .i64 pr, .int .i64 ca, .int .i64 kk, .slice An ln cn, .slice Al ll cl, .slice Ad ld cd, .slice Ac lc cc]] w fun e w' => e = .returned (.bool b) ∧ Below w.heap.size w w' :=
  (RefRight_any hs h).mono fun _ _ ⟨he, hw⟩ => ⟨by rw [he, refRight_eq, H.out], hw⟩
end Go.Proofs.Ytlfdpfkimggeoaa
