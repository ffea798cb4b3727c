/-
  The document's own Right: links.
-/
import Derived.Test.YtdmilbfdiebjgaaDoorPlUa
namespace Go.Proofs.YtdmilbfdiebjgaaDoor
open Go.RowKit
set_option linter.unusedVariables false
set_option linter.unusedSimpArgs false

def refLinkOk (ln : Nat) (ls : List PLink) (i : Nat) (l : PLink) : Bool := placeB l.a ln && (placeB l.b ln && (decide (l.a < l.b) && (decide (1 ≤ l.cost) && (decide (l.cost ≤ 15) && (ls.take i).all fun m => !(decide (m.a = l.a) && decide (m.b = l.b))))))
set_option maxHeartbeats 4000000 in
set_option maxRecDepth 100000 in
theorem refLinks_any (p : PPlan) {pr ca kk : Int} {An Al Ad Ac : Option Addr} {ln cn ll cl ld cd lc cc : Nat} {w : World} (h : RowAt w w.heap.size Al (p.links.flatMap linkC)) (hl : Hid (p.links.length = ll)) (hm : ll ≤ 4096) (hn : ln ≤ 4096) :
    Calls Tryd.prog 33 #[.agg #[.int .i64 pr, .int .i64 ca, .int .i64 kk, .slice An ln cn, .slice Al ll cl, .slice Ad ld cd, .slice Ac lc cc]] w fun e w' => e = .returned (.bool (allF (refLinkOk ln p.links) p.links 0 && decide (ll ≤ 16))) ∧ Below w.heap.size w w' := by
  have HBX := Lib.hid (fun c0 c1 c2 c3 c4 c5 c6 => Blk.new w 29 #[c0, c1, c2, c3, c4, c5, c6])
  have hbx := fun o => below_new w o
  go_enter Tryd.func33, Tryd.ntmps33
  go_wp2
  go_loopw [3] (fun i wr => ∃ k : Nat, k ≤ ll ∧ i = .int .i64 (k : Nat) ∧ AllAt (refLinkOk ln p.links) p.links k ∧ Below w.heap.size w wr ∧ Blk wr w.heap.size 29 #[.int .i64 pr, .int .i64 ca, .int .i64 kk, .slice An ln cn, .slice Al ll cl, .slice Ad ld cd, .slice Ac lc cc]) (fun i _ => ll - (intOf i).toNat)
  case atStart => exact ⟨0, Nat.zero_le _, rfl, AllAt.start _ _, hbx _, HBX.out _ _ _ _ _ _ _⟩
  case round =>
    clear hbx HBX
    obtain ⟨k, hk, rfl, hat, hbw, hbox⟩ := hrel
    by_cases hlt : k < ll
    · obtain ⟨⟨la, lb, lco⟩, hn'⟩ : ∃ n, p.links[k]? = some n := ⟨_, List.getElem?_eq_getElem (by rw [hl.out]; exact hlt)⟩
      obtain ⟨d0, d1, d2, d3, d4, d5, d6⟩ := box7a hbox
      obtain ⟨b0, b1, b2, b3, b4, b5, b6⟩ := box7 hbox
      have hup := h.up hbw
      obtain ⟨g, hAg, hg, c0, c1, c2⟩ := hup.link hn'
      dsimp only at c0 c1 c2
      have hB4 := Blk.new wr 43 #[.int .i64 la, .int .i64 lb, .int .i64 lco]
      have q0 := hB4.cell 0
      have q1 := hB4.cell 1
      have q2 := hB4.cell 2
      have n0 : (0 : Int) ≤ (k : Int) := by omega
      have n1 : (k : Int) < (ll : Int) := by omega
      have HH := Lib.hid h
      have HAT := Lib.hid hat
      have HL := Lib.hid hn'
      subst hAg
      clear hup h hat hn'
      obtain ⟨v1, e1⟩ : ∃ b, placeB la ln = b := ⟨_, rfl⟩
      have H1 := Lib.hid e1
      obtain ⟨v2, e2⟩ : ∃ b, placeB lb ln = b := ⟨_, rfl⟩
      have H2 := Lib.hid e2
      cases v1
      · have HF : Hid (allF (refLinkOk ln p.links) p.links 0 = false) := Lib.hid (HAT.out.stop HL.out (by unfold refLinkOk; dsimp only; rw [e1]; rfl))
        clear e1 e2 HAT
        go_wp2_with (go_at_call 56; (first | (with_reducible refine (refPlace_is la ln (by omega) _ H1 _).mono ?_) | (with_reducible refine (refPlace_is lb ln (by omega) _ H2 _).mono ?_)); rintro e w2 ⟨rfl, rfl⟩)
        go_ret
        exact ⟨ret_bool (by rw [HF.out]; rfl), hbw.alloc hbw.size _⟩
      cases v2
      · have HF : Hid (allF (refLinkOk ln p.links) p.links 0 = false) := Lib.hid (HAT.out.stop HL.out (by unfold refLinkOk; dsimp only; rw [e1, e2]; rfl))
        clear e1 e2 HAT
        go_wp2_with (go_at_call 56; (first | (with_reducible refine (refPlace_is la ln (by omega) _ H1 _).mono ?_) | (with_reducible refine (refPlace_is lb ln (by omega) _ H2 _).mono ?_)); rintro e w2 ⟨rfl, rfl⟩)
        go_ret
        exact ⟨ret_bool (by rw [HF.out]; rfl), hbw.alloc hbw.size _⟩
      by_cases h3 : la < lb
      case neg =>
        have HF : Hid (allF (refLinkOk ln p.links) p.links 0 = false) := Lib.hid (HAT.out.stop HL.out (by unfold refLinkOk; dsimp only; rw [e1, e2, decide_eq_false h3]; rfl))
        clear e1 e2 HAT
        go_wp2_with (go_at_call 56; (first | (with_reducible refine (refPlace_is la ln (by omega) _ H1 _).mono ?_) | (with_reducible refine (refPlace_is lb ln (by omega) _ H2 _).mono ?_)); rintro e w2 ⟨rfl, rfl⟩)
        go_ret
        exact ⟨ret_bool (by rw [HF.out]; rfl), hbw.alloc hbw.size _⟩
      by_cases h4 : 1 ≤ lco
      case neg =>
        have HF : Hid (allF (refLinkOk ln p.links) p.links 0 = false) := Lib.hid (HAT.out.stop HL.out (by unfold refLinkOk; dsimp only; rw [e1, e2, decide_eq_true h3, decide_eq_false h4]; rfl))
        clear e1 e2 HAT
        go_wp2_with (go_at_call 56; (first | (with_reducible refine (refPlace_is la ln (by omega) _ H1 _).mono ?_) | (with_reducible refine (refPlace_is lb ln (by omega) _ H2 _).mono ?_)); rintro e w2 ⟨rfl, rfl⟩)
        go_ret
        exact ⟨ret_bool (by rw [HF.out]; rfl), hbw.alloc hbw.size _⟩
      by_cases h5 : lco ≤ 15
      case neg =>
        have HF : Hid (allF (refLinkOk ln p.links) p.links 0 = false) := Lib.hid (HAT.out.stop HL.out (by unfold refLinkOk; dsimp only; rw [e1, e2, decide_eq_true h3, decide_eq_true h4, decide_eq_false h5]; rfl))
        clear e1 e2 HAT
        go_wp2_with (go_at_call 56; (first | (with_reducible refine (refPlace_is la ln (by omega) _ H1 _).mono ?_) | (with_reducible refine (refPlace_is lb ln (by omega) _ H2 _).mono ?_)); rintro e w2 ⟨rfl, rfl⟩)
        go_ret
        exact ⟨ret_bool (by rw [HF.out]; rfl), hbw.alloc hbw.size _⟩
      go_wp2_with (go_at_call 56; (first | (with_reducible refine (refPlace_is la ln (by omega) _ H1 _).mono ?_) | (with_reducible refine (refPlace_is lb ln (by omega) _ H2 _).mono ?_)); rintro e w2 ⟨rfl, rfl⟩)
      have hBw := hbw.alloc hbw.size (.cells #[.int .i64 la, .int .i64 lb, .int .i64 lco] 43)
      have hBx := hbox.alloc (.cells #[.int .i64 la, .int .i64 lb, .int .i64 lco] 43)
      clear c0 c1 c2 d0 d1 d2 d3 d4 d5 d6 b0 b1 b2 b3 b4 b5 b6 q0 q1 q2
      go_loopw [5] (fun s wr2 => ∃ j : Nat, j ≤ k ∧ s = .int .i64 (j : Nat) ∧ (p.links.take j).all (fun m => !(decide (m.a = la) && decide (m.b = lb))) = true ∧ Blk wr2 wr.heap.size 43 #[.int .i64 la, .int .i64 lb, .int .i64 lco] ∧ Blk wr2 w.heap.size 29 #[.int .i64 pr, .int .i64 ca, .int .i64 kk, .slice An ln cn, .slice (some ⟨g, 0, none⟩) ll cl, .slice Ad ld cd, .slice Ac lc cc] ∧ Below w.heap.size w wr2) (fun s _ => k - (intOf s).toNat)
      case atStart => exact ⟨0, Nat.zero_le _, rfl, rfl, hB4, hBx, hBw⟩
      case round =>
        clear hB4 hBx hBw
        obtain ⟨j, hj, rfl, hall, hB4, hBx, hBw⟩ := hrel
        obtain ⟨d0, d1, d2, d3, d4, d5, d6⟩ := box7 hBx
        have q0 := hB4.cell 0
        have q1 := hB4.cell 1
        by_cases hlt2 : j < k
        · obtain ⟨⟨ma, mb, mco⟩, hm'⟩ : ∃ n, p.links[j]? = some n := ⟨_, List.getElem?_eq_getElem (by rw [hl.out]; omega)⟩
          obtain ⟨g', hAg, hg', c0, c1, c2⟩ := (HH.out.up hBw).link hm'
          dsimp only at c0 c1 c2
          injection hAg with hAg
          injection hAg with hAg _ _
          subst hAg
          have HM := Lib.hid hm'
          have HALL := Lib.hid hall
          have j0 : (0 : Int) ≤ (j : Int) := by omega
          have j1 : (j : Int) < (ll : Int) := by omega
          have j2 : (j : Int) < (k : Int) := by omega
          clear hm' hall
          by_cases ea : ma = la
          · by_cases eb : mb = lb
            · have HF : Hid (allF (refLinkOk ln p.links) p.links 0 = false) := Lib.hid (HAT.out.stop HL.out (by
                unfold refLinkOk
                dsimp only
                rw [e1, e2, decide_eq_true h3, decide_eq_true h4, decide_eq_true h5, Bool.true_and, Bool.true_and, Bool.true_and, Bool.true_and, Bool.true_and, List.all_eq_false]
                exact ⟨⟨ma, mb, mco⟩, List.mem_of_getElem? (i := j) (by rw [List.getElem?_take_of_lt hlt2]; exact HM.out), by simp [ea, eb]⟩))
              have t1 : (ma == la) = true := by simp [ea]
              have t2 : (mb == lb) = true := by simp [eb]
              clear ea eb
              go_upto_region 20 with (fail)
              go_quiet (fail)
              go_wp2
              go_ret
              exact ⟨ret_bool (by rw [HF.out]; rfl), below_draws hBw _⟩
            · have HN : Hid ((p.links.take (j + 1)).all (fun m => !(decide (m.a = la) && decide (m.b = lb))) = true) := Lib.hid (by
                rw [List.take_add_one, HM.out, List.all_append, HALL.out]
                simp [eb])
              have t1 : (ma == la) = true := by simp [ea]
              have t2 : (mb == lb) = false := by simp [eb]
              clear ea eb
              go_upto_region 20 with (fail)
              go_quiet (fail)
              go_wp2
              go_roundw
              case rel => exact ⟨j + 1, by omega, by go_num, HN.out, hB4.up (below_draws (Below.refl _ _) _), hBx.up (below_draws (Below.refl _ _) _), below_draws hBw _⟩
              case measure => simp [intOf]; omega
          · have HN : Hid ((p.links.take (j + 1)).all (fun m => !(decide (m.a = la) && decide (m.b = lb))) = true) := Lib.hid (by
              rw [List.take_add_one, HM.out, List.all_append, HALL.out]
              simp [ea])
            have t1 : (ma == la) = false := by simp [ea]
            clear ea
            go_upto_region 20 with (fail)
            go_quiet (fail)
            go_wp2
            go_roundw
            case rel => exact ⟨j + 1, by omega, by go_num, HN.out, hB4.up (below_draws (Below.refl _ _) _), hBx.up (below_draws (Below.refl _ _) _), below_draws hBw _⟩
            case measure => simp [intOf]; omega
        · have hjk : j = k := by omega
          subst hjk
          have hat' := HAT.out.next HL.out (by
            unfold refLinkOk
            dsimp only
            rw [e1, e2, decide_eq_true h3, decide_eq_true h4, decide_eq_true h5, hall]
            rfl)
          have HAT2 := Lib.hid hat'
          have hge : ¬ (j : Int) < (j : Int) := by omega
          clear hall hat'
          go_wp2
          go_roundw
          case rel => exact ⟨j + 1, by omega, by go_num, HAT2.out, hBw, hBx⟩
          case measure => simp [intOf]; omega
    · have HF : Hid (allF (refLinkOk ln p.links) p.links 0 = true) := Lib.hid (hat.done (by rw [hl.out]; omega))
      obtain ⟨b0, b1, b2, b3, b4, b5, b6⟩ := box7 hbox
      have hge : ¬ (k : Int) < (ll : Int) := by omega
      go_wp2
      go_ret
      exact ⟨ret_bool (by rw [HF.out, Bool.true_and]; first | rfl | (simp; done) | (simp; omega)), hbw⟩
end Go.Proofs.YtdmilbfdiebjgaaDoor
