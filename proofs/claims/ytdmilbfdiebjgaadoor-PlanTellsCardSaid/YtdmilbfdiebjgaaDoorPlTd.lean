/-
  The document's own Same.
-/
import Derived.Deep.QuietTactic
import Derived.BigQuiet
import Derived.Test.YtdmilbfdiebjgaaDoorPlQ
import Derived.Test.YtdmilbfdiebjgaaDoorPmA
namespace Go.Proofs.YtdmilbfdiebjgaaDoor
open Go.RowKit
set_option linter.unusedVariables false
set_option linter.unusedSimpArgs false

/-- Two networks in boxes of the call's own. -/
structure TwoSt (w0 : World) (c d : Array Value) (w : World) : Prop where
  up : Below w0.heap.size w0 w
  b1 : Blk w w0.heap.size 29 c
  b2 : Blk w (w0.heap.size + 1) 29 d
theorem TwoSt.go {w0 w w' : World} {c d : Array Value} (h : TwoSt w0 c d w) (hb : Below w.heap.size w w') : TwoSt w0 c d w' := ⟨h.up.trans (hb.mono h.up.size), h.b1.up hb, h.b2.up hb⟩
theorem TwoSt.new (w : World) (c d : Array Value) : TwoSt w c d ((w.alloc (.cells c 29)).alloc (.cells d 29)) := by
  have h := Blk.new (w.alloc (.cells c 29)) 29 d
  rw [World.size_alloc] at h
  exact ⟨((Below.refl _ w).alloc (Nat.le_refl _) _).alloc (by simp) _, (Blk.new w _ _).alloc _, h⟩
set_option maxHeartbeats 8000000 in
set_option maxRecDepth 100000 in
theorem RefSame_is {p q : PPlan} (b : Bool) (H : Hid (sameB p q = b)) (hs : PSmall p) (hs2 : PSmall q) {pr ca kk pr2 ca2 kk2 : Int} {An Al Ad Ac An2 Al2 Ad2 Ac2 : Option Addr} {ln cn ll cl ld cd lc cc ln2 cn2 ll2 cl2 ld2 cd2 lc2 cc2 : Nat} {w : World}
    (h : PAt w p pr ca kk An ln Al ll Ad ld Ac lc) (h2 : PAt w q pr2 ca2 kk2 An2 ln2 Al2 ll2 Ad2 ld2 Ac2 lc2) :
    Calls Tryd.prog 12 #[.agg #[.int .i64 pr, .int .i64 ca, .int .i64 kk, .slice An ln cn, .slice Al ll cl, .slice Ad ld cd, .slice Ac lc cc], .agg #[.int .i64 pr2, .int .i64 ca2, .int .i64 kk2, .slice An2 ln2 cn2, .slice Al2 ll2 cl2, .slice Ad2 ld2 cd2, .slice Ac2 lc2 cc2]] w fun e w' => e = .returned (.bool b) ∧ Below w.heap.size w w' := by
  have HBB := H.out
  unfold sameB at HBB
  rw [h.pr, h2.pr, h.ca, h2.ca, h.kk, h2.kk] at HBB
  have hbb := ((Below.refl w.heap.size w).alloc (Nat.le_refl _) (.cells #[.int .i64 pr, .int .i64 ca, .int .i64 kk, .slice An ln cn, .slice Al ll cl, .slice Ad ld cd, .slice Ac lc cc] 29)).alloc (by simp) (.cells #[.int .i64 pr2, .int .i64 ca2, .int .i64 kk2, .slice An2 ln2 cn2, .slice Al2 ll2 cl2, .slice Ad2 ld2 cd2, .slice Ac2 lc2 cc2] 29)
  have s1 := hs.ln
  have s2 := hs.ll
  have s3 := hs.ld
  have s4 := hs.lc
  have u1 := hs2.ln
  have u2 := hs2.ll
  have u3 := hs2.ld
  have u4 := hs2.lc
  rw [h.ln] at s1
  rw [h.ll] at s2
  rw [h.ld] at s3
  rw [h.lc] at s4
  rw [h2.ln] at u1
  rw [h2.ll] at u2
  rw [h2.ld] at u3
  rw [h2.lc] at u4
  have HP := Lib.hid h
  have HQ := Lib.hid h2
  have HS1 := Lib.hid hs.dests
  have HS2 := Lib.hid hs2.dests
  clear h h2
  by_cases e_pr : pr = pr2
  · subst e_pr
    rw [decide_eq_true rfl, Bool.true_and] at HBB
    by_cases e_ca : ca = ca2
    · subst e_ca
      rw [decide_eq_true rfl, Bool.true_and] at HBB
      by_cases e_kk : kk = kk2
      · subst e_kk
        rw [decide_eq_true rfl, Bool.true_and] at HBB
        by_cases e_ln : ln = ln2
        · subst e_ln
          by_cases e_ll : ll = ll2
          · subst e_ll
            by_cases e_ld : ld = ld2
            · subst e_ld
              by_cases e_lc : lc = lc2
              · subst e_lc
                have HB : Hid (b = (eqF nodeEq p.nodes q.nodes && (eqF linkEq p.links q.links && (eqF destEq p.dests q.dests && eqF checkEq p.checks q.checks)))) := Lib.hid HBB.symm
                have hst := TwoSt.new w #[.int .i64 pr, .int .i64 ca, .int .i64 kk, .slice An ln cn, .slice Al ll cl, .slice Ad ld cd, .slice Ac lc cc] #[.int .i64 pr, .int .i64 ca, .int .i64 kk, .slice An2 ln cn2, .slice Al2 ll cl2, .slice Ad2 ld cd2, .slice Ac2 lc cc2]
                clear HBB hbb H hs hs2
                go_enter Tryd.func12, Tryd.ntmps12
                go_wp2
                go_loopw [5] (fun s wr => ∃ k : Nat, k ≤ ln ∧ s = .int .i64 (k : Nat) ∧ EqAt nodeEq p.nodes q.nodes k ∧ TwoSt w #[.int .i64 pr, .int .i64 ca, .int .i64 kk, .slice An ln cn, .slice Al ll cl, .slice Ad ld cd, .slice Ac lc cc] #[.int .i64 pr, .int .i64 ca, .int .i64 kk, .slice An2 ln cn2, .slice Al2 ll cl2, .slice Ad2 ld cd2, .slice Ac2 lc cc2] wr) (fun s _ => ln - (intOf s).toNat)
                case atStart => exact ⟨0, Nat.zero_le _, rfl, rfl, hst⟩
                case round =>
                  clear hst
                  obtain ⟨k, hk, rfl, hat, hst⟩ := hrel
                  have q3 := hst.b1.cell 3
                  have q4 := hst.b1.cell 4
                  have q5 := hst.b1.cell 5
                  have q6 := hst.b1.cell 6
                  have r3 := hst.b2.cell 3
                  have r4 := hst.b2.cell 4
                  have r5 := hst.b2.cell 5
                  have r6 := hst.b2.cell 6
                  by_cases hlt : k < ln
                  · obtain ⟨x, hx⟩ : ∃ x, p.nodes[k]? = some x := ⟨_, List.getElem?_eq_getElem (by rw [HP.out.ln]; exact hlt)⟩
                    obtain ⟨y, hy⟩ : ∃ y, q.nodes[k]? = some y := ⟨_, List.getElem?_eq_getElem (by rw [HQ.out.ln]; exact hlt)⟩
                    obtain ⟨g, hg0, hg, c0, c1⟩ := (HP.out.up hst.up).nodes.node hx
                    obtain ⟨g', hg0', hg', d0, d1⟩ := (HQ.out.up hst.up).nodes.node hy
                    have i1 : (0 : Int) ≤ (k : Int) := by omega
                    have i2 : (k : Int) < (ln : Int) := by omega
                    obtain ⟨r, hr⟩ : ∃ r, nodeEq x y = r := ⟨_, rfl⟩
                    have hneq := fun w => node_neq x y r (Lib.hid hr) w
                    subst hg0 hg0'
                    cases r
                    · have HE : Hid (b = false) := Lib.hid (by rw [HB.out, hat.stop hx hy hr] <;> simp)
                      clear hr hx hy hat
                      go_wp2
                      go_quiet (fail)
                      go_wp2
                      go_ret
                      exact ⟨ret_bool HE.out.symm, below_draws hst.up _⟩
                    · have hat' := hat.next hx hy hr
                      clear hr hx hy hat
                      go_wp2
                      go_quiet (fail)
                      go_wp2
                      go_roundw
                      case rel => exact ⟨k + 1, by omega, by go_num, hat', hst.go (below_draws (Below.refl _ _) _)⟩
                      case measure => simp [intOf]; omega
                  · have hdone := hat.done (by rw [HP.out.ln]; omega) (by rw [HQ.out.ln]; omega)
                    have hge : ¬ (k : Int) < (ln : Int) := by omega
                    have HB0 := HB.out
                    rw [hdone] at HB0
                    first | rw [Bool.true_and] at HB0 | skip
                    clear hdone hat HB
                    have HB := Lib.hid HB0
                    clear HB0
                    obtain ⟨wq, rfl⟩ : ∃ wq : World, wq = wr := ⟨_, rfl⟩
                    go_wp2
                    go_loopw [6] (fun s wr => ∃ k : Nat, k ≤ ll ∧ s = .int .i64 (k : Nat) ∧ EqAt linkEq p.links q.links k ∧ TwoSt w #[.int .i64 pr, .int .i64 ca, .int .i64 kk, .slice An ln cn, .slice Al ll cl, .slice Ad ld cd, .slice Ac lc cc] #[.int .i64 pr, .int .i64 ca, .int .i64 kk, .slice An2 ln cn2, .slice Al2 ll cl2, .slice Ad2 ld cd2, .slice Ac2 lc cc2] wr) (fun s _ => ll - (intOf s).toNat)
                    case atStart => exact ⟨0, Nat.zero_le _, rfl, rfl, hst⟩
                    case round =>
                      clear hst
                      obtain ⟨k, hk, rfl, hat, hst⟩ := hrel
                      have q3 := hst.b1.cell 3
                      have q4 := hst.b1.cell 4
                      have q5 := hst.b1.cell 5
                      have q6 := hst.b1.cell 6
                      have r3 := hst.b2.cell 3
                      have r4 := hst.b2.cell 4
                      have r5 := hst.b2.cell 5
                      have r6 := hst.b2.cell 6
                      by_cases hlt : k < ll
                      · obtain ⟨x, hx⟩ : ∃ x, p.links[k]? = some x := ⟨_, List.getElem?_eq_getElem (by rw [HP.out.ll]; exact hlt)⟩
                        obtain ⟨y, hy⟩ : ∃ y, q.links[k]? = some y := ⟨_, List.getElem?_eq_getElem (by rw [HQ.out.ll]; exact hlt)⟩
                        obtain ⟨g, hg0, hg, c0, c1, c2⟩ := (HP.out.up hst.up).links.link hx
                        obtain ⟨g', hg0', hg', d0, d1, d2⟩ := (HQ.out.up hst.up).links.link hy
                        have i1 : (0 : Int) ≤ (k : Int) := by omega
                        have i2 : (k : Int) < (ll : Int) := by omega
                        obtain ⟨r, hr⟩ : ∃ r, linkEq x y = r := ⟨_, rfl⟩
                        have hneq := fun w => link_neq x y r (Lib.hid hr) w
                        subst hg0 hg0'
                        cases r
                        · have HE : Hid (b = false) := Lib.hid (by rw [HB.out, hat.stop hx hy hr] <;> simp)
                          clear hr hx hy hat
                          go_wp2
                          go_quiet (fail)
                          go_wp2
                          go_ret
                          exact ⟨ret_bool HE.out.symm, below_draws hst.up _⟩
                        · have hat' := hat.next hx hy hr
                          clear hr hx hy hat
                          go_wp2
                          go_quiet (fail)
                          go_wp2
                          go_roundw
                          case rel => exact ⟨k + 1, by omega, by go_num, hat', hst.go (below_draws (Below.refl _ _) _)⟩
                          case measure => simp [intOf]; omega
                      · have hdone := hat.done (by rw [HP.out.ll]; omega) (by rw [HQ.out.ll]; omega)
                        have hge : ¬ (k : Int) < (ll : Int) := by omega
                        have HB0 := HB.out
                        rw [hdone] at HB0
                        first | rw [Bool.true_and] at HB0 | skip
                        clear hdone hat HB
                        have HB := Lib.hid HB0
                        clear HB0
                        obtain ⟨wq, rfl⟩ : ∃ wq : World, wq = wr := ⟨_, rfl⟩
                        go_wp2
                        go_loopw [7] (fun s wr => ∃ k : Nat, k ≤ ld ∧ s = .int .i64 (k : Nat) ∧ EqAt destEq p.dests q.dests k ∧ TwoSt w #[.int .i64 pr, .int .i64 ca, .int .i64 kk, .slice An ln cn, .slice Al ll cl, .slice Ad ld cd, .slice Ac lc cc] #[.int .i64 pr, .int .i64 ca, .int .i64 kk, .slice An2 ln cn2, .slice Al2 ll cl2, .slice Ad2 ld cd2, .slice Ac2 lc cc2] wr) (fun s _ => ld - (intOf s).toNat)
                        case atStart => exact ⟨0, Nat.zero_le _, rfl, rfl, hst⟩
                        case round =>
                          clear hst
                          obtain ⟨k, hk, rfl, hat, hst⟩ := hrel
                          have q3 := hst.b1.cell 3
                          have r3 := hst.b2.cell 3
                          have q4 := hst.b1.cell 4
                          have r4 := hst.b2.cell 4
                          have q5 := hst.b1.cell 5
                          have r5 := hst.b2.cell 5
                          have q6 := hst.b1.cell 6
                          have r6 := hst.b2.cell 6
                          have q5a := fun o => (hst.b1.alloc o).cell 5
                          have r5a := fun o => (hst.b2.alloc o).cell 5
                          by_cases hlt : k < ld
                          · obtain ⟨⟨xn, xo⟩, hx⟩ : ∃ x, p.dests[k]? = some x := ⟨_, List.getElem?_eq_getElem (by rw [HP.out.ld]; exact hlt)⟩
                            obtain ⟨⟨yn, yo⟩, hy⟩ : ∃ y, q.dests[k]? = some y := ⟨_, List.getElem?_eq_getElem (by rw [HQ.out.ld]; exact hlt)⟩
                            obtain ⟨g, Ax, cx, hg0, hg, c0, c1, hx1⟩ := (HP.out.up hst.up).dests.dest hx
                            obtain ⟨g', Ay, cy, hg0', hg', d0, d1, hy1⟩ := (HQ.out.up hst.up).dests.dest hy
                            obtain ⟨_, s5⟩ := HS1.out _ (List.mem_of_getElem? hx)
                            obtain ⟨_, s6⟩ := HS2.out _ (List.mem_of_getElem? hy)
                            dsimp only at c0 c1 hx1 d0 d1 hy1 s5 s6
                            obtain ⟨nx, hnx⟩ : ∃ n, xo.length = n := ⟨_, rfl⟩
                            obtain ⟨ny, hny⟩ : ∃ n, yo.length = n := ⟨_, rfl⟩
                            rw [hnx] at c1 s5
                            rw [hny] at d1 s6
                            have d0a := fun o => (World.cell?_alloc_lt wr o ⟨g', k * 2, none⟩ hg').trans d0
                            have d1a := fun o => (World.cell?_alloc_lt wr o ⟨g', k * 2 + 1, none⟩ hg').trans d1
                            have i1 : (0 : Int) ≤ (k : Int) := by omega
                            have i2 : (k : Int) < (ld : Int) := by omega
                            have HAT := Lib.hid hat
                            have HX := Lib.hid hx
                            have HY := Lib.hid hy
                            have HNX := Lib.hid hnx
                            have HNY := Lib.hid hny
                            subst hg0 hg0'
                            clear hat hx hy hnx hny
                            by_cases en : xn = yn
                            · by_cases el : nx = ny
                              · subst en
                                subst el
                                go_wp2
                                obtain ⟨wq, rfl⟩ : ∃ wq : World, wq = wr := ⟨_, rfl⟩
                                have e1 := Blk.new wq 49 #[.string xn, .slice Ax nx cx]
                                have e2 := Blk.new (wq.alloc (.cells #[.string xn, .slice Ax nx cx] 49)) 49 #[.string xn, .slice Ay nx cy]
                                rw [World.size_alloc] at e2
                                have hst2 := (hst.go (below_new wq (.cells #[.string xn, .slice Ax nx cx] 49))).go (below_new _ (.cells #[.string xn, .slice Ay nx cy] 49))
                                have hx2 := (hx1.box (.cells #[.string xn, .slice Ax nx cx] 49)).box (.cells #[.string xn, .slice Ay nx cy] 49)
                                have hy2 := (hy1.box (.cells #[.string xn, .slice Ax nx cx] 49)).box (.cells #[.string xn, .slice Ay nx cy] 49)
                                have e1' := e1.alloc (.cells #[.string xn, .slice Ay nx cy] 49)
                                clear hst q3 q4 q5 q6 r3 r4 r5 r6 q5a r5a d0a d1a c0 c1 d0 d1 e1
                                go_loopw [10] (fun s wr => ∃ j : Nat, j ≤ nx ∧ s = .int .i64 (j : Nat) ∧ EqAt numEq xo yo j ∧ TwoSt w #[.int .i64 pr, .int .i64 ca, .int .i64 kk, .slice An ln cn, .slice Al ll cl, .slice (some ⟨g, 0, none⟩) ld cd, .slice Ac lc cc] #[.int .i64 pr, .int .i64 ca, .int .i64 kk, .slice An2 ln cn2, .slice Al2 ll cl2, .slice (some ⟨g', 0, none⟩) ld cd2, .slice Ac2 lc cc2] wr ∧ Blk wr wq.heap.size 49 #[.string xn, .slice Ax nx cx] ∧ Blk wr (wq.heap.size + 1) 49 #[.string xn, .slice Ay nx cy] ∧ RowAt wr wr.heap.size Ax (xo.map (Value.int .i64)) ∧ RowAt wr wr.heap.size Ay (yo.map (Value.int .i64))) (fun s _ => nx - (intOf s).toNat)
                                case atStart => exact ⟨0, Nat.zero_le _, rfl, rfl, hst2, e1', e2, hx2, hy2⟩
                                case round =>
                                  clear hst2 e1' e2 hx2 hy2 hx1 hy1
                                  obtain ⟨j, hj, rfl, hat2, hst, e1, e2, hx, hy⟩ := hrel
                                  have m1 := e1.cell 1
                                  have m2 := e2.cell 1
                                  by_cases hlt2 : j < nx
                                  · obtain ⟨x, hx0⟩ : ∃ x, xo[j]? = some x := ⟨_, List.getElem?_eq_getElem (by rw [HNX.out]; exact hlt2)⟩
                                    obtain ⟨y, hy0⟩ : ∃ y, yo[j]? = some y := ⟨_, List.getElem?_eq_getElem (by rw [HNY.out]; exact hlt2)⟩
                                    obtain ⟨ga, ha0, hga, c0⟩ := hx.num hx0
                                    obtain ⟨gb, hb0, hgb, c1⟩ := hy.num hy0
                                    have j1 : (0 : Int) ≤ (j : Int) := by omega
                                    have j2 : (j : Int) < (nx : Int) := by omega
                                    obtain ⟨r, hr⟩ : ∃ r, numEq x y = r := ⟨_, rfl⟩
                                    subst ha0 hb0
                                    cases r
                                    · have HE : Hid (b = false) := Lib.hid (by rw [HB.out, HAT.out.stop HX.out HY.out (by unfold destEq; dsimp only; rw [hat2.stop hx0 hy0 hr]; simp)]; rfl)
                                      have n1' : (x != y) = true := by unfold numEq at hr; simpa using hr
                                      clear hr hx0 hy0 hat2
                                      go_wp2
                                      go_quiet (fail)
                                      go_wp2
                                      go_ret
                                      exact ⟨ret_bool HE.out.symm, below_draws hst.up _⟩
                                    · have hat' := hat2.next hx0 hy0 hr
                                      have hxy : x = y := by unfold numEq at hr; simpa using hr
                                      clear hr hx0 hy0 hat2
                                      subst hxy
                                      go_wp2
                                      go_quiet (fail)
                                      go_wp2
                                      go_roundw
                                      case rel => exact ⟨j + 1, by omega, by go_num, hat', hst.go (below_draws (Below.refl _ _) _), e1.up (below_draws (Below.refl _ _) _), e2.up (below_draws (Below.refl _ _) _), RowAt.draws hx _, RowAt.draws hy _⟩
                                      case measure => simp [intOf]; omega
                                  · have hd2 := hat2.done (by rw [HNX.out]; omega) (by rw [HNY.out]; omega)
                                    have hge2 : ¬ (j : Int) < (nx : Int) := by omega
                                    have hat' := HAT.out.next HX.out HY.out (by unfold destEq; dsimp only; rw [hd2]; simp)
                                    clear hd2 hat2
                                    go_wp2
                                    go_roundw
                                    case rel => exact ⟨k + 1, by omega, by go_num, hat', hst⟩
                                    case measure => simp [intOf]; omega
                              · have HE : Hid (b = false) := Lib.hid (by rw [HB.out, HAT.out.stop HX.out HY.out (by unfold destEq; dsimp only; rw [eqF_len (f := numEq) xo yo (by rw [HNX.out, HNY.out]; exact el)]; simp)]; rfl)
                                subst en
                                have t1 : ((nx : Int) != (ny : Int)) = true := by simp; omega
                                clear el
                                go_wp2
                                go_ret
                                exact ⟨ret_bool HE.out.symm, ((hst.go (below_new _ _)).go (below_new _ _)).up⟩
                            · have HE : Hid (b = false) := Lib.hid (by rw [HB.out, HAT.out.stop HX.out HY.out (by unfold destEq; dsimp only; rw [decide_eq_false en]; rfl)]; rfl)
                              have t0 := str_ne en
                              clear en
                              go_wp2
                              go_ret
                              exact ⟨ret_bool HE.out.symm, ((hst.go (below_new _ _)).go (below_new _ _)).up⟩
                          · have hdone := hat.done (by rw [HP.out.ld]; omega) (by rw [HQ.out.ld]; omega)
                            have hge : ¬ (k : Int) < (ld : Int) := by omega
                            have HB0 := HB.out
                            rw [hdone] at HB0
                            first | rw [Bool.true_and] at HB0 | skip
                            clear hdone hat HB
                            have HB := Lib.hid HB0
                            clear HB0
                            obtain ⟨wq, rfl⟩ : ∃ wq : World, wq = wr := ⟨_, rfl⟩
                            go_wp2
                            go_loopw [11] (fun s wr => ∃ k : Nat, k ≤ lc ∧ s = .int .i64 (k : Nat) ∧ EqAt checkEq p.checks q.checks k ∧ TwoSt w #[.int .i64 pr, .int .i64 ca, .int .i64 kk, .slice An ln cn, .slice Al ll cl, .slice Ad ld cd, .slice Ac lc cc] #[.int .i64 pr, .int .i64 ca, .int .i64 kk, .slice An2 ln cn2, .slice Al2 ll cl2, .slice Ad2 ld cd2, .slice Ac2 lc cc2] wr) (fun s _ => lc - (intOf s).toNat)
                            case atStart => exact ⟨0, Nat.zero_le _, rfl, rfl, hst⟩
                            case round =>
                              clear hst
                              obtain ⟨k, hk, rfl, hat, hst⟩ := hrel
                              have q3 := hst.b1.cell 3
                              have q4 := hst.b1.cell 4
                              have q5 := hst.b1.cell 5
                              have q6 := hst.b1.cell 6
                              have r3 := hst.b2.cell 3
                              have r4 := hst.b2.cell 4
                              have r5 := hst.b2.cell 5
                              have r6 := hst.b2.cell 6
                              by_cases hlt : k < lc
                              · obtain ⟨x, hx⟩ : ∃ x, p.checks[k]? = some x := ⟨_, List.getElem?_eq_getElem (by rw [HP.out.lc]; exact hlt)⟩
                                obtain ⟨y, hy⟩ : ∃ y, q.checks[k]? = some y := ⟨_, List.getElem?_eq_getElem (by rw [HQ.out.lc]; exact hlt)⟩
                                obtain ⟨g, hg0, hg, c0, c1, c2, c3, c4⟩ := (HP.out.up hst.up).checks.check hx
                                obtain ⟨g', hg0', hg', d0, d1, d2, d3, d4⟩ := (HQ.out.up hst.up).checks.check hy
                                have i1 : (0 : Int) ≤ (k : Int) := by omega
                                have i2 : (k : Int) < (lc : Int) := by omega
                                obtain ⟨r, hr⟩ : ∃ r, checkEq x y = r := ⟨_, rfl⟩
                                have hneq := fun w => check_neq x y r (Lib.hid hr) w
                                subst hg0 hg0'
                                cases r
                                · have HE : Hid (b = false) := Lib.hid (by rw [HB.out, hat.stop hx hy hr] <;> simp)
                                  clear hr hx hy hat
                                  go_wp2
                                  go_quiet (fail)
                                  go_wp2
                                  go_ret
                                  exact ⟨ret_bool HE.out.symm, below_draws hst.up _⟩
                                · have hat' := hat.next hx hy hr
                                  clear hr hx hy hat
                                  go_wp2
                                  go_quiet (fail)
                                  go_wp2
                                  go_roundw
                                  case rel => exact ⟨k + 1, by omega, by go_num, hat', hst.go (below_draws (Below.refl _ _) _)⟩
                                  case measure => simp [intOf]; omega
                              · have hdone := hat.done (by rw [HP.out.lc]; omega) (by rw [HQ.out.lc]; omega)
                                have hge : ¬ (k : Int) < (lc : Int) := by omega
                                have HB0 := HB.out
                                rw [hdone] at HB0
                                first | rw [Bool.true_and] at HB0 | skip
                                clear hdone hat HB
                                have HB := Lib.hid HB0
                                clear HB0
                                go_wp2
                                go_ret
                                exact ⟨ret_bool HB.out.symm, hst.up⟩
              · have HE : Hid (b = false) := Lib.hid (by rw [← HBB, eqF_len (f := checkEq) p.checks q.checks (by rw [HP.out.lc, HQ.out.lc]; exact e_lc)]; simp)
                have t1 : ((lc : Int) != (lc2 : Int)) = true := by simp; omega
                clear e_lc HBB
                go_enter Tryd.func12, Tryd.ntmps12
                go_wp2
                go_ret
                exact ⟨ret_bool HE.out.symm, hbb⟩
            · have HE : Hid (b = false) := Lib.hid (by rw [← HBB, eqF_len (f := destEq) p.dests q.dests (by rw [HP.out.ld, HQ.out.ld]; exact e_ld)]; simp)
              have t1 : ((ld : Int) != (ld2 : Int)) = true := by simp; omega
              clear e_ld HBB
              go_enter Tryd.func12, Tryd.ntmps12
              go_wp2
              go_ret
              exact ⟨ret_bool HE.out.symm, hbb⟩
          · have HE : Hid (b = false) := Lib.hid (by rw [← HBB, eqF_len (f := linkEq) p.links q.links (by rw [HP.out.ll, HQ.out.ll]; exact e_ll)]; simp)
            have t1 : ((ll : Int) != (ll2 : Int)) = true := by simp; omega
            clear e_ll HBB
            go_enter Tryd.func12, Tryd.ntmps12
            go_wp2
            go_ret
            exact ⟨ret_bool HE.out.symm, hbb⟩
        · have HE : Hid (b = false) := Lib.hid (by rw [← HBB, eqF_len (f := nodeEq) p.nodes q.nodes (by rw [HP.out.ln, HQ.out.ln]; exact e_ln)]; simp)
          have t1 : ((ln : Int) != (ln2 : Int)) = true := by simp; omega
          clear e_ln HBB
          go_enter Tryd.func12, Tryd.ntmps12
          go_wp2
          go_ret
          exact ⟨ret_bool HE.out.symm, hbb⟩
      · have HE : Hid (b = false) := Lib.hid (by rw [← HBB, decide_eq_false e_kk]; rfl)
        have t1 : (kk != kk2) = true := by simp [e_kk]
        clear e_kk HBB
        go_enter Tryd.func12, Tryd.ntmps12
        go_wp2
        go_ret
        exact ⟨ret_bool HE.out.symm, hbb⟩
    · have HE : Hid (b = false) := Lib.hid (by rw [← HBB, decide_eq_false e_ca]; rfl)
      have t1 : (ca != ca2) = true := by simp [e_ca]
      clear e_ca HBB
      go_enter Tryd.func12, Tryd.ntmps12
      go_wp2
      go_ret
      exact ⟨ret_bool HE.out.symm, hbb⟩
  · have HE : Hid (b = false) := Lib.hid (by rw [← HBB, decide_eq_false e_pr]; rfl)
    have t1 : (pr != pr2) = true := by simp [e_pr]
    clear e_pr HBB
    go_enter Tryd.func12, Tryd.ntmps12
    go_wp2
    go_ret
    exact ⟨ret_bool HE.out.symm, hbb⟩
end Go.Proofs.YtdmilbfdiebjgaaDoor
