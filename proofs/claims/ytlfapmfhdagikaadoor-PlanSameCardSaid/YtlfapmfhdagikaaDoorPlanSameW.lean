/-
  PlanSame: the walk.
-/
import Derived.Test.YtlfapmfhdagikaaDoorPlZc
import Derived.Deep.RegionHeld3
import Derived.Deep.CutBlock
import Derived.RegionTactic
import Derived.BigRegion
import Derived.ChangeAlike
namespace Go.Proofs.YtlfapmfhdagikaaDoor
open Go.RowKit
set_option linter.unusedVariables false

theorem ne_len {α : Type} {a b : List α} (h : a.length ≠ b.length) : a ≠ b := fun e => h (by rw [e])
set_option maxHeartbeats 4000000 in
set_option maxRecDepth 100000 in
theorem planSame_walk (A : Option Addr) (c : Nat) (l : List Int) (hwf : ∀ v ∈ l, InI v) (hm : l.length ≤ 9223372036854775807) (hc : l.length ≤ c) (hcm : c ≤ 9223372036854775807) (a : Int) (ha : InI a) (w : World) (hA : CellsAt w w.heap.size A (l.map (Value.int .i64))) :
    Calls Tryd.prog 8 #[.slice A l.length c, .int .i64 a] w fun e w' => e = .returned (.bool true) ∧ Below w.heap.size w w' := by
  obtain ⟨p, hp⟩ : ∃ p, netOf l = p := ⟨_, rfl⟩
  have hk := netOk l
  rw [hp] at hk
  have HP := Lib.hid hp
  have HM := Lib.hid hwf
  clear hp hwf
  obtain ⟨n, hn⟩ : ∃ n, l.length = n := ⟨_, rfl⟩
  rw [hn] at hm hc ⊢
  have HLEN := Lib.hid hn
  clear hn
  obtain ⟨v, hv, bv⟩ := pickN_nat a 5 (by omega)
  have HPK : Hid (pickN a 5 = (v : Int)) := Lib.hid (show pickN a 5 = (v : Int) from hv)
  clear hv
  go_enter Tryd.func8, Tryd.ntmps8
  go_upto_block 0 with (first
    | (go_at_call 11; refine (awake3_any _).mono ?_; rintro e w1 ⟨rfl, hb1⟩; have hA1 := (hA.below hb1).more hb1.size)
    | (go_at_call 13; (with_reducible refine (Net_at p l HP A n c HLEN.out HM.out hm hc hcm _ hA2).mono ?_); rintro e w3 ⟨An2, cn2, Al2, cl2, Ad2, cd2, Ac2, cc2, rfl, ho2, hb3⟩; have hH0 := HSt.start ho2 hb3)
    | (go_at_call 13; (with_reducible refine (Net_at p l HP A n c HLEN.out HM.out hm hc hcm _ hA1).mono ?_); rintro e w2 ⟨An, cn, Al, cl, Ad, cd, Ac, cc, rfl, ho, hb2⟩; have hA2 := (hA1.upw hb2).upw (below_new w2 (.cells #[.int .i64 p.proto, .int .i64 p.cap, .int .i64 p.k, .slice An p.nodes.length cn, .slice Al p.links.length cl, .slice Ad p.dests.length cd, .slice Ac p.checks.length cc] 29)))
    | (go_at_call 25; (with_reducible refine (pick3_is _ _ _ ha (by omega) (by omega) HPK _).mono ?_); rintro e w4 ⟨rfl, rfl⟩))
  have hat := (ho.at_).up (below_new w2 (.cells #[.int .i64 p.proto, .int .i64 p.cap, .int .i64 p.k, .slice An p.nodes.length cn, .slice Al p.links.length cl, .slice Ad p.dests.length cd, .slice Ac p.checks.length cc] 29))
  have hbl := Blk.new w2 29 #[.int .i64 p.proto, .int .i64 p.cap, .int .i64 p.k, .slice An p.nodes.length cn, .slice Al p.links.length cl, .slice Ad p.dests.length cd, .slice Ac p.checks.length cc]
  have hbb := (hb1.trans (hb2.mono hb1.size)).trans ((below_new w2 (.cells #[.int .i64 p.proto, .int .i64 p.cap, .int .i64 p.k, .slice An p.nodes.length cn, .slice Al p.links.length cl, .slice Ad p.dests.length cd, .slice Ac p.checks.length cc] 29)).mono (Nat.le_trans hb1.size hb2.size))
  generalize hW2 : w2.alloc (.cells #[.int .i64 p.proto, .int .i64 p.cap, .int .i64 p.k, .slice An p.nodes.length cn, .slice Al p.links.length cl, .slice Ad p.dests.length cd, .slice Ac p.checks.length cc] 29) = W2 at hat hbl hbb hH0 hb3 hA2 ho2
  generalize hW3 : w3.alloc (.cells #[.int .i64 p.proto, .int .i64 p.cap, .int .i64 p.k, .slice An2 p.nodes.length cn2, .slice Al2 p.links.length cl2, .slice Ad2 p.dests.length cd2, .slice Ac2 p.checks.length cc2] 29) = W3 at hH0 ⊢
  clear hW2 hW3 ho ho2 hb1 hb2 hA1 hA2 hA
  obtain ⟨gp, hgp⟩ : ∃ g, w2.heap.size = g := ⟨_, rfl⟩
  obtain ⟨gq, hgq⟩ : ∃ g, w3.heap.size = g := ⟨_, rfl⟩
  rw [hgp] at hbl ⊢
  rw [hgq] at hH0 ⊢
  clear hgp hgq
  go_cut [] (fun wx => ∃ (q : PPlan) (vn vl vd vc : Value), Hid (q ≠ p) ∧ PSmall q ∧ HSt W2 gq q vn vl vd vc wx)
  case first =>
    have hv5 : v = 0 ∨ v = 1 ∨ v = 2 ∨ v = 3 ∨ v = 4 := by omega
    have hsm := hk.small
    have hti := hk.tiny
    clear hbb HPK bv
    rcases hv5 with h5 | h5 | h5 | h5 | h5
    · as_aux_lemma =>
      subst h5
      obtain ⟨k0, hk0, hk1⟩ := hti.k
      have q2 := hH0.blk.cell 2
      have t2 := hH0.blk.frozen 2
      have i0 : (0 : Int) ≤ p.k := by omega
      have i1 : p.k ≤ 100 := by omega
      have HE : Hid (({ p with k := p.k + 1 } : PPlan) ≠ p) := Lib.hid (fun e => by have := congrArg PPlan.k e; dsimp only at this; omega)
      have HH := Lib.hid (hH0.put 2 (.int .i64 (p.k + 1)) { p with k := p.k + 1 } rfl rfl rfl rfl rfl)
      clear hH0 hk0
      go_wp2_with fail
      go_meet
      exact ⟨_, _, _, _, _, HE, ⟨hsm.nodes, hsm.dests, hsm.ln, hsm.ll, hsm.ld, hsm.lc⟩, HH.out⟩
    · as_aux_lemma =>
      subst h5
      have hn1 := hk.nodes1
      obtain ⟨x, hx⟩ : ∃ x, p.nodes[0]? = some x := ⟨_, List.getElem?_eq_getElem (by omega)⟩
      obtain ⟨gn, rfl, _, c0, c1⟩ := hH0.pat.nodes.node hx
      obtain ⟨m0, hm0, hm1⟩ := hti.nodes x (List.mem_of_getElem? hx)
      have f1 := hH0.own.nodes.frozenAt 1
      have c1' : W3.cell? ⟨gn, 1, none⟩ = some (.int .i64 x.num) := by simpa using c1
      have q3 := hH0.blk.cell 3
      have i0 : (0 : Int) ≤ x.num := by omega
      have i1 : x.num ≤ 100 := by omega
      have i2 : (0 : Int) < (p.nodes.length : Int) := by omega
      have i3 : 0 < p.nodes.length := by omega
      have HE : Hid (({ p with nodes := p.nodes.set 0 ⟨x.name, x.num + 1⟩ } : PPlan) ≠ p) := Lib.hid (fun e => by
        have := congrArg PPlan.nodes e
        dsimp only at this
        have h1 : (p.nodes.set 0 ⟨x.name, x.num + 1⟩)[0]? = p.nodes[0]? := by rw [this]
        rw [List.getElem?_set_self (by omega), hx] at h1
        injection h1 with h1
        have := congrArg PNode.num h1
        dsimp only at this
        omega)
      have HH := Lib.hid (hH0.nodeNum hx (x.num + 1))
      have HS : PSmall ({ p with nodes := p.nodes.set 0 ⟨x.name, x.num + 1⟩ } : PPlan) := ⟨fun y hy => by
        rcases List.mem_or_eq_of_mem_set hy with hy | rfl
        · exact hsm.nodes y hy
        · exact hsm.nodes x (List.mem_of_getElem? hx), hsm.dests, by rw [List.length_set]; exact hsm.ln, hsm.ll, hsm.ld, hsm.lc⟩
      clear hH0 hm0 c0 c1 hx
      go_wp2_with fail
      go_meet
      exact ⟨_, _, _, _, _, HE, HS, HH.out⟩
    · as_aux_lemma =>
      subst h5
      have hl1 := hk.links1
      obtain ⟨iL, hiL, zL0, zL1, zL2⟩ := info_parts linkInfo
      have q4 := hH0.blk.cell 4
      have HE : Hid (({ p with links := p.links ++ [⟨0, 0, 0⟩] } : PPlan) ≠ p) := Lib.hid (fun e => by have := congrArg (fun q : PPlan => q.links.length) e; simp at this)
      have HS : PSmall ({ p with links := p.links ++ [⟨0, 0, 0⟩] } : PPlan) := ⟨hsm.nodes, hsm.dests, hsm.ln, by rw [List.length_append]; show p.links.length + 1 ≤ 4096; omega, hsm.ld, hsm.lc⟩
      go_wp2_with (at_builtin; refine wpList_append_lies _ rfl _ _ _ rfl W2.heap.size 53 iL (.agg #[.int .i64 0, .int .i64 0, .int .i64 0]) 3 24 Tryd.underlying25 hiL zL0 zL1 zL2 rfl (by decide) (.slice Al2 p.links.length cl2) p.links.length _ rfl (own_alloc hH0.own.links _) ⟨W3.heap.size, 0, none⟩ 1 1 [.int .i64 0, .int .i64 0, .int .i64 0] rfl rfl (cells_new W3 [.int .i64 0, .int .i64 0, .int .i64 0] 53) (by simp [Value.oneCell']) (by omega) (by unfold maxLen; omega) (by omega) (by have := hH0.below.size; simp; omega) (W3.heap.size + 1) (by simp) ?_; intro g6 cap6 w6 hown6 hgrow6 _ _; have hu := hH0.up (below_new W3 (.cells #[.int .i64 0, .int .i64 0, .int .i64 0] 53)); have hb6 := hu.blk.grown hgrow6 (fun e1 => own_blk_ne hu.own.links hu.blk (by decide) e1.symm); have q6 := hb6.cell 4; have f6 := hb6.frozen 4)
      go_meet
      have ho7 : w6.ownsRow W2.heap.size 53 3 (.slice (some ⟨g6, 0, none⟩) (p.links.length + 1) cap6) (p.links.length + 1) (p.links.flatMap linkC ++ linkC ⟨0, 0, 0⟩) := hown6
      have hN := hu.pushLink ho7 hgrow6
      exact ⟨_, .slice An2 p.nodes.length cn2, .slice (some ⟨g6, 0, none⟩) (p.links.length + 1) cap6, .slice Ad2 p.dests.length cd2, .slice Ac2 p.checks.length cc2, HE, HS, hN⟩
    · as_aux_lemma =>
      subst h5
      have hd1 := hk.dests1
      have hn1 := hk.nodes1
      obtain ⟨d, hd⟩ : ∃ d, p.dests[0]? = some d := ⟨_, List.getElem?_eq_getElem (by omega)⟩
      have hdm := List.mem_of_getElem? hd
      have hof := hti.dests d hdm
      have hol := (hsm.dests d hdm).2
      obtain ⟨hs, e1, e2, e3⟩ := hH0.own.dests
      obtain ⟨gd, cdd, hform, _⟩ := own_slice e2 (by omega)
      injection hform with hA2 _ hc2
      subst hA2 hc2
      obtain ⟨g0, Ao, co, hg0, _, c0, c1, _⟩ := hH0.pat.dests.dest hd
      injection hg0 with hg0
      injection hg0 with hg0
      subst hg0
      obtain ⟨gb, Bo, bo, hgb, _, b0, b1, _⟩ := hat.dests.dest hd
      subst hgb
      have hbl0 := hH0.below.size
      have hwl : gd < W3.heap.size := (e2.lt gd rfl).2
      have q5 := hH0.blk.cell 5
      have q5a : ∀ o, (W3.alloc o).cell? ⟨gq, 5, none⟩ = some (.slice (some ⟨gd, 0, none⟩) p.dests.length cd2) := fun o => (hH0.blk.alloc o).cell 5
      have HU := Lib.hid hH0
      have C1 : Hid (W3.cell? ⟨gd, 1, none⟩ = some (.slice Ao d.orig.length co)) := Lib.hid (by simpa using c1)
      clear c0 c1
      have HE2 := Lib.hid e2
      have HGQ : Hid (gq ≠ gd) := Lib.hid (fun e => own_blk_ne e2 hH0.blk (by decide) (by rw [e]; rfl))
      have i1 : (0 : Int) < (p.dests.length : Int) := by omega
      have i2 : 0 < p.dests.length := by omega
      obtain ⟨iI, hiI, zI0, zI1, zI2⟩ := info_parts numInfo
      go_upto_region 13 with fail
      have HONE : Hid (∀ u ∈ [Value.int .i64 0, Value.int .i64 1], u.oneCell' = true) := Lib.hid (by simp [Value.oneCell'])
      have HMX : Hid (0 + 2 ≤ maxLen) := Lib.hid (by unfold maxLen; omega)
      have HBY : Hid ((0 + 2) * 8 ≤ 140737488355328) := Lib.hid (by omega)
      go_region_law (refine step_append_lies _ rfl (.const (.slice none 0 0)) (.tmp 49) 22 rfl W2.heap.size 3 iI (.int .i64 0) 1 8 Tryd.underlying22 hiI zI0 zI1 zI2 rfl Nat.zero_lt_one (.slice none 0 0) 0 [] (by first | rfl | (apply rfl)) (World.ownsRow_nil _ _ _ _) ⟨W3.heap.size, 0, none⟩ 2 2 [.int .i64 0, .int .i64 1] (by first | rfl | (apply rfl)) (by first | rfl | (apply rfl)) (World.news_of_block (cs := #[.int .i64 0, .int .i64 1]) (t := 3) (fr := (0, 0)) (heap_alloc_new W3 _)) HONE.out (by decide) HMX.out HBY.out (Nat.le_trans hbl0 (below_new W3 _).size) (W3.heap.size + 1) (World.size_alloc W3 _) ?_; intro g6 cap6 w6 hown6 hgrow6 hat6 hlt6; have hb6 : Below W3.heap.size W3 w6 := ((below_new W3 (.cells #[.int .i64 0, .int .i64 1] 3)).drew.trans ((below_none hgrow6).mono (by show W3.heap.size ≤ (W3.alloc (.cells #[.int .i64 0, .int .i64 1] 3)).heap.size; rw [World.size_alloc]; omega))); have e26 := own_below HE2.out hb6; have dc := (hb6.cell (p := ⟨gd, 1, none⟩) hwl).trans C1.out; have df := e26.frozenAt 1; have q56 := (HU.out.blk.up hb6).cell 5)
      all_goals go_step
      all_goals go_step
      all_goals
        have hge : g6 = W3.heap.size + 1 := by rcases hat6 with h | h; simp [Value.ownBlock] at h; exact h
        have hb0 := HU.out.below.trans (hb6.mono hbl0)
        have hbw : Below W2.heap.size W2 (w6.setCell ⟨gd, 1, none⟩ (.slice (some ⟨g6, 0, none⟩) 2 cap6)) := hb0.setCell (p := ⟨gd, 1, none⟩) (e2.lt gd rfl).1 _
        have P5 := (hbl.up hbw).cell 5
        have B1 : (w6.setCell ⟨gd, 1, none⟩ (.slice (some ⟨g6, 0, none⟩) 2 cap6)).cell? ⟨gb, 1, none⟩ = some (.slice Bo d.orig.length bo) := (hbw.cell (p := ⟨gb, 1, none⟩) (by assumption)).trans (by simpa using b1)
        have Q5 : (w6.setCell ⟨gd, 1, none⟩ (.slice (some ⟨g6, 0, none⟩) 2 cap6)).cell? ⟨gq, 5, none⟩ = some (.slice (some ⟨gd, 0, none⟩) p.dests.length cd2) := ((HU.out.blk.up hb6).far (p := ⟨gd, 1, none⟩) HGQ.out _).cell 5
        have hne6 : gd ≠ g6 := by omega
        have G1 : (w6.setCell ⟨gd, 1, none⟩ (.slice (some ⟨g6, 0, none⟩) 2 cap6)).cell? ⟨gd, 1, none⟩ = some (.slice (some ⟨g6, 0, none⟩) 2 cap6) := by
          have := (e26.stored 1 (.slice (some ⟨g6, 0, none⟩) 2 cap6)).1.cellAt 1 (by omega)
          rw [this, List.getElem?_set_self (by rw [e26.1]; omega)]
        have S0 : (w6.setCell ⟨gd, 1, none⟩ (.slice (some ⟨g6, 0, none⟩) 2 cap6)).cell? ⟨g6, 0, none⟩ = some (.int .i64 0) := (World.cell?_of_block (Below.heap_setCell w6 ⟨gd, 1, none⟩ _ g6 (Ne.symm hne6))).trans (hown6.cellAt 0 (by omega))
        have S1 : (w6.setCell ⟨gd, 1, none⟩ (.slice (some ⟨g6, 0, none⟩) 2 cap6)).frozen? ⟨g6, 0, none⟩ = false := (World.frozen?_of_block (Below.heap_setCell w6 ⟨gd, 1, none⟩ _ g6 (Ne.symm hne6))).trans (hown6.frozenAt 0)
        obtain ⟨og0, hog0⟩ : ∃ o : Nat, d.orig.length = o := ⟨_, rfl⟩
        rw [hog0] at B1
        have HOG := Lib.hid hog0
        have ho1 : og0 ≤ 4000 := by omega
        have HNEW := Lib.hid (hown6.stored 0 (.int .i64 ((og0 : Int) + 5))).1
        have HB7 := Lib.hid (hb6.setCell (p := ⟨g6, 0, none⟩) (by show W3.heap.size ≤ g6; omega) (.int .i64 ((og0 : Int) + 5)))
        have HNE6 := Lib.hid hne6
        clear hog0 hown6 hgrow6 hat6 hlt6 dc df q56 hbw hb0 e26 hb6 hge hol hne6
        generalize hWW : w6.setCell ⟨gd, 1, none⟩ (.slice (some ⟨g6, 0, none⟩) 2 cap6) = W6 at P5 B1 Q5 G1 S0 S1 ⊢
        have HWW := Lib.hid hWW
        clear hWW
        go_upto_region 14 with fail
        go_region
        all_goals
          have HE : Hid (({ p with dests := p.dests.set 0 ⟨d.name, [(og0 : Int) + 5, 1]⟩ } : PPlan) ≠ p) := Lib.hid (fun e => by
            have := congrArg PPlan.dests e
            dsimp only at this
            have h1 : (p.dests.set 0 ⟨d.name, [(og0 : Int) + 5, 1]⟩)[0]? = p.dests[0]? := by rw [this]
            rw [List.getElem?_set_self (by omega), hd] at h1
            injection h1 with h1
            have h2 : d.orig = [(og0 : Int) + 5, 1] := by rw [← h1]
            have h3 := HOG.out
            rw [h2] at h3
            have h4 : og0 = 2 := by simpa using h3.symm
            obtain ⟨o, ho1, ho2⟩ := hof ((og0 : Int) + 5) (by rw [h2]; simp)
            omega)
          have HS : PSmall ({ p with dests := p.dests.set 0 ⟨d.name, [(og0 : Int) + 5, 1]⟩ } : PPlan) := ⟨hsm.nodes, fun y hy => by
            rcases List.mem_or_eq_of_mem_set hy with hy | rfl
            · exact hsm.dests y hy
            · exact ⟨(hsm.dests d hdm).1, by simp⟩, hsm.ln, hsm.ll, by rw [List.length_set]; exact hsm.ld, hsm.lc⟩
          have HF : HSt W2 gq { p with dests := p.dests.set 0 ⟨d.name, [(og0 : Int) + 5, 1]⟩ } (.slice An2 p.nodes.length cn2) (.slice Al2 p.links.length cl2) (.slice (some ⟨gd, 0, none⟩) p.dests.length cd2) (.slice Ac2 p.checks.length cc2) (W6.setCell ⟨g6, 0, none⟩ (.int .i64 ((og0 : Int) + 5))) := by
            rw [← HWW.out, setCell_turn w6 (a := ⟨gd, 1, none⟩) (b := ⟨g6, 0, none⟩) HNE6.out]
            exact HU.out.destOrig HB7.out hd (og := [(og0 : Int) + 5, 1]) HNEW.out
          have HFF := Lib.hid HF
          clear HF
          go_wp2_with fail
          go_meet
          first | exact ⟨_, _, _, _, _, HE, HS, HFF.out⟩ | exact ⟨_, _, _, _, _, HE, HS, HFF.out.up ((Below.refl _ _).drew)⟩
    · subst h5
      have hl1 := hk.checks1
      obtain ⟨iC, hiC, zC0, zC1, zC2⟩ := info_parts checkInfo
      have q6 := hH0.blk.cell 6
      have HE : Hid (({ p with checks := p.checks ++ [⟨0, 0, 0, 0, 0⟩] } : PPlan) ≠ p) := Lib.hid (fun e => by have := congrArg (fun q : PPlan => q.checks.length) e; simp at this)
      have HS : PSmall ({ p with checks := p.checks ++ [⟨0, 0, 0, 0, 0⟩] } : PPlan) := ⟨hsm.nodes, hsm.dests, hsm.ln, hsm.ll, hsm.ld, by rw [List.length_append]; show p.checks.length + 1 ≤ 4096; omega⟩
      go_wp2_with (at_builtin; refine wpList_append_lies _ rfl _ _ _ rfl W2.heap.size 55 iC (.agg #[.int .i64 0, .int .i64 0, .int .i64 0, .int .i64 0, .int .i64 0]) 5 40 Tryd.underlying27 hiC zC0 zC1 zC2 rfl (by decide) (.slice Ac2 p.checks.length cc2) p.checks.length _ rfl (own_alloc hH0.own.checks _) ⟨W3.heap.size, 0, none⟩ 1 1 [.int .i64 0, .int .i64 0, .int .i64 0, .int .i64 0, .int .i64 0] rfl rfl (cells_new W3 [.int .i64 0, .int .i64 0, .int .i64 0, .int .i64 0, .int .i64 0] 55) (by simp [Value.oneCell']) (by omega) (by unfold maxLen; omega) (by omega) (by have := hH0.below.size; simp; omega) (W3.heap.size + 1) (by simp) ?_; intro g6 cap6 w6 hown6 hgrow6 _ _; have hu := hH0.up (below_new W3 (.cells #[.int .i64 0, .int .i64 0, .int .i64 0, .int .i64 0, .int .i64 0] 55)); have hb6 := hu.blk.grown hgrow6 (fun e1 => own_blk_ne hu.own.checks hu.blk (by decide) e1.symm); have q7 := hb6.cell 6; have f6 := hb6.frozen 6)
      go_meet
      have ho7 : w6.ownsRow W2.heap.size 55 5 (.slice (some ⟨g6, 0, none⟩) (p.checks.length + 1) cap6) (p.checks.length + 1) (p.checks.flatMap checkC ++ checkC ⟨0, 0, 0, 0, 0⟩) := hown6
      have hN := hu.pushCheck ho7 hgrow6
      exact ⟨_, .slice An2 p.nodes.length cn2, .slice Al2 p.links.length cl2, .slice Ad2 p.dests.length cd2, .slice (some ⟨g6, 0, none⟩) (p.checks.length + 1) cap6, HE, HS, hN⟩
  case rest =>
    as_aux_lemma =>
    obtain ⟨q, vn, vl, vd, vc, hne, hqs, hq⟩ := hcut
    obtain ⟨Bn, mn, dn, Bl, ml, dl, Bd, md, dd, Bc, mc, dc, rfl, rfl, rfl, rfl⟩ := hq.forms
    have HPQ : Hid (sameB p q = false) := Lib.hid (by cases h : sameB p q; rfl; exact absurd ((sameB_iff _ _).1 h).symm hne.out)
    have HQP : Hid (sameB q p = false) := Lib.hid (by cases h : sameB q p; rfl; exact absurd ((sameB_iff _ _).1 h) hne.out)
    have HQQ : Hid (sameB q q = true) := Lib.hid ((sameB_iff q q).2 rfl)
    have hbw := hq.below
    have ha0 := hat.up hbw
    have hb0 := hbl.up hbw
    have hc0 := hq.pat
    have hd0 := hq.blk
    clear hH0 hat hbl hq
    have p00 := hb0.cell 0
    have p01 := hb0.cell 1
    have p02 := hb0.cell 2
    have p03 := hb0.cell 3
    have p04 := hb0.cell 4
    have p05 := hb0.cell 5
    have p06 := hb0.cell 6
    have q00 := hd0.cell 0
    have q01 := hd0.cell 1
    have q02 := hd0.cell 2
    have q03 := hd0.cell 3
    have q04 := hd0.cell 4
    have q05 := hd0.cell 5
    have q06 := hd0.cell 6
    go_wp2_with (first
      | (go_at_call 18; (with_reducible refine (Same_is true HQQ hqs hqs hc2 hc2).mono ?_); rintro e w6 ⟨rfl, hb6⟩)
      | (go_at_call 18; (with_reducible refine (Same_is false HQP hqs hk.small hc1 ha1).mono ?_); rintro e w5 ⟨rfl, hb5⟩; have ha2 := ha1.up hb5; have hb2 := hb1.up hb5; have hc2 := hc1.up hb5; have hd2 := hd1.up hb5; have p20 := hb2.cell 0; have p21 := hb2.cell 1; have p22 := hb2.cell 2; have p23 := hb2.cell 3; have p24 := hb2.cell 4; have p25 := hb2.cell 5; have p26 := hb2.cell 6; have q20 := hd2.cell 0; have q21 := hd2.cell 1; have q22 := hd2.cell 2; have q23 := hd2.cell 3; have q24 := hd2.cell 4; have q25 := hd2.cell 5; have q26 := hd2.cell 6)
      | (go_at_call 18; (with_reducible refine (Same_is false HPQ hk.small hqs ha0 hc0).mono ?_); rintro e w4 ⟨rfl, hb4⟩; have ha1 := ha0.up hb4; have hb1 := hb0.up hb4; have hc1 := hc0.up hb4; have hd1 := hd0.up hb4; have p10 := hb1.cell 0; have p11 := hb1.cell 1; have p12 := hb1.cell 2; have p13 := hb1.cell 3; have p14 := hb1.cell 4; have p15 := hb1.cell 5; have p16 := hb1.cell 6; have q10 := hd1.cell 0; have q11 := hd1.cell 1; have q12 := hd1.cell 2; have q13 := hd1.cell 3; have q14 := hd1.cell 4; have q15 := hd1.cell 5; have q16 := hd1.cell 6))
    go_ret
    exact ⟨rfl, hbb.trans ((((hbw.trans (hb4.mono hbw.size)).trans (hb5.mono (Nat.le_trans hbw.size hb4.size))).trans (hb6.mono (Nat.le_trans hbw.size (Nat.le_trans hb4.size hb5.size)))).mono hbb.size)⟩
end Go.Proofs.YtlfapmfhdagikaaDoor
