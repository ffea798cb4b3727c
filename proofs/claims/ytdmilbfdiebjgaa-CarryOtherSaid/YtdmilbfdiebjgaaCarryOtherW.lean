/-
  CarryOther: the walk.
-/
import Derived.Test.YtdmilbfdiebjgaaCaG
import Derived.Test.YtdmilbfdiebjgaaCaI
import Derived.Test.YtdmilbfdiebjgaaPmB
namespace Go.Proofs.Ytdmilbfdiebjgaa
open Go.RowKit
set_option linter.unusedVariables false
set_option linter.unusedSimpArgs false

set_option maxHeartbeats 8000000 in
set_option maxRecDepth 100000 in
theorem carryOther_walk (A : Option Addr) (c : Nat) (l : List Int) (hwf : ∀ v ∈ l, InI v) (hm : l.length ≤ 9223372036854775807) (hc : l.length ≤ c) (hcm : c ≤ 9223372036854775807) (x0 : Int) (hx0 : InI x0) (y0 : Int) (hy0 : InI y0) (r : Rt) (A2 : Option Addr) (n2 c2 : Nat) (hr2 : r.path.length = n2) (hc2 : n2 ≤ c2) (hcm2 : c2 ≤ 9223372036854775807) (w : World) (hA : CellsAt w w.heap.size A (l.map (Value.int .i64))) (hA2 : CellsAt w w.heap.size A2 (r.path.map (Value.int .i64))) :
    Calls Try.prog 10 #[.slice A l.length c, .int .i64 x0, .int .i64 y0, .agg #[.int .i64 r.kind, .int .i64 r.cost, .slice A2 n2 c2]] w fun e w' => e = .returned (.bool true) ∧ Below w.heap.size w w' := by
  obtain ⟨p, hp⟩ : ∃ p, netOf l = p := ⟨_, rfl⟩
  have hk := netOk l
  rw [hp] at hk
  have HP := Lib.hid hp
  have HM := Lib.hid hwf
  clear hp hwf
  obtain ⟨n, hn⟩ : ∃ n, l.length = n := ⟨_, rfl⟩
  rw [hn] at hm hc ⊢
  have HLEN := Lib.hid hn
  clear hn
  have hn1 := hk.nodes1
  have hl9 := hk.links1
  have hR := hk.right.out
  have m1 : ∀ (k c : Int) (A : Option Addr) (n m : Nat) (w : World), (Instr.field 42 (.agg #[.int .i64 k, .int .i64 c, .slice A n m]) 0).run Try.prog w = .ok (.int .i64 k) w := fun _ _ _ _ _ _ => by kernel_rfl
  have m2 : ∀ (k c : Int) (A : Option Addr) (n m : Nat) (w : World), (Instr.field 42 (.agg #[.int .i64 k, .int .i64 c, .slice A n m]) 1).run Try.prog w = .ok (.int .i64 c) w := fun _ _ _ _ _ _ => by kernel_rfl
  have U := Below.refl w.heap.size w
  have R0 : RtAt w r A2 n2 := ⟨hr2, hA2, by omega⟩
  have hn0 := below_new w (.cells #[.int .i64 r.kind, .int .i64 r.cost, .slice A2 n2 c2] 42)
  have Br := Blk.new w 42 #[.int .i64 r.kind, .int .i64 r.cost, .slice A2 n2 c2]
  replace U := below_on U hn0
  replace R0 := R0.on hn0
  replace hA := hA.on hn0
  have c9990 := Br.cell 0
  have c9991 := Br.cell 1
  have c9992 := Br.cell 2
  clear hr2 hA2
  by_cases hl0 : p.links.length = 0
  · have t0 : ((p.links.length : Int) == 0) = true := by simp [hl0]
    clear hl0
    go_enter Try.func10, Try.ntmps10
    go_wp2_with (first
      | (go_at_call 26; (with_reducible refine (awake7_any _).mono ?_); rintro e w1 ⟨rfl, hb1⟩; replace Br := Br.up hb1; replace R0 := R0.on hb1; replace hA := hA.on hb1; replace U := below_on U hb1; have ce0 := Br.cell 0; have ce1 := Br.cell 1; have ce2 := Br.cell 2)
      | (go_at_call 12; refine (Net_at p l HP A n c HLEN.out HM.out hm hc hcm _ hA).mono ?_; rintro e w2 ⟨An, cn, Al, cl, Ad, cd, Ac, cc, rfl, ho, hb2⟩; have h := PBox.new U hb2 ho; replace Br := Br.up hb2; replace R0 := R0.on hb2; replace hA := hA.on hb2; replace U := below_on U hb2; have hn2 := below_new w2 (.cells #[.int .i64 p.proto, .int .i64 p.cap, .int .i64 p.k, .slice An p.nodes.length cn, .slice Al p.links.length cl, .slice Ad p.dests.length cd, .slice Ac p.checks.length cc] 29); replace Br := Br.up hn2; replace R0 := R0.on hn2; replace hA := hA.on hn2; replace U := below_on U hn2; obtain ⟨ce3, ce4, ce5, ce6, ce7, ce8, ce9⟩ := h.cells; have ce10 := Br.cell 0; have ce11 := Br.cell 1; have ce12 := Br.cell 2))
    go_ret
    exact ⟨rfl, h.up⟩
  · have t0 : ((p.links.length : Int) == 0) = false := beq_eq_false_iff_ne.2 (by omega)
    obtain ⟨i, hi, hil⟩ := pickN_nat x0 p.links.length (by omega)
    obtain ⟨y, hy, hyl⟩ := pickN_nat y0 p.nodes.length (by omega)
    have HX := Lib.hid hi
    have HY := Lib.hid hy
    obtain ⟨⟨la, lb, lc⟩, hli⟩ : ∃ l, p.links[i]? = some l := ⟨_, List.getElem?_eq_getElem hil⟩
    obtain ⟨a, b, ha, hb, hab, hbn, hc0, hc1⟩ := link_ends hR hli
    dsimp only at ha hb hc0 hc1
    subst ha hb
    obtain ⟨na, hna⟩ : ∃ nd, p.nodes[a]? = some nd := ⟨_, List.getElem?_eq_getElem (by omega)⟩
    obtain ⟨nb, hnb⟩ : ∃ nd, p.nodes[b]? = some nd := ⟨_, List.getElem?_eq_getElem (by omega)⟩
    obtain ⟨ny, hny⟩ : ∃ nd, p.nodes[y]? = some nd := ⟨_, List.getElem?_eq_getElem hyl⟩
    have HLI := Lib.hid hli
    have hLI := HLI.out
    obtain ⟨ob, oa⟩ := other_b (l := ⟨(a : Int), (b : Int), lc⟩) rfl rfl hab
    obtain ⟨oo, hoo⟩ : ∃ o, overB p (i : Int) (b : Int) r = o := ⟨_, rfl⟩
    have HOO := Lib.hid hoo
    obtain ⟨f, hf⟩ : ∃ f, fitsB p (a : Int) r = f := ⟨_, rfl⟩
    have HF := Lib.hid hf
    have HN1 : Hid (fitsB p (y : Int) ⟨0, 0, []⟩ = true) := Lib.hid ((fits_nat hR hny _).trans (fit_none _ _))
    have HN2 : Hid (fitsB p (p.nodes.length : Int) ⟨0, 0, []⟩ = false) := Lib.hid (fits_len p _)
    have HE : Hid (overB p (p.links.length : Int) (b : Int) r = Rt.none) := Lib.hid (over_none (by rw [oi_end]; decide) r)
    have hokind : f = false → oo.kind = 0 := by
      intro e
      rw [e, fits_nat hR hna] at hf
      rw [over_at hR hli ob hna hnb, if_pos (.inr hf)] at hoo
      rw [← hoo]; rfl
    have hyno : y ≠ a → y ≠ b → overB p (i : Int) (y : Int) r = Rt.none := fun e1 e2 => over_none (by rw [oi_at hR hli, other_no rfl rfl e1 e2]; decide) r
    have i0 : (0 : Int) ≤ (i : Int) := by omega
    have i1 : (i : Int) < (p.links.length : Int) := by omega
    clear hi hy hli hna hnb hny hoo hf ob oa hl0 hLI
    cases f
    · have e1 : ((a : Int) == (a : Int)) = true := by simp
      have tk : (oo.kind == 0) = true := by simp [hokind rfl]
      have tk2 : (oo.kind != 0) = false := by simp [hokind rfl]
      clear hokind
      by_cases ya : y = a
      · have ty : ((y : Int) != (a : Int)) = false := by simp [ya]
        clear hyno ya
        go_enter Try.func10, Try.ntmps10
        go_wp2_with (first
          | (go_at_call 26; (with_reducible refine (awake7_any _).mono ?_); rintro e w1 ⟨rfl, hb1⟩; replace Br := Br.up hb1; replace R0 := R0.on hb1; replace hA := hA.on hb1; replace U := below_on U hb1; have ce0 := Br.cell 0; have ce1 := Br.cell 1; have ce2 := Br.cell 2)
          | (go_at_call 12; refine (Net_at p l HP A n c HLEN.out HM.out hm hc hcm _ hA).mono ?_; rintro e w2 ⟨An, cn, Al, cl, Ad, cd, Ac, cc, rfl, ho, hb2⟩; have h := PBox.new U hb2 ho; replace Br := Br.up hb2; replace R0 := R0.on hb2; replace hA := hA.on hb2; replace U := below_on U hb2; have hn2 := below_new w2 (.cells #[.int .i64 p.proto, .int .i64 p.cap, .int .i64 p.k, .slice An p.nodes.length cn, .slice Al p.links.length cl, .slice Ad p.dests.length cd, .slice Ac p.checks.length cc] 29); replace Br := Br.up hn2; replace R0 := R0.on hn2; replace hA := hA.on hn2; replace U := below_on U hn2; obtain ⟨gL, hgL, _, l0, l1, l2⟩ := h.at_.links.link HLI.out; subst hgL; obtain ⟨ce3, ce4, ce5, ce6, ce7, ce8, ce9⟩ := h.cells; have ce10 := Br.cell 0; have ce11 := Br.cell 1; have ce12 := Br.cell 2; obtain ⟨l0, l1, l2⟩ := RowAt.linkAt h.at_.links HLI.out)
          | (go_at_call 27; (with_reducible refine (pick7_is x0 _ (i : Int) hx0 (by omega) (by omega) HX _).mono ?_); rintro e wp ⟨rfl, rfl⟩)
          | (go_at_call 27; (with_reducible refine (pick7_is y0 _ (y : Int) hy0 (by omega) (by omega) HY _).mono ?_); rintro e wp ⟨rfl, rfl⟩)
          | (go_at_call 32; (with_reducible refine (caOver_w p (i : Int) (b : Int) r oo HOO h.at_ hk.small R0 hc2 hcm2).mono ?_); rintro e w3 ⟨Ao, co, rfl, Ro, ho1, ho2, hb3⟩; replace h := h.go hb3; replace Br := Br.up hb3; replace R0 := R0.on hb3; replace hA := hA.on hb3; replace U := below_on U hb3; have hn3 := below_new w3 (.cells #[.int .i64 oo.kind, .int .i64 oo.cost, .slice Ao oo.path.length co] 42); replace h := h.go hn3; replace Br := Br.up hn3; replace R0 := R0.on hn3; replace hA := hA.on hn3; replace U := below_on U hn3; have Bo := Blk.new w3 42 #[.int .i64 oo.kind, .int .i64 oo.cost, .slice Ao oo.path.length co]; obtain ⟨ce13, ce14, ce15, ce16, ce17, ce18, ce19⟩ := h.cells; have ce20 := Br.cell 0; have ce21 := Br.cell 1; have ce22 := Br.cell 2; have ce23 := Bo.cell 0; have ce24 := Bo.cell 1; have ce25 := Bo.cell 2; obtain ⟨l0, l1, l2⟩ := RowAt.linkAt h.at_.links HLI.out)
          | (go_at_call 33; (with_reducible refine (caFits_w p (a : Int) r _ HF h.at_ hk.small R0 hc2 hcm2).mono ?_); rintro e w4 ⟨rfl, hb4⟩; replace h := h.go hb4; replace Br := Br.up hb4; replace Bo := Bo.up hb4; replace R0 := R0.on hb4; replace hA := hA.on hb4; replace U := below_on U hb4; obtain ⟨ce26, ce27, ce28, ce29, ce30, ce31, ce32⟩ := h.cells; have ce33 := Br.cell 0; have ce34 := Br.cell 1; have ce35 := Br.cell 2; have ce36 := Bo.cell 0; have ce37 := Bo.cell 1; have ce38 := Bo.cell 2; obtain ⟨l0, l1, l2⟩ := RowAt.linkAt h.at_.links HLI.out)
          | (go_at_call 33; (with_reducible refine (caFits_k (y : Int) 0 0 [] true HN1 h.at_ hk.small (RtAt.none_ _) (Nat.le_refl _) (by omega)).mono ?_); rintro e w5 ⟨rfl, hb5⟩; replace h := h.go hb5; replace Br := Br.up hb5; replace Bo := Bo.up hb5; replace R0 := R0.on hb5; replace hA := hA.on hb5; replace U := below_on U hb5; obtain ⟨ce39, ce40, ce41, ce42, ce43, ce44, ce45⟩ := h.cells; have ce46 := Br.cell 0; have ce47 := Br.cell 1; have ce48 := Br.cell 2; have ce49 := Bo.cell 0; have ce50 := Bo.cell 1; have ce51 := Bo.cell 2; obtain ⟨l0, l1, l2⟩ := RowAt.linkAt h.at_.links HLI.out)
          | (go_at_call 33; (with_reducible refine (caFits_k (p.nodes.length : Int) 0 0 [] false HN2 h.at_ hk.small (RtAt.none_ _) (Nat.le_refl _) (by omega)).mono ?_); rintro e w6 ⟨rfl, hb6⟩; replace h := h.go hb6; replace Br := Br.up hb6; replace Bo := Bo.up hb6; replace R0 := R0.on hb6; replace hA := hA.on hb6; replace U := below_on U hb6; obtain ⟨ce52, ce53, ce54, ce55, ce56, ce57, ce58⟩ := h.cells; have ce59 := Br.cell 0; have ce60 := Br.cell 1; have ce61 := Br.cell 2; have ce62 := Bo.cell 0; have ce63 := Bo.cell 1; have ce64 := Bo.cell 2; obtain ⟨l0, l1, l2⟩ := RowAt.linkAt h.at_.links HLI.out)
          | (go_at_call 32; (with_reducible refine (caOver_w p (p.links.length : Int) (b : Int) r Rt.none HE h.at_ hk.small R0 hc2 hcm2).mono ?_); rintro e w7 ⟨Aq, cq, rfl, Rq, hq1, hq2, hb7⟩; replace h := h.go hb7; replace Br := Br.up hb7; replace Bo := Bo.up hb7; replace R0 := R0.on hb7; replace hA := hA.on hb7; replace U := below_on U hb7; obtain ⟨ce65, ce66, ce67, ce68, ce69, ce70, ce71⟩ := h.cells; have ce72 := Br.cell 0; have ce73 := Br.cell 1; have ce74 := Br.cell 2; have ce75 := Bo.cell 0; have ce76 := Bo.cell 1; have ce77 := Bo.cell 2; obtain ⟨l0, l1, l2⟩ := RowAt.linkAt h.at_.links HLI.out))
        go_ret
        exact ⟨rfl, U⟩
      · by_cases yb : y = b
        · have ty : ((y : Int) != (a : Int)) = true := by simp; omega
          have ty2 : ((y : Int) != (b : Int)) = false := by simp [yb]
          clear hyno ya yb
          go_enter Try.func10, Try.ntmps10
          go_wp2_with (first
            | (go_at_call 26; (with_reducible refine (awake7_any _).mono ?_); rintro e w1 ⟨rfl, hb1⟩; replace Br := Br.up hb1; replace R0 := R0.on hb1; replace hA := hA.on hb1; replace U := below_on U hb1; have ce0 := Br.cell 0; have ce1 := Br.cell 1; have ce2 := Br.cell 2)
            | (go_at_call 12; refine (Net_at p l HP A n c HLEN.out HM.out hm hc hcm _ hA).mono ?_; rintro e w2 ⟨An, cn, Al, cl, Ad, cd, Ac, cc, rfl, ho, hb2⟩; have h := PBox.new U hb2 ho; replace Br := Br.up hb2; replace R0 := R0.on hb2; replace hA := hA.on hb2; replace U := below_on U hb2; have hn2 := below_new w2 (.cells #[.int .i64 p.proto, .int .i64 p.cap, .int .i64 p.k, .slice An p.nodes.length cn, .slice Al p.links.length cl, .slice Ad p.dests.length cd, .slice Ac p.checks.length cc] 29); replace Br := Br.up hn2; replace R0 := R0.on hn2; replace hA := hA.on hn2; replace U := below_on U hn2; obtain ⟨gL, hgL, _, l0, l1, l2⟩ := h.at_.links.link HLI.out; subst hgL; obtain ⟨ce3, ce4, ce5, ce6, ce7, ce8, ce9⟩ := h.cells; have ce10 := Br.cell 0; have ce11 := Br.cell 1; have ce12 := Br.cell 2; obtain ⟨l0, l1, l2⟩ := RowAt.linkAt h.at_.links HLI.out)
            | (go_at_call 27; (with_reducible refine (pick7_is x0 _ (i : Int) hx0 (by omega) (by omega) HX _).mono ?_); rintro e wp ⟨rfl, rfl⟩)
            | (go_at_call 27; (with_reducible refine (pick7_is y0 _ (y : Int) hy0 (by omega) (by omega) HY _).mono ?_); rintro e wp ⟨rfl, rfl⟩)
            | (go_at_call 32; (with_reducible refine (caOver_w p (i : Int) (b : Int) r oo HOO h.at_ hk.small R0 hc2 hcm2).mono ?_); rintro e w3 ⟨Ao, co, rfl, Ro, ho1, ho2, hb3⟩; replace h := h.go hb3; replace Br := Br.up hb3; replace R0 := R0.on hb3; replace hA := hA.on hb3; replace U := below_on U hb3; have hn3 := below_new w3 (.cells #[.int .i64 oo.kind, .int .i64 oo.cost, .slice Ao oo.path.length co] 42); replace h := h.go hn3; replace Br := Br.up hn3; replace R0 := R0.on hn3; replace hA := hA.on hn3; replace U := below_on U hn3; have Bo := Blk.new w3 42 #[.int .i64 oo.kind, .int .i64 oo.cost, .slice Ao oo.path.length co]; obtain ⟨ce13, ce14, ce15, ce16, ce17, ce18, ce19⟩ := h.cells; have ce20 := Br.cell 0; have ce21 := Br.cell 1; have ce22 := Br.cell 2; have ce23 := Bo.cell 0; have ce24 := Bo.cell 1; have ce25 := Bo.cell 2; obtain ⟨l0, l1, l2⟩ := RowAt.linkAt h.at_.links HLI.out)
            | (go_at_call 33; (with_reducible refine (caFits_w p (a : Int) r _ HF h.at_ hk.small R0 hc2 hcm2).mono ?_); rintro e w4 ⟨rfl, hb4⟩; replace h := h.go hb4; replace Br := Br.up hb4; replace Bo := Bo.up hb4; replace R0 := R0.on hb4; replace hA := hA.on hb4; replace U := below_on U hb4; obtain ⟨ce26, ce27, ce28, ce29, ce30, ce31, ce32⟩ := h.cells; have ce33 := Br.cell 0; have ce34 := Br.cell 1; have ce35 := Br.cell 2; have ce36 := Bo.cell 0; have ce37 := Bo.cell 1; have ce38 := Bo.cell 2; obtain ⟨l0, l1, l2⟩ := RowAt.linkAt h.at_.links HLI.out)
            | (go_at_call 33; (with_reducible refine (caFits_k (y : Int) 0 0 [] true HN1 h.at_ hk.small (RtAt.none_ _) (Nat.le_refl _) (by omega)).mono ?_); rintro e w5 ⟨rfl, hb5⟩; replace h := h.go hb5; replace Br := Br.up hb5; replace Bo := Bo.up hb5; replace R0 := R0.on hb5; replace hA := hA.on hb5; replace U := below_on U hb5; obtain ⟨ce39, ce40, ce41, ce42, ce43, ce44, ce45⟩ := h.cells; have ce46 := Br.cell 0; have ce47 := Br.cell 1; have ce48 := Br.cell 2; have ce49 := Bo.cell 0; have ce50 := Bo.cell 1; have ce51 := Bo.cell 2; obtain ⟨l0, l1, l2⟩ := RowAt.linkAt h.at_.links HLI.out)
            | (go_at_call 33; (with_reducible refine (caFits_k (p.nodes.length : Int) 0 0 [] false HN2 h.at_ hk.small (RtAt.none_ _) (Nat.le_refl _) (by omega)).mono ?_); rintro e w6 ⟨rfl, hb6⟩; replace h := h.go hb6; replace Br := Br.up hb6; replace Bo := Bo.up hb6; replace R0 := R0.on hb6; replace hA := hA.on hb6; replace U := below_on U hb6; obtain ⟨ce52, ce53, ce54, ce55, ce56, ce57, ce58⟩ := h.cells; have ce59 := Br.cell 0; have ce60 := Br.cell 1; have ce61 := Br.cell 2; have ce62 := Bo.cell 0; have ce63 := Bo.cell 1; have ce64 := Bo.cell 2; obtain ⟨l0, l1, l2⟩ := RowAt.linkAt h.at_.links HLI.out)
            | (go_at_call 32; (with_reducible refine (caOver_w p (p.links.length : Int) (b : Int) r Rt.none HE h.at_ hk.small R0 hc2 hcm2).mono ?_); rintro e w7 ⟨Aq, cq, rfl, Rq, hq1, hq2, hb7⟩; replace h := h.go hb7; replace Br := Br.up hb7; replace Bo := Bo.up hb7; replace R0 := R0.on hb7; replace hA := hA.on hb7; replace U := below_on U hb7; obtain ⟨ce65, ce66, ce67, ce68, ce69, ce70, ce71⟩ := h.cells; have ce72 := Br.cell 0; have ce73 := Br.cell 1; have ce74 := Br.cell 2; have ce75 := Bo.cell 0; have ce76 := Bo.cell 1; have ce77 := Bo.cell 2; obtain ⟨l0, l1, l2⟩ := RowAt.linkAt h.at_.links HLI.out))
          go_ret
          exact ⟨rfl, U⟩
        · have ty : ((y : Int) != (a : Int)) = true := by simp; omega
          have ty2 : ((y : Int) != (b : Int)) = true := by simp; omega
          have HYN := Lib.hid (hyno ya yb)
          clear hyno ya yb
          go_enter Try.func10, Try.ntmps10
          go_wp2_with (first
            | (go_at_call 26; (with_reducible refine (awake7_any _).mono ?_); rintro e w1 ⟨rfl, hb1⟩; replace Br := Br.up hb1; replace R0 := R0.on hb1; replace hA := hA.on hb1; replace U := below_on U hb1; have ce0 := Br.cell 0; have ce1 := Br.cell 1; have ce2 := Br.cell 2)
            | (go_at_call 12; refine (Net_at p l HP A n c HLEN.out HM.out hm hc hcm _ hA).mono ?_; rintro e w2 ⟨An, cn, Al, cl, Ad, cd, Ac, cc, rfl, ho, hb2⟩; have h := PBox.new U hb2 ho; replace Br := Br.up hb2; replace R0 := R0.on hb2; replace hA := hA.on hb2; replace U := below_on U hb2; have hn2 := below_new w2 (.cells #[.int .i64 p.proto, .int .i64 p.cap, .int .i64 p.k, .slice An p.nodes.length cn, .slice Al p.links.length cl, .slice Ad p.dests.length cd, .slice Ac p.checks.length cc] 29); replace Br := Br.up hn2; replace R0 := R0.on hn2; replace hA := hA.on hn2; replace U := below_on U hn2; obtain ⟨gL, hgL, _, l0, l1, l2⟩ := h.at_.links.link HLI.out; subst hgL; obtain ⟨ce3, ce4, ce5, ce6, ce7, ce8, ce9⟩ := h.cells; have ce10 := Br.cell 0; have ce11 := Br.cell 1; have ce12 := Br.cell 2; obtain ⟨l0, l1, l2⟩ := RowAt.linkAt h.at_.links HLI.out)
            | (go_at_call 27; (with_reducible refine (pick7_is x0 _ (i : Int) hx0 (by omega) (by omega) HX _).mono ?_); rintro e wp ⟨rfl, rfl⟩)
            | (go_at_call 27; (with_reducible refine (pick7_is y0 _ (y : Int) hy0 (by omega) (by omega) HY _).mono ?_); rintro e wp ⟨rfl, rfl⟩)
            | (go_at_call 32; (with_reducible refine (caOver_w p (i : Int) (b : Int) r oo HOO h.at_ hk.small R0 hc2 hcm2).mono ?_); rintro e w3 ⟨Ao, co, rfl, Ro, ho1, ho2, hb3⟩; replace h := h.go hb3; replace Br := Br.up hb3; replace R0 := R0.on hb3; replace hA := hA.on hb3; replace U := below_on U hb3; have hn3 := below_new w3 (.cells #[.int .i64 oo.kind, .int .i64 oo.cost, .slice Ao oo.path.length co] 42); replace h := h.go hn3; replace Br := Br.up hn3; replace R0 := R0.on hn3; replace hA := hA.on hn3; replace U := below_on U hn3; have Bo := Blk.new w3 42 #[.int .i64 oo.kind, .int .i64 oo.cost, .slice Ao oo.path.length co]; obtain ⟨ce13, ce14, ce15, ce16, ce17, ce18, ce19⟩ := h.cells; have ce20 := Br.cell 0; have ce21 := Br.cell 1; have ce22 := Br.cell 2; have ce23 := Bo.cell 0; have ce24 := Bo.cell 1; have ce25 := Bo.cell 2; obtain ⟨l0, l1, l2⟩ := RowAt.linkAt h.at_.links HLI.out)
            | (go_at_call 33; (with_reducible refine (caFits_w p (a : Int) r _ HF h.at_ hk.small R0 hc2 hcm2).mono ?_); rintro e w4 ⟨rfl, hb4⟩; replace h := h.go hb4; replace Br := Br.up hb4; replace Bo := Bo.up hb4; replace R0 := R0.on hb4; replace hA := hA.on hb4; replace U := below_on U hb4; obtain ⟨ce26, ce27, ce28, ce29, ce30, ce31, ce32⟩ := h.cells; have ce33 := Br.cell 0; have ce34 := Br.cell 1; have ce35 := Br.cell 2; have ce36 := Bo.cell 0; have ce37 := Bo.cell 1; have ce38 := Bo.cell 2; obtain ⟨l0, l1, l2⟩ := RowAt.linkAt h.at_.links HLI.out)
            | (go_at_call 32; (with_reducible refine (caOver_w p (i : Int) (y : Int) r Rt.none HYN h.at_ hk.small R0 hc2 hcm2).mono ?_); rintro e w5 ⟨Ap, cp, rfl, Rp, hp1, hp2, hb5⟩; replace h := h.go hb5; replace Br := Br.up hb5; replace Bo := Bo.up hb5; replace R0 := R0.on hb5; replace hA := hA.on hb5; replace U := below_on U hb5; obtain ⟨ce39, ce40, ce41, ce42, ce43, ce44, ce45⟩ := h.cells; have ce46 := Br.cell 0; have ce47 := Br.cell 1; have ce48 := Br.cell 2; have ce49 := Bo.cell 0; have ce50 := Bo.cell 1; have ce51 := Bo.cell 2; obtain ⟨l0, l1, l2⟩ := RowAt.linkAt h.at_.links HLI.out)
            | (go_at_call 33; (with_reducible refine (caFits_k (y : Int) 0 0 [] true HN1 h.at_ hk.small (RtAt.none_ _) (Nat.le_refl _) (by omega)).mono ?_); rintro e w6 ⟨rfl, hb6⟩; replace h := h.go hb6; replace Br := Br.up hb6; replace Bo := Bo.up hb6; replace R0 := R0.on hb6; replace hA := hA.on hb6; replace U := below_on U hb6; obtain ⟨ce52, ce53, ce54, ce55, ce56, ce57, ce58⟩ := h.cells; have ce59 := Br.cell 0; have ce60 := Br.cell 1; have ce61 := Br.cell 2; have ce62 := Bo.cell 0; have ce63 := Bo.cell 1; have ce64 := Bo.cell 2; obtain ⟨l0, l1, l2⟩ := RowAt.linkAt h.at_.links HLI.out)
            | (go_at_call 33; (with_reducible refine (caFits_k (p.nodes.length : Int) 0 0 [] false HN2 h.at_ hk.small (RtAt.none_ _) (Nat.le_refl _) (by omega)).mono ?_); rintro e w7 ⟨rfl, hb7⟩; replace h := h.go hb7; replace Br := Br.up hb7; replace Bo := Bo.up hb7; replace R0 := R0.on hb7; replace hA := hA.on hb7; replace U := below_on U hb7; obtain ⟨ce65, ce66, ce67, ce68, ce69, ce70, ce71⟩ := h.cells; have ce72 := Br.cell 0; have ce73 := Br.cell 1; have ce74 := Br.cell 2; have ce75 := Bo.cell 0; have ce76 := Bo.cell 1; have ce77 := Bo.cell 2; obtain ⟨l0, l1, l2⟩ := RowAt.linkAt h.at_.links HLI.out)
            | (go_at_call 32; (with_reducible refine (caOver_w p (p.links.length : Int) (b : Int) r Rt.none HE h.at_ hk.small R0 hc2 hcm2).mono ?_); rintro e w8 ⟨Aq, cq, rfl, Rq, hq1, hq2, hb8⟩; replace h := h.go hb8; replace Br := Br.up hb8; replace Bo := Bo.up hb8; replace R0 := R0.on hb8; replace hA := hA.on hb8; replace U := below_on U hb8; obtain ⟨ce78, ce79, ce80, ce81, ce82, ce83, ce84⟩ := h.cells; have ce85 := Br.cell 0; have ce86 := Br.cell 1; have ce87 := Br.cell 2; have ce88 := Bo.cell 0; have ce89 := Bo.cell 1; have ce90 := Bo.cell 2; obtain ⟨l0, l1, l2⟩ := RowAt.linkAt h.at_.links HLI.out))
          go_ret
          exact ⟨rfl, U⟩
    · have e1 : ((a : Int) == (a : Int)) = true := by simp
      clear hokind
      by_cases ya : y = a
      · have ty : ((y : Int) != (a : Int)) = false := by simp [ya]
        clear hyno ya
        go_enter Try.func10, Try.ntmps10
        go_wp2_with (first
          | (go_at_call 26; (with_reducible refine (awake7_any _).mono ?_); rintro e w1 ⟨rfl, hb1⟩; replace Br := Br.up hb1; replace R0 := R0.on hb1; replace hA := hA.on hb1; replace U := below_on U hb1; have ce0 := Br.cell 0; have ce1 := Br.cell 1; have ce2 := Br.cell 2)
          | (go_at_call 12; refine (Net_at p l HP A n c HLEN.out HM.out hm hc hcm _ hA).mono ?_; rintro e w2 ⟨An, cn, Al, cl, Ad, cd, Ac, cc, rfl, ho, hb2⟩; have h := PBox.new U hb2 ho; replace Br := Br.up hb2; replace R0 := R0.on hb2; replace hA := hA.on hb2; replace U := below_on U hb2; have hn2 := below_new w2 (.cells #[.int .i64 p.proto, .int .i64 p.cap, .int .i64 p.k, .slice An p.nodes.length cn, .slice Al p.links.length cl, .slice Ad p.dests.length cd, .slice Ac p.checks.length cc] 29); replace Br := Br.up hn2; replace R0 := R0.on hn2; replace hA := hA.on hn2; replace U := below_on U hn2; obtain ⟨gL, hgL, _, l0, l1, l2⟩ := h.at_.links.link HLI.out; subst hgL; obtain ⟨ce3, ce4, ce5, ce6, ce7, ce8, ce9⟩ := h.cells; have ce10 := Br.cell 0; have ce11 := Br.cell 1; have ce12 := Br.cell 2; obtain ⟨l0, l1, l2⟩ := RowAt.linkAt h.at_.links HLI.out)
          | (go_at_call 27; (with_reducible refine (pick7_is x0 _ (i : Int) hx0 (by omega) (by omega) HX _).mono ?_); rintro e wp ⟨rfl, rfl⟩)
          | (go_at_call 27; (with_reducible refine (pick7_is y0 _ (y : Int) hy0 (by omega) (by omega) HY _).mono ?_); rintro e wp ⟨rfl, rfl⟩)
          | (go_at_call 32; (with_reducible refine (caOver_w p (i : Int) (b : Int) r oo HOO h.at_ hk.small R0 hc2 hcm2).mono ?_); rintro e w3 ⟨Ao, co, rfl, Ro, ho1, ho2, hb3⟩; replace h := h.go hb3; replace Br := Br.up hb3; replace R0 := R0.on hb3; replace hA := hA.on hb3; replace U := below_on U hb3; have hn3 := below_new w3 (.cells #[.int .i64 oo.kind, .int .i64 oo.cost, .slice Ao oo.path.length co] 42); replace h := h.go hn3; replace Br := Br.up hn3; replace R0 := R0.on hn3; replace hA := hA.on hn3; replace U := below_on U hn3; have Bo := Blk.new w3 42 #[.int .i64 oo.kind, .int .i64 oo.cost, .slice Ao oo.path.length co]; obtain ⟨ce13, ce14, ce15, ce16, ce17, ce18, ce19⟩ := h.cells; have ce20 := Br.cell 0; have ce21 := Br.cell 1; have ce22 := Br.cell 2; have ce23 := Bo.cell 0; have ce24 := Bo.cell 1; have ce25 := Bo.cell 2; obtain ⟨l0, l1, l2⟩ := RowAt.linkAt h.at_.links HLI.out)
          | (go_at_call 33; (with_reducible refine (caFits_w p (a : Int) r _ HF h.at_ hk.small R0 hc2 hcm2).mono ?_); rintro e w4 ⟨rfl, hb4⟩; replace h := h.go hb4; replace Br := Br.up hb4; replace Bo := Bo.up hb4; replace R0 := R0.on hb4; replace hA := hA.on hb4; replace U := below_on U hb4; obtain ⟨ce26, ce27, ce28, ce29, ce30, ce31, ce32⟩ := h.cells; have ce33 := Br.cell 0; have ce34 := Br.cell 1; have ce35 := Br.cell 2; have ce36 := Bo.cell 0; have ce37 := Bo.cell 1; have ce38 := Bo.cell 2; obtain ⟨l0, l1, l2⟩ := RowAt.linkAt h.at_.links HLI.out)
          | (go_at_call 33; (with_reducible refine (caFits_k (y : Int) 0 0 [] true HN1 h.at_ hk.small (RtAt.none_ _) (Nat.le_refl _) (by omega)).mono ?_); rintro e w5 ⟨rfl, hb5⟩; replace h := h.go hb5; replace Br := Br.up hb5; replace Bo := Bo.up hb5; replace R0 := R0.on hb5; replace hA := hA.on hb5; replace U := below_on U hb5; obtain ⟨ce39, ce40, ce41, ce42, ce43, ce44, ce45⟩ := h.cells; have ce46 := Br.cell 0; have ce47 := Br.cell 1; have ce48 := Br.cell 2; have ce49 := Bo.cell 0; have ce50 := Bo.cell 1; have ce51 := Bo.cell 2; obtain ⟨l0, l1, l2⟩ := RowAt.linkAt h.at_.links HLI.out)
          | (go_at_call 33; (with_reducible refine (caFits_k (p.nodes.length : Int) 0 0 [] false HN2 h.at_ hk.small (RtAt.none_ _) (Nat.le_refl _) (by omega)).mono ?_); rintro e w6 ⟨rfl, hb6⟩; replace h := h.go hb6; replace Br := Br.up hb6; replace Bo := Bo.up hb6; replace R0 := R0.on hb6; replace hA := hA.on hb6; replace U := below_on U hb6; obtain ⟨ce52, ce53, ce54, ce55, ce56, ce57, ce58⟩ := h.cells; have ce59 := Br.cell 0; have ce60 := Br.cell 1; have ce61 := Br.cell 2; have ce62 := Bo.cell 0; have ce63 := Bo.cell 1; have ce64 := Bo.cell 2; obtain ⟨l0, l1, l2⟩ := RowAt.linkAt h.at_.links HLI.out)
          | (go_at_call 32; (with_reducible refine (caOver_w p (p.links.length : Int) (b : Int) r Rt.none HE h.at_ hk.small R0 hc2 hcm2).mono ?_); rintro e w7 ⟨Aq, cq, rfl, Rq, hq1, hq2, hb7⟩; replace h := h.go hb7; replace Br := Br.up hb7; replace Bo := Bo.up hb7; replace R0 := R0.on hb7; replace hA := hA.on hb7; replace U := below_on U hb7; obtain ⟨ce65, ce66, ce67, ce68, ce69, ce70, ce71⟩ := h.cells; have ce72 := Br.cell 0; have ce73 := Br.cell 1; have ce74 := Br.cell 2; have ce75 := Bo.cell 0; have ce76 := Bo.cell 1; have ce77 := Bo.cell 2; obtain ⟨l0, l1, l2⟩ := RowAt.linkAt h.at_.links HLI.out))
        go_ret
        exact ⟨rfl, U⟩
      · by_cases yb : y = b
        · have ty : ((y : Int) != (a : Int)) = true := by simp; omega
          have ty2 : ((y : Int) != (b : Int)) = false := by simp [yb]
          clear hyno ya yb
          go_enter Try.func10, Try.ntmps10
          go_wp2_with (first
            | (go_at_call 26; (with_reducible refine (awake7_any _).mono ?_); rintro e w1 ⟨rfl, hb1⟩; replace Br := Br.up hb1; replace R0 := R0.on hb1; replace hA := hA.on hb1; replace U := below_on U hb1; have ce0 := Br.cell 0; have ce1 := Br.cell 1; have ce2 := Br.cell 2)
            | (go_at_call 12; refine (Net_at p l HP A n c HLEN.out HM.out hm hc hcm _ hA).mono ?_; rintro e w2 ⟨An, cn, Al, cl, Ad, cd, Ac, cc, rfl, ho, hb2⟩; have h := PBox.new U hb2 ho; replace Br := Br.up hb2; replace R0 := R0.on hb2; replace hA := hA.on hb2; replace U := below_on U hb2; have hn2 := below_new w2 (.cells #[.int .i64 p.proto, .int .i64 p.cap, .int .i64 p.k, .slice An p.nodes.length cn, .slice Al p.links.length cl, .slice Ad p.dests.length cd, .slice Ac p.checks.length cc] 29); replace Br := Br.up hn2; replace R0 := R0.on hn2; replace hA := hA.on hn2; replace U := below_on U hn2; obtain ⟨gL, hgL, _, l0, l1, l2⟩ := h.at_.links.link HLI.out; subst hgL; obtain ⟨ce3, ce4, ce5, ce6, ce7, ce8, ce9⟩ := h.cells; have ce10 := Br.cell 0; have ce11 := Br.cell 1; have ce12 := Br.cell 2; obtain ⟨l0, l1, l2⟩ := RowAt.linkAt h.at_.links HLI.out)
            | (go_at_call 27; (with_reducible refine (pick7_is x0 _ (i : Int) hx0 (by omega) (by omega) HX _).mono ?_); rintro e wp ⟨rfl, rfl⟩)
            | (go_at_call 27; (with_reducible refine (pick7_is y0 _ (y : Int) hy0 (by omega) (by omega) HY _).mono ?_); rintro e wp ⟨rfl, rfl⟩)
            | (go_at_call 32; (with_reducible refine (caOver_w p (i : Int) (b : Int) r oo HOO h.at_ hk.small R0 hc2 hcm2).mono ?_); rintro e w3 ⟨Ao, co, rfl, Ro, ho1, ho2, hb3⟩; replace h := h.go hb3; replace Br := Br.up hb3; replace R0 := R0.on hb3; replace hA := hA.on hb3; replace U := below_on U hb3; have hn3 := below_new w3 (.cells #[.int .i64 oo.kind, .int .i64 oo.cost, .slice Ao oo.path.length co] 42); replace h := h.go hn3; replace Br := Br.up hn3; replace R0 := R0.on hn3; replace hA := hA.on hn3; replace U := below_on U hn3; have Bo := Blk.new w3 42 #[.int .i64 oo.kind, .int .i64 oo.cost, .slice Ao oo.path.length co]; obtain ⟨ce13, ce14, ce15, ce16, ce17, ce18, ce19⟩ := h.cells; have ce20 := Br.cell 0; have ce21 := Br.cell 1; have ce22 := Br.cell 2; have ce23 := Bo.cell 0; have ce24 := Bo.cell 1; have ce25 := Bo.cell 2; obtain ⟨l0, l1, l2⟩ := RowAt.linkAt h.at_.links HLI.out)
            | (go_at_call 33; (with_reducible refine (caFits_w p (a : Int) r _ HF h.at_ hk.small R0 hc2 hcm2).mono ?_); rintro e w4 ⟨rfl, hb4⟩; replace h := h.go hb4; replace Br := Br.up hb4; replace Bo := Bo.up hb4; replace R0 := R0.on hb4; replace hA := hA.on hb4; replace U := below_on U hb4; obtain ⟨ce26, ce27, ce28, ce29, ce30, ce31, ce32⟩ := h.cells; have ce33 := Br.cell 0; have ce34 := Br.cell 1; have ce35 := Br.cell 2; have ce36 := Bo.cell 0; have ce37 := Bo.cell 1; have ce38 := Bo.cell 2; obtain ⟨l0, l1, l2⟩ := RowAt.linkAt h.at_.links HLI.out)
            | (go_at_call 33; (with_reducible refine (caFits_k (y : Int) 0 0 [] true HN1 h.at_ hk.small (RtAt.none_ _) (Nat.le_refl _) (by omega)).mono ?_); rintro e w5 ⟨rfl, hb5⟩; replace h := h.go hb5; replace Br := Br.up hb5; replace Bo := Bo.up hb5; replace R0 := R0.on hb5; replace hA := hA.on hb5; replace U := below_on U hb5; obtain ⟨ce39, ce40, ce41, ce42, ce43, ce44, ce45⟩ := h.cells; have ce46 := Br.cell 0; have ce47 := Br.cell 1; have ce48 := Br.cell 2; have ce49 := Bo.cell 0; have ce50 := Bo.cell 1; have ce51 := Bo.cell 2; obtain ⟨l0, l1, l2⟩ := RowAt.linkAt h.at_.links HLI.out)
            | (go_at_call 33; (with_reducible refine (caFits_k (p.nodes.length : Int) 0 0 [] false HN2 h.at_ hk.small (RtAt.none_ _) (Nat.le_refl _) (by omega)).mono ?_); rintro e w6 ⟨rfl, hb6⟩; replace h := h.go hb6; replace Br := Br.up hb6; replace Bo := Bo.up hb6; replace R0 := R0.on hb6; replace hA := hA.on hb6; replace U := below_on U hb6; obtain ⟨ce52, ce53, ce54, ce55, ce56, ce57, ce58⟩ := h.cells; have ce59 := Br.cell 0; have ce60 := Br.cell 1; have ce61 := Br.cell 2; have ce62 := Bo.cell 0; have ce63 := Bo.cell 1; have ce64 := Bo.cell 2; obtain ⟨l0, l1, l2⟩ := RowAt.linkAt h.at_.links HLI.out)
            | (go_at_call 32; (with_reducible refine (caOver_w p (p.links.length : Int) (b : Int) r Rt.none HE h.at_ hk.small R0 hc2 hcm2).mono ?_); rintro e w7 ⟨Aq, cq, rfl, Rq, hq1, hq2, hb7⟩; replace h := h.go hb7; replace Br := Br.up hb7; replace Bo := Bo.up hb7; replace R0 := R0.on hb7; replace hA := hA.on hb7; replace U := below_on U hb7; obtain ⟨ce65, ce66, ce67, ce68, ce69, ce70, ce71⟩ := h.cells; have ce72 := Br.cell 0; have ce73 := Br.cell 1; have ce74 := Br.cell 2; have ce75 := Bo.cell 0; have ce76 := Bo.cell 1; have ce77 := Bo.cell 2; obtain ⟨l0, l1, l2⟩ := RowAt.linkAt h.at_.links HLI.out))
          go_ret
          exact ⟨rfl, U⟩
        · have ty : ((y : Int) != (a : Int)) = true := by simp; omega
          have ty2 : ((y : Int) != (b : Int)) = true := by simp; omega
          have HYN := Lib.hid (hyno ya yb)
          clear hyno ya yb
          go_enter Try.func10, Try.ntmps10
          go_wp2_with (first
            | (go_at_call 26; (with_reducible refine (awake7_any _).mono ?_); rintro e w1 ⟨rfl, hb1⟩; replace Br := Br.up hb1; replace R0 := R0.on hb1; replace hA := hA.on hb1; replace U := below_on U hb1; have ce0 := Br.cell 0; have ce1 := Br.cell 1; have ce2 := Br.cell 2)
            | (go_at_call 12; refine (Net_at p l HP A n c HLEN.out HM.out hm hc hcm _ hA).mono ?_; rintro e w2 ⟨An, cn, Al, cl, Ad, cd, Ac, cc, rfl, ho, hb2⟩; have h := PBox.new U hb2 ho; replace Br := Br.up hb2; replace R0 := R0.on hb2; replace hA := hA.on hb2; replace U := below_on U hb2; have hn2 := below_new w2 (.cells #[.int .i64 p.proto, .int .i64 p.cap, .int .i64 p.k, .slice An p.nodes.length cn, .slice Al p.links.length cl, .slice Ad p.dests.length cd, .slice Ac p.checks.length cc] 29); replace Br := Br.up hn2; replace R0 := R0.on hn2; replace hA := hA.on hn2; replace U := below_on U hn2; obtain ⟨gL, hgL, _, l0, l1, l2⟩ := h.at_.links.link HLI.out; subst hgL; obtain ⟨ce3, ce4, ce5, ce6, ce7, ce8, ce9⟩ := h.cells; have ce10 := Br.cell 0; have ce11 := Br.cell 1; have ce12 := Br.cell 2; obtain ⟨l0, l1, l2⟩ := RowAt.linkAt h.at_.links HLI.out)
            | (go_at_call 27; (with_reducible refine (pick7_is x0 _ (i : Int) hx0 (by omega) (by omega) HX _).mono ?_); rintro e wp ⟨rfl, rfl⟩)
            | (go_at_call 27; (with_reducible refine (pick7_is y0 _ (y : Int) hy0 (by omega) (by omega) HY _).mono ?_); rintro e wp ⟨rfl, rfl⟩)
            | (go_at_call 32; (with_reducible refine (caOver_w p (i : Int) (b : Int) r oo HOO h.at_ hk.small R0 hc2 hcm2).mono ?_); rintro e w3 ⟨Ao, co, rfl, Ro, ho1, ho2, hb3⟩; replace h := h.go hb3; replace Br := Br.up hb3; replace R0 := R0.on hb3; replace hA := hA.on hb3; replace U := below_on U hb3; have hn3 := below_new w3 (.cells #[.int .i64 oo.kind, .int .i64 oo.cost, .slice Ao oo.path.length co] 42); replace h := h.go hn3; replace Br := Br.up hn3; replace R0 := R0.on hn3; replace hA := hA.on hn3; replace U := below_on U hn3; have Bo := Blk.new w3 42 #[.int .i64 oo.kind, .int .i64 oo.cost, .slice Ao oo.path.length co]; obtain ⟨ce13, ce14, ce15, ce16, ce17, ce18, ce19⟩ := h.cells; have ce20 := Br.cell 0; have ce21 := Br.cell 1; have ce22 := Br.cell 2; have ce23 := Bo.cell 0; have ce24 := Bo.cell 1; have ce25 := Bo.cell 2; obtain ⟨l0, l1, l2⟩ := RowAt.linkAt h.at_.links HLI.out)
            | (go_at_call 33; (with_reducible refine (caFits_w p (a : Int) r _ HF h.at_ hk.small R0 hc2 hcm2).mono ?_); rintro e w4 ⟨rfl, hb4⟩; replace h := h.go hb4; replace Br := Br.up hb4; replace Bo := Bo.up hb4; replace R0 := R0.on hb4; replace hA := hA.on hb4; replace U := below_on U hb4; obtain ⟨ce26, ce27, ce28, ce29, ce30, ce31, ce32⟩ := h.cells; have ce33 := Br.cell 0; have ce34 := Br.cell 1; have ce35 := Br.cell 2; have ce36 := Bo.cell 0; have ce37 := Bo.cell 1; have ce38 := Bo.cell 2; obtain ⟨l0, l1, l2⟩ := RowAt.linkAt h.at_.links HLI.out)
            | (go_at_call 32; (with_reducible refine (caOver_w p (i : Int) (y : Int) r Rt.none HYN h.at_ hk.small R0 hc2 hcm2).mono ?_); rintro e w5 ⟨Ap, cp, rfl, Rp, hp1, hp2, hb5⟩; replace h := h.go hb5; replace Br := Br.up hb5; replace Bo := Bo.up hb5; replace R0 := R0.on hb5; replace hA := hA.on hb5; replace U := below_on U hb5; obtain ⟨ce39, ce40, ce41, ce42, ce43, ce44, ce45⟩ := h.cells; have ce46 := Br.cell 0; have ce47 := Br.cell 1; have ce48 := Br.cell 2; have ce49 := Bo.cell 0; have ce50 := Bo.cell 1; have ce51 := Bo.cell 2; obtain ⟨l0, l1, l2⟩ := RowAt.linkAt h.at_.links HLI.out)
            | (go_at_call 33; (with_reducible refine (caFits_k (y : Int) 0 0 [] true HN1 h.at_ hk.small (RtAt.none_ _) (Nat.le_refl _) (by omega)).mono ?_); rintro e w6 ⟨rfl, hb6⟩; replace h := h.go hb6; replace Br := Br.up hb6; replace Bo := Bo.up hb6; replace R0 := R0.on hb6; replace hA := hA.on hb6; replace U := below_on U hb6; obtain ⟨ce52, ce53, ce54, ce55, ce56, ce57, ce58⟩ := h.cells; have ce59 := Br.cell 0; have ce60 := Br.cell 1; have ce61 := Br.cell 2; have ce62 := Bo.cell 0; have ce63 := Bo.cell 1; have ce64 := Bo.cell 2; obtain ⟨l0, l1, l2⟩ := RowAt.linkAt h.at_.links HLI.out)
            | (go_at_call 33; (with_reducible refine (caFits_k (p.nodes.length : Int) 0 0 [] false HN2 h.at_ hk.small (RtAt.none_ _) (Nat.le_refl _) (by omega)).mono ?_); rintro e w7 ⟨rfl, hb7⟩; replace h := h.go hb7; replace Br := Br.up hb7; replace Bo := Bo.up hb7; replace R0 := R0.on hb7; replace hA := hA.on hb7; replace U := below_on U hb7; obtain ⟨ce65, ce66, ce67, ce68, ce69, ce70, ce71⟩ := h.cells; have ce72 := Br.cell 0; have ce73 := Br.cell 1; have ce74 := Br.cell 2; have ce75 := Bo.cell 0; have ce76 := Bo.cell 1; have ce77 := Bo.cell 2; obtain ⟨l0, l1, l2⟩ := RowAt.linkAt h.at_.links HLI.out)
            | (go_at_call 32; (with_reducible refine (caOver_w p (p.links.length : Int) (b : Int) r Rt.none HE h.at_ hk.small R0 hc2 hcm2).mono ?_); rintro e w8 ⟨Aq, cq, rfl, Rq, hq1, hq2, hb8⟩; replace h := h.go hb8; replace Br := Br.up hb8; replace Bo := Bo.up hb8; replace R0 := R0.on hb8; replace hA := hA.on hb8; replace U := below_on U hb8; obtain ⟨ce78, ce79, ce80, ce81, ce82, ce83, ce84⟩ := h.cells; have ce85 := Br.cell 0; have ce86 := Br.cell 1; have ce87 := Br.cell 2; have ce88 := Bo.cell 0; have ce89 := Bo.cell 1; have ce90 := Bo.cell 2; obtain ⟨l0, l1, l2⟩ := RowAt.linkAt h.at_.links HLI.out))
          go_ret
          exact ⟨rfl, U⟩
end Go.Proofs.Ytdmilbfdiebjgaa
