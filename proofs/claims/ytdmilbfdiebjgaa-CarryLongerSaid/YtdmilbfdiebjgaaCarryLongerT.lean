/-
  CarryLonger: the walk, the other way.
-/
import Derived.Test.YtdmilbfdiebjgaaCaG
import Derived.Test.YtdmilbfdiebjgaaCaJ
import Derived.Test.YtdmilbfdiebjgaaPmB
namespace Go.Proofs.Ytdmilbfdiebjgaa
open Go.RowKit
set_option linter.unusedVariables false
set_option linter.unusedSimpArgs false

set_option maxHeartbeats 8000000 in
set_option maxRecDepth 100000 in
theorem carryLonger_true (A : Option Addr) (c : Nat) (l : List Int) (hwf : ∀ v ∈ l, InI v) (hm : l.length ≤ 9223372036854775807) (hc : l.length ≤ c) (hcm : c ≤ 9223372036854775807) (x0 : Int) (hx0 : InI x0) (A3 : Option Addr) (c3 : Nat) (l3 : List Int) (hwf3 : ∀ v ∈ l3, InI v) (hm3 : l3.length ≤ 9223372036854775807) (hc3 : l3.length ≤ c3) (hcm3 : c3 ≤ 9223372036854775807) (w : World) (hA : CellsAt w w.heap.size A (l.map (Value.int .i64))) (hA3 : CellsAt w w.heap.size A3 (l3.map (Value.int .i64))) :
    Calls Try.prog 5 #[.slice A l.length c, .int .i64 x0, .bool true, .slice A3 l3.length c3] w fun e w' => e = .returned (.bool true) ∧ Below w.heap.size w w' := by
  obtain ⟨p, hp⟩ : ∃ p, netOf l = p := ⟨_, rfl⟩
  have hk := netOk l
  rw [hp] at hk
  have HP := Lib.hid hp
  have HM := Lib.hid hwf
  clear hp hwf
  obtain ⟨n, hn⟩ : ∃ n, l.length = n := ⟨_, rfl⟩
  rw [hn] at hm hc ⊢
  have HLEN := Lib.hid hn
  clear hn
  have hn1 := hk.nodes1
  have hl9 := hk.links1
  have hR := hk.right.out
  have m1 : ∀ (k c : Int) (A : Option Addr) (n m : Nat) (w : World), (Instr.field 42 (.agg #[.int .i64 k, .int .i64 c, .slice A n m]) 0).run Try.prog w = .ok (.int .i64 k) w := fun _ _ _ _ _ _ => by kernel_rfl
  have m2 : ∀ (k c : Int) (A : Option Addr) (n m : Nat) (w : World), (Instr.field 42 (.agg #[.int .i64 k, .int .i64 c, .slice A n m]) 1).run Try.prog w = .ok (.int .i64 c) w := fun _ _ _ _ _ _ => by kernel_rfl
  have U := Below.refl w.heap.size w
  obtain ⟨n3, hn3⟩ : ∃ n, l3.length = n := ⟨_, rfl⟩
  rw [hn3] at hm3 hc3 ⊢
  have HN3 := Lib.hid hn3
  have HW3 := Lib.hid hwf3
  clear hn3 hwf3
  by_cases hl0 : p.links.length = 0
  · have t0 : ((p.links.length : Int) == 0) = true := by simp [hl0]
    clear hl0
    go_enter Try.func5, Try.ntmps5
    go_wp2_with (first
      | (go_at_call 26; (with_reducible refine (awake7_any _).mono ?_); rintro e w1 ⟨rfl, hb1⟩; replace hA := hA.on hb1; replace hA3 := hA3.on hb1; replace U := below_on U hb1)
      | (go_at_call 12; refine (Net_at p l HP A n c HLEN.out HM.out hm hc hcm _ hA).mono ?_; rintro e w2 ⟨An, cn, Al, cl, Ad, cd, Ac, cc, rfl, ho, hb2⟩; have h := PBox.new U hb2 ho; replace hA := hA.on hb2; replace hA3 := hA3.on hb2; replace U := below_on U hb2; have hn2 := below_new w2 (.cells #[.int .i64 p.proto, .int .i64 p.cap, .int .i64 p.k, .slice An p.nodes.length cn, .slice Al p.links.length cl, .slice Ad p.dests.length cd, .slice Ac p.checks.length cc] 29); replace hA := hA.on hn2; replace hA3 := hA3.on hn2; replace U := below_on U hn2; obtain ⟨ce0, ce1, ce2, ce3, ce4, ce5, ce6⟩ := h.cells))
    go_ret
    exact ⟨rfl, h.up⟩
  · have t0 : ((p.links.length : Int) == 0) = false := beq_eq_false_iff_ne.2 (by omega)
    obtain ⟨i, hi, hil⟩ := pickN_nat x0 p.links.length (by omega)
    have HX := Lib.hid hi
    obtain ⟨⟨la, lb, lc⟩, hli⟩ : ∃ l, p.links[i]? = some l := ⟨_, List.getElem?_eq_getElem hil⟩
    obtain ⟨a, b, ha, hb, hab, hbn, hc0, hc1⟩ := link_ends hR hli
    dsimp only at ha hb hc0 hc1
    subst ha hb
    obtain ⟨nf, hnf⟩ : ∃ nd, p.nodes[b]? = some nd := ⟨_, List.getElem?_eq_getElem (by omega)⟩
    obtain ⟨nt, hnt⟩ : ∃ nd, p.nodes[a]? = some nd := ⟨_, List.getElem?_eq_getElem (by omega)⟩
    have HLI := Lib.hid hli
    have HNF := Lib.hid hnf
    have hLI := HLI.out
    have hcap : p.cap ≤ 12 := by rcases proto_two hR with ⟨_, e⟩ | ⟨_, _, e⟩ <;> omega
    obtain ⟨ob, oa⟩ := other_b (l := ⟨(a : Int), (b : Int), lc⟩) rfl rfl hab
    obtain ⟨r, hr⟩ : ∃ r, heldR p nf.num l3 = r := ⟨_, rfl⟩
    have HRA := Lib.hid hr
    have fa : fitB p nf.num r = true := hr ▸ held_fit hR _ _
    have ka : r.kind ≠ 0 := hr ▸ held_kind _ _ _
    obtain ⟨x, hx⟩ : ∃ o, overB p (i : Int) (a : Int) r = o := ⟨_, rfl⟩
    have HX2 := Lib.hid hx
    have vx := over_two hR hli oa hnf hnt fa ka hx
    have HF1 : Hid (fitsB p (b : Int) r = true) := Lib.hid ((fits_nat hR hnf r).trans fa)
    have HF2 : Hid (fitsB p (a : Int) x = true) := Lib.hid (by
      rw [fits_nat hR hnt]
      rcases vx with ⟨_, e, _⟩ | ⟨e, _⟩
      · exact e
      · rw [e]; rfl)
    obtain ⟨lr, hlr⟩ : ∃ v, rtLen r = v := ⟨_, rfl⟩
    have HLR := Lib.hid hlr
    have key : x.kind ≠ 0 → x.kind = r.kind ∧ rtLen x = lr + (if p.proto = 1 then lc else 1) ∧ rtBetter r x = true := fun e1 => by
      rcases vx with ⟨e, _, e2⟩ | ⟨e, _⟩
      · exact ⟨e2, by rw [e, ← hlr]; exact told_len hR fa ka, by rw [e]; exact told_worse hR hc0 fa ka⟩
      · exact absurd (by rw [e]; rfl) e1
    have lr0 : 0 ≤ lr ∧ lr ≤ 100 := by
      rcases proto_two hR with ⟨e, _⟩ | ⟨e, _⟩
      · obtain ⟨k1, k2, k3, _⟩ := fit_vec fa ka (by omega)
        rw [← hlr]; unfold rtLen lenV; rw [if_pos k1]; omega
      · obtain ⟨k1, k2, k3, k4, _⟩ := fit_pth fa ka e
        rw [← hlr]; unfold rtLen lenV; rw [if_neg (by omega), if_pos k1]; omega
    obtain ⟨lr1, lr2⟩ := lr0
    have hpr := proto_two hR
    have i0 : (0 : Int) ≤ (i : Int) := by omega
    have i1 : (i : Int) < (p.links.length : Int) := by omega
    clear hi hli hnf hnt hr fa ka hx vx hlr hl0 hLI
    rcases hpr with ⟨hp, -⟩ | ⟨hp, -⟩
    · have tp : (p.proto == 1) = true := by simp [hp]
      by_cases ex : x.kind = 0
      · have tx : (x.kind == 0) = true := by simp [ex]
        clear key hp ex
        go_enter Try.func5, Try.ntmps5
        go_upto_region 15 with (first
          | (go_at_call 26; (with_reducible refine (awake7_any _).mono ?_); rintro e w1 ⟨rfl, hb1⟩; replace hA := hA.on hb1; replace hA3 := hA3.on hb1; replace U := below_on U hb1)
          | (go_at_call 12; refine (Net_at p l HP A n c HLEN.out HM.out hm hc hcm _ hA).mono ?_; rintro e w2 ⟨An, cn, Al, cl, Ad, cd, Ac, cc, rfl, ho, hb2⟩; have h := PBox.new U hb2 ho; replace hA := hA.on hb2; replace hA3 := hA3.on hb2; replace U := below_on U hb2; have hn2 := below_new w2 (.cells #[.int .i64 p.proto, .int .i64 p.cap, .int .i64 p.k, .slice An p.nodes.length cn, .slice Al p.links.length cl, .slice Ad p.dests.length cd, .slice Ac p.checks.length cc] 29); replace hA := hA.on hn2; replace hA3 := hA3.on hn2; replace U := below_on U hn2; obtain ⟨gL, hgL, _, l0, l1, l2⟩ := h.at_.links.link HLI.out; subst hgL; obtain ⟨ce0, ce1, ce2, ce3, ce4, ce5, ce6⟩ := h.cells; obtain ⟨l0, l1, l2⟩ := RowAt.linkAt h.at_.links HLI.out)
          | (go_at_call 27; (with_reducible refine (pick7_is x0 _ (i : Int) hx0 (by omega) (by omega) HX _).mono ?_); rintro e wp ⟨rfl, rfl⟩)
          | (go_at_call 36; (with_reducible refine (held_is p b nf HNF hcap l3 r HRA HW3 n3 HN3 hm3 h.at_ hk.small hA3).mono ?_); rintro e w3 ⟨Aa, ca, rfl, Ra, ha1, ha2, hb3⟩; replace h := h.go hb3; replace hA := hA.on hb3; replace hA3 := hA3.on hb3; replace U := below_on U hb3; have hn3 := below_new w3 (.cells #[.int .i64 r.kind, .int .i64 r.cost, .slice Aa r.path.length ca] 42); replace h := h.go hn3; replace hA := hA.on hn3; replace hA3 := hA3.on hn3; replace Ra := Ra.on hn3; replace U := below_on U hn3; have Ba := Blk.new w3 42 #[.int .i64 r.kind, .int .i64 r.cost, .slice Aa r.path.length ca]; obtain ⟨ce7, ce8, ce9, ce10, ce11, ce12, ce13⟩ := h.cells; have ce14 := Ba.cell 0; have ce15 := Ba.cell 1; have ce16 := Ba.cell 2; obtain ⟨l0, l1, l2⟩ := RowAt.linkAt h.at_.links HLI.out)
          | (go_at_call 32; (with_reducible refine (caOver_w p (i : Int) (a : Int) r x HX2 h.at_ hk.small Ra ha1 ha2).mono ?_); rintro e w4 ⟨Ax, cx, rfl, Rx, hx1, hx2, hb4⟩; replace h := h.go hb4; replace Ba := Ba.up hb4; replace hA := hA.on hb4; replace hA3 := hA3.on hb4; replace Ra := Ra.on hb4; replace U := below_on U hb4; have hn4 := below_new w4 (.cells #[.int .i64 x.kind, .int .i64 x.cost, .slice Ax x.path.length cx] 42); replace h := h.go hn4; replace Ba := Ba.up hn4; replace hA := hA.on hn4; replace hA3 := hA3.on hn4; replace Ra := Ra.on hn4; replace Rx := Rx.on hn4; replace U := below_on U hn4; have Bx := Blk.new w4 42 #[.int .i64 x.kind, .int .i64 x.cost, .slice Ax x.path.length cx]; obtain ⟨ce17, ce18, ce19, ce20, ce21, ce22, ce23⟩ := h.cells; have ce24 := Ba.cell 0; have ce25 := Ba.cell 1; have ce26 := Ba.cell 2; have ce27 := Bx.cell 0; have ce28 := Bx.cell 1; have ce29 := Bx.cell 2; obtain ⟨l0, l1, l2⟩ := RowAt.linkAt h.at_.links HLI.out))
        refine wp_region_held_drew (S := (fun w' => (w'.cell? ⟨w2.heap.size, 0, none⟩ = some (.int .i64 p.proto) ∧ w'.cell? ⟨w2.heap.size, 1, none⟩ = some (.int .i64 p.cap) ∧ w'.cell? ⟨w2.heap.size, 2, none⟩ = some (.int .i64 p.k) ∧ w'.cell? ⟨w2.heap.size, 3, none⟩ = some (.slice An p.nodes.length cn) ∧ w'.cell? ⟨w2.heap.size, 4, none⟩ = some (.slice (some ⟨gL, 0, none⟩) p.links.length cl) ∧ w'.cell? ⟨w2.heap.size, 5, none⟩ = some (.slice Ad p.dests.length cd) ∧ w'.cell? ⟨w2.heap.size, 6, none⟩ = some (.slice Ac p.checks.length cc)) ∧ (w'.cell? ⟨w3.heap.size, 0, none⟩ = some (.int .i64 r.kind) ∧ w'.cell? ⟨w3.heap.size, 1, none⟩ = some (.int .i64 r.cost) ∧ w'.cell? ⟨w3.heap.size, 2, none⟩ = some (.slice Aa r.path.length ca)) ∧ (w'.cell? ⟨w4.heap.size, 0, none⟩ = some (.int .i64 x.kind) ∧ w'.cell? ⟨w4.heap.size, 1, none⟩ = some (.int .i64 x.cost) ∧ w'.cell? ⟨w4.heap.size, 2, none⟩ = some (.slice Ax x.path.length cx)))) (by kernel_rfl) (by go_keep) (fun hHeld => ?_)
        have hdr : Below (w4.alloc (.cells #[.int .i64 x.kind, .int .i64 x.cost, .slice Ax x.path.length cx] 42)).heap.size (w4.alloc (.cells #[.int .i64 x.kind, .int .i64 x.cost, .slice Ax x.path.length cx] 42)) (w4.alloc (.cells #[.int .i64 x.kind, .int .i64 x.cost, .slice Ax x.path.length cx] 42)).drew := (Below.refl _ _).drew
        replace h := h.go hdr
        replace Ba := Ba.up hdr
        replace Bx := Bx.up hdr
        replace hA := hA.on hdr
        replace hA3 := hA3.on hdr
        replace Ra := Ra.on hdr
        replace Rx := Rx.on hdr
        replace U := below_on U hdr
        refine wpAnyH_take (i := 0) (oi := ?o81) (v := ?v81) ?h81 ?s81 ?f81 ?c81 ?q81 ?y81 hHeld ?r81
        case h81 => (simp only [List.getElem?_toArray, List.getElem?_cons_succ, List.getElem?_cons_zero]; rfl)
        case s81 => kernel_rfl
        case f81 => kernel_rfl
        case c81 => kernel_rfl
        case y81 => (refine Or.inl ⟨by rfl, ?_⟩; intro w hSw; (try dsimp only at hSw); go_simp; (try with_reducible rfl))
        case q81 => exact fun _ _ _ h => h
        try simp only [Act.put, List.setIfInBounds_toArray, List.set_cons_zero, List.set_cons_succ]
        refine wpAnyH_take (i := 1) (oi := ?o82) (v := ?v82) ?h82 ?s82 ?f82 ?c82 ?q82 ?y82 hHeld ?r82
        case h82 => (simp only [List.getElem?_toArray, List.getElem?_cons_succ, List.getElem?_cons_zero]; rfl)
        case s82 => kernel_rfl
        case f82 => kernel_rfl
        case c82 => kernel_rfl
        case y82 => (refine Or.inl ⟨by rfl, ?_⟩; intro w hSw; (try dsimp only at hSw); go_simp; (try with_reducible rfl))
        case q82 => exact fun _ _ _ h => h
        try simp only [Act.put, List.setIfInBounds_toArray, List.set_cons_zero, List.set_cons_succ]
        refine wpAnyH_take (i := 2) (oi := ?o83) (v := ?v83) ?h83 ?s83 ?f83 ?c83 ?q83 ?y83 hHeld ?r83
        case h83 => (simp only [List.getElem?_toArray, List.getElem?_cons_succ, List.getElem?_cons_zero]; rfl)
        case s83 => kernel_rfl
        case f83 => kernel_rfl
        case c83 => kernel_rfl
        case y83 => (refine Or.inl ⟨by rfl, ?_⟩; intro w hSw; (try dsimp only at hSw); go_simp; (try with_reducible rfl))
        case q83 => exact fun _ _ _ h => h
        try simp only [Act.put, List.setIfInBounds_toArray, List.set_cons_zero, List.set_cons_succ]
        refine wpAnyH_take (i := 3) (oi := ?o84) (v := ?v84) ?h84 ?s84 ?f84 ?c84 ?q84 ?y84 hHeld ?r84
        case h84 => (simp only [List.getElem?_toArray, List.getElem?_cons_succ, List.getElem?_cons_zero]; rfl)
        case s84 => kernel_rfl
        case f84 => kernel_rfl
        case c84 => kernel_rfl
        case y84 => (refine Or.inl ⟨by rfl, ?_⟩; intro w hSw; (try dsimp only at hSw); go_simp; (try with_reducible rfl))
        case q84 => exact fun _ _ _ h => h
        try simp only [Act.put, List.setIfInBounds_toArray, List.set_cons_zero, List.set_cons_succ]
        refine wpAnyH_take (i := 4) (oi := ?o85) (v := ?v85) ?h85 ?s85 ?f85 ?c85 ?q85 ?y85 hHeld ?r85
        case h85 => (simp only [List.getElem?_toArray, List.getElem?_cons_succ, List.getElem?_cons_zero]; rfl)
        case s85 => kernel_rfl
        case f85 => kernel_rfl
        case c85 => kernel_rfl
        case y85 => (refine Or.inl ⟨by rfl, ?_⟩; intro w hSw; (try dsimp only at hSw); go_simp; (try with_reducible rfl))
        case q85 => exact fun _ _ _ h => h
        try simp only [Act.put, List.setIfInBounds_toArray, List.set_cons_zero, List.set_cons_succ]
        refine wpAnyH_ready (rs := [5]) (by kernel_rfl) (by simp) ?_
        refine AllReadyH.cons rfl (fun K hK => ?_) ?n86
        case n86 => exact AllReadyH.nil
        go_simp
        (go_at_call 33; (with_reducible refine (caFits_w p (b : Int) r _ HF1 h.at_ hk.small Ra ha1 ha2).mono ?_); rintro e w5 ⟨rfl, hb5⟩; replace h := h.go hb5; replace Ba := Ba.up hb5; replace Bx := Bx.up hb5; replace hA := hA.on hb5; replace hA3 := hA3.on hb5; replace Ra := Ra.on hb5; replace Rx := Rx.on hb5; replace U := below_on U hb5; obtain ⟨ce30, ce31, ce32, ce33, ce34, ce35, ce36⟩ := h.cells; have ce37 := Ba.cell 0; have ce38 := Ba.cell 1; have ce39 := Ba.cell 2; have ce40 := Bx.cell 0; have ce41 := Bx.cell 1; have ce42 := Bx.cell 2; obtain ⟨l0, l1, l2⟩ := RowAt.linkAt h.at_.links HLI.out)
        go_wp2_with fail
        refine hK.out _ _ (by go_keep) (fun hHeld => ?_)
        clear hK
        try simp only [Act.put, List.setIfInBounds_toArray, List.set_cons_zero, List.set_cons_succ]
        refine wpAnyH_take (i := 6) (oi := ?o87) (v := ?v87) ?h87 ?s87 ?f87 ?c87 ?q87 ?y87 hHeld ?r87
        case h87 => (simp only [List.getElem?_toArray, List.getElem?_cons_succ, List.getElem?_cons_zero]; rfl)
        case s87 => kernel_rfl
        case f87 => kernel_rfl
        case c87 => kernel_rfl
        case y87 => (refine Or.inl ⟨by rfl, ?_⟩; intro w hSw; (try dsimp only at hSw); go_simp; (try with_reducible rfl))
        case q87 => exact fun _ _ _ h => h
        try simp only [Act.put, List.setIfInBounds_toArray, List.set_cons_zero, List.set_cons_succ]
        refine wpAnyH_take (i := 7) (oi := ?o88) (v := ?v88) ?h88 ?s88 ?f88 ?c88 ?q88 ?y88 hHeld ?r88
        case h88 => (simp only [List.getElem?_toArray, List.getElem?_cons_succ, List.getElem?_cons_zero]; rfl)
        case s88 => kernel_rfl
        case f88 => kernel_rfl
        case c88 => kernel_rfl
        case y88 => (refine Or.inl ⟨by rfl, ?_⟩; intro w hSw; (try dsimp only at hSw); go_simp; (try with_reducible rfl))
        case q88 => exact fun _ _ _ h => h
        try simp only [Act.put, List.setIfInBounds_toArray, List.set_cons_zero, List.set_cons_succ]
        refine wpAnyH_take (i := 8) (oi := ?o89) (v := ?v89) ?h89 ?s89 ?f89 ?c89 ?q89 ?y89 hHeld ?r89
        case h89 => (simp only [List.getElem?_toArray, List.getElem?_cons_succ, List.getElem?_cons_zero]; rfl)
        case s89 => kernel_rfl
        case f89 => kernel_rfl
        case c89 => kernel_rfl
        case y89 => (refine Or.inl ⟨by rfl, ?_⟩; intro w hSw; (try dsimp only at hSw); go_simp; (try with_reducible rfl))
        case q89 => exact fun _ _ _ h => h
        try simp only [Act.put, List.setIfInBounds_toArray, List.set_cons_zero, List.set_cons_succ]
        refine wpAnyH_take (i := 9) (oi := ?o90) (v := ?v90) ?h90 ?s90 ?f90 ?c90 ?q90 ?y90 hHeld ?r90
        case h90 => (simp only [List.getElem?_toArray, List.getElem?_cons_succ, List.getElem?_cons_zero]; rfl)
        case s90 => kernel_rfl
        case f90 => kernel_rfl
        case c90 => kernel_rfl
        case y90 => (refine Or.inl ⟨by rfl, ?_⟩; intro w hSw; (try dsimp only at hSw); go_simp; (try with_reducible rfl))
        case q90 => exact fun _ _ _ h => h
        try simp only [Act.put, List.setIfInBounds_toArray, List.set_cons_zero, List.set_cons_succ]
        refine wpAnyH_take (i := 10) (oi := ?o91) (v := ?v91) ?h91 ?s91 ?f91 ?c91 ?q91 ?y91 hHeld ?r91
        case h91 => (simp only [List.getElem?_toArray, List.getElem?_cons_succ, List.getElem?_cons_zero]; rfl)
        case s91 => kernel_rfl
        case f91 => kernel_rfl
        case c91 => kernel_rfl
        case y91 => (refine Or.inl ⟨by rfl, ?_⟩; intro w hSw; (try dsimp only at hSw); go_simp; (try with_reducible rfl))
        case q91 => exact fun _ _ _ h => h
        try simp only [Act.put, List.setIfInBounds_toArray, List.set_cons_zero, List.set_cons_succ]
        refine wpAnyH_ready (rs := [11]) (by kernel_rfl) (by simp) ?_
        refine AllReadyH.cons rfl (fun K hK => ?_) ?n92
        case n92 => exact AllReadyH.nil
        go_simp
        (go_at_call 33; (with_reducible refine (caFits_w p (a : Int) x _ HF2 h.at_ hk.small Rx hx1 hx2).mono ?_); rintro e w6 ⟨rfl, hb6⟩; replace h := h.go hb6; replace Ba := Ba.up hb6; replace Bx := Bx.up hb6; replace hA := hA.on hb6; replace hA3 := hA3.on hb6; replace Ra := Ra.on hb6; replace Rx := Rx.on hb6; replace U := below_on U hb6; obtain ⟨ce43, ce44, ce45, ce46, ce47, ce48, ce49⟩ := h.cells; have ce50 := Ba.cell 0; have ce51 := Ba.cell 1; have ce52 := Ba.cell 2; have ce53 := Bx.cell 0; have ce54 := Bx.cell 1; have ce55 := Bx.cell 2; obtain ⟨l0, l1, l2⟩ := RowAt.linkAt h.at_.links HLI.out)
        go_wp2_with fail
        refine hK.out _ _ (by go_keep) (fun hHeld => ?_)
        clear hK
        try simp only [Act.put, List.setIfInBounds_toArray, List.set_cons_zero, List.set_cons_succ]
        refine wpAnyH_take (i := 12) (oi := ?o93) (v := ?v93) ?h93 ?s93 ?f93 ?c93 ?q93 ?y93 hHeld ?r93
        case h93 => (simp only [List.getElem?_toArray, List.getElem?_cons_succ, List.getElem?_cons_zero]; rfl)
        case s93 => kernel_rfl
        case f93 => kernel_rfl
        case c93 => kernel_rfl
        case y93 => (refine Or.inl ⟨by rfl, ?_⟩; intro w hSw; (try dsimp only at hSw); go_simp; (try with_reducible rfl))
        case q93 => exact fun _ _ _ h => h
        try simp only [Act.put, List.setIfInBounds_toArray, List.set_cons_zero, List.set_cons_succ]
        refine wpAnyH_take (i := 13) (oi := ?o94) (v := ?v94) ?h94 ?s94 ?f94 ?c94 ?q94 ?y94 hHeld ?r94
        case h94 => (simp only [List.getElem?_toArray, List.getElem?_cons_succ, List.getElem?_cons_zero]; rfl)
        case s94 => kernel_rfl
        case f94 => kernel_rfl
        case c94 => kernel_rfl
        case y94 => (refine Or.inl ⟨by rfl, ?_⟩; intro w hSw; (try dsimp only at hSw); go_simp; (try with_reducible rfl))
        case q94 => exact fun _ _ _ h => h
        try simp only [Act.put, List.setIfInBounds_toArray, List.set_cons_zero, List.set_cons_succ]
        refine wpAnyH_take (i := 14) (oi := ?o95) (v := ?v95) ?h95 ?s95 ?f95 ?c95 ?q95 ?y95 hHeld ?r95
        case h95 => (simp only [List.getElem?_toArray, List.getElem?_cons_succ, List.getElem?_cons_zero]; rfl)
        case s95 => kernel_rfl
        case f95 => kernel_rfl
        case c95 => kernel_rfl
        case y95 => (refine Or.inl ⟨by rfl, ?_⟩; intro w hSw; (try dsimp only at hSw); go_simp; (try with_reducible rfl))
        case q95 => exact fun _ _ _ h => h
        try simp only [Act.put, List.setIfInBounds_toArray, List.set_cons_zero, List.set_cons_succ]
        refine wpAnyH_take (i := 15) (oi := ?o96) (v := ?v96) ?h96 ?s96 ?f96 ?c96 ?q96 ?y96 hHeld ?r96
        case h96 => (simp only [List.getElem?_toArray, List.getElem?_cons_succ, List.getElem?_cons_zero]; rfl)
        case s96 => kernel_rfl
        case f96 => kernel_rfl
        case c96 => kernel_rfl
        case y96 => (refine Or.inl ⟨by rfl, ?_⟩; intro w hSw; (try dsimp only at hSw); go_simp; (try with_reducible rfl))
        case q96 => exact fun _ _ _ h => h
        try simp only [Act.put, List.setIfInBounds_toArray, List.set_cons_zero, List.set_cons_succ]
        refine wpAnyH_take (i := 16) (oi := ?o97) (v := ?v97) ?h97 ?s97 ?f97 ?c97 ?q97 ?y97 hHeld ?r97
        case h97 => (simp only [List.getElem?_toArray, List.getElem?_cons_succ, List.getElem?_cons_zero]; rfl)
        case s97 => kernel_rfl
        case f97 => kernel_rfl
        case c97 => kernel_rfl
        case y97 => (refine Or.inl ⟨by rfl, ?_⟩; intro w hSw; (try dsimp only at hSw); go_simp; (try with_reducible rfl))
        case q97 => exact fun _ _ _ h => h
        try simp only [Act.put, List.setIfInBounds_toArray, List.set_cons_zero, List.set_cons_succ]
        refine wpAnyH_take (i := 17) (oi := ?o98) (v := ?v98) ?h98 ?s98 ?f98 ?c98 ?q98 ?y98 hHeld ?r98
        case h98 => (simp only [List.getElem?_toArray, List.getElem?_cons_succ, List.getElem?_cons_zero]; rfl)
        case s98 => kernel_rfl
        case f98 => kernel_rfl
        case c98 => kernel_rfl
        case y98 => (refine Or.inl ⟨by rfl, ?_⟩; intro w hSw; (try dsimp only at hSw); go_simp; (try with_reducible rfl))
        case q98 => exact fun _ _ _ h => h
        try simp only [Act.put, List.setIfInBounds_toArray, List.set_cons_zero, List.set_cons_succ]
        refine wpAnyH_take (i := 18) (oi := ?o99) (v := undef) ?h99 ?s99 ?f99 ?c99 ?q99 ?y99 hHeld ?r99
        case h99 => (simp only [List.getElem?_toArray, List.getElem?_cons_succ, List.getElem?_cons_zero]; rfl)
        case s99 => kernel_rfl
        case f99 => kernel_rfl
        case c99 => kernel_rfl
        case y99 => exact Or.inr ⟨by rfl, rfl⟩
        case q99 => exact fun _ _ _ h => h
        try simp only [Act.put, List.setIfInBounds_toArray, List.set_cons_zero, List.set_cons_succ]
        refine wpAnyH_take (i := 19) (oi := ?o100) (v := undef) ?h100 ?s100 ?f100 ?c100 ?q100 ?y100 hHeld ?r100
        case h100 => (simp only [List.getElem?_toArray, List.getElem?_cons_succ, List.getElem?_cons_zero]; rfl)
        case s100 => kernel_rfl
        case f100 => kernel_rfl
        case c100 => kernel_rfl
        case y100 => exact Or.inr ⟨by rfl, rfl⟩
        case q100 => exact fun _ _ _ h => h
        try simp only [Act.put, List.setIfInBounds_toArray, List.set_cons_zero, List.set_cons_succ]
        refine wpAnyH_take (i := 20) (oi := ?o101) (v := undef) ?h101 ?s101 ?f101 ?c101 ?q101 ?y101 hHeld ?r101
        case h101 => (simp only [List.getElem?_toArray, List.getElem?_cons_succ, List.getElem?_cons_zero]; rfl)
        case s101 => kernel_rfl
        case f101 => kernel_rfl
        case c101 => kernel_rfl
        case y101 => exact Or.inr ⟨by rfl, rfl⟩
        case q101 => exact fun _ _ _ h => h
        try simp only [Act.put, List.setIfInBounds_toArray, List.set_cons_zero, List.set_cons_succ]
        refine wpAnyH_take (i := 21) (oi := ?o102) (v := undef) ?h102 ?s102 ?f102 ?c102 ?q102 ?y102 hHeld ?r102
        case h102 => (simp only [List.getElem?_toArray, List.getElem?_cons_succ, List.getElem?_cons_zero]; rfl)
        case s102 => kernel_rfl
        case f102 => kernel_rfl
        case c102 => kernel_rfl
        case y102 => exact Or.inr ⟨by rfl, rfl⟩
        case q102 => exact fun _ _ _ h => h
        try simp only [Act.put, List.setIfInBounds_toArray, List.set_cons_zero, List.set_cons_succ]
        refine wpAnyH_take (i := 22) (oi := ?o103) (v := undef) ?h103 ?s103 ?f103 ?c103 ?q103 ?y103 hHeld ?r103
        case h103 => (simp only [List.getElem?_toArray, List.getElem?_cons_succ, List.getElem?_cons_zero]; rfl)
        case s103 => kernel_rfl
        case f103 => kernel_rfl
        case c103 => kernel_rfl
        case y103 => exact Or.inr ⟨by rfl, rfl⟩
        case q103 => exact fun _ _ _ h => h
        try simp only [Act.put, List.setIfInBounds_toArray, List.set_cons_zero, List.set_cons_succ]
        refine wpAnyH_take (i := 23) (oi := ?o104) (v := undef) ?h104 ?s104 ?f104 ?c104 ?q104 ?y104 hHeld ?r104
        case h104 => (simp only [List.getElem?_toArray, List.getElem?_cons_succ, List.getElem?_cons_zero]; rfl)
        case s104 => kernel_rfl
        case f104 => kernel_rfl
        case c104 => kernel_rfl
        case y104 => exact Or.inr ⟨by rfl, rfl⟩
        case q104 => exact fun _ _ _ h => h
        try simp only [Act.put, List.setIfInBounds_toArray, List.set_cons_zero, List.set_cons_succ]
        refine wpAnyH_take (i := 24) (oi := ?o105) (v := undef) ?h105 ?s105 ?f105 ?c105 ?q105 ?y105 hHeld ?r105
        case h105 => (simp only [List.getElem?_toArray, List.getElem?_cons_succ, List.getElem?_cons_zero]; rfl)
        case s105 => kernel_rfl
        case f105 => kernel_rfl
        case c105 => kernel_rfl
        case y105 => exact Or.inr ⟨by rfl, rfl⟩
        case q105 => exact fun _ _ _ h => h
        try simp only [Act.put, List.setIfInBounds_toArray, List.set_cons_zero, List.set_cons_succ]
        refine wpAnyH_take (i := 25) (oi := ?o106) (v := undef) ?h106 ?s106 ?f106 ?c106 ?q106 ?y106 hHeld ?r106
        case h106 => (simp only [List.getElem?_toArray, List.getElem?_cons_succ, List.getElem?_cons_zero]; rfl)
        case s106 => kernel_rfl
        case f106 => kernel_rfl
        case c106 => kernel_rfl
        case y106 => exact Or.inr ⟨by rfl, rfl⟩
        case q106 => exact fun _ _ _ h => h
        try simp only [Act.put, List.setIfInBounds_toArray, List.set_cons_zero, List.set_cons_succ]
        refine wpAnyH_take (i := 26) (oi := ?o107) (v := undef) ?h107 ?s107 ?f107 ?c107 ?q107 ?y107 hHeld ?r107
        case h107 => (simp only [List.getElem?_toArray, List.getElem?_cons_succ, List.getElem?_cons_zero]; rfl)
        case s107 => kernel_rfl
        case f107 => kernel_rfl
        case c107 => kernel_rfl
        case y107 => exact Or.inr ⟨by rfl, rfl⟩
        case q107 => exact fun _ _ _ h => h
        try simp only [Act.put, List.setIfInBounds_toArray, List.set_cons_zero, List.set_cons_succ]
        refine wpAnyH_take (i := 27) (oi := ?o108) (v := undef) ?h108 ?s108 ?f108 ?c108 ?q108 ?y108 hHeld ?r108
        case h108 => (simp only [List.getElem?_toArray, List.getElem?_cons_succ, List.getElem?_cons_zero]; rfl)
        case s108 => kernel_rfl
        case f108 => kernel_rfl
        case c108 => kernel_rfl
        case y108 => exact Or.inr ⟨by rfl, rfl⟩
        case q108 => exact fun _ _ _ h => h
        try simp only [Act.put, List.setIfInBounds_toArray, List.set_cons_zero, List.set_cons_succ]
        refine wpAnyH_take (i := 28) (oi := ?o109) (v := undef) ?h109 ?s109 ?f109 ?c109 ?q109 ?y109 hHeld ?r109
        case h109 => (simp only [List.getElem?_toArray, List.getElem?_cons_succ, List.getElem?_cons_zero]; rfl)
        case s109 => kernel_rfl
        case f109 => kernel_rfl
        case c109 => kernel_rfl
        case y109 => exact Or.inr ⟨by rfl, rfl⟩
        case q109 => exact fun _ _ _ h => h
        try simp only [Act.put, List.setIfInBounds_toArray, List.set_cons_zero, List.set_cons_succ]
        refine wpAnyH_take (i := 29) (oi := ?o110) (v := undef) ?h110 ?s110 ?f110 ?c110 ?q110 ?y110 hHeld ?r110
        case h110 => (simp only [List.getElem?_toArray, List.getElem?_cons_succ, List.getElem?_cons_zero]; rfl)
        case s110 => kernel_rfl
        case f110 => kernel_rfl
        case c110 => kernel_rfl
        case y110 => exact Or.inr ⟨by rfl, rfl⟩
        case q110 => exact fun _ _ _ h => h
        try simp only [Act.put, List.setIfInBounds_toArray, List.set_cons_zero, List.set_cons_succ]
        refine wpAnyH_take (i := 30) (oi := ?o111) (v := undef) ?h111 ?s111 ?f111 ?c111 ?q111 ?y111 hHeld ?r111
        case h111 => (simp only [List.getElem?_toArray, List.getElem?_cons_succ, List.getElem?_cons_zero]; rfl)
        case s111 => kernel_rfl
        case f111 => kernel_rfl
        case c111 => kernel_rfl
        case y111 => exact Or.inr ⟨by rfl, rfl⟩
        case q111 => exact fun _ _ _ h => h
        try simp only [Act.put, List.setIfInBounds_toArray, List.set_cons_zero, List.set_cons_succ]
        refine wpAnyH_take (i := 31) (oi := ?o112) (v := undef) ?h112 ?s112 ?f112 ?c112 ?q112 ?y112 hHeld ?r112
        case h112 => (simp only [List.getElem?_toArray, List.getElem?_cons_succ, List.getElem?_cons_zero]; rfl)
        case s112 => kernel_rfl
        case f112 => kernel_rfl
        case c112 => kernel_rfl
        case y112 => exact Or.inr ⟨by rfl, rfl⟩
        case q112 => exact fun _ _ _ h => h
        try simp only [Act.put, List.setIfInBounds_toArray, List.set_cons_zero, List.set_cons_succ]
        refine wpAnyH_take (i := 32) (oi := ?o113) (v := undef) ?h113 ?s113 ?f113 ?c113 ?q113 ?y113 hHeld ?r113
        case h113 => (simp only [List.getElem?_toArray, List.getElem?_cons_succ, List.getElem?_cons_zero]; rfl)
        case s113 => kernel_rfl
        case f113 => kernel_rfl
        case c113 => kernel_rfl
        case y113 => exact Or.inr ⟨by rfl, rfl⟩
        case q113 => exact fun _ _ _ h => h
        try simp only [Act.put, List.setIfInBounds_toArray, List.set_cons_zero, List.set_cons_succ]
        refine wpAnyH_take (i := 33) (oi := ?o114) (v := undef) ?h114 ?s114 ?f114 ?c114 ?q114 ?y114 hHeld ?r114
        case h114 => (simp only [List.getElem?_toArray, List.getElem?_cons_succ, List.getElem?_cons_zero]; rfl)
        case s114 => kernel_rfl
        case f114 => kernel_rfl
        case c114 => kernel_rfl
        case y114 => exact Or.inr ⟨by rfl, rfl⟩
        case q114 => exact fun _ _ _ h => h
        try simp only [Act.put, List.setIfInBounds_toArray, List.set_cons_zero, List.set_cons_succ]
        refine wpAnyH_take (i := 34) (oi := ?o115) (v := undef) ?h115 ?s115 ?f115 ?c115 ?q115 ?y115 hHeld ?r115
        case h115 => (simp only [List.getElem?_toArray, List.getElem?_cons_succ, List.getElem?_cons_zero]; rfl)
        case s115 => kernel_rfl
        case f115 => kernel_rfl
        case c115 => kernel_rfl
        case y115 => exact Or.inr ⟨by rfl, rfl⟩
        case q115 => exact fun _ _ _ h => h
        try simp only [Act.put, List.setIfInBounds_toArray, List.set_cons_zero, List.set_cons_succ]
        refine wpAnyH_take (i := 35) (oi := ?o116) (v := undef) ?h116 ?s116 ?f116 ?c116 ?q116 ?y116 hHeld ?r116
        case h116 => (simp only [List.getElem?_toArray, List.getElem?_cons_succ, List.getElem?_cons_zero]; rfl)
        case s116 => kernel_rfl
        case f116 => kernel_rfl
        case c116 => kernel_rfl
        case y116 => exact Or.inr ⟨by rfl, rfl⟩
        case q116 => exact fun _ _ _ h => h
        try simp only [Act.put, List.setIfInBounds_toArray, List.set_cons_zero, List.set_cons_succ]
        refine wpAnyH_take (i := 36) (oi := ?o117) (v := undef) ?h117 ?s117 ?f117 ?c117 ?q117 ?y117 hHeld ?r117
        case h117 => (simp only [List.getElem?_toArray, List.getElem?_cons_succ, List.getElem?_cons_zero]; rfl)
        case s117 => kernel_rfl
        case f117 => kernel_rfl
        case c117 => kernel_rfl
        case y117 => exact Or.inr ⟨by rfl, rfl⟩
        case q117 => exact fun _ _ _ h => h
        try simp only [Act.put, List.setIfInBounds_toArray, List.set_cons_zero, List.set_cons_succ]
        refine wpAnyH_take (i := 37) (oi := ?o118) (v := ?v118) ?h118 ?s118 ?f118 ?c118 ?q118 ?y118 hHeld ?r118
        case h118 => (simp only [List.getElem?_toArray, List.getElem?_cons_succ, List.getElem?_cons_zero]; rfl)
        case s118 => kernel_rfl
        case f118 => kernel_rfl
        case c118 => kernel_rfl
        case y118 => (refine Or.inl ⟨by rfl, ?_⟩; intro w hSw; (try dsimp only at hSw); go_simp; (try with_reducible rfl))
        case q118 => exact fun _ _ _ h => h
        try simp only [Act.put, List.setIfInBounds_toArray, List.set_cons_zero, List.set_cons_succ]
        refine wpAnyH_take (i := 38) (oi := ?o119) (v := ?v119) ?h119 ?s119 ?f119 ?c119 ?q119 ?y119 hHeld ?r119
        case h119 => (simp only [List.getElem?_toArray, List.getElem?_cons_succ, List.getElem?_cons_zero]; rfl)
        case s119 => kernel_rfl
        case f119 => kernel_rfl
        case c119 => kernel_rfl
        case y119 => (refine Or.inl ⟨by rfl, ?_⟩; intro w hSw; (try dsimp only at hSw); go_simp; (try with_reducible rfl))
        case q119 => exact fun _ _ _ h => h
        try simp only [Act.put, List.setIfInBounds_toArray, List.set_cons_zero, List.set_cons_succ]
        refine wpAnyH_take (i := 39) (oi := ?o120) (v := ?v120) ?h120 ?s120 ?f120 ?c120 ?q120 ?y120 hHeld ?r120
        case h120 => (simp only [List.getElem?_toArray, List.getElem?_cons_succ, List.getElem?_cons_zero]; rfl)
        case s120 => kernel_rfl
        case f120 => kernel_rfl
        case c120 => kernel_rfl
        case y120 => (refine Or.inl ⟨by rfl, ?_⟩; intro w hSw; (try dsimp only at hSw); go_simp; (try with_reducible rfl))
        case q120 => exact fun _ _ _ h => h
        try simp only [Act.put, List.setIfInBounds_toArray, List.set_cons_zero, List.set_cons_succ]
        refine wpAnyH_done (by kernel_rfl) ?_ _
        repeat go_step
        go_wp2_with fail
        go_ret
        exact ⟨rfl, U⟩
      · have tx : (x.kind == 0) = false := by simp [ex]
        obtain ⟨k1, k2, k3⟩ := key ex
        rw [if_pos hp] at k2
        have tk : (x.kind == r.kind) = true := by simp [k1]
        have HLX : Hid (rtLen x = IntKind.i64.wrap (lr + lc)) := Lib.hid (by rw [k2, IntKind.wrap_i64]; omega)
        have HBT := Lib.hid k3
        clear key hp ex k1 k3 k2
        go_enter Try.func5, Try.ntmps5
        go_upto_region 15 with (first
          | (go_at_call 26; (with_reducible refine (awake7_any _).mono ?_); rintro e w1 ⟨rfl, hb1⟩; replace hA := hA.on hb1; replace hA3 := hA3.on hb1; replace U := below_on U hb1)
          | (go_at_call 12; refine (Net_at p l HP A n c HLEN.out HM.out hm hc hcm _ hA).mono ?_; rintro e w2 ⟨An, cn, Al, cl, Ad, cd, Ac, cc, rfl, ho, hb2⟩; have h := PBox.new U hb2 ho; replace hA := hA.on hb2; replace hA3 := hA3.on hb2; replace U := below_on U hb2; have hn2 := below_new w2 (.cells #[.int .i64 p.proto, .int .i64 p.cap, .int .i64 p.k, .slice An p.nodes.length cn, .slice Al p.links.length cl, .slice Ad p.dests.length cd, .slice Ac p.checks.length cc] 29); replace hA := hA.on hn2; replace hA3 := hA3.on hn2; replace U := below_on U hn2; obtain ⟨gL, hgL, _, l0, l1, l2⟩ := h.at_.links.link HLI.out; subst hgL; obtain ⟨ce0, ce1, ce2, ce3, ce4, ce5, ce6⟩ := h.cells; obtain ⟨l0, l1, l2⟩ := RowAt.linkAt h.at_.links HLI.out)
          | (go_at_call 27; (with_reducible refine (pick7_is x0 _ (i : Int) hx0 (by omega) (by omega) HX _).mono ?_); rintro e wp ⟨rfl, rfl⟩)
          | (go_at_call 36; (with_reducible refine (held_is p b nf HNF hcap l3 r HRA HW3 n3 HN3 hm3 h.at_ hk.small hA3).mono ?_); rintro e w3 ⟨Aa, ca, rfl, Ra, ha1, ha2, hb3⟩; replace h := h.go hb3; replace hA := hA.on hb3; replace hA3 := hA3.on hb3; replace U := below_on U hb3; have hn3 := below_new w3 (.cells #[.int .i64 r.kind, .int .i64 r.cost, .slice Aa r.path.length ca] 42); replace h := h.go hn3; replace hA := hA.on hn3; replace hA3 := hA3.on hn3; replace Ra := Ra.on hn3; replace U := below_on U hn3; have Ba := Blk.new w3 42 #[.int .i64 r.kind, .int .i64 r.cost, .slice Aa r.path.length ca]; obtain ⟨ce7, ce8, ce9, ce10, ce11, ce12, ce13⟩ := h.cells; have ce14 := Ba.cell 0; have ce15 := Ba.cell 1; have ce16 := Ba.cell 2; obtain ⟨l0, l1, l2⟩ := RowAt.linkAt h.at_.links HLI.out)
          | (go_at_call 32; (with_reducible refine (caOver_w p (i : Int) (a : Int) r x HX2 h.at_ hk.small Ra ha1 ha2).mono ?_); rintro e w4 ⟨Ax, cx, rfl, Rx, hx1, hx2, hb4⟩; replace h := h.go hb4; replace Ba := Ba.up hb4; replace hA := hA.on hb4; replace hA3 := hA3.on hb4; replace Ra := Ra.on hb4; replace U := below_on U hb4; have hn4 := below_new w4 (.cells #[.int .i64 x.kind, .int .i64 x.cost, .slice Ax x.path.length cx] 42); replace h := h.go hn4; replace Ba := Ba.up hn4; replace hA := hA.on hn4; replace hA3 := hA3.on hn4; replace Ra := Ra.on hn4; replace Rx := Rx.on hn4; replace U := below_on U hn4; have Bx := Blk.new w4 42 #[.int .i64 x.kind, .int .i64 x.cost, .slice Ax x.path.length cx]; obtain ⟨ce17, ce18, ce19, ce20, ce21, ce22, ce23⟩ := h.cells; have ce24 := Ba.cell 0; have ce25 := Ba.cell 1; have ce26 := Ba.cell 2; have ce27 := Bx.cell 0; have ce28 := Bx.cell 1; have ce29 := Bx.cell 2; obtain ⟨l0, l1, l2⟩ := RowAt.linkAt h.at_.links HLI.out))
        have hdr : Below (w4.alloc (.cells #[.int .i64 x.kind, .int .i64 x.cost, .slice Ax x.path.length cx] 42)).heap.size (w4.alloc (.cells #[.int .i64 x.kind, .int .i64 x.cost, .slice Ax x.path.length cx] 42)) (w4.alloc (.cells #[.int .i64 x.kind, .int .i64 x.cost, .slice Ax x.path.length cx] 42)).drew := (Below.refl _ _).drew
        replace h := h.go hdr
        replace Ba := Ba.up hdr
        replace Bx := Bx.up hdr
        replace hA := hA.on hdr
        replace hA3 := hA3.on hdr
        replace Ra := Ra.on hdr
        replace Rx := Rx.on hdr
        replace U := below_on U hdr
        go_region_held3 (fun w' => (w'.cell? ⟨w2.heap.size, 0, none⟩ = some (.int .i64 p.proto) ∧ w'.cell? ⟨w2.heap.size, 1, none⟩ = some (.int .i64 p.cap) ∧ w'.cell? ⟨w2.heap.size, 2, none⟩ = some (.int .i64 p.k) ∧ w'.cell? ⟨w2.heap.size, 3, none⟩ = some (.slice An p.nodes.length cn) ∧ w'.cell? ⟨w2.heap.size, 4, none⟩ = some (.slice (some ⟨gL, 0, none⟩) p.links.length cl) ∧ w'.cell? ⟨w2.heap.size, 5, none⟩ = some (.slice Ad p.dests.length cd) ∧ w'.cell? ⟨w2.heap.size, 6, none⟩ = some (.slice Ac p.checks.length cc)) ∧ (w'.cell? ⟨w3.heap.size, 0, none⟩ = some (.int .i64 r.kind) ∧ w'.cell? ⟨w3.heap.size, 1, none⟩ = some (.int .i64 r.cost) ∧ w'.cell? ⟨w3.heap.size, 2, none⟩ = some (.slice Aa r.path.length ca)) ∧ (w'.cell? ⟨w4.heap.size, 0, none⟩ = some (.int .i64 x.kind) ∧ w'.cell? ⟨w4.heap.size, 1, none⟩ = some (.int .i64 x.cost) ∧ w'.cell? ⟨w4.heap.size, 2, none⟩ = some (.slice Ax x.path.length cx))) (go_keep) (first
          | (go_at_call 33; (with_reducible refine (caFits_w p (b : Int) r _ HF1 h.at_ hk.small Ra ha1 ha2).mono ?_); rintro e w5 ⟨rfl, hb5⟩; replace h := h.go hb5; replace Ba := Ba.up hb5; replace Bx := Bx.up hb5; replace hA := hA.on hb5; replace hA3 := hA3.on hb5; replace Ra := Ra.on hb5; replace Rx := Rx.on hb5; replace U := below_on U hb5; obtain ⟨ce30, ce31, ce32, ce33, ce34, ce35, ce36⟩ := h.cells; have ce37 := Ba.cell 0; have ce38 := Ba.cell 1; have ce39 := Ba.cell 2; have ce40 := Bx.cell 0; have ce41 := Bx.cell 1; have ce42 := Bx.cell 2; obtain ⟨l0, l1, l2⟩ := RowAt.linkAt h.at_.links HLI.out)
          | (go_at_call 33; (with_reducible refine (caFits_w p (a : Int) x _ HF2 h.at_ hk.small Rx hx1 hx2).mono ?_); rintro e w6 ⟨rfl, hb6⟩; replace h := h.go hb6; replace Ba := Ba.up hb6; replace Bx := Bx.up hb6; replace hA := hA.on hb6; replace hA3 := hA3.on hb6; replace Ra := Ra.on hb6; replace Rx := Rx.on hb6; replace U := below_on U hb6; obtain ⟨ce43, ce44, ce45, ce46, ce47, ce48, ce49⟩ := h.cells; have ce50 := Ba.cell 0; have ce51 := Ba.cell 1; have ce52 := Ba.cell 2; have ce53 := Bx.cell 0; have ce54 := Bx.cell 1; have ce55 := Bx.cell 2; obtain ⟨l0, l1, l2⟩ := RowAt.linkAt h.at_.links HLI.out)
          | (go_at_call 37; (with_reducible refine (atLength_is x (IntKind.i64.wrap (lr + lc)) HLX cx rfl).mono ?_); rintro e w7 ⟨rfl, hb7⟩; replace h := h.go hb7; replace Ba := Ba.up hb7; replace Bx := Bx.up hb7; replace hA := hA.on hb7; replace hA3 := hA3.on hb7; replace Ra := Ra.on hb7; replace Rx := Rx.on hb7; replace U := below_on U hb7; obtain ⟨ce56, ce57, ce58, ce59, ce60, ce61, ce62⟩ := h.cells; have ce63 := Ba.cell 0; have ce64 := Ba.cell 1; have ce65 := Ba.cell 2; have ce66 := Bx.cell 0; have ce67 := Bx.cell 1; have ce68 := Bx.cell 2; obtain ⟨l0, l1, l2⟩ := RowAt.linkAt h.at_.links HLI.out)
          | (go_at_call 37; (with_reducible refine (atLength_is r lr HLR ca rfl).mono ?_); rintro e w8 ⟨rfl, hb8⟩; replace h := h.go hb8; replace Ba := Ba.up hb8; replace Bx := Bx.up hb8; replace hA := hA.on hb8; replace hA3 := hA3.on hb8; replace Ra := Ra.on hb8; replace Rx := Rx.on hb8; replace U := below_on U hb8; obtain ⟨ce69, ce70, ce71, ce72, ce73, ce74, ce75⟩ := h.cells; have ce76 := Ba.cell 0; have ce77 := Ba.cell 1; have ce78 := Ba.cell 2; have ce79 := Bx.cell 0; have ce80 := Bx.cell 1; have ce81 := Bx.cell 2; obtain ⟨l0, l1, l2⟩ := RowAt.linkAt h.at_.links HLI.out)
          | (go_at_call 38; (with_reducible refine (atBetter_is r x _ HBT Ra Rx).mono ?_); rintro e w9 ⟨rfl, hb9⟩; replace h := h.go hb9; replace Ba := Ba.up hb9; replace Bx := Bx.up hb9; replace hA := hA.on hb9; replace hA3 := hA3.on hb9; replace Ra := Ra.on hb9; replace Rx := Rx.on hb9; replace U := below_on U hb9; obtain ⟨ce82, ce83, ce84, ce85, ce86, ce87, ce88⟩ := h.cells; have ce89 := Ba.cell 0; have ce90 := Ba.cell 1; have ce91 := Ba.cell 2; have ce92 := Bx.cell 0; have ce93 := Bx.cell 1; have ce94 := Bx.cell 2; obtain ⟨l0, l1, l2⟩ := RowAt.linkAt h.at_.links HLI.out))
        go_step
        go_wp2_with fail
        go_ret
        exact ⟨rfl, U⟩
    · have tp : (p.proto == 1) = false := by simp [hp]
      by_cases ex : x.kind = 0
      · have tx : (x.kind == 0) = true := by simp [ex]
        clear key hp ex
        go_enter Try.func5, Try.ntmps5
        go_upto_region 15 with (first
          | (go_at_call 26; (with_reducible refine (awake7_any _).mono ?_); rintro e w1 ⟨rfl, hb1⟩; replace hA := hA.on hb1; replace hA3 := hA3.on hb1; replace U := below_on U hb1)
          | (go_at_call 12; refine (Net_at p l HP A n c HLEN.out HM.out hm hc hcm _ hA).mono ?_; rintro e w2 ⟨An, cn, Al, cl, Ad, cd, Ac, cc, rfl, ho, hb2⟩; have h := PBox.new U hb2 ho; replace hA := hA.on hb2; replace hA3 := hA3.on hb2; replace U := below_on U hb2; have hn2 := below_new w2 (.cells #[.int .i64 p.proto, .int .i64 p.cap, .int .i64 p.k, .slice An p.nodes.length cn, .slice Al p.links.length cl, .slice Ad p.dests.length cd, .slice Ac p.checks.length cc] 29); replace hA := hA.on hn2; replace hA3 := hA3.on hn2; replace U := below_on U hn2; obtain ⟨gL, hgL, _, l0, l1, l2⟩ := h.at_.links.link HLI.out; subst hgL; obtain ⟨ce0, ce1, ce2, ce3, ce4, ce5, ce6⟩ := h.cells; obtain ⟨l0, l1, l2⟩ := RowAt.linkAt h.at_.links HLI.out)
          | (go_at_call 27; (with_reducible refine (pick7_is x0 _ (i : Int) hx0 (by omega) (by omega) HX _).mono ?_); rintro e wp ⟨rfl, rfl⟩)
          | (go_at_call 36; (with_reducible refine (held_is p b nf HNF hcap l3 r HRA HW3 n3 HN3 hm3 h.at_ hk.small hA3).mono ?_); rintro e w3 ⟨Aa, ca, rfl, Ra, ha1, ha2, hb3⟩; replace h := h.go hb3; replace hA := hA.on hb3; replace hA3 := hA3.on hb3; replace U := below_on U hb3; have hn3 := below_new w3 (.cells #[.int .i64 r.kind, .int .i64 r.cost, .slice Aa r.path.length ca] 42); replace h := h.go hn3; replace hA := hA.on hn3; replace hA3 := hA3.on hn3; replace Ra := Ra.on hn3; replace U := below_on U hn3; have Ba := Blk.new w3 42 #[.int .i64 r.kind, .int .i64 r.cost, .slice Aa r.path.length ca]; obtain ⟨ce7, ce8, ce9, ce10, ce11, ce12, ce13⟩ := h.cells; have ce14 := Ba.cell 0; have ce15 := Ba.cell 1; have ce16 := Ba.cell 2; obtain ⟨l0, l1, l2⟩ := RowAt.linkAt h.at_.links HLI.out)
          | (go_at_call 32; (with_reducible refine (caOver_w p (i : Int) (a : Int) r x HX2 h.at_ hk.small Ra ha1 ha2).mono ?_); rintro e w4 ⟨Ax, cx, rfl, Rx, hx1, hx2, hb4⟩; replace h := h.go hb4; replace Ba := Ba.up hb4; replace hA := hA.on hb4; replace hA3 := hA3.on hb4; replace Ra := Ra.on hb4; replace U := below_on U hb4; have hn4 := below_new w4 (.cells #[.int .i64 x.kind, .int .i64 x.cost, .slice Ax x.path.length cx] 42); replace h := h.go hn4; replace Ba := Ba.up hn4; replace hA := hA.on hn4; replace hA3 := hA3.on hn4; replace Ra := Ra.on hn4; replace Rx := Rx.on hn4; replace U := below_on U hn4; have Bx := Blk.new w4 42 #[.int .i64 x.kind, .int .i64 x.cost, .slice Ax x.path.length cx]; obtain ⟨ce17, ce18, ce19, ce20, ce21, ce22, ce23⟩ := h.cells; have ce24 := Ba.cell 0; have ce25 := Ba.cell 1; have ce26 := Ba.cell 2; have ce27 := Bx.cell 0; have ce28 := Bx.cell 1; have ce29 := Bx.cell 2; obtain ⟨l0, l1, l2⟩ := RowAt.linkAt h.at_.links HLI.out))
        refine wp_region_held_drew (S := (fun w' => (w'.cell? ⟨w2.heap.size, 0, none⟩ = some (.int .i64 p.proto) ∧ w'.cell? ⟨w2.heap.size, 1, none⟩ = some (.int .i64 p.cap) ∧ w'.cell? ⟨w2.heap.size, 2, none⟩ = some (.int .i64 p.k) ∧ w'.cell? ⟨w2.heap.size, 3, none⟩ = some (.slice An p.nodes.length cn) ∧ w'.cell? ⟨w2.heap.size, 4, none⟩ = some (.slice (some ⟨gL, 0, none⟩) p.links.length cl) ∧ w'.cell? ⟨w2.heap.size, 5, none⟩ = some (.slice Ad p.dests.length cd) ∧ w'.cell? ⟨w2.heap.size, 6, none⟩ = some (.slice Ac p.checks.length cc)) ∧ (w'.cell? ⟨w3.heap.size, 0, none⟩ = some (.int .i64 r.kind) ∧ w'.cell? ⟨w3.heap.size, 1, none⟩ = some (.int .i64 r.cost) ∧ w'.cell? ⟨w3.heap.size, 2, none⟩ = some (.slice Aa r.path.length ca)) ∧ (w'.cell? ⟨w4.heap.size, 0, none⟩ = some (.int .i64 x.kind) ∧ w'.cell? ⟨w4.heap.size, 1, none⟩ = some (.int .i64 x.cost) ∧ w'.cell? ⟨w4.heap.size, 2, none⟩ = some (.slice Ax x.path.length cx)))) (by kernel_rfl) (by go_keep) (fun hHeld => ?_)
        have hdr : Below (w4.alloc (.cells #[.int .i64 x.kind, .int .i64 x.cost, .slice Ax x.path.length cx] 42)).heap.size (w4.alloc (.cells #[.int .i64 x.kind, .int .i64 x.cost, .slice Ax x.path.length cx] 42)) (w4.alloc (.cells #[.int .i64 x.kind, .int .i64 x.cost, .slice Ax x.path.length cx] 42)).drew := (Below.refl _ _).drew
        replace h := h.go hdr
        replace Ba := Ba.up hdr
        replace Bx := Bx.up hdr
        replace hA := hA.on hdr
        replace hA3 := hA3.on hdr
        replace Ra := Ra.on hdr
        replace Rx := Rx.on hdr
        replace U := below_on U hdr
        refine wpAnyH_take (i := 0) (oi := ?o121) (v := ?v121) ?h121 ?s121 ?f121 ?c121 ?q121 ?y121 hHeld ?r121
        case h121 => (simp only [List.getElem?_toArray, List.getElem?_cons_succ, List.getElem?_cons_zero]; rfl)
        case s121 => kernel_rfl
        case f121 => kernel_rfl
        case c121 => kernel_rfl
        case y121 => (refine Or.inl ⟨by rfl, ?_⟩; intro w hSw; (try dsimp only at hSw); go_simp; (try with_reducible rfl))
        case q121 => exact fun _ _ _ h => h
        try simp only [Act.put, List.setIfInBounds_toArray, List.set_cons_zero, List.set_cons_succ]
        refine wpAnyH_take (i := 1) (oi := ?o122) (v := ?v122) ?h122 ?s122 ?f122 ?c122 ?q122 ?y122 hHeld ?r122
        case h122 => (simp only [List.getElem?_toArray, List.getElem?_cons_succ, List.getElem?_cons_zero]; rfl)
        case s122 => kernel_rfl
        case f122 => kernel_rfl
        case c122 => kernel_rfl
        case y122 => (refine Or.inl ⟨by rfl, ?_⟩; intro w hSw; (try dsimp only at hSw); go_simp; (try with_reducible rfl))
        case q122 => exact fun _ _ _ h => h
        try simp only [Act.put, List.setIfInBounds_toArray, List.set_cons_zero, List.set_cons_succ]
        refine wpAnyH_take (i := 2) (oi := ?o123) (v := ?v123) ?h123 ?s123 ?f123 ?c123 ?q123 ?y123 hHeld ?r123
        case h123 => (simp only [List.getElem?_toArray, List.getElem?_cons_succ, List.getElem?_cons_zero]; rfl)
        case s123 => kernel_rfl
        case f123 => kernel_rfl
        case c123 => kernel_rfl
        case y123 => (refine Or.inl ⟨by rfl, ?_⟩; intro w hSw; (try dsimp only at hSw); go_simp; (try with_reducible rfl))
        case q123 => exact fun _ _ _ h => h
        try simp only [Act.put, List.setIfInBounds_toArray, List.set_cons_zero, List.set_cons_succ]
        refine wpAnyH_take (i := 3) (oi := ?o124) (v := ?v124) ?h124 ?s124 ?f124 ?c124 ?q124 ?y124 hHeld ?r124
        case h124 => (simp only [List.getElem?_toArray, List.getElem?_cons_succ, List.getElem?_cons_zero]; rfl)
        case s124 => kernel_rfl
        case f124 => kernel_rfl
        case c124 => kernel_rfl
        case y124 => (refine Or.inl ⟨by rfl, ?_⟩; intro w hSw; (try dsimp only at hSw); go_simp; (try with_reducible rfl))
        case q124 => exact fun _ _ _ h => h
        try simp only [Act.put, List.setIfInBounds_toArray, List.set_cons_zero, List.set_cons_succ]
        refine wpAnyH_take (i := 4) (oi := ?o125) (v := ?v125) ?h125 ?s125 ?f125 ?c125 ?q125 ?y125 hHeld ?r125
        case h125 => (simp only [List.getElem?_toArray, List.getElem?_cons_succ, List.getElem?_cons_zero]; rfl)
        case s125 => kernel_rfl
        case f125 => kernel_rfl
        case c125 => kernel_rfl
        case y125 => (refine Or.inl ⟨by rfl, ?_⟩; intro w hSw; (try dsimp only at hSw); go_simp; (try with_reducible rfl))
        case q125 => exact fun _ _ _ h => h
        try simp only [Act.put, List.setIfInBounds_toArray, List.set_cons_zero, List.set_cons_succ]
        refine wpAnyH_ready (rs := [5]) (by kernel_rfl) (by simp) ?_
        refine AllReadyH.cons rfl (fun K hK => ?_) ?n126
        case n126 => exact AllReadyH.nil
        go_simp
        (go_at_call 33; (with_reducible refine (caFits_w p (b : Int) r _ HF1 h.at_ hk.small Ra ha1 ha2).mono ?_); rintro e w5 ⟨rfl, hb5⟩; replace h := h.go hb5; replace Ba := Ba.up hb5; replace Bx := Bx.up hb5; replace hA := hA.on hb5; replace hA3 := hA3.on hb5; replace Ra := Ra.on hb5; replace Rx := Rx.on hb5; replace U := below_on U hb5; obtain ⟨ce30, ce31, ce32, ce33, ce34, ce35, ce36⟩ := h.cells; have ce37 := Ba.cell 0; have ce38 := Ba.cell 1; have ce39 := Ba.cell 2; have ce40 := Bx.cell 0; have ce41 := Bx.cell 1; have ce42 := Bx.cell 2; obtain ⟨l0, l1, l2⟩ := RowAt.linkAt h.at_.links HLI.out)
        go_wp2_with fail
        refine hK.out _ _ (by go_keep) (fun hHeld => ?_)
        clear hK
        try simp only [Act.put, List.setIfInBounds_toArray, List.set_cons_zero, List.set_cons_succ]
        refine wpAnyH_take (i := 6) (oi := ?o127) (v := ?v127) ?h127 ?s127 ?f127 ?c127 ?q127 ?y127 hHeld ?r127
        case h127 => (simp only [List.getElem?_toArray, List.getElem?_cons_succ, List.getElem?_cons_zero]; rfl)
        case s127 => kernel_rfl
        case f127 => kernel_rfl
        case c127 => kernel_rfl
        case y127 => (refine Or.inl ⟨by rfl, ?_⟩; intro w hSw; (try dsimp only at hSw); go_simp; (try with_reducible rfl))
        case q127 => exact fun _ _ _ h => h
        try simp only [Act.put, List.setIfInBounds_toArray, List.set_cons_zero, List.set_cons_succ]
        refine wpAnyH_take (i := 7) (oi := ?o128) (v := ?v128) ?h128 ?s128 ?f128 ?c128 ?q128 ?y128 hHeld ?r128
        case h128 => (simp only [List.getElem?_toArray, List.getElem?_cons_succ, List.getElem?_cons_zero]; rfl)
        case s128 => kernel_rfl
        case f128 => kernel_rfl
        case c128 => kernel_rfl
        case y128 => (refine Or.inl ⟨by rfl, ?_⟩; intro w hSw; (try dsimp only at hSw); go_simp; (try with_reducible rfl))
        case q128 => exact fun _ _ _ h => h
        try simp only [Act.put, List.setIfInBounds_toArray, List.set_cons_zero, List.set_cons_succ]
        refine wpAnyH_take (i := 8) (oi := ?o129) (v := ?v129) ?h129 ?s129 ?f129 ?c129 ?q129 ?y129 hHeld ?r129
        case h129 => (simp only [List.getElem?_toArray, List.getElem?_cons_succ, List.getElem?_cons_zero]; rfl)
        case s129 => kernel_rfl
        case f129 => kernel_rfl
        case c129 => kernel_rfl
        case y129 => (refine Or.inl ⟨by rfl, ?_⟩; intro w hSw; (try dsimp only at hSw); go_simp; (try with_reducible rfl))
        case q129 => exact fun _ _ _ h => h
        try simp only [Act.put, List.setIfInBounds_toArray, List.set_cons_zero, List.set_cons_succ]
        refine wpAnyH_take (i := 9) (oi := ?o130) (v := ?v130) ?h130 ?s130 ?f130 ?c130 ?q130 ?y130 hHeld ?r130
        case h130 => (simp only [List.getElem?_toArray, List.getElem?_cons_succ, List.getElem?_cons_zero]; rfl)
        case s130 => kernel_rfl
        case f130 => kernel_rfl
        case c130 => kernel_rfl
        case y130 => (refine Or.inl ⟨by rfl, ?_⟩; intro w hSw; (try dsimp only at hSw); go_simp; (try with_reducible rfl))
        case q130 => exact fun _ _ _ h => h
        try simp only [Act.put, List.setIfInBounds_toArray, List.set_cons_zero, List.set_cons_succ]
        refine wpAnyH_take (i := 10) (oi := ?o131) (v := ?v131) ?h131 ?s131 ?f131 ?c131 ?q131 ?y131 hHeld ?r131
        case h131 => (simp only [List.getElem?_toArray, List.getElem?_cons_succ, List.getElem?_cons_zero]; rfl)
        case s131 => kernel_rfl
        case f131 => kernel_rfl
        case c131 => kernel_rfl
        case y131 => (refine Or.inl ⟨by rfl, ?_⟩; intro w hSw; (try dsimp only at hSw); go_simp; (try with_reducible rfl))
        case q131 => exact fun _ _ _ h => h
        try simp only [Act.put, List.setIfInBounds_toArray, List.set_cons_zero, List.set_cons_succ]
        refine wpAnyH_ready (rs := [11]) (by kernel_rfl) (by simp) ?_
        refine AllReadyH.cons rfl (fun K hK => ?_) ?n132
        case n132 => exact AllReadyH.nil
        go_simp
        (go_at_call 33; (with_reducible refine (caFits_w p (a : Int) x _ HF2 h.at_ hk.small Rx hx1 hx2).mono ?_); rintro e w6 ⟨rfl, hb6⟩; replace h := h.go hb6; replace Ba := Ba.up hb6; replace Bx := Bx.up hb6; replace hA := hA.on hb6; replace hA3 := hA3.on hb6; replace Ra := Ra.on hb6; replace Rx := Rx.on hb6; replace U := below_on U hb6; obtain ⟨ce43, ce44, ce45, ce46, ce47, ce48, ce49⟩ := h.cells; have ce50 := Ba.cell 0; have ce51 := Ba.cell 1; have ce52 := Ba.cell 2; have ce53 := Bx.cell 0; have ce54 := Bx.cell 1; have ce55 := Bx.cell 2; obtain ⟨l0, l1, l2⟩ := RowAt.linkAt h.at_.links HLI.out)
        go_wp2_with fail
        refine hK.out _ _ (by go_keep) (fun hHeld => ?_)
        clear hK
        try simp only [Act.put, List.setIfInBounds_toArray, List.set_cons_zero, List.set_cons_succ]
        refine wpAnyH_take (i := 12) (oi := ?o133) (v := ?v133) ?h133 ?s133 ?f133 ?c133 ?q133 ?y133 hHeld ?r133
        case h133 => (simp only [List.getElem?_toArray, List.getElem?_cons_succ, List.getElem?_cons_zero]; rfl)
        case s133 => kernel_rfl
        case f133 => kernel_rfl
        case c133 => kernel_rfl
        case y133 => (refine Or.inl ⟨by rfl, ?_⟩; intro w hSw; (try dsimp only at hSw); go_simp; (try with_reducible rfl))
        case q133 => exact fun _ _ _ h => h
        try simp only [Act.put, List.setIfInBounds_toArray, List.set_cons_zero, List.set_cons_succ]
        refine wpAnyH_take (i := 13) (oi := ?o134) (v := ?v134) ?h134 ?s134 ?f134 ?c134 ?q134 ?y134 hHeld ?r134
        case h134 => (simp only [List.getElem?_toArray, List.getElem?_cons_succ, List.getElem?_cons_zero]; rfl)
        case s134 => kernel_rfl
        case f134 => kernel_rfl
        case c134 => kernel_rfl
        case y134 => (refine Or.inl ⟨by rfl, ?_⟩; intro w hSw; (try dsimp only at hSw); go_simp; (try with_reducible rfl))
        case q134 => exact fun _ _ _ h => h
        try simp only [Act.put, List.setIfInBounds_toArray, List.set_cons_zero, List.set_cons_succ]
        refine wpAnyH_take (i := 14) (oi := ?o135) (v := ?v135) ?h135 ?s135 ?f135 ?c135 ?q135 ?y135 hHeld ?r135
        case h135 => (simp only [List.getElem?_toArray, List.getElem?_cons_succ, List.getElem?_cons_zero]; rfl)
        case s135 => kernel_rfl
        case f135 => kernel_rfl
        case c135 => kernel_rfl
        case y135 => (refine Or.inl ⟨by rfl, ?_⟩; intro w hSw; (try dsimp only at hSw); go_simp; (try with_reducible rfl))
        case q135 => exact fun _ _ _ h => h
        try simp only [Act.put, List.setIfInBounds_toArray, List.set_cons_zero, List.set_cons_succ]
        refine wpAnyH_take (i := 15) (oi := ?o136) (v := ?v136) ?h136 ?s136 ?f136 ?c136 ?q136 ?y136 hHeld ?r136
        case h136 => (simp only [List.getElem?_toArray, List.getElem?_cons_succ, List.getElem?_cons_zero]; rfl)
        case s136 => kernel_rfl
        case f136 => kernel_rfl
        case c136 => kernel_rfl
        case y136 => (refine Or.inl ⟨by rfl, ?_⟩; intro w hSw; (try dsimp only at hSw); go_simp; (try with_reducible rfl))
        case q136 => exact fun _ _ _ h => h
        try simp only [Act.put, List.setIfInBounds_toArray, List.set_cons_zero, List.set_cons_succ]
        refine wpAnyH_take (i := 16) (oi := ?o137) (v := ?v137) ?h137 ?s137 ?f137 ?c137 ?q137 ?y137 hHeld ?r137
        case h137 => (simp only [List.getElem?_toArray, List.getElem?_cons_succ, List.getElem?_cons_zero]; rfl)
        case s137 => kernel_rfl
        case f137 => kernel_rfl
        case c137 => kernel_rfl
        case y137 => (refine Or.inl ⟨by rfl, ?_⟩; intro w hSw; (try dsimp only at hSw); go_simp; (try with_reducible rfl))
        case q137 => exact fun _ _ _ h => h
        try simp only [Act.put, List.setIfInBounds_toArray, List.set_cons_zero, List.set_cons_succ]
        refine wpAnyH_take (i := 17) (oi := ?o138) (v := ?v138) ?h138 ?s138 ?f138 ?c138 ?q138 ?y138 hHeld ?r138
        case h138 => (simp only [List.getElem?_toArray, List.getElem?_cons_succ, List.getElem?_cons_zero]; rfl)
        case s138 => kernel_rfl
        case f138 => kernel_rfl
        case c138 => kernel_rfl
        case y138 => (refine Or.inl ⟨by rfl, ?_⟩; intro w hSw; (try dsimp only at hSw); go_simp; (try with_reducible rfl))
        case q138 => exact fun _ _ _ h => h
        try simp only [Act.put, List.setIfInBounds_toArray, List.set_cons_zero, List.set_cons_succ]
        refine wpAnyH_take (i := 18) (oi := ?o139) (v := undef) ?h139 ?s139 ?f139 ?c139 ?q139 ?y139 hHeld ?r139
        case h139 => (simp only [List.getElem?_toArray, List.getElem?_cons_succ, List.getElem?_cons_zero]; rfl)
        case s139 => kernel_rfl
        case f139 => kernel_rfl
        case c139 => kernel_rfl
        case y139 => exact Or.inr ⟨by rfl, rfl⟩
        case q139 => exact fun _ _ _ h => h
        try simp only [Act.put, List.setIfInBounds_toArray, List.set_cons_zero, List.set_cons_succ]
        refine wpAnyH_take (i := 19) (oi := ?o140) (v := undef) ?h140 ?s140 ?f140 ?c140 ?q140 ?y140 hHeld ?r140
        case h140 => (simp only [List.getElem?_toArray, List.getElem?_cons_succ, List.getElem?_cons_zero]; rfl)
        case s140 => kernel_rfl
        case f140 => kernel_rfl
        case c140 => kernel_rfl
        case y140 => exact Or.inr ⟨by rfl, rfl⟩
        case q140 => exact fun _ _ _ h => h
        try simp only [Act.put, List.setIfInBounds_toArray, List.set_cons_zero, List.set_cons_succ]
        refine wpAnyH_take (i := 20) (oi := ?o141) (v := undef) ?h141 ?s141 ?f141 ?c141 ?q141 ?y141 hHeld ?r141
        case h141 => (simp only [List.getElem?_toArray, List.getElem?_cons_succ, List.getElem?_cons_zero]; rfl)
        case s141 => kernel_rfl
        case f141 => kernel_rfl
        case c141 => kernel_rfl
        case y141 => exact Or.inr ⟨by rfl, rfl⟩
        case q141 => exact fun _ _ _ h => h
        try simp only [Act.put, List.setIfInBounds_toArray, List.set_cons_zero, List.set_cons_succ]
        refine wpAnyH_take (i := 21) (oi := ?o142) (v := undef) ?h142 ?s142 ?f142 ?c142 ?q142 ?y142 hHeld ?r142
        case h142 => (simp only [List.getElem?_toArray, List.getElem?_cons_succ, List.getElem?_cons_zero]; rfl)
        case s142 => kernel_rfl
        case f142 => kernel_rfl
        case c142 => kernel_rfl
        case y142 => exact Or.inr ⟨by rfl, rfl⟩
        case q142 => exact fun _ _ _ h => h
        try simp only [Act.put, List.setIfInBounds_toArray, List.set_cons_zero, List.set_cons_succ]
        refine wpAnyH_take (i := 22) (oi := ?o143) (v := undef) ?h143 ?s143 ?f143 ?c143 ?q143 ?y143 hHeld ?r143
        case h143 => (simp only [List.getElem?_toArray, List.getElem?_cons_succ, List.getElem?_cons_zero]; rfl)
        case s143 => kernel_rfl
        case f143 => kernel_rfl
        case c143 => kernel_rfl
        case y143 => exact Or.inr ⟨by rfl, rfl⟩
        case q143 => exact fun _ _ _ h => h
        try simp only [Act.put, List.setIfInBounds_toArray, List.set_cons_zero, List.set_cons_succ]
        refine wpAnyH_take (i := 23) (oi := ?o144) (v := undef) ?h144 ?s144 ?f144 ?c144 ?q144 ?y144 hHeld ?r144
        case h144 => (simp only [List.getElem?_toArray, List.getElem?_cons_succ, List.getElem?_cons_zero]; rfl)
        case s144 => kernel_rfl
        case f144 => kernel_rfl
        case c144 => kernel_rfl
        case y144 => exact Or.inr ⟨by rfl, rfl⟩
        case q144 => exact fun _ _ _ h => h
        try simp only [Act.put, List.setIfInBounds_toArray, List.set_cons_zero, List.set_cons_succ]
        refine wpAnyH_take (i := 24) (oi := ?o145) (v := undef) ?h145 ?s145 ?f145 ?c145 ?q145 ?y145 hHeld ?r145
        case h145 => (simp only [List.getElem?_toArray, List.getElem?_cons_succ, List.getElem?_cons_zero]; rfl)
        case s145 => kernel_rfl
        case f145 => kernel_rfl
        case c145 => kernel_rfl
        case y145 => exact Or.inr ⟨by rfl, rfl⟩
        case q145 => exact fun _ _ _ h => h
        try simp only [Act.put, List.setIfInBounds_toArray, List.set_cons_zero, List.set_cons_succ]
        refine wpAnyH_take (i := 25) (oi := ?o146) (v := undef) ?h146 ?s146 ?f146 ?c146 ?q146 ?y146 hHeld ?r146
        case h146 => (simp only [List.getElem?_toArray, List.getElem?_cons_succ, List.getElem?_cons_zero]; rfl)
        case s146 => kernel_rfl
        case f146 => kernel_rfl
        case c146 => kernel_rfl
        case y146 => exact Or.inr ⟨by rfl, rfl⟩
        case q146 => exact fun _ _ _ h => h
        try simp only [Act.put, List.setIfInBounds_toArray, List.set_cons_zero, List.set_cons_succ]
        refine wpAnyH_take (i := 26) (oi := ?o147) (v := undef) ?h147 ?s147 ?f147 ?c147 ?q147 ?y147 hHeld ?r147
        case h147 => (simp only [List.getElem?_toArray, List.getElem?_cons_succ, List.getElem?_cons_zero]; rfl)
        case s147 => kernel_rfl
        case f147 => kernel_rfl
        case c147 => kernel_rfl
        case y147 => exact Or.inr ⟨by rfl, rfl⟩
        case q147 => exact fun _ _ _ h => h
        try simp only [Act.put, List.setIfInBounds_toArray, List.set_cons_zero, List.set_cons_succ]
        refine wpAnyH_take (i := 27) (oi := ?o148) (v := undef) ?h148 ?s148 ?f148 ?c148 ?q148 ?y148 hHeld ?r148
        case h148 => (simp only [List.getElem?_toArray, List.getElem?_cons_succ, List.getElem?_cons_zero]; rfl)
        case s148 => kernel_rfl
        case f148 => kernel_rfl
        case c148 => kernel_rfl
        case y148 => exact Or.inr ⟨by rfl, rfl⟩
        case q148 => exact fun _ _ _ h => h
        try simp only [Act.put, List.setIfInBounds_toArray, List.set_cons_zero, List.set_cons_succ]
        refine wpAnyH_take (i := 28) (oi := ?o149) (v := undef) ?h149 ?s149 ?f149 ?c149 ?q149 ?y149 hHeld ?r149
        case h149 => (simp only [List.getElem?_toArray, List.getElem?_cons_succ, List.getElem?_cons_zero]; rfl)
        case s149 => kernel_rfl
        case f149 => kernel_rfl
        case c149 => kernel_rfl
        case y149 => exact Or.inr ⟨by rfl, rfl⟩
        case q149 => exact fun _ _ _ h => h
        try simp only [Act.put, List.setIfInBounds_toArray, List.set_cons_zero, List.set_cons_succ]
        refine wpAnyH_take (i := 29) (oi := ?o150) (v := undef) ?h150 ?s150 ?f150 ?c150 ?q150 ?y150 hHeld ?r150
        case h150 => (simp only [List.getElem?_toArray, List.getElem?_cons_succ, List.getElem?_cons_zero]; rfl)
        case s150 => kernel_rfl
        case f150 => kernel_rfl
        case c150 => kernel_rfl
        case y150 => exact Or.inr ⟨by rfl, rfl⟩
        case q150 => exact fun _ _ _ h => h
        try simp only [Act.put, List.setIfInBounds_toArray, List.set_cons_zero, List.set_cons_succ]
        refine wpAnyH_take (i := 30) (oi := ?o151) (v := undef) ?h151 ?s151 ?f151 ?c151 ?q151 ?y151 hHeld ?r151
        case h151 => (simp only [List.getElem?_toArray, List.getElem?_cons_succ, List.getElem?_cons_zero]; rfl)
        case s151 => kernel_rfl
        case f151 => kernel_rfl
        case c151 => kernel_rfl
        case y151 => exact Or.inr ⟨by rfl, rfl⟩
        case q151 => exact fun _ _ _ h => h
        try simp only [Act.put, List.setIfInBounds_toArray, List.set_cons_zero, List.set_cons_succ]
        refine wpAnyH_take (i := 31) (oi := ?o152) (v := undef) ?h152 ?s152 ?f152 ?c152 ?q152 ?y152 hHeld ?r152
        case h152 => (simp only [List.getElem?_toArray, List.getElem?_cons_succ, List.getElem?_cons_zero]; rfl)
        case s152 => kernel_rfl
        case f152 => kernel_rfl
        case c152 => kernel_rfl
        case y152 => exact Or.inr ⟨by rfl, rfl⟩
        case q152 => exact fun _ _ _ h => h
        try simp only [Act.put, List.setIfInBounds_toArray, List.set_cons_zero, List.set_cons_succ]
        refine wpAnyH_take (i := 32) (oi := ?o153) (v := undef) ?h153 ?s153 ?f153 ?c153 ?q153 ?y153 hHeld ?r153
        case h153 => (simp only [List.getElem?_toArray, List.getElem?_cons_succ, List.getElem?_cons_zero]; rfl)
        case s153 => kernel_rfl
        case f153 => kernel_rfl
        case c153 => kernel_rfl
        case y153 => exact Or.inr ⟨by rfl, rfl⟩
        case q153 => exact fun _ _ _ h => h
        try simp only [Act.put, List.setIfInBounds_toArray, List.set_cons_zero, List.set_cons_succ]
        refine wpAnyH_take (i := 33) (oi := ?o154) (v := undef) ?h154 ?s154 ?f154 ?c154 ?q154 ?y154 hHeld ?r154
        case h154 => (simp only [List.getElem?_toArray, List.getElem?_cons_succ, List.getElem?_cons_zero]; rfl)
        case s154 => kernel_rfl
        case f154 => kernel_rfl
        case c154 => kernel_rfl
        case y154 => exact Or.inr ⟨by rfl, rfl⟩
        case q154 => exact fun _ _ _ h => h
        try simp only [Act.put, List.setIfInBounds_toArray, List.set_cons_zero, List.set_cons_succ]
        refine wpAnyH_take (i := 34) (oi := ?o155) (v := undef) ?h155 ?s155 ?f155 ?c155 ?q155 ?y155 hHeld ?r155
        case h155 => (simp only [List.getElem?_toArray, List.getElem?_cons_succ, List.getElem?_cons_zero]; rfl)
        case s155 => kernel_rfl
        case f155 => kernel_rfl
        case c155 => kernel_rfl
        case y155 => exact Or.inr ⟨by rfl, rfl⟩
        case q155 => exact fun _ _ _ h => h
        try simp only [Act.put, List.setIfInBounds_toArray, List.set_cons_zero, List.set_cons_succ]
        refine wpAnyH_take (i := 35) (oi := ?o156) (v := undef) ?h156 ?s156 ?f156 ?c156 ?q156 ?y156 hHeld ?r156
        case h156 => (simp only [List.getElem?_toArray, List.getElem?_cons_succ, List.getElem?_cons_zero]; rfl)
        case s156 => kernel_rfl
        case f156 => kernel_rfl
        case c156 => kernel_rfl
        case y156 => exact Or.inr ⟨by rfl, rfl⟩
        case q156 => exact fun _ _ _ h => h
        try simp only [Act.put, List.setIfInBounds_toArray, List.set_cons_zero, List.set_cons_succ]
        refine wpAnyH_take (i := 36) (oi := ?o157) (v := undef) ?h157 ?s157 ?f157 ?c157 ?q157 ?y157 hHeld ?r157
        case h157 => (simp only [List.getElem?_toArray, List.getElem?_cons_succ, List.getElem?_cons_zero]; rfl)
        case s157 => kernel_rfl
        case f157 => kernel_rfl
        case c157 => kernel_rfl
        case y157 => exact Or.inr ⟨by rfl, rfl⟩
        case q157 => exact fun _ _ _ h => h
        try simp only [Act.put, List.setIfInBounds_toArray, List.set_cons_zero, List.set_cons_succ]
        refine wpAnyH_take (i := 37) (oi := ?o158) (v := ?v158) ?h158 ?s158 ?f158 ?c158 ?q158 ?y158 hHeld ?r158
        case h158 => (simp only [List.getElem?_toArray, List.getElem?_cons_succ, List.getElem?_cons_zero]; rfl)
        case s158 => kernel_rfl
        case f158 => kernel_rfl
        case c158 => kernel_rfl
        case y158 => (refine Or.inl ⟨by rfl, ?_⟩; intro w hSw; (try dsimp only at hSw); go_simp; (try with_reducible rfl))
        case q158 => exact fun _ _ _ h => h
        try simp only [Act.put, List.setIfInBounds_toArray, List.set_cons_zero, List.set_cons_succ]
        refine wpAnyH_take (i := 38) (oi := ?o159) (v := ?v159) ?h159 ?s159 ?f159 ?c159 ?q159 ?y159 hHeld ?r159
        case h159 => (simp only [List.getElem?_toArray, List.getElem?_cons_succ, List.getElem?_cons_zero]; rfl)
        case s159 => kernel_rfl
        case f159 => kernel_rfl
        case c159 => kernel_rfl
        case y159 => (refine Or.inl ⟨by rfl, ?_⟩; intro w hSw; (try dsimp only at hSw); go_simp; (try with_reducible rfl))
        case q159 => exact fun _ _ _ h => h
        try simp only [Act.put, List.setIfInBounds_toArray, List.set_cons_zero, List.set_cons_succ]
        refine wpAnyH_take (i := 39) (oi := ?o160) (v := ?v160) ?h160 ?s160 ?f160 ?c160 ?q160 ?y160 hHeld ?r160
        case h160 => (simp only [List.getElem?_toArray, List.getElem?_cons_succ, List.getElem?_cons_zero]; rfl)
        case s160 => kernel_rfl
        case f160 => kernel_rfl
        case c160 => kernel_rfl
        case y160 => (refine Or.inl ⟨by rfl, ?_⟩; intro w hSw; (try dsimp only at hSw); go_simp; (try with_reducible rfl))
        case q160 => exact fun _ _ _ h => h
        try simp only [Act.put, List.setIfInBounds_toArray, List.set_cons_zero, List.set_cons_succ]
        refine wpAnyH_done (by kernel_rfl) ?_ _
        repeat go_step
        go_wp2_with fail
        go_ret
        exact ⟨rfl, U⟩
      · have tx : (x.kind == 0) = false := by simp [ex]
        obtain ⟨k1, k2, k3⟩ := key ex
        rw [if_neg (by omega)] at k2
        have tk : (x.kind == r.kind) = true := by simp [k1]
        have HLX : Hid (rtLen x = IntKind.i64.wrap (lr + 1)) := Lib.hid (by rw [k2, IntKind.wrap_i64]; omega)
        have HBT := Lib.hid k3
        clear key hp ex k1 k3 k2
        go_enter Try.func5, Try.ntmps5
        go_upto_region 15 with (first
          | (go_at_call 26; (with_reducible refine (awake7_any _).mono ?_); rintro e w1 ⟨rfl, hb1⟩; replace hA := hA.on hb1; replace hA3 := hA3.on hb1; replace U := below_on U hb1)
          | (go_at_call 12; refine (Net_at p l HP A n c HLEN.out HM.out hm hc hcm _ hA).mono ?_; rintro e w2 ⟨An, cn, Al, cl, Ad, cd, Ac, cc, rfl, ho, hb2⟩; have h := PBox.new U hb2 ho; replace hA := hA.on hb2; replace hA3 := hA3.on hb2; replace U := below_on U hb2; have hn2 := below_new w2 (.cells #[.int .i64 p.proto, .int .i64 p.cap, .int .i64 p.k, .slice An p.nodes.length cn, .slice Al p.links.length cl, .slice Ad p.dests.length cd, .slice Ac p.checks.length cc] 29); replace hA := hA.on hn2; replace hA3 := hA3.on hn2; replace U := below_on U hn2; obtain ⟨gL, hgL, _, l0, l1, l2⟩ := h.at_.links.link HLI.out; subst hgL; obtain ⟨ce0, ce1, ce2, ce3, ce4, ce5, ce6⟩ := h.cells; obtain ⟨l0, l1, l2⟩ := RowAt.linkAt h.at_.links HLI.out)
          | (go_at_call 27; (with_reducible refine (pick7_is x0 _ (i : Int) hx0 (by omega) (by omega) HX _).mono ?_); rintro e wp ⟨rfl, rfl⟩)
          | (go_at_call 36; (with_reducible refine (held_is p b nf HNF hcap l3 r HRA HW3 n3 HN3 hm3 h.at_ hk.small hA3).mono ?_); rintro e w3 ⟨Aa, ca, rfl, Ra, ha1, ha2, hb3⟩; replace h := h.go hb3; replace hA := hA.on hb3; replace hA3 := hA3.on hb3; replace U := below_on U hb3; have hn3 := below_new w3 (.cells #[.int .i64 r.kind, .int .i64 r.cost, .slice Aa r.path.length ca] 42); replace h := h.go hn3; replace hA := hA.on hn3; replace hA3 := hA3.on hn3; replace Ra := Ra.on hn3; replace U := below_on U hn3; have Ba := Blk.new w3 42 #[.int .i64 r.kind, .int .i64 r.cost, .slice Aa r.path.length ca]; obtain ⟨ce7, ce8, ce9, ce10, ce11, ce12, ce13⟩ := h.cells; have ce14 := Ba.cell 0; have ce15 := Ba.cell 1; have ce16 := Ba.cell 2; obtain ⟨l0, l1, l2⟩ := RowAt.linkAt h.at_.links HLI.out)
          | (go_at_call 32; (with_reducible refine (caOver_w p (i : Int) (a : Int) r x HX2 h.at_ hk.small Ra ha1 ha2).mono ?_); rintro e w4 ⟨Ax, cx, rfl, Rx, hx1, hx2, hb4⟩; replace h := h.go hb4; replace Ba := Ba.up hb4; replace hA := hA.on hb4; replace hA3 := hA3.on hb4; replace Ra := Ra.on hb4; replace U := below_on U hb4; have hn4 := below_new w4 (.cells #[.int .i64 x.kind, .int .i64 x.cost, .slice Ax x.path.length cx] 42); replace h := h.go hn4; replace Ba := Ba.up hn4; replace hA := hA.on hn4; replace hA3 := hA3.on hn4; replace Ra := Ra.on hn4; replace Rx := Rx.on hn4; replace U := below_on U hn4; have Bx := Blk.new w4 42 #[.int .i64 x.kind, .int .i64 x.cost, .slice Ax x.path.length cx]; obtain ⟨ce17, ce18, ce19, ce20, ce21, ce22, ce23⟩ := h.cells; have ce24 := Ba.cell 0; have ce25 := Ba.cell 1; have ce26 := Ba.cell 2; have ce27 := Bx.cell 0; have ce28 := Bx.cell 1; have ce29 := Bx.cell 2; obtain ⟨l0, l1, l2⟩ := RowAt.linkAt h.at_.links HLI.out))
        have hdr : Below (w4.alloc (.cells #[.int .i64 x.kind, .int .i64 x.cost, .slice Ax x.path.length cx] 42)).heap.size (w4.alloc (.cells #[.int .i64 x.kind, .int .i64 x.cost, .slice Ax x.path.length cx] 42)) (w4.alloc (.cells #[.int .i64 x.kind, .int .i64 x.cost, .slice Ax x.path.length cx] 42)).drew := (Below.refl _ _).drew
        replace h := h.go hdr
        replace Ba := Ba.up hdr
        replace Bx := Bx.up hdr
        replace hA := hA.on hdr
        replace hA3 := hA3.on hdr
        replace Ra := Ra.on hdr
        replace Rx := Rx.on hdr
        replace U := below_on U hdr
        go_region_held3 (fun w' => (w'.cell? ⟨w2.heap.size, 0, none⟩ = some (.int .i64 p.proto) ∧ w'.cell? ⟨w2.heap.size, 1, none⟩ = some (.int .i64 p.cap) ∧ w'.cell? ⟨w2.heap.size, 2, none⟩ = some (.int .i64 p.k) ∧ w'.cell? ⟨w2.heap.size, 3, none⟩ = some (.slice An p.nodes.length cn) ∧ w'.cell? ⟨w2.heap.size, 4, none⟩ = some (.slice (some ⟨gL, 0, none⟩) p.links.length cl) ∧ w'.cell? ⟨w2.heap.size, 5, none⟩ = some (.slice Ad p.dests.length cd) ∧ w'.cell? ⟨w2.heap.size, 6, none⟩ = some (.slice Ac p.checks.length cc)) ∧ (w'.cell? ⟨w3.heap.size, 0, none⟩ = some (.int .i64 r.kind) ∧ w'.cell? ⟨w3.heap.size, 1, none⟩ = some (.int .i64 r.cost) ∧ w'.cell? ⟨w3.heap.size, 2, none⟩ = some (.slice Aa r.path.length ca)) ∧ (w'.cell? ⟨w4.heap.size, 0, none⟩ = some (.int .i64 x.kind) ∧ w'.cell? ⟨w4.heap.size, 1, none⟩ = some (.int .i64 x.cost) ∧ w'.cell? ⟨w4.heap.size, 2, none⟩ = some (.slice Ax x.path.length cx))) (go_keep) (first
          | (go_at_call 33; (with_reducible refine (caFits_w p (b : Int) r _ HF1 h.at_ hk.small Ra ha1 ha2).mono ?_); rintro e w5 ⟨rfl, hb5⟩; replace h := h.go hb5; replace Ba := Ba.up hb5; replace Bx := Bx.up hb5; replace hA := hA.on hb5; replace hA3 := hA3.on hb5; replace Ra := Ra.on hb5; replace Rx := Rx.on hb5; replace U := below_on U hb5; obtain ⟨ce30, ce31, ce32, ce33, ce34, ce35, ce36⟩ := h.cells; have ce37 := Ba.cell 0; have ce38 := Ba.cell 1; have ce39 := Ba.cell 2; have ce40 := Bx.cell 0; have ce41 := Bx.cell 1; have ce42 := Bx.cell 2; obtain ⟨l0, l1, l2⟩ := RowAt.linkAt h.at_.links HLI.out)
          | (go_at_call 33; (with_reducible refine (caFits_w p (a : Int) x _ HF2 h.at_ hk.small Rx hx1 hx2).mono ?_); rintro e w6 ⟨rfl, hb6⟩; replace h := h.go hb6; replace Ba := Ba.up hb6; replace Bx := Bx.up hb6; replace hA := hA.on hb6; replace hA3 := hA3.on hb6; replace Ra := Ra.on hb6; replace Rx := Rx.on hb6; replace U := below_on U hb6; obtain ⟨ce43, ce44, ce45, ce46, ce47, ce48, ce49⟩ := h.cells; have ce50 := Ba.cell 0; have ce51 := Ba.cell 1; have ce52 := Ba.cell 2; have ce53 := Bx.cell 0; have ce54 := Bx.cell 1; have ce55 := Bx.cell 2; obtain ⟨l0, l1, l2⟩ := RowAt.linkAt h.at_.links HLI.out)
          | (go_at_call 37; (with_reducible refine (atLength_is x (IntKind.i64.wrap (lr + 1)) HLX cx rfl).mono ?_); rintro e w7 ⟨rfl, hb7⟩; replace h := h.go hb7; replace Ba := Ba.up hb7; replace Bx := Bx.up hb7; replace hA := hA.on hb7; replace hA3 := hA3.on hb7; replace Ra := Ra.on hb7; replace Rx := Rx.on hb7; replace U := below_on U hb7; obtain ⟨ce56, ce57, ce58, ce59, ce60, ce61, ce62⟩ := h.cells; have ce63 := Ba.cell 0; have ce64 := Ba.cell 1; have ce65 := Ba.cell 2; have ce66 := Bx.cell 0; have ce67 := Bx.cell 1; have ce68 := Bx.cell 2; obtain ⟨l0, l1, l2⟩ := RowAt.linkAt h.at_.links HLI.out)
          | (go_at_call 37; (with_reducible refine (atLength_is r lr HLR ca rfl).mono ?_); rintro e w8 ⟨rfl, hb8⟩; replace h := h.go hb8; replace Ba := Ba.up hb8; replace Bx := Bx.up hb8; replace hA := hA.on hb8; replace hA3 := hA3.on hb8; replace Ra := Ra.on hb8; replace Rx := Rx.on hb8; replace U := below_on U hb8; obtain ⟨ce69, ce70, ce71, ce72, ce73, ce74, ce75⟩ := h.cells; have ce76 := Ba.cell 0; have ce77 := Ba.cell 1; have ce78 := Ba.cell 2; have ce79 := Bx.cell 0; have ce80 := Bx.cell 1; have ce81 := Bx.cell 2; obtain ⟨l0, l1, l2⟩ := RowAt.linkAt h.at_.links HLI.out)
          | (go_at_call 38; (with_reducible refine (atBetter_is r x _ HBT Ra Rx).mono ?_); rintro e w9 ⟨rfl, hb9⟩; replace h := h.go hb9; replace Ba := Ba.up hb9; replace Bx := Bx.up hb9; replace hA := hA.on hb9; replace hA3 := hA3.on hb9; replace Ra := Ra.on hb9; replace Rx := Rx.on hb9; replace U := below_on U hb9; obtain ⟨ce82, ce83, ce84, ce85, ce86, ce87, ce88⟩ := h.cells; have ce89 := Ba.cell 0; have ce90 := Ba.cell 1; have ce91 := Ba.cell 2; have ce92 := Bx.cell 0; have ce93 := Bx.cell 1; have ce94 := Bx.cell 2; obtain ⟨l0, l1, l2⟩ := RowAt.linkAt h.at_.links HLI.out))
        go_step
        go_wp2_with fail
        go_ret
        exact ⟨rfl, U⟩
end Go.Proofs.Ytdmilbfdiebjgaa
