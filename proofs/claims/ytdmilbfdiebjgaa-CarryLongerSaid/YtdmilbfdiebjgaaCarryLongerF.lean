/-
  CarryLonger: the walk, one way.
-/
import Derived.Test.YtdmilbfdiebjgaaCaG
import Derived.Test.YtdmilbfdiebjgaaCaJ
import Derived.Test.YtdmilbfdiebjgaaPmB
namespace Go.Proofs.Ytdmilbfdiebjgaa
open Go.RowKit
set_option linter.unusedVariables false
set_option linter.unusedSimpArgs false

set_option maxHeartbeats 8000000 in
set_option maxRecDepth 100000 in
theorem carryLonger_false (A : Option Addr) (c : Nat) (l : List Int) (hwf : ∀ v ∈ l, InI v) (hm : l.length ≤ 9223372036854775807) (hc : l.length ≤ c) (hcm : c ≤ 9223372036854775807) (x0 : Int) (hx0 : InI x0) (A3 : Option Addr) (c3 : Nat) (l3 : List Int) (hwf3 : ∀ v ∈ l3, InI v) (hm3 : l3.length ≤ 9223372036854775807) (hc3 : l3.length ≤ c3) (hcm3 : c3 ≤ 9223372036854775807) (w : World) (hA : CellsAt w w.heap.size A (l.map (Value.int .i64))) (hA3 : CellsAt w w.heap.size A3 (l3.map (Value.int .i64))) :
    Calls Try.prog 5 #[.slice A l.length c, .int .i64 x0, .bool false, .slice A3 l3.length c3] w fun e w' => e = .returned (.bool true) ∧ Below w.heap.size w w' := by
  obtain ⟨p, hp⟩ : ∃ p, netOf l = p := ⟨_, rfl⟩
  have hk := netOk l
  rw [hp] at hk
  have HP := Lib.hid hp
  have HM := Lib.hid hwf
  clear hp hwf
  obtain ⟨n, hn⟩ : ∃ n, l.length = n := ⟨_, rfl⟩
  rw [hn] at hm hc ⊢
  have HLEN := Lib.hid hn
  clear hn
  have hn1 := hk.nodes1
  have hl9 := hk.links1
  have hR := hk.right.out
  have m1 : ∀ (k c : Int) (A : Option Addr) (n m : Nat) (w : World), (Instr.field 42 (.agg #[.int .i64 k, .int .i64 c, .slice A n m]) 0).run Try.prog w = .ok (.int .i64 k) w := fun _ _ _ _ _ _ => by kernel_rfl
  have m2 : ∀ (k c : Int) (A : Option Addr) (n m : Nat) (w : World), (Instr.field 42 (.agg #[.int .i64 k, .int .i64 c, .slice A n m]) 1).run Try.prog w = .ok (.int .i64 c) w := fun _ _ _ _ _ _ => by kernel_rfl
  have U := Below.refl w.heap.size w
  obtain ⟨n3, hn3⟩ : ∃ n, l3.length = n := ⟨_, rfl⟩
  rw [hn3] at hm3 hc3 ⊢
  have HN3 := Lib.hid hn3
  have HW3 := Lib.hid hwf3
  clear hn3 hwf3
  by_cases hl0 : p.links.length = 0
  · have t0 : ((p.links.length : Int) == 0) = true := by simp [hl0]
    clear hl0
    go_enter Try.func5, Try.ntmps5
    go_wp2_with (first
      | (go_at_call 26; (with_reducible refine (awake7_any _).mono ?_); rintro e w1 ⟨rfl, hb1⟩; replace hA := hA.on hb1; replace hA3 := hA3.on hb1; replace U := below_on U hb1)
      | (go_at_call 12; refine (Net_at p l HP A n c HLEN.out HM.out hm hc hcm _ hA).mono ?_; rintro e w2 ⟨An, cn, Al, cl, Ad, cd, Ac, cc, rfl, ho, hb2⟩; have h := PBox.new U hb2 ho; replace hA := hA.on hb2; replace hA3 := hA3.on hb2; replace U := below_on U hb2; have hn2 := below_new w2 (.cells #[.int .i64 p.proto, .int .i64 p.cap, .int .i64 p.k, .slice An p.nodes.length cn, .slice Al p.links.length cl, .slice Ad p.dests.length cd, .slice Ac p.checks.length cc] 29); replace hA := hA.on hn2; replace hA3 := hA3.on hn2; replace U := below_on U hn2; obtain ⟨ce0, ce1, ce2, ce3, ce4, ce5, ce6⟩ := h.cells))
    go_ret
    exact ⟨rfl, h.up⟩
  · have t0 : ((p.links.length : Int) == 0) = false := beq_eq_false_iff_ne.2 (by omega)
    obtain ⟨i, hi, hil⟩ := pickN_nat x0 p.links.length (by omega)
    have HX := Lib.hid hi
    obtain ⟨⟨la, lb, lc⟩, hli⟩ : ∃ l, p.links[i]? = some l := ⟨_, List.getElem?_eq_getElem hil⟩
    obtain ⟨a, b, ha, hb, hab, hbn, hc0, hc1⟩ := link_ends hR hli
    dsimp only at ha hb hc0 hc1
    subst ha hb
    obtain ⟨nf, hnf⟩ : ∃ nd, p.nodes[a]? = some nd := ⟨_, List.getElem?_eq_getElem (by omega)⟩
    obtain ⟨nt, hnt⟩ : ∃ nd, p.nodes[b]? = some nd := ⟨_, List.getElem?_eq_getElem (by omega)⟩
    have HLI := Lib.hid hli
    have HNF := Lib.hid hnf
    have hLI := HLI.out
    have hcap : p.cap ≤ 12 := by rcases proto_two hR with ⟨_, e⟩ | ⟨_, _, e⟩ <;> omega
    obtain ⟨ob, oa⟩ := other_b (l := ⟨(a : Int), (b : Int), lc⟩) rfl rfl hab
    obtain ⟨r, hr⟩ : ∃ r, heldR p nf.num l3 = r := ⟨_, rfl⟩
    have HRA := Lib.hid hr
    have fa : fitB p nf.num r = true := hr ▸ held_fit hR _ _
    have ka : r.kind ≠ 0 := hr ▸ held_kind _ _ _
    obtain ⟨x, hx⟩ : ∃ o, overB p (i : Int) (b : Int) r = o := ⟨_, rfl⟩
    have HX2 := Lib.hid hx
    have vx := over_two hR hli ob hnf hnt fa ka hx
    have HF1 : Hid (fitsB p (a : Int) r = true) := Lib.hid ((fits_nat hR hnf r).trans fa)
    have HF2 : Hid (fitsB p (b : Int) x = true) := Lib.hid (by
      rw [fits_nat hR hnt]
      rcases vx with ⟨_, e, _⟩ | ⟨e, _⟩
      · exact e
      · rw [e]; rfl)
    obtain ⟨lr, hlr⟩ : ∃ v, rtLen r = v := ⟨_, rfl⟩
    have HLR := Lib.hid hlr
    have key : x.kind ≠ 0 → x.kind = r.kind ∧ rtLen x = lr + (if p.proto = 1 then lc else 1) ∧ rtBetter r x = true := fun e1 => by
      rcases vx with ⟨e, _, e2⟩ | ⟨e, _⟩
      · exact ⟨e2, by rw [e, ← hlr]; exact told_len hR fa ka, by rw [e]; exact told_worse hR hc0 fa ka⟩
      · exact absurd (by rw [e]; rfl) e1
    have lr0 : 0 ≤ lr ∧ lr ≤ 100 := by
      rcases proto_two hR with ⟨e, _⟩ | ⟨e, _⟩
      · obtain ⟨k1, k2, k3, _⟩ := fit_vec fa ka (by omega)
        rw [← hlr]; unfold rtLen lenV; rw [if_pos k1]; omega
      · obtain ⟨k1, k2, k3, k4, _⟩ := fit_pth fa ka e
        rw [← hlr]; unfold rtLen lenV; rw [if_neg (by omega), if_pos k1]; omega
    obtain ⟨lr1, lr2⟩ := lr0
    have hpr := proto_two hR
    have i0 : (0 : Int) ≤ (i : Int) := by omega
    have i1 : (i : Int) < (p.links.length : Int) := by omega
    clear hi hli hnf hnt hr fa ka hx vx hlr hl0 hLI
    rcases hpr with ⟨hp, -⟩ | ⟨hp, -⟩
    · have tp : (p.proto == 1) = true := by simp [hp]
      by_cases ex : x.kind = 0
      · have tx : (x.kind == 0) = true := by simp [ex]
        clear key hp ex
        go_enter Try.func5, Try.ntmps5
        go_upto_region 15 with (first
          | (go_at_call 26; (with_reducible refine (awake7_any _).mono ?_); rintro e w1 ⟨rfl, hb1⟩; replace hA := hA.on hb1; replace hA3 := hA3.on hb1; replace U := below_on U hb1)
          | (go_at_call 12; refine (Net_at p l HP A n c HLEN.out HM.out hm hc hcm _ hA).mono ?_; rintro e w2 ⟨An, cn, Al, cl, Ad, cd, Ac, cc, rfl, ho, hb2⟩; have h := PBox.new U hb2 ho; replace hA := hA.on hb2; replace hA3 := hA3.on hb2; replace U := below_on U hb2; have hn2 := below_new w2 (.cells #[.int .i64 p.proto, .int .i64 p.cap, .int .i64 p.k, .slice An p.nodes.length cn, .slice Al p.links.length cl, .slice Ad p.dests.length cd, .slice Ac p.checks.length cc] 29); replace hA := hA.on hn2; replace hA3 := hA3.on hn2; replace U := below_on U hn2; obtain ⟨gL, hgL, _, l0, l1, l2⟩ := h.at_.links.link HLI.out; subst hgL; obtain ⟨ce0, ce1, ce2, ce3, ce4, ce5, ce6⟩ := h.cells; obtain ⟨l0, l1, l2⟩ := RowAt.linkAt h.at_.links HLI.out)
          | (go_at_call 27; (with_reducible refine (pick7_is x0 _ (i : Int) hx0 (by omega) (by omega) HX _).mono ?_); rintro e wp ⟨rfl, rfl⟩)
          | (go_at_call 36; (with_reducible refine (held_is p a nf HNF hcap l3 r HRA HW3 n3 HN3 hm3 h.at_ hk.small hA3).mono ?_); rintro e w3 ⟨Aa, ca, rfl, Ra, ha1, ha2, hb3⟩; replace h := h.go hb3; replace hA := hA.on hb3; replace hA3 := hA3.on hb3; replace U := below_on U hb3; have hn3 := below_new w3 (.cells #[.int .i64 r.kind, .int .i64 r.cost, .slice Aa r.path.length ca] 42); replace h := h.go hn3; replace hA := hA.on hn3; replace hA3 := hA3.on hn3; replace Ra := Ra.on hn3; replace U := below_on U hn3; have Ba := Blk.new w3 42 #[.int .i64 r.kind, .int .i64 r.cost, .slice Aa r.path.length ca]; obtain ⟨ce7, ce8, ce9, ce10, ce11, ce12, ce13⟩ := h.cells; have ce14 := Ba.cell 0; have ce15 := Ba.cell 1; have ce16 := Ba.cell 2; obtain ⟨l0, l1, l2⟩ := RowAt.linkAt h.at_.links HLI.out)
          | (go_at_call 32; (with_reducible refine (caOver_w p (i : Int) (b : Int) r x HX2 h.at_ hk.small Ra ha1 ha2).mono ?_); rintro e w4 ⟨Ax, cx, rfl, Rx, hx1, hx2, hb4⟩; replace h := h.go hb4; replace Ba := Ba.up hb4; replace hA := hA.on hb4; replace hA3 := hA3.on hb4; replace Ra := Ra.on hb4; replace U := below_on U hb4; have hn4 := below_new w4 (.cells #[.int .i64 x.kind, .int .i64 x.cost, .slice Ax x.path.length cx] 42); replace h := h.go hn4; replace Ba := Ba.up hn4; replace hA := hA.on hn4; replace hA3 := hA3.on hn4; replace Ra := Ra.on hn4; replace Rx := Rx.on hn4; replace U := below_on U hn4; have Bx := Blk.new w4 42 #[.int .i64 x.kind, .int .i64 x.cost, .slice Ax x.path.length cx]; obtain ⟨ce17, ce18, ce19, ce20, ce21, ce22, ce23⟩ := h.cells; have ce24 := Ba.cell 0; have ce25 := Ba.cell 1; have ce26 := Ba.cell 2; have ce27 := Bx.cell 0; have ce28 := Bx.cell 1; have ce29 := Bx.cell 2; obtain ⟨l0, l1, l2⟩ := RowAt.linkAt h.at_.links HLI.out))
        refine wp_region_held_drew (S := (fun w' => (w'.cell? ⟨w2.heap.size, 0, none⟩ = some (.int .i64 p.proto) ∧ w'.cell? ⟨w2.heap.size, 1, none⟩ = some (.int .i64 p.cap) ∧ w'.cell? ⟨w2.heap.size, 2, none⟩ = some (.int .i64 p.k) ∧ w'.cell? ⟨w2.heap.size, 3, none⟩ = some (.slice An p.nodes.length cn) ∧ w'.cell? ⟨w2.heap.size, 4, none⟩ = some (.slice (some ⟨gL, 0, none⟩) p.links.length cl) ∧ w'.cell? ⟨w2.heap.size, 5, none⟩ = some (.slice Ad p.dests.length cd) ∧ w'.cell? ⟨w2.heap.size, 6, none⟩ = some (.slice Ac p.checks.length cc)) ∧ (w'.cell? ⟨w3.heap.size, 0, none⟩ = some (.int .i64 r.kind) ∧ w'.cell? ⟨w3.heap.size, 1, none⟩ = some (.int .i64 r.cost) ∧ w'.cell? ⟨w3.heap.size, 2, none⟩ = some (.slice Aa r.path.length ca)) ∧ (w'.cell? ⟨w4.heap.size, 0, none⟩ = some (.int .i64 x.kind) ∧ w'.cell? ⟨w4.heap.size, 1, none⟩ = some (.int .i64 x.cost) ∧ w'.cell? ⟨w4.heap.size, 2, none⟩ = some (.slice Ax x.path.length cx)))) (by kernel_rfl) (by go_keep) (fun hHeld => ?_)
        have hdr : Below (w4.alloc (.cells #[.int .i64 x.kind, .int .i64 x.cost, .slice Ax x.path.length cx] 42)).heap.size (w4.alloc (.cells #[.int .i64 x.kind, .int .i64 x.cost, .slice Ax x.path.length cx] 42)) (w4.alloc (.cells #[.int .i64 x.kind, .int .i64 x.cost, .slice Ax x.path.length cx] 42)).drew := (Below.refl _ _).drew
        replace h := h.go hdr
        replace Ba := Ba.up hdr
        replace Bx := Bx.up hdr
        replace hA := hA.on hdr
        replace hA3 := hA3.on hdr
        replace Ra := Ra.on hdr
        replace Rx := Rx.on hdr
        replace U := below_on U hdr
        refine wpAnyH_take (i := 0) (oi := ?o1) (v := ?v1) ?h1 ?s1 ?f1 ?c1 ?q1 ?y1 hHeld ?r1
        case h1 => (simp only [List.getElem?_toArray, List.getElem?_cons_succ, List.getElem?_cons_zero]; rfl)
        case s1 => kernel_rfl
        case f1 => kernel_rfl
        case c1 => kernel_rfl
        case y1 => (refine Or.inl ⟨by rfl, ?_⟩; intro w hSw; (try dsimp only at hSw); go_simp; (try with_reducible rfl))
        case q1 => exact fun _ _ _ h => h
        try simp only [Act.put, List.setIfInBounds_toArray, List.set_cons_zero, List.set_cons_succ]
        refine wpAnyH_take (i := 1) (oi := ?o2) (v := ?v2) ?h2 ?s2 ?f2 ?c2 ?q2 ?y2 hHeld ?r2
        case h2 => (simp only [List.getElem?_toArray, List.getElem?_cons_succ, List.getElem?_cons_zero]; rfl)
        case s2 => kernel_rfl
        case f2 => kernel_rfl
        case c2 => kernel_rfl
        case y2 => (refine Or.inl ⟨by rfl, ?_⟩; intro w hSw; (try dsimp only at hSw); go_simp; (try with_reducible rfl))
        case q2 => exact fun _ _ _ h => h
        try simp only [Act.put, List.setIfInBounds_toArray, List.set_cons_zero, List.set_cons_succ]
        refine wpAnyH_take (i := 2) (oi := ?o3) (v := ?v3) ?h3 ?s3 ?f3 ?c3 ?q3 ?y3 hHeld ?r3
        case h3 => (simp only [List.getElem?_toArray, List.getElem?_cons_succ, List.getElem?_cons_zero]; rfl)
        case s3 => kernel_rfl
        case f3 => kernel_rfl
        case c3 => kernel_rfl
        case y3 => (refine Or.inl ⟨by rfl, ?_⟩; intro w hSw; (try dsimp only at hSw); go_simp; (try with_reducible rfl))
        case q3 => exact fun _ _ _ h => h
        try simp only [Act.put, List.setIfInBounds_toArray, List.set_cons_zero, List.set_cons_succ]
        refine wpAnyH_take (i := 3) (oi := ?o4) (v := ?v4) ?h4 ?s4 ?f4 ?c4 ?q4 ?y4 hHeld ?r4
        case h4 => (simp only [List.getElem?_toArray, List.getElem?_cons_succ, List.getElem?_cons_zero]; rfl)
        case s4 => kernel_rfl
        case f4 => kernel_rfl
        case c4 => kernel_rfl
        case y4 => (refine Or.inl ⟨by rfl, ?_⟩; intro w hSw; (try dsimp only at hSw); go_simp; (try with_reducible rfl))
        case q4 => exact fun _ _ _ h => h
        try simp only [Act.put, List.setIfInBounds_toArray, List.set_cons_zero, List.set_cons_succ]
        refine wpAnyH_take (i := 4) (oi := ?o5) (v := ?v5) ?h5 ?s5 ?f5 ?c5 ?q5 ?y5 hHeld ?r5
        case h5 => (simp only [List.getElem?_toArray, List.getElem?_cons_succ, List.getElem?_cons_zero]; rfl)
        case s5 => kernel_rfl
        case f5 => kernel_rfl
        case c5 => kernel_rfl
        case y5 => (refine Or.inl ⟨by rfl, ?_⟩; intro w hSw; (try dsimp only at hSw); go_simp; (try with_reducible rfl))
        case q5 => exact fun _ _ _ h => h
        try simp only [Act.put, List.setIfInBounds_toArray, List.set_cons_zero, List.set_cons_succ]
        refine wpAnyH_ready (rs := [5]) (by kernel_rfl) (by simp) ?_
        refine AllReadyH.cons rfl (fun K hK => ?_) ?n6
        case n6 => exact AllReadyH.nil
        go_simp
        (go_at_call 33; (with_reducible refine (caFits_w p (a : Int) r _ HF1 h.at_ hk.small Ra ha1 ha2).mono ?_); rintro e w5 ⟨rfl, hb5⟩; replace h := h.go hb5; replace Ba := Ba.up hb5; replace Bx := Bx.up hb5; replace hA := hA.on hb5; replace hA3 := hA3.on hb5; replace Ra := Ra.on hb5; replace Rx := Rx.on hb5; replace U := below_on U hb5; obtain ⟨ce30, ce31, ce32, ce33, ce34, ce35, ce36⟩ := h.cells; have ce37 := Ba.cell 0; have ce38 := Ba.cell 1; have ce39 := Ba.cell 2; have ce40 := Bx.cell 0; have ce41 := Bx.cell 1; have ce42 := Bx.cell 2; obtain ⟨l0, l1, l2⟩ := RowAt.linkAt h.at_.links HLI.out)
        go_wp2_with fail
        refine hK.out _ _ (by go_keep) (fun hHeld => ?_)
        clear hK
        try simp only [Act.put, List.setIfInBounds_toArray, List.set_cons_zero, List.set_cons_succ]
        refine wpAnyH_take (i := 6) (oi := ?o7) (v := ?v7) ?h7 ?s7 ?f7 ?c7 ?q7 ?y7 hHeld ?r7
        case h7 => (simp only [List.getElem?_toArray, List.getElem?_cons_succ, List.getElem?_cons_zero]; rfl)
        case s7 => kernel_rfl
        case f7 => kernel_rfl
        case c7 => kernel_rfl
        case y7 => (refine Or.inl ⟨by rfl, ?_⟩; intro w hSw; (try dsimp only at hSw); go_simp; (try with_reducible rfl))
        case q7 => exact fun _ _ _ h => h
        try simp only [Act.put, List.setIfInBounds_toArray, List.set_cons_zero, List.set_cons_succ]
        refine wpAnyH_take (i := 7) (oi := ?o8) (v := ?v8) ?h8 ?s8 ?f8 ?c8 ?q8 ?y8 hHeld ?r8
        case h8 => (simp only [List.getElem?_toArray, List.getElem?_cons_succ, List.getElem?_cons_zero]; rfl)
        case s8 => kernel_rfl
        case f8 => kernel_rfl
        case c8 => kernel_rfl
        case y8 => (refine Or.inl ⟨by rfl, ?_⟩; intro w hSw; (try dsimp only at hSw); go_simp; (try with_reducible rfl))
        case q8 => exact fun _ _ _ h => h
        try simp only [Act.put, List.setIfInBounds_toArray, List.set_cons_zero, List.set_cons_succ]
        refine wpAnyH_take (i := 8) (oi := ?o9) (v := ?v9) ?h9 ?s9 ?f9 ?c9 ?q9 ?y9 hHeld ?r9
        case h9 => (simp only [List.getElem?_toArray, List.getElem?_cons_succ, List.getElem?_cons_zero]; rfl)
        case s9 => kernel_rfl
        case f9 => kernel_rfl
        case c9 => kernel_rfl
        case y9 => (refine Or.inl ⟨by rfl, ?_⟩; intro w hSw; (try dsimp only at hSw); go_simp; (try with_reducible rfl))
        case q9 => exact fun _ _ _ h => h
        try simp only [Act.put, List.setIfInBounds_toArray, List.set_cons_zero, List.set_cons_succ]
        refine wpAnyH_take (i := 9) (oi := ?o10) (v := ?v10) ?h10 ?s10 ?f10 ?c10 ?q10 ?y10 hHeld ?r10
        case h10 => (simp only [List.getElem?_toArray, List.getElem?_cons_succ, List.getElem?_cons_zero]; rfl)
        case s10 => kernel_rfl
        case f10 => kernel_rfl
        case c10 => kernel_rfl
        case y10 => (refine Or.inl ⟨by rfl, ?_⟩; intro w hSw; (try dsimp only at hSw); go_simp; (try with_reducible rfl))
        case q10 => exact fun _ _ _ h => h
        try simp only [Act.put, List.setIfInBounds_toArray, List.set_cons_zero, List.set_cons_succ]
        refine wpAnyH_take (i := 10) (oi := ?o11) (v := ?v11) ?h11 ?s11 ?f11 ?c11 ?q11 ?y11 hHeld ?r11
        case h11 => (simp only [List.getElem?_toArray, List.getElem?_cons_succ, List.getElem?_cons_zero]; rfl)
        case s11 => kernel_rfl
        case f11 => kernel_rfl
        case c11 => kernel_rfl
        case y11 => (refine Or.inl ⟨by rfl, ?_⟩; intro w hSw; (try dsimp only at hSw); go_simp; (try with_reducible rfl))
        case q11 => exact fun _ _ _ h => h
        try simp only [Act.put, List.setIfInBounds_toArray, List.set_cons_zero, List.set_cons_succ]
        refine wpAnyH_ready (rs := [11]) (by kernel_rfl) (by simp) ?_
        refine AllReadyH.cons rfl (fun K hK => ?_) ?n12
        case n12 => exact AllReadyH.nil
        go_simp
        (go_at_call 33; (with_reducible refine (caFits_w p (b : Int) x _ HF2 h.at_ hk.small Rx hx1 hx2).mono ?_); rintro e w6 ⟨rfl, hb6⟩; replace h := h.go hb6; replace Ba := Ba.up hb6; replace Bx := Bx.up hb6; replace hA := hA.on hb6; replace hA3 := hA3.on hb6; replace Ra := Ra.on hb6; replace Rx := Rx.on hb6; replace U := below_on U hb6; obtain ⟨ce43, ce44, ce45, ce46, ce47, ce48, ce49⟩ := h.cells; have ce50 := Ba.cell 0; have ce51 := Ba.cell 1; have ce52 := Ba.cell 2; have ce53 := Bx.cell 0; have ce54 := Bx.cell 1; have ce55 := Bx.cell 2; obtain ⟨l0, l1, l2⟩ := RowAt.linkAt h.at_.links HLI.out)
        go_wp2_with fail
        refine hK.out _ _ (by go_keep) (fun hHeld => ?_)
        clear hK
        try simp only [Act.put, List.setIfInBounds_toArray, List.set_cons_zero, List.set_cons_succ]
        refine wpAnyH_take (i := 12) (oi := ?o13) (v := ?v13) ?h13 ?s13 ?f13 ?c13 ?q13 ?y13 hHeld ?r13
        case h13 => (simp only [List.getElem?_toArray, List.getElem?_cons_succ, List.getElem?_cons_zero]; rfl)
        case s13 => kernel_rfl
        case f13 => kernel_rfl
        case c13 => kernel_rfl
        case y13 => (refine Or.inl ⟨by rfl, ?_⟩; intro w hSw; (try dsimp only at hSw); go_simp; (try with_reducible rfl))
        case q13 => exact fun _ _ _ h => h
        try simp only [Act.put, List.setIfInBounds_toArray, List.set_cons_zero, List.set_cons_succ]
        refine wpAnyH_take (i := 13) (oi := ?o14) (v := ?v14) ?h14 ?s14 ?f14 ?c14 ?q14 ?y14 hHeld ?r14
        case h14 => (simp only [List.getElem?_toArray, List.getElem?_cons_succ, List.getElem?_cons_zero]; rfl)
        case s14 => kernel_rfl
        case f14 => kernel_rfl
        case c14 => kernel_rfl
        case y14 => (refine Or.inl ⟨by rfl, ?_⟩; intro w hSw; (try dsimp only at hSw); go_simp; (try with_reducible rfl))
        case q14 => exact fun _ _ _ h => h
        try simp only [Act.put, List.setIfInBounds_toArray, List.set_cons_zero, List.set_cons_succ]
        refine wpAnyH_take (i := 14) (oi := ?o15) (v := ?v15) ?h15 ?s15 ?f15 ?c15 ?q15 ?y15 hHeld ?r15
        case h15 => (simp only [List.getElem?_toArray, List.getElem?_cons_succ, List.getElem?_cons_zero]; rfl)
        case s15 => kernel_rfl
        case f15 => kernel_rfl
        case c15 => kernel_rfl
        case y15 => (refine Or.inl ⟨by rfl, ?_⟩; intro w hSw; (try dsimp only at hSw); go_simp; (try with_reducible rfl))
        case q15 => exact fun _ _ _ h => h
        try simp only [Act.put, List.setIfInBounds_toArray, List.set_cons_zero, List.set_cons_succ]
        refine wpAnyH_take (i := 15) (oi := ?o16) (v := ?v16) ?h16 ?s16 ?f16 ?c16 ?q16 ?y16 hHeld ?r16
        case h16 => (simp only [List.getElem?_toArray, List.getElem?_cons_succ, List.getElem?_cons_zero]; rfl)
        case s16 => kernel_rfl
        case f16 => kernel_rfl
        case c16 => kernel_rfl
        case y16 => (refine Or.inl ⟨by rfl, ?_⟩; intro w hSw; (try dsimp only at hSw); go_simp; (try with_reducible rfl))
        case q16 => exact fun _ _ _ h => h
        try simp only [Act.put, List.setIfInBounds_toArray, List.set_cons_zero, List.set_cons_succ]
        refine wpAnyH_take (i := 16) (oi := ?o17) (v := ?v17) ?h17 ?s17 ?f17 ?c17 ?q17 ?y17 hHeld ?r17
        case h17 => (simp only [List.getElem?_toArray, List.getElem?_cons_succ, List.getElem?_cons_zero]; rfl)
        case s17 => kernel_rfl
        case f17 => kernel_rfl
        case c17 => kernel_rfl
        case y17 => (refine Or.inl ⟨by rfl, ?_⟩; intro w hSw; (try dsimp only at hSw); go_simp; (try with_reducible rfl))
        case q17 => exact fun _ _ _ h => h
        try simp only [Act.put, List.setIfInBounds_toArray, List.set_cons_zero, List.set_cons_succ]
        refine wpAnyH_take (i := 17) (oi := ?o18) (v := ?v18) ?h18 ?s18 ?f18 ?c18 ?q18 ?y18 hHeld ?r18
        case h18 => (simp only [List.getElem?_toArray, List.getElem?_cons_succ, List.getElem?_cons_zero]; rfl)
        case s18 => kernel_rfl
        case f18 => kernel_rfl
        case c18 => kernel_rfl
        case y18 => (refine Or.inl ⟨by rfl, ?_⟩; intro w hSw; (try dsimp only at hSw); go_simp; (try with_reducible rfl))
        case q18 => exact fun _ _ _ h => h
        try simp only [Act.put, List.setIfInBounds_toArray, List.set_cons_zero, List.set_cons_succ]
        refine wpAnyH_take (i := 18) (oi := ?o19) (v := undef) ?h19 ?s19 ?f19 ?c19 ?q19 ?y19 hHeld ?r19
        case h19 => (simp only [List.getElem?_toArray, List.getElem?_cons_succ, List.getElem?_cons_zero]; rfl)
        case s19 => kernel_rfl
        case f19 => kernel_rfl
        case c19 => kernel_rfl
        case y19 => exact Or.inr ⟨by rfl, rfl⟩
        case q19 => exact fun _ _ _ h => h
        try simp only [Act.put, List.setIfInBounds_toArray, List.set_cons_zero, List.set_cons_succ]
        refine wpAnyH_take (i := 19) (oi := ?o20) (v := undef) ?h20 ?s20 ?f20 ?c20 ?q20 ?y20 hHeld ?r20
        case h20 => (simp only [List.getElem?_toArray, List.getElem?_cons_succ, List.getElem?_cons_zero]; rfl)
        case s20 => kernel_rfl
        case f20 => kernel_rfl
        case c20 => kernel_rfl
        case y20 => exact Or.inr ⟨by rfl, rfl⟩
        case q20 => exact fun _ _ _ h => h
        try simp only [Act.put, List.setIfInBounds_toArray, List.set_cons_zero, List.set_cons_succ]
        refine wpAnyH_take (i := 20) (oi := ?o21) (v := undef) ?h21 ?s21 ?f21 ?c21 ?q21 ?y21 hHeld ?r21
        case h21 => (simp only [List.getElem?_toArray, List.getElem?_cons_succ, List.getElem?_cons_zero]; rfl)
        case s21 => kernel_rfl
        case f21 => kernel_rfl
        case c21 => kernel_rfl
        case y21 => exact Or.inr ⟨by rfl, rfl⟩
        case q21 => exact fun _ _ _ h => h
        try simp only [Act.put, List.setIfInBounds_toArray, List.set_cons_zero, List.set_cons_succ]
        refine wpAnyH_take (i := 21) (oi := ?o22) (v := undef) ?h22 ?s22 ?f22 ?c22 ?q22 ?y22 hHeld ?r22
        case h22 => (simp only [List.getElem?_toArray, List.getElem?_cons_succ, List.getElem?_cons_zero]; rfl)
        case s22 => kernel_rfl
        case f22 => kernel_rfl
        case c22 => kernel_rfl
        case y22 => exact Or.inr ⟨by rfl, rfl⟩
        case q22 => exact fun _ _ _ h => h
        try simp only [Act.put, List.setIfInBounds_toArray, List.set_cons_zero, List.set_cons_succ]
        refine wpAnyH_take (i := 22) (oi := ?o23) (v := undef) ?h23 ?s23 ?f23 ?c23 ?q23 ?y23 hHeld ?r23
        case h23 => (simp only [List.getElem?_toArray, List.getElem?_cons_succ, List.getElem?_cons_zero]; rfl)
        case s23 => kernel_rfl
        case f23 => kernel_rfl
        case c23 => kernel_rfl
        case y23 => exact Or.inr ⟨by rfl, rfl⟩
        case q23 => exact fun _ _ _ h => h
        try simp only [Act.put, List.setIfInBounds_toArray, List.set_cons_zero, List.set_cons_succ]
        refine wpAnyH_take (i := 23) (oi := ?o24) (v := undef) ?h24 ?s24 ?f24 ?c24 ?q24 ?y24 hHeld ?r24
        case h24 => (simp only [List.getElem?_toArray, List.getElem?_cons_succ, List.getElem?_cons_zero]; rfl)
        case s24 => kernel_rfl
        case f24 => kernel_rfl
        case c24 => kernel_rfl
        case y24 => exact Or.inr ⟨by rfl, rfl⟩
        case q24 => exact fun _ _ _ h => h
        try simp only [Act.put, List.setIfInBounds_toArray, List.set_cons_zero, List.set_cons_succ]
        refine wpAnyH_take (i := 24) (oi := ?o25) (v := undef) ?h25 ?s25 ?f25 ?c25 ?q25 ?y25 hHeld ?r25
        case h25 => (simp only [List.getElem?_toArray, List.getElem?_cons_succ, List.getElem?_cons_zero]; rfl)
        case s25 => kernel_rfl
        case f25 => kernel_rfl
        case c25 => kernel_rfl
        case y25 => exact Or.inr ⟨by rfl, rfl⟩
        case q25 => exact fun _ _ _ h => h
        try simp only [Act.put, List.setIfInBounds_toArray, List.set_cons_zero, List.set_cons_succ]
        refine wpAnyH_take (i := 25) (oi := ?o26) (v := undef) ?h26 ?s26 ?f26 ?c26 ?q26 ?y26 hHeld ?r26
        case h26 => (simp only [List.getElem?_toArray, List.getElem?_cons_succ, List.getElem?_cons_zero]; rfl)
        case s26 => kernel_rfl
        case f26 => kernel_rfl
        case c26 => kernel_rfl
        case y26 => exact Or.inr ⟨by rfl, rfl⟩
        case q26 => exact fun _ _ _ h => h
        try simp only [Act.put, List.setIfInBounds_toArray, List.set_cons_zero, List.set_cons_succ]
        refine wpAnyH_take (i := 26) (oi := ?o27) (v := undef) ?h27 ?s27 ?f27 ?c27 ?q27 ?y27 hHeld ?r27
        case h27 => (simp only [List.getElem?_toArray, List.getElem?_cons_succ, List.getElem?_cons_zero]; rfl)
        case s27 => kernel_rfl
        case f27 => kernel_rfl
        case c27 => kernel_rfl
        case y27 => exact Or.inr ⟨by rfl, rfl⟩
        case q27 => exact fun _ _ _ h => h
        try simp only [Act.put, List.setIfInBounds_toArray, List.set_cons_zero, List.set_cons_succ]
        refine wpAnyH_take (i := 27) (oi := ?o28) (v := undef) ?h28 ?s28 ?f28 ?c28 ?q28 ?y28 hHeld ?r28
        case h28 => (simp only [List.getElem?_toArray, List.getElem?_cons_succ, List.getElem?_cons_zero]; rfl)
        case s28 => kernel_rfl
        case f28 => kernel_rfl
        case c28 => kernel_rfl
        case y28 => exact Or.inr ⟨by rfl, rfl⟩
        case q28 => exact fun _ _ _ h => h
        try simp only [Act.put, List.setIfInBounds_toArray, List.set_cons_zero, List.set_cons_succ]
        refine wpAnyH_take (i := 28) (oi := ?o29) (v := undef) ?h29 ?s29 ?f29 ?c29 ?q29 ?y29 hHeld ?r29
        case h29 => (simp only [List.getElem?_toArray, List.getElem?_cons_succ, List.getElem?_cons_zero]; rfl)
        case s29 => kernel_rfl
        case f29 => kernel_rfl
        case c29 => kernel_rfl
        case y29 => exact Or.inr ⟨by rfl, rfl⟩
        case q29 => exact fun _ _ _ h => h
        try simp only [Act.put, List.setIfInBounds_toArray, List.set_cons_zero, List.set_cons_succ]
        refine wpAnyH_take (i := 29) (oi := ?o30) (v := undef) ?h30 ?s30 ?f30 ?c30 ?q30 ?y30 hHeld ?r30
        case h30 => (simp only [List.getElem?_toArray, List.getElem?_cons_succ, List.getElem?_cons_zero]; rfl)
        case s30 => kernel_rfl
        case f30 => kernel_rfl
        case c30 => kernel_rfl
        case y30 => exact Or.inr ⟨by rfl, rfl⟩
        case q30 => exact fun _ _ _ h => h
        try simp only [Act.put, List.setIfInBounds_toArray, List.set_cons_zero, List.set_cons_succ]
        refine wpAnyH_take (i := 30) (oi := ?o31) (v := undef) ?h31 ?s31 ?f31 ?c31 ?q31 ?y31 hHeld ?r31
        case h31 => (simp only [List.getElem?_toArray, List.getElem?_cons_succ, List.getElem?_cons_zero]; rfl)
        case s31 => kernel_rfl
        case f31 => kernel_rfl
        case c31 => kernel_rfl
        case y31 => exact Or.inr ⟨by rfl, rfl⟩
        case q31 => exact fun _ _ _ h => h
        try simp only [Act.put, List.setIfInBounds_toArray, List.set_cons_zero, List.set_cons_succ]
        refine wpAnyH_take (i := 31) (oi := ?o32) (v := undef) ?h32 ?s32 ?f32 ?c32 ?q32 ?y32 hHeld ?r32
        case h32 => (simp only [List.getElem?_toArray, List.getElem?_cons_succ, List.getElem?_cons_zero]; rfl)
        case s32 => kernel_rfl
        case f32 => kernel_rfl
        case c32 => kernel_rfl
        case y32 => exact Or.inr ⟨by rfl, rfl⟩
        case q32 => exact fun _ _ _ h => h
        try simp only [Act.put, List.setIfInBounds_toArray, List.set_cons_zero, List.set_cons_succ]
        refine wpAnyH_take (i := 32) (oi := ?o33) (v := undef) ?h33 ?s33 ?f33 ?c33 ?q33 ?y33 hHeld ?r33
        case h33 => (simp only [List.getElem?_toArray, List.getElem?_cons_succ, List.getElem?_cons_zero]; rfl)
        case s33 => kernel_rfl
        case f33 => kernel_rfl
        case c33 => kernel_rfl
        case y33 => exact Or.inr ⟨by rfl, rfl⟩
        case q33 => exact fun _ _ _ h => h
        try simp only [Act.put, List.setIfInBounds_toArray, List.set_cons_zero, List.set_cons_succ]
        refine wpAnyH_take (i := 33) (oi := ?o34) (v := undef) ?h34 ?s34 ?f34 ?c34 ?q34 ?y34 hHeld ?r34
        case h34 => (simp only [List.getElem?_toArray, List.getElem?_cons_succ, List.getElem?_cons_zero]; rfl)
        case s34 => kernel_rfl
        case f34 => kernel_rfl
        case c34 => kernel_rfl
        case y34 => exact Or.inr ⟨by rfl, rfl⟩
        case q34 => exact fun _ _ _ h => h
        try simp only [Act.put, List.setIfInBounds_toArray, List.set_cons_zero, List.set_cons_succ]
        refine wpAnyH_take (i := 34) (oi := ?o35) (v := undef) ?h35 ?s35 ?f35 ?c35 ?q35 ?y35 hHeld ?r35
        case h35 => (simp only [List.getElem?_toArray, List.getElem?_cons_succ, List.getElem?_cons_zero]; rfl)
        case s35 => kernel_rfl
        case f35 => kernel_rfl
        case c35 => kernel_rfl
        case y35 => exact Or.inr ⟨by rfl, rfl⟩
        case q35 => exact fun _ _ _ h => h
        try simp only [Act.put, List.setIfInBounds_toArray, List.set_cons_zero, List.set_cons_succ]
        refine wpAnyH_take (i := 35) (oi := ?o36) (v := undef) ?h36 ?s36 ?f36 ?c36 ?q36 ?y36 hHeld ?r36
        case h36 => (simp only [List.getElem?_toArray, List.getElem?_cons_succ, List.getElem?_cons_zero]; rfl)
        case s36 => kernel_rfl
        case f36 => kernel_rfl
        case c36 => kernel_rfl
        case y36 => exact Or.inr ⟨by rfl, rfl⟩
        case q36 => exact fun _ _ _ h => h
        try simp only [Act.put, List.setIfInBounds_toArray, List.set_cons_zero, List.set_cons_succ]
        refine wpAnyH_take (i := 36) (oi := ?o37) (v := undef) ?h37 ?s37 ?f37 ?c37 ?q37 ?y37 hHeld ?r37
        case h37 => (simp only [List.getElem?_toArray, List.getElem?_cons_succ, List.getElem?_cons_zero]; rfl)
        case s37 => kernel_rfl
        case f37 => kernel_rfl
        case c37 => kernel_rfl
        case y37 => exact Or.inr ⟨by rfl, rfl⟩
        case q37 => exact fun _ _ _ h => h
        try simp only [Act.put, List.setIfInBounds_toArray, List.set_cons_zero, List.set_cons_succ]
        refine wpAnyH_take (i := 37) (oi := ?o38) (v := ?v38) ?h38 ?s38 ?f38 ?c38 ?q38 ?y38 hHeld ?r38
        case h38 => (simp only [List.getElem?_toArray, List.getElem?_cons_succ, List.getElem?_cons_zero]; rfl)
        case s38 => kernel_rfl
        case f38 => kernel_rfl
        case c38 => kernel_rfl
        case y38 => (refine Or.inl ⟨by rfl, ?_⟩; intro w hSw; (try dsimp only at hSw); go_simp; (try with_reducible rfl))
        case q38 => exact fun _ _ _ h => h
        try simp only [Act.put, List.setIfInBounds_toArray, List.set_cons_zero, List.set_cons_succ]
        refine wpAnyH_take (i := 38) (oi := ?o39) (v := ?v39) ?h39 ?s39 ?f39 ?c39 ?q39 ?y39 hHeld ?r39
        case h39 => (simp only [List.getElem?_toArray, List.getElem?_cons_succ, List.getElem?_cons_zero]; rfl)
        case s39 => kernel_rfl
        case f39 => kernel_rfl
        case c39 => kernel_rfl
        case y39 => (refine Or.inl ⟨by rfl, ?_⟩; intro w hSw; (try dsimp only at hSw); go_simp; (try with_reducible rfl))
        case q39 => exact fun _ _ _ h => h
        try simp only [Act.put, List.setIfInBounds_toArray, List.set_cons_zero, List.set_cons_succ]
        refine wpAnyH_take (i := 39) (oi := ?o40) (v := ?v40) ?h40 ?s40 ?f40 ?c40 ?q40 ?y40 hHeld ?r40
        case h40 => (simp only [List.getElem?_toArray, List.getElem?_cons_succ, List.getElem?_cons_zero]; rfl)
        case s40 => kernel_rfl
        case f40 => kernel_rfl
        case c40 => kernel_rfl
        case y40 => (refine Or.inl ⟨by rfl, ?_⟩; intro w hSw; (try dsimp only at hSw); go_simp; (try with_reducible rfl))
        case q40 => exact fun _ _ _ h => h
        try simp only [Act.put, List.setIfInBounds_toArray, List.set_cons_zero, List.set_cons_succ]
        refine wpAnyH_done (by kernel_rfl) ?_ _
        repeat go_step
        go_wp2_with fail
        go_ret
        exact ⟨rfl, U⟩
      · have tx : (x.kind == 0) = false := by simp [ex]
        obtain ⟨k1, k2, k3⟩ := key ex
        rw [if_pos hp] at k2
        have tk : (x.kind == r.kind) = true := by simp [k1]
        have HLX : Hid (rtLen x = IntKind.i64.wrap (lr + lc)) := Lib.hid (by rw [k2, IntKind.wrap_i64]; omega)
        have HBT := Lib.hid k3
        clear key hp ex k1 k3 k2
        go_enter Try.func5, Try.ntmps5
        go_upto_region 15 with (first
          | (go_at_call 26; (with_reducible refine (awake7_any _).mono ?_); rintro e w1 ⟨rfl, hb1⟩; replace hA := hA.on hb1; replace hA3 := hA3.on hb1; replace U := below_on U hb1)
          | (go_at_call 12; refine (Net_at p l HP A n c HLEN.out HM.out hm hc hcm _ hA).mono ?_; rintro e w2 ⟨An, cn, Al, cl, Ad, cd, Ac, cc, rfl, ho, hb2⟩; have h := PBox.new U hb2 ho; replace hA := hA.on hb2; replace hA3 := hA3.on hb2; replace U := below_on U hb2; have hn2 := below_new w2 (.cells #[.int .i64 p.proto, .int .i64 p.cap, .int .i64 p.k, .slice An p.nodes.length cn, .slice Al p.links.length cl, .slice Ad p.dests.length cd, .slice Ac p.checks.length cc] 29); replace hA := hA.on hn2; replace hA3 := hA3.on hn2; replace U := below_on U hn2; obtain ⟨gL, hgL, _, l0, l1, l2⟩ := h.at_.links.link HLI.out; subst hgL; obtain ⟨ce0, ce1, ce2, ce3, ce4, ce5, ce6⟩ := h.cells; obtain ⟨l0, l1, l2⟩ := RowAt.linkAt h.at_.links HLI.out)
          | (go_at_call 27; (with_reducible refine (pick7_is x0 _ (i : Int) hx0 (by omega) (by omega) HX _).mono ?_); rintro e wp ⟨rfl, rfl⟩)
          | (go_at_call 36; (with_reducible refine (held_is p a nf HNF hcap l3 r HRA HW3 n3 HN3 hm3 h.at_ hk.small hA3).mono ?_); rintro e w3 ⟨Aa, ca, rfl, Ra, ha1, ha2, hb3⟩; replace h := h.go hb3; replace hA := hA.on hb3; replace hA3 := hA3.on hb3; replace U := below_on U hb3; have hn3 := below_new w3 (.cells #[.int .i64 r.kind, .int .i64 r.cost, .slice Aa r.path.length ca] 42); replace h := h.go hn3; replace hA := hA.on hn3; replace hA3 := hA3.on hn3; replace Ra := Ra.on hn3; replace U := below_on U hn3; have Ba := Blk.new w3 42 #[.int .i64 r.kind, .int .i64 r.cost, .slice Aa r.path.length ca]; obtain ⟨ce7, ce8, ce9, ce10, ce11, ce12, ce13⟩ := h.cells; have ce14 := Ba.cell 0; have ce15 := Ba.cell 1; have ce16 := Ba.cell 2; obtain ⟨l0, l1, l2⟩ := RowAt.linkAt h.at_.links HLI.out)
          | (go_at_call 32; (with_reducible refine (caOver_w p (i : Int) (b : Int) r x HX2 h.at_ hk.small Ra ha1 ha2).mono ?_); rintro e w4 ⟨Ax, cx, rfl, Rx, hx1, hx2, hb4⟩; replace h := h.go hb4; replace Ba := Ba.up hb4; replace hA := hA.on hb4; replace hA3 := hA3.on hb4; replace Ra := Ra.on hb4; replace U := below_on U hb4; have hn4 := below_new w4 (.cells #[.int .i64 x.kind, .int .i64 x.cost, .slice Ax x.path.length cx] 42); replace h := h.go hn4; replace Ba := Ba.up hn4; replace hA := hA.on hn4; replace hA3 := hA3.on hn4; replace Ra := Ra.on hn4; replace Rx := Rx.on hn4; replace U := below_on U hn4; have Bx := Blk.new w4 42 #[.int .i64 x.kind, .int .i64 x.cost, .slice Ax x.path.length cx]; obtain ⟨ce17, ce18, ce19, ce20, ce21, ce22, ce23⟩ := h.cells; have ce24 := Ba.cell 0; have ce25 := Ba.cell 1; have ce26 := Ba.cell 2; have ce27 := Bx.cell 0; have ce28 := Bx.cell 1; have ce29 := Bx.cell 2; obtain ⟨l0, l1, l2⟩ := RowAt.linkAt h.at_.links HLI.out))
        have hdr : Below (w4.alloc (.cells #[.int .i64 x.kind, .int .i64 x.cost, .slice Ax x.path.length cx] 42)).heap.size (w4.alloc (.cells #[.int .i64 x.kind, .int .i64 x.cost, .slice Ax x.path.length cx] 42)) (w4.alloc (.cells #[.int .i64 x.kind, .int .i64 x.cost, .slice Ax x.path.length cx] 42)).drew := (Below.refl _ _).drew
        replace h := h.go hdr
        replace Ba := Ba.up hdr
        replace Bx := Bx.up hdr
        replace hA := hA.on hdr
        replace hA3 := hA3.on hdr
        replace Ra := Ra.on hdr
        replace Rx := Rx.on hdr
        replace U := below_on U hdr
        go_region_held3 (fun w' => (w'.cell? ⟨w2.heap.size, 0, none⟩ = some (.int .i64 p.proto) ∧ w'.cell? ⟨w2.heap.size, 1, none⟩ = some (.int .i64 p.cap) ∧ w'.cell? ⟨w2.heap.size, 2, none⟩ = some (.int .i64 p.k) ∧ w'.cell? ⟨w2.heap.size, 3, none⟩ = some (.slice An p.nodes.length cn) ∧ w'.cell? ⟨w2.heap.size, 4, none⟩ = some (.slice (some ⟨gL, 0, none⟩) p.links.length cl) ∧ w'.cell? ⟨w2.heap.size, 5, none⟩ = some (.slice Ad p.dests.length cd) ∧ w'.cell? ⟨w2.heap.size, 6, none⟩ = some (.slice Ac p.checks.length cc)) ∧ (w'.cell? ⟨w3.heap.size, 0, none⟩ = some (.int .i64 r.kind) ∧ w'.cell? ⟨w3.heap.size, 1, none⟩ = some (.int .i64 r.cost) ∧ w'.cell? ⟨w3.heap.size, 2, none⟩ = some (.slice Aa r.path.length ca)) ∧ (w'.cell? ⟨w4.heap.size, 0, none⟩ = some (.int .i64 x.kind) ∧ w'.cell? ⟨w4.heap.size, 1, none⟩ = some (.int .i64 x.cost) ∧ w'.cell? ⟨w4.heap.size, 2, none⟩ = some (.slice Ax x.path.length cx))) (go_keep) (first
          | (go_at_call 33; (with_reducible refine (caFits_w p (a : Int) r _ HF1 h.at_ hk.small Ra ha1 ha2).mono ?_); rintro e w5 ⟨rfl, hb5⟩; replace h := h.go hb5; replace Ba := Ba.up hb5; replace Bx := Bx.up hb5; replace hA := hA.on hb5; replace hA3 := hA3.on hb5; replace Ra := Ra.on hb5; replace Rx := Rx.on hb5; replace U := below_on U hb5; obtain ⟨ce30, ce31, ce32, ce33, ce34, ce35, ce36⟩ := h.cells; have ce37 := Ba.cell 0; have ce38 := Ba.cell 1; have ce39 := Ba.cell 2; have ce40 := Bx.cell 0; have ce41 := Bx.cell 1; have ce42 := Bx.cell 2; obtain ⟨l0, l1, l2⟩ := RowAt.linkAt h.at_.links HLI.out)
          | (go_at_call 33; (with_reducible refine (caFits_w p (b : Int) x _ HF2 h.at_ hk.small Rx hx1 hx2).mono ?_); rintro e w6 ⟨rfl, hb6⟩; replace h := h.go hb6; replace Ba := Ba.up hb6; replace Bx := Bx.up hb6; replace hA := hA.on hb6; replace hA3 := hA3.on hb6; replace Ra := Ra.on hb6; replace Rx := Rx.on hb6; replace U := below_on U hb6; obtain ⟨ce43, ce44, ce45, ce46, ce47, ce48, ce49⟩ := h.cells; have ce50 := Ba.cell 0; have ce51 := Ba.cell 1; have ce52 := Ba.cell 2; have ce53 := Bx.cell 0; have ce54 := Bx.cell 1; have ce55 := Bx.cell 2; obtain ⟨l0, l1, l2⟩ := RowAt.linkAt h.at_.links HLI.out)
          | (go_at_call 37; (with_reducible refine (atLength_is x (IntKind.i64.wrap (lr + lc)) HLX cx rfl).mono ?_); rintro e w7 ⟨rfl, hb7⟩; replace h := h.go hb7; replace Ba := Ba.up hb7; replace Bx := Bx.up hb7; replace hA := hA.on hb7; replace hA3 := hA3.on hb7; replace Ra := Ra.on hb7; replace Rx := Rx.on hb7; replace U := below_on U hb7; obtain ⟨ce56, ce57, ce58, ce59, ce60, ce61, ce62⟩ := h.cells; have ce63 := Ba.cell 0; have ce64 := Ba.cell 1; have ce65 := Ba.cell 2; have ce66 := Bx.cell 0; have ce67 := Bx.cell 1; have ce68 := Bx.cell 2; obtain ⟨l0, l1, l2⟩ := RowAt.linkAt h.at_.links HLI.out)
          | (go_at_call 37; (with_reducible refine (atLength_is r lr HLR ca rfl).mono ?_); rintro e w8 ⟨rfl, hb8⟩; replace h := h.go hb8; replace Ba := Ba.up hb8; replace Bx := Bx.up hb8; replace hA := hA.on hb8; replace hA3 := hA3.on hb8; replace Ra := Ra.on hb8; replace Rx := Rx.on hb8; replace U := below_on U hb8; obtain ⟨ce69, ce70, ce71, ce72, ce73, ce74, ce75⟩ := h.cells; have ce76 := Ba.cell 0; have ce77 := Ba.cell 1; have ce78 := Ba.cell 2; have ce79 := Bx.cell 0; have ce80 := Bx.cell 1; have ce81 := Bx.cell 2; obtain ⟨l0, l1, l2⟩ := RowAt.linkAt h.at_.links HLI.out)
          | (go_at_call 38; (with_reducible refine (atBetter_is r x _ HBT Ra Rx).mono ?_); rintro e w9 ⟨rfl, hb9⟩; replace h := h.go hb9; replace Ba := Ba.up hb9; replace Bx := Bx.up hb9; replace hA := hA.on hb9; replace hA3 := hA3.on hb9; replace Ra := Ra.on hb9; replace Rx := Rx.on hb9; replace U := below_on U hb9; obtain ⟨ce82, ce83, ce84, ce85, ce86, ce87, ce88⟩ := h.cells; have ce89 := Ba.cell 0; have ce90 := Ba.cell 1; have ce91 := Ba.cell 2; have ce92 := Bx.cell 0; have ce93 := Bx.cell 1; have ce94 := Bx.cell 2; obtain ⟨l0, l1, l2⟩ := RowAt.linkAt h.at_.links HLI.out))
        go_step
        go_wp2_with fail
        go_ret
        exact ⟨rfl, U⟩
    · have tp : (p.proto == 1) = false := by simp [hp]
      by_cases ex : x.kind = 0
      · have tx : (x.kind == 0) = true := by simp [ex]
        clear key hp ex
        go_enter Try.func5, Try.ntmps5
        go_upto_region 15 with (first
          | (go_at_call 26; (with_reducible refine (awake7_any _).mono ?_); rintro e w1 ⟨rfl, hb1⟩; replace hA := hA.on hb1; replace hA3 := hA3.on hb1; replace U := below_on U hb1)
          | (go_at_call 12; refine (Net_at p l HP A n c HLEN.out HM.out hm hc hcm _ hA).mono ?_; rintro e w2 ⟨An, cn, Al, cl, Ad, cd, Ac, cc, rfl, ho, hb2⟩; have h := PBox.new U hb2 ho; replace hA := hA.on hb2; replace hA3 := hA3.on hb2; replace U := below_on U hb2; have hn2 := below_new w2 (.cells #[.int .i64 p.proto, .int .i64 p.cap, .int .i64 p.k, .slice An p.nodes.length cn, .slice Al p.links.length cl, .slice Ad p.dests.length cd, .slice Ac p.checks.length cc] 29); replace hA := hA.on hn2; replace hA3 := hA3.on hn2; replace U := below_on U hn2; obtain ⟨gL, hgL, _, l0, l1, l2⟩ := h.at_.links.link HLI.out; subst hgL; obtain ⟨ce0, ce1, ce2, ce3, ce4, ce5, ce6⟩ := h.cells; obtain ⟨l0, l1, l2⟩ := RowAt.linkAt h.at_.links HLI.out)
          | (go_at_call 27; (with_reducible refine (pick7_is x0 _ (i : Int) hx0 (by omega) (by omega) HX _).mono ?_); rintro e wp ⟨rfl, rfl⟩)
          | (go_at_call 36; (with_reducible refine (held_is p a nf HNF hcap l3 r HRA HW3 n3 HN3 hm3 h.at_ hk.small hA3).mono ?_); rintro e w3 ⟨Aa, ca, rfl, Ra, ha1, ha2, hb3⟩; replace h := h.go hb3; replace hA := hA.on hb3; replace hA3 := hA3.on hb3; replace U := below_on U hb3; have hn3 := below_new w3 (.cells #[.int .i64 r.kind, .int .i64 r.cost, .slice Aa r.path.length ca] 42); replace h := h.go hn3; replace hA := hA.on hn3; replace hA3 := hA3.on hn3; replace Ra := Ra.on hn3; replace U := below_on U hn3; have Ba := Blk.new w3 42 #[.int .i64 r.kind, .int .i64 r.cost, .slice Aa r.path.length ca]; obtain ⟨ce7, ce8, ce9, ce10, ce11, ce12, ce13⟩ := h.cells; have ce14 := Ba.cell 0; have ce15 := Ba.cell 1; have ce16 := Ba.cell 2; obtain ⟨l0, l1, l2⟩ := RowAt.linkAt h.at_.links HLI.out)
          | (go_at_call 32; (with_reducible refine (caOver_w p (i : Int) (b : Int) r x HX2 h.at_ hk.small Ra ha1 ha2).mono ?_); rintro e w4 ⟨Ax, cx, rfl, Rx, hx1, hx2, hb4⟩; replace h := h.go hb4; replace Ba := Ba.up hb4; replace hA := hA.on hb4; replace hA3 := hA3.on hb4; replace Ra := Ra.on hb4; replace U := below_on U hb4; have hn4 := below_new w4 (.cells #[.int .i64 x.kind, .int .i64 x.cost, .slice Ax x.path.length cx] 42); replace h := h.go hn4; replace Ba := Ba.up hn4; replace hA := hA.on hn4; replace hA3 := hA3.on hn4; replace Ra := Ra.on hn4; replace Rx := Rx.on hn4; replace U := below_on U hn4; have Bx := Blk.new w4 42 #[.int .i64 x.kind, .int .i64 x.cost, .slice Ax x.path.length cx]; obtain ⟨ce17, ce18, ce19, ce20, ce21, ce22, ce23⟩ := h.cells; have ce24 := Ba.cell 0; have ce25 := Ba.cell 1; have ce26 := Ba.cell 2; have ce27 := Bx.cell 0; have ce28 := Bx.cell 1; have ce29 := Bx.cell 2; obtain ⟨l0, l1, l2⟩ := RowAt.linkAt h.at_.links HLI.out))
        refine wp_region_held_drew (S := (fun w' => (w'.cell? ⟨w2.heap.size, 0, none⟩ = some (.int .i64 p.proto) ∧ w'.cell? ⟨w2.heap.size, 1, none⟩ = some (.int .i64 p.cap) ∧ w'.cell? ⟨w2.heap.size, 2, none⟩ = some (.int .i64 p.k) ∧ w'.cell? ⟨w2.heap.size, 3, none⟩ = some (.slice An p.nodes.length cn) ∧ w'.cell? ⟨w2.heap.size, 4, none⟩ = some (.slice (some ⟨gL, 0, none⟩) p.links.length cl) ∧ w'.cell? ⟨w2.heap.size, 5, none⟩ = some (.slice Ad p.dests.length cd) ∧ w'.cell? ⟨w2.heap.size, 6, none⟩ = some (.slice Ac p.checks.length cc)) ∧ (w'.cell? ⟨w3.heap.size, 0, none⟩ = some (.int .i64 r.kind) ∧ w'.cell? ⟨w3.heap.size, 1, none⟩ = some (.int .i64 r.cost) ∧ w'.cell? ⟨w3.heap.size, 2, none⟩ = some (.slice Aa r.path.length ca)) ∧ (w'.cell? ⟨w4.heap.size, 0, none⟩ = some (.int .i64 x.kind) ∧ w'.cell? ⟨w4.heap.size, 1, none⟩ = some (.int .i64 x.cost) ∧ w'.cell? ⟨w4.heap.size, 2, none⟩ = some (.slice Ax x.path.length cx)))) (by kernel_rfl) (by go_keep) (fun hHeld => ?_)
        have hdr : Below (w4.alloc (.cells #[.int .i64 x.kind, .int .i64 x.cost, .slice Ax x.path.length cx] 42)).heap.size (w4.alloc (.cells #[.int .i64 x.kind, .int .i64 x.cost, .slice Ax x.path.length cx] 42)) (w4.alloc (.cells #[.int .i64 x.kind, .int .i64 x.cost, .slice Ax x.path.length cx] 42)).drew := (Below.refl _ _).drew
        replace h := h.go hdr
        replace Ba := Ba.up hdr
        replace Bx := Bx.up hdr
        replace hA := hA.on hdr
        replace hA3 := hA3.on hdr
        replace Ra := Ra.on hdr
        replace Rx := Rx.on hdr
        replace U := below_on U hdr
        refine wpAnyH_take (i := 0) (oi := ?o41) (v := ?v41) ?h41 ?s41 ?f41 ?c41 ?q41 ?y41 hHeld ?r41
        case h41 => (simp only [List.getElem?_toArray, List.getElem?_cons_succ, List.getElem?_cons_zero]; rfl)
        case s41 => kernel_rfl
        case f41 => kernel_rfl
        case c41 => kernel_rfl
        case y41 => (refine Or.inl ⟨by rfl, ?_⟩; intro w hSw; (try dsimp only at hSw); go_simp; (try with_reducible rfl))
        case q41 => exact fun _ _ _ h => h
        try simp only [Act.put, List.setIfInBounds_toArray, List.set_cons_zero, List.set_cons_succ]
        refine wpAnyH_take (i := 1) (oi := ?o42) (v := ?v42) ?h42 ?s42 ?f42 ?c42 ?q42 ?y42 hHeld ?r42
        case h42 => (simp only [List.getElem?_toArray, List.getElem?_cons_succ, List.getElem?_cons_zero]; rfl)
        case s42 => kernel_rfl
        case f42 => kernel_rfl
        case c42 => kernel_rfl
        case y42 => (refine Or.inl ⟨by rfl, ?_⟩; intro w hSw; (try dsimp only at hSw); go_simp; (try with_reducible rfl))
        case q42 => exact fun _ _ _ h => h
        try simp only [Act.put, List.setIfInBounds_toArray, List.set_cons_zero, List.set_cons_succ]
        refine wpAnyH_take (i := 2) (oi := ?o43) (v := ?v43) ?h43 ?s43 ?f43 ?c43 ?q43 ?y43 hHeld ?r43
        case h43 => (simp only [List.getElem?_toArray, List.getElem?_cons_succ, List.getElem?_cons_zero]; rfl)
        case s43 => kernel_rfl
        case f43 => kernel_rfl
        case c43 => kernel_rfl
        case y43 => (refine Or.inl ⟨by rfl, ?_⟩; intro w hSw; (try dsimp only at hSw); go_simp; (try with_reducible rfl))
        case q43 => exact fun _ _ _ h => h
        try simp only [Act.put, List.setIfInBounds_toArray, List.set_cons_zero, List.set_cons_succ]
        refine wpAnyH_take (i := 3) (oi := ?o44) (v := ?v44) ?h44 ?s44 ?f44 ?c44 ?q44 ?y44 hHeld ?r44
        case h44 => (simp only [List.getElem?_toArray, List.getElem?_cons_succ, List.getElem?_cons_zero]; rfl)
        case s44 => kernel_rfl
        case f44 => kernel_rfl
        case c44 => kernel_rfl
        case y44 => (refine Or.inl ⟨by rfl, ?_⟩; intro w hSw; (try dsimp only at hSw); go_simp; (try with_reducible rfl))
        case q44 => exact fun _ _ _ h => h
        try simp only [Act.put, List.setIfInBounds_toArray, List.set_cons_zero, List.set_cons_succ]
        refine wpAnyH_take (i := 4) (oi := ?o45) (v := ?v45) ?h45 ?s45 ?f45 ?c45 ?q45 ?y45 hHeld ?r45
        case h45 => (simp only [List.getElem?_toArray, List.getElem?_cons_succ, List.getElem?_cons_zero]; rfl)
        case s45 => kernel_rfl
        case f45 => kernel_rfl
        case c45 => kernel_rfl
        case y45 => (refine Or.inl ⟨by rfl, ?_⟩; intro w hSw; (try dsimp only at hSw); go_simp; (try with_reducible rfl))
        case q45 => exact fun _ _ _ h => h
        try simp only [Act.put, List.setIfInBounds_toArray, List.set_cons_zero, List.set_cons_succ]
        refine wpAnyH_ready (rs := [5]) (by kernel_rfl) (by simp) ?_
        refine AllReadyH.cons rfl (fun K hK => ?_) ?n46
        case n46 => exact AllReadyH.nil
        go_simp
        (go_at_call 33; (with_reducible refine (caFits_w p (a : Int) r _ HF1 h.at_ hk.small Ra ha1 ha2).mono ?_); rintro e w5 ⟨rfl, hb5⟩; replace h := h.go hb5; replace Ba := Ba.up hb5; replace Bx := Bx.up hb5; replace hA := hA.on hb5; replace hA3 := hA3.on hb5; replace Ra := Ra.on hb5; replace Rx := Rx.on hb5; replace U := below_on U hb5; obtain ⟨ce30, ce31, ce32, ce33, ce34, ce35, ce36⟩ := h.cells; have ce37 := Ba.cell 0; have ce38 := Ba.cell 1; have ce39 := Ba.cell 2; have ce40 := Bx.cell 0; have ce41 := Bx.cell 1; have ce42 := Bx.cell 2; obtain ⟨l0, l1, l2⟩ := RowAt.linkAt h.at_.links HLI.out)
        go_wp2_with fail
        refine hK.out _ _ (by go_keep) (fun hHeld => ?_)
        clear hK
        try simp only [Act.put, List.setIfInBounds_toArray, List.set_cons_zero, List.set_cons_succ]
        refine wpAnyH_take (i := 6) (oi := ?o47) (v := ?v47) ?h47 ?s47 ?f47 ?c47 ?q47 ?y47 hHeld ?r47
        case h47 => (simp only [List.getElem?_toArray, List.getElem?_cons_succ, List.getElem?_cons_zero]; rfl)
        case s47 => kernel_rfl
        case f47 => kernel_rfl
        case c47 => kernel_rfl
        case y47 => (refine Or.inl ⟨by rfl, ?_⟩; intro w hSw; (try dsimp only at hSw); go_simp; (try with_reducible rfl))
        case q47 => exact fun _ _ _ h => h
        try simp only [Act.put, List.setIfInBounds_toArray, List.set_cons_zero, List.set_cons_succ]
        refine wpAnyH_take (i := 7) (oi := ?o48) (v := ?v48) ?h48 ?s48 ?f48 ?c48 ?q48 ?y48 hHeld ?r48
        case h48 => (simp only [List.getElem?_toArray, List.getElem?_cons_succ, List.getElem?_cons_zero]; rfl)
        case s48 => kernel_rfl
        case f48 => kernel_rfl
        case c48 => kernel_rfl
        case y48 => (refine Or.inl ⟨by rfl, ?_⟩; intro w hSw; (try dsimp only at hSw); go_simp; (try with_reducible rfl))
        case q48 => exact fun _ _ _ h => h
        try simp only [Act.put, List.setIfInBounds_toArray, List.set_cons_zero, List.set_cons_succ]
        refine wpAnyH_take (i := 8) (oi := ?o49) (v := ?v49) ?h49 ?s49 ?f49 ?c49 ?q49 ?y49 hHeld ?r49
        case h49 => (simp only [List.getElem?_toArray, List.getElem?_cons_succ, List.getElem?_cons_zero]; rfl)
        case s49 => kernel_rfl
        case f49 => kernel_rfl
        case c49 => kernel_rfl
        case y49 => (refine Or.inl ⟨by rfl, ?_⟩; intro w hSw; (try dsimp only at hSw); go_simp; (try with_reducible rfl))
        case q49 => exact fun _ _ _ h => h
        try simp only [Act.put, List.setIfInBounds_toArray, List.set_cons_zero, List.set_cons_succ]
        refine wpAnyH_take (i := 9) (oi := ?o50) (v := ?v50) ?h50 ?s50 ?f50 ?c50 ?q50 ?y50 hHeld ?r50
        case h50 => (simp only [List.getElem?_toArray, List.getElem?_cons_succ, List.getElem?_cons_zero]; rfl)
        case s50 => kernel_rfl
        case f50 => kernel_rfl
        case c50 => kernel_rfl
        case y50 => (refine Or.inl ⟨by rfl, ?_⟩; intro w hSw; (try dsimp only at hSw); go_simp; (try with_reducible rfl))
        case q50 => exact fun _ _ _ h => h
        try simp only [Act.put, List.setIfInBounds_toArray, List.set_cons_zero, List.set_cons_succ]
        refine wpAnyH_take (i := 10) (oi := ?o51) (v := ?v51) ?h51 ?s51 ?f51 ?c51 ?q51 ?y51 hHeld ?r51
        case h51 => (simp only [List.getElem?_toArray, List.getElem?_cons_succ, List.getElem?_cons_zero]; rfl)
        case s51 => kernel_rfl
        case f51 => kernel_rfl
        case c51 => kernel_rfl
        case y51 => (refine Or.inl ⟨by rfl, ?_⟩; intro w hSw; (try dsimp only at hSw); go_simp; (try with_reducible rfl))
        case q51 => exact fun _ _ _ h => h
        try simp only [Act.put, List.setIfInBounds_toArray, List.set_cons_zero, List.set_cons_succ]
        refine wpAnyH_ready (rs := [11]) (by kernel_rfl) (by simp) ?_
        refine AllReadyH.cons rfl (fun K hK => ?_) ?n52
        case n52 => exact AllReadyH.nil
        go_simp
        (go_at_call 33; (with_reducible refine (caFits_w p (b : Int) x _ HF2 h.at_ hk.small Rx hx1 hx2).mono ?_); rintro e w6 ⟨rfl, hb6⟩; replace h := h.go hb6; replace Ba := Ba.up hb6; replace Bx := Bx.up hb6; replace hA := hA.on hb6; replace hA3 := hA3.on hb6; replace Ra := Ra.on hb6; replace Rx := Rx.on hb6; replace U := below_on U hb6; obtain ⟨ce43, ce44, ce45, ce46, ce47, ce48, ce49⟩ := h.cells; have ce50 := Ba.cell 0; have ce51 := Ba.cell 1; have ce52 := Ba.cell 2; have ce53 := Bx.cell 0; have ce54 := Bx.cell 1; have ce55 := Bx.cell 2; obtain ⟨l0, l1, l2⟩ := RowAt.linkAt h.at_.links HLI.out)
        go_wp2_with fail
        refine hK.out _ _ (by go_keep) (fun hHeld => ?_)
        clear hK
        try simp only [Act.put, List.setIfInBounds_toArray, List.set_cons_zero, List.set_cons_succ]
        refine wpAnyH_take (i := 12) (oi := ?o53) (v := ?v53) ?h53 ?s53 ?f53 ?c53 ?q53 ?y53 hHeld ?r53
        case h53 => (simp only [List.getElem?_toArray, List.getElem?_cons_succ, List.getElem?_cons_zero]; rfl)
        case s53 => kernel_rfl
        case f53 => kernel_rfl
        case c53 => kernel_rfl
        case y53 => (refine Or.inl ⟨by rfl, ?_⟩; intro w hSw; (try dsimp only at hSw); go_simp; (try with_reducible rfl))
        case q53 => exact fun _ _ _ h => h
        try simp only [Act.put, List.setIfInBounds_toArray, List.set_cons_zero, List.set_cons_succ]
        refine wpAnyH_take (i := 13) (oi := ?o54) (v := ?v54) ?h54 ?s54 ?f54 ?c54 ?q54 ?y54 hHeld ?r54
        case h54 => (simp only [List.getElem?_toArray, List.getElem?_cons_succ, List.getElem?_cons_zero]; rfl)
        case s54 => kernel_rfl
        case f54 => kernel_rfl
        case c54 => kernel_rfl
        case y54 => (refine Or.inl ⟨by rfl, ?_⟩; intro w hSw; (try dsimp only at hSw); go_simp; (try with_reducible rfl))
        case q54 => exact fun _ _ _ h => h
        try simp only [Act.put, List.setIfInBounds_toArray, List.set_cons_zero, List.set_cons_succ]
        refine wpAnyH_take (i := 14) (oi := ?o55) (v := ?v55) ?h55 ?s55 ?f55 ?c55 ?q55 ?y55 hHeld ?r55
        case h55 => (simp only [List.getElem?_toArray, List.getElem?_cons_succ, List.getElem?_cons_zero]; rfl)
        case s55 => kernel_rfl
        case f55 => kernel_rfl
        case c55 => kernel_rfl
        case y55 => (refine Or.inl ⟨by rfl, ?_⟩; intro w hSw; (try dsimp only at hSw); go_simp; (try with_reducible rfl))
        case q55 => exact fun _ _ _ h => h
        try simp only [Act.put, List.setIfInBounds_toArray, List.set_cons_zero, List.set_cons_succ]
        refine wpAnyH_take (i := 15) (oi := ?o56) (v := ?v56) ?h56 ?s56 ?f56 ?c56 ?q56 ?y56 hHeld ?r56
        case h56 => (simp only [List.getElem?_toArray, List.getElem?_cons_succ, List.getElem?_cons_zero]; rfl)
        case s56 => kernel_rfl
        case f56 => kernel_rfl
        case c56 => kernel_rfl
        case y56 => (refine Or.inl ⟨by rfl, ?_⟩; intro w hSw; (try dsimp only at hSw); go_simp; (try with_reducible rfl))
        case q56 => exact fun _ _ _ h => h
        try simp only [Act.put, List.setIfInBounds_toArray, List.set_cons_zero, List.set_cons_succ]
        refine wpAnyH_take (i := 16) (oi := ?o57) (v := ?v57) ?h57 ?s57 ?f57 ?c57 ?q57 ?y57 hHeld ?r57
        case h57 => (simp only [List.getElem?_toArray, List.getElem?_cons_succ, List.getElem?_cons_zero]; rfl)
        case s57 => kernel_rfl
        case f57 => kernel_rfl
        case c57 => kernel_rfl
        case y57 => (refine Or.inl ⟨by rfl, ?_⟩; intro w hSw; (try dsimp only at hSw); go_simp; (try with_reducible rfl))
        case q57 => exact fun _ _ _ h => h
        try simp only [Act.put, List.setIfInBounds_toArray, List.set_cons_zero, List.set_cons_succ]
        refine wpAnyH_take (i := 17) (oi := ?o58) (v := ?v58) ?h58 ?s58 ?f58 ?c58 ?q58 ?y58 hHeld ?r58
        case h58 => (simp only [List.getElem?_toArray, List.getElem?_cons_succ, List.getElem?_cons_zero]; rfl)
        case s58 => kernel_rfl
        case f58 => kernel_rfl
        case c58 => kernel_rfl
        case y58 => (refine Or.inl ⟨by rfl, ?_⟩; intro w hSw; (try dsimp only at hSw); go_simp; (try with_reducible rfl))
        case q58 => exact fun _ _ _ h => h
        try simp only [Act.put, List.setIfInBounds_toArray, List.set_cons_zero, List.set_cons_succ]
        refine wpAnyH_take (i := 18) (oi := ?o59) (v := undef) ?h59 ?s59 ?f59 ?c59 ?q59 ?y59 hHeld ?r59
        case h59 => (simp only [List.getElem?_toArray, List.getElem?_cons_succ, List.getElem?_cons_zero]; rfl)
        case s59 => kernel_rfl
        case f59 => kernel_rfl
        case c59 => kernel_rfl
        case y59 => exact Or.inr ⟨by rfl, rfl⟩
        case q59 => exact fun _ _ _ h => h
        try simp only [Act.put, List.setIfInBounds_toArray, List.set_cons_zero, List.set_cons_succ]
        refine wpAnyH_take (i := 19) (oi := ?o60) (v := undef) ?h60 ?s60 ?f60 ?c60 ?q60 ?y60 hHeld ?r60
        case h60 => (simp only [List.getElem?_toArray, List.getElem?_cons_succ, List.getElem?_cons_zero]; rfl)
        case s60 => kernel_rfl
        case f60 => kernel_rfl
        case c60 => kernel_rfl
        case y60 => exact Or.inr ⟨by rfl, rfl⟩
        case q60 => exact fun _ _ _ h => h
        try simp only [Act.put, List.setIfInBounds_toArray, List.set_cons_zero, List.set_cons_succ]
        refine wpAnyH_take (i := 20) (oi := ?o61) (v := undef) ?h61 ?s61 ?f61 ?c61 ?q61 ?y61 hHeld ?r61
        case h61 => (simp only [List.getElem?_toArray, List.getElem?_cons_succ, List.getElem?_cons_zero]; rfl)
        case s61 => kernel_rfl
        case f61 => kernel_rfl
        case c61 => kernel_rfl
        case y61 => exact Or.inr ⟨by rfl, rfl⟩
        case q61 => exact fun _ _ _ h => h
        try simp only [Act.put, List.setIfInBounds_toArray, List.set_cons_zero, List.set_cons_succ]
        refine wpAnyH_take (i := 21) (oi := ?o62) (v := undef) ?h62 ?s62 ?f62 ?c62 ?q62 ?y62 hHeld ?r62
        case h62 => (simp only [List.getElem?_toArray, List.getElem?_cons_succ, List.getElem?_cons_zero]; rfl)
        case s62 => kernel_rfl
        case f62 => kernel_rfl
        case c62 => kernel_rfl
        case y62 => exact Or.inr ⟨by rfl, rfl⟩
        case q62 => exact fun _ _ _ h => h
        try simp only [Act.put, List.setIfInBounds_toArray, List.set_cons_zero, List.set_cons_succ]
        refine wpAnyH_take (i := 22) (oi := ?o63) (v := undef) ?h63 ?s63 ?f63 ?c63 ?q63 ?y63 hHeld ?r63
        case h63 => (simp only [List.getElem?_toArray, List.getElem?_cons_succ, List.getElem?_cons_zero]; rfl)
        case s63 => kernel_rfl
        case f63 => kernel_rfl
        case c63 => kernel_rfl
        case y63 => exact Or.inr ⟨by rfl, rfl⟩
        case q63 => exact fun _ _ _ h => h
        try simp only [Act.put, List.setIfInBounds_toArray, List.set_cons_zero, List.set_cons_succ]
        refine wpAnyH_take (i := 23) (oi := ?o64) (v := undef) ?h64 ?s64 ?f64 ?c64 ?q64 ?y64 hHeld ?r64
        case h64 => (simp only [List.getElem?_toArray, List.getElem?_cons_succ, List.getElem?_cons_zero]; rfl)
        case s64 => kernel_rfl
        case f64 => kernel_rfl
        case c64 => kernel_rfl
        case y64 => exact Or.inr ⟨by rfl, rfl⟩
        case q64 => exact fun _ _ _ h => h
        try simp only [Act.put, List.setIfInBounds_toArray, List.set_cons_zero, List.set_cons_succ]
        refine wpAnyH_take (i := 24) (oi := ?o65) (v := undef) ?h65 ?s65 ?f65 ?c65 ?q65 ?y65 hHeld ?r65
        case h65 => (simp only [List.getElem?_toArray, List.getElem?_cons_succ, List.getElem?_cons_zero]; rfl)
        case s65 => kernel_rfl
        case f65 => kernel_rfl
        case c65 => kernel_rfl
        case y65 => exact Or.inr ⟨by rfl, rfl⟩
        case q65 => exact fun _ _ _ h => h
        try simp only [Act.put, List.setIfInBounds_toArray, List.set_cons_zero, List.set_cons_succ]
        refine wpAnyH_take (i := 25) (oi := ?o66) (v := undef) ?h66 ?s66 ?f66 ?c66 ?q66 ?y66 hHeld ?r66
        case h66 => (simp only [List.getElem?_toArray, List.getElem?_cons_succ, List.getElem?_cons_zero]; rfl)
        case s66 => kernel_rfl
        case f66 => kernel_rfl
        case c66 => kernel_rfl
        case y66 => exact Or.inr ⟨by rfl, rfl⟩
        case q66 => exact fun _ _ _ h => h
        try simp only [Act.put, List.setIfInBounds_toArray, List.set_cons_zero, List.set_cons_succ]
        refine wpAnyH_take (i := 26) (oi := ?o67) (v := undef) ?h67 ?s67 ?f67 ?c67 ?q67 ?y67 hHeld ?r67
        case h67 => (simp only [List.getElem?_toArray, List.getElem?_cons_succ, List.getElem?_cons_zero]; rfl)
        case s67 => kernel_rfl
        case f67 => kernel_rfl
        case c67 => kernel_rfl
        case y67 => exact Or.inr ⟨by rfl, rfl⟩
        case q67 => exact fun _ _ _ h => h
        try simp only [Act.put, List.setIfInBounds_toArray, List.set_cons_zero, List.set_cons_succ]
        refine wpAnyH_take (i := 27) (oi := ?o68) (v := undef) ?h68 ?s68 ?f68 ?c68 ?q68 ?y68 hHeld ?r68
        case h68 => (simp only [List.getElem?_toArray, List.getElem?_cons_succ, List.getElem?_cons_zero]; rfl)
        case s68 => kernel_rfl
        case f68 => kernel_rfl
        case c68 => kernel_rfl
        case y68 => exact Or.inr ⟨by rfl, rfl⟩
        case q68 => exact fun _ _ _ h => h
        try simp only [Act.put, List.setIfInBounds_toArray, List.set_cons_zero, List.set_cons_succ]
        refine wpAnyH_take (i := 28) (oi := ?o69) (v := undef) ?h69 ?s69 ?f69 ?c69 ?q69 ?y69 hHeld ?r69
        case h69 => (simp only [List.getElem?_toArray, List.getElem?_cons_succ, List.getElem?_cons_zero]; rfl)
        case s69 => kernel_rfl
        case f69 => kernel_rfl
        case c69 => kernel_rfl
        case y69 => exact Or.inr ⟨by rfl, rfl⟩
        case q69 => exact fun _ _ _ h => h
        try simp only [Act.put, List.setIfInBounds_toArray, List.set_cons_zero, List.set_cons_succ]
        refine wpAnyH_take (i := 29) (oi := ?o70) (v := undef) ?h70 ?s70 ?f70 ?c70 ?q70 ?y70 hHeld ?r70
        case h70 => (simp only [List.getElem?_toArray, List.getElem?_cons_succ, List.getElem?_cons_zero]; rfl)
        case s70 => kernel_rfl
        case f70 => kernel_rfl
        case c70 => kernel_rfl
        case y70 => exact Or.inr ⟨by rfl, rfl⟩
        case q70 => exact fun _ _ _ h => h
        try simp only [Act.put, List.setIfInBounds_toArray, List.set_cons_zero, List.set_cons_succ]
        refine wpAnyH_take (i := 30) (oi := ?o71) (v := undef) ?h71 ?s71 ?f71 ?c71 ?q71 ?y71 hHeld ?r71
        case h71 => (simp only [List.getElem?_toArray, List.getElem?_cons_succ, List.getElem?_cons_zero]; rfl)
        case s71 => kernel_rfl
        case f71 => kernel_rfl
        case c71 => kernel_rfl
        case y71 => exact Or.inr ⟨by rfl, rfl⟩
        case q71 => exact fun _ _ _ h => h
        try simp only [Act.put, List.setIfInBounds_toArray, List.set_cons_zero, List.set_cons_succ]
        refine wpAnyH_take (i := 31) (oi := ?o72) (v := undef) ?h72 ?s72 ?f72 ?c72 ?q72 ?y72 hHeld ?r72
        case h72 => (simp only [List.getElem?_toArray, List.getElem?_cons_succ, List.getElem?_cons_zero]; rfl)
        case s72 => kernel_rfl
        case f72 => kernel_rfl
        case c72 => kernel_rfl
        case y72 => exact Or.inr ⟨by rfl, rfl⟩
        case q72 => exact fun _ _ _ h => h
        try simp only [Act.put, List.setIfInBounds_toArray, List.set_cons_zero, List.set_cons_succ]
        refine wpAnyH_take (i := 32) (oi := ?o73) (v := undef) ?h73 ?s73 ?f73 ?c73 ?q73 ?y73 hHeld ?r73
        case h73 => (simp only [List.getElem?_toArray, List.getElem?_cons_succ, List.getElem?_cons_zero]; rfl)
        case s73 => kernel_rfl
        case f73 => kernel_rfl
        case c73 => kernel_rfl
        case y73 => exact Or.inr ⟨by rfl, rfl⟩
        case q73 => exact fun _ _ _ h => h
        try simp only [Act.put, List.setIfInBounds_toArray, List.set_cons_zero, List.set_cons_succ]
        refine wpAnyH_take (i := 33) (oi := ?o74) (v := undef) ?h74 ?s74 ?f74 ?c74 ?q74 ?y74 hHeld ?r74
        case h74 => (simp only [List.getElem?_toArray, List.getElem?_cons_succ, List.getElem?_cons_zero]; rfl)
        case s74 => kernel_rfl
        case f74 => kernel_rfl
        case c74 => kernel_rfl
        case y74 => exact Or.inr ⟨by rfl, rfl⟩
        case q74 => exact fun _ _ _ h => h
        try simp only [Act.put, List.setIfInBounds_toArray, List.set_cons_zero, List.set_cons_succ]
        refine wpAnyH_take (i := 34) (oi := ?o75) (v := undef) ?h75 ?s75 ?f75 ?c75 ?q75 ?y75 hHeld ?r75
        case h75 => (simp only [List.getElem?_toArray, List.getElem?_cons_succ, List.getElem?_cons_zero]; rfl)
        case s75 => kernel_rfl
        case f75 => kernel_rfl
        case c75 => kernel_rfl
        case y75 => exact Or.inr ⟨by rfl, rfl⟩
        case q75 => exact fun _ _ _ h => h
        try simp only [Act.put, List.setIfInBounds_toArray, List.set_cons_zero, List.set_cons_succ]
        refine wpAnyH_take (i := 35) (oi := ?o76) (v := undef) ?h76 ?s76 ?f76 ?c76 ?q76 ?y76 hHeld ?r76
        case h76 => (simp only [List.getElem?_toArray, List.getElem?_cons_succ, List.getElem?_cons_zero]; rfl)
        case s76 => kernel_rfl
        case f76 => kernel_rfl
        case c76 => kernel_rfl
        case y76 => exact Or.inr ⟨by rfl, rfl⟩
        case q76 => exact fun _ _ _ h => h
        try simp only [Act.put, List.setIfInBounds_toArray, List.set_cons_zero, List.set_cons_succ]
        refine wpAnyH_take (i := 36) (oi := ?o77) (v := undef) ?h77 ?s77 ?f77 ?c77 ?q77 ?y77 hHeld ?r77
        case h77 => (simp only [List.getElem?_toArray, List.getElem?_cons_succ, List.getElem?_cons_zero]; rfl)
        case s77 => kernel_rfl
        case f77 => kernel_rfl
        case c77 => kernel_rfl
        case y77 => exact Or.inr ⟨by rfl, rfl⟩
        case q77 => exact fun _ _ _ h => h
        try simp only [Act.put, List.setIfInBounds_toArray, List.set_cons_zero, List.set_cons_succ]
        refine wpAnyH_take (i := 37) (oi := ?o78) (v := ?v78) ?h78 ?s78 ?f78 ?c78 ?q78 ?y78 hHeld ?r78
        case h78 => (simp only [List.getElem?_toArray, List.getElem?_cons_succ, List.getElem?_cons_zero]; rfl)
        case s78 => kernel_rfl
        case f78 => kernel_rfl
        case c78 => kernel_rfl
        case y78 => (refine Or.inl ⟨by rfl, ?_⟩; intro w hSw; (try dsimp only at hSw); go_simp; (try with_reducible rfl))
        case q78 => exact fun _ _ _ h => h
        try simp only [Act.put, List.setIfInBounds_toArray, List.set_cons_zero, List.set_cons_succ]
        refine wpAnyH_take (i := 38) (oi := ?o79) (v := ?v79) ?h79 ?s79 ?f79 ?c79 ?q79 ?y79 hHeld ?r79
        case h79 => (simp only [List.getElem?_toArray, List.getElem?_cons_succ, List.getElem?_cons_zero]; rfl)
        case s79 => kernel_rfl
        case f79 => kernel_rfl
        case c79 => kernel_rfl
        case y79 => (refine Or.inl ⟨by rfl, ?_⟩; intro w hSw; (try dsimp only at hSw); go_simp; (try with_reducible rfl))
        case q79 => exact fun _ _ _ h => h
        try simp only [Act.put, List.setIfInBounds_toArray, List.set_cons_zero, List.set_cons_succ]
        refine wpAnyH_take (i := 39) (oi := ?o80) (v := ?v80) ?h80 ?s80 ?f80 ?c80 ?q80 ?y80 hHeld ?r80
        case h80 => (simp only [List.getElem?_toArray, List.getElem?_cons_succ, List.getElem?_cons_zero]; rfl)
        case s80 => kernel_rfl
        case f80 => kernel_rfl
        case c80 => kernel_rfl
        case y80 => (refine Or.inl ⟨by rfl, ?_⟩; intro w hSw; (try dsimp only at hSw); go_simp; (try with_reducible rfl))
        case q80 => exact fun _ _ _ h => h
        try simp only [Act.put, List.setIfInBounds_toArray, List.set_cons_zero, List.set_cons_succ]
        refine wpAnyH_done (by kernel_rfl) ?_ _
        repeat go_step
        go_wp2_with fail
        go_ret
        exact ⟨rfl, U⟩
      · have tx : (x.kind == 0) = false := by simp [ex]
        obtain ⟨k1, k2, k3⟩ := key ex
        rw [if_neg (by omega)] at k2
        have tk : (x.kind == r.kind) = true := by simp [k1]
        have HLX : Hid (rtLen x = IntKind.i64.wrap (lr + 1)) := Lib.hid (by rw [k2, IntKind.wrap_i64]; omega)
        have HBT := Lib.hid k3
        clear key hp ex k1 k3 k2
        go_enter Try.func5, Try.ntmps5
        go_upto_region 15 with (first
          | (go_at_call 26; (with_reducible refine (awake7_any _).mono ?_); rintro e w1 ⟨rfl, hb1⟩; replace hA := hA.on hb1; replace hA3 := hA3.on hb1; replace U := below_on U hb1)
          | (go_at_call 12; refine (Net_at p l HP A n c HLEN.out HM.out hm hc hcm _ hA).mono ?_; rintro e w2 ⟨An, cn, Al, cl, Ad, cd, Ac, cc, rfl, ho, hb2⟩; have h := PBox.new U hb2 ho; replace hA := hA.on hb2; replace hA3 := hA3.on hb2; replace U := below_on U hb2; have hn2 := below_new w2 (.cells #[.int .i64 p.proto, .int .i64 p.cap, .int .i64 p.k, .slice An p.nodes.length cn, .slice Al p.links.length cl, .slice Ad p.dests.length cd, .slice Ac p.checks.length cc] 29); replace hA := hA.on hn2; replace hA3 := hA3.on hn2; replace U := below_on U hn2; obtain ⟨gL, hgL, _, l0, l1, l2⟩ := h.at_.links.link HLI.out; subst hgL; obtain ⟨ce0, ce1, ce2, ce3, ce4, ce5, ce6⟩ := h.cells; obtain ⟨l0, l1, l2⟩ := RowAt.linkAt h.at_.links HLI.out)
          | (go_at_call 27; (with_reducible refine (pick7_is x0 _ (i : Int) hx0 (by omega) (by omega) HX _).mono ?_); rintro e wp ⟨rfl, rfl⟩)
          | (go_at_call 36; (with_reducible refine (held_is p a nf HNF hcap l3 r HRA HW3 n3 HN3 hm3 h.at_ hk.small hA3).mono ?_); rintro e w3 ⟨Aa, ca, rfl, Ra, ha1, ha2, hb3⟩; replace h := h.go hb3; replace hA := hA.on hb3; replace hA3 := hA3.on hb3; replace U := below_on U hb3; have hn3 := below_new w3 (.cells #[.int .i64 r.kind, .int .i64 r.cost, .slice Aa r.path.length ca] 42); replace h := h.go hn3; replace hA := hA.on hn3; replace hA3 := hA3.on hn3; replace Ra := Ra.on hn3; replace U := below_on U hn3; have Ba := Blk.new w3 42 #[.int .i64 r.kind, .int .i64 r.cost, .slice Aa r.path.length ca]; obtain ⟨ce7, ce8, ce9, ce10, ce11, ce12, ce13⟩ := h.cells; have ce14 := Ba.cell 0; have ce15 := Ba.cell 1; have ce16 := Ba.cell 2; obtain ⟨l0, l1, l2⟩ := RowAt.linkAt h.at_.links HLI.out)
          | (go_at_call 32; (with_reducible refine (caOver_w p (i : Int) (b : Int) r x HX2 h.at_ hk.small Ra ha1 ha2).mono ?_); rintro e w4 ⟨Ax, cx, rfl, Rx, hx1, hx2, hb4⟩; replace h := h.go hb4; replace Ba := Ba.up hb4; replace hA := hA.on hb4; replace hA3 := hA3.on hb4; replace Ra := Ra.on hb4; replace U := below_on U hb4; have hn4 := below_new w4 (.cells #[.int .i64 x.kind, .int .i64 x.cost, .slice Ax x.path.length cx] 42); replace h := h.go hn4; replace Ba := Ba.up hn4; replace hA := hA.on hn4; replace hA3 := hA3.on hn4; replace Ra := Ra.on hn4; replace Rx := Rx.on hn4; replace U := below_on U hn4; have Bx := Blk.new w4 42 #[.int .i64 x.kind, .int .i64 x.cost, .slice Ax x.path.length cx]; obtain ⟨ce17, ce18, ce19, ce20, ce21, ce22, ce23⟩ := h.cells; have ce24 := Ba.cell 0; have ce25 := Ba.cell 1; have ce26 := Ba.cell 2; have ce27 := Bx.cell 0; have ce28 := Bx.cell 1; have ce29 := Bx.cell 2; obtain ⟨l0, l1, l2⟩ := RowAt.linkAt h.at_.links HLI.out))
        have hdr : Below (w4.alloc (.cells #[.int .i64 x.kind, .int .i64 x.cost, .slice Ax x.path.length cx] 42)).heap.size (w4.alloc (.cells #[.int .i64 x.kind, .int .i64 x.cost, .slice Ax x.path.length cx] 42)) (w4.alloc (.cells #[.int .i64 x.kind, .int .i64 x.cost, .slice Ax x.path.length cx] 42)).drew := (Below.refl _ _).drew
        replace h := h.go hdr
        replace Ba := Ba.up hdr
        replace Bx := Bx.up hdr
        replace hA := hA.on hdr
        replace hA3 := hA3.on hdr
        replace Ra := Ra.on hdr
        replace Rx := Rx.on hdr
        replace U := below_on U hdr
        go_region_held3 (fun w' => (w'.cell? ⟨w2.heap.size, 0, none⟩ = some (.int .i64 p.proto) ∧ w'.cell? ⟨w2.heap.size, 1, none⟩ = some (.int .i64 p.cap) ∧ w'.cell? ⟨w2.heap.size, 2, none⟩ = some (.int .i64 p.k) ∧ w'.cell? ⟨w2.heap.size, 3, none⟩ = some (.slice An p.nodes.length cn) ∧ w'.cell? ⟨w2.heap.size, 4, none⟩ = some (.slice (some ⟨gL, 0, none⟩) p.links.length cl) ∧ w'.cell? ⟨w2.heap.size, 5, none⟩ = some (.slice Ad p.dests.length cd) ∧ w'.cell? ⟨w2.heap.size, 6, none⟩ = some (.slice Ac p.checks.length cc)) ∧ (w'.cell? ⟨w3.heap.size, 0, none⟩ = some (.int .i64 r.kind) ∧ w'.cell? ⟨w3.heap.size, 1, none⟩ = some (.int .i64 r.cost) ∧ w'.cell? ⟨w3.heap.size, 2, none⟩ = some (.slice Aa r.path.length ca)) ∧ (w'.cell? ⟨w4.heap.size, 0, none⟩ = some (.int .i64 x.kind) ∧ w'.cell? ⟨w4.heap.size, 1, none⟩ = some (.int .i64 x.cost) ∧ w'.cell? ⟨w4.heap.size, 2, none⟩ = some (.slice Ax x.path.length cx))) (go_keep) (first
          | (go_at_call 33; (with_reducible refine (caFits_w p (a : Int) r _ HF1 h.at_ hk.small Ra ha1 ha2).mono ?_); rintro e w5 ⟨rfl, hb5⟩; replace h := h.go hb5; replace Ba := Ba.up hb5; replace Bx := Bx.up hb5; replace hA := hA.on hb5; replace hA3 := hA3.on hb5; replace Ra := Ra.on hb5; replace Rx := Rx.on hb5; replace U := below_on U hb5; obtain ⟨ce30, ce31, ce32, ce33, ce34, ce35, ce36⟩ := h.cells; have ce37 := Ba.cell 0; have ce38 := Ba.cell 1; have ce39 := Ba.cell 2; have ce40 := Bx.cell 0; have ce41 := Bx.cell 1; have ce42 := Bx.cell 2; obtain ⟨l0, l1, l2⟩ := RowAt.linkAt h.at_.links HLI.out)
          | (go_at_call 33; (with_reducible refine (caFits_w p (b : Int) x _ HF2 h.at_ hk.small Rx hx1 hx2).mono ?_); rintro e w6 ⟨rfl, hb6⟩; replace h := h.go hb6; replace Ba := Ba.up hb6; replace Bx := Bx.up hb6; replace hA := hA.on hb6; replace hA3 := hA3.on hb6; replace Ra := Ra.on hb6; replace Rx := Rx.on hb6; replace U := below_on U hb6; obtain ⟨ce43, ce44, ce45, ce46, ce47, ce48, ce49⟩ := h.cells; have ce50 := Ba.cell 0; have ce51 := Ba.cell 1; have ce52 := Ba.cell 2; have ce53 := Bx.cell 0; have ce54 := Bx.cell 1; have ce55 := Bx.cell 2; obtain ⟨l0, l1, l2⟩ := RowAt.linkAt h.at_.links HLI.out)
          | (go_at_call 37; (with_reducible refine (atLength_is x (IntKind.i64.wrap (lr + 1)) HLX cx rfl).mono ?_); rintro e w7 ⟨rfl, hb7⟩; replace h := h.go hb7; replace Ba := Ba.up hb7; replace Bx := Bx.up hb7; replace hA := hA.on hb7; replace hA3 := hA3.on hb7; replace Ra := Ra.on hb7; replace Rx := Rx.on hb7; replace U := below_on U hb7; obtain ⟨ce56, ce57, ce58, ce59, ce60, ce61, ce62⟩ := h.cells; have ce63 := Ba.cell 0; have ce64 := Ba.cell 1; have ce65 := Ba.cell 2; have ce66 := Bx.cell 0; have ce67 := Bx.cell 1; have ce68 := Bx.cell 2; obtain ⟨l0, l1, l2⟩ := RowAt.linkAt h.at_.links HLI.out)
          | (go_at_call 37; (with_reducible refine (atLength_is r lr HLR ca rfl).mono ?_); rintro e w8 ⟨rfl, hb8⟩; replace h := h.go hb8; replace Ba := Ba.up hb8; replace Bx := Bx.up hb8; replace hA := hA.on hb8; replace hA3 := hA3.on hb8; replace Ra := Ra.on hb8; replace Rx := Rx.on hb8; replace U := below_on U hb8; obtain ⟨ce69, ce70, ce71, ce72, ce73, ce74, ce75⟩ := h.cells; have ce76 := Ba.cell 0; have ce77 := Ba.cell 1; have ce78 := Ba.cell 2; have ce79 := Bx.cell 0; have ce80 := Bx.cell 1; have ce81 := Bx.cell 2; obtain ⟨l0, l1, l2⟩ := RowAt.linkAt h.at_.links HLI.out)
          | (go_at_call 38; (with_reducible refine (atBetter_is r x _ HBT Ra Rx).mono ?_); rintro e w9 ⟨rfl, hb9⟩; replace h := h.go hb9; replace Ba := Ba.up hb9; replace Bx := Bx.up hb9; replace hA := hA.on hb9; replace hA3 := hA3.on hb9; replace Ra := Ra.on hb9; replace Rx := Rx.on hb9; replace U := below_on U hb9; obtain ⟨ce82, ce83, ce84, ce85, ce86, ce87, ce88⟩ := h.cells; have ce89 := Ba.cell 0; have ce90 := Ba.cell 1; have ce91 := Ba.cell 2; have ce92 := Bx.cell 0; have ce93 := Bx.cell 1; have ce94 := Bx.cell 2; obtain ⟨l0, l1, l2⟩ := RowAt.linkAt h.at_.links HLI.out))
        go_step
        go_wp2_with fail
        go_ret
        exact ⟨rfl, U⟩
end Go.Proofs.Ytdmilbfdiebjgaa
