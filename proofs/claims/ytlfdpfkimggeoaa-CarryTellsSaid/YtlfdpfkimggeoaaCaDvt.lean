/-
  Package carry: Over, vec true.
-/
import Derived.Deep.DeepCutAuto
import Derived.Test.YtlfdpfkimggeoaaCaD
namespace Go.Proofs.Ytlfdpfkimggeoaa
open Go.RowKit
set_option linter.unusedVariables false
set_option linter.unusedSimpArgs false

set_option maxHeartbeats 8000000 in
set_option maxRecDepth 100000 in
theorem caOver_vec_true (p : PPlan) (i j x : Nat) (l : PLink) (nd nx : PNode) (r : Rt) {An Al Ad Ac A : Option Addr} {cn cl cd cc n c : Nat} {w : World} (HLI : Hid (p.links[i]? = some l)) (HND : Hid (p.nodes[j]? = some nd)) (HNX : Hid (p.nodes[x]? = some nx)) (HV : Hid (oiB p (i : Int) (x : Int) = (j : Int))) (HF : Hid (fitB p nd.num r = true)) (t0 : (r.kind == 0) = false) (HP : Hid (¬ p.proto = 2)) (hrc0 : 0 ≤ r.cost) (hrc1 : r.cost ≤ 15) (hc0 : 1 ≤ l.cost) (hc1 : l.cost ≤ 15) (HF2 : Hid (fitB p nx.num ⟨1, r.cost + l.cost, []⟩ = true)) (h : PAt w p p.proto p.cap p.k An p.nodes.length Al p.links.length Ad p.dests.length Ac p.checks.length) (hs : PSmall p) (hr : RtAt w r A n) (hl : n ≤ c) (hc : c ≤ 9223372036854775807) :
    Calls Try.prog 27 #[.agg #[.int .i64 p.proto, .int .i64 p.cap, .int .i64 p.k, .slice An p.nodes.length cn, .slice Al p.links.length cl, .slice Ad p.dests.length cd, .slice Ac p.checks.length cc], .int .i64 (i : Int), .int .i64 (x : Int), .agg #[.int .i64 r.kind, .int .i64 r.cost, .slice A n c]] w (RtOut (⟨1, r.cost + l.cost, []⟩ : Rt) w) := by
  have E0 := OV.new (c := c) (cn := cn) (cl := cl) (cd := cd) (cc := cc) h hr
  obtain ⟨gN, hgN, _⟩ := h.nodes.node HND.out
  obtain ⟨gL, hgL, _⟩ := h.links.link HLI.out
  subst hgN hgL
  obtain ⟨⟨a0, a1, a2, a3, a4, a5, a6⟩, b0, b1, b2⟩ := E0.pr.cells; obtain ⟨⟨x0, x1, x2⟩, f0, f1, f2⟩ := E0.rcells
  have hjl : (j : Int) < (p.nodes.length : Int) := by have := (List.getElem?_eq_some_iff.1 HND.out).1; omega
  have hil : (i : Int) < (p.links.length : Int) := by have := (List.getElem?_eq_some_iff.1 HLI.out).1; omega
  have j0 : (0 : Int) ≤ (j : Int) := by omega
  have i0 : (0 : Int) ≤ (i : Int) := by omega
  have h0 : ¬ (j : Int) < 0 := by omega
  have hn63 : p.nodes.length ≤ 9223372036854775807 := by have := hs.ln; omega
  have hl63 : p.links.length ≤ 9223372036854775807 := by have := hs.ll; omega
  clear h hr
  have m1 : ∀ (k : Nat) (w : World), (method (k + 1) 95 (.agg #[]) "backstay/carry.over").run Try.prog w = .ok (111, .agg #[]) w := fun _ _ => by kernel_rfl
  have m2 : ∀ (k : Nat) (w : World), (nilAhead (k + 1) 95 (.agg #[]) "backstay/carry.over").run Try.prog w = .ok (some false) w := fun _ _ => by kernel_rfl
  go_enter Try.func27, Try.ntmps27
  go_upto_region 4 with (first
    | (go_at_call 13; (with_reducible refine (Other_w _ _ _ HV hs E0.pr.pat).mono ?_); rintro e y1 ⟨rfl, hy1⟩; have E1 := E0.go hy1; obtain ⟨⟨a0, a1, a2, a3, a4, a5, a6⟩, b0, b1, b2⟩ := E1.pr.cells; obtain ⟨⟨x0, x1, x2⟩, f0, f1, f2⟩ := E1.rcells)
    | (go_at_call 49; (with_reducible refine (caFits_any p j nd HND.out r E1.pr.pat hs E1.pr.rat hl hc).mono ?_); rintro e y2 ⟨rfl, hy2⟩; have E2 := E1.go hy2; rw [HF.out]; obtain ⟨⟨a0, a1, a2, a3, a4, a5, a6⟩, b0, b1, b2⟩ := E2.pr.cells; obtain ⟨⟨x0, x1, x2⟩, f0, f1, f2⟩ := E2.rcells; obtain ⟨n0, n1⟩ := RowAt.nodeAt E2.pr.pat.nodes HND.out; obtain ⟨l0, l1, l2⟩ := RowAt.linkAt E2.pr.pat.links HLI.out))
  have E3 := E2.drew
  go_region_held3 (fun w' => (w'.cell? ⟨w.heap.size, 0, none⟩ = some (.int .i64 p.proto) ∧ w'.cell? ⟨w.heap.size, 1, none⟩ = some (.int .i64 p.cap) ∧ w'.cell? ⟨w.heap.size, 2, none⟩ = some (.int .i64 p.k) ∧ w'.cell? ⟨w.heap.size, 3, none⟩ = some (.slice (some ⟨gN, 0, none⟩) p.nodes.length cn) ∧ w'.cell? ⟨w.heap.size, 4, none⟩ = some (.slice (some ⟨gL, 0, none⟩) p.links.length cl) ∧ w'.cell? ⟨w.heap.size, 5, none⟩ = some (.slice Ad p.dests.length cd) ∧ w'.cell? ⟨w.heap.size, 6, none⟩ = some (.slice Ac p.checks.length cc)) ∧ (w'.cell? ⟨w.heap.size + 1, 0, none⟩ = some (.int .i64 r.kind) ∧ w'.cell? ⟨w.heap.size + 1, 1, none⟩ = some (.int .i64 r.cost) ∧ w'.cell? ⟨w.heap.size + 1, 2, none⟩ = some (.slice A n c)) ∧ (w'.cell? ⟨gN, j * 2, none⟩ = some (.string nd.name) ∧ w'.cell? ⟨gN, j * 2 + 1, none⟩ = some (.int .i64 nd.num)) ∧ w'.cell? ⟨gL, i * 3, none⟩ = some (.int .i64 l.a) ∧ w'.cell? ⟨gL, i * 3 + 1, none⟩ = some (.int .i64 l.b) ∧ w'.cell? ⟨gL, i * 3 + 2, none⟩ = some (.int .i64 l.cost)) (go_keep) (first
    | (go_at_call 46; (with_reducible refine (protocolOf_vec HP.out _).mono ?_); rintro e y3 ⟨rfl, hy3⟩; have E4 := E3.go hy3; obtain ⟨⟨a0, a1, a2, a3, a4, a5, a6⟩, b0, b1, b2⟩ := E4.pr.cells; obtain ⟨⟨x0, x1, x2⟩, f0, f1, f2⟩ := E4.rcells; obtain ⟨n0, n1⟩ := RowAt.nodeAt E4.pr.pat.nodes HND.out; obtain ⟨l0, l1, l2⟩ := RowAt.linkAt E4.pr.pat.links HLI.out)
    | (go_at_call 46; (with_reducible refine (protocolOf_vec HP.out _).mono ?_); rintro e y3 ⟨rfl, hy3⟩; have E4c := (E3.alloc (.cells #[.int .i64 0, .int .i64 0, .slice Option.none 0 0] 42)).go hy3; have KT4 : Blk y3 y2.heap.size 42 #[.int .i64 0, .int .i64 0, .slice Option.none 0 0] := (Blk.new y2.drew 42 #[.int .i64 0, .int .i64 0, .slice Option.none 0 0]).up hy3; obtain ⟨⟨a0, a1, a2, a3, a4, a5, a6⟩, b0, b1, b2⟩ := E4c.pr.cells; obtain ⟨⟨x0, x1, x2⟩, f0, f1, f2⟩ := E4c.rcells; obtain ⟨n0, n1⟩ := RowAt.nodeAt E4c.pr.pat.nodes HND.out; obtain ⟨l0, l1, l2⟩ := RowAt.linkAt E4c.pr.pat.links HLI.out)
    | (go_at_call 111; (with_reducible refine (vec_over l nd r _ hrc0 hrc1 (by omega) (by omega)).mono ?_); rintro e y4 ⟨rfl, hy4⟩; have E5 := E4.go hy4; obtain ⟨⟨a0, a1, a2, a3, a4, a5, a6⟩, b0, b1, b2⟩ := E5.pr.cells; obtain ⟨⟨x0, x1, x2⟩, f0, f1, f2⟩ := E5.rcells; obtain ⟨n0, n1⟩ := RowAt.nodeAt E5.pr.pat.nodes HND.out; obtain ⟨l0, l1, l2⟩ := RowAt.linkAt E5.pr.pat.links HLI.out; have E6 := E5.alloc (.cells #[.int .i64 1, .int .i64 (r.cost + l.cost), .slice Option.none 0 0] 42); have KT := Blk.new y4 42 #[.int .i64 1, .int .i64 (r.cost + l.cost), .slice Option.none 0 0]; obtain ⟨W6, hW6⟩ : ∃ W6, W6 = y4.alloc (.cells #[.int .i64 1, .int .i64 (r.cost + l.cost), .slice Option.none 0 0] 42) := ⟨_, rfl⟩; replace hW6 := Lib.hid hW6; obtain ⟨gt, hgt⟩ : ∃ gt, y4.heap.size = gt := ⟨_, rfl⟩; replace hgt := Lib.hid hgt)
    | (go_at_call 111; (with_reducible refine (vec_over l nd r _ hrc0 hrc1 (by omega) (by omega)).mono ?_); rintro e y4 ⟨rfl, hy4⟩; have E5 := (E4.alloc (.cells #[.int .i64 0, .int .i64 0, .slice Option.none 0 0] 42)).go hy4; have KT5 := (Blk.new y3 42 #[.int .i64 0, .int .i64 0, .slice Option.none 0 0]).up hy4; have d0 := KT5.cell 0; have d1 := KT5.cell 1; have d2 := KT5.cell 2; have e0 := KT5.frozen 0; have e1 := KT5.frozen 1; have e2 := KT5.frozen 2; obtain ⟨⟨a0, a1, a2, a3, a4, a5, a6⟩, b0, b1, b2⟩ := E5.pr.cells; obtain ⟨⟨x0, x1, x2⟩, f0, f1, f2⟩ := E5.rcells; obtain ⟨n0, n1⟩ := RowAt.nodeAt E5.pr.pat.nodes HND.out; obtain ⟨l0, l1, l2⟩ := RowAt.linkAt E5.pr.pat.links HLI.out; have hb34 := (below_new y3 (.cells #[.int .i64 0, .int .i64 0, .slice Option.none 0 0] 42)).trans (hy4.mono (below_new y3 (.cells #[.int .i64 0, .int .i64 0, .slice Option.none 0 0] 42)).size); have KT := resC KT5 (.int .i64 1) (.int .i64 (r.cost + l.cost)) (.slice Option.none 0 0); have E6 := E4.go (below_res (g := y3.heap.size) hb34 (Nat.le_refl _) (.int .i64 1) (.int .i64 (r.cost + l.cost)) (.slice Option.none 0 0)); obtain ⟨⟨a0, a1, a2, a3, a4, a5, a6⟩, b0, b1, b2⟩ := E6.pr.cells; obtain ⟨⟨x0, x1, x2⟩, f0, f1, f2⟩ := E6.rcells; obtain ⟨n0, n1⟩ := RowAt.nodeAt E6.pr.pat.nodes HND.out; obtain ⟨l0, l1, l2⟩ := RowAt.linkAt E6.pr.pat.links HLI.out; obtain ⟨W6, hW6⟩ : ∃ W6, W6 = ((y4.setCell ⟨y3.heap.size, 0, none⟩ (.int .i64 1)).setCell ⟨y3.heap.size, 1, none⟩ (.int .i64 (r.cost + l.cost))).setCell ⟨y3.heap.size, 2, none⟩ (.slice Option.none 0 0) := ⟨_, rfl⟩; replace hW6 := Lib.hid hW6; obtain ⟨gt, hgt⟩ : ∃ gt, y3.heap.size = gt := ⟨_, rfl⟩; replace hgt := Lib.hid hgt)
    | (go_at_call 111; (with_reducible refine (vec_over l nd r _ hrc0 hrc1 (by omega) (by omega)).mono ?_); rintro e y4 ⟨rfl, hy4⟩; have E5 := E4c.go hy4; have KT5 := KT4.up hy4; have d0 := KT5.cell 0; have d1 := KT5.cell 1; have d2 := KT5.cell 2; have e0 := KT5.frozen 0; have e1 := KT5.frozen 1; have e2 := KT5.frozen 2; obtain ⟨⟨a0, a1, a2, a3, a4, a5, a6⟩, b0, b1, b2⟩ := E5.pr.cells; obtain ⟨⟨x0, x1, x2⟩, f0, f1, f2⟩ := E5.rcells; obtain ⟨n0, n1⟩ := RowAt.nodeAt E5.pr.pat.nodes HND.out; obtain ⟨l0, l1, l2⟩ := RowAt.linkAt E5.pr.pat.links HLI.out; have hb33 := (below_new y2.drew (.cells #[.int .i64 0, .int .i64 0, .slice Option.none 0 0] 42)).trans (hy3.mono (below_new y2.drew (.cells #[.int .i64 0, .int .i64 0, .slice Option.none 0 0] 42)).size); have hb34 := hb33.trans (hy4.mono hb33.size); have KT := resC KT5 (.int .i64 1) (.int .i64 (r.cost + l.cost)) (.slice Option.none 0 0); have E6 := E3.go (below_res (g := y2.heap.size) hb34 (Nat.le_refl _) (.int .i64 1) (.int .i64 (r.cost + l.cost)) (.slice Option.none 0 0)); obtain ⟨⟨a0, a1, a2, a3, a4, a5, a6⟩, b0, b1, b2⟩ := E6.pr.cells; obtain ⟨⟨x0, x1, x2⟩, f0, f1, f2⟩ := E6.rcells; obtain ⟨n0, n1⟩ := RowAt.nodeAt E6.pr.pat.nodes HND.out; obtain ⟨l0, l1, l2⟩ := RowAt.linkAt E6.pr.pat.links HLI.out; obtain ⟨W6, hW6⟩ : ∃ W6, W6 = ((y4.setCell ⟨y2.heap.size, 0, none⟩ (.int .i64 1)).setCell ⟨y2.heap.size, 1, none⟩ (.int .i64 (r.cost + l.cost))).setCell ⟨y2.heap.size, 2, none⟩ (.slice Option.none 0 0) := ⟨_, rfl⟩; replace hW6 := Lib.hid hW6; obtain ⟨gt, hgt⟩ : ∃ gt, y2.heap.size = gt := ⟨_, rfl⟩; replace hgt := Lib.hid hgt))
  all_goals
    go_step
    rw [← hW6.out] at KT E6 ⊢
    rw [hgt.out] at KT ⊢
    clear hW6 hgt
    obtain ⟨⟨a0, a1, a2, a3, a4, a5, a6⟩, b0, b1, b2⟩ := E6.pr.cells; obtain ⟨⟨x0, x1, x2⟩, f0, f1, f2⟩ := E6.rcells
    have k0 := KT.cell 0
    have k1 := KT.cell 1
    have k2 := KT.cell 2
    have ht6 : RtAt W6 ⟨1, r.cost + l.cost, []⟩ none 0 := ⟨rfl, CellsAt.nil _ _ _, by omega⟩
    go_wp2_with (go_at_call 49; (with_reducible refine (caFits_any p x nx HNX.out ⟨1, r.cost + l.cost, []⟩ E6.pr.pat hs ht6 (Nat.le_refl _) (by omega)).mono ?_); rintro e y5 ⟨rfl, hy5⟩; have E7 := E6.go hy5; rw [HF2.out]; have KT7 := KT.up hy5; have k0 := KT7.cell 0; have k1 := KT7.cell 1; have k2 := KT7.cell 2; obtain ⟨⟨a0, a1, a2, a3, a4, a5, a6⟩, b0, b1, b2⟩ := E7.pr.cells; obtain ⟨⟨x0, x1, x2⟩, f0, f1, f2⟩ := E7.rcells)
    have kf := resC E7.res (.int .i64 1) (.int .i64 (r.cost + l.cost)) (.slice Option.none 0 0)
    have hbf := below_res (g := w.heap.size + 1 + 1) E7.up (by omega) (.int .i64 1) (.int .i64 (r.cost + l.cost)) (.slice Option.none 0 0)
    have z0 := kf.cell 0
    have z1 := kf.cell 1
    have z2 := kf.cell 2
    obtain ⟨W4, hW4⟩ : ∃ W4, W4 = ((y5.setCell ⟨w.heap.size + 1 + 1, 0, none⟩ (.int .i64 1)).setCell ⟨w.heap.size + 1 + 1, 1, none⟩ (.int .i64 (r.cost + l.cost))).setCell ⟨w.heap.size + 1 + 1, 2, none⟩ (.slice Option.none 0 0) := ⟨_, rfl⟩
    rw [← hW4] at z0 z1 z2 hbf ⊢
    clear hW4 kf x0 x1 x2 f0 f1 f2
    refine bodyPost_ret (v := .agg #[.int .i64 1, .int .i64 (r.cost + l.cost), .slice Option.none 0 0]) (by first | (simp [results, Try.results27, go_sem] at z0 z1 z2 ⊢; simp [z0, z1, z2]; done) | (simp [results, Try.results27, go_sem, z0, z1, z2]; done)) rfl ?_
    exact RtOut.flat rfl hbf
end Go.Proofs.Ytlfdpfkimggeoaa
