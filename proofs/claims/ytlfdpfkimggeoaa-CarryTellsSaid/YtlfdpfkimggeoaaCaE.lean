/-
  Package carry: Over, whole.
-/
import Derived.Test.YtlfdpfkimggeoaaCaDpf
import Derived.Test.YtlfdpfkimggeoaaCaDpt
import Derived.Test.YtlfdpfkimggeoaaCaDvf
import Derived.Test.YtlfdpfkimggeoaaCaDvt
namespace Go.Proofs.Ytlfdpfkimggeoaa
open Go.RowKit
set_option linter.unusedVariables false
set_option linter.unusedSimpArgs false

set_option maxHeartbeats 8000000 in
set_option maxRecDepth 100000 in
theorem caOver_w (p : PPlan) (link node : Int) (r ro : Rt) (HB : Hid (overB p link node r = ro)) {An Al Ad Ac A : Option Addr} {cn cl cd cc n c : Nat} {w : World} (h : PAt w p p.proto p.cap p.k An p.nodes.length Al p.links.length Ad p.dests.length Ac p.checks.length) (hs : PSmall p) (hr : RtAt w r A n) (hl : n ≤ c) (hc : c ≤ 9223372036854775807) :
    Calls Try.prog 27 #[.agg #[.int .i64 p.proto, .int .i64 p.cap, .int .i64 p.k, .slice An p.nodes.length cn, .slice Al p.links.length cl, .slice Ad p.dests.length cd, .slice Ac p.checks.length cc], .int .i64 link, .int .i64 node, .agg #[.int .i64 r.kind, .int .i64 r.cost, .slice A n c]] w (RtOut ro w) := by
  have hb := HB.out
  unfold overB at hb
  have E0 := OV.new (c := c) (cn := cn) (cl := cl) (cd := cd) (cc := cc) h hr
  obtain ⟨⟨a0, a1, a2, a3, a4, a5, a6⟩, b0, b1, b2⟩ := E0.pr.cells; obtain ⟨⟨x0, x1, x2⟩, f0, f1, f2⟩ := E0.rcells
  obtain ⟨v, hv⟩ : ∃ v, oiB p link node = v := ⟨_, rfl⟩
  have HV := Lib.hid hv
  rw [hv] at hb
  have hrn := hr.1
  by_cases h0 : v < 0
  · have HN : Hid (Rt.none = ro) := Lib.hid (by rw [← hb, if_pos (.inl h0)])
    clear hb hv h hr hrn
    go_enter Try.func27, Try.ntmps27
    go_wp2_with (first
      | (go_at_call 13; (with_reducible refine (Other_w _ _ _ HV hs E0.pr.pat).mono ?_); rintro e y1 ⟨rfl, hy1⟩; have E1 := E0.go hy1; obtain ⟨⟨a0, a1, a2, a3, a4, a5, a6⟩, b0, b1, b2⟩ := E1.pr.cells; obtain ⟨⟨x0, x1, x2⟩, f0, f1, f2⟩ := E1.rcells))
    have kf := resC E1.res (.int .i64 0) (.int .i64 0) (.slice Option.none 0 0)
    have hbf := below_res (g := w.heap.size + 1 + 1) E1.up (by omega) (.int .i64 0) (.int .i64 0) (.slice Option.none 0 0)
    have z0 := kf.cell 0
    have z1 := kf.cell 1
    have z2 := kf.cell 2
    obtain ⟨W4, hW4⟩ : ∃ W4, W4 = ((y1.setCell ⟨w.heap.size + 1 + 1, 0, none⟩ (.int .i64 0)).setCell ⟨w.heap.size + 1 + 1, 1, none⟩ (.int .i64 0)).setCell ⟨w.heap.size + 1 + 1, 2, none⟩ (.slice Option.none 0 0) := ⟨_, rfl⟩
    rw [← hW4] at z0 z1 z2 hbf ⊢
    clear hW4 kf x0 x1 x2 f0 f1 f2
    refine bodyPost_ret (v := .agg #[.int .i64 0, .int .i64 0, .slice Option.none 0 0]) (by first | (simp [results, Try.results27, go_sem] at z0 z1 z2 ⊢; simp [z0, z1, z2]; done) | (simp [results, Try.results27, go_sem, z0, z1, z2]; done)) rfl ?_
    rw [← HN.out]; exact RtOut.none rfl hbf
  · by_cases hk : r.kind = 0
    · have t0 : (r.kind == 0) = true := by simpa using hk
      have HN : Hid (Rt.none = ro) := Lib.hid (by rw [← hb, if_pos (.inr (.inl hk))])
      clear hb hv h hr hrn hk
      go_enter Try.func27, Try.ntmps27
      go_wp2_with (first
        | (go_at_call 13; (with_reducible refine (Other_w _ _ _ HV hs E0.pr.pat).mono ?_); rintro e y1 ⟨rfl, hy1⟩; have E1 := E0.go hy1; obtain ⟨⟨a0, a1, a2, a3, a4, a5, a6⟩, b0, b1, b2⟩ := E1.pr.cells; obtain ⟨⟨x0, x1, x2⟩, f0, f1, f2⟩ := E1.rcells))
      have kf := resC E1.res (.int .i64 0) (.int .i64 0) (.slice Option.none 0 0)
      have hbf := below_res (g := w.heap.size + 1 + 1) E1.up (by omega) (.int .i64 0) (.int .i64 0) (.slice Option.none 0 0)
      have z0 := kf.cell 0
      have z1 := kf.cell 1
      have z2 := kf.cell 2
      obtain ⟨W4, hW4⟩ : ∃ W4, W4 = ((y1.setCell ⟨w.heap.size + 1 + 1, 0, none⟩ (.int .i64 0)).setCell ⟨w.heap.size + 1 + 1, 1, none⟩ (.int .i64 0)).setCell ⟨w.heap.size + 1 + 1, 2, none⟩ (.slice Option.none 0 0) := ⟨_, rfl⟩
      rw [← hW4] at z0 z1 z2 hbf ⊢
      clear hW4 kf x0 x1 x2 f0 f1 f2
      refine bodyPost_ret (v := .agg #[.int .i64 0, .int .i64 0, .slice Option.none 0 0]) (by first | (simp [results, Try.results27, go_sem] at z0 z1 z2 ⊢; simp [z0, z1, z2]; done) | (simp [results, Try.results27, go_sem, z0, z1, z2]; done)) rfl ?_
      rw [← HN.out]; exact RtOut.none rfl hbf
    · have t0 : (r.kind == 0) = false := by simpa using hk
      obtain ⟨hR, i, j, x, l, nd, nx, rfl, hli, rfl, rfl, hnd, hnx, hc0, hc1, hoi, hends⟩ := from_facts hv (by omega)
      have hnum : numAt p (j : Int) = nd.num := by unfold numAt; rw [Int.toNat_natCast, hnd]; rfl
      have hnumx : numAt p (x : Int) = nx.num := by unfold numAt; rw [Int.toNat_natCast, hnx]; rfl
      have hcost : costAt p (i : Int) = l.cost := by unfold costAt; rw [Int.toNat_natCast, hli]; rfl
      rw [hnum, hnumx, hcost] at hb
      have HND := Lib.hid hnd
      have HNX := Lib.hid hnx
      have HLI := Lib.hid hli
      obtain ⟨f, hf⟩ : ∃ f, fitB p nd.num r = f := ⟨_, rfl⟩
      have HF := Lib.hid hf
      cases f
      · have HN : Hid (Rt.none = ro) := Lib.hid (by rw [← hb, if_pos (.inr (.inr hf))])
        clear hb hv h hr hrn hk hnd hnx hli hf hnum hnumx hcost hoi hends
        go_enter Try.func27, Try.ntmps27
        go_wp2_with (first
          | (go_at_call 13; (with_reducible refine (Other_w _ _ _ HV hs E0.pr.pat).mono ?_); rintro e y1 ⟨rfl, hy1⟩; have E1 := E0.go hy1; obtain ⟨⟨a0, a1, a2, a3, a4, a5, a6⟩, b0, b1, b2⟩ := E1.pr.cells; obtain ⟨⟨x0, x1, x2⟩, f0, f1, f2⟩ := E1.rcells)
          | (go_at_call 49; (with_reducible refine (caFits_any p j nd HND.out r E1.pr.pat hs E1.pr.rat hl hc).mono ?_); rintro e y2 ⟨rfl, hy2⟩; have E2 := E1.go hy2; rw [HF.out]; obtain ⟨⟨a0, a1, a2, a3, a4, a5, a6⟩, b0, b1, b2⟩ := E2.pr.cells; obtain ⟨⟨x0, x1, x2⟩, f0, f1, f2⟩ := E2.rcells))
        have kf := resC E2.res (.int .i64 0) (.int .i64 0) (.slice Option.none 0 0)
        have hbf := below_res (g := w.heap.size + 1 + 1) E2.up (by omega) (.int .i64 0) (.int .i64 0) (.slice Option.none 0 0)
        have z0 := kf.cell 0
        have z1 := kf.cell 1
        have z2 := kf.cell 2
        obtain ⟨W4, hW4⟩ : ∃ W4, W4 = ((y2.setCell ⟨w.heap.size + 1 + 1, 0, none⟩ (.int .i64 0)).setCell ⟨w.heap.size + 1 + 1, 1, none⟩ (.int .i64 0)).setCell ⟨w.heap.size + 1 + 1, 2, none⟩ (.slice Option.none 0 0) := ⟨_, rfl⟩
        rw [← hW4] at z0 z1 z2 hbf ⊢
        clear hW4 kf x0 x1 x2 f0 f1 f2
        refine bodyPost_ret (v := .agg #[.int .i64 0, .int .i64 0, .slice Option.none 0 0]) (by first | (simp [results, Try.results27, go_sem] at z0 z1 z2 ⊢; simp [z0, z1, z2]; done) | (simp [results, Try.results27, go_sem, z0, z1, z2]; done)) rfl ?_
        rw [← HN.out]; exact RtOut.none rfl hbf
      · rw [hf, if_neg (by first | (simp [hk]; done) | (simp [hk]; omega))] at hb
        unfold toldR at hb
        by_cases hp : p.proto = 2
        · rw [if_pos hp] at hb
          obtain ⟨-, -, hpb, hp12, -⟩ := fit_pth hf hk hp
          have hn12 : n ≤ 12 := by rw [← hrn]; exact hp12
          cases hf2 : fitB p nx.num ⟨2, 0, nd.num :: r.path⟩
          · rw [hf2, if_neg (by simp)] at hb
            rw [← hb]
            exact caOver_pth_false p i j x l nd nx r HLI HND HNX HV HF t0 (Lib.hid hp) hn12 (Lib.hid hrn) (Lib.hid hf2) h hs hr hl hc
          · rw [hf2, if_pos rfl] at hb
            rw [← hb]
            exact caOver_pth_true p i j x l nd nx r HLI HND HNX HV HF t0 (Lib.hid hp) hn12 (Lib.hid hrn) (Lib.hid hf2) h hs hr hl hc
        · rw [if_neg hp] at hb
          obtain ⟨-, hrc0, hrc1, -⟩ := fit_vec hf hk hp
          cases hf2 : fitB p nx.num ⟨1, r.cost + l.cost, []⟩
          · rw [hf2, if_neg (by simp)] at hb
            rw [← hb]
            exact caOver_vec_false p i j x l nd nx r HLI HND HNX HV HF t0 (Lib.hid hp) hrc0 hrc1 hc0 hc1 (Lib.hid hf2) h hs hr hl hc
          · rw [hf2, if_pos rfl] at hb
            rw [← hb]
            exact caOver_vec_true p i j x l nd nx r HLI HND HNX HV HF t0 (Lib.hid hp) hrc0 hrc1 hc0 hc1 (Lib.hid hf2) h hs hr hl hc
end Go.Proofs.Ytlfdpfkimggeoaa
