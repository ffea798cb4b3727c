/-
  The document's answer for layer 7: Own, Over.
-/
import Derived.Test.YtlfdpfkimggeoaaCtA
import Derived.Deep.RegionHeld3
import Derived.Deep.AppendLies
namespace Go.Proofs.Ytlfdpfkimggeoaa
open Go.RowKit
set_option linter.unusedVariables false
set_option linter.unusedSimpArgs false

theorem step_append_cells {P : Program} {ops : Array Oper} {o : Oper} {a : Act} {w : World} {K : Act → World → Prop} {Q : Exit → Act → World → Prop} {E : Prop} (hgd : o.guard = none) (s x : Operand) (t : TypeId)
    (ho : o.op = .call { callee := .builtin .append, args := #[s, x], argTypes := #[t, t] })
    (base : Nat) (e : TypeId) (i : TypeInfo) (z : Value) (size bytes : Nat) (ht : P.underlying t = some (.slice e)) (hi : P.info? e = some i) (hz : i.zero = some z)
    (hsize : i.size = size) (hby : i.bytes = bytes) (hzs : z.cells.size = size) (hsz : 0 < size)
    (v : Value) (n : Nat) (xs : List Value) (hs : a.eval s = v) (hown : w.ownsRow base e size v n xs)
    (B : Nat) (A : Option Addr) (m c : Nat) (news : List Value) (hx : a.eval x = .slice A m c) (hl : news.length = m * size) (hr : CellsAt w B A news) (h1 : ∀ u ∈ news, u.oneCell' = true) (hb : n + m ≤ 1000000) (hb2 : (n + m) * bytes ≤ 140737488355328) (hbase : base ≤ w.heap.size)
    (h : ∀ v' w', w'.ownsRow base e size v' (n + m) (xs ++ news) → w.grownBy w' v.ownBlock → K (a.put o.dst v') w') :
    if Region.wanted o (yielded ops a.tmps) = true then Oper.wp P o a w K Q else E := by
  have hw : Region.wanted o (yielded ops a.tmps) = true := by simp [Region.wanted, hgd]
  rw [if_pos hw]
  obtain ⟨v', w', hr', h2, h3⟩ := run_append_cells (P := P) w base t o.type e i z size bytes ht hi hz hsize hby hzs hsz v n xs hown B A m c news hl hr h1 hb hb2 hbase
  unfold Oper.wp execOp
  simp only [ho, resolve, invoke, builtin, Sem.run_bind, Sem.run_pure, Result.andThen_ok, List.map_toArray, List.map_cons, List.map_nil, hs, hx, hr']
  exact h v' w' h2 h3
theorem own_newA (w : World) (base : Nat) (e : TypeId) (xs : List Value) (k : Nat) (hk : w.heap.size = k) (hb : base ≤ k) (n : Nat) (hn : xs.length = n) (hm : n ≤ 4096) : (w.alloc (.cells xs.toArray e)).ownsRow base e 1 (.slice (some ⟨k, 0, none⟩) n n) n xs := by
  subst hk hn
  exact ⟨by simp, .inr ⟨w.heap.size, xs.length, xs.toArray, rfl, hb, Blk.new w e _, Nat.le_refl _, by unfold maxLen; omega, by simp, by simp⟩⟩
theorem own_formB {w : World} {base : Nat} {e : TypeId} {v : Value} {n : Nat} {xs : List Value} (h : w.ownsRow base e 1 v n xs) : ∃ A c, v = .slice A n c ∧ n ≤ c ∧ c ≤ 9223372036854775807 := by
  rcases h.2 with ⟨hv, hn⟩ | ⟨g, cap, cur, hv, hb, hg, hc, hrest⟩
  · subst hn
    exact ⟨none, 0, hv, Nat.le_refl _, by omega⟩
  · refine ⟨_, cap, hv, hc, ?_⟩
    have := hrest.1
    unfold maxLen at this
    omega
set_option maxHeartbeats 8000000 in
set_option maxRecDepth 100000 in
theorem refOwn7_w (p : PPlan) (dest node : Int) (r : Rt) (HB : Hid (ownB p dest node = r)) {An Al Ad Ac : Option Addr} {cn cl cd cc : Nat} {w : World} (h : PAt w p p.proto p.cap p.k An p.nodes.length Al p.links.length Ad p.dests.length Ac p.checks.length) (hs : PSmall p) :
    Calls Try.prog 25 #[.agg #[.int .i64 p.proto, .int .i64 p.cap, .int .i64 p.k, .slice An p.nodes.length cn, .slice Al p.links.length cl, .slice Ad p.dests.length cd, .slice Ac p.checks.length cc], .int .i64 dest, .int .i64 node] w (RtOut r w) := by
  have hb := HB.out
  unfold ownB at hb
  have E0 := OW.new (cn := cn) (cl := cl) (cd := cd) (cc := cc) h
  obtain ⟨⟨a0, a1, a2, a3, a4, a5, a6⟩, ⟨x0, x1, x2⟩, f0, f1, f2⟩ := E0.cells
  have hld := hs.ld
  cases hR : rightB p
  · have HR := Lib.hid hR
    have HV : Hid (Rt.none = r) := Lib.hid (by rw [← hb, hR, if_neg (by simp)])
    clear hb hR h
    go_enter Try.func25, Try.ntmps25
    go_wp2_with (first
      | (go_at_call 35; (with_reducible refine (RefRight_is false HR hs E0.pat).mono ?_); rintro e y1 ⟨rfl, hy1⟩; have E1 := E0.go hy1; obtain ⟨⟨a0, a1, a2, a3, a4, a5, a6⟩, ⟨x0, x1, x2⟩, f0, f1, f2⟩ := E1.cells))
    have kf := resC E1.res (.int .i64 0) (.int .i64 0) (.slice Option.none 0 0)
    have hbf := below_res (g := w.heap.size + 1) E1.up (by omega) (.int .i64 0) (.int .i64 0) (.slice Option.none 0 0)
    have z0 := kf.cell 0
    have z1 := kf.cell 1
    have z2 := kf.cell 2
    obtain ⟨W4, hW4⟩ : ∃ W4, W4 = ((y1.setCell ⟨w.heap.size + 1, 0, none⟩ (.int .i64 0)).setCell ⟨w.heap.size + 1, 1, none⟩ (.int .i64 0)).setCell ⟨w.heap.size + 1, 2, none⟩ (.slice Option.none 0 0) := ⟨_, rfl⟩
    rw [← hW4] at z0 z1 z2 hbf ⊢
    clear hW4 kf x0 x1 x2 f0 f1 f2
    refine bodyPost_ret (v := .agg #[.int .i64 0, .int .i64 0, .slice Option.none 0 0]) (by first | (simp [results, Try.results25, go_sem] at z0 z1 z2 ⊢; simp [z0, z1, z2]; done) | (simp [results, Try.results25, go_sem, z0, z1, z2]; done)) rfl ?_
    rw [← HV.out]; exact RtOut.none rfl hbf
  · have HR := Lib.hid hR
    rw [hR, Bool.true_and] at hb
    have hpt := proto_two hR
    clear hR
    by_cases h0 : dest < 0
    · have HV : Hid (Rt.none = r) := Lib.hid (by rw [← hb, decide_eq_false (by omega), if_neg (by simp)])
      clear hb h
      go_enter Try.func25, Try.ntmps25
      go_wp2_with (first
        | (go_at_call 35; (with_reducible refine (RefRight_is true HR hs E0.pat).mono ?_); rintro e y1 ⟨rfl, hy1⟩; have E1 := E0.go hy1; obtain ⟨⟨a0, a1, a2, a3, a4, a5, a6⟩, ⟨x0, x1, x2⟩, f0, f1, f2⟩ := E1.cells))
      have kf := resC E1.res (.int .i64 0) (.int .i64 0) (.slice Option.none 0 0)
      have hbf := below_res (g := w.heap.size + 1) E1.up (by omega) (.int .i64 0) (.int .i64 0) (.slice Option.none 0 0)
      have z0 := kf.cell 0
      have z1 := kf.cell 1
      have z2 := kf.cell 2
      obtain ⟨W4, hW4⟩ : ∃ W4, W4 = ((y1.setCell ⟨w.heap.size + 1, 0, none⟩ (.int .i64 0)).setCell ⟨w.heap.size + 1, 1, none⟩ (.int .i64 0)).setCell ⟨w.heap.size + 1, 2, none⟩ (.slice Option.none 0 0) := ⟨_, rfl⟩
      rw [← hW4] at z0 z1 z2 hbf ⊢
      clear hW4 kf x0 x1 x2 f0 f1 f2
      refine bodyPost_ret (v := .agg #[.int .i64 0, .int .i64 0, .slice Option.none 0 0]) (by first | (simp [results, Try.results25, go_sem] at z0 z1 z2 ⊢; simp [z0, z1, z2]; done) | (simp [results, Try.results25, go_sem, z0, z1, z2]; done)) rfl ?_
      rw [← HV.out]; exact RtOut.none rfl hbf
    · obtain ⟨i, rfl⟩ := Int.eq_ofNat_of_zero_le (Int.not_lt.1 h0)
      have i0 : (0 : Int) ≤ (i : Int) := by omega
      rw [decide_eq_true i0, Bool.true_and] at hb
      by_cases h1 : (i : Int) < (p.dests.length : Int)
      · obtain ⟨d, hd⟩ : ∃ d, p.dests[i]? = some d := ⟨_, List.getElem?_eq_getElem (by omega)⟩
        have hor : origAt p (i : Int) = d.orig := by unfold origAt; rw [Int.toNat_natCast, hd]; rfl
        rw [decide_eq_true h1, Bool.true_and, hor] at hb
        have HD := Lib.hid hd
        have hol : d.orig.length ≤ 9223372036854775807 := by have := (hs.dests d (List.mem_of_getElem? hd)).2; omega
        obtain ⟨g, _, _, rfl, _⟩ := h.dests.dest hd
        clear hor h0 hd h
        obtain ⟨m, hm⟩ : ∃ m, memI node d.orig = m := ⟨_, rfl⟩
        have HM := Lib.hid hm
        rw [hm] at hb
        cases m
        · have HV : Hid (Rt.none = r) := Lib.hid (by rw [← hb, if_neg (by simp)])
          clear hb hm
          go_enter Try.func25, Try.ntmps25
          go_wp2_with (first
            | (go_at_call 35; (with_reducible refine (RefRight_is true HR hs E0.pat).mono ?_); rintro e y1 ⟨rfl, hy1⟩; have E1 := E0.go hy1; obtain ⟨⟨a0, a1, a2, a3, a4, a5, a6⟩, ⟨x0, x1, x2⟩, f0, f1, f2⟩ := E1.cells; obtain ⟨g', Ao, co, hAd', _, dn, ds, hro⟩ := E1.pat.dests.dest HD.out; have e := Option.some.inj hAd'; injection e with e; subst e)
            | (go_at_call 47; (with_reducible refine (refIn7_any d.orig _ _ _ node false HM (Lib.hid rfl) hol hro.cells).mono ?_); rintro e y2 ⟨rfl, rfl⟩))
          have kf := resC E1.res (.int .i64 0) (.int .i64 0) (.slice Option.none 0 0)
          have hbf := below_res (g := w.heap.size + 1) E1.up (by omega) (.int .i64 0) (.int .i64 0) (.slice Option.none 0 0)
          have z0 := kf.cell 0
          have z1 := kf.cell 1
          have z2 := kf.cell 2
          obtain ⟨W4, hW4⟩ : ∃ W4, W4 = ((y1.setCell ⟨w.heap.size + 1, 0, none⟩ (.int .i64 0)).setCell ⟨w.heap.size + 1, 1, none⟩ (.int .i64 0)).setCell ⟨w.heap.size + 1, 2, none⟩ (.slice Option.none 0 0) := ⟨_, rfl⟩
          rw [← hW4] at z0 z1 z2 hbf ⊢
          clear hW4 kf x0 x1 x2 f0 f1 f2
          refine bodyPost_ret (v := .agg #[.int .i64 0, .int .i64 0, .slice Option.none 0 0]) (by first | (simp [results, Try.results25, go_sem] at z0 z1 z2 ⊢; simp [z0, z1, z2]; done) | (simp [results, Try.results25, go_sem, z0, z1, z2]; done)) rfl ?_
          rw [← HV.out]; exact RtOut.none rfl hbf
        · rw [if_pos rfl] at hb
          unfold ownR at hb
          by_cases hp : p.proto = 2
          · rw [if_pos hp] at hb
            have HV := Lib.hid hb
            have t1 : (p.proto == 1) = false := by simp [hp]
            clear hb hm hp hpt
            go_enter Try.func25, Try.ntmps25
            go_wp2_with (first
              | (go_at_call 35; (with_reducible refine (RefRight_is true HR hs E0.pat).mono ?_); rintro e y1 ⟨rfl, hy1⟩; have E1 := E0.go hy1; obtain ⟨⟨a0, a1, a2, a3, a4, a5, a6⟩, ⟨x0, x1, x2⟩, f0, f1, f2⟩ := E1.cells; obtain ⟨g', Ao, co, hAd', _, dn, ds, hro⟩ := E1.pat.dests.dest HD.out; have e := Option.some.inj hAd'; injection e with e; subst e)
              | (go_at_call 47; (with_reducible refine (refIn7_any d.orig _ _ _ node true HM (Lib.hid rfl) hol hro.cells).mono ?_); rintro e y2 ⟨rfl, rfl⟩))
            have kf := resC E1.res (.int .i64 2) (.int .i64 0) (.slice Option.none 0 0)
            have hbf := below_res (g := w.heap.size + 1) E1.up (by omega) (.int .i64 2) (.int .i64 0) (.slice Option.none 0 0)
            have z0 := kf.cell 0
            have z1 := kf.cell 1
            have z2 := kf.cell 2
            obtain ⟨W4, hW4⟩ : ∃ W4, W4 = ((y1.setCell ⟨w.heap.size + 1, 0, none⟩ (.int .i64 2)).setCell ⟨w.heap.size + 1, 1, none⟩ (.int .i64 0)).setCell ⟨w.heap.size + 1, 2, none⟩ (.slice Option.none 0 0) := ⟨_, rfl⟩
            rw [← hW4] at z0 z1 z2 hbf ⊢
            clear hW4 kf x0 x1 x2 f0 f1 f2
            refine bodyPost_ret (v := .agg #[.int .i64 2, .int .i64 0, .slice Option.none 0 0]) (by first | (simp [results, Try.results25, go_sem] at z0 z1 z2 ⊢; simp [z0, z1, z2]; done) | (simp [results, Try.results25, go_sem, z0, z1, z2]; done)) rfl ?_
            rw [← HV.out]; exact RtOut.flat rfl hbf
          · rw [if_neg hp] at hb
            have HV := Lib.hid hb
            have t1 : (p.proto == 1) = true := by rcases hpt with ⟨e, _⟩ | ⟨e, _⟩; simp [e]; exact absurd e hp
            clear hb hm hp hpt
            go_enter Try.func25, Try.ntmps25
            go_wp2_with (first
              | (go_at_call 35; (with_reducible refine (RefRight_is true HR hs E0.pat).mono ?_); rintro e y1 ⟨rfl, hy1⟩; have E1 := E0.go hy1; obtain ⟨⟨a0, a1, a2, a3, a4, a5, a6⟩, ⟨x0, x1, x2⟩, f0, f1, f2⟩ := E1.cells; obtain ⟨g', Ao, co, hAd', _, dn, ds, hro⟩ := E1.pat.dests.dest HD.out; have e := Option.some.inj hAd'; injection e with e; subst e)
              | (go_at_call 47; (with_reducible refine (refIn7_any d.orig _ _ _ node true HM (Lib.hid rfl) hol hro.cells).mono ?_); rintro e y2 ⟨rfl, rfl⟩))
            have kf := resC E1.res (.int .i64 1) (.int .i64 0) (.slice Option.none 0 0)
            have hbf := below_res (g := w.heap.size + 1) E1.up (by omega) (.int .i64 1) (.int .i64 0) (.slice Option.none 0 0)
            have z0 := kf.cell 0
            have z1 := kf.cell 1
            have z2 := kf.cell 2
            obtain ⟨W4, hW4⟩ : ∃ W4, W4 = ((y1.setCell ⟨w.heap.size + 1, 0, none⟩ (.int .i64 1)).setCell ⟨w.heap.size + 1, 1, none⟩ (.int .i64 0)).setCell ⟨w.heap.size + 1, 2, none⟩ (.slice Option.none 0 0) := ⟨_, rfl⟩
            rw [← hW4] at z0 z1 z2 hbf ⊢
            clear hW4 kf x0 x1 x2 f0 f1 f2
            refine bodyPost_ret (v := .agg #[.int .i64 1, .int .i64 0, .slice Option.none 0 0]) (by first | (simp [results, Try.results25, go_sem] at z0 z1 z2 ⊢; simp [z0, z1, z2]; done) | (simp [results, Try.results25, go_sem, z0, z1, z2]; done)) rfl ?_
            rw [← HV.out]; exact RtOut.flat rfl hbf
      · have HV : Hid (Rt.none = r) := Lib.hid (by rw [← hb, decide_eq_false h1, if_neg (by simp)])
        clear hb h0 h
        go_enter Try.func25, Try.ntmps25
        go_wp2_with (first
          | (go_at_call 35; (with_reducible refine (RefRight_is true HR hs E0.pat).mono ?_); rintro e y1 ⟨rfl, hy1⟩; have E1 := E0.go hy1; obtain ⟨⟨a0, a1, a2, a3, a4, a5, a6⟩, ⟨x0, x1, x2⟩, f0, f1, f2⟩ := E1.cells))
        have kf := resC E1.res (.int .i64 0) (.int .i64 0) (.slice Option.none 0 0)
        have hbf := below_res (g := w.heap.size + 1) E1.up (by omega) (.int .i64 0) (.int .i64 0) (.slice Option.none 0 0)
        have z0 := kf.cell 0
        have z1 := kf.cell 1
        have z2 := kf.cell 2
        obtain ⟨W4, hW4⟩ : ∃ W4, W4 = ((y1.setCell ⟨w.heap.size + 1, 0, none⟩ (.int .i64 0)).setCell ⟨w.heap.size + 1, 1, none⟩ (.int .i64 0)).setCell ⟨w.heap.size + 1, 2, none⟩ (.slice Option.none 0 0) := ⟨_, rfl⟩
        rw [← hW4] at z0 z1 z2 hbf ⊢
        clear hW4 kf x0 x1 x2 f0 f1 f2
        refine bodyPost_ret (v := .agg #[.int .i64 0, .int .i64 0, .slice Option.none 0 0]) (by first | (simp [results, Try.results25, go_sem] at z0 z1 z2 ⊢; simp [z0, z1, z2]; done) | (simp [results, Try.results25, go_sem, z0, z1, z2]; done)) rfl ?_
        rw [← HV.out]; exact RtOut.none rfl hbf
set_option maxHeartbeats 8000000 in
set_option maxRecDepth 100000 in
theorem refOver7_w (p : PPlan) (link node : Int) (r ro : Rt) (HB : Hid (overB p link node r = ro)) {An Al Ad Ac A : Option Addr} {cn cl cd cc n c : Nat} {w : World} (h : PAt w p p.proto p.cap p.k An p.nodes.length Al p.links.length Ad p.dests.length Ac p.checks.length) (hs : PSmall p) (hr : RtAt w r A n) :
    Calls Try.prog 30 #[.agg #[.int .i64 p.proto, .int .i64 p.cap, .int .i64 p.k, .slice An p.nodes.length cn, .slice Al p.links.length cl, .slice Ad p.dests.length cd, .slice Ac p.checks.length cc], .int .i64 link, .int .i64 node, .agg #[.int .i64 r.kind, .int .i64 r.cost, .slice A n c]] w (RtOut ro w) := by
  have hb := HB.out
  unfold overB at hb
  have E0 := OV.new (c := c) (cn := cn) (cl := cl) (cd := cd) (cc := cc) h hr
  obtain ⟨⟨a0, a1, a2, a3, a4, a5, a6⟩, b0, b1, b2⟩ := E0.pr.cells; obtain ⟨⟨x0, x1, x2⟩, f0, f1, f2⟩ := E0.rcells
  obtain ⟨v, hv⟩ : ∃ v, oiB p link node = v := ⟨_, rfl⟩
  have HV := Lib.hid hv
  rw [hv] at hb
  have hrn := hr.1
  have HRN := Lib.hid hrn
  obtain ⟨f, hf⟩ : ∃ f, fitsB p v r = f := ⟨_, rfl⟩
  have HF := Lib.hid hf
  by_cases h0 : v < 0
  · have HN : Hid (Rt.none = ro) := Lib.hid (by rw [← hb, if_pos (.inl h0)])
    clear hb hv h hr hrn hf
    go_enter Try.func30, Try.ntmps30
    go_wp2_with (first
      | (go_at_call 14; (with_reducible refine (refOther5_w link node v HV E0.pr.pat hs).mono ?_); rintro e y1 ⟨rfl, hy1⟩; have E1 := E0.go hy1; obtain ⟨⟨a0, a1, a2, a3, a4, a5, a6⟩, b0, b1, b2⟩ := E1.pr.cells; obtain ⟨⟨x0, x1, x2⟩, f0, f1, f2⟩ := E1.rcells)
      | (go_at_call 29; (with_reducible refine (refFits7_w p v r f HF E1.pr.pat hs E1.pr.rat).mono ?_); rintro e y2 ⟨rfl, hy2⟩; have E2 := E1.go hy2; obtain ⟨⟨a0, a1, a2, a3, a4, a5, a6⟩, b0, b1, b2⟩ := E2.pr.cells; obtain ⟨⟨x0, x1, x2⟩, f0, f1, f2⟩ := E2.rcells))
    have kf := resC E2.res (.int .i64 0) (.int .i64 0) (.slice Option.none 0 0)
    have hbf := below_res (g := w.heap.size + 1 + 1) E2.up (by omega) (.int .i64 0) (.int .i64 0) (.slice Option.none 0 0)
    have z0 := kf.cell 0
    have z1 := kf.cell 1
    have z2 := kf.cell 2
    obtain ⟨W4, hW4⟩ : ∃ W4, W4 = ((y2.setCell ⟨w.heap.size + 1 + 1, 0, none⟩ (.int .i64 0)).setCell ⟨w.heap.size + 1 + 1, 1, none⟩ (.int .i64 0)).setCell ⟨w.heap.size + 1 + 1, 2, none⟩ (.slice Option.none 0 0) := ⟨_, rfl⟩
    rw [← hW4] at z0 z1 z2 hbf ⊢
    clear hW4 kf x0 x1 x2 f0 f1 f2
    refine bodyPost_ret (v := .agg #[.int .i64 0, .int .i64 0, .slice Option.none 0 0]) (by first | (simp [results, Try.results30, go_sem] at z0 z1 z2 ⊢; simp [z0, z1, z2]; done) | (simp [results, Try.results30, go_sem, z0, z1, z2]; done)) rfl ?_
    rw [← HN.out]; exact RtOut.none rfl hbf
  · by_cases hk : r.kind = 0
    · have t0 : (r.kind == 0) = true := by simpa using hk
      have HN : Hid (Rt.none = ro) := Lib.hid (by rw [← hb, if_pos (.inr (.inl hk))])
      clear hb hv h hr hrn hk hf
      cases f
      all_goals
        go_enter Try.func30, Try.ntmps30
        go_wp2_with (first
          | (go_at_call 14; (with_reducible refine (refOther5_w link node v HV E0.pr.pat hs).mono ?_); rintro e y1 ⟨rfl, hy1⟩; have E1 := E0.go hy1; obtain ⟨⟨a0, a1, a2, a3, a4, a5, a6⟩, b0, b1, b2⟩ := E1.pr.cells; obtain ⟨⟨x0, x1, x2⟩, f0, f1, f2⟩ := E1.rcells)
          | (go_at_call 29; (with_reducible refine (refFits7_w p v r _ HF E1.pr.pat hs E1.pr.rat).mono ?_); rintro e y2 ⟨rfl, hy2⟩; have E2 := E1.go hy2; obtain ⟨⟨a0, a1, a2, a3, a4, a5, a6⟩, b0, b1, b2⟩ := E2.pr.cells; obtain ⟨⟨x0, x1, x2⟩, f0, f1, f2⟩ := E2.rcells))
        have kf := resC E2.res (.int .i64 0) (.int .i64 0) (.slice Option.none 0 0)
        have hbf := below_res (g := w.heap.size + 1 + 1) E2.up (by omega) (.int .i64 0) (.int .i64 0) (.slice Option.none 0 0)
        have z0 := kf.cell 0
        have z1 := kf.cell 1
        have z2 := kf.cell 2
        obtain ⟨W4, hW4⟩ : ∃ W4, W4 = ((y2.setCell ⟨w.heap.size + 1 + 1, 0, none⟩ (.int .i64 0)).setCell ⟨w.heap.size + 1 + 1, 1, none⟩ (.int .i64 0)).setCell ⟨w.heap.size + 1 + 1, 2, none⟩ (.slice Option.none 0 0) := ⟨_, rfl⟩
        rw [← hW4] at z0 z1 z2 hbf ⊢
        clear hW4 kf x0 x1 x2 f0 f1 f2
        refine bodyPost_ret (v := .agg #[.int .i64 0, .int .i64 0, .slice Option.none 0 0]) (by first | (simp [results, Try.results30, go_sem] at z0 z1 z2 ⊢; simp [z0, z1, z2]; done) | (simp [results, Try.results30, go_sem, z0, z1, z2]; done)) rfl ?_
        rw [← HN.out]; exact RtOut.none rfl hbf
    · have t0 : (r.kind == 0) = false := by simpa using hk
      obtain ⟨hR, i, j, x, l, nd, nx, rfl, hli, rfl, rfl, hnd, hnx, hc0, hc1, hoi, hends⟩ := from_facts hv (by omega)
      have hnum : numAt p (j : Int) = nd.num := by unfold numAt; rw [Int.toNat_natCast, hnd]; rfl
      have hnumx : numAt p (x : Int) = nx.num := by unfold numAt; rw [Int.toNat_natCast, hnx]; rfl
      have hcost : costAt p (i : Int) = l.cost := by unfold costAt; rw [Int.toNat_natCast, hli]; rfl
      rw [hnum, hnumx, hcost] at hb
      have hff : fitB p nd.num r = f := by rw [← hf, fits_nat hR hnd]
      have HND := Lib.hid hnd
      have HNX := Lib.hid hnx
      have HLI := Lib.hid hli
      cases f
      · have HN : Hid (Rt.none = ro) := Lib.hid (by rw [← hb, if_pos (.inr (.inr hff))])
        clear hb hv h hr hrn hk hnd hnx hli hf hff hnum hnumx hcost hoi hends
        go_enter Try.func30, Try.ntmps30
        go_wp2_with (first
          | (go_at_call 14; (with_reducible refine (refOther5_w (i : Int) (x : Int) (j : Int) HV E0.pr.pat hs).mono ?_); rintro e y1 ⟨rfl, hy1⟩; have E1 := E0.go hy1; obtain ⟨⟨a0, a1, a2, a3, a4, a5, a6⟩, b0, b1, b2⟩ := E1.pr.cells; obtain ⟨⟨x0, x1, x2⟩, f0, f1, f2⟩ := E1.rcells)
          | (go_at_call 29; (with_reducible refine (refFits7_w p (j : Int) r false HF E1.pr.pat hs E1.pr.rat).mono ?_); rintro e y2 ⟨rfl, hy2⟩; have E2 := E1.go hy2; obtain ⟨⟨a0, a1, a2, a3, a4, a5, a6⟩, b0, b1, b2⟩ := E2.pr.cells; obtain ⟨⟨x0, x1, x2⟩, f0, f1, f2⟩ := E2.rcells))
        have kf := resC E2.res (.int .i64 0) (.int .i64 0) (.slice Option.none 0 0)
        have hbf := below_res (g := w.heap.size + 1 + 1) E2.up (by omega) (.int .i64 0) (.int .i64 0) (.slice Option.none 0 0)
        have z0 := kf.cell 0
        have z1 := kf.cell 1
        have z2 := kf.cell 2
        obtain ⟨W4, hW4⟩ : ∃ W4, W4 = ((y2.setCell ⟨w.heap.size + 1 + 1, 0, none⟩ (.int .i64 0)).setCell ⟨w.heap.size + 1 + 1, 1, none⟩ (.int .i64 0)).setCell ⟨w.heap.size + 1 + 1, 2, none⟩ (.slice Option.none 0 0) := ⟨_, rfl⟩
        rw [← hW4] at z0 z1 z2 hbf ⊢
        clear hW4 kf x0 x1 x2 f0 f1 f2
        refine bodyPost_ret (v := .agg #[.int .i64 0, .int .i64 0, .slice Option.none 0 0]) (by first | (simp [results, Try.results30, go_sem] at z0 z1 z2 ⊢; simp [z0, z1, z2]; done) | (simp [results, Try.results30, go_sem, z0, z1, z2]; done)) rfl ?_
        rw [← HN.out]; exact RtOut.none rfl hbf
      · rw [if_neg (by rintro (e | e | e); exact h0 e; exact hk e; rw [hff] at e; cases e)] at hb
        have hft := told_fit hR (node_num hR hnd) hff hk hc0 nx.num
        rw [hft] at hb
        unfold toldR at hb
        obtain ⟨gN, hgN, -, -, -⟩ := h.nodes.node hnd
        obtain ⟨gL, hgL, -, -, -, -⟩ := h.links.link hli
        subst hgN hgL
        have i0 : (0 : Int) ≤ (i : Int) := by omega
        have j0 : (0 : Int) ≤ (j : Int) := by omega
        have x0' : (0 : Int) ≤ (x : Int) := by omega
        have i1 : (i : Int) < (p.links.length : Int) := by have := (List.getElem?_eq_some_iff.1 hli).1; omega
        have j1 : (j : Int) < (p.nodes.length : Int) := by have := (List.getElem?_eq_some_iff.1 hnd).1; omega
        have x1' : (x : Int) < (p.nodes.length : Int) := by have := (List.getElem?_eq_some_iff.1 hnx).1; omega
        have hln := hs.ln
        have hll := hs.ll
        by_cases hp : p.proto = 2
        · rw [if_pos hp, if_pos hp] at hb
          have hp12 := (fit_pth hff hk hp).2.2.2.1
          have tp : (p.proto == 1) = false := by simp [hp]
          have HQ : Hid ((if (decide ((n : Int) < p.cap) && !memI nx.num (nd.num :: r.path)) = true then (⟨2, 0, nd.num :: r.path⟩ : Rt) else Rt.none) = ro) := Lib.hid (by
            rw [← hb, hrn]
            have e : memI nx.num (nd.num :: r.path) = (decide (nx.num = nd.num) || memI nx.num r.path) := by unfold memI; rw [Bool.eq_iff_iff]; simp
            rw [e, Bool.not_or])
          have h12 : n ≤ 12 := by omega
          obtain ⟨m, hm⟩ : ∃ m, memI nx.num (nd.num :: r.path) = m := ⟨_, rfl⟩
          have HM := Lib.hid hm
          have HLA : Hid ((nd.num :: r.path).length = n + 1) := Lib.hid (by rw [List.length_cons, hrn])
          obtain ⟨iI, hiI, zI0, zI1, zI2⟩ := info_parts numInfoA
          clear hb hv h hr hrn hk hnd hnx hli hf hff hnum hnumx hcost hoi hends hp hp12 hft hm
          go_enter Try.func30, Try.ntmps30
          go_wp2_with (first
            | (go_at_call 14; (with_reducible refine (refOther5_w (i : Int) (x : Int) (j : Int) HV E0.pr.pat hs).mono ?_); rintro e y1 ⟨rfl, hy1⟩; have E1 := E0.go hy1; obtain ⟨⟨a0, a1, a2, a3, a4, a5, a6⟩, b0, b1, b2⟩ := E1.pr.cells; obtain ⟨⟨x0, x1, x2⟩, f0, f1, f2⟩ := E1.rcells)
            | (go_at_call 29; (with_reducible refine (refFits7_w p (j : Int) r true HF E1.pr.pat hs E1.pr.rat).mono ?_); rintro e y2 ⟨rfl, hy2⟩; have E2 := E1.go hy2; obtain ⟨⟨a0, a1, a2, a3, a4, a5, a6⟩, b0, b1, b2⟩ := E2.pr.cells; obtain ⟨⟨x0, x1, x2⟩, f0, f1, f2⟩ := E2.rcells; obtain ⟨l0, l1, l2⟩ := RowAt.linkAt E2.pr.pat.links HLI.out; obtain ⟨-, nj⟩ := RowAt.nodeAt E2.pr.pat.nodes HND.out; obtain ⟨-, nx1⟩ := RowAt.nodeAt E2.pr.pat.nodes HNX.out))
          have E3 := E2.drew
          have E3a := fun o => E3.alloc o
          have A3 := fun o => (E3a o).pr.cells
          have N3 := fun o => (RowAt.nodeAt (E3a o).pr.pat.nodes HND.out).2
          go_region_held3 (fun w' => w'.cell? ⟨w.heap.size, 3, none⟩ = some (.slice (some ⟨gN, 0, none⟩) p.nodes.length cn) ∧ w'.cell? ⟨w.heap.size + 1, 2, none⟩ = some (.slice A n c) ∧ w'.cell? ⟨gN, j * 2 + 1, none⟩ = some (.int .i64 nd.num)) (go_keep) (first
            | ((refine step_append_cells rfl _ _ _ (by rfl) y2.heap.size 3 iI (.int .i64 0) 1 8 Try.underlying22 hiI zI0 zI1 zI2 rfl (by decide) (.slice (some ⟨y2.heap.size, 0, none⟩) 1 1) 1 [.int .i64 nd.num] (by rfl) (own_newA y2.drew y2.heap.size 3 [.int .i64 nd.num] y2.heap.size rfl (Nat.le_refl _) 1 rfl (by omega)) _ A n c (r.path.map (Value.int .i64)) (by rfl) (by rw [List.length_map, HRN.out, Nat.mul_one]) (E3a (.cells #[.int .i64 nd.num] 3)).pr.rat.2.1 (fun u hu => by obtain ⟨y, _, rfl⟩ := List.mem_map.1 hu; rfl) (by omega) (by omega) (by simp) ?_; intro v' y3 own3 hg3; have hb3 : Below y2.drew.heap.size y2.drew y3 := (below_new y2.drew (.cells #[.int .i64 nd.num] 3)).grown hg3 (below_new y2.drew (.cells #[.int .i64 nd.num] 3)).size (fun k e => by have e2 : some y2.heap.size = some k := e; injection e2 with e2; rw [← e2]; exact Nat.le_refl _); have E4 := E3.go hb3; obtain ⟨⟨a0, a1, a2, a3, a4, a5, a6⟩, b0, b1, b2⟩ := E4.pr.cells; obtain ⟨⟨x0, x1, x2⟩, f0, f1, f2⟩ := E4.rcells; obtain ⟨-, nj4⟩ := RowAt.nodeAt E4.pr.pat.nodes HND.out))
            | fail)
          go_step
          obtain ⟨A5, c5, rfl, hc5, hcm5⟩ := own_formB own3
          have own5 : y3.ownsRow y2.heap.size 3 1 (.slice A5 (n + 1) c5) (n + 1) ((nd.num :: r.path).map (Value.int .i64)) := by have e := own3; rw [Nat.add_comm 1 n] at e; exact e
          rw [Nat.add_comm 1 n] at hc5 ⊢
          have R5 : RtAt y3 ⟨2, 0, nd.num :: r.path⟩ A5 (n + 1) := ⟨HLA.out, (RowAt.of_own own5).cells, by omega⟩
          obtain ⟨-, nx4⟩ := RowAt.nodeAt E4.pr.pat.nodes HNX.out
          have HOUT : Hid (∀ W, Below w.heap.size w W → RtAt W ⟨2, 0, nd.num :: r.path⟩ A5 (n + 1) → RtOut ⟨2, 0, nd.num :: r.path⟩ w (.returned (.agg #[.int .i64 2, .int .i64 0, .slice A5 (n + 1) c5])) W) := Lib.hid (fun W hW hR => by have e : (Rt.path ⟨2, 0, nd.num :: r.path⟩).length = n + 1 := HLA.out; exact ⟨A5, c5, by rw [e], by rw [e]; exact hR, by rw [e]; exact hc5, hcm5, hW⟩)
          have C5 : CellsAt y3 y3.heap.size A5 ((nd.num :: r.path).map (Value.int .i64)) := (RowAt.of_own own5).cells
          have n13 : n + 1 ≤ 9223372036854775807 := by omega
          by_cases hc2 : (n : Int) < p.cap
          · have t4 : decide (p.cap < (n : Int) + 1) = false := decide_eq_false (by omega)
            cases m
            · have HN : Hid ((⟨2, 0, nd.num :: r.path⟩ : Rt) = ro) := Lib.hid (by rw [← HQ.out, decide_eq_true hc2, HM.out]; rfl)
              go_wp2_with (go_at_call 47; (with_reducible refine (refIn7_any (nd.num :: r.path) A5 (n + 1) c5 nx.num false HM HLA n13 C5).mono ?_); rintro e y5 ⟨rfl, rfl⟩)
              have ho8 := own_setA (own_setA (own_setA own5 E4.res (by decide) 0 (.int .i64 2)) (E4.res.set_ 0 (.int .i64 2)) (by decide) 1 (.int .i64 0)) ((E4.res.set_ 0 (.int .i64 2)).set_ 1 (.int .i64 0)) (by decide) 2 (.slice A5 (n + 1) c5)
              have kf := resC E4.res (.int .i64 2) (.int .i64 0) (.slice A5 (n + 1) c5)
              have hbf := below_res (g := w.heap.size + 1 + 1) E4.up (by omega) (.int .i64 2) (.int .i64 0) (.slice A5 (n + 1) c5)
              have z0 := kf.cell 0
              have z1 := kf.cell 1
              have z2 := kf.cell 2
              obtain ⟨W4, hW4⟩ : ∃ W4, W4 = ((y3.setCell ⟨w.heap.size + 1 + 1, 0, none⟩ (.int .i64 2)).setCell ⟨w.heap.size + 1 + 1, 1, none⟩ (.int .i64 0)).setCell ⟨w.heap.size + 1 + 1, 2, none⟩ (.slice A5 (n + 1) c5) := ⟨_, rfl⟩
              rw [← hW4] at z0 z1 z2 hbf ho8 ⊢
              clear hW4 kf x0 x1 x2 f0 f1 f2
              refine bodyPost_ret (v := .agg #[.int .i64 2, .int .i64 0, .slice A5 (n + 1) c5]) (by first | (simp [results, Try.results30, go_sem] at z0 z1 z2 ⊢; simp [z0, z1, z2]; done) | (simp [results, Try.results30, go_sem, z0, z1, z2]; done)) rfl ?_
              rw [← HN.out]; exact HOUT.out _ hbf ⟨HLA.out, (RowAt.of_own ho8).cells, by omega⟩
            · have HN : Hid (Rt.none = ro) := Lib.hid (by rw [← HQ.out, decide_eq_true hc2, HM.out]; rfl)
              go_wp2_with (go_at_call 47; (with_reducible refine (refIn7_any (nd.num :: r.path) A5 (n + 1) c5 nx.num true HM HLA n13 C5).mono ?_); rintro e y5 ⟨rfl, rfl⟩)
              have kf := resC E4.res (.int .i64 0) (.int .i64 0) (.slice Option.none 0 0)
              have hbf := below_res (g := w.heap.size + 1 + 1) E4.up (by omega) (.int .i64 0) (.int .i64 0) (.slice Option.none 0 0)
              have z0 := kf.cell 0
              have z1 := kf.cell 1
              have z2 := kf.cell 2
              obtain ⟨W4, hW4⟩ : ∃ W4, W4 = ((y3.setCell ⟨w.heap.size + 1 + 1, 0, none⟩ (.int .i64 0)).setCell ⟨w.heap.size + 1 + 1, 1, none⟩ (.int .i64 0)).setCell ⟨w.heap.size + 1 + 1, 2, none⟩ (.slice Option.none 0 0) := ⟨_, rfl⟩
              rw [← hW4] at z0 z1 z2 hbf ⊢
              clear hW4 kf x0 x1 x2 f0 f1 f2
              refine bodyPost_ret (v := .agg #[.int .i64 0, .int .i64 0, .slice Option.none 0 0]) (by first | (simp [results, Try.results30, go_sem] at z0 z1 z2 ⊢; simp [z0, z1, z2]; done) | (simp [results, Try.results30, go_sem, z0, z1, z2]; done)) rfl ?_
              rw [← HN.out]; exact RtOut.none rfl hbf
          · have t4 : decide (p.cap < (n : Int) + 1) = true := decide_eq_true (by omega)
            have HN : Hid (Rt.none = ro) := Lib.hid (by rw [← HQ.out, decide_eq_false hc2]; rfl)
            go_wp2
            have kf := resC E4.res (.int .i64 0) (.int .i64 0) (.slice Option.none 0 0)
            have hbf := below_res (g := w.heap.size + 1 + 1) E4.up (by omega) (.int .i64 0) (.int .i64 0) (.slice Option.none 0 0)
            have z0 := kf.cell 0
            have z1 := kf.cell 1
            have z2 := kf.cell 2
            obtain ⟨W4, hW4⟩ : ∃ W4, W4 = ((y3.setCell ⟨w.heap.size + 1 + 1, 0, none⟩ (.int .i64 0)).setCell ⟨w.heap.size + 1 + 1, 1, none⟩ (.int .i64 0)).setCell ⟨w.heap.size + 1 + 1, 2, none⟩ (.slice Option.none 0 0) := ⟨_, rfl⟩
            rw [← hW4] at z0 z1 z2 hbf ⊢
            clear hW4 kf x0 x1 x2 f0 f1 f2
            refine bodyPost_ret (v := .agg #[.int .i64 0, .int .i64 0, .slice Option.none 0 0]) (by first | (simp [results, Try.results30, go_sem] at z0 z1 z2 ⊢; simp [z0, z1, z2]; done) | (simp [results, Try.results30, go_sem, z0, z1, z2]; done)) rfl ?_
            rw [← HN.out]; exact RtOut.none rfl hbf
        · rw [if_neg hp, if_neg hp] at hb
          obtain ⟨v1, v2, v3, v4⟩ := fit_vec hff hk hp
          have tp : (p.proto == 1) = true := by rcases proto_two hR with ⟨e, _⟩ | ⟨e, _⟩; simp [e]; exact absurd e hp
          have HQ := Lib.hid hb
          clear hb hv h hr hrn hk hnd hnx hli hf hff hnum hnumx hcost hoi hends hp hft v1 v4
          have ww : IntKind.i64.wrap (r.cost + l.cost) = r.cost + l.cost := IntWalk.i64_in _ (by omega)
          by_cases hc2 : r.cost + l.cost ≤ 15
          · have HN : Hid ((⟨1, r.cost + l.cost, []⟩ : Rt) = ro) := Lib.hid (by rw [← HQ.out, decide_eq_true hc2]; rfl)
            have t4 : decide (15 < r.cost + l.cost) = false := decide_eq_false (by omega)
            go_enter Try.func30, Try.ntmps30
            go_wp2_with (first
              | (go_at_call 14; (with_reducible refine (refOther5_w (i : Int) (x : Int) (j : Int) HV E0.pr.pat hs).mono ?_); rintro e y1 ⟨rfl, hy1⟩; have E1 := E0.go hy1; obtain ⟨⟨a0, a1, a2, a3, a4, a5, a6⟩, b0, b1, b2⟩ := E1.pr.cells; obtain ⟨⟨x0, x1, x2⟩, f0, f1, f2⟩ := E1.rcells)
              | (go_at_call 29; (with_reducible refine (refFits7_w p (j : Int) r true HF E1.pr.pat hs E1.pr.rat).mono ?_); rintro e y2 ⟨rfl, hy2⟩; have E2 := E1.go hy2; obtain ⟨⟨a0, a1, a2, a3, a4, a5, a6⟩, b0, b1, b2⟩ := E2.pr.cells; obtain ⟨⟨x0, x1, x2⟩, f0, f1, f2⟩ := E2.rcells; obtain ⟨l0, l1, l2⟩ := RowAt.linkAt E2.pr.pat.links HLI.out; obtain ⟨-, nj⟩ := RowAt.nodeAt E2.pr.pat.nodes HND.out; obtain ⟨-, nx1⟩ := RowAt.nodeAt E2.pr.pat.nodes HNX.out))
            go_quiet (fail)
            obtain ⟨y3, hy3⟩ : ∃ W, W = y2.drewN nq := ⟨_, rfl⟩
            have E3 := E2.go (below_drewN y2 nq)
            rw [← hy3] at E3 ⊢
            clear hy3 x0 x1 x2 f0 f1 f2
            obtain ⟨⟨a0, a1, a2, a3, a4, a5, a6⟩, b0, b1, b2⟩ := E3.pr.cells; obtain ⟨⟨x0, x1, x2⟩, f0, f1, f2⟩ := E3.rcells
            clear ww
            go_wp2
            have kf := resC E3.res (.int .i64 1) (.int .i64 (r.cost + l.cost)) (.slice Option.none 0 0)
            have hbf := below_res (g := w.heap.size + 1 + 1) E3.up (by omega) (.int .i64 1) (.int .i64 (r.cost + l.cost)) (.slice Option.none 0 0)
            have z0 := kf.cell 0
            have z1 := kf.cell 1
            have z2 := kf.cell 2
            obtain ⟨W4, hW4⟩ : ∃ W4, W4 = ((y3.setCell ⟨w.heap.size + 1 + 1, 0, none⟩ (.int .i64 1)).setCell ⟨w.heap.size + 1 + 1, 1, none⟩ (.int .i64 (r.cost + l.cost))).setCell ⟨w.heap.size + 1 + 1, 2, none⟩ (.slice Option.none 0 0) := ⟨_, rfl⟩
            rw [← hW4] at z0 z1 z2 hbf ⊢
            clear hW4 kf x0 x1 x2 f0 f1 f2
            refine bodyPost_ret (v := .agg #[.int .i64 1, .int .i64 (r.cost + l.cost), .slice Option.none 0 0]) (by first | (simp [results, Try.results30, go_sem] at z0 z1 z2 ⊢; simp [z0, z1, z2]; done) | (simp [results, Try.results30, go_sem, z0, z1, z2]; done)) rfl ?_
            rw [← HN.out]; exact RtOut.flat rfl hbf
          · have HN : Hid (Rt.none = ro) := Lib.hid (by rw [← HQ.out, decide_eq_false hc2]; rfl)
            have t4 : decide (15 < r.cost + l.cost) = true := decide_eq_true (by omega)
            go_enter Try.func30, Try.ntmps30
            go_wp2_with (first
              | (go_at_call 14; (with_reducible refine (refOther5_w (i : Int) (x : Int) (j : Int) HV E0.pr.pat hs).mono ?_); rintro e y1 ⟨rfl, hy1⟩; have E1 := E0.go hy1; obtain ⟨⟨a0, a1, a2, a3, a4, a5, a6⟩, b0, b1, b2⟩ := E1.pr.cells; obtain ⟨⟨x0, x1, x2⟩, f0, f1, f2⟩ := E1.rcells)
              | (go_at_call 29; (with_reducible refine (refFits7_w p (j : Int) r true HF E1.pr.pat hs E1.pr.rat).mono ?_); rintro e y2 ⟨rfl, hy2⟩; have E2 := E1.go hy2; obtain ⟨⟨a0, a1, a2, a3, a4, a5, a6⟩, b0, b1, b2⟩ := E2.pr.cells; obtain ⟨⟨x0, x1, x2⟩, f0, f1, f2⟩ := E2.rcells; obtain ⟨l0, l1, l2⟩ := RowAt.linkAt E2.pr.pat.links HLI.out; obtain ⟨-, nj⟩ := RowAt.nodeAt E2.pr.pat.nodes HND.out; obtain ⟨-, nx1⟩ := RowAt.nodeAt E2.pr.pat.nodes HNX.out))
            go_quiet (fail)
            obtain ⟨y3, hy3⟩ : ∃ W, W = y2.drewN nq := ⟨_, rfl⟩
            have E3 := E2.go (below_drewN y2 nq)
            rw [← hy3] at E3 ⊢
            clear hy3 x0 x1 x2 f0 f1 f2
            obtain ⟨⟨a0, a1, a2, a3, a4, a5, a6⟩, b0, b1, b2⟩ := E3.pr.cells; obtain ⟨⟨x0, x1, x2⟩, f0, f1, f2⟩ := E3.rcells
            clear ww
            go_wp2
            have kf := resC E3.res (.int .i64 0) (.int .i64 0) (.slice Option.none 0 0)
            have hbf := below_res (g := w.heap.size + 1 + 1) E3.up (by omega) (.int .i64 0) (.int .i64 0) (.slice Option.none 0 0)
            have z0 := kf.cell 0
            have z1 := kf.cell 1
            have z2 := kf.cell 2
            obtain ⟨W4, hW4⟩ : ∃ W4, W4 = ((y3.setCell ⟨w.heap.size + 1 + 1, 0, none⟩ (.int .i64 0)).setCell ⟨w.heap.size + 1 + 1, 1, none⟩ (.int .i64 0)).setCell ⟨w.heap.size + 1 + 1, 2, none⟩ (.slice Option.none 0 0) := ⟨_, rfl⟩
            rw [← hW4] at z0 z1 z2 hbf ⊢
            clear hW4 kf x0 x1 x2 f0 f1 f2
            refine bodyPost_ret (v := .agg #[.int .i64 0, .int .i64 0, .slice Option.none 0 0]) (by first | (simp [results, Try.results30, go_sem] at z0 z1 z2 ⊢; simp [z0, z1, z2]; done) | (simp [results, Try.results30, go_sem, z0, z1, z2]; done)) rfl ?_
            rw [← HN.out]; exact RtOut.none rfl hbf
end Go.Proofs.Ytlfdpfkimggeoaa
