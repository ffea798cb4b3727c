/-
  Package carry: Fits, Own.
-/
import Derived.Test.YtdmilbfdiebjgaaCaB
namespace Go.Proofs.Ytdmilbfdiebjgaa
open Go.RowKit
set_option linter.unusedVariables false
set_option linter.unusedSimpArgs false

set_option maxHeartbeats 8000000 in
set_option maxRecDepth 100000 in
theorem caFits_w (p : PPlan) (node : Int) (r : Rt) (b : Bool) (HB : Hid (fitsB p node r = b)) {An Al Ad Ac A : Option Addr} {cn cl cd cc n c : Nat} {w : World} (h : PAt w p p.proto p.cap p.k An p.nodes.length Al p.links.length Ad p.dests.length Ac p.checks.length) (hs : PSmall p) (hr : RtAt w r A n) (hl : n ≤ c) (hc : c ≤ 9223372036854775807) :
    Calls Try.prog 33 #[.agg #[.int .i64 p.proto, .int .i64 p.cap, .int .i64 p.k, .slice An p.nodes.length cn, .slice Al p.links.length cl, .slice Ad p.dests.length cd, .slice Ac p.checks.length cc], .int .i64 node, .agg #[.int .i64 r.kind, .int .i64 r.cost, .slice A n c]] w fun e w' => e = .returned (.bool b) ∧ Below w.heap.size w w' := by
  have hb := HB.out
  unfold fitsB at hb
  have E0 := PR.new (c := c) (cn := cn) (cl := cl) (cd := cd) (cc := cc) h hr
  obtain ⟨⟨a0, a1, a2, a3, a4, a5, a6⟩, b0, b1, b2⟩ := E0.cells
  have hln := hs.ln
  clear h hr
  cases hR : rightB p
  · have HR := Lib.hid hR
    have HV : Hid (false = b) := Lib.hid (by rw [← hb, hR]; rfl)
    clear hb hR
    go_enter Try.func33, Try.ntmps33
    go_wp2_with (first
      | (go_at_call 40; (with_reducible refine (Right_is false HR hs E0.pat).mono ?_); rintro e y1 ⟨rfl, hy1⟩; have E1 := E0.go hy1; obtain ⟨⟨a0, a1, a2, a3, a4, a5, a6⟩, b0, b1, b2⟩ := E1.cells))
    go_ret
    exact ⟨ret_bool HV.out, E1.up⟩
  · have HR := Lib.hid hR
    rw [hR, Bool.true_and] at hb
    clear hR
    by_cases h0 : node < 0
    · have HV : Hid (false = b) := Lib.hid (by rw [← hb, decide_eq_false (by omega)]; rfl)
      clear hb
      go_enter Try.func33, Try.ntmps33
      go_wp2_with (first
        | (go_at_call 40; (with_reducible refine (Right_is true HR hs E0.pat).mono ?_); rintro e y1 ⟨rfl, hy1⟩; have E1 := E0.go hy1; obtain ⟨⟨a0, a1, a2, a3, a4, a5, a6⟩, b0, b1, b2⟩ := E1.cells))
      go_ret
      exact ⟨ret_bool HV.out, E1.up⟩
    · obtain ⟨i, rfl⟩ := Int.eq_ofNat_of_zero_le (Int.not_lt.1 h0)
      have i0 : (0 : Int) ≤ (i : Int) := by omega
      rw [decide_eq_true i0, Bool.true_and] at hb
      by_cases h1 : (i : Int) < (p.nodes.length : Int)
      · obtain ⟨nd, hnd⟩ : ∃ nd, p.nodes[i]? = some nd := ⟨_, List.getElem?_eq_getElem (by omega)⟩
        have hnum : numAt p (i : Int) = nd.num := by unfold numAt; rw [Int.toNat_natCast, hnd]; rfl
        rw [decide_eq_true h1, Bool.true_and, hnum] at hb
        have HV := Lib.hid hb
        have HND := Lib.hid hnd
        clear hb hnum h0 hnd
        go_enter Try.func33, Try.ntmps33
        go_wp2_with (first
          | (go_at_call 40; (with_reducible refine (Right_is true HR hs E0.pat).mono ?_); rintro e y1 ⟨rfl, hy1⟩; have E1 := E0.go hy1; obtain ⟨⟨a0, a1, a2, a3, a4, a5, a6⟩, b0, b1, b2⟩ := E1.cells)
          | (go_at_call 56; (with_reducible refine (caFits_any p i nd HND.out r E1.pat hs E1.rat hl hc).mono ?_); rintro e y2 ⟨rfl, hy2⟩; have E2 := E1.go hy2))
        go_ret
        exact ⟨ret_bool HV.out, E2.up⟩
      · have HV : Hid (false = b) := Lib.hid (by rw [← hb, decide_eq_false h1]; rfl)
        clear hb h0
        go_enter Try.func33, Try.ntmps33
        go_wp2_with (first
          | (go_at_call 40; (with_reducible refine (Right_is true HR hs E0.pat).mono ?_); rintro e y1 ⟨rfl, hy1⟩; have E1 := E0.go hy1; obtain ⟨⟨a0, a1, a2, a3, a4, a5, a6⟩, b0, b1, b2⟩ := E1.cells))
        go_ret
        exact ⟨ret_bool HV.out, E1.up⟩

def origAt (p : PPlan) (dest : Int) : List Int := ((p.dests[dest.toNat]?).map (·.orig)).getD []
def ownB (p : PPlan) (dest node : Int) : Rt := if (rightB p && (decide (0 ≤ dest) && (decide (dest < p.dests.length) && memI node (origAt p dest)))) = true then ownR p else Rt.none
/-- A route that a call tells. -/
def RtOut (r : Rt) (w : World) (e : Ending) (w' : World) : Prop := ∃ A c, e = .returned (.agg #[.int .i64 r.kind, .int .i64 r.cost, .slice A r.path.length c]) ∧ RtAt w' r A r.path.length ∧ r.path.length ≤ c ∧ c ≤ 9223372036854775807 ∧ Below w.heap.size w w'
theorem RtOut.none {w w' : World} {e : Ending} (he : e = .returned (.agg #[.int .i64 0, .int .i64 0, .slice Option.none 0 0])) (hb : Below w.heap.size w w') : RtOut Rt.none w e w' := ⟨Option.none, 0, he, ⟨rfl, CellsAt.nil _ _ _, by show 0 ≤ _; omega⟩, Nat.le_refl _, by omega, hb⟩
theorem RtOut.flat {k c : Int} {w w' : World} {e : Ending} (he : e = .returned (.agg #[.int .i64 k, .int .i64 c, .slice Option.none 0 0])) (hb : Below w.heap.size w w') : RtOut ⟨k, c, []⟩ w e w' := ⟨Option.none, 0, he, ⟨rfl, CellsAt.nil _ _ _, by show 0 ≤ _; omega⟩, Nat.le_refl _, by omega, hb⟩
/-- A route's block, written whole. -/
theorem resC {W : World} {g : Nat} {t : TypeId} {x y z : Value} (k : Blk W g t #[x, y, z]) (a b c : Value) :
    Blk (((W.setCell ⟨g, 0, Option.none⟩ a).setCell ⟨g, 1, Option.none⟩ b).setCell ⟨g, 2, Option.none⟩ c) g t #[a, b, c] := ((k.set_ 0 a).set_ 1 b).set_ 2 c
theorem below_res {w W : World} {g : Nat} (h : Below w.heap.size w W) (hg : w.heap.size ≤ g) (a b c : Value) : Below w.heap.size w (((W.setCell ⟨g, 0, Option.none⟩ a).setCell ⟨g, 1, Option.none⟩ b).setCell ⟨g, 2, Option.none⟩ c) := ((h.setCell (p := ⟨g, 0, Option.none⟩) hg a).setCell (p := ⟨g, 1, Option.none⟩) hg b).setCell (p := ⟨g, 2, Option.none⟩) hg c
/-- Own's boxes. -/
structure OW (w0 : World) (p : PPlan) (An : Option Addr) (cn : Nat) (Al : Option Addr) (cl : Nat) (Ad : Option Addr) (cd : Nat) (Ac : Option Addr) (cc : Nat) (w : World) : Prop where
  pb : Blk w w0.heap.size 29 #[.int .i64 p.proto, .int .i64 p.cap, .int .i64 p.k, .slice An p.nodes.length cn, .slice Al p.links.length cl, .slice Ad p.dests.length cd, .slice Ac p.checks.length cc]
  res : Blk w (w0.heap.size + 1) 42 #[.int .i64 0, .int .i64 0, .slice Option.none 0 0]
  pat : PAt w p p.proto p.cap p.k An p.nodes.length Al p.links.length Ad p.dests.length Ac p.checks.length
  up : Below w0.heap.size w0 w
section
variable {w0 w w' : World} {p : PPlan} {An Al Ad Ac : Option Addr} {cn cl cd cc : Nat}
theorem OW.go (h : OW w0 p An cn Al cl Ad cd Ac cc w) (hb : Below w.heap.size w w') : OW w0 p An cn Al cl Ad cd Ac cc w' := ⟨h.pb.up hb, h.res.up hb, h.pat.up hb, below_on h.up hb⟩
theorem OW.new (h : PAt w p p.proto p.cap p.k An p.nodes.length Al p.links.length Ad p.dests.length Ac p.checks.length) : OW w p An cn Al cl Ad cd Ac cc ((w.alloc (.cells #[.int .i64 p.proto, .int .i64 p.cap, .int .i64 p.k, .slice An p.nodes.length cn, .slice Al p.links.length cl, .slice Ad p.dests.length cd, .slice Ac p.checks.length cc] 29)).alloc (.cells #[.int .i64 0, .int .i64 0, .slice Option.none 0 0] 42)) :=
  ⟨(Blk.new w _ _).alloc _, by simpa using Blk.new (w.alloc (.cells #[.int .i64 p.proto, .int .i64 p.cap, .int .i64 p.k, .slice An p.nodes.length cn, .slice Al p.links.length cl, .slice Ad p.dests.length cd, .slice Ac p.checks.length cc] 29)) 42 #[.int .i64 0, .int .i64 0, .slice Option.none 0 0], h.up (below_2 w _ _), below_2 w _ _⟩
theorem OW.cells (h : OW w0 p An cn Al cl Ad cd Ac cc w) : (w.cell? ⟨w0.heap.size, 0, none⟩ = some (.int .i64 p.proto) ∧ w.cell? ⟨w0.heap.size, 1, none⟩ = some (.int .i64 p.cap) ∧ w.cell? ⟨w0.heap.size, 2, none⟩ = some (.int .i64 p.k) ∧ w.cell? ⟨w0.heap.size, 3, none⟩ = some (.slice An p.nodes.length cn) ∧ w.cell? ⟨w0.heap.size, 4, none⟩ = some (.slice Al p.links.length cl) ∧ w.cell? ⟨w0.heap.size, 5, none⟩ = some (.slice Ad p.dests.length cd) ∧ w.cell? ⟨w0.heap.size, 6, none⟩ = some (.slice Ac p.checks.length cc)) ∧
    (w.cell? ⟨w0.heap.size + 1, 0, none⟩ = some (.int .i64 0) ∧ w.cell? ⟨w0.heap.size + 1, 1, none⟩ = some (.int .i64 0) ∧ w.cell? ⟨w0.heap.size + 1, 2, none⟩ = some (.slice none 0 0)) ∧ w.frozen? ⟨w0.heap.size + 1, 0, none⟩ = false ∧ w.frozen? ⟨w0.heap.size + 1, 1, none⟩ = false ∧ w.frozen? ⟨w0.heap.size + 1, 2, none⟩ = false := ⟨box7 h.pb, ⟨h.res.cell 0, h.res.cell 1, h.res.cell 2⟩, h.res.frozen 0, h.res.frozen 1, h.res.frozen 2⟩
end
set_option maxHeartbeats 8000000 in
set_option maxRecDepth 100000 in
theorem caOwn_w (p : PPlan) (dest node : Int) (r : Rt) (HB : Hid (ownB p dest node = r)) {An Al Ad Ac : Option Addr} {cn cl cd cc : Nat} {w : World} (h : PAt w p p.proto p.cap p.k An p.nodes.length Al p.links.length Ad p.dests.length Ac p.checks.length) (hs : PSmall p) :
    Calls Try.prog 28 #[.agg #[.int .i64 p.proto, .int .i64 p.cap, .int .i64 p.k, .slice An p.nodes.length cn, .slice Al p.links.length cl, .slice Ad p.dests.length cd, .slice Ac p.checks.length cc], .int .i64 dest, .int .i64 node] w (RtOut r w) := by
  have hb := HB.out
  unfold ownB at hb
  have E0 := OW.new (cn := cn) (cl := cl) (cd := cd) (cc := cc) h
  obtain ⟨⟨a0, a1, a2, a3, a4, a5, a6⟩, ⟨x0, x1, x2⟩, f0, f1, f2⟩ := E0.cells
  have hld := hs.ld
  cases hR : rightB p
  · have HR := Lib.hid hR
    have HV : Hid (Rt.none = r) := Lib.hid (by rw [← hb, hR, if_neg (by simp)])
    clear hb hR h
    go_enter Try.func28, Try.ntmps28
    go_wp2_with (first
      | (go_at_call 40; (with_reducible refine (Right_is false HR hs E0.pat).mono ?_); rintro e y1 ⟨rfl, hy1⟩; have E1 := E0.go hy1; obtain ⟨⟨a0, a1, a2, a3, a4, a5, a6⟩, ⟨x0, x1, x2⟩, f0, f1, f2⟩ := E1.cells))
    have kf := resC E1.res (.int .i64 0) (.int .i64 0) (.slice Option.none 0 0)
    have hbf := below_res (g := w.heap.size + 1) E1.up (by omega) (.int .i64 0) (.int .i64 0) (.slice Option.none 0 0)
    have z0 := kf.cell 0
    have z1 := kf.cell 1
    have z2 := kf.cell 2
    obtain ⟨W4, hW4⟩ : ∃ W4, W4 = ((y1.setCell ⟨w.heap.size + 1, 0, none⟩ (.int .i64 0)).setCell ⟨w.heap.size + 1, 1, none⟩ (.int .i64 0)).setCell ⟨w.heap.size + 1, 2, none⟩ (.slice Option.none 0 0) := ⟨_, rfl⟩
    rw [← hW4] at z0 z1 z2 hbf ⊢
    clear hW4 kf x0 x1 x2 f0 f1 f2
    refine bodyPost_ret (v := .agg #[.int .i64 0, .int .i64 0, .slice Option.none 0 0]) (by first | (simp [results, Try.results28, go_sem] at z0 z1 z2 ⊢; simp [z0, z1, z2]; done) | (simp [results, Try.results28, go_sem, z0, z1, z2]; done)) rfl ?_
    rw [← HV.out]; exact RtOut.none rfl hbf
  · have HR := Lib.hid hR
    rw [hR, Bool.true_and] at hb
    clear hR
    by_cases h0 : dest < 0
    · have HV : Hid (Rt.none = r) := Lib.hid (by rw [← hb, decide_eq_false (by omega), if_neg (by simp)])
      clear hb h
      go_enter Try.func28, Try.ntmps28
      go_wp2_with (first
        | (go_at_call 40; (with_reducible refine (Right_is true HR hs E0.pat).mono ?_); rintro e y1 ⟨rfl, hy1⟩; have E1 := E0.go hy1; obtain ⟨⟨a0, a1, a2, a3, a4, a5, a6⟩, ⟨x0, x1, x2⟩, f0, f1, f2⟩ := E1.cells))
      have kf := resC E1.res (.int .i64 0) (.int .i64 0) (.slice Option.none 0 0)
      have hbf := below_res (g := w.heap.size + 1) E1.up (by omega) (.int .i64 0) (.int .i64 0) (.slice Option.none 0 0)
      have z0 := kf.cell 0
      have z1 := kf.cell 1
      have z2 := kf.cell 2
      obtain ⟨W4, hW4⟩ : ∃ W4, W4 = ((y1.setCell ⟨w.heap.size + 1, 0, none⟩ (.int .i64 0)).setCell ⟨w.heap.size + 1, 1, none⟩ (.int .i64 0)).setCell ⟨w.heap.size + 1, 2, none⟩ (.slice Option.none 0 0) := ⟨_, rfl⟩
      rw [← hW4] at z0 z1 z2 hbf ⊢
      clear hW4 kf x0 x1 x2 f0 f1 f2
      refine bodyPost_ret (v := .agg #[.int .i64 0, .int .i64 0, .slice Option.none 0 0]) (by first | (simp [results, Try.results28, go_sem] at z0 z1 z2 ⊢; simp [z0, z1, z2]; done) | (simp [results, Try.results28, go_sem, z0, z1, z2]; done)) rfl ?_
      rw [← HV.out]; exact RtOut.none rfl hbf
    · obtain ⟨i, rfl⟩ := Int.eq_ofNat_of_zero_le (Int.not_lt.1 h0)
      have i0 : (0 : Int) ≤ (i : Int) := by omega
      rw [decide_eq_true i0, Bool.true_and] at hb
      by_cases h1 : (i : Int) < (p.dests.length : Int)
      · obtain ⟨d, hd⟩ : ∃ d, p.dests[i]? = some d := ⟨_, List.getElem?_eq_getElem (by omega)⟩
        have hor : origAt p (i : Int) = d.orig := by unfold origAt; rw [Int.toNat_natCast, hd]; rfl
        rw [decide_eq_true h1, Bool.true_and, hor] at hb
        have HD := Lib.hid hd
        have hol : d.orig.length ≤ 9223372036854775807 := by have := (hs.dests d (List.mem_of_getElem? hd)).2; omega
        obtain ⟨g, _, _, rfl, _⟩ := h.dests.dest hd
        clear hor h0 hd h
        obtain ⟨m, hm⟩ : ∃ m, memI node d.orig = m := ⟨_, rfl⟩
        have HM := Lib.hid hm
        rw [hm] at hb
        cases m
        · have HV : Hid (Rt.none = r) := Lib.hid (by rw [← hb, if_neg (by simp)])
          clear hb hm
          go_enter Try.func28, Try.ntmps28
          go_wp2_with (first
            | (go_at_call 40; (with_reducible refine (Right_is true HR hs E0.pat).mono ?_); rintro e y1 ⟨rfl, hy1⟩; have E1 := E0.go hy1; obtain ⟨⟨a0, a1, a2, a3, a4, a5, a6⟩, ⟨x0, x1, x2⟩, f0, f1, f2⟩ := E1.cells; obtain ⟨g', Ao, co, hAd', _, dn, ds, hro⟩ := E1.pat.dests.dest HD.out; have e := Option.some.inj hAd'; injection e with e; subst e)
            | (go_at_call 52; (with_reducible refine (slContains_is d.orig _ false node HM (Lib.hid rfl) hol hro.cells).mono ?_); rintro e y2 ⟨rfl, rfl⟩))
          have kf := resC E1.res (.int .i64 0) (.int .i64 0) (.slice Option.none 0 0)
          have hbf := below_res (g := w.heap.size + 1) E1.up (by omega) (.int .i64 0) (.int .i64 0) (.slice Option.none 0 0)
          have z0 := kf.cell 0
          have z1 := kf.cell 1
          have z2 := kf.cell 2
          obtain ⟨W4, hW4⟩ : ∃ W4, W4 = ((y1.setCell ⟨w.heap.size + 1, 0, none⟩ (.int .i64 0)).setCell ⟨w.heap.size + 1, 1, none⟩ (.int .i64 0)).setCell ⟨w.heap.size + 1, 2, none⟩ (.slice Option.none 0 0) := ⟨_, rfl⟩
          rw [← hW4] at z0 z1 z2 hbf ⊢
          clear hW4 kf x0 x1 x2 f0 f1 f2
          refine bodyPost_ret (v := .agg #[.int .i64 0, .int .i64 0, .slice Option.none 0 0]) (by first | (simp [results, Try.results28, go_sem] at z0 z1 z2 ⊢; simp [z0, z1, z2]; done) | (simp [results, Try.results28, go_sem, z0, z1, z2]; done)) rfl ?_
          rw [← HV.out]; exact RtOut.none rfl hbf
        · rw [if_pos rfl] at hb
          unfold ownR at hb
          by_cases hp : p.proto = 2
          · rw [if_pos hp] at hb
            have HV := Lib.hid hb
            have HP := Lib.hid hp
            clear hb hm hp
            have m1 : ∀ (k : Nat) (w : World), (method (k + 1) 99 (.agg #[.int .i64 p.cap]) "backstay/carry.own").run Try.prog w = .ok (120, .agg #[.int .i64 p.cap]) w := fun _ _ => by kernel_rfl
            have m2 : ∀ (k : Nat) (w : World), (nilAhead (k + 1) 99 (.agg #[.int .i64 p.cap]) "backstay/carry.own").run Try.prog w = .ok (some false) w := fun _ _ => by kernel_rfl
            go_enter Try.func28, Try.ntmps28
            go_wp2_with (first
              | (go_at_call 40; (with_reducible refine (Right_is true HR hs E0.pat).mono ?_); rintro e y1 ⟨rfl, hy1⟩; have E1 := E0.go hy1; obtain ⟨⟨a0, a1, a2, a3, a4, a5, a6⟩, ⟨x0, x1, x2⟩, f0, f1, f2⟩ := E1.cells; obtain ⟨g', Ao, co, hAd', _, dn, ds, hro⟩ := E1.pat.dests.dest HD.out; have e := Option.some.inj hAd'; injection e with e; subst e)
              | (go_at_call 52; (with_reducible refine (slContains_is d.orig _ true node HM (Lib.hid rfl) hol hro.cells).mono ?_); rintro e y2 ⟨rfl, rfl⟩)
              | (go_at_call 53; (with_reducible refine (protocolOf_pth HP.out _).mono ?_); rintro e y3 ⟨rfl, hy3⟩; have E3 := E1.go hy3; obtain ⟨⟨a0, a1, a2, a3, a4, a5, a6⟩, ⟨x0, x1, x2⟩, f0, f1, f2⟩ := E3.cells)
              | (go_at_call 120; (with_reducible refine (pth_own p.cap _).mono ?_); rintro e y4 ⟨rfl, hy4⟩; have E4 := E3.go hy4; obtain ⟨⟨a0, a1, a2, a3, a4, a5, a6⟩, ⟨x0, x1, x2⟩, f0, f1, f2⟩ := E4.cells))
            have kf := resC E4.res (.int .i64 2) (.int .i64 0) (.slice Option.none 0 0)
            have hbf := below_res (g := w.heap.size + 1) E4.up (by omega) (.int .i64 2) (.int .i64 0) (.slice Option.none 0 0)
            have z0 := kf.cell 0
            have z1 := kf.cell 1
            have z2 := kf.cell 2
            obtain ⟨W4, hW4⟩ : ∃ W4, W4 = ((y4.setCell ⟨w.heap.size + 1, 0, none⟩ (.int .i64 2)).setCell ⟨w.heap.size + 1, 1, none⟩ (.int .i64 0)).setCell ⟨w.heap.size + 1, 2, none⟩ (.slice Option.none 0 0) := ⟨_, rfl⟩
            rw [← hW4] at z0 z1 z2 hbf ⊢
            clear hW4 kf x0 x1 x2 f0 f1 f2
            refine bodyPost_ret (v := .agg #[.int .i64 2, .int .i64 0, .slice Option.none 0 0]) (by first | (simp [results, Try.results28, go_sem] at z0 z1 z2 ⊢; simp [z0, z1, z2]; done) | (simp [results, Try.results28, go_sem, z0, z1, z2]; done)) rfl ?_
            rw [← HV.out]; exact RtOut.flat rfl hbf
          · rw [if_neg hp] at hb
            have HV := Lib.hid hb
            have HP := Lib.hid hp
            clear hb hm hp
            have m1 : ∀ (k : Nat) (w : World), (method (k + 1) 101 (.agg #[]) "backstay/carry.own").run Try.prog w = .ok (123, .agg #[]) w := fun _ _ => by kernel_rfl
            have m2 : ∀ (k : Nat) (w : World), (nilAhead (k + 1) 101 (.agg #[]) "backstay/carry.own").run Try.prog w = .ok (some false) w := fun _ _ => by kernel_rfl
            go_enter Try.func28, Try.ntmps28
            go_wp2_with (first
              | (go_at_call 40; (with_reducible refine (Right_is true HR hs E0.pat).mono ?_); rintro e y1 ⟨rfl, hy1⟩; have E1 := E0.go hy1; obtain ⟨⟨a0, a1, a2, a3, a4, a5, a6⟩, ⟨x0, x1, x2⟩, f0, f1, f2⟩ := E1.cells; obtain ⟨g', Ao, co, hAd', _, dn, ds, hro⟩ := E1.pat.dests.dest HD.out; have e := Option.some.inj hAd'; injection e with e; subst e)
              | (go_at_call 52; (with_reducible refine (slContains_is d.orig _ true node HM (Lib.hid rfl) hol hro.cells).mono ?_); rintro e y2 ⟨rfl, rfl⟩)
              | (go_at_call 53; (with_reducible refine (protocolOf_vec HP.out _).mono ?_); rintro e y3 ⟨rfl, hy3⟩; have E3 := E1.go hy3; obtain ⟨⟨a0, a1, a2, a3, a4, a5, a6⟩, ⟨x0, x1, x2⟩, f0, f1, f2⟩ := E3.cells)
              | (go_at_call 123; (with_reducible refine (vec_own _).mono ?_); rintro e y4 ⟨rfl, hy4⟩; have E4 := E3.go hy4; obtain ⟨⟨a0, a1, a2, a3, a4, a5, a6⟩, ⟨x0, x1, x2⟩, f0, f1, f2⟩ := E4.cells))
            have kf := resC E4.res (.int .i64 1) (.int .i64 0) (.slice Option.none 0 0)
            have hbf := below_res (g := w.heap.size + 1) E4.up (by omega) (.int .i64 1) (.int .i64 0) (.slice Option.none 0 0)
            have z0 := kf.cell 0
            have z1 := kf.cell 1
            have z2 := kf.cell 2
            obtain ⟨W4, hW4⟩ : ∃ W4, W4 = ((y4.setCell ⟨w.heap.size + 1, 0, none⟩ (.int .i64 1)).setCell ⟨w.heap.size + 1, 1, none⟩ (.int .i64 0)).setCell ⟨w.heap.size + 1, 2, none⟩ (.slice Option.none 0 0) := ⟨_, rfl⟩
            rw [← hW4] at z0 z1 z2 hbf ⊢
            clear hW4 kf x0 x1 x2 f0 f1 f2
            refine bodyPost_ret (v := .agg #[.int .i64 1, .int .i64 0, .slice Option.none 0 0]) (by first | (simp [results, Try.results28, go_sem] at z0 z1 z2 ⊢; simp [z0, z1, z2]; done) | (simp [results, Try.results28, go_sem, z0, z1, z2]; done)) rfl ?_
            rw [← HV.out]; exact RtOut.flat rfl hbf
      · have HV : Hid (Rt.none = r) := Lib.hid (by rw [← hb, decide_eq_false h1, if_neg (by simp)])
        clear hb h0 h
        go_enter Try.func28, Try.ntmps28
        go_wp2_with (first
          | (go_at_call 40; (with_reducible refine (Right_is true HR hs E0.pat).mono ?_); rintro e y1 ⟨rfl, hy1⟩; have E1 := E0.go hy1; obtain ⟨⟨a0, a1, a2, a3, a4, a5, a6⟩, ⟨x0, x1, x2⟩, f0, f1, f2⟩ := E1.cells))
        have kf := resC E1.res (.int .i64 0) (.int .i64 0) (.slice Option.none 0 0)
        have hbf := below_res (g := w.heap.size + 1) E1.up (by omega) (.int .i64 0) (.int .i64 0) (.slice Option.none 0 0)
        have z0 := kf.cell 0
        have z1 := kf.cell 1
        have z2 := kf.cell 2
        obtain ⟨W4, hW4⟩ : ∃ W4, W4 = ((y1.setCell ⟨w.heap.size + 1, 0, none⟩ (.int .i64 0)).setCell ⟨w.heap.size + 1, 1, none⟩ (.int .i64 0)).setCell ⟨w.heap.size + 1, 2, none⟩ (.slice Option.none 0 0) := ⟨_, rfl⟩
        rw [← hW4] at z0 z1 z2 hbf ⊢
        clear hW4 kf x0 x1 x2 f0 f1 f2
        refine bodyPost_ret (v := .agg #[.int .i64 0, .int .i64 0, .slice Option.none 0 0]) (by first | (simp [results, Try.results28, go_sem] at z0 z1 z2 ⊢; simp [z0, z1, z2]; done) | (simp [results, Try.results28, go_sem, z0, z1, z2]; done)) rfl ?_
        rw [← HV.out]; exact RtOut.none rfl hbf
end Go.Proofs.Ytdmilbfdiebjgaa
