/-
  Two tables know nothing of one another; what comes out may be written into.
-/
import Derived.Test.YtlfdpfkimggeoaaDoorTbG
namespace Go.Proofs.YtlfdpfkimggeoaaDoor
open Go.RowKit
set_option linter.unusedVariables false
set_option linter.unusedSimpArgs false

theorem own_store {w : World} {base : Nat} {e : TypeId} {g n c j : Nat} {xs : List Value} (h : w.ownsRow base e 1 (.slice (some ⟨g, 0, none⟩) n c) n xs) (hj : j < n) (u : Value) :
    (∃ xs', (w.setCell ⟨g, j, none⟩ u).ownsRow base e 1 (.slice (some ⟨g, 0, none⟩) n c) n xs') ∧ (∃ v, w.cell? ⟨g, j, none⟩ = some v) ∧ w.frozen? ⟨g, j, none⟩ = false := by
  rcases h.2 with ⟨h0, _⟩ | ⟨g', cap, cur, hv, hb, hg, hnc, hcm, hsz, htk⟩
  · injection h0 with h0 _ _; cases h0
  · injection hv with h1 h2 h3
    injection h1 with h1
    injection h1 with h1 _ _
    subst h1 h3
    have hk : Blk w g e cur := hg
    have hk2 := hk.set_ j u
    refine ⟨⟨_, ?_, .inr ⟨g, c, _, rfl, hb, hk2, hnc, hcm, by simpa using hsz, rfl⟩⟩, ⟨cur[j]'(by omega), ?_⟩, hk.frozen j⟩
    · simp; omega
    · rw [hk.cell j]; exact Array.getElem?_eq_getElem _
theorem P2.sep {X : Nat → Prop} {w0 W W' : World} {F G : Nat → Prop} {tb ub : Nat} {mt mu : Int} {lt lu : List Rt} (h : P2 w0 F tb mt lt G ub mu lu W) (s : Sep X W W') (hF : ∀ k, X k → ¬ F k) (hG : ∀ k, X k → ¬ G k) (hb : ∀ k, X k → w0.heap.size ≤ k) : P2 w0 F tb mt lt G ub mu lu W' :=
  ⟨h.t.sep s hF hb, h.u.sep s hG hb, h.dis⟩
/-- A route that came out of a table, in a box, beside two tables and another route. -/
structure A3 (w0 : World) (F : Nat → Prop) (tb : Nat) (lt : List Rt) (G : Nat → Prop) (ub : Nat) (lu : List Rt) (b : Nat) (r : Rt) (Ar : Option Addr) (nr cr bx : Nat) (A6 : Option Addr) (c6 : Nat) (W : World) : Prop where
  p : P2 w0 F tb 50 lt G ub 50 lu W
  x : BoxR F b r Ar nr cr W
  bb : Blk W bx 25 #[.int .i64 r.kind, .int .i64 r.cost, .slice A6 nr c6]
  own : ∃ xs, W.ownsRow 0 3 1 (.slice A6 nr c6) nr xs
  far : ∀ g, (Value.slice A6 nr c6).ownBlock = some g → ¬ F g ∧ ¬ G g ∧ g ≠ b ∧ g ≠ bx ∧ w0.heap.size ≤ g ∧ ∀ a, Ar = some a → a.block ≠ g
section
variable {w0 W W' : World} {F G : Nat → Prop} {tb ub : Nat} {lt lu : List Rt} {b : Nat} {r : Rt} {Ar : Option Addr} {nr cr bx : Nat} {A6 : Option Addr} {c6 : Nat}
theorem A3.go (h : A3 w0 F tb lt G ub lu b r Ar nr cr bx A6 c6 W) (hb : Below W.heap.size W W') : A3 w0 F tb lt G ub lu b r Ar nr cr bx A6 c6 W' :=
  ⟨h.p.go hb, h.x.go hb, h.bb.up hb, by obtain ⟨xs, hx⟩ := h.own; exact ⟨xs, own_below hx hb⟩, h.far⟩
theorem A3.drew (h : A3 w0 F tb lt G ub lu b r Ar nr cr bx A6 c6 W) : A3 w0 F tb lt G ub lu b r Ar nr cr bx A6 c6 W.drew := h.go ((Below.refl _ _).drew)
theorem A3.store (h : A3 w0 F tb lt G ub lu b r Ar nr cr bx A6 c6 W) {j : Nat} (hj : j < nr) (u : Value) : ∃ g, A6 = some ⟨g, 0, none⟩ ∧ A3 w0 F tb lt G ub lu b r Ar nr cr bx A6 c6 (W.setCell ⟨g, j, none⟩ u) ∧ (∃ v, W.cell? ⟨g, j, none⟩ = some v) ∧ W.frozen? ⟨g, j, none⟩ = false := by
  obtain ⟨xs, hx⟩ := h.own
  obtain ⟨g, cap, hv, _, _⟩ := hx.form (by omega)
  injection hv with hA _ _
  subst hA
  obtain ⟨o1, o2, o3⟩ := own_store hx hj u
  obtain ⟨f1, f2, f3, f4, f5, f6⟩ := h.far g rfl
  have s : Sep (fun k => k = g) W (W.setCell ⟨g, j, none⟩ u) := Sep.of_set _ _ _ rfl
  exact ⟨g, rfl, ⟨h.p.sep s (fun k e => by rw [e]; exact f1) (fun k e => by rw [e]; exact f2) (fun k e => by rw [e]; exact f5), ⟨s.blk h.x.box (fun e => f3 e.symm), h.x.nb, h.x.at_.sep s (fun a ha e => f6 a ha e), fun a ha => ⟨(h.x.na a ha).1, Nat.lt_of_lt_of_le (h.x.na a ha).2 s.size⟩⟩, s.blk h.bb (fun e => f4 e.symm), o1, h.far⟩, o2, o3⟩
theorem A3.cells (h : A3 w0 F tb lt G ub lu b r Ar nr cr bx A6 c6 W) : W.cell? ⟨bx, 2, none⟩ = some (.slice A6 nr c6) ∧ W.cell? ⟨b, 0, none⟩ = some (.int .i64 r.kind) ∧ W.cell? ⟨b, 1, none⟩ = some (.int .i64 r.cost) ∧ W.cell? ⟨b, 2, none⟩ = some (.slice Ar nr cr) := ⟨h.bb.cell 2, h.x.cells.1, h.x.cells.2.1, h.x.cells.2.2⟩
/-- What comes out is apart from all else. -/
theorem A3.new {w4 w5 : World} (h : P2 w0 F tb 50 lt G ub 50 lu w4) (x : BoxR F b r Ar nr cr w4) (hb : Below w4.heap.size w4 w5) (ho : w5.ownsRow w4.heap.size 3 1 (.slice A6 nr c6) nr (r.path.map (Value.int .i64))) :
    A3 w0 F tb lt G ub lu b r Ar nr cr w5.heap.size A6 c6 (w5.alloc (.cells #[.int .i64 r.kind, .int .i64 r.cost, .slice A6 nr c6] 25)) := by
  have hb2 := below_on hb (below_new w5 (.cells #[.int .i64 r.kind, .int .i64 r.cost, .slice A6 nr c6] 25))
  refine ⟨h.go hb2, x.go hb2, Blk.new _ _ _, ⟨_, (own_base ho (Nat.zero_le _)).alloc _⟩, fun g hg => ?_⟩
  have q := ho.lt g hg
  exact ⟨fun e => by have := h.t.tab.lt g e; omega, fun e => by have := h.u.tab.lt g e; omega, by have := x.box.lt; omega, by omega, by have := h.t.up.size; omega, fun a ha => by have := (x.na a ha).2; omega⟩
end
theorem add_at {most : Int} {l : List Rt} {r : Rt} (hr : rtRight r = true) (hn : l.Nodup) (hf : (l.length : Int) < most) : ∃ (i : Nat) (L : List Rt), addK most l r = (i : Int) ∧ addE most l r = 0 ∧ addL most l r = L ∧ L[i]? = some r ∧ L.length ≤ l.length + 1 := by
  by_cases hm : r ∈ l
  · obtain ⟨i, hi, _⟩ := ixR_some hm
    obtain ⟨a, b, c⟩ := add_old (most := most) hr hm
    exact ⟨i, l, by rw [a, ixR_at hn hi], b, c, hi, by omega⟩
  · obtain ⟨a, b, c⟩ := add_new hr hm hf
    exact ⟨l.length, _, a, b, c, by simp, by simp⟩

set_option maxHeartbeats 8000000 in
set_option maxRecDepth 100000 in
theorem tableApart_walk (A1 : Option Addr) (c1 : Nat) (L1 : List (List Int)) (hz1 : ∀ l ∈ L1, (∀ v ∈ l, InI v) ∧ l.length ≤ 9223372036854775807) (hm1 : L1.length ≤ 9223372036854775807) (x1 : Int) (hx1 : InI x1) (w : World) (hT : PowTab w) (hA1 : LsAt w A1 L1) :
    Calls Tryd.prog 6 #[.slice A1 L1.length c1, .int .i64 x1] w fun e w' => e = .returned (.bool true) ∧ Below w.heap.size w w' := by
  obtain ⟨N, hN⟩ : ∃ n, L1.length = n := ⟨_, rfl⟩
  rw [hN] at hm1 ⊢
  have HNN := Lib.hid hN
  have HZ := Lib.hid hz1
  have HA := Lib.hid hA1
  have HP := Lib.hid hT
  have SU : Hid ((([Rt.none] : List Rt).length : Int) = 1) := Lib.hid rfl
  have GU : Hid (getR [Rt.none] 0 = ⟨0, 0, []⟩) := Lib.hid (by decide)
  have V0 : Hid (InI 0) := Lib.hid ⟨by omega, by omega⟩
  have N0 : Hid ((Rt.path ⟨0, 0, []⟩).length = 0) := Lib.hid rfl
  have SM : Hid (rtSame ⟨0, 0, []⟩ ⟨0, 0, []⟩ = true) := Lib.hid (by decide)
  clear hN hz1 hA1 hT
  go_enter Tryd.func6, Tryd.ntmps6
  go_wp2_with (first
    | (go_at_call 8; (with_reducible refine (awake8_any _ HP.out).mono ?_); rintro e w1 ⟨rfl, hb1⟩)
    | (go_at_call 10; (with_reducible refine (lawNew h1.up HP.out 50 (by omega) (by omega)).mono ?_); rintro e w3 ⟨ub, G1, rfl, g1, n1, b1⟩; have p1 := P2.new h1 g1 n1 b1)
    | (go_at_call 10; (with_reducible refine (lawNew hb1 HP.out 50 (by omega) (by omega)).mono ?_); rintro e w2 ⟨tb, F1, rfl, h1, _, _⟩))
  go_loopw [8] (fun s8 wr => ∃ (j : Nat) (F G : Nat → Prop) (l : List Rt), j ≤ N ∧ j ≤ 20 ∧ s8 = .int .i64 (j : Nat) ∧ P2 w F tb 50 l G ub 50 [Rt.none] wr ∧ l.length ≤ j + 1) (fun s8 _ => 20 - (intOf s8).toNat)
  case atStart => exact ⟨0, F1, G1, [Rt.none], Nat.zero_le _, by omega, rfl, p1, by simp⟩
  case round =>
    clear h1 g1 n1 b1 p1
    obtain ⟨j, F, G, l, hjN, hj30, rfl, h1, hll⟩ := hrel
    by_cases hlt : j < N ∧ j < 20
    · obtain ⟨hlt1, hlt2⟩ := hlt
      obtain ⟨x, hx⟩ : ∃ x, L1[j]? = some x := ⟨_, List.getElem?_eq_getElem (by rw [HNN.out]; exact hlt1)⟩
      obtain ⟨ad, Al, cl, rfl, ca, hcl⟩ := (HA.out.on h1.t.up).get hx
      obtain ⟨hwf, hlm⟩ := HZ.out x (List.mem_of_getElem? hx)
      obtain ⟨r, hr⟩ : ∃ r, rtOf x = r := ⟨_, rfl⟩
      have hrr := rtOf_right x
      rw [hr] at hrr
      obtain ⟨nl, hnl⟩ : ∃ n, x.length = n := ⟨_, rfl⟩
      rw [hnl] at hlm ca
      obtain ⟨nr, hnr⟩ : ∃ n, r.path.length = n := ⟨_, rfl⟩
      have HR := Lib.hid hr
      have HRR := Lib.hid hrr
      have HNL := Lib.hid hnl
      have HNR := Lib.hid hnr
      have HWF := Lib.hid hwf
      have HCL := Lib.hid hcl
      have h12 : nr ≤ 12 := by rw [← hnr]; exact rt_len hrr
      have j0 : (0 : Int) ≤ (j : Int) := by omega
      have j1 : (j : Int) < (N : Int) := by omega
      have j2 : (j : Int) < 20 := by omega
      obtain ⟨i, L, ak, ae, al, hLi, hLl⟩ := add_at (most := 50) hrr h1.t.tab.nodup (by omega)
      have KT := Lib.hid ak
      have ET := Lib.hid ae
      have LT' := Lib.hid al
      have i0 : (0 : Int) ≤ (i : Int) := by omega
      have hil : i < L.length := (List.getElem?_eq_some_iff.1 hLi).1
      have V1 : Hid (InI (i : Int)) := Lib.hid ⟨by omega, by omega⟩
      have G1 : Hid (getR L (i : Int) = r) := Lib.hid (by unfold getR; rw [if_neg (by omega)]; simp [hLi])
      have HL2 : Hid (L.length ≤ j + 1 + 1) := Lib.hid (by omega)
      have SR : Hid (rtSame r r = true) := Lib.hid (same_iff.2 rfl)
      clear hx hcl hr hrr hnl hnr hwf ak ae al hLi hLl hil hll
      go_wp2_with (first
        | (go_at_call 12; (with_reducible refine (Route_new x r HR nr nl HNR HNL HWF.out hlm HCL.out).mono ?_); rintro e w3 ⟨Ar, cr, rfl, hra, hrn, hle, hcr, hb3⟩; have h2 := (h1.go hb3).go (below_new w3 (.cells #[.int .i64 r.kind, .int .i64 r.cost, .slice Ar nr cr] 25)); have x2 := BoxR.new (ca := cr) h1.t.tab.lt hb3 hra hrn; obtain ⟨b0, b1, b2⟩ := x2.cells)
        | (go_at_call 13; (with_reducible refine (lawAdd h2.t HP.out r (i : Int) 0 L KT ET LT' x2.at_ hle hcr).mono ?_); rintro e w4 ⟨F4, rfl, ht4, eF4, s4⟩; have h3 := h2.addT ht4 eF4 s4; have x3 : BoxR F4 _ r Ar nr cr w4 := eF4 ▸ x2.add s4; obtain ⟨d0, d1, d2⟩ := x3.cells)
        | (go_at_call 19; (with_reducible refine (lawGet h3.t (i : Int) V1.out r G1 nr HNR h12).mono ?_); rintro e w5 ⟨A6, c6, rfl, _, _, hle6, hc6, ho6, hb5⟩; have a5 := A3.new h3 x3 hb5 ho6; obtain ⟨k0, k1, k2, k3⟩ := a5.cells))
      obtain ⟨bx, hbx⟩ : ∃ b, w5.heap.size = b := ⟨_, rfl⟩
      obtain ⟨br, hbr⟩ : ∃ b, w3.heap.size = b := ⟨_, rfl⟩
      have HB := Lib.hid h1
      obtain ⟨W5, hW5⟩ : ∃ W, W = w5.alloc (.cells #[.int .i64 r.kind, .int .i64 r.cost, .slice A6 nr c6] 25) := ⟨_, rfl⟩
      rw [← hW5] at a5 k0 k1 k2 k3 ⊢
      rw [hbx, hbr] at a5
      rw [hbx] at k0 ⊢
      rw [hbr] at k1 k2 k3 ⊢
      clear hW5 hbx hbr ho6 x2 x3 h2 h3 h1 ht4 eF4 s4 hb5 hb3 hra hrn b0 b1 b2 d0 d1 d2
      obtain ⟨wo, rfl⟩ : ∃ wo : World, wo = wr := ⟨_, rfl⟩
      go_loopw [13] (fun s13 wr => ∃ q : Nat, q ≤ nr ∧ s13 = .int .i64 (q : Nat) ∧ A3 w F4 tb L G ub [Rt.none] br r Ar nr cr bx A6 c6 wr) (fun s13 _ => nr - (intOf s13).toNat)
      case atStart => exact ⟨0, Nat.zero_le _, rfl, a5⟩
      case round =>
        clear a5 k0 k1 k2 k3
        obtain ⟨q, hq, rfl, a5⟩ := hrel
        obtain ⟨k0, k1, k2, k3⟩ := a5.cells
        by_cases hlt : q < nr
        · obtain ⟨g, rfl, a6, ⟨v, hv⟩, hfz⟩ := a5.store hlt (.int .i64 x1)
          have q0 : (0 : Int) ≤ (q : Int) := by omega
          have q1 : (q : Int) < (nr : Int) := by omega
          clear a5
          go_wp2
          go_roundw
          case rel => exact ⟨q + 1, by omega, by go_num, a6⟩
          case measure => simp [intOf]; omega
        · have a5d := a5.drew
          obtain ⟨m0, m1, m2, m3⟩ := a5d.cells
          go_wp2
          go_region_held3 (fun w' => w'.cell? ⟨br, 0, none⟩ = some (.int .i64 r.kind) ∧ w'.cell? ⟨br, 1, none⟩ = some (.int .i64 r.cost) ∧ w'.cell? ⟨br, 2, none⟩ = some (.slice Ar nr cr)) (go_keep) (first
            | (go_at_call 15; (with_reducible refine (lawSize a7.p.u 1 SU).mono ?_); rintro e w9 ⟨rfl, rfl⟩)
            | (go_at_call 18; (with_reducible refine (refSame6_is r r true SR hg7 a6.x.at_).mono ?_); rintro e w7 ⟨rfl, hb7⟩; have a7 := a6.go hb7; obtain ⟨o0, o1, o2, o3⟩ := a7.cells)
            | (go_at_call 19; (with_reducible refine (lawGet a5d.p.t (i : Int) V1.out r G1 nr HNR h12).mono ?_); rintro e w6 ⟨A7, c7, rfl, hg7, _, _, _, _, hb6⟩; have a6 := a5d.go hb6; obtain ⟨n0, n1, n2, n3⟩ := a6.cells)
            | fail)
          go_step
          go_wp2
          go_roundw
          case rel => exact ⟨j + 1, F4, G, L, by omega, by omega, by go_num, a7.p, HL2.out⟩
          case measure => simp [intOf]; omega
    · have hcase : ¬ (j : Int) < (N : Int) ∨ ((j : Int) < (N : Int) ∧ ¬ (j : Int) < 20) := by omega
      clear hlt hll
      rcases hcase with hc | ⟨hc, hc2⟩
      all_goals
        go_wp2_with (first
          | (go_at_call 21; (with_reducible refine (atSame_is ⟨0, 0, []⟩ ⟨0, 0, []⟩ true SM hg4 (at_flat _ _ _)).mono ?_); rintro e w5 ⟨rfl, hb5⟩; have h3 := h2.go hb5)
          | (go_at_call 19; (with_reducible refine (lawGet h1.u 0 V0.out ⟨0, 0, []⟩ GU 0 N0 (by omega)).mono ?_); rintro e w4 ⟨A4, c4, rfl, hg4, _, _, _, _, hb4⟩; have h2 := h1.go hb4))
        go_ret
        exact ⟨rfl, h3.t.up⟩
end Go.Proofs.YtlfdpfkimggeoaaDoor
