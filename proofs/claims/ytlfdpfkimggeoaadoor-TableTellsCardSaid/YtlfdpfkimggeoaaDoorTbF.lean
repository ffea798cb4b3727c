/-
  Tables in the laws: what a law carries from call to call; the law's awake.
-/
import Derived.Test.YtlfdpfkimggeoaaDoorTbE
namespace Go.Proofs.YtlfdpfkimggeoaaDoor
open Go.RowKit
set_option linter.unusedVariables false
set_option linter.unusedSimpArgs false

/-- A table of the law's own. -/
structure LT (w0 : World) (F : Nat → Prop) (tb : Nat) (most : Int) (l : List Rt) (W : World) : Prop where
  tab : TabAt F W tb most l
  base : ∀ k, F k → w0.heap.size ≤ k
  up : Below w0.heap.size w0 W
section
variable {w0 W W' : World} {F : Nat → Prop} {tb : Nat} {most : Int} {l l' : List Rt}
theorem LT.go (h : LT w0 F tb most l W) (hb : Below W.heap.size W W') : LT w0 F tb most l W' := ⟨h.tab.go hb, h.base, below_on h.up hb⟩
theorem LT.drew (h : LT w0 F tb most l W) : LT w0 F tb most l W.drew := h.go ((Below.refl _ _).drew)
theorem LT.pow (h : LT w0 F tb most l W) (PT : PowTab w0) : PowTab W := PT.on h.up
theorem LT.add (h : LT w0 F tb most l W) (s : Sep F W W') (t : TabAt (grewF F W W') W' tb most l') : LT w0 (grewF F W W') tb most l' W' :=
  ⟨t, fun k hk => hk.elim (h.base k) (fun e => Nat.le_trans h.up.size e.1), h.up.trans (s.below h.base h.up.size)⟩
theorem LT.new {e : Ending} {w : World} (u : Below w0.heap.size w0 w) (t : TabAt F W tb most l) (n : NewF F w W) (b : Below w.heap.size w W) : LT w0 F tb most l W := ⟨t, fun k hk => Nat.le_trans u.size (n k hk).1, below_on u b⟩
end
theorem lawNew {w0 w : World} (u : Below w0.heap.size w0 w) (PT : PowTab w0) (most : Int) (h1 : 1 ≤ most) (h2 : most ≤ 1073741824) :
    Calls Tryd.prog 10 #[.int .i64 most] w fun e w' => ∃ tb F, e = .returned (.pointer (some ⟨tb, 0, none⟩)) ∧ LT w0 F tb most [Rt.none] w' ∧ NewF F w w' ∧ Below w.heap.size w w' :=
  (tNew_yes most h1 h2 w (PT.on u)).mono fun e w' ⟨tb, F, he, ht, hn, hb⟩ => ⟨tb, F, he, LT.new (e := e) u ht hn hb, hn, hb⟩
theorem lawAdd {w0 W : World} {F : Nat → Prop} {tb : Nat} {most : Int} {l : List Rt} (h : LT w0 F tb most l W) (PT : PowTab w0) (r : Rt) (K E : Int) (L : List Rt) (hK : Hid (addK most l r = K)) (hE : Hid (addE most l r = E)) (hL : Hid (addL most l r = L)) {Ar : Option Addr} {n ca : Nat} (hr : RtAt W r Ar n) (hl : n ≤ ca) (hc : ca ≤ 9223372036854775807) :
    Calls Tryd.prog 13 #[.pointer (some ⟨tb, 0, none⟩), .agg #[.int .i64 r.kind, .int .i64 r.cost, .slice Ar n ca]] W fun e w' => ∃ F', e = .returned (.tuple #[.int .i64 K, .int .i64 E]) ∧ LT w0 F' tb most L w' ∧ F' = grewF F W w' ∧ Sep F W w' := by
  have e1 := hK.out
  have e2 := hE.out
  have e3 := hL.out
  subst e1 e2 e3
  exact (tAdd_any h.tab r hr hl hc (h.pow PT)).mono fun e w' ⟨he, hs, ht⟩ => ⟨_, he, h.add hs ht, rfl, hs⟩
theorem lawFind {w0 W : World} {F : Nat → Prop} {tb : Nat} {most : Int} {l : List Rt} (h : LT w0 F tb most l W) (PT : PowTab w0) (r : Rt) (v : Int) (hv : Hid (ixR r l = v)) {Ar : Option Addr} {n ca : Nat} (hr : RtAt W r Ar n) (hl : n ≤ ca) (hc : ca ≤ 9223372036854775807) :
    Calls Tryd.prog 16 #[.pointer (some ⟨tb, 0, none⟩), .agg #[.int .i64 r.kind, .int .i64 r.cost, .slice Ar n ca]] W fun e w' => e = .returned (.int .i64 v) ∧ Below W.heap.size W w' :=
  tFind_is h.tab r v hv hr hl hc (h.pow PT)
theorem lawSize {w0 W : World} {F : Nat → Prop} {tb : Nat} {most : Int} {l : List Rt} (h : LT w0 F tb most l W) (v : Int) (hv : Hid ((l.length : Int) = v)) :
    Calls Tryd.prog 15 #[.pointer (some ⟨tb, 0, none⟩)] W fun e w' => e = .returned (.int .i64 v) ∧ W = w' :=
  (tSize_any h.tab).mono fun e w' ⟨he, hw⟩ => ⟨by rw [he, hv.out], hw⟩
theorem lawGet {w0 W : World} {F : Nat → Prop} {tb : Nat} {most : Int} {l : List Rt} (h : LT w0 F tb most l W) (id : Int) (hid : InI id) (r : Rt) (hg : Hid (getR l id = r)) (n : Nat) (hn : Hid (r.path.length = n)) (h12 : n ≤ 12) :
    Calls Tryd.prog 19 #[.pointer (some ⟨tb, 0, none⟩), .int .i64 id] W fun e w' => ∃ A c, e = .returned (.agg #[.int .i64 r.kind, .int .i64 r.cost, .slice A n c]) ∧ RtAt w' r A n ∧ (∀ a, A = some a → W.heap.size ≤ a.block ∧ a.off = 0) ∧ n ≤ c ∧ c ≤ 9223372036854775807 ∧ w'.ownsRow W.heap.size 3 1 (.slice A n c) n (r.path.map (Value.int .i64)) ∧ Below W.heap.size W w' := by
  have e1 := hg.out
  have e2 := hn.out
  subst e1 e2
  refine (tGet_any h.tab id hid).mono fun e w' ⟨A, c, he, ho, hle, hb⟩ => ⟨A, c, he, RtGives.at_ (w := W) ho (by omega), fun a ha => ⟨(ho.lt a.block (by rw [ha]; rfl)).1, ?_⟩, hle, ?_, ho, hb⟩
  · rcases ho.2 with ⟨h0, _⟩ | ⟨g, cap, cur, h0, _⟩
    · injection h0 with h0 _ _; rw [ha] at h0; cases h0
    · injection h0 with h0 _ _; rw [ha] at h0; injection h0 with h0; rw [h0]
  · obtain ⟨A', c', h0, _, h2⟩ := own_formB ho
    injection h0 with _ _ h0; omega
theorem at_flat (W : World) (k c : Int) : RtAt W ⟨k, c, []⟩ none 0 := ⟨rfl, CellsAt.nil _ _ _, by omega⟩

set_option maxHeartbeats 4000000 in
set_option maxRecDepth 100000 in
theorem awake8_any (w : World) (PT : PowTab w) : Calls Tryd.prog 8 #[] w fun e w' => e = .returned (.bool true) ∧ Below w.heap.size w w' := by
  have K1 : Hid (addK 2 [Rt.none] ⟨1, 3, []⟩ = 1) := Lib.hid (by decide)
  have E1 : Hid (addE 2 [Rt.none] ⟨1, 3, []⟩ = 0) := Lib.hid (by decide)
  have L1 : Hid (addL 2 [Rt.none] ⟨1, 3, []⟩ = [Rt.none, ⟨1, 3, []⟩]) := Lib.hid (by decide)
  have K2 : Hid (addK 2 [Rt.none, ⟨1, 3, []⟩] ⟨1, 3, []⟩ = 1) := Lib.hid (by decide)
  have E2 : Hid (addE 2 [Rt.none, ⟨1, 3, []⟩] ⟨1, 3, []⟩ = 0) := Lib.hid (by decide)
  have L2 : Hid (addL 2 [Rt.none, ⟨1, 3, []⟩] ⟨1, 3, []⟩ = [Rt.none, ⟨1, 3, []⟩]) := Lib.hid (by decide)
  have K3 : Hid (addK 2 [Rt.none, ⟨1, 3, []⟩] ⟨1, 4, []⟩ = 0) := Lib.hid (by decide)
  have E3 : Hid (addE 2 [Rt.none, ⟨1, 3, []⟩] ⟨1, 4, []⟩ = 60) := Lib.hid (by decide)
  have L3 : Hid (addL 2 [Rt.none, ⟨1, 3, []⟩] ⟨1, 4, []⟩ = [Rt.none, ⟨1, 3, []⟩]) := Lib.hid (by decide)
  have K4 : Hid (addK 2 [Rt.none, ⟨1, 3, []⟩] ⟨9, 0, []⟩ = 0) := Lib.hid (by decide)
  have E4 : Hid (addE 2 [Rt.none, ⟨1, 3, []⟩] ⟨9, 0, []⟩ = 1) := Lib.hid (by decide)
  have L4 : Hid (addL 2 [Rt.none, ⟨1, 3, []⟩] ⟨9, 0, []⟩ = [Rt.none, ⟨1, 3, []⟩]) := Lib.hid (by decide)
  have G1 : Hid (getR [Rt.none, ⟨1, 3, []⟩] 1 = ⟨1, 3, []⟩) := Lib.hid (by decide)
  have I1 : Hid (ixR ⟨0, 0, []⟩ [Rt.none, ⟨1, 3, []⟩] = 0) := Lib.hid (by decide)
  have S1 : Hid ((([Rt.none, ⟨1, 3, []⟩] : List Rt).length : Int) = 2) := Lib.hid rfl
  have N1 : Hid ((Rt.path ⟨1, 3, []⟩).length = 0) := Lib.hid rfl
  have HI : Hid (InI 1) := Lib.hid ⟨by omega, by omega⟩
  have HP := Lib.hid PT
  have m2 : ∀ (k c : Int) (A : Option Addr) (n m : Nat) (w : World), (Instr.field 25 (.agg #[.int .i64 k, .int .i64 c, .slice A n m]) 1).run Tryd.prog w = .ok (.int .i64 c) w := fun _ _ _ _ _ _ => by kernel_rfl
  clear PT
  go_enter Tryd.func8, Tryd.ntmps8
  go_wp2_with (first
    | (go_at_call 10; (with_reducible refine (tNew_no 0 (by omega) _).mono ?_); rintro e w8 ⟨rfl, rfl⟩)
    | (go_at_call 16; (with_reducible refine (lawFind h6 HP.out ⟨0, 0, []⟩ 0 I1 (at_flat _ _ _) (Nat.le_refl 0) (by omega)).mono ?_); rintro e w7 ⟨rfl, hb7⟩; have h7 := h6.go hb7)
    | (go_at_call 19; (with_reducible refine (lawGet h5 1 HI.out ⟨1, 3, []⟩ G1 0 N1 (by omega)).mono ?_); rintro e w6 ⟨A6, c6, rfl, _, _, _, _, _, hb6⟩; have h6 := h5.go hb6)
    | (go_at_call 15; (with_reducible refine (lawSize h5 2 S1).mono ?_); rintro e w9 ⟨rfl, rfl⟩)
    | (go_at_call 13; (with_reducible refine (lawAdd h4 HP.out ⟨9, 0, []⟩ 0 1 _ K4 E4 L4 (at_flat _ _ _) (Nat.le_refl 0) (by omega)).mono ?_); rintro e w5 ⟨F5, rfl, h5, _, _⟩)
    | (go_at_call 13; (with_reducible refine (lawAdd h3 HP.out ⟨1, 4, []⟩ 0 60 _ K3 E3 L3 (at_flat _ _ _) (Nat.le_refl 0) (by omega)).mono ?_); rintro e w4 ⟨F4, rfl, h4, _, _⟩)
    | (go_at_call 13; (with_reducible refine (lawAdd h2 HP.out ⟨1, 3, []⟩ 1 0 _ K2 E2 L2 (at_flat _ _ _) (Nat.le_refl 0) (by omega)).mono ?_); rintro e w3 ⟨F3, rfl, h3, _, _⟩)
    | (go_at_call 13; (with_reducible refine (lawAdd h1 HP.out ⟨1, 3, []⟩ 1 0 _ K1 E1 L1 (at_flat _ _ _) (Nat.le_refl 0) (by omega)).mono ?_); rintro e w2 ⟨F2, rfl, h2, _, _⟩)
    | (go_at_call 10; (with_reducible refine (lawNew (Below.refl _ _) HP.out 2 (by omega) (by omega)).mono ?_); rintro e w1 ⟨tb, F1, rfl, h1, _, _⟩))
  go_ret
  exact ⟨rfl, h7.up⟩

/-! ### A route's box beside a table -/
structure BoxR (F : Nat → Prop) (b : Nat) (r : Rt) (Ar : Option Addr) (n ca : Nat) (W : World) : Prop where
  box : Blk W b 25 #[.int .i64 r.kind, .int .i64 r.cost, .slice Ar n ca]
  nb : ¬ F b
  at_ : RtAt W r Ar n
  na : ∀ a, Ar = some a → ¬ F a.block ∧ a.block < W.heap.size
section
variable {F : Nat → Prop} {b : Nat} {r : Rt} {Ar : Option Addr} {n ca : Nat} {W W' : World}
theorem BoxR.go (h : BoxR F b r Ar n ca W) (hb : Below W.heap.size W W') : BoxR F b r Ar n ca W' := ⟨h.box.up hb, h.nb, h.at_.on hb, fun a ha => ⟨(h.na a ha).1, Nat.lt_of_lt_of_le (h.na a ha).2 hb.size⟩⟩
theorem BoxR.drew (h : BoxR F b r Ar n ca W) : BoxR F b r Ar n ca W.drew := h.go ((Below.refl _ _).drew)
theorem BoxR.sep {G : Nat → Prop} (h : BoxR F b r Ar n ca W) (s : Sep G W W') (hG : ∀ k, G k → F k) : BoxR F b r Ar n ca W' :=
  ⟨s.blk h.box (fun e => h.nb (hG _ e)), h.nb, h.at_.sep s (fun a ha e => (h.na a ha).1 (hG _ e)), fun a ha => ⟨(h.na a ha).1, Nat.lt_of_lt_of_le (h.na a ha).2 s.size⟩⟩
theorem BoxR.add (h : BoxR F b r Ar n ca W) (s : Sep F W W') : BoxR (grewF F W W') b r Ar n ca W' :=
  ⟨s.blk h.box h.nb, fun e => e.elim h.nb (fun e => by have := h.box.lt; omega), h.at_.sep s (fun a ha => (h.na a ha).1), fun a ha => ⟨fun e => e.elim (h.na a ha).1 (fun e => by have := (h.na a ha).2; omega), Nat.lt_of_lt_of_le (h.na a ha).2 s.size⟩⟩
theorem BoxR.cells (h : BoxR F b r Ar n ca W) : W.cell? ⟨b, 0, none⟩ = some (.int .i64 r.kind) ∧ W.cell? ⟨b, 1, none⟩ = some (.int .i64 r.cost) ∧ W.cell? ⟨b, 2, none⟩ = some (.slice Ar n ca) := ⟨h.box.cell 0, h.box.cell 1, h.box.cell 2⟩
/-- A new route in a box of its own. -/
theorem BoxR.new {w : World} (hF : ∀ k, F k → k < w.heap.size) (hb : Below w.heap.size w W) (h : RtAt W r Ar n) (hn : ∀ a, Ar = some a → w.heap.size ≤ a.block ∧ a.block < W.heap.size) : BoxR F W.heap.size r Ar n ca (W.alloc (.cells #[.int .i64 r.kind, .int .i64 r.cost, .slice Ar n ca] 25)) :=
  ⟨Blk.new _ _ _, fun e => by have := hF _ e; have := hb.size; omega, h.box _, fun a ha => ⟨fun e => by have := hF _ e; have := (hn a ha).1; omega, by have := (hn a ha).2; simp; omega⟩⟩
end
theorem TabAt.lt {F : Nat → Prop} {W : World} {tb : Nat} {most : Int} {l : List Rt} (h : TabAt F W tb most l) : ∀ k, F k → k < W.heap.size := by obtain ⟨A, c, mb, D, hs, h⟩ := h; exact h.lt
theorem TabAt.nodup {F : Nat → Prop} {W : World} {tb : Nat} {most : Int} {l : List Rt} (h : TabAt F W tb most l) : l.Nodup := by obtain ⟨A, c, mb, D, hs, h⟩ := h; exact h.nodup
theorem TabAt.right {F : Nat → Prop} {W : World} {tb : Nat} {most : Int} {l : List Rt} (h : TabAt F W tb most l) : ∀ r ∈ l, rtRight r = true := by obtain ⟨A, c, mb, D, hs, h⟩ := h; exact h.right
theorem TabAt.len {F : Nat → Prop} {W : World} {tb : Nat} {most : Int} {l : List Rt} (h : TabAt F W tb most l) : (l.length : Int) ≤ most ∧ most ≤ 1073741824 := by obtain ⟨A, c, mb, D, hs, h⟩ := h; exact ⟨h.len, h.most⟩
theorem Route_new (l : List Int) (r : Rt) (HR : Hid (rtOf l = r)) (n m : Nat) (HN : Hid (r.path.length = n)) (HL : Hid (l.length = m)) (hwf : ∀ v ∈ l, InI v) {A : Option Addr} {c : Nat} (hm : m ≤ 9223372036854775807) {w : World} (hA : CellsAt w w.heap.size A (l.map (Value.int .i64))) :
    Calls Tryd.prog 12 #[.slice A m c] w fun e w' => ∃ Ar cr, e = .returned (.agg #[.int .i64 r.kind, .int .i64 r.cost, .slice Ar n cr]) ∧ RtAt w' r Ar n ∧ (∀ a, Ar = some a → w.heap.size ≤ a.block ∧ a.block < w'.heap.size) ∧ n ≤ cr ∧ cr ≤ 9223372036854775807 ∧ Below w.heap.size w w' := by
  have h1 := HR.out
  have h2 := HN.out
  have h3 := HL.out
  subst h1 h2 h3
  refine (Route_any l hwf A c hm w hA).mono fun e w' ⟨Ar, cr, he, ho, hle, hb⟩ => ⟨Ar, cr, he, ⟨rfl, (RowAt.of_own ho).cells, by have := rt_len (rtOf_right l); omega⟩, fun a ha => ho.lt a.block (by rw [ha]; rfl), hle, ?_, hb⟩
  obtain ⟨A', c', h0, _, h2⟩ := own_formB ho
  injection h0 with _ _ h0; omega

/-! ### What Add tells of a route that is right -/
theorem add_old {most : Int} {l : List Rt} {r : Rt} (hr : rtRight r = true) (hm : r ∈ l) : addK most l r = ixR r l ∧ addE most l r = 0 ∧ addL most l r = l :=
  ⟨by unfold addK; rw [if_pos hr, if_pos hm], by unfold addE; rw [if_pos hr, if_pos hm], by unfold addL; rw [if_neg (fun e => e.2.1 hm)]⟩
theorem add_new {most : Int} {l : List Rt} {r : Rt} (hr : rtRight r = true) (hm : r ∉ l) (hf : (l.length : Int) < most) : addK most l r = l.length ∧ addE most l r = 0 ∧ addL most l r = l ++ [r] :=
  ⟨by unfold addK; rw [if_pos hr, if_neg hm, if_pos hf], by unfold addE; rw [if_pos hr, if_neg hm, if_pos hf], by unfold addL; rw [if_pos ⟨hr, hm, hf⟩]⟩
theorem add_full {most : Int} {l : List Rt} {r : Rt} (hr : rtRight r = true) (hm : r ∉ l) (hf : ¬ (l.length : Int) < most) : addK most l r = 0 ∧ addE most l r = 60 ∧ addL most l r = l :=
  ⟨by unfold addK; rw [if_pos hr, if_neg hm, if_neg hf], by unfold addE; rw [if_pos hr, if_neg hm, if_neg hf], by unfold addL; rw [if_neg (fun e => hf e.2.2)]⟩
end Go.Proofs.YtlfdpfkimggeoaaDoor
