/-
  PlanGrows: the walk.
-/
import Derived.Test.YtponlhgkgmlihaaDoorPlZe
import Derived.Deep.RegionHeld3
import Derived.Deep.CutBlock
import Derived.RegionTactic
import Derived.BigRegion
import Derived.ChangeAlike
namespace Go.Proofs.YtponlhgkgmlihaaDoor
open Go.RowKit
set_option linter.unusedVariables false
set_option linter.unusedSimpArgs false

/-- The state ahead of the check's line. -/
structure GrowSt (w3 : World) (gp gq gc : Nat) (p : PPlan) (An Al Ad Ac : Option Addr) (cn cl cd cc : Nat) (vn vl vd vc : Value) (k i li : Nat) (w : World) : Prop where
  pat : PAt w3 p p.proto p.cap p.k An p.nodes.length Al p.links.length Ad p.dests.length Ac p.checks.length
  bp : Blk w3 gp 29 #[.int .i64 p.proto, .int .i64 p.cap, .int .i64 p.k, .slice An p.nodes.length cn, .slice Al p.links.length cl, .slice Ad p.dests.length cd, .slice Ac p.checks.length cc]
  q : HSt w3 gq p vn vl vd vc w
  bc : Blk w gc 43 #[.int .i64 (k : Int), .int .i64 (i : Int), .int .i64 0, .int .i64 (li : Int), .int .i64 0]
  lo : w3.heap.size ≤ gc
  ne : ∀ j, vc.ownBlock = some j → j ≠ gc
theorem dataAppend (a b : ByteArray) : (a ++ b).data.toList = a.data.toList ++ b.data.toList := by
  obtain ⟨a⟩ := a
  obtain ⟨b⟩ := b
  rw [ByteArray.mk_append_mk]
/-- One byte as a text. -/
theorem conv_one3 (W : World) (d : Int) : (convert 48 9 (.slice (some ⟨W.heap.size, 0, none⟩) 1 1)).run Tryd.prog (W.alloc (.cells #[.int .u8 d] 5)) = .ok (.string ⟨#[UInt8.ofNat d.toNat]⟩) (W.alloc (.cells #[.int .u8 d] 5)) := by
  rw [run_convert_bytes_string _ _ _ _ _ _ _ Tryd.underlying48 Tryd.underlying5 Tryd.underlying9]
  rw [run_bytesToString _ _ 1 1 [d] (run_loadCells_list _ ⟨W.heap.size, 0, none⟩ [.int .u8 d] (cells_new W [.int .u8 d] 5))]
  rfl
theorem conv_two3 (W : World) (d : Int) : (convert 48 9 (.slice (some ⟨W.heap.size, 0, none⟩) 1 1)).run Tryd.prog (W.alloc (.cells #[.int .u8 d] 5)).drew.drew = .ok (.string ⟨#[UInt8.ofNat d.toNat]⟩) (W.alloc (.cells #[.int .u8 d] 5)).drew.drew := by
  rw [run_convert_bytes_string _ _ _ _ _ _ _ Tryd.underlying48 Tryd.underlying5 Tryd.underlying9]
  rw [run_bytesToString _ _ 1 1 [d] (run_loadCells_list (W.alloc (.cells #[.int .u8 d] 5)).drew.drew ⟨W.heap.size, 0, none⟩ [.int .u8 d] (cells_new W [.int .u8 d] 5))]
  rfl
theorem conv_drew3 (W : World) (d : Int) : (convert 48 9 (.slice (some ⟨W.heap.size, 0, none⟩) 1 1)).run Tryd.prog (W.alloc (.cells #[.int .u8 d] 5)).drew = .ok (.string ⟨#[UInt8.ofNat d.toNat]⟩) (W.alloc (.cells #[.int .u8 d] 5)).drew := by
  rw [run_convert_bytes_string _ _ _ _ _ _ _ Tryd.underlying48 Tryd.underlying5 Tryd.underlying9]
  rw [run_bytesToString _ _ 1 1 [d] (run_loadCells_list (W.alloc (.cells #[.int .u8 d] 5)).drew ⟨W.heap.size, 0, none⟩ [.int .u8 d] (cells_new W [.int .u8 d] 5))]
  rfl
theorem bnil (x : ByteArray) : x ++ (⟨#[]⟩ : ByteArray) = x := by
  obtain ⟨x⟩ := x
  rw [ByteArray.mk_append_mk]
  show (⟨(x.toList ++ []).toArray⟩ : ByteArray) = ⟨x⟩
  rw [List.append_nil]
theorem GrowSt.drawn {w3 : World} {gp gq gc : Nat} {p : PPlan} {An Al Ad Ac : Option Addr} {cn cl cd cc : Nat} {vn vl vd vc : Value} {k i li : Nat} {w : World} (h : GrowSt w3 gp gq gc p An Al Ad Ac cn cl cd cc vn vl vd vc k i li w) : GrowSt w3 gp gq gc p An Al Ad Ac cn cl cd cc vn vl vd vc k i li w.drew :=
  ⟨h.pat, h.bp, h.q.up (Below.refl _ _).drew, h.bc, h.lo, h.ne⟩
theorem GrowSt.newer {w3 : World} {gp gq gc : Nat} {p : PPlan} {An Al Ad Ac : Option Addr} {cn cl cd cc : Nat} {vn vl vd vc : Value} {k i li : Nat} {w : World} (h : GrowSt w3 gp gq gc p An Al Ad Ac cn cl cd cc vn vl vd vc k i li w) (o : Obj) : GrowSt w3 gp gq gc p An Al Ad Ac cn cl cd cc vn vl vd vc k i li (w.alloc o) :=
  ⟨h.pat, h.bp, h.q.up (below_new w o), h.bc.alloc o, h.lo, h.ne⟩
theorem GrowSt.put {w3 : World} {gp gq gc : Nat} {p : PPlan} {An Al Ad Ac : Option Addr} {cn cl cd cc : Nat} {vn vl vd vc : Value} {k i li : Nat} {w : World} (h : GrowSt w3 gp gq gc p An Al Ad Ac cn cl cd cc vn vl vd vc k i li w) {f : Nat} {u : Value} {k' li' : Nat}
    (hx : (#[.int .i64 (k : Int), .int .i64 (i : Int), .int .i64 0, .int .i64 (li : Int), .int .i64 0] : Array Value).setIfInBounds f u = #[.int .i64 (k' : Int), .int .i64 (i : Int), .int .i64 0, .int .i64 (li' : Int), .int .i64 0]) : GrowSt w3 gp gq gc p An Al Ad Ac cn cl cd cc vn vl vd vc k' i li' (w.setCell ⟨gc, f, none⟩ u) :=
  ⟨h.pat, h.bp, h.q.putC h.bc h.lo h.ne f u, hx ▸ h.bc.set_ f u, h.lo, h.ne⟩
theorem GrowSt.kind2 {w3 : World} {gp gq gc : Nat} {p : PPlan} {An Al Ad Ac : Option Addr} {cn cl cd cc : Nat} {vn vl vd vc : Value} {i li : Nat} {w : World} (h : GrowSt w3 gp gq gc p An Al Ad Ac cn cl cd cc vn vl vd vc 1 i li w) : GrowSt w3 gp gq gc p An Al Ad Ac cn cl cd cc vn vl vd vc 2 i li (w.setCell ⟨gc, 0, none⟩ (.int .i64 2)) := h.put rfl
theorem GrowSt.lim {w3 : World} {gp gq gc : Nat} {p : PPlan} {An Al Ad Ac : Option Addr} {cn cl cd cc : Nat} {vn vl vd vc : Value} {k i li : Nat} {w : World} (h : GrowSt w3 gp gq gc p An Al Ad Ac cn cl cd cc vn vl vd vc k i li w) (li' : Nat) : GrowSt w3 gp gq gc p An Al Ad Ac cn cl cd cc vn vl vd vc k i li' (w.setCell ⟨gc, 3, none⟩ (.int .i64 (li' : Int))) := h.put rfl
theorem dig_byte (li : Nat) (h : li < 10) : UInt8.ofNat (IntKind.u8.wrap (IntKind.i64.wrap (48 + (li : Int)))).toNat = 48 + UInt8.ofNat li := by
  have : ∀ li : Nat, li < 10 → UInt8.ofNat (IntKind.u8.wrap (IntKind.i64.wrap (48 + (li : Int)))).toNat = 48 + UInt8.ofNat li := by decide +kernel
  exact this li h
/-- Behind draws and a new block, however they are spelled. -/
theorem growst_any {w3 : World} {gp gq gc : Nat} {p : PPlan} {An Al Ad Ac : Option Addr} {cn cl cd cc : Nat} {vn vl vd vc : Value} {k i li : Nat} {w : World} (h : GrowSt w3 gp gq gc p An Al Ad Ac cn cl cd cc vn vl vd vc k i li w) {o : Obj} : GrowSt w3 gp gq gc p An Al Ad Ac cn cl cd cc vn vl vd vc k i li (w.alloc o).drew.drew := ((h.newer o).drawn).drawn
/-- The line's text, of the two kinds. -/
theorem line_reach (p : PPlan) (i : Nat) (nm dn : ByteArray) (hn : Hid (nmB p.nodes (i : Int) = nm)) (hd : Hid (dnB p.dests ((0 : Nat) : Int) = dn)) : Hid ((⟨#[99, 104, 101, 99, 107, 32, 114, 101, 97, 99, 104, 32]⟩ ++ nm ++ ⟨#[32]⟩ ++ dn : ByteArray).data.toList ++ [59, 10] = lineS (checkW p.nodes p.dests ⟨((1 : Nat) : Int), (i : Int), 0, ((0 : Nat) : Int), 0⟩)) := by
  refine Lib.hid ?_
  have e1 := hn.out
  have e2 : dnB p.dests 0 = dn := hd.out
  unfold checkW
  rw [if_pos (show ((1 : Nat) : Int) = 1 from rfl)]
  dsimp only
  rw [e1, e2]
  unfold lineS lineB
  simp [Lib.join_cons, Lib.joinTail]
theorem dig_is (li : Nat) (h : li < 10) : decW (li : Int) = ⟨#[48 + UInt8.ofNat li]⟩ := by
  rw [decW_nat]
  unfold Lib.decDigits
  rw [dif_pos h, UInt8.ofNat_add]
  rfl
theorem line_within (p : PPlan) (i li : Nat) (nm dn : ByteArray) (hn : Hid (nmB p.nodes (i : Int) = nm)) (hd : Hid (dnB p.dests ((0 : Nat) : Int) = dn)) (hl : li < 10) : Hid ((⟨#[99, 104, 101, 99, 107, 32, 119, 105, 116, 104, 105, 110, 32]⟩ ++ nm ++ ⟨#[32]⟩ ++ dn ++ ⟨#[32]⟩ ++ ⟨#[48 + UInt8.ofNat li]⟩ : ByteArray).data.toList ++ [59, 10] = lineS (checkW p.nodes p.dests ⟨((2 : Nat) : Int), (i : Int), 0, (li : Int), 0⟩)) := by
  refine Lib.hid ?_
  have e1 := hn.out
  have e2 : dnB p.dests 0 = dn := hd.out
  unfold checkW
  rw [if_neg (show ¬ ((2 : Nat) : Int) = 1 by decide), if_pos (show ((2 : Nat) : Int) = 2 from rfl)]
  dsimp only
  rw [e1, e2, dig_is li hl]
  unfold lineS lineB
  simp [Lib.join_cons, Lib.joinTail]
theorem grown_text {S L T : ByteArray} {p q : PPlan} {c : PCheck} (HS : Hid (S = ⟨(textB p).toArray⟩)) (HL : Hid (L.data.toList ++ [59, 10] = lineS (checkW p.nodes p.dests c))) (HT : Hid (textB q = textB p ++ lineS (checkW p.nodes p.dests c))) (hT : T = ⟨(textB q).toArray⟩) : Hid (T = S ++ L ++ ⟨#[59, 10]⟩) := by
  refine Lib.hid ?_
  rw [hT, HT.out, HS.out, ← HL.out]
  obtain ⟨L⟩ := L
  rw [ByteArray.mk_append_mk, ByteArray.mk_append_mk]
  simp
theorem line_size (nm dn : ByteArray) (h1 : nm.size ≤ 4096) (h2 : dn.size ≤ 4096) (x y : ByteArray) (hx : x.size ≤ 13) (hy : y.size ≤ 2) : (x ++ nm ++ ⟨#[32]⟩ ++ dn ++ y).size ≤ 9000 := by
  simp only [ByteArray.size_append]
  have : (⟨#[32]⟩ : ByteArray).size = 1 := rfl
  omega
set_option maxHeartbeats 4000000 in
set_option maxRecDepth 100000 in
theorem planGrows_walk (A : Option Addr) (c : Nat) (l : List Int) (hwf : ∀ v ∈ l, InI v) (hm : l.length ≤ 9223372036854775807) (hc : l.length ≤ c) (hcm : c ≤ 9223372036854775807) (a : Int) (ha : InI a) (b : Int) (hb : InI b) (e0 : Int) (he0 : InI e0) (w : World) (hA : CellsAt w w.heap.size A (l.map (Value.int .i64))) :
    Calls Tryd.prog 5 #[.slice A l.length c, .int .i64 a, .int .i64 b, .int .i64 e0] w fun e w' => e = .returned (.bool true) ∧ Below w.heap.size w w' := by
  obtain ⟨p, hp⟩ : ∃ p, netOf l = p := ⟨_, rfl⟩
  have hk := netOk l
  have hf := netFine l
  rw [hp] at hk hf
  have HP := Lib.hid hp
  have HM := Lib.hid hwf
  clear hp hwf
  obtain ⟨n, hn⟩ : ∃ n, l.length = n := ⟨_, rfl⟩
  rw [hn] at hm hc ⊢
  have HLEN := Lib.hid hn
  clear hn
  have hn1 := hk.nodes1
  have hd1 := hk.dests1
  have hl1 := hk.checks1
  obtain ⟨v, hv, bv⟩ := pickN_nat a 2 (by omega)
  have HPK : Hid (pickN a 2 = (v : Int)) := Lib.hid (show pickN a 2 = (v : Int) from hv)
  obtain ⟨i, hi, bi⟩ := pickN_nat b p.nodes.length (by omega)
  have HPI := Lib.hid hi
  obtain ⟨li, hli, bli⟩ := pickN_nat e0 10 (by omega)
  have HPL : Hid (pickN e0 10 = (li : Int)) := Lib.hid (show pickN e0 10 = (li : Int) from hli)
  obtain ⟨S, hS⟩ : ∃ S : ByteArray, S = ⟨(textB p).toArray⟩ := ⟨_, rfl⟩
  have HS := Lib.hid hS
  clear hv hi hli hS
  have hnc : ¬ (15 : Int) < (p.checks.length : Int) := by omega
  go_enter Tryd.func5, Tryd.ntmps5
  go_upto_region 8 with (first
    | (go_at_call 6; refine (awake3_any _).mono ?_; rintro e w1 ⟨rfl, hb1⟩; have hA1 := (hA.below hb1).more hb1.size)
    | (go_at_call 8; (with_reducible refine (Net_at p l HP A n c HLEN.out HM.out hm hc hcm _ hA3).mono ?_); rintro e w4 ⟨An2, cn2, Al2, cl2, Ad2, cd2, Ac2, cc2, rfl, ho2, hb4⟩; have hH0 := HSt.start ho2 hb4; have qq0 := (hbl.up hb4).alloc (.cells #[.int .i64 p.proto, .int .i64 p.cap, .int .i64 p.k, .slice An2 p.nodes.length cn2, .slice Al2 p.links.length cl2, .slice Ad2 p.dests.length cd2, .slice Ac2 p.checks.length cc2] 29); have qqc := qq0.cell 3)
    | (go_at_call 8; (with_reducible refine (Net_at p l HP A n c HLEN.out HM.out hm hc hcm _ hA1).mono ?_); rintro e w2 ⟨An, cn, Al, cl, Ad, cd, Ac, cc, rfl, ho, hb2⟩; have hbx := below_new w2 (.cells #[.int .i64 p.proto, .int .i64 p.cap, .int .i64 p.k, .slice An p.nodes.length cn, .slice Al p.links.length cl, .slice Ad p.dests.length cd, .slice Ac p.checks.length cc] 29); have hA2 := (hA1.upw hb2).upw hbx; have hat0 := ho.at_.up hbx; have hbl0 := Blk.new w2 29 #[.int .i64 p.proto, .int .i64 p.cap, .int .i64 p.k, .slice An p.nodes.length cn, .slice Al p.links.length cl, .slice Ad p.dests.length cd, .slice Ac p.checks.length cc])
    | (go_at_call 9; (with_reducible refine (Print_good hk.right hk.small hk.tiny hat0 (text_le hk.small hk.tiny)).mono ?_); rintro e w3 ⟨rfl, hb3⟩; rw [← HS.out]; have hA3 := hA2.upw hb3; have hat := hat0.up hb3; have hbl := hbl0.up hb3)
    | (go_at_call 19; (with_reducible refine (pick3_is _ _ _ hb (by omega) (by omega) HPI _).mono ?_); rintro e w5 ⟨rfl, rfl⟩))
  have hG : GrowSt w3 w2.heap.size w4.heap.size (w4.heap.size + 1) p An Al Ad Ac cn cl cd cc (.slice An2 p.nodes.length cn2) (.slice Al2 p.links.length cl2) (.slice Ad2 p.dests.length cd2) (.slice Ac2 p.checks.length cc2) 1 i 0 ((w4.alloc (.cells #[.int .i64 p.proto, .int .i64 p.cap, .int .i64 p.k, .slice An2 p.nodes.length cn2, .slice Al2 p.links.length cl2, .slice Ad2 p.dests.length cd2, .slice Ac2 p.checks.length cc2] 29)).alloc (.cells #[.int .i64 1, .int .i64 (i : Int), .int .i64 0, .int .i64 0, .int .i64 0] 43)) := by
    have hbx1 := below_new w4 (.cells #[.int .i64 p.proto, .int .i64 p.cap, .int .i64 p.k, .slice An2 p.nodes.length cn2, .slice Al2 p.links.length cl2, .slice Ad2 p.dests.length cd2, .slice Ac2 p.checks.length cc2] 29)
    have hbx2 := below_new (w4.alloc (.cells #[.int .i64 p.proto, .int .i64 p.cap, .int .i64 p.k, .slice An2 p.nodes.length cn2, .slice Al2 p.links.length cl2, .slice Ad2 p.dests.length cd2, .slice Ac2 p.checks.length cc2] 29)) (.cells #[.int .i64 1, .int .i64 (i : Int), .int .i64 0, .int .i64 0, .int .i64 0] 43)
    have hbc := Blk.new (w4.alloc (.cells #[.int .i64 p.proto, .int .i64 p.cap, .int .i64 p.k, .slice An2 p.nodes.length cn2, .slice Al2 p.links.length cl2, .slice Ad2 p.dests.length cd2, .slice Ac2 p.checks.length cc2] 29)) 43 #[.int .i64 1, .int .i64 (i : Int), .int .i64 0, .int .i64 0, .int .i64 0]
    rw [World.size_alloc] at hbc
    exact ⟨hat, hbl, hH0.up hbx2, hbc, by have := hb4.size; omega, fun j hj => by have := (hH0.own.checks.lt j hj).2; rw [World.size_alloc] at this; omega⟩
  have hb03 : Below w.heap.size w w3 := by
    have t1 := hb1.trans (hb2.mono hb1.size)
    have t2 := t1.trans (hbx.mono t1.size)
    exact t2.trans (hb3.mono t2.size)
  generalize hW5 : (w4.alloc (.cells #[.int .i64 p.proto, .int .i64 p.cap, .int .i64 p.k, .slice An2 p.nodes.length cn2, .slice Al2 p.links.length cl2, .slice Ad2 p.dests.length cd2, .slice Ac2 p.checks.length cc2] 29)).alloc (.cells #[.int .i64 1, .int .i64 (i : Int), .int .i64 0, .int .i64 0, .int .i64 0] 43) = W5 at hG ⊢
  obtain ⟨gp, hgp⟩ : ∃ g, w2.heap.size = g := ⟨_, rfl⟩
  obtain ⟨gq, hgq⟩ : ∃ g, w4.heap.size = g := ⟨_, rfl⟩
  obtain ⟨gc, hgc⟩ : ∃ g, gq + 1 = g := ⟨_, rfl⟩
  rw [hgp, hgq, hgc] at hG
  rw [hgp, hgq, hgc]
  clear hW5 hgp hgq hgc hH0 qq0 qqc hat hbl hat0 hbl0 hA1 hA2 hA3 ho ho2 hb1 hb2 hb3 hb4 hbx hA
  obtain ⟨x, hx⟩ : ∃ x, p.nodes[i]? = some x := ⟨_, List.getElem?_eq_getElem bi⟩
  obtain ⟨d, hd⟩ : ∃ d, p.dests[0]? = some d := ⟨_, List.getElem?_eq_getElem (by omega)⟩
  obtain ⟨gn, rfl, lgn, c0w, _⟩ := hG.pat.nodes.node hx
  obtain ⟨gd, Ao, co, rfl, lgd, c1w, _, _⟩ := hG.pat.dests.dest hd
  rw [Nat.zero_mul] at c1w
  have s1 := hk.small.nodes x (List.mem_of_getElem? hx)
  have s2 := (hk.small.dests d (List.mem_of_getElem? hd)).1
  obtain ⟨nm, num⟩ := x
  obtain ⟨dn, og⟩ := d
  dsimp only at c0w c1w s1 s2
  have hcw : ∀ W, Below w3.heap.size w3 W → W.cell? ⟨gn, i * 2, none⟩ = some (.string nm) ∧ W.cell? ⟨gd, 0, none⟩ = some (.string dn) := fun W h => ⟨(h.cell (p := ⟨gn, i * 2, none⟩) lgn).trans c0w, (h.cell (p := ⟨gd, 0, none⟩) lgd).trans c1w⟩
  have c0 := (hcw _ hG.q.below).1
  have c1 := (hcw _ hG.q.below).2
  have HNM := Lib.hid (nm_is hx)
  have HDN := Lib.hid (dn_is hd)
  have q3 := (hG.bp.up hG.q.below).cell 3
  have q5 := (hG.bp.up hG.q.below).cell 5
  have g0 := hG.bc.cell 0
  have g1 := hG.bc.cell 1
  have g3 := hG.bc.cell 3
  have b2 : (0 : Int) ≤ (i : Int) := by omega
  have b3 : (i : Int) < (p.nodes.length : Int) := by omega
  have b4 : (0 : Int) < (p.dests.length : Int) := by omega
  have b5 : 0 < p.dests.length := by omega
  clear hx hd
  go_region
  clear g0 g1 g3 q3 q5
  go_upto_if 55 with (go_at_call 19; (with_reducible refine (pick3_is _ _ _ ha (by omega) (by omega) HPK _).mono ?_); rintro e w5 ⟨rfl, rfl⟩)
  go_cut [15] (fun s15 wx => ∃ (k li' : Nat) (L : ByteArray), s15 = .string L ∧ Hid (L.data.toList ++ [59, 10] = lineS (checkW p.nodes p.dests ⟨(k : Int), (i : Int), 0, (li' : Int), 0⟩)) ∧ Hid ((k = 1 ∧ li' = 0) ∨ (k = 2 ∧ li' < 10)) ∧ L.size ≤ 9000 ∧ GrowSt w3 gp gq gc p (some ⟨gn, 0, none⟩) Al (some ⟨gd, 0, none⟩) Ac cn cl cd cc (.slice An2 p.nodes.length cn2) (.slice Al2 p.links.length cl2) (.slice Ad2 p.dests.length cd2) (.slice Ac2 p.checks.length cc2) k i li' wx)
  case first =>
    have hv2 : v = 0 ∨ v = 1 := by omega
    clear HPK
    rcases hv2 with h5 | h5
    · subst h5
      have HL := line_reach p i nm dn HNM HDN
      have HZ := line_size nm dn s1 s2 ⟨#[99, 104, 101, 99, 107, 32, 114, 101, 97, 99, 104, 32]⟩ ⟨#[]⟩ (by decide) (by decide)
      go_wp2_with fail
      go_meet
      exact ⟨1, 0, _, rfl, HL, Lib.hid (.inl ⟨rfl, rfl⟩), by simpa only [bnil] using HZ, hG.drawn⟩
    · subst h5
      have HL := line_within p i li nm dn HNM HDN bli
      have HZ := line_size nm dn s1 s2 ⟨#[99, 104, 101, 99, 107, 32, 119, 105, 116, 104, 105, 110, 32]⟩ (⟨#[32]⟩ ++ ⟨#[48 + UInt8.ofNat li]⟩) (by decide) (by simp only [ByteArray.size_append]; exact Nat.le_refl 2)
      have g0 := hG.bc.cell 0
      have f0 := hG.bc.frozen 0
      have hG1 := hG.kind2
      go_upto_region 11 with fail
      clear g0 f0
      generalize hW6 : W5.setCell ⟨gc, 0, none⟩ (.int .i64 2) = W6 at hG1 ⊢
      clear hW6
      have g0 := hG1.bc.cell 3
      have f0 := hG1.bc.frozen 3
      have hG2 := hG1.lim li
      go_upto_region 12 with (go_at_call 19; (with_reducible refine (pick3_is _ _ _ he0 (by omega) (by omega) HPL _).mono ?_); rintro e w5 ⟨rfl, rfl⟩)
      clear g0 f0 c0 c1
      generalize hW7 : W6.setCell ⟨gc, 3, none⟩ (.int .i64 (li : Int)) = W7 at hG2 ⊢
      clear hW7 hG1
      have hcv2 := conv_two3
      have hbq := hG2.bp.up hG2.q.below
      have q3 := hbq.cell 3
      have q5 := hbq.cell 5
      have q3a := fun o => (hbq.alloc o).cell 3
      have q5a := fun o => (hbq.alloc o).cell 5
      have g1 := hG2.bc.cell 1
      have g3 := hG2.bc.cell 3
      have g1a := fun o => (hG2.bc.alloc o).cell 1
      have g3a := fun o => (hG2.bc.alloc o).cell 3
      have d0 := (hcw _ hG2.q.below).1
      have d1 := (hcw _ hG2.q.below).2
      have d0a := fun o => (hcw _ (hG2.q.up (below_new W7 o)).below).1
      have d1a := fun o => (hcw _ (hG2.q.up (below_new W7 o)).below).2
      have HG := Lib.hid hG2
      clear hG2 hbq hG
      have z1 : ¬ 9223372036854775807 < 13 + nm.size := by omega
      have z2 : ¬ 9223372036854775807 < 13 + nm.size + 1 := by omega
      have z3 : ¬ 9223372036854775807 < 13 + nm.size + 1 + dn.size := by omega
      have z4 : ¬ 9223372036854775807 < 13 + nm.size + 1 + dn.size + 1 := by omega
      have z5 : ¬ 9223372036854775807 < 13 + nm.size + 1 + dn.size + 1 + 1 := by omega
      have hcv1 := conv_one3
      have hcvd := conv_drew3
      refine wp_region_held_drew (S := (fun w' => w'.cell? ⟨gp, 3, none⟩ = some (.slice (some ⟨gn, 0, none⟩) p.nodes.length cn) ∧ w'.cell? ⟨gp, 5, none⟩ = some (.slice (some ⟨gd, 0, none⟩) p.dests.length cd) ∧ w'.cell? ⟨gc, 1, none⟩ = some (.int .i64 (i : Int)) ∧ w'.cell? ⟨gc, 3, none⟩ = some (.int .i64 (li : Int)) ∧ w'.cell? ⟨gn, i * 2, none⟩ = some (.string nm) ∧ w'.cell? ⟨gd, 0, none⟩ = some (.string dn))) (by kernel_rfl) (by go_keep) (fun hHeld => ?_)
      refine wpAnyH_take (i := 0) (oi := ?o1) (v := ?v1) ?h1 ?s1 ?f1 ?c1 ?q1 ?y1 hHeld ?r1
      case h1 => (simp only [List.getElem?_toArray, List.getElem?_cons_succ, List.getElem?_cons_zero]; rfl)
      case s1 => kernel_rfl
      case f1 => kernel_rfl
      case c1 => kernel_rfl
      case y1 => (refine Or.inl ⟨by rfl, ?_⟩; intro w hSw; (try dsimp only at hSw); go_simp; (try with_reducible rfl))
      case q1 => exact fun _ _ _ h => h
      try simp only [Act.put, List.setIfInBounds_toArray, List.set_cons_zero, List.set_cons_succ]
      refine wpAnyH_take (i := 1) (oi := ?o2) (v := ?v2) ?h2 ?s2 ?f2 ?c2 ?q2 ?y2 hHeld ?r2
      case h2 => (simp only [List.getElem?_toArray, List.getElem?_cons_succ, List.getElem?_cons_zero]; rfl)
      case s2 => kernel_rfl
      case f2 => kernel_rfl
      case c2 => kernel_rfl
      case y2 => (refine Or.inl ⟨by rfl, ?_⟩; intro w hSw; (try dsimp only at hSw); go_simp; (try with_reducible rfl))
      case q2 => exact fun _ _ _ h => h
      try simp only [Act.put, List.setIfInBounds_toArray, List.set_cons_zero, List.set_cons_succ]
      refine wpAnyH_take (i := 2) (oi := ?o3) (v := ?v3) ?h3 ?s3 ?f3 ?c3 ?q3 ?y3 hHeld ?r3
      case h3 => (simp only [List.getElem?_toArray, List.getElem?_cons_succ, List.getElem?_cons_zero]; rfl)
      case s3 => kernel_rfl
      case f3 => kernel_rfl
      case c3 => kernel_rfl
      case y3 => (refine Or.inl ⟨by rfl, ?_⟩; intro w hSw; (try dsimp only at hSw); go_simp; (try with_reducible rfl))
      case q3 => exact fun _ _ _ h => h
      try simp only [Act.put, List.setIfInBounds_toArray, List.set_cons_zero, List.set_cons_succ]
      refine wpAnyH_take (i := 3) (oi := ?o4) (v := ?v4) ?h4 ?s4 ?f4 ?c4 ?q4 ?y4 hHeld ?r4
      case h4 => (simp only [List.getElem?_toArray, List.getElem?_cons_succ, List.getElem?_cons_zero]; rfl)
      case s4 => kernel_rfl
      case f4 => kernel_rfl
      case c4 => kernel_rfl
      case y4 => (refine Or.inl ⟨by rfl, ?_⟩; intro w hSw; (try dsimp only at hSw); go_simp; (try with_reducible rfl))
      case q4 => exact fun _ _ _ h => h
      try simp only [Act.put, List.setIfInBounds_toArray, List.set_cons_zero, List.set_cons_succ]
      refine wpAnyH_take (i := 4) (oi := ?o5) (v := ?v5) ?h5 ?s5 ?f5 ?c5 ?q5 ?y5 hHeld ?r5
      case h5 => (simp only [List.getElem?_toArray, List.getElem?_cons_succ, List.getElem?_cons_zero]; rfl)
      case s5 => kernel_rfl
      case f5 => kernel_rfl
      case c5 => kernel_rfl
      case y5 => (refine Or.inl ⟨by rfl, ?_⟩; intro w hSw; (try dsimp only at hSw); go_simp; (try with_reducible rfl))
      case q5 => exact fun _ _ _ h => h
      try simp only [Act.put, List.setIfInBounds_toArray, List.set_cons_zero, List.set_cons_succ]
      refine wpAnyH_take (i := 5) (oi := ?o6) (v := ?v6) ?h6 ?s6 ?f6 ?c6 ?q6 ?y6 hHeld ?r6
      case h6 => (simp only [List.getElem?_toArray, List.getElem?_cons_succ, List.getElem?_cons_zero]; rfl)
      case s6 => kernel_rfl
      case f6 => kernel_rfl
      case c6 => kernel_rfl
      case y6 => (refine Or.inl ⟨by rfl, ?_⟩; intro w hSw; (try dsimp only at hSw); go_simp; (try with_reducible rfl))
      case q6 => exact fun _ _ _ h => h
      try simp only [Act.put, List.setIfInBounds_toArray, List.set_cons_zero, List.set_cons_succ]
      refine wpAnyH_take (i := 6) (oi := ?o7) (v := ?v7) ?h7 ?s7 ?f7 ?c7 ?q7 ?y7 hHeld ?r7
      case h7 => (simp only [List.getElem?_toArray, List.getElem?_cons_succ, List.getElem?_cons_zero]; rfl)
      case s7 => kernel_rfl
      case f7 => kernel_rfl
      case c7 => kernel_rfl
      case y7 => (refine Or.inl ⟨by rfl, ?_⟩; intro w hSw; (try dsimp only at hSw); go_simp; (try with_reducible rfl))
      case q7 => exact fun _ _ _ h => h
      try simp only [Act.put, List.setIfInBounds_toArray, List.set_cons_zero, List.set_cons_succ]
      refine wpAnyH_take (i := 7) (oi := ?o8) (v := ?v8) ?h8 ?s8 ?f8 ?c8 ?q8 ?y8 hHeld ?r8
      case h8 => (simp only [List.getElem?_toArray, List.getElem?_cons_succ, List.getElem?_cons_zero]; rfl)
      case s8 => kernel_rfl
      case f8 => kernel_rfl
      case c8 => kernel_rfl
      case y8 => (refine Or.inl ⟨by rfl, ?_⟩; intro w hSw; (try dsimp only at hSw); go_simp; (try with_reducible rfl))
      case q8 => exact fun _ _ _ h => h
      try simp only [Act.put, List.setIfInBounds_toArray, List.set_cons_zero, List.set_cons_succ]
      refine wpAnyH_take (i := 8) (oi := ?o9) (v := ?v9) ?h9 ?s9 ?f9 ?c9 ?q9 ?y9 hHeld ?r9
      case h9 => (simp only [List.getElem?_toArray, List.getElem?_cons_succ, List.getElem?_cons_zero]; rfl)
      case s9 => kernel_rfl
      case f9 => kernel_rfl
      case c9 => kernel_rfl
      case y9 => (refine Or.inl ⟨by rfl, ?_⟩; intro w hSw; (try dsimp only at hSw); go_simp; (try with_reducible rfl))
      case q9 => exact fun _ _ _ h => h
      try simp only [Act.put, List.setIfInBounds_toArray, List.set_cons_zero, List.set_cons_succ]
      refine wpAnyH_take (i := 9) (oi := ?o10) (v := ?v10) ?h10 ?s10 ?f10 ?c10 ?q10 ?y10 hHeld ?r10
      case h10 => (simp only [List.getElem?_toArray, List.getElem?_cons_succ, List.getElem?_cons_zero]; rfl)
      case s10 => kernel_rfl
      case f10 => kernel_rfl
      case c10 => kernel_rfl
      case y10 => (refine Or.inl ⟨by rfl, ?_⟩; intro w hSw; (try dsimp only at hSw); go_simp; (try with_reducible rfl))
      case q10 => exact fun _ _ _ h => h
      try simp only [Act.put, List.setIfInBounds_toArray, List.set_cons_zero, List.set_cons_succ]
      refine wpAnyH_take (i := 10) (oi := ?o11) (v := ?v11) ?h11 ?s11 ?f11 ?c11 ?q11 ?y11 hHeld ?r11
      case h11 => (simp only [List.getElem?_toArray, List.getElem?_cons_succ, List.getElem?_cons_zero]; rfl)
      case s11 => kernel_rfl
      case f11 => kernel_rfl
      case c11 => kernel_rfl
      case y11 => (refine Or.inl ⟨by rfl, ?_⟩; intro w hSw; (try dsimp only at hSw); go_simp; (try with_reducible rfl))
      case q11 => exact fun _ _ _ h => h
      try simp only [Act.put, List.setIfInBounds_toArray, List.set_cons_zero, List.set_cons_succ]
      refine wpAnyH_take (i := 11) (oi := ?o12) (v := ?v12) ?h12 ?s12 ?f12 ?c12 ?q12 ?y12 hHeld ?r12
      case h12 => (simp only [List.getElem?_toArray, List.getElem?_cons_succ, List.getElem?_cons_zero]; rfl)
      case s12 => kernel_rfl
      case f12 => kernel_rfl
      case c12 => kernel_rfl
      case y12 => (refine Or.inl ⟨by rfl, ?_⟩; intro w hSw; (try dsimp only at hSw); go_simp; (try with_reducible rfl))
      case q12 => exact fun _ _ _ h => h
      try simp only [Act.put, List.setIfInBounds_toArray, List.set_cons_zero, List.set_cons_succ]
      refine wpAnyH_take (i := 12) (oi := ?o13) (v := ?v13) ?h13 ?s13 ?f13 ?c13 ?q13 ?y13 hHeld ?r13
      case h13 => (simp only [List.getElem?_toArray, List.getElem?_cons_succ, List.getElem?_cons_zero]; rfl)
      case s13 => kernel_rfl
      case f13 => kernel_rfl
      case c13 => kernel_rfl
      case y13 => (refine Or.inl ⟨by rfl, ?_⟩; intro w hSw; (try dsimp only at hSw); go_simp; (try with_reducible rfl))
      case q13 => exact fun _ _ _ h => h
      try simp only [Act.put, List.setIfInBounds_toArray, List.set_cons_zero, List.set_cons_succ]
      refine wpAnyH_take (i := 13) (oi := ?o14) (v := ?v14) ?h14 ?s14 ?f14 ?c14 ?q14 ?y14 hHeld ?r14
      case h14 => (simp only [List.getElem?_toArray, List.getElem?_cons_succ, List.getElem?_cons_zero]; rfl)
      case s14 => kernel_rfl
      case f14 => kernel_rfl
      case c14 => kernel_rfl
      case y14 => (refine Or.inl ⟨by rfl, ?_⟩; intro w hSw; (try dsimp only at hSw); go_simp; (try with_reducible rfl))
      case q14 => exact fun _ _ _ h => h
      try simp only [Act.put, List.setIfInBounds_toArray, List.set_cons_zero, List.set_cons_succ]
      refine wpAnyH_take (i := 14) (oi := ?o15) (v := ?v15) ?h15 ?s15 ?f15 ?c15 ?q15 ?y15 hHeld ?r15
      case h15 => (simp only [List.getElem?_toArray, List.getElem?_cons_succ, List.getElem?_cons_zero]; rfl)
      case s15 => kernel_rfl
      case f15 => kernel_rfl
      case c15 => kernel_rfl
      case y15 => (refine Or.inl ⟨by rfl, ?_⟩; intro w hSw; (try dsimp only at hSw); go_simp; (try with_reducible rfl))
      case q15 => exact fun _ _ _ h => h
      try simp only [Act.put, List.setIfInBounds_toArray, List.set_cons_zero, List.set_cons_succ]
      refine wpAnyH_take (i := 15) (oi := ?o16) (v := ?v16) ?h16 ?s16 ?f16 ?c16 ?q16 ?y16 hHeld ?r16
      case h16 => (simp only [List.getElem?_toArray, List.getElem?_cons_succ, List.getElem?_cons_zero]; rfl)
      case s16 => kernel_rfl
      case f16 => kernel_rfl
      case c16 => kernel_rfl
      case y16 => (refine Or.inl ⟨by rfl, ?_⟩; intro w hSw; (try dsimp only at hSw); go_simp; (try with_reducible rfl))
      case q16 => exact fun _ _ _ h => h
      try simp only [Act.put, List.setIfInBounds_toArray, List.set_cons_zero, List.set_cons_succ]
      refine wpAnyH_take (i := 16) (oi := ?o17) (v := ?v17) ?h17 ?s17 ?f17 ?c17 ?q17 ?y17 hHeld ?r17
      case h17 => (simp only [List.getElem?_toArray, List.getElem?_cons_succ, List.getElem?_cons_zero]; rfl)
      case s17 => kernel_rfl
      case f17 => kernel_rfl
      case c17 => kernel_rfl
      case y17 => (refine Or.inl ⟨by rfl, ?_⟩; intro w hSw; (try dsimp only at hSw); go_simp; (try with_reducible rfl))
      case q17 => exact fun _ _ _ h => h
      try simp only [Act.put, List.setIfInBounds_toArray, List.set_cons_zero, List.set_cons_succ]
      refine wpAnyH_take (i := 17) (oi := ?o18) (v := ?v18) ?h18 ?s18 ?f18 ?c18 ?q18 ?y18 hHeld ?r18
      case h18 => (simp only [List.getElem?_toArray, List.getElem?_cons_succ, List.getElem?_cons_zero]; rfl)
      case s18 => kernel_rfl
      case f18 => kernel_rfl
      case c18 => kernel_rfl
      case y18 => (refine Or.inl ⟨by rfl, ?_⟩; intro w hSw; (try dsimp only at hSw); go_simp; (try with_reducible rfl))
      case q18 => exact fun _ _ _ h => h
      try simp only [Act.put, List.setIfInBounds_toArray, List.set_cons_zero, List.set_cons_succ]
      refine wpAnyH_take (i := 18) (oi := ?o19) (v := ?v19) ?h19 ?s19 ?f19 ?c19 ?q19 ?y19 hHeld ?r19
      case h19 => (simp only [List.getElem?_toArray, List.getElem?_cons_succ, List.getElem?_cons_zero]; rfl)
      case s19 => kernel_rfl
      case f19 => kernel_rfl
      case c19 => kernel_rfl
      case y19 => (refine Or.inl ⟨by rfl, ?_⟩; intro w hSw; (try dsimp only at hSw); go_simp; (try with_reducible rfl))
      case q19 => exact fun _ _ _ h => h
      try simp only [Act.put, List.setIfInBounds_toArray, List.set_cons_zero, List.set_cons_succ]
      refine wpAnyH_take (i := 19) (oi := ?o20) (v := ?v20) ?h20 ?s20 ?f20 ?c20 ?q20 ?y20 hHeld ?r20
      case h20 => (simp only [List.getElem?_toArray, List.getElem?_cons_succ, List.getElem?_cons_zero]; rfl)
      case s20 => kernel_rfl
      case f20 => kernel_rfl
      case c20 => kernel_rfl
      case y20 => (refine Or.inl ⟨by rfl, ?_⟩; intro w hSw; (try dsimp only at hSw); go_simp; (try with_reducible rfl))
      case q20 => exact fun _ _ _ h => h
      try simp only [Act.put, List.setIfInBounds_toArray, List.set_cons_zero, List.set_cons_succ]
      refine wpAnyH_ready (rs := [20]) (by kernel_rfl) (by simp) ?_
      refine AllReadyH.cons rfl (fun K hK => ?_) ?n21
      case n21 => exact AllReadyH.nil
      go_simp
      refine hK.out _ _ (by go_keep) (fun hHeld => ?_)
      clear hK
      try simp only [Act.put, List.setIfInBounds_toArray, List.set_cons_zero, List.set_cons_succ]
      refine wpAnyH_ready (rs := [21]) (by kernel_rfl) (by simp) ?_
      refine AllReadyH.cons rfl (fun K hK => ?_) ?n22
      case n22 => exact AllReadyH.nil
      go_simp
      refine hK.out _ _ (by go_keep) (fun hHeld => ?_)
      clear hK
      try simp only [Act.put, List.setIfInBounds_toArray, List.set_cons_zero, List.set_cons_succ]
      refine wpAnyH_take (i := 22) (oi := ?o23) (v := ?v23) ?h23 ?s23 ?f23 ?c23 ?q23 ?y23 hHeld ?r23
      case h23 => (simp only [List.getElem?_toArray, List.getElem?_cons_succ, List.getElem?_cons_zero]; rfl)
      case s23 => kernel_rfl
      case f23 => kernel_rfl
      case c23 => kernel_rfl
      case y23 => (refine Or.inl ⟨by rfl, ?_⟩; intro w hSw; (try dsimp only at hSw); go_simp; (try with_reducible rfl))
      case q23 => exact fun _ _ _ h => h
      try simp only [Act.put, List.setIfInBounds_toArray, List.set_cons_zero, List.set_cons_succ]
      refine wpAnyH_take (i := 23) (oi := ?o24) (v := ?v24) ?h24 ?s24 ?f24 ?c24 ?q24 ?y24 hHeld ?r24
      case h24 => (simp only [List.getElem?_toArray, List.getElem?_cons_succ, List.getElem?_cons_zero]; rfl)
      case s24 => kernel_rfl
      case f24 => kernel_rfl
      case c24 => kernel_rfl
      case y24 => (refine Or.inl ⟨by rfl, ?_⟩; intro w hSw; (try dsimp only at hSw); go_simp; (try with_reducible rfl))
      case q24 => exact fun _ _ _ h => h
      try simp only [Act.put, List.setIfInBounds_toArray, List.set_cons_zero, List.set_cons_succ]
      refine wpAnyH_done (by kernel_rfl) ?_ _
      rw [← dig_byte li bli] at HL HZ
      repeat go_step
      go_meet
      exact ⟨2, li, _, rfl, HL, Lib.hid (.inr ⟨rfl, bli⟩), by rw [ByteArray.append_assoc]; exact HZ, growst_any HG.out⟩
  case rest =>
    clear hG hcw c0 c1 c0w c1w HNM HDN s1 s2
    obtain ⟨k, li', L, rfl, HL, HK, hLs, hq⟩ := hcut
    have hsm := hk.small
    have hti := hk.tiny
    have HR := right_more hk.right hl1 ⟨(k : Int), (i : Int), 0, (li' : Int), 0⟩ (check_fits _ _ k i li' HK.out bi b5)
    have hs2 := small_more hsm hl1 ⟨(k : Int), (i : Int), 0, (li' : Int), 0⟩
    have ht2 := tiny_more hti k i li' HK.out bi b5
    have HT := Lib.hid (text_check p ⟨(k : Int), (i : Int), 0, (li' : Int), 0⟩)
    have hS1 : S.size ≤ 140737488355328 := by
      have := text_le hsm hti
      rw [HS.out]; exact this
    obtain ⟨iL, hiL, zL0, zL1, zL2⟩ := info_parts checkInfo
    have qn := hq.q.blk.cell 6
    have g0 := hq.bc.cell 0
    have g1 := hq.bc.cell 1
    have g2 := hq.bc.cell 2
    have g3 := hq.bc.cell 3
    have g4 := hq.bc.cell 4
    have hls := hq.q.below.size
    have hoc := hq.q.own.checks
    have HQ := Lib.hid hq
    clear hq
    go_upto_region 14 with (at_builtin; refine wpList_append_lies _ rfl _ _ _ rfl w3.heap.size 43 iL (.agg #[.int .i64 0, .int .i64 0, .int .i64 0, .int .i64 0, .int .i64 0]) 5 40 Tryd.underlying27 hiL zL0 zL1 zL2 rfl (by decide) (.slice Ac2 p.checks.length cc2) p.checks.length _ rfl (own_alloc hoc _) ⟨wc.heap.size, 0, none⟩ 1 1 [.int .i64 (k : Int), .int .i64 (i : Int), .int .i64 0, .int .i64 (li' : Int), .int .i64 0] rfl rfl (cells_new wc [.int .i64 (k : Int), .int .i64 (i : Int), .int .i64 0, .int .i64 (li' : Int), .int .i64 0] 43) (by simp [Value.oneCell']) (by omega) (by unfold maxLen; omega) (by omega) (by simp; omega) (wc.heap.size + 1) (by simp) ?_; intro g6 cap6 w6 hown6 hgrow6 _ _; have hu := HQ.out.q.up (below_new wc (.cells #[.int .i64 (k : Int), .int .i64 (i : Int), .int .i64 0, .int .i64 (li' : Int), .int .i64 0] 43)); have hb6 := hu.blk.grown hgrow6 (fun e1 => own_blk_ne hu.own.checks hu.blk (by decide) e1.symm); have q6 := hb6.cell 6; have f6 := hb6.frozen 6)
    have ho7 : w6.ownsRow w3.heap.size 43 5 (.slice (some ⟨g6, 0, none⟩) (p.checks.length + 1) cap6) (p.checks.length + 1) (p.checks.flatMap checkC ++ checkC ⟨(k : Int), (i : Int), 0, (li' : Int), 0⟩) := hown6
    have hN := hu.pushCheck ho7 hgrow6
    clear hown6 hgrow6 hu hb6 q6 f6 ho7 hoc qn g0 g1 g2 g3 g4
    generalize hW8 : w6.setCell ⟨gq, 6, none⟩ (.slice (some ⟨g6, 0, none⟩) (p.checks.length + 1) cap6) = W8 at hN ⊢
    clear hW8
    have hc0 : PAt W8 { p with checks := p.checks ++ [⟨(k : Int), (i : Int), 0, (li' : Int), 0⟩] } p.proto p.cap p.k An2 p.nodes.length Al2 p.links.length Ad2 p.dests.length (some ⟨g6, 0, none⟩) (p.checks.length + 1) := hN.pat
    have hd0 : Blk W8 gq 29 #[.int .i64 p.proto, .int .i64 p.cap, .int .i64 p.k, .slice An2 p.nodes.length cn2, .slice Al2 p.links.length cl2, .slice Ad2 p.dests.length cd2, .slice (some ⟨g6, 0, none⟩) (p.checks.length + 1) cap6] := hN.blk
    have hbw := hb03.trans (hN.below.mono hb03.size)
    clear hN
    obtain ⟨T, hT⟩ : ∃ T : ByteArray, T = ⟨(textB { p with checks := p.checks ++ [⟨(k : Int), (i : Int), 0, (li' : Int), 0⟩] }).toArray⟩ := ⟨_, rfl⟩
    have HTS := grown_text HS HL HT hT
    have HT2 := Lib.hid hT
    have hT1 := text_le hs2 ht2
    clear hT HT
    have q00 := hd0.cell 0
    have q01 := hd0.cell 1
    have q02 := hd0.cell 2
    have q03 := hd0.cell 3
    have q04 := hd0.cell 4
    have q05 := hd0.cell 5
    have q06 := hd0.cell 6
    have HDD := Lib.hid hd0
    clear hd0
    go_wp2_with (go_at_call 9; (with_reducible refine (Print_good HR hs2 ht2 hc0 hT1).mono ?_); rintro e w9 ⟨rfl, hb9⟩; rw [← HT2.out])
    go_ret
    exact ⟨by rw [HTS.out]; simp, hbw.trans (hb9.mono hbw.size)⟩
end Go.Proofs.YtponlhgkgmlihaaDoor
