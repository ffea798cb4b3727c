/-
  CarryTwice: the walk.
-/
import Derived.Test.YtdmilbfdiebjgaaCaG
import Derived.Test.YtdmilbfdiebjgaaCaJ
import Derived.Test.YtdmilbfdiebjgaaPmB
namespace Go.Proofs.Ytdmilbfdiebjgaa
open Go.RowKit
set_option linter.unusedVariables false
set_option linter.unusedSimpArgs false

theorem twice_none {p : PPlan} (h : rightB p = true) {i a b : Nat} {l : PLink} {na nb : PNode} (hl : p.links[i]? = some l) (oa : otherI l (a : Int) = (b : Int)) (ha : p.nodes[a]? = some na) (hb : p.nodes[b]? = some nb) : overB p (i : Int) (a : Int) Rt.none = Rt.none := by
  rw [over_at h hl oa hb ha, if_pos (.inl rfl)]
theorem twice_pth {p : PPlan} (h : rightB p = true) (hp : p.proto = 2) {i a b : Nat} {l : PLink} {na nb : PNode} (hl : p.links[i]? = some l) (ob : otherI l (b : Int) = (a : Int)) (oa : otherI l (a : Int) = (b : Int)) (ha : p.nodes[a]? = some na) (hb : p.nodes[b]? = some nb) (hc : 1 ≤ l.cost) {r : Rt} (hf : fitB p na.num r = true) (hk : r.kind ≠ 0) :
    overB p (i : Int) (a : Int) (overB p (i : Int) (b : Int) r) = Rt.none := by
  rcases over_two h hl ob ha hb hf hk rfl with ⟨e1, e2, e3⟩ | ⟨e1, _⟩
  · rcases over_two h hl oa hb ha e2 (by rw [e3]; exact hk) rfl with ⟨f1, f2, _⟩ | ⟨f1, _⟩
    · have hk2 : (overB p (i : Int) (b : Int) r).kind ≠ 0 := by rw [e3]; exact hk
      rw [f1, told_fit h (node_num h hb) e2 hk2 hc, if_pos hp] at f2
      simp only [Bool.and_eq_true, Bool.not_eq_true', decide_eq_false_iff_not] at f2
      have hm := f2.2.2
      rw [e1] at hm
      unfold toldR memI at hm
      rw [if_pos hp] at hm
      simp at hm
    · exact f1
  · rw [e1]; exact twice_none h hl oa ha hb
theorem twice_vec {p : PPlan} (h : rightB p = true) (hp : p.proto = 1) {i a b : Nat} {l : PLink} {na nb : PNode} (hl : p.links[i]? = some l) (ob : otherI l (b : Int) = (a : Int)) (oa : otherI l (a : Int) = (b : Int)) (ha : p.nodes[a]? = some na) (hb : p.nodes[b]? = some nb) (hc : 1 ≤ l.cost) {r : Rt} (hf : fitB p na.num r = true) (hk : r.kind ≠ 0) :
    overB p (i : Int) (a : Int) (overB p (i : Int) (b : Int) r) = if r.cost + 2 * l.cost ≤ 15 then ⟨1, r.cost + 2 * l.cost, []⟩ else Rt.none := by
  have hp2 : ¬ p.proto = 2 := by omega
  rcases over_two h hl ob ha hb hf hk rfl with ⟨e1, e2, e3⟩ | ⟨e1, ef⟩
  · have hk2 : (overB p (i : Int) (b : Int) r).kind ≠ 0 := by rw [e3]; exact hk
    have hx : overB p (i : Int) (b : Int) r = ⟨1, r.cost + l.cost, []⟩ := by rw [e1]; unfold toldR; rw [if_neg hp2]
    have hft := told_fit h (node_num h hb) e2 hk2 hc na.num
    rw [if_neg hp2, hx] at hft
    rw [over_at h hl oa hb ha, if_neg (by rw [e2]; simp [hk2]), hx, hft]
    unfold toldR
    rw [if_neg hp2]
    dsimp only
    by_cases e : r.cost + 2 * l.cost ≤ 15
    · rw [if_pos (by simp; omega), if_pos e]
      congr 1
      omega
    · rw [if_neg (by simp; omega), if_neg e]
  · rw [e1, twice_none h hl oa ha hb]
    have hft := told_fit h (node_num h ha) hf hk hc nb.num
    rw [if_neg hp2, ef] at hft
    have := of_decide_eq_false hft.symm
    rw [if_neg (by omega)]
set_option maxHeartbeats 8000000 in
set_option maxRecDepth 100000 in
theorem carryTwice_walk (A : Option Addr) (c : Nat) (l : List Int) (hwf : ∀ v ∈ l, InI v) (hm : l.length ≤ 9223372036854775807) (hc : l.length ≤ c) (hcm : c ≤ 9223372036854775807) (x0 : Int) (hx0 : InI x0) (A3 : Option Addr) (c3 : Nat) (l3 : List Int) (hwf3 : ∀ v ∈ l3, InI v) (hm3 : l3.length ≤ 9223372036854775807) (hc3 : l3.length ≤ c3) (hcm3 : c3 ≤ 9223372036854775807) (w : World) (hA : CellsAt w w.heap.size A (l.map (Value.int .i64))) (hA3 : CellsAt w w.heap.size A3 (l3.map (Value.int .i64))) :
    Calls Try.prog 9 #[.slice A l.length c, .int .i64 x0, .slice A3 l3.length c3] w fun e w' => e = .returned (.bool true) ∧ Below w.heap.size w w' := by
  obtain ⟨p, hp⟩ : ∃ p, netOf l = p := ⟨_, rfl⟩
  have hk := netOk l
  rw [hp] at hk
  have HP := Lib.hid hp
  have HM := Lib.hid hwf
  clear hp hwf
  obtain ⟨n, hn⟩ : ∃ n, l.length = n := ⟨_, rfl⟩
  rw [hn] at hm hc ⊢
  have HLEN := Lib.hid hn
  clear hn
  have hn1 := hk.nodes1
  have hl9 := hk.links1
  have hR := hk.right.out
  have m1 : ∀ (k c : Int) (A : Option Addr) (n m : Nat) (w : World), (Instr.field 42 (.agg #[.int .i64 k, .int .i64 c, .slice A n m]) 0).run Try.prog w = .ok (.int .i64 k) w := fun _ _ _ _ _ _ => by kernel_rfl
  have m2 : ∀ (k c : Int) (A : Option Addr) (n m : Nat) (w : World), (Instr.field 42 (.agg #[.int .i64 k, .int .i64 c, .slice A n m]) 1).run Try.prog w = .ok (.int .i64 c) w := fun _ _ _ _ _ _ => by kernel_rfl
  have U := Below.refl w.heap.size w
  obtain ⟨n3, hn3⟩ : ∃ n, l3.length = n := ⟨_, rfl⟩
  rw [hn3] at hm3 hc3 ⊢
  have HN3 := Lib.hid hn3
  have HW3 := Lib.hid hwf3
  clear hn3 hwf3
  by_cases hl0 : p.links.length = 0
  · have t0 : ((p.links.length : Int) == 0) = true := by simp [hl0]
    clear hl0
    go_enter Try.func9, Try.ntmps9
    go_wp2_with (first
      | (go_at_call 26; (with_reducible refine (awake7_any _).mono ?_); rintro e w1 ⟨rfl, hb1⟩; replace hA := hA.on hb1; replace hA3 := hA3.on hb1; replace U := below_on U hb1)
      | (go_at_call 12; refine (Net_at p l HP A n c HLEN.out HM.out hm hc hcm _ hA).mono ?_; rintro e w2 ⟨An, cn, Al, cl, Ad, cd, Ac, cc, rfl, ho, hb2⟩; have h := PBox.new U hb2 ho; replace hA := hA.on hb2; replace hA3 := hA3.on hb2; replace U := below_on U hb2; have hn2 := below_new w2 (.cells #[.int .i64 p.proto, .int .i64 p.cap, .int .i64 p.k, .slice An p.nodes.length cn, .slice Al p.links.length cl, .slice Ad p.dests.length cd, .slice Ac p.checks.length cc] 29); replace hA := hA.on hn2; replace hA3 := hA3.on hn2; replace U := below_on U hn2; obtain ⟨ce0, ce1, ce2, ce3, ce4, ce5, ce6⟩ := h.cells))
    go_ret
    exact ⟨rfl, h.up⟩
  · have t0 : ((p.links.length : Int) == 0) = false := beq_eq_false_iff_ne.2 (by omega)
    obtain ⟨i, hi, hil⟩ := pickN_nat x0 p.links.length (by omega)
    have HX := Lib.hid hi
    obtain ⟨⟨la, lb, lc⟩, hli⟩ : ∃ l, p.links[i]? = some l := ⟨_, List.getElem?_eq_getElem hil⟩
    obtain ⟨a, b, ha, hb, hab, hbn, hc0, hc1⟩ := link_ends hR hli
    dsimp only at ha hb hc0 hc1
    subst ha hb
    obtain ⟨na, hna⟩ : ∃ nd, p.nodes[a]? = some nd := ⟨_, List.getElem?_eq_getElem (by omega)⟩
    obtain ⟨nb, hnb⟩ : ∃ nd, p.nodes[b]? = some nd := ⟨_, List.getElem?_eq_getElem (by omega)⟩
    have HLI := Lib.hid hli
    have HNF := Lib.hid hna
    have hLI := HLI.out
    have hcap : p.cap ≤ 12 := by rcases proto_two hR with ⟨_, e⟩ | ⟨_, _, e⟩ <;> omega
    obtain ⟨ob, oa⟩ := other_b (l := ⟨(a : Int), (b : Int), lc⟩) rfl rfl hab
    obtain ⟨r, hr⟩ : ∃ r, heldR p na.num l3 = r := ⟨_, rfl⟩
    have HRA := Lib.hid hr
    have fa : fitB p na.num r = true := hr ▸ held_fit hR _ _
    have ka : r.kind ≠ 0 := hr ▸ held_kind _ _ _
    obtain ⟨x, hx⟩ : ∃ o, overB p (i : Int) (b : Int) r = o := ⟨_, rfl⟩
    obtain ⟨y, hy⟩ : ∃ o, overB p (i : Int) (a : Int) x = o := ⟨_, rfl⟩
    have HX2 := Lib.hid hx
    have HY2 := Lib.hid hy
    have key2 : p.proto = 2 → y.kind = 0 := fun hp => by
      have := twice_pth hR hp hli ob oa hna hnb hc0 fa ka
      rw [hx, hy] at this
      rw [this]; rfl
    have key1 : p.proto = 1 → y = if r.cost + 2 * lc ≤ 15 then ⟨1, r.cost + 2 * lc, []⟩ else Rt.none := fun hp => by
      have := twice_vec hR hp hli ob oa hna hnb hc0 fa ka
      rwa [hx, hy] at this
    have hrc : p.proto = 1 → 0 ≤ r.cost ∧ r.cost ≤ 15 := fun hp => by
      obtain ⟨_, k2, k3, _⟩ := fit_vec fa ka (by omega)
      exact ⟨k2, k3⟩
    have hpr := proto_two hR
    have i0 : (0 : Int) ≤ (i : Int) := by omega
    have i1 : (i : Int) < (p.links.length : Int) := by omega
    clear hi hli hna hnb hr fa ka hx hy hl0 hLI
    rcases hpr with ⟨hp, -⟩ | ⟨hp, -⟩
    · have tp : (p.proto == 2) = false := by simp [hp]
      obtain ⟨rc0, rc1⟩ := hrc hp
      have hyy := key1 hp
      have w1 : IntKind.i64.wrap (r.cost + IntKind.i64.wrap (2 * lc)) = r.cost + 2 * lc := by rw [IntKind.wrap_i64, IntKind.wrap_i64]; omega
      by_cases hle : r.cost + 2 * lc ≤ 15
      · rw [if_pos hle] at hyy
        have tg : (decide (15 < IntKind.i64.wrap (r.cost + IntKind.i64.wrap (2 * lc)))) = false := by rw [w1]; simp; omega
        have tg2 : (decide (15 < r.cost + 2 * lc)) = false := by simp; omega
        have tk : (y.kind == 1) = true := by rw [hyy]; rfl
        have tq : (y.cost == IntKind.i64.wrap (r.cost + IntKind.i64.wrap (2 * lc))) = true := by rw [w1, hyy]; simp
        have tq2 : (y.cost == r.cost + 2 * lc) = true := by rw [hyy]; simp
        clear hyy hp key1 key2 hrc w1 hle
        go_enter Try.func9, Try.ntmps9
        go_upto_region 9 with (first
          | (go_at_call 26; (with_reducible refine (awake7_any _).mono ?_); rintro e w1 ⟨rfl, hb1⟩; replace hA := hA.on hb1; replace hA3 := hA3.on hb1; replace U := below_on U hb1)
          | (go_at_call 12; refine (Net_at p l HP A n c HLEN.out HM.out hm hc hcm _ hA).mono ?_; rintro e w2 ⟨An, cn, Al, cl, Ad, cd, Ac, cc, rfl, ho, hb2⟩; have h := PBox.new U hb2 ho; replace hA := hA.on hb2; replace hA3 := hA3.on hb2; replace U := below_on U hb2; have hn2 := below_new w2 (.cells #[.int .i64 p.proto, .int .i64 p.cap, .int .i64 p.k, .slice An p.nodes.length cn, .slice Al p.links.length cl, .slice Ad p.dests.length cd, .slice Ac p.checks.length cc] 29); replace hA := hA.on hn2; replace hA3 := hA3.on hn2; replace U := below_on U hn2; obtain ⟨gL, hgL, _, l0, l1, l2⟩ := h.at_.links.link HLI.out; subst hgL; obtain ⟨ce0, ce1, ce2, ce3, ce4, ce5, ce6⟩ := h.cells; obtain ⟨l0, l1, l2⟩ := RowAt.linkAt h.at_.links HLI.out)
          | (go_at_call 27; (with_reducible refine (pick7_is x0 _ (i : Int) hx0 (by omega) (by omega) HX _).mono ?_); rintro e wp ⟨rfl, rfl⟩)
          | (go_at_call 36; (with_reducible refine (held_is p a na HNF hcap l3 r HRA HW3 n3 HN3 hm3 h.at_ hk.small hA3).mono ?_); rintro e w3 ⟨Aa, ca, rfl, Ra, ha1, ha2, hb3⟩; replace h := h.go hb3; replace hA := hA.on hb3; replace hA3 := hA3.on hb3; replace U := below_on U hb3; have hn3 := below_new w3 (.cells #[.int .i64 r.kind, .int .i64 r.cost, .slice Aa r.path.length ca] 42); replace h := h.go hn3; replace hA := hA.on hn3; replace hA3 := hA3.on hn3; replace Ra := Ra.on hn3; replace U := below_on U hn3; have Ba := Blk.new w3 42 #[.int .i64 r.kind, .int .i64 r.cost, .slice Aa r.path.length ca]; obtain ⟨ce7, ce8, ce9, ce10, ce11, ce12, ce13⟩ := h.cells; have ce14 := Ba.cell 0; have ce15 := Ba.cell 1; have ce16 := Ba.cell 2; obtain ⟨l0, l1, l2⟩ := RowAt.linkAt h.at_.links HLI.out))
        have hP := h
        have BaP := Ba
        have RaP := Ra
        have UP := U
        have hdr : Below (w3.alloc (.cells #[.int .i64 r.kind, .int .i64 r.cost, .slice Aa r.path.length ca] 42)).heap.size (w3.alloc (.cells #[.int .i64 r.kind, .int .i64 r.cost, .slice Aa r.path.length ca] 42)) (w3.alloc (.cells #[.int .i64 r.kind, .int .i64 r.cost, .slice Aa r.path.length ca] 42)).drew := (Below.refl _ _).drew
        replace h := h.go hdr
        replace Ba := Ba.up hdr
        replace hA := hA.on hdr
        replace hA3 := hA3.on hdr
        replace Ra := Ra.on hdr
        replace U := below_on U hdr
        have HWD := Lib.hid (show (w3.alloc (.cells #[.int .i64 r.kind, .int .i64 r.cost, .slice Aa r.path.length ca] 42)).heap.size = w3.heap.size + 1 by rw [World.size_alloc])
        have KT0 : Blk (((w3.alloc (.cells #[.int .i64 r.kind, .int .i64 r.cost, .slice Aa r.path.length ca] 42)).alloc (.cells #[.int .i64 0, .int .i64 0, .slice Option.none 0 0] 42)).drew) (w3.heap.size + 1) 42 #[.int .i64 0, .int .i64 0, .slice Option.none 0 0] := by have q := (Blk.new (w3.alloc (.cells #[.int .i64 r.kind, .int .i64 r.cost, .slice Aa r.path.length ca] 42)) 42 #[.int .i64 0, .int .i64 0, .slice Option.none 0 0]).up ((Below.refl _ _).drew); rw [HWD.out] at q; exact q
        have hz : Below (w3.alloc (.cells #[.int .i64 r.kind, .int .i64 r.cost, .slice Aa r.path.length ca] 42)).heap.size (w3.alloc (.cells #[.int .i64 r.kind, .int .i64 r.cost, .slice Aa r.path.length ca] 42)) (((w3.alloc (.cells #[.int .i64 r.kind, .int .i64 r.cost, .slice Aa r.path.length ca] 42)).alloc (.cells #[.int .i64 0, .int .i64 0, .slice Option.none 0 0] 42)).drew) := (below_new (w3.alloc (.cells #[.int .i64 r.kind, .int .i64 r.cost, .slice Aa r.path.length ca] 42)) (.cells #[.int .i64 0, .int .i64 0, .slice Option.none 0 0] 42)).drew
        go_region_held3 (fun w' => (w'.cell? ⟨w2.heap.size, 0, none⟩ = some (.int .i64 p.proto) ∧ w'.cell? ⟨w2.heap.size, 1, none⟩ = some (.int .i64 p.cap) ∧ w'.cell? ⟨w2.heap.size, 2, none⟩ = some (.int .i64 p.k) ∧ w'.cell? ⟨w2.heap.size, 3, none⟩ = some (.slice An p.nodes.length cn) ∧ w'.cell? ⟨w2.heap.size, 4, none⟩ = some (.slice (some ⟨gL, 0, none⟩) p.links.length cl) ∧ w'.cell? ⟨w2.heap.size, 5, none⟩ = some (.slice Ad p.dests.length cd) ∧ w'.cell? ⟨w2.heap.size, 6, none⟩ = some (.slice Ac p.checks.length cc)) ∧ w'.cell? ⟨w3.heap.size, 0, none⟩ = some (.int .i64 r.kind) ∧ w'.cell? ⟨w3.heap.size, 1, none⟩ = some (.int .i64 r.cost) ∧ w'.cell? ⟨w3.heap.size, 2, none⟩ = some (.slice Aa r.path.length ca)) (go_keep) (first
          | (go_at_call 32; (with_reducible refine (caOver_w p (i : Int) (b : Int) r x HX2 h.at_ hk.small Ra ha1 ha2).mono ?_); rintro e w4 ⟨Ax, cx, rfl, Rx, hx1, hx2, hb4⟩; have h1 := h.go hb4; have Ba1 := Ba.up hb4; have U1 := below_on U hb4; obtain ⟨cf0, cf1, cf2, cf3, cf4, cf5, cf6⟩ := h1.cells; have cf7 := Ba1.cell 0; have cf8 := Ba1.cell 1; have cf9 := Ba1.cell 2)
          | (go_at_call 32; (with_reducible refine (caOver_w p (i : Int) (b : Int) r x HX2 (hP.go hz).at_ hk.small (RaP.on hz) ha1 ha2).mono ?_); rintro e w4 ⟨Ax, cx, rfl, Rx, hx1, hx2, hb4⟩; have h2 := (hP.go hz).go hb4; have Ba2 := (BaP.up hz).up hb4; have KT4 := KT0.up hb4; obtain ⟨cf10, cf11, cf12, cf13, cf14, cf15, cf16⟩ := h2.cells; have cf17 := Ba2.cell 0; have cf18 := Ba2.cell 1; have cf19 := Ba2.cell 2)
          | (go_at_call 32; (with_reducible refine (caOver_w p (i : Int) (a : Int) x y HY2 h2.at_ hk.small Rx hx1 hx2).mono ?_); rintro e w5 ⟨Ay, cy, rfl, Ry, hy1, hy2, hb5⟩; have KT5 := KT4.up hb5; have d0 := KT5.cell 0; have d1 := KT5.cell 1; have d2 := KT5.cell 2; have e0 := KT5.frozen 0; have e1 := KT5.frozen 1; have e2 := KT5.frozen 2; have h25 := h2.go hb5; have Ba25 := Ba2.up hb5; obtain ⟨cf20, cf21, cf22, cf23, cf24, cf25, cf26⟩ := h25.cells; have cf27 := Ba25.cell 0; have cf28 := Ba25.cell 1; have cf29 := Ba25.cell 2; have hq := hz.trans (hb4.mono hz.size); have hbf := below_res (g := w3.heap.size + 1) (hq.trans (hb5.mono hq.size)) (Nat.le_of_eq HWD.out) (.int .i64 y.kind) (.int .i64 y.cost) (.slice Ay y.path.length cy); have h6 := hP.go hbf; have Ba6 := BaP.up hbf; have U6 := below_on UP hbf; have KT := resC KT5 (.int .i64 y.kind) (.int .i64 y.cost) (.slice Ay y.path.length cy); obtain ⟨cf30, cf31, cf32, cf33, cf34, cf35, cf36⟩ := h6.cells; have cf37 := Ba6.cell 0; have cf38 := Ba6.cell 1; have cf39 := Ba6.cell 2; obtain ⟨W6, hW6⟩ : ∃ W6, W6 = ((w5.setCell ⟨w3.heap.size + 1, 0, none⟩ (.int .i64 y.kind)).setCell ⟨w3.heap.size + 1, 1, none⟩ (.int .i64 y.cost)).setCell ⟨w3.heap.size + 1, 2, none⟩ (.slice Ay y.path.length cy) := ⟨_, rfl⟩; obtain ⟨gt, hgt⟩ : ∃ gt, w3.heap.size + 1 = gt := ⟨_, rfl⟩; replace hW6 := Lib.hid hW6; replace hgt := Lib.hid hgt)
          | (go_at_call 32; (with_reducible refine (caOver_w p (i : Int) (a : Int) x y HY2 h1.at_ hk.small Rx hx1 hx2).mono ?_); rintro e w5 ⟨Ay, cy, rfl, Ry, hy1, hy2, hb5⟩; have h15 := h1.go hb5; have Ba15 := Ba1.up hb5; obtain ⟨cf40, cf41, cf42, cf43, cf44, cf45, cf46⟩ := h15.cells; have cf47 := Ba15.cell 0; have cf48 := Ba15.cell 1; have cf49 := Ba15.cell 2; have hz5 := below_new w5 (.cells #[.int .i64 y.kind, .int .i64 y.cost, .slice Ay y.path.length cy] 42); have h6 := h15.go hz5; have Ba6 := Ba15.up hz5; have U6 := below_on (below_on U1 hb5) hz5; have KT := Blk.new w5 42 #[.int .i64 y.kind, .int .i64 y.cost, .slice Ay y.path.length cy]; obtain ⟨W6, hW6⟩ : ∃ W6, W6 = w5.alloc (.cells #[.int .i64 y.kind, .int .i64 y.cost, .slice Ay y.path.length cy] 42) := ⟨_, rfl⟩; obtain ⟨gt, hgt⟩ : ∃ gt, w5.heap.size = gt := ⟨_, rfl⟩; replace hW6 := Lib.hid hW6; replace hgt := Lib.hid hgt)
          | (go_at_call 32; have hz2 := below_new w4 (.cells #[.int .i64 0, .int .i64 0, .slice Option.none 0 0] 42); (with_reducible refine (caOver_w p (i : Int) (a : Int) x y HY2 (h1.go hz2).at_ hk.small (Rx.on hz2) hx1 hx2).mono ?_); rintro e w5 ⟨Ay, cy, rfl, Ry, hy1, hy2, hb5⟩; have KT5 := (Blk.new w4 42 #[.int .i64 0, .int .i64 0, .slice Option.none 0 0]).up hb5; have d0 := KT5.cell 0; have d1 := KT5.cell 1; have d2 := KT5.cell 2; have e0 := KT5.frozen 0; have e1 := KT5.frozen 1; have e2 := KT5.frozen 2; have h15 := (h1.go hz2).go hb5; have Ba15 := (Ba1.up hz2).up hb5; obtain ⟨cf50, cf51, cf52, cf53, cf54, cf55, cf56⟩ := h15.cells; have cf57 := Ba15.cell 0; have cf58 := Ba15.cell 1; have cf59 := Ba15.cell 2; have hbf := below_res (g := w4.heap.size) (hz2.trans (hb5.mono hz2.size)) (Nat.le_refl _) (.int .i64 y.kind) (.int .i64 y.cost) (.slice Ay y.path.length cy); have h6 := h1.go hbf; have Ba6 := Ba1.up hbf; have U6 := below_on U1 hbf; have KT := resC KT5 (.int .i64 y.kind) (.int .i64 y.cost) (.slice Ay y.path.length cy); obtain ⟨cf60, cf61, cf62, cf63, cf64, cf65, cf66⟩ := h6.cells; have cf67 := Ba6.cell 0; have cf68 := Ba6.cell 1; have cf69 := Ba6.cell 2; obtain ⟨W6, hW6⟩ : ∃ W6, W6 = ((w5.setCell ⟨w4.heap.size, 0, none⟩ (.int .i64 y.kind)).setCell ⟨w4.heap.size, 1, none⟩ (.int .i64 y.cost)).setCell ⟨w4.heap.size, 2, none⟩ (.slice Ay y.path.length cy) := ⟨_, rfl⟩; obtain ⟨gt, hgt⟩ : ∃ gt, w4.heap.size = gt := ⟨_, rfl⟩; replace hW6 := Lib.hid hW6; replace hgt := Lib.hid hgt)
          | fail)
        all_goals
          go_step
          rw [← hW6.out] at KT h6 Ba6 U6 ⊢
          rw [hgt.out] at KT ⊢
          clear hW6 hgt
          obtain ⟨cf70, cf71, cf72, cf73, cf74, cf75, cf76⟩ := h6.cells; have cf77 := Ba6.cell 0; have cf78 := Ba6.cell 1; have cf79 := Ba6.cell 2; have cf80 := KT.cell 0; have cf81 := KT.cell 1; have cf82 := KT.cell 2
          obtain ⟨l0, l1, l2⟩ := RowAt.linkAt h6.at_.links HLI.out
          go_wp2_with fail
          go_region_held3 (fun w' => (w'.cell? ⟨w2.heap.size, 0, none⟩ = some (.int .i64 p.proto) ∧ w'.cell? ⟨w2.heap.size, 1, none⟩ = some (.int .i64 p.cap) ∧ w'.cell? ⟨w2.heap.size, 2, none⟩ = some (.int .i64 p.k) ∧ w'.cell? ⟨w2.heap.size, 3, none⟩ = some (.slice An p.nodes.length cn) ∧ w'.cell? ⟨w2.heap.size, 4, none⟩ = some (.slice (some ⟨gL, 0, none⟩) p.links.length cl) ∧ w'.cell? ⟨w2.heap.size, 5, none⟩ = some (.slice Ad p.dests.length cd) ∧ w'.cell? ⟨w2.heap.size, 6, none⟩ = some (.slice Ac p.checks.length cc)) ∧ (w'.cell? ⟨w3.heap.size, 0, none⟩ = some (.int .i64 r.kind) ∧ w'.cell? ⟨w3.heap.size, 1, none⟩ = some (.int .i64 r.cost) ∧ w'.cell? ⟨w3.heap.size, 2, none⟩ = some (.slice Aa r.path.length ca)) ∧ w'.cell? ⟨gL, i * 3, none⟩ = some (.int .i64 (a : Int)) ∧ w'.cell? ⟨gL, i * 3 + 1, none⟩ = some (.int .i64 (b : Int)) ∧ w'.cell? ⟨gL, i * 3 + 2, none⟩ = some (.int .i64 lc)) (go_keep) (fail)
          go_step
          have hd6 : Below W6.heap.size W6 W6.drew := (Below.refl _ _).drew
          replace h6 := h6.go hd6
          replace Ba6 := Ba6.up hd6
          replace KT := KT.up hd6
          replace U6 := below_on U6 hd6
          obtain ⟨cf83, cf84, cf85, cf86, cf87, cf88, cf89⟩ := h6.cells; have cf90 := Ba6.cell 0; have cf91 := Ba6.cell 1; have cf92 := Ba6.cell 2; have cf93 := KT.cell 0; have cf94 := KT.cell 1; have cf95 := KT.cell 2
          obtain ⟨l0, l1, l2⟩ := RowAt.linkAt h6.at_.links HLI.out
          go_wp2_with fail
          go_region_held3 (fun w' => (w'.cell? ⟨w2.heap.size, 0, none⟩ = some (.int .i64 p.proto) ∧ w'.cell? ⟨w2.heap.size, 1, none⟩ = some (.int .i64 p.cap) ∧ w'.cell? ⟨w2.heap.size, 2, none⟩ = some (.int .i64 p.k) ∧ w'.cell? ⟨w2.heap.size, 3, none⟩ = some (.slice An p.nodes.length cn) ∧ w'.cell? ⟨w2.heap.size, 4, none⟩ = some (.slice (some ⟨gL, 0, none⟩) p.links.length cl) ∧ w'.cell? ⟨w2.heap.size, 5, none⟩ = some (.slice Ad p.dests.length cd) ∧ w'.cell? ⟨w2.heap.size, 6, none⟩ = some (.slice Ac p.checks.length cc)) ∧ (w'.cell? ⟨w3.heap.size, 0, none⟩ = some (.int .i64 r.kind) ∧ w'.cell? ⟨w3.heap.size, 1, none⟩ = some (.int .i64 r.cost) ∧ w'.cell? ⟨w3.heap.size, 2, none⟩ = some (.slice Aa r.path.length ca)) ∧ w'.cell? ⟨gL, i * 3, none⟩ = some (.int .i64 (a : Int)) ∧ w'.cell? ⟨gL, i * 3 + 1, none⟩ = some (.int .i64 (b : Int)) ∧ w'.cell? ⟨gL, i * 3 + 2, none⟩ = some (.int .i64 lc) ∧ w'.cell? ⟨gt, 0, none⟩ = some (.int .i64 y.kind) ∧ w'.cell? ⟨gt, 1, none⟩ = some (.int .i64 y.cost) ∧ w'.cell? ⟨gt, 2, none⟩ = some (.slice Ay y.path.length cy)) (go_keep) (fail)
          go_step
          go_wp2_with fail
          go_ret
          exact ⟨ret_bool (by first | exact tq | exact tq2 | rfl | simpa using tq | simpa using tq2), U6.drew⟩
      · rw [if_neg hle] at hyy
        have tg : (decide (15 < IntKind.i64.wrap (r.cost + IntKind.i64.wrap (2 * lc)))) = true := by rw [w1]; simp; omega
        have tg2 : (decide (15 < r.cost + 2 * lc)) = true := by simp; omega
        have tk : (y.kind == 0) = true := by rw [hyy]; rfl
        clear hyy hp key1 key2 hrc w1 hle
        go_enter Try.func9, Try.ntmps9
        go_upto_region 9 with (first
          | (go_at_call 26; (with_reducible refine (awake7_any _).mono ?_); rintro e w1 ⟨rfl, hb1⟩; replace hA := hA.on hb1; replace hA3 := hA3.on hb1; replace U := below_on U hb1)
          | (go_at_call 12; refine (Net_at p l HP A n c HLEN.out HM.out hm hc hcm _ hA).mono ?_; rintro e w2 ⟨An, cn, Al, cl, Ad, cd, Ac, cc, rfl, ho, hb2⟩; have h := PBox.new U hb2 ho; replace hA := hA.on hb2; replace hA3 := hA3.on hb2; replace U := below_on U hb2; have hn2 := below_new w2 (.cells #[.int .i64 p.proto, .int .i64 p.cap, .int .i64 p.k, .slice An p.nodes.length cn, .slice Al p.links.length cl, .slice Ad p.dests.length cd, .slice Ac p.checks.length cc] 29); replace hA := hA.on hn2; replace hA3 := hA3.on hn2; replace U := below_on U hn2; obtain ⟨gL, hgL, _, l0, l1, l2⟩ := h.at_.links.link HLI.out; subst hgL; obtain ⟨ce0, ce1, ce2, ce3, ce4, ce5, ce6⟩ := h.cells; obtain ⟨l0, l1, l2⟩ := RowAt.linkAt h.at_.links HLI.out)
          | (go_at_call 27; (with_reducible refine (pick7_is x0 _ (i : Int) hx0 (by omega) (by omega) HX _).mono ?_); rintro e wp ⟨rfl, rfl⟩)
          | (go_at_call 36; (with_reducible refine (held_is p a na HNF hcap l3 r HRA HW3 n3 HN3 hm3 h.at_ hk.small hA3).mono ?_); rintro e w3 ⟨Aa, ca, rfl, Ra, ha1, ha2, hb3⟩; replace h := h.go hb3; replace hA := hA.on hb3; replace hA3 := hA3.on hb3; replace U := below_on U hb3; have hn3 := below_new w3 (.cells #[.int .i64 r.kind, .int .i64 r.cost, .slice Aa r.path.length ca] 42); replace h := h.go hn3; replace hA := hA.on hn3; replace hA3 := hA3.on hn3; replace Ra := Ra.on hn3; replace U := below_on U hn3; have Ba := Blk.new w3 42 #[.int .i64 r.kind, .int .i64 r.cost, .slice Aa r.path.length ca]; obtain ⟨ce7, ce8, ce9, ce10, ce11, ce12, ce13⟩ := h.cells; have ce14 := Ba.cell 0; have ce15 := Ba.cell 1; have ce16 := Ba.cell 2; obtain ⟨l0, l1, l2⟩ := RowAt.linkAt h.at_.links HLI.out))
        have hP := h
        have BaP := Ba
        have RaP := Ra
        have UP := U
        have hdr : Below (w3.alloc (.cells #[.int .i64 r.kind, .int .i64 r.cost, .slice Aa r.path.length ca] 42)).heap.size (w3.alloc (.cells #[.int .i64 r.kind, .int .i64 r.cost, .slice Aa r.path.length ca] 42)) (w3.alloc (.cells #[.int .i64 r.kind, .int .i64 r.cost, .slice Aa r.path.length ca] 42)).drew := (Below.refl _ _).drew
        replace h := h.go hdr
        replace Ba := Ba.up hdr
        replace hA := hA.on hdr
        replace hA3 := hA3.on hdr
        replace Ra := Ra.on hdr
        replace U := below_on U hdr
        have HWD := Lib.hid (show (w3.alloc (.cells #[.int .i64 r.kind, .int .i64 r.cost, .slice Aa r.path.length ca] 42)).heap.size = w3.heap.size + 1 by rw [World.size_alloc])
        have KT0 : Blk (((w3.alloc (.cells #[.int .i64 r.kind, .int .i64 r.cost, .slice Aa r.path.length ca] 42)).alloc (.cells #[.int .i64 0, .int .i64 0, .slice Option.none 0 0] 42)).drew) (w3.heap.size + 1) 42 #[.int .i64 0, .int .i64 0, .slice Option.none 0 0] := by have q := (Blk.new (w3.alloc (.cells #[.int .i64 r.kind, .int .i64 r.cost, .slice Aa r.path.length ca] 42)) 42 #[.int .i64 0, .int .i64 0, .slice Option.none 0 0]).up ((Below.refl _ _).drew); rw [HWD.out] at q; exact q
        have hz : Below (w3.alloc (.cells #[.int .i64 r.kind, .int .i64 r.cost, .slice Aa r.path.length ca] 42)).heap.size (w3.alloc (.cells #[.int .i64 r.kind, .int .i64 r.cost, .slice Aa r.path.length ca] 42)) (((w3.alloc (.cells #[.int .i64 r.kind, .int .i64 r.cost, .slice Aa r.path.length ca] 42)).alloc (.cells #[.int .i64 0, .int .i64 0, .slice Option.none 0 0] 42)).drew) := (below_new (w3.alloc (.cells #[.int .i64 r.kind, .int .i64 r.cost, .slice Aa r.path.length ca] 42)) (.cells #[.int .i64 0, .int .i64 0, .slice Option.none 0 0] 42)).drew
        go_region_held3 (fun w' => (w'.cell? ⟨w2.heap.size, 0, none⟩ = some (.int .i64 p.proto) ∧ w'.cell? ⟨w2.heap.size, 1, none⟩ = some (.int .i64 p.cap) ∧ w'.cell? ⟨w2.heap.size, 2, none⟩ = some (.int .i64 p.k) ∧ w'.cell? ⟨w2.heap.size, 3, none⟩ = some (.slice An p.nodes.length cn) ∧ w'.cell? ⟨w2.heap.size, 4, none⟩ = some (.slice (some ⟨gL, 0, none⟩) p.links.length cl) ∧ w'.cell? ⟨w2.heap.size, 5, none⟩ = some (.slice Ad p.dests.length cd) ∧ w'.cell? ⟨w2.heap.size, 6, none⟩ = some (.slice Ac p.checks.length cc)) ∧ w'.cell? ⟨w3.heap.size, 0, none⟩ = some (.int .i64 r.kind) ∧ w'.cell? ⟨w3.heap.size, 1, none⟩ = some (.int .i64 r.cost) ∧ w'.cell? ⟨w3.heap.size, 2, none⟩ = some (.slice Aa r.path.length ca)) (go_keep) (first
          | (go_at_call 32; (with_reducible refine (caOver_w p (i : Int) (b : Int) r x HX2 h.at_ hk.small Ra ha1 ha2).mono ?_); rintro e w4 ⟨Ax, cx, rfl, Rx, hx1, hx2, hb4⟩; have h1 := h.go hb4; have Ba1 := Ba.up hb4; have U1 := below_on U hb4; obtain ⟨cf96, cf97, cf98, cf99, cf100, cf101, cf102⟩ := h1.cells; have cf103 := Ba1.cell 0; have cf104 := Ba1.cell 1; have cf105 := Ba1.cell 2)
          | (go_at_call 32; (with_reducible refine (caOver_w p (i : Int) (b : Int) r x HX2 (hP.go hz).at_ hk.small (RaP.on hz) ha1 ha2).mono ?_); rintro e w4 ⟨Ax, cx, rfl, Rx, hx1, hx2, hb4⟩; have h2 := (hP.go hz).go hb4; have Ba2 := (BaP.up hz).up hb4; have KT4 := KT0.up hb4; obtain ⟨cf106, cf107, cf108, cf109, cf110, cf111, cf112⟩ := h2.cells; have cf113 := Ba2.cell 0; have cf114 := Ba2.cell 1; have cf115 := Ba2.cell 2)
          | (go_at_call 32; (with_reducible refine (caOver_w p (i : Int) (a : Int) x y HY2 h2.at_ hk.small Rx hx1 hx2).mono ?_); rintro e w5 ⟨Ay, cy, rfl, Ry, hy1, hy2, hb5⟩; have KT5 := KT4.up hb5; have d0 := KT5.cell 0; have d1 := KT5.cell 1; have d2 := KT5.cell 2; have e0 := KT5.frozen 0; have e1 := KT5.frozen 1; have e2 := KT5.frozen 2; have h25 := h2.go hb5; have Ba25 := Ba2.up hb5; obtain ⟨cf116, cf117, cf118, cf119, cf120, cf121, cf122⟩ := h25.cells; have cf123 := Ba25.cell 0; have cf124 := Ba25.cell 1; have cf125 := Ba25.cell 2; have hq := hz.trans (hb4.mono hz.size); have hbf := below_res (g := w3.heap.size + 1) (hq.trans (hb5.mono hq.size)) (Nat.le_of_eq HWD.out) (.int .i64 y.kind) (.int .i64 y.cost) (.slice Ay y.path.length cy); have h6 := hP.go hbf; have Ba6 := BaP.up hbf; have U6 := below_on UP hbf; have KT := resC KT5 (.int .i64 y.kind) (.int .i64 y.cost) (.slice Ay y.path.length cy); obtain ⟨cf126, cf127, cf128, cf129, cf130, cf131, cf132⟩ := h6.cells; have cf133 := Ba6.cell 0; have cf134 := Ba6.cell 1; have cf135 := Ba6.cell 2; obtain ⟨W6, hW6⟩ : ∃ W6, W6 = ((w5.setCell ⟨w3.heap.size + 1, 0, none⟩ (.int .i64 y.kind)).setCell ⟨w3.heap.size + 1, 1, none⟩ (.int .i64 y.cost)).setCell ⟨w3.heap.size + 1, 2, none⟩ (.slice Ay y.path.length cy) := ⟨_, rfl⟩; obtain ⟨gt, hgt⟩ : ∃ gt, w3.heap.size + 1 = gt := ⟨_, rfl⟩; replace hW6 := Lib.hid hW6; replace hgt := Lib.hid hgt)
          | (go_at_call 32; (with_reducible refine (caOver_w p (i : Int) (a : Int) x y HY2 h1.at_ hk.small Rx hx1 hx2).mono ?_); rintro e w5 ⟨Ay, cy, rfl, Ry, hy1, hy2, hb5⟩; have h15 := h1.go hb5; have Ba15 := Ba1.up hb5; obtain ⟨cf136, cf137, cf138, cf139, cf140, cf141, cf142⟩ := h15.cells; have cf143 := Ba15.cell 0; have cf144 := Ba15.cell 1; have cf145 := Ba15.cell 2; have hz5 := below_new w5 (.cells #[.int .i64 y.kind, .int .i64 y.cost, .slice Ay y.path.length cy] 42); have h6 := h15.go hz5; have Ba6 := Ba15.up hz5; have U6 := below_on (below_on U1 hb5) hz5; have KT := Blk.new w5 42 #[.int .i64 y.kind, .int .i64 y.cost, .slice Ay y.path.length cy]; obtain ⟨W6, hW6⟩ : ∃ W6, W6 = w5.alloc (.cells #[.int .i64 y.kind, .int .i64 y.cost, .slice Ay y.path.length cy] 42) := ⟨_, rfl⟩; obtain ⟨gt, hgt⟩ : ∃ gt, w5.heap.size = gt := ⟨_, rfl⟩; replace hW6 := Lib.hid hW6; replace hgt := Lib.hid hgt)
          | (go_at_call 32; have hz2 := below_new w4 (.cells #[.int .i64 0, .int .i64 0, .slice Option.none 0 0] 42); (with_reducible refine (caOver_w p (i : Int) (a : Int) x y HY2 (h1.go hz2).at_ hk.small (Rx.on hz2) hx1 hx2).mono ?_); rintro e w5 ⟨Ay, cy, rfl, Ry, hy1, hy2, hb5⟩; have KT5 := (Blk.new w4 42 #[.int .i64 0, .int .i64 0, .slice Option.none 0 0]).up hb5; have d0 := KT5.cell 0; have d1 := KT5.cell 1; have d2 := KT5.cell 2; have e0 := KT5.frozen 0; have e1 := KT5.frozen 1; have e2 := KT5.frozen 2; have h15 := (h1.go hz2).go hb5; have Ba15 := (Ba1.up hz2).up hb5; obtain ⟨cf146, cf147, cf148, cf149, cf150, cf151, cf152⟩ := h15.cells; have cf153 := Ba15.cell 0; have cf154 := Ba15.cell 1; have cf155 := Ba15.cell 2; have hbf := below_res (g := w4.heap.size) (hz2.trans (hb5.mono hz2.size)) (Nat.le_refl _) (.int .i64 y.kind) (.int .i64 y.cost) (.slice Ay y.path.length cy); have h6 := h1.go hbf; have Ba6 := Ba1.up hbf; have U6 := below_on U1 hbf; have KT := resC KT5 (.int .i64 y.kind) (.int .i64 y.cost) (.slice Ay y.path.length cy); obtain ⟨cf156, cf157, cf158, cf159, cf160, cf161, cf162⟩ := h6.cells; have cf163 := Ba6.cell 0; have cf164 := Ba6.cell 1; have cf165 := Ba6.cell 2; obtain ⟨W6, hW6⟩ : ∃ W6, W6 = ((w5.setCell ⟨w4.heap.size, 0, none⟩ (.int .i64 y.kind)).setCell ⟨w4.heap.size, 1, none⟩ (.int .i64 y.cost)).setCell ⟨w4.heap.size, 2, none⟩ (.slice Ay y.path.length cy) := ⟨_, rfl⟩; obtain ⟨gt, hgt⟩ : ∃ gt, w4.heap.size = gt := ⟨_, rfl⟩; replace hW6 := Lib.hid hW6; replace hgt := Lib.hid hgt)
          | fail)
        all_goals
          go_step
          rw [← hW6.out] at KT h6 Ba6 U6 ⊢
          rw [hgt.out] at KT ⊢
          clear hW6 hgt
          obtain ⟨cf166, cf167, cf168, cf169, cf170, cf171, cf172⟩ := h6.cells; have cf173 := Ba6.cell 0; have cf174 := Ba6.cell 1; have cf175 := Ba6.cell 2; have cf176 := KT.cell 0; have cf177 := KT.cell 1; have cf178 := KT.cell 2
          obtain ⟨l0, l1, l2⟩ := RowAt.linkAt h6.at_.links HLI.out
          go_wp2_with fail
          go_region_held3 (fun w' => (w'.cell? ⟨w2.heap.size, 0, none⟩ = some (.int .i64 p.proto) ∧ w'.cell? ⟨w2.heap.size, 1, none⟩ = some (.int .i64 p.cap) ∧ w'.cell? ⟨w2.heap.size, 2, none⟩ = some (.int .i64 p.k) ∧ w'.cell? ⟨w2.heap.size, 3, none⟩ = some (.slice An p.nodes.length cn) ∧ w'.cell? ⟨w2.heap.size, 4, none⟩ = some (.slice (some ⟨gL, 0, none⟩) p.links.length cl) ∧ w'.cell? ⟨w2.heap.size, 5, none⟩ = some (.slice Ad p.dests.length cd) ∧ w'.cell? ⟨w2.heap.size, 6, none⟩ = some (.slice Ac p.checks.length cc)) ∧ (w'.cell? ⟨w3.heap.size, 0, none⟩ = some (.int .i64 r.kind) ∧ w'.cell? ⟨w3.heap.size, 1, none⟩ = some (.int .i64 r.cost) ∧ w'.cell? ⟨w3.heap.size, 2, none⟩ = some (.slice Aa r.path.length ca)) ∧ w'.cell? ⟨gL, i * 3, none⟩ = some (.int .i64 (a : Int)) ∧ w'.cell? ⟨gL, i * 3 + 1, none⟩ = some (.int .i64 (b : Int)) ∧ w'.cell? ⟨gL, i * 3 + 2, none⟩ = some (.int .i64 lc)) (go_keep) (fail)
          go_step
          have hd6 : Below W6.heap.size W6 W6.drew := (Below.refl _ _).drew
          replace h6 := h6.go hd6
          replace Ba6 := Ba6.up hd6
          replace KT := KT.up hd6
          replace U6 := below_on U6 hd6
          obtain ⟨cf179, cf180, cf181, cf182, cf183, cf184, cf185⟩ := h6.cells; have cf186 := Ba6.cell 0; have cf187 := Ba6.cell 1; have cf188 := Ba6.cell 2; have cf189 := KT.cell 0; have cf190 := KT.cell 1; have cf191 := KT.cell 2
          obtain ⟨l0, l1, l2⟩ := RowAt.linkAt h6.at_.links HLI.out
          go_wp2_with fail
          go_ret
          exact ⟨rfl, U6⟩
    · have tp : (p.proto == 2) = true := by simp [hp]
      have tk : (y.kind == 0) = true := by simp [key2 hp]
      clear hp key1 key2 hrc
      go_enter Try.func9, Try.ntmps9
      go_upto_region 9 with (first
        | (go_at_call 26; (with_reducible refine (awake7_any _).mono ?_); rintro e w1 ⟨rfl, hb1⟩; replace hA := hA.on hb1; replace hA3 := hA3.on hb1; replace U := below_on U hb1)
        | (go_at_call 12; refine (Net_at p l HP A n c HLEN.out HM.out hm hc hcm _ hA).mono ?_; rintro e w2 ⟨An, cn, Al, cl, Ad, cd, Ac, cc, rfl, ho, hb2⟩; have h := PBox.new U hb2 ho; replace hA := hA.on hb2; replace hA3 := hA3.on hb2; replace U := below_on U hb2; have hn2 := below_new w2 (.cells #[.int .i64 p.proto, .int .i64 p.cap, .int .i64 p.k, .slice An p.nodes.length cn, .slice Al p.links.length cl, .slice Ad p.dests.length cd, .slice Ac p.checks.length cc] 29); replace hA := hA.on hn2; replace hA3 := hA3.on hn2; replace U := below_on U hn2; obtain ⟨gL, hgL, _, l0, l1, l2⟩ := h.at_.links.link HLI.out; subst hgL; obtain ⟨ce0, ce1, ce2, ce3, ce4, ce5, ce6⟩ := h.cells; obtain ⟨l0, l1, l2⟩ := RowAt.linkAt h.at_.links HLI.out)
        | (go_at_call 27; (with_reducible refine (pick7_is x0 _ (i : Int) hx0 (by omega) (by omega) HX _).mono ?_); rintro e wp ⟨rfl, rfl⟩)
        | (go_at_call 36; (with_reducible refine (held_is p a na HNF hcap l3 r HRA HW3 n3 HN3 hm3 h.at_ hk.small hA3).mono ?_); rintro e w3 ⟨Aa, ca, rfl, Ra, ha1, ha2, hb3⟩; replace h := h.go hb3; replace hA := hA.on hb3; replace hA3 := hA3.on hb3; replace U := below_on U hb3; have hn3 := below_new w3 (.cells #[.int .i64 r.kind, .int .i64 r.cost, .slice Aa r.path.length ca] 42); replace h := h.go hn3; replace hA := hA.on hn3; replace hA3 := hA3.on hn3; replace Ra := Ra.on hn3; replace U := below_on U hn3; have Ba := Blk.new w3 42 #[.int .i64 r.kind, .int .i64 r.cost, .slice Aa r.path.length ca]; obtain ⟨ce7, ce8, ce9, ce10, ce11, ce12, ce13⟩ := h.cells; have ce14 := Ba.cell 0; have ce15 := Ba.cell 1; have ce16 := Ba.cell 2; obtain ⟨l0, l1, l2⟩ := RowAt.linkAt h.at_.links HLI.out))
      have hP := h
      have BaP := Ba
      have RaP := Ra
      have UP := U
      have hdr : Below (w3.alloc (.cells #[.int .i64 r.kind, .int .i64 r.cost, .slice Aa r.path.length ca] 42)).heap.size (w3.alloc (.cells #[.int .i64 r.kind, .int .i64 r.cost, .slice Aa r.path.length ca] 42)) (w3.alloc (.cells #[.int .i64 r.kind, .int .i64 r.cost, .slice Aa r.path.length ca] 42)).drew := (Below.refl _ _).drew
      replace h := h.go hdr
      replace Ba := Ba.up hdr
      replace hA := hA.on hdr
      replace hA3 := hA3.on hdr
      replace Ra := Ra.on hdr
      replace U := below_on U hdr
      have HWD := Lib.hid (show (w3.alloc (.cells #[.int .i64 r.kind, .int .i64 r.cost, .slice Aa r.path.length ca] 42)).heap.size = w3.heap.size + 1 by rw [World.size_alloc])
      have KT0 : Blk (((w3.alloc (.cells #[.int .i64 r.kind, .int .i64 r.cost, .slice Aa r.path.length ca] 42)).alloc (.cells #[.int .i64 0, .int .i64 0, .slice Option.none 0 0] 42)).drew) (w3.heap.size + 1) 42 #[.int .i64 0, .int .i64 0, .slice Option.none 0 0] := by have q := (Blk.new (w3.alloc (.cells #[.int .i64 r.kind, .int .i64 r.cost, .slice Aa r.path.length ca] 42)) 42 #[.int .i64 0, .int .i64 0, .slice Option.none 0 0]).up ((Below.refl _ _).drew); rw [HWD.out] at q; exact q
      have hz : Below (w3.alloc (.cells #[.int .i64 r.kind, .int .i64 r.cost, .slice Aa r.path.length ca] 42)).heap.size (w3.alloc (.cells #[.int .i64 r.kind, .int .i64 r.cost, .slice Aa r.path.length ca] 42)) (((w3.alloc (.cells #[.int .i64 r.kind, .int .i64 r.cost, .slice Aa r.path.length ca] 42)).alloc (.cells #[.int .i64 0, .int .i64 0, .slice Option.none 0 0] 42)).drew) := (below_new (w3.alloc (.cells #[.int .i64 r.kind, .int .i64 r.cost, .slice Aa r.path.length ca] 42)) (.cells #[.int .i64 0, .int .i64 0, .slice Option.none 0 0] 42)).drew
      go_region_held3 (fun w' => (w'.cell? ⟨w2.heap.size, 0, none⟩ = some (.int .i64 p.proto) ∧ w'.cell? ⟨w2.heap.size, 1, none⟩ = some (.int .i64 p.cap) ∧ w'.cell? ⟨w2.heap.size, 2, none⟩ = some (.int .i64 p.k) ∧ w'.cell? ⟨w2.heap.size, 3, none⟩ = some (.slice An p.nodes.length cn) ∧ w'.cell? ⟨w2.heap.size, 4, none⟩ = some (.slice (some ⟨gL, 0, none⟩) p.links.length cl) ∧ w'.cell? ⟨w2.heap.size, 5, none⟩ = some (.slice Ad p.dests.length cd) ∧ w'.cell? ⟨w2.heap.size, 6, none⟩ = some (.slice Ac p.checks.length cc)) ∧ w'.cell? ⟨w3.heap.size, 0, none⟩ = some (.int .i64 r.kind) ∧ w'.cell? ⟨w3.heap.size, 1, none⟩ = some (.int .i64 r.cost) ∧ w'.cell? ⟨w3.heap.size, 2, none⟩ = some (.slice Aa r.path.length ca)) (go_keep) (first
        | (go_at_call 32; (with_reducible refine (caOver_w p (i : Int) (b : Int) r x HX2 h.at_ hk.small Ra ha1 ha2).mono ?_); rintro e w4 ⟨Ax, cx, rfl, Rx, hx1, hx2, hb4⟩; have h1 := h.go hb4; have Ba1 := Ba.up hb4; have U1 := below_on U hb4; obtain ⟨cf192, cf193, cf194, cf195, cf196, cf197, cf198⟩ := h1.cells; have cf199 := Ba1.cell 0; have cf200 := Ba1.cell 1; have cf201 := Ba1.cell 2)
        | (go_at_call 32; (with_reducible refine (caOver_w p (i : Int) (b : Int) r x HX2 (hP.go hz).at_ hk.small (RaP.on hz) ha1 ha2).mono ?_); rintro e w4 ⟨Ax, cx, rfl, Rx, hx1, hx2, hb4⟩; have h2 := (hP.go hz).go hb4; have Ba2 := (BaP.up hz).up hb4; have KT4 := KT0.up hb4; obtain ⟨cf202, cf203, cf204, cf205, cf206, cf207, cf208⟩ := h2.cells; have cf209 := Ba2.cell 0; have cf210 := Ba2.cell 1; have cf211 := Ba2.cell 2)
        | (go_at_call 32; (with_reducible refine (caOver_w p (i : Int) (a : Int) x y HY2 h2.at_ hk.small Rx hx1 hx2).mono ?_); rintro e w5 ⟨Ay, cy, rfl, Ry, hy1, hy2, hb5⟩; have KT5 := KT4.up hb5; have d0 := KT5.cell 0; have d1 := KT5.cell 1; have d2 := KT5.cell 2; have e0 := KT5.frozen 0; have e1 := KT5.frozen 1; have e2 := KT5.frozen 2; have h25 := h2.go hb5; have Ba25 := Ba2.up hb5; obtain ⟨cf212, cf213, cf214, cf215, cf216, cf217, cf218⟩ := h25.cells; have cf219 := Ba25.cell 0; have cf220 := Ba25.cell 1; have cf221 := Ba25.cell 2; have hq := hz.trans (hb4.mono hz.size); have hbf := below_res (g := w3.heap.size + 1) (hq.trans (hb5.mono hq.size)) (Nat.le_of_eq HWD.out) (.int .i64 y.kind) (.int .i64 y.cost) (.slice Ay y.path.length cy); have h6 := hP.go hbf; have Ba6 := BaP.up hbf; have U6 := below_on UP hbf; have KT := resC KT5 (.int .i64 y.kind) (.int .i64 y.cost) (.slice Ay y.path.length cy); obtain ⟨cf222, cf223, cf224, cf225, cf226, cf227, cf228⟩ := h6.cells; have cf229 := Ba6.cell 0; have cf230 := Ba6.cell 1; have cf231 := Ba6.cell 2; obtain ⟨W6, hW6⟩ : ∃ W6, W6 = ((w5.setCell ⟨w3.heap.size + 1, 0, none⟩ (.int .i64 y.kind)).setCell ⟨w3.heap.size + 1, 1, none⟩ (.int .i64 y.cost)).setCell ⟨w3.heap.size + 1, 2, none⟩ (.slice Ay y.path.length cy) := ⟨_, rfl⟩; obtain ⟨gt, hgt⟩ : ∃ gt, w3.heap.size + 1 = gt := ⟨_, rfl⟩; replace hW6 := Lib.hid hW6; replace hgt := Lib.hid hgt)
        | (go_at_call 32; (with_reducible refine (caOver_w p (i : Int) (a : Int) x y HY2 h1.at_ hk.small Rx hx1 hx2).mono ?_); rintro e w5 ⟨Ay, cy, rfl, Ry, hy1, hy2, hb5⟩; have h15 := h1.go hb5; have Ba15 := Ba1.up hb5; obtain ⟨cf232, cf233, cf234, cf235, cf236, cf237, cf238⟩ := h15.cells; have cf239 := Ba15.cell 0; have cf240 := Ba15.cell 1; have cf241 := Ba15.cell 2; have hz5 := below_new w5 (.cells #[.int .i64 y.kind, .int .i64 y.cost, .slice Ay y.path.length cy] 42); have h6 := h15.go hz5; have Ba6 := Ba15.up hz5; have U6 := below_on (below_on U1 hb5) hz5; have KT := Blk.new w5 42 #[.int .i64 y.kind, .int .i64 y.cost, .slice Ay y.path.length cy]; obtain ⟨W6, hW6⟩ : ∃ W6, W6 = w5.alloc (.cells #[.int .i64 y.kind, .int .i64 y.cost, .slice Ay y.path.length cy] 42) := ⟨_, rfl⟩; obtain ⟨gt, hgt⟩ : ∃ gt, w5.heap.size = gt := ⟨_, rfl⟩; replace hW6 := Lib.hid hW6; replace hgt := Lib.hid hgt)
        | (go_at_call 32; have hz2 := below_new w4 (.cells #[.int .i64 0, .int .i64 0, .slice Option.none 0 0] 42); (with_reducible refine (caOver_w p (i : Int) (a : Int) x y HY2 (h1.go hz2).at_ hk.small (Rx.on hz2) hx1 hx2).mono ?_); rintro e w5 ⟨Ay, cy, rfl, Ry, hy1, hy2, hb5⟩; have KT5 := (Blk.new w4 42 #[.int .i64 0, .int .i64 0, .slice Option.none 0 0]).up hb5; have d0 := KT5.cell 0; have d1 := KT5.cell 1; have d2 := KT5.cell 2; have e0 := KT5.frozen 0; have e1 := KT5.frozen 1; have e2 := KT5.frozen 2; have h15 := (h1.go hz2).go hb5; have Ba15 := (Ba1.up hz2).up hb5; obtain ⟨cf242, cf243, cf244, cf245, cf246, cf247, cf248⟩ := h15.cells; have cf249 := Ba15.cell 0; have cf250 := Ba15.cell 1; have cf251 := Ba15.cell 2; have hbf := below_res (g := w4.heap.size) (hz2.trans (hb5.mono hz2.size)) (Nat.le_refl _) (.int .i64 y.kind) (.int .i64 y.cost) (.slice Ay y.path.length cy); have h6 := h1.go hbf; have Ba6 := Ba1.up hbf; have U6 := below_on U1 hbf; have KT := resC KT5 (.int .i64 y.kind) (.int .i64 y.cost) (.slice Ay y.path.length cy); obtain ⟨cf252, cf253, cf254, cf255, cf256, cf257, cf258⟩ := h6.cells; have cf259 := Ba6.cell 0; have cf260 := Ba6.cell 1; have cf261 := Ba6.cell 2; obtain ⟨W6, hW6⟩ : ∃ W6, W6 = ((w5.setCell ⟨w4.heap.size, 0, none⟩ (.int .i64 y.kind)).setCell ⟨w4.heap.size, 1, none⟩ (.int .i64 y.cost)).setCell ⟨w4.heap.size, 2, none⟩ (.slice Ay y.path.length cy) := ⟨_, rfl⟩; obtain ⟨gt, hgt⟩ : ∃ gt, w4.heap.size = gt := ⟨_, rfl⟩; replace hW6 := Lib.hid hW6; replace hgt := Lib.hid hgt)
        | fail)
      · skip
        go_step
        rw [← hW6.out] at KT h6 Ba6 U6 ⊢
        rw [hgt.out] at KT ⊢
        clear hW6 hgt
        obtain ⟨cf262, cf263, cf264, cf265, cf266, cf267, cf268⟩ := h6.cells; have cf269 := Ba6.cell 0; have cf270 := Ba6.cell 1; have cf271 := Ba6.cell 2; have cf272 := KT.cell 0; have cf273 := KT.cell 1; have cf274 := KT.cell 2
        obtain ⟨l0, l1, l2⟩ := RowAt.linkAt h6.at_.links HLI.out
        go_wp2_with fail
        refine wp_region_held_drew (S := (fun w' => (w'.cell? ⟨w2.heap.size, 0, none⟩ = some (.int .i64 p.proto) ∧ w'.cell? ⟨w2.heap.size, 1, none⟩ = some (.int .i64 p.cap) ∧ w'.cell? ⟨w2.heap.size, 2, none⟩ = some (.int .i64 p.k) ∧ w'.cell? ⟨w2.heap.size, 3, none⟩ = some (.slice An p.nodes.length cn) ∧ w'.cell? ⟨w2.heap.size, 4, none⟩ = some (.slice (some ⟨gL, 0, none⟩) p.links.length cl) ∧ w'.cell? ⟨w2.heap.size, 5, none⟩ = some (.slice Ad p.dests.length cd) ∧ w'.cell? ⟨w2.heap.size, 6, none⟩ = some (.slice Ac p.checks.length cc)) ∧ (w'.cell? ⟨w3.heap.size, 0, none⟩ = some (.int .i64 r.kind) ∧ w'.cell? ⟨w3.heap.size, 1, none⟩ = some (.int .i64 r.cost) ∧ w'.cell? ⟨w3.heap.size, 2, none⟩ = some (.slice Aa r.path.length ca)) ∧ w'.cell? ⟨gL, i * 3, none⟩ = some (.int .i64 (a : Int)) ∧ w'.cell? ⟨gL, i * 3 + 1, none⟩ = some (.int .i64 (b : Int)) ∧ w'.cell? ⟨gL, i * 3 + 2, none⟩ = some (.int .i64 lc))) (by kernel_rfl) (by go_keep) (fun hHeld => ?_)
        refine wpAnyH_take (i := 0) (oi := ?o1) (v := ?v1) ?h1 ?s1 ?f1 ?c1 ?q1 ?y1 hHeld ?r1
        case h1 => (simp only [List.getElem?_toArray, List.getElem?_cons_succ, List.getElem?_cons_zero]; rfl)
        case s1 => kernel_rfl
        case f1 => kernel_rfl
        case c1 => kernel_rfl
        case y1 => (refine Or.inl ⟨by rfl, ?_⟩; intro w hSw; (try dsimp only at hSw); go_simp; (try with_reducible rfl))
        case q1 => exact fun _ _ _ h => h
        try simp only [Act.put, List.setIfInBounds_toArray, List.set_cons_zero, List.set_cons_succ]
        refine wpAnyH_take (i := 1) (oi := ?o2) (v := ?v2) ?h2 ?s2 ?f2 ?c2 ?q2 ?y2 hHeld ?r2
        case h2 => (simp only [List.getElem?_toArray, List.getElem?_cons_succ, List.getElem?_cons_zero]; rfl)
        case s2 => kernel_rfl
        case f2 => kernel_rfl
        case c2 => kernel_rfl
        case y2 => (refine Or.inl ⟨by rfl, ?_⟩; intro w hSw; (try dsimp only at hSw); go_simp; (try with_reducible rfl))
        case q2 => exact fun _ _ _ h => h
        try simp only [Act.put, List.setIfInBounds_toArray, List.set_cons_zero, List.set_cons_succ]
        refine wpAnyH_take (i := 2) (oi := ?o3) (v := ?v3) ?h3 ?s3 ?f3 ?c3 ?q3 ?y3 hHeld ?r3
        case h3 => (simp only [List.getElem?_toArray, List.getElem?_cons_succ, List.getElem?_cons_zero]; rfl)
        case s3 => kernel_rfl
        case f3 => kernel_rfl
        case c3 => kernel_rfl
        case y3 => (refine Or.inl ⟨by rfl, ?_⟩; intro w hSw; (try dsimp only at hSw); go_simp; (try with_reducible rfl))
        case q3 => exact fun _ _ _ h => h
        try simp only [Act.put, List.setIfInBounds_toArray, List.set_cons_zero, List.set_cons_succ]
        refine wpAnyH_take (i := 3) (oi := ?o4) (v := ?v4) ?h4 ?s4 ?f4 ?c4 ?q4 ?y4 hHeld ?r4
        case h4 => (simp only [List.getElem?_toArray, List.getElem?_cons_succ, List.getElem?_cons_zero]; rfl)
        case s4 => kernel_rfl
        case f4 => kernel_rfl
        case c4 => kernel_rfl
        case y4 => (refine Or.inl ⟨by rfl, ?_⟩; intro w hSw; (try dsimp only at hSw); go_simp; (try with_reducible rfl))
        case q4 => exact fun _ _ _ h => h
        try simp only [Act.put, List.setIfInBounds_toArray, List.set_cons_zero, List.set_cons_succ]
        refine wpAnyH_take (i := 4) (oi := ?o5) (v := undef) ?h5 ?s5 ?f5 ?c5 ?q5 ?y5 hHeld ?r5
        case h5 => (simp only [List.getElem?_toArray, List.getElem?_cons_succ, List.getElem?_cons_zero]; rfl)
        case s5 => kernel_rfl
        case f5 => kernel_rfl
        case c5 => kernel_rfl
        case y5 => exact Or.inr ⟨by rfl, rfl⟩
        case q5 => exact fun _ _ _ h => h
        try simp only [Act.put, List.setIfInBounds_toArray, List.set_cons_zero, List.set_cons_succ]
        refine wpAnyH_take (i := 5) (oi := ?o6) (v := undef) ?h6 ?s6 ?f6 ?c6 ?q6 ?y6 hHeld ?r6
        case h6 => (simp only [List.getElem?_toArray, List.getElem?_cons_succ, List.getElem?_cons_zero]; rfl)
        case s6 => kernel_rfl
        case f6 => kernel_rfl
        case c6 => kernel_rfl
        case y6 => exact Or.inr ⟨by rfl, rfl⟩
        case q6 => exact fun _ _ _ h => h
        try simp only [Act.put, List.setIfInBounds_toArray, List.set_cons_zero, List.set_cons_succ]
        refine wpAnyH_take (i := 6) (oi := ?o7) (v := undef) ?h7 ?s7 ?f7 ?c7 ?q7 ?y7 hHeld ?r7
        case h7 => (simp only [List.getElem?_toArray, List.getElem?_cons_succ, List.getElem?_cons_zero]; rfl)
        case s7 => kernel_rfl
        case f7 => kernel_rfl
        case c7 => kernel_rfl
        case y7 => exact Or.inr ⟨by rfl, rfl⟩
        case q7 => exact fun _ _ _ h => h
        try simp only [Act.put, List.setIfInBounds_toArray, List.set_cons_zero, List.set_cons_succ]
        refine wpAnyH_take (i := 7) (oi := ?o8) (v := undef) ?h8 ?s8 ?f8 ?c8 ?q8 ?y8 hHeld ?r8
        case h8 => (simp only [List.getElem?_toArray, List.getElem?_cons_succ, List.getElem?_cons_zero]; rfl)
        case s8 => kernel_rfl
        case f8 => kernel_rfl
        case c8 => kernel_rfl
        case y8 => exact Or.inr ⟨by rfl, rfl⟩
        case q8 => exact fun _ _ _ h => h
        try simp only [Act.put, List.setIfInBounds_toArray, List.set_cons_zero, List.set_cons_succ]
        refine wpAnyH_take (i := 8) (oi := ?o9) (v := undef) ?h9 ?s9 ?f9 ?c9 ?q9 ?y9 hHeld ?r9
        case h9 => (simp only [List.getElem?_toArray, List.getElem?_cons_succ, List.getElem?_cons_zero]; rfl)
        case s9 => kernel_rfl
        case f9 => kernel_rfl
        case c9 => kernel_rfl
        case y9 => exact Or.inr ⟨by rfl, rfl⟩
        case q9 => exact fun _ _ _ h => h
        try simp only [Act.put, List.setIfInBounds_toArray, List.set_cons_zero, List.set_cons_succ]
        refine wpAnyH_take (i := 9) (oi := ?o10) (v := undef) ?h10 ?s10 ?f10 ?c10 ?q10 ?y10 hHeld ?r10
        case h10 => (simp only [List.getElem?_toArray, List.getElem?_cons_succ, List.getElem?_cons_zero]; rfl)
        case s10 => kernel_rfl
        case f10 => kernel_rfl
        case c10 => kernel_rfl
        case y10 => exact Or.inr ⟨by rfl, rfl⟩
        case q10 => exact fun _ _ _ h => h
        try simp only [Act.put, List.setIfInBounds_toArray, List.set_cons_zero, List.set_cons_succ]
        refine wpAnyH_take (i := 10) (oi := ?o11) (v := undef) ?h11 ?s11 ?f11 ?c11 ?q11 ?y11 hHeld ?r11
        case h11 => (simp only [List.getElem?_toArray, List.getElem?_cons_succ, List.getElem?_cons_zero]; rfl)
        case s11 => kernel_rfl
        case f11 => kernel_rfl
        case c11 => kernel_rfl
        case y11 => exact Or.inr ⟨by rfl, rfl⟩
        case q11 => exact fun _ _ _ h => h
        try simp only [Act.put, List.setIfInBounds_toArray, List.set_cons_zero, List.set_cons_succ]
        refine wpAnyH_take (i := 11) (oi := ?o12) (v := undef) ?h12 ?s12 ?f12 ?c12 ?q12 ?y12 hHeld ?r12
        case h12 => (simp only [List.getElem?_toArray, List.getElem?_cons_succ, List.getElem?_cons_zero]; rfl)
        case s12 => kernel_rfl
        case f12 => kernel_rfl
        case c12 => kernel_rfl
        case y12 => exact Or.inr ⟨by rfl, rfl⟩
        case q12 => exact fun _ _ _ h => h
        try simp only [Act.put, List.setIfInBounds_toArray, List.set_cons_zero, List.set_cons_succ]
        refine wpAnyH_take (i := 12) (oi := ?o13) (v := undef) ?h13 ?s13 ?f13 ?c13 ?q13 ?y13 hHeld ?r13
        case h13 => (simp only [List.getElem?_toArray, List.getElem?_cons_succ, List.getElem?_cons_zero]; rfl)
        case s13 => kernel_rfl
        case f13 => kernel_rfl
        case c13 => kernel_rfl
        case y13 => exact Or.inr ⟨by rfl, rfl⟩
        case q13 => exact fun _ _ _ h => h
        try simp only [Act.put, List.setIfInBounds_toArray, List.set_cons_zero, List.set_cons_succ]
        refine wpAnyH_take (i := 13) (oi := ?o14) (v := undef) ?h14 ?s14 ?f14 ?c14 ?q14 ?y14 hHeld ?r14
        case h14 => (simp only [List.getElem?_toArray, List.getElem?_cons_succ, List.getElem?_cons_zero]; rfl)
        case s14 => kernel_rfl
        case f14 => kernel_rfl
        case c14 => kernel_rfl
        case y14 => exact Or.inr ⟨by rfl, rfl⟩
        case q14 => exact fun _ _ _ h => h
        try simp only [Act.put, List.setIfInBounds_toArray, List.set_cons_zero, List.set_cons_succ]
        refine wpAnyH_take (i := 14) (oi := ?o15) (v := undef) ?h15 ?s15 ?f15 ?c15 ?q15 ?y15 hHeld ?r15
        case h15 => (simp only [List.getElem?_toArray, List.getElem?_cons_succ, List.getElem?_cons_zero]; rfl)
        case s15 => kernel_rfl
        case f15 => kernel_rfl
        case c15 => kernel_rfl
        case y15 => exact Or.inr ⟨by rfl, rfl⟩
        case q15 => exact fun _ _ _ h => h
        try simp only [Act.put, List.setIfInBounds_toArray, List.set_cons_zero, List.set_cons_succ]
        refine wpAnyH_take (i := 15) (oi := ?o16) (v := ?v16) ?h16 ?s16 ?f16 ?c16 ?q16 ?y16 hHeld ?r16
        case h16 => (simp only [List.getElem?_toArray, List.getElem?_cons_succ, List.getElem?_cons_zero]; rfl)
        case s16 => kernel_rfl
        case f16 => kernel_rfl
        case c16 => kernel_rfl
        case y16 => (refine Or.inl ⟨by rfl, ?_⟩; intro w hSw; (try dsimp only at hSw); go_simp; (try with_reducible rfl))
        case q16 => exact fun _ _ _ h => h
        try simp only [Act.put, List.setIfInBounds_toArray, List.set_cons_zero, List.set_cons_succ]
        refine wpAnyH_done (by kernel_rfl) ?_ _
        repeat go_step
        have hd6 : Below W6.heap.size W6 W6.drew := (Below.refl _ _).drew
        replace h6 := h6.go hd6
        replace Ba6 := Ba6.up hd6
        replace KT := KT.up hd6
        replace U6 := below_on U6 hd6
        obtain ⟨cf275, cf276, cf277, cf278, cf279, cf280, cf281⟩ := h6.cells; have cf282 := Ba6.cell 0; have cf283 := Ba6.cell 1; have cf284 := Ba6.cell 2; have cf285 := KT.cell 0; have cf286 := KT.cell 1; have cf287 := KT.cell 2
        obtain ⟨l0, l1, l2⟩ := RowAt.linkAt h6.at_.links HLI.out
        go_wp2_with fail
        go_ret
        exact ⟨rfl, U6⟩
      · skip
        go_step
        rw [← hW6.out] at KT h6 Ba6 U6 ⊢
        rw [hgt.out] at KT ⊢
        clear hW6 hgt
        obtain ⟨cf288, cf289, cf290, cf291, cf292, cf293, cf294⟩ := h6.cells; have cf295 := Ba6.cell 0; have cf296 := Ba6.cell 1; have cf297 := Ba6.cell 2; have cf298 := KT.cell 0; have cf299 := KT.cell 1; have cf300 := KT.cell 2
        obtain ⟨l0, l1, l2⟩ := RowAt.linkAt h6.at_.links HLI.out
        go_wp2_with fail
        refine wp_region_held_drew (S := (fun w' => (w'.cell? ⟨w2.heap.size, 0, none⟩ = some (.int .i64 p.proto) ∧ w'.cell? ⟨w2.heap.size, 1, none⟩ = some (.int .i64 p.cap) ∧ w'.cell? ⟨w2.heap.size, 2, none⟩ = some (.int .i64 p.k) ∧ w'.cell? ⟨w2.heap.size, 3, none⟩ = some (.slice An p.nodes.length cn) ∧ w'.cell? ⟨w2.heap.size, 4, none⟩ = some (.slice (some ⟨gL, 0, none⟩) p.links.length cl) ∧ w'.cell? ⟨w2.heap.size, 5, none⟩ = some (.slice Ad p.dests.length cd) ∧ w'.cell? ⟨w2.heap.size, 6, none⟩ = some (.slice Ac p.checks.length cc)) ∧ (w'.cell? ⟨w3.heap.size, 0, none⟩ = some (.int .i64 r.kind) ∧ w'.cell? ⟨w3.heap.size, 1, none⟩ = some (.int .i64 r.cost) ∧ w'.cell? ⟨w3.heap.size, 2, none⟩ = some (.slice Aa r.path.length ca)) ∧ w'.cell? ⟨gL, i * 3, none⟩ = some (.int .i64 (a : Int)) ∧ w'.cell? ⟨gL, i * 3 + 1, none⟩ = some (.int .i64 (b : Int)) ∧ w'.cell? ⟨gL, i * 3 + 2, none⟩ = some (.int .i64 lc))) (by kernel_rfl) (by go_keep) (fun hHeld => ?_)
        refine wpAnyH_take (i := 0) (oi := ?o17) (v := ?v17) ?h17 ?s17 ?f17 ?c17 ?q17 ?y17 hHeld ?r17
        case h17 => (simp only [List.getElem?_toArray, List.getElem?_cons_succ, List.getElem?_cons_zero]; rfl)
        case s17 => kernel_rfl
        case f17 => kernel_rfl
        case c17 => kernel_rfl
        case y17 => (refine Or.inl ⟨by rfl, ?_⟩; intro w hSw; (try dsimp only at hSw); go_simp; (try with_reducible rfl))
        case q17 => exact fun _ _ _ h => h
        try simp only [Act.put, List.setIfInBounds_toArray, List.set_cons_zero, List.set_cons_succ]
        refine wpAnyH_take (i := 1) (oi := ?o18) (v := ?v18) ?h18 ?s18 ?f18 ?c18 ?q18 ?y18 hHeld ?r18
        case h18 => (simp only [List.getElem?_toArray, List.getElem?_cons_succ, List.getElem?_cons_zero]; rfl)
        case s18 => kernel_rfl
        case f18 => kernel_rfl
        case c18 => kernel_rfl
        case y18 => (refine Or.inl ⟨by rfl, ?_⟩; intro w hSw; (try dsimp only at hSw); go_simp; (try with_reducible rfl))
        case q18 => exact fun _ _ _ h => h
        try simp only [Act.put, List.setIfInBounds_toArray, List.set_cons_zero, List.set_cons_succ]
        refine wpAnyH_take (i := 2) (oi := ?o19) (v := ?v19) ?h19 ?s19 ?f19 ?c19 ?q19 ?y19 hHeld ?r19
        case h19 => (simp only [List.getElem?_toArray, List.getElem?_cons_succ, List.getElem?_cons_zero]; rfl)
        case s19 => kernel_rfl
        case f19 => kernel_rfl
        case c19 => kernel_rfl
        case y19 => (refine Or.inl ⟨by rfl, ?_⟩; intro w hSw; (try dsimp only at hSw); go_simp; (try with_reducible rfl))
        case q19 => exact fun _ _ _ h => h
        try simp only [Act.put, List.setIfInBounds_toArray, List.set_cons_zero, List.set_cons_succ]
        refine wpAnyH_take (i := 3) (oi := ?o20) (v := ?v20) ?h20 ?s20 ?f20 ?c20 ?q20 ?y20 hHeld ?r20
        case h20 => (simp only [List.getElem?_toArray, List.getElem?_cons_succ, List.getElem?_cons_zero]; rfl)
        case s20 => kernel_rfl
        case f20 => kernel_rfl
        case c20 => kernel_rfl
        case y20 => (refine Or.inl ⟨by rfl, ?_⟩; intro w hSw; (try dsimp only at hSw); go_simp; (try with_reducible rfl))
        case q20 => exact fun _ _ _ h => h
        try simp only [Act.put, List.setIfInBounds_toArray, List.set_cons_zero, List.set_cons_succ]
        refine wpAnyH_take (i := 4) (oi := ?o21) (v := undef) ?h21 ?s21 ?f21 ?c21 ?q21 ?y21 hHeld ?r21
        case h21 => (simp only [List.getElem?_toArray, List.getElem?_cons_succ, List.getElem?_cons_zero]; rfl)
        case s21 => kernel_rfl
        case f21 => kernel_rfl
        case c21 => kernel_rfl
        case y21 => exact Or.inr ⟨by rfl, rfl⟩
        case q21 => exact fun _ _ _ h => h
        try simp only [Act.put, List.setIfInBounds_toArray, List.set_cons_zero, List.set_cons_succ]
        refine wpAnyH_take (i := 5) (oi := ?o22) (v := undef) ?h22 ?s22 ?f22 ?c22 ?q22 ?y22 hHeld ?r22
        case h22 => (simp only [List.getElem?_toArray, List.getElem?_cons_succ, List.getElem?_cons_zero]; rfl)
        case s22 => kernel_rfl
        case f22 => kernel_rfl
        case c22 => kernel_rfl
        case y22 => exact Or.inr ⟨by rfl, rfl⟩
        case q22 => exact fun _ _ _ h => h
        try simp only [Act.put, List.setIfInBounds_toArray, List.set_cons_zero, List.set_cons_succ]
        refine wpAnyH_take (i := 6) (oi := ?o23) (v := undef) ?h23 ?s23 ?f23 ?c23 ?q23 ?y23 hHeld ?r23
        case h23 => (simp only [List.getElem?_toArray, List.getElem?_cons_succ, List.getElem?_cons_zero]; rfl)
        case s23 => kernel_rfl
        case f23 => kernel_rfl
        case c23 => kernel_rfl
        case y23 => exact Or.inr ⟨by rfl, rfl⟩
        case q23 => exact fun _ _ _ h => h
        try simp only [Act.put, List.setIfInBounds_toArray, List.set_cons_zero, List.set_cons_succ]
        refine wpAnyH_take (i := 7) (oi := ?o24) (v := undef) ?h24 ?s24 ?f24 ?c24 ?q24 ?y24 hHeld ?r24
        case h24 => (simp only [List.getElem?_toArray, List.getElem?_cons_succ, List.getElem?_cons_zero]; rfl)
        case s24 => kernel_rfl
        case f24 => kernel_rfl
        case c24 => kernel_rfl
        case y24 => exact Or.inr ⟨by rfl, rfl⟩
        case q24 => exact fun _ _ _ h => h
        try simp only [Act.put, List.setIfInBounds_toArray, List.set_cons_zero, List.set_cons_succ]
        refine wpAnyH_take (i := 8) (oi := ?o25) (v := undef) ?h25 ?s25 ?f25 ?c25 ?q25 ?y25 hHeld ?r25
        case h25 => (simp only [List.getElem?_toArray, List.getElem?_cons_succ, List.getElem?_cons_zero]; rfl)
        case s25 => kernel_rfl
        case f25 => kernel_rfl
        case c25 => kernel_rfl
        case y25 => exact Or.inr ⟨by rfl, rfl⟩
        case q25 => exact fun _ _ _ h => h
        try simp only [Act.put, List.setIfInBounds_toArray, List.set_cons_zero, List.set_cons_succ]
        refine wpAnyH_take (i := 9) (oi := ?o26) (v := undef) ?h26 ?s26 ?f26 ?c26 ?q26 ?y26 hHeld ?r26
        case h26 => (simp only [List.getElem?_toArray, List.getElem?_cons_succ, List.getElem?_cons_zero]; rfl)
        case s26 => kernel_rfl
        case f26 => kernel_rfl
        case c26 => kernel_rfl
        case y26 => exact Or.inr ⟨by rfl, rfl⟩
        case q26 => exact fun _ _ _ h => h
        try simp only [Act.put, List.setIfInBounds_toArray, List.set_cons_zero, List.set_cons_succ]
        refine wpAnyH_take (i := 10) (oi := ?o27) (v := undef) ?h27 ?s27 ?f27 ?c27 ?q27 ?y27 hHeld ?r27
        case h27 => (simp only [List.getElem?_toArray, List.getElem?_cons_succ, List.getElem?_cons_zero]; rfl)
        case s27 => kernel_rfl
        case f27 => kernel_rfl
        case c27 => kernel_rfl
        case y27 => exact Or.inr ⟨by rfl, rfl⟩
        case q27 => exact fun _ _ _ h => h
        try simp only [Act.put, List.setIfInBounds_toArray, List.set_cons_zero, List.set_cons_succ]
        refine wpAnyH_take (i := 11) (oi := ?o28) (v := undef) ?h28 ?s28 ?f28 ?c28 ?q28 ?y28 hHeld ?r28
        case h28 => (simp only [List.getElem?_toArray, List.getElem?_cons_succ, List.getElem?_cons_zero]; rfl)
        case s28 => kernel_rfl
        case f28 => kernel_rfl
        case c28 => kernel_rfl
        case y28 => exact Or.inr ⟨by rfl, rfl⟩
        case q28 => exact fun _ _ _ h => h
        try simp only [Act.put, List.setIfInBounds_toArray, List.set_cons_zero, List.set_cons_succ]
        refine wpAnyH_take (i := 12) (oi := ?o29) (v := undef) ?h29 ?s29 ?f29 ?c29 ?q29 ?y29 hHeld ?r29
        case h29 => (simp only [List.getElem?_toArray, List.getElem?_cons_succ, List.getElem?_cons_zero]; rfl)
        case s29 => kernel_rfl
        case f29 => kernel_rfl
        case c29 => kernel_rfl
        case y29 => exact Or.inr ⟨by rfl, rfl⟩
        case q29 => exact fun _ _ _ h => h
        try simp only [Act.put, List.setIfInBounds_toArray, List.set_cons_zero, List.set_cons_succ]
        refine wpAnyH_take (i := 13) (oi := ?o30) (v := undef) ?h30 ?s30 ?f30 ?c30 ?q30 ?y30 hHeld ?r30
        case h30 => (simp only [List.getElem?_toArray, List.getElem?_cons_succ, List.getElem?_cons_zero]; rfl)
        case s30 => kernel_rfl
        case f30 => kernel_rfl
        case c30 => kernel_rfl
        case y30 => exact Or.inr ⟨by rfl, rfl⟩
        case q30 => exact fun _ _ _ h => h
        try simp only [Act.put, List.setIfInBounds_toArray, List.set_cons_zero, List.set_cons_succ]
        refine wpAnyH_take (i := 14) (oi := ?o31) (v := undef) ?h31 ?s31 ?f31 ?c31 ?q31 ?y31 hHeld ?r31
        case h31 => (simp only [List.getElem?_toArray, List.getElem?_cons_succ, List.getElem?_cons_zero]; rfl)
        case s31 => kernel_rfl
        case f31 => kernel_rfl
        case c31 => kernel_rfl
        case y31 => exact Or.inr ⟨by rfl, rfl⟩
        case q31 => exact fun _ _ _ h => h
        try simp only [Act.put, List.setIfInBounds_toArray, List.set_cons_zero, List.set_cons_succ]
        refine wpAnyH_take (i := 15) (oi := ?o32) (v := ?v32) ?h32 ?s32 ?f32 ?c32 ?q32 ?y32 hHeld ?r32
        case h32 => (simp only [List.getElem?_toArray, List.getElem?_cons_succ, List.getElem?_cons_zero]; rfl)
        case s32 => kernel_rfl
        case f32 => kernel_rfl
        case c32 => kernel_rfl
        case y32 => (refine Or.inl ⟨by rfl, ?_⟩; intro w hSw; (try dsimp only at hSw); go_simp; (try with_reducible rfl))
        case q32 => exact fun _ _ _ h => h
        try simp only [Act.put, List.setIfInBounds_toArray, List.set_cons_zero, List.set_cons_succ]
        refine wpAnyH_done (by kernel_rfl) ?_ _
        repeat go_step
        have hd6 : Below W6.heap.size W6 W6.drew := (Below.refl _ _).drew
        replace h6 := h6.go hd6
        replace Ba6 := Ba6.up hd6
        replace KT := KT.up hd6
        replace U6 := below_on U6 hd6
        obtain ⟨cf301, cf302, cf303, cf304, cf305, cf306, cf307⟩ := h6.cells; have cf308 := Ba6.cell 0; have cf309 := Ba6.cell 1; have cf310 := Ba6.cell 2; have cf311 := KT.cell 0; have cf312 := KT.cell 1; have cf313 := KT.cell 2
        obtain ⟨l0, l1, l2⟩ := RowAt.linkAt h6.at_.links HLI.out
        go_wp2_with fail
        go_ret
        exact ⟨rfl, U6⟩
      · skip
        go_step
        rw [← hW6.out] at KT h6 Ba6 U6 ⊢
        rw [hgt.out] at KT ⊢
        clear hW6 hgt
        obtain ⟨cf314, cf315, cf316, cf317, cf318, cf319, cf320⟩ := h6.cells; have cf321 := Ba6.cell 0; have cf322 := Ba6.cell 1; have cf323 := Ba6.cell 2; have cf324 := KT.cell 0; have cf325 := KT.cell 1; have cf326 := KT.cell 2
        obtain ⟨l0, l1, l2⟩ := RowAt.linkAt h6.at_.links HLI.out
        go_wp2_with fail
        refine wp_region_held_drew (S := (fun w' => (w'.cell? ⟨w2.heap.size, 0, none⟩ = some (.int .i64 p.proto) ∧ w'.cell? ⟨w2.heap.size, 1, none⟩ = some (.int .i64 p.cap) ∧ w'.cell? ⟨w2.heap.size, 2, none⟩ = some (.int .i64 p.k) ∧ w'.cell? ⟨w2.heap.size, 3, none⟩ = some (.slice An p.nodes.length cn) ∧ w'.cell? ⟨w2.heap.size, 4, none⟩ = some (.slice (some ⟨gL, 0, none⟩) p.links.length cl) ∧ w'.cell? ⟨w2.heap.size, 5, none⟩ = some (.slice Ad p.dests.length cd) ∧ w'.cell? ⟨w2.heap.size, 6, none⟩ = some (.slice Ac p.checks.length cc)) ∧ (w'.cell? ⟨w3.heap.size, 0, none⟩ = some (.int .i64 r.kind) ∧ w'.cell? ⟨w3.heap.size, 1, none⟩ = some (.int .i64 r.cost) ∧ w'.cell? ⟨w3.heap.size, 2, none⟩ = some (.slice Aa r.path.length ca)) ∧ w'.cell? ⟨gL, i * 3, none⟩ = some (.int .i64 (a : Int)) ∧ w'.cell? ⟨gL, i * 3 + 1, none⟩ = some (.int .i64 (b : Int)) ∧ w'.cell? ⟨gL, i * 3 + 2, none⟩ = some (.int .i64 lc))) (by kernel_rfl) (by go_keep) (fun hHeld => ?_)
        refine wpAnyH_take (i := 0) (oi := ?o33) (v := ?v33) ?h33 ?s33 ?f33 ?c33 ?q33 ?y33 hHeld ?r33
        case h33 => (simp only [List.getElem?_toArray, List.getElem?_cons_succ, List.getElem?_cons_zero]; rfl)
        case s33 => kernel_rfl
        case f33 => kernel_rfl
        case c33 => kernel_rfl
        case y33 => (refine Or.inl ⟨by rfl, ?_⟩; intro w hSw; (try dsimp only at hSw); go_simp; (try with_reducible rfl))
        case q33 => exact fun _ _ _ h => h
        try simp only [Act.put, List.setIfInBounds_toArray, List.set_cons_zero, List.set_cons_succ]
        refine wpAnyH_take (i := 1) (oi := ?o34) (v := ?v34) ?h34 ?s34 ?f34 ?c34 ?q34 ?y34 hHeld ?r34
        case h34 => (simp only [List.getElem?_toArray, List.getElem?_cons_succ, List.getElem?_cons_zero]; rfl)
        case s34 => kernel_rfl
        case f34 => kernel_rfl
        case c34 => kernel_rfl
        case y34 => (refine Or.inl ⟨by rfl, ?_⟩; intro w hSw; (try dsimp only at hSw); go_simp; (try with_reducible rfl))
        case q34 => exact fun _ _ _ h => h
        try simp only [Act.put, List.setIfInBounds_toArray, List.set_cons_zero, List.set_cons_succ]
        refine wpAnyH_take (i := 2) (oi := ?o35) (v := ?v35) ?h35 ?s35 ?f35 ?c35 ?q35 ?y35 hHeld ?r35
        case h35 => (simp only [List.getElem?_toArray, List.getElem?_cons_succ, List.getElem?_cons_zero]; rfl)
        case s35 => kernel_rfl
        case f35 => kernel_rfl
        case c35 => kernel_rfl
        case y35 => (refine Or.inl ⟨by rfl, ?_⟩; intro w hSw; (try dsimp only at hSw); go_simp; (try with_reducible rfl))
        case q35 => exact fun _ _ _ h => h
        try simp only [Act.put, List.setIfInBounds_toArray, List.set_cons_zero, List.set_cons_succ]
        refine wpAnyH_take (i := 3) (oi := ?o36) (v := ?v36) ?h36 ?s36 ?f36 ?c36 ?q36 ?y36 hHeld ?r36
        case h36 => (simp only [List.getElem?_toArray, List.getElem?_cons_succ, List.getElem?_cons_zero]; rfl)
        case s36 => kernel_rfl
        case f36 => kernel_rfl
        case c36 => kernel_rfl
        case y36 => (refine Or.inl ⟨by rfl, ?_⟩; intro w hSw; (try dsimp only at hSw); go_simp; (try with_reducible rfl))
        case q36 => exact fun _ _ _ h => h
        try simp only [Act.put, List.setIfInBounds_toArray, List.set_cons_zero, List.set_cons_succ]
        refine wpAnyH_take (i := 4) (oi := ?o37) (v := undef) ?h37 ?s37 ?f37 ?c37 ?q37 ?y37 hHeld ?r37
        case h37 => (simp only [List.getElem?_toArray, List.getElem?_cons_succ, List.getElem?_cons_zero]; rfl)
        case s37 => kernel_rfl
        case f37 => kernel_rfl
        case c37 => kernel_rfl
        case y37 => exact Or.inr ⟨by rfl, rfl⟩
        case q37 => exact fun _ _ _ h => h
        try simp only [Act.put, List.setIfInBounds_toArray, List.set_cons_zero, List.set_cons_succ]
        refine wpAnyH_take (i := 5) (oi := ?o38) (v := undef) ?h38 ?s38 ?f38 ?c38 ?q38 ?y38 hHeld ?r38
        case h38 => (simp only [List.getElem?_toArray, List.getElem?_cons_succ, List.getElem?_cons_zero]; rfl)
        case s38 => kernel_rfl
        case f38 => kernel_rfl
        case c38 => kernel_rfl
        case y38 => exact Or.inr ⟨by rfl, rfl⟩
        case q38 => exact fun _ _ _ h => h
        try simp only [Act.put, List.setIfInBounds_toArray, List.set_cons_zero, List.set_cons_succ]
        refine wpAnyH_take (i := 6) (oi := ?o39) (v := undef) ?h39 ?s39 ?f39 ?c39 ?q39 ?y39 hHeld ?r39
        case h39 => (simp only [List.getElem?_toArray, List.getElem?_cons_succ, List.getElem?_cons_zero]; rfl)
        case s39 => kernel_rfl
        case f39 => kernel_rfl
        case c39 => kernel_rfl
        case y39 => exact Or.inr ⟨by rfl, rfl⟩
        case q39 => exact fun _ _ _ h => h
        try simp only [Act.put, List.setIfInBounds_toArray, List.set_cons_zero, List.set_cons_succ]
        refine wpAnyH_take (i := 7) (oi := ?o40) (v := undef) ?h40 ?s40 ?f40 ?c40 ?q40 ?y40 hHeld ?r40
        case h40 => (simp only [List.getElem?_toArray, List.getElem?_cons_succ, List.getElem?_cons_zero]; rfl)
        case s40 => kernel_rfl
        case f40 => kernel_rfl
        case c40 => kernel_rfl
        case y40 => exact Or.inr ⟨by rfl, rfl⟩
        case q40 => exact fun _ _ _ h => h
        try simp only [Act.put, List.setIfInBounds_toArray, List.set_cons_zero, List.set_cons_succ]
        refine wpAnyH_take (i := 8) (oi := ?o41) (v := undef) ?h41 ?s41 ?f41 ?c41 ?q41 ?y41 hHeld ?r41
        case h41 => (simp only [List.getElem?_toArray, List.getElem?_cons_succ, List.getElem?_cons_zero]; rfl)
        case s41 => kernel_rfl
        case f41 => kernel_rfl
        case c41 => kernel_rfl
        case y41 => exact Or.inr ⟨by rfl, rfl⟩
        case q41 => exact fun _ _ _ h => h
        try simp only [Act.put, List.setIfInBounds_toArray, List.set_cons_zero, List.set_cons_succ]
        refine wpAnyH_take (i := 9) (oi := ?o42) (v := undef) ?h42 ?s42 ?f42 ?c42 ?q42 ?y42 hHeld ?r42
        case h42 => (simp only [List.getElem?_toArray, List.getElem?_cons_succ, List.getElem?_cons_zero]; rfl)
        case s42 => kernel_rfl
        case f42 => kernel_rfl
        case c42 => kernel_rfl
        case y42 => exact Or.inr ⟨by rfl, rfl⟩
        case q42 => exact fun _ _ _ h => h
        try simp only [Act.put, List.setIfInBounds_toArray, List.set_cons_zero, List.set_cons_succ]
        refine wpAnyH_take (i := 10) (oi := ?o43) (v := undef) ?h43 ?s43 ?f43 ?c43 ?q43 ?y43 hHeld ?r43
        case h43 => (simp only [List.getElem?_toArray, List.getElem?_cons_succ, List.getElem?_cons_zero]; rfl)
        case s43 => kernel_rfl
        case f43 => kernel_rfl
        case c43 => kernel_rfl
        case y43 => exact Or.inr ⟨by rfl, rfl⟩
        case q43 => exact fun _ _ _ h => h
        try simp only [Act.put, List.setIfInBounds_toArray, List.set_cons_zero, List.set_cons_succ]
        refine wpAnyH_take (i := 11) (oi := ?o44) (v := undef) ?h44 ?s44 ?f44 ?c44 ?q44 ?y44 hHeld ?r44
        case h44 => (simp only [List.getElem?_toArray, List.getElem?_cons_succ, List.getElem?_cons_zero]; rfl)
        case s44 => kernel_rfl
        case f44 => kernel_rfl
        case c44 => kernel_rfl
        case y44 => exact Or.inr ⟨by rfl, rfl⟩
        case q44 => exact fun _ _ _ h => h
        try simp only [Act.put, List.setIfInBounds_toArray, List.set_cons_zero, List.set_cons_succ]
        refine wpAnyH_take (i := 12) (oi := ?o45) (v := undef) ?h45 ?s45 ?f45 ?c45 ?q45 ?y45 hHeld ?r45
        case h45 => (simp only [List.getElem?_toArray, List.getElem?_cons_succ, List.getElem?_cons_zero]; rfl)
        case s45 => kernel_rfl
        case f45 => kernel_rfl
        case c45 => kernel_rfl
        case y45 => exact Or.inr ⟨by rfl, rfl⟩
        case q45 => exact fun _ _ _ h => h
        try simp only [Act.put, List.setIfInBounds_toArray, List.set_cons_zero, List.set_cons_succ]
        refine wpAnyH_take (i := 13) (oi := ?o46) (v := undef) ?h46 ?s46 ?f46 ?c46 ?q46 ?y46 hHeld ?r46
        case h46 => (simp only [List.getElem?_toArray, List.getElem?_cons_succ, List.getElem?_cons_zero]; rfl)
        case s46 => kernel_rfl
        case f46 => kernel_rfl
        case c46 => kernel_rfl
        case y46 => exact Or.inr ⟨by rfl, rfl⟩
        case q46 => exact fun _ _ _ h => h
        try simp only [Act.put, List.setIfInBounds_toArray, List.set_cons_zero, List.set_cons_succ]
        refine wpAnyH_take (i := 14) (oi := ?o47) (v := undef) ?h47 ?s47 ?f47 ?c47 ?q47 ?y47 hHeld ?r47
        case h47 => (simp only [List.getElem?_toArray, List.getElem?_cons_succ, List.getElem?_cons_zero]; rfl)
        case s47 => kernel_rfl
        case f47 => kernel_rfl
        case c47 => kernel_rfl
        case y47 => exact Or.inr ⟨by rfl, rfl⟩
        case q47 => exact fun _ _ _ h => h
        try simp only [Act.put, List.setIfInBounds_toArray, List.set_cons_zero, List.set_cons_succ]
        refine wpAnyH_take (i := 15) (oi := ?o48) (v := ?v48) ?h48 ?s48 ?f48 ?c48 ?q48 ?y48 hHeld ?r48
        case h48 => (simp only [List.getElem?_toArray, List.getElem?_cons_succ, List.getElem?_cons_zero]; rfl)
        case s48 => kernel_rfl
        case f48 => kernel_rfl
        case c48 => kernel_rfl
        case y48 => (refine Or.inl ⟨by rfl, ?_⟩; intro w hSw; (try dsimp only at hSw); go_simp; (try with_reducible rfl))
        case q48 => exact fun _ _ _ h => h
        try simp only [Act.put, List.setIfInBounds_toArray, List.set_cons_zero, List.set_cons_succ]
        refine wpAnyH_done (by kernel_rfl) ?_ _
        repeat go_step
        have hd6 : Below W6.heap.size W6 W6.drew := (Below.refl _ _).drew
        replace h6 := h6.go hd6
        replace Ba6 := Ba6.up hd6
        replace KT := KT.up hd6
        replace U6 := below_on U6 hd6
        obtain ⟨cf327, cf328, cf329, cf330, cf331, cf332, cf333⟩ := h6.cells; have cf334 := Ba6.cell 0; have cf335 := Ba6.cell 1; have cf336 := Ba6.cell 2; have cf337 := KT.cell 0; have cf338 := KT.cell 1; have cf339 := KT.cell 2
        obtain ⟨l0, l1, l2⟩ := RowAt.linkAt h6.at_.links HLI.out
        go_wp2_with fail
        go_ret
        exact ⟨rfl, U6⟩
end Go.Proofs.Ytdmilbfdiebjgaa
