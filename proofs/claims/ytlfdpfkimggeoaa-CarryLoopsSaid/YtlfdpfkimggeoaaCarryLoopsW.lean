/-
  CarryLoops: the walk.
-/
import Derived.Test.YtlfdpfkimggeoaaCaG
import Derived.Test.YtlfdpfkimggeoaaCaJ
import Derived.Test.YtlfdpfkimggeoaaPmB
namespace Go.Proofs.Ytlfdpfkimggeoaa
open Go.RowKit
set_option linter.unusedVariables false
set_option linter.unusedSimpArgs false

def qOf (p : PPlan) (cap : Int) : PPlan := { p with proto := 2, cap := cap }
theorem q_right {p : PPlan} (h : rightB p = true) {cap : Int} (h1 : 1 ≤ cap) (h2 : cap ≤ 12) : rightB (qOf p cap) = true := by
  unfold rightB at h ⊢
  simp only [Bool.and_eq_true] at h ⊢
  refine ⟨?_, h.2⟩
  show protoB 2 cap = true
  unfold protoB withinB
  simp
  omega
theorem q_small {p : PPlan} (h : PSmall p) (cap : Int) : PSmall (qOf p cap) := ⟨h.nodes, h.dests, h.ln, h.ll, h.ld, h.lc⟩
theorem q_own {B : Nat} {p : PPlan} {v1 v2 v3 v4 : Value} {w : World} (h : POwn B p v1 v2 v3 v4 w) (cap : Int) : POwn B (qOf p cap) v1 v2 v3 v4 w := ⟨h.nodes, h.links, h.dests, h.checks⟩
/-- What a path is told over a link: none, where it comes back or is as long as there may be. -/
theorem loops_key {p : PPlan} (h : rightB p = true) (hp : p.proto = 2) {i a b : Nat} {l : PLink} {na nb : PNode} (hl : p.links[i]? = some l) (ob : otherI l (b : Int) = (a : Int)) (ha : p.nodes[a]? = some na) (hb : p.nodes[b]? = some nb) (hc : 1 ≤ l.cost) {r o : Rt} (hf : fitB p na.num r = true) (hk : r.kind ≠ 0) (ho : overB p (i : Int) (b : Int) r = o) :
    ((na.num = nb.num ∨ nb.num ∈ r.path ∨ (r.path.length : Int) = p.cap) → o = Rt.none) ∧ (¬ (na.num = nb.num ∨ nb.num ∈ r.path ∨ (r.path.length : Int) = p.cap) → o = ⟨2, 0, na.num :: r.path⟩) := by
  have hle : (r.path.length : Int) ≤ p.cap := (fit_pth hf hk hp).2.2.2.2.1
  have hft := told_fit h (node_num h ha) hf hk hc nb.num
  rw [if_pos hp] at hft
  have hto : toldR p l.cost na.num r = ⟨2, 0, na.num :: r.path⟩ := by unfold toldR; rw [if_pos hp]
  unfold memI at hft
  rcases over_two h hl ob ha hb hf hk ho with ⟨e1, e2, _⟩ | ⟨e1, e2⟩
  · rw [e1] at e2
    rw [e2] at hft
    have hft := hft.symm
    simp only [Bool.and_eq_true, decide_eq_true_eq, Bool.not_eq_true', decide_eq_false_iff_not] at hft
    refine ⟨fun hx => ?_, fun _ => by rw [e1, hto]⟩
    rcases hx with hx | hx | hx
    · exact absurd hx.symm hft.2.1
    · exact absurd hx hft.2.2
    · omega
  · rw [e2] at hft
    refine ⟨fun _ => e1, fun hx => ?_⟩
    exfalso
    have hft := hft.symm
    simp only [Bool.and_eq_false_iff, decide_eq_false_iff_not, Bool.not_eq_false', decide_eq_true_eq] at hft
    rcases hft with h1 | h1 | h1
    · exact hx (.inr (.inr (by omega)))
    · exact hx (.inl h1.symm)
    · exact hx (.inr (.inl h1))
/-- The network's box, two routes' boxes. -/
structure CL (w : World) (q : PPlan) (g : Nat) (An : Option Addr) (cn : Nat) (Al : Option Addr) (cl : Nat) (Ad : Option Addr) (cd : Nat) (Ac : Option Addr) (cc : Nat) (r : Rt) (Aa : Option Addr) (ca gr : Nat) (o : Rt) (Ao : Option Addr) (co go_ : Nat) (W : World) : Prop where
  box : PBox w.heap.size w g q An q.nodes.length cn Al q.links.length cl Ad q.dests.length cd Ac q.checks.length cc W
  br : Blk W gr 42 #[.int .i64 r.kind, .int .i64 r.cost, .slice Aa r.path.length ca]
  ra : RtAt W r Aa r.path.length
  bo : Blk W go_ 42 #[.int .i64 o.kind, .int .i64 o.cost, .slice Ao o.path.length co]
  ro : RtAt W o Ao o.path.length
section
variable {w W W' : World} {q : PPlan} {g : Nat} {An : Option Addr} {cn : Nat} {Al : Option Addr} {cl : Nat} {Ad : Option Addr} {cd : Nat} {Ac : Option Addr} {cc : Nat} {r : Rt} {Aa : Option Addr} {ca gr : Nat} {o : Rt} {Ao : Option Addr} {co go_ : Nat}
theorem CL.go (h : CL w q g An cn Al cl Ad cd Ac cc r Aa ca gr o Ao co go_ W) (hb : Below W.heap.size W W') : CL w q g An cn Al cl Ad cd Ac cc r Aa ca gr o Ao co go_ W' := ⟨h.box.go hb, h.br.up hb, h.ra.on hb, h.bo.up hb, h.ro.on hb⟩
theorem CL.drewN (h : CL w q g An cn Al cl Ad cd Ac cc r Aa ca gr o Ao co go_ W) (k : Nat) : CL w q g An cn Al cl Ad cd Ac cc r Aa ca gr o Ao co go_ (W.drewN k) := h.go (below_drewN _ k)
theorem CL.cells (h : CL w q g An cn Al cl Ad cd Ac cc r Aa ca gr o Ao co go_ W) : W.cell? ⟨g, 1, none⟩ = some (.int .i64 q.cap) ∧ W.cell? ⟨g, 3, none⟩ = some (.slice An q.nodes.length cn) ∧ W.cell? ⟨gr, 2, none⟩ = some (.slice Aa r.path.length ca) ∧ W.cell? ⟨go_, 0, none⟩ = some (.int .i64 o.kind) ∧ W.cell? ⟨go_, 2, none⟩ = some (.slice Ao o.path.length co) :=
  ⟨h.box.cells.2.1, h.box.cells.2.2.2.1, h.br.cell 2, h.bo.cell 0, h.bo.cell 2⟩
end
def lpV (v : Bool) (x : Int) (l : List Int) (k : Nat) : Bool := v || memI x (l.take k)
theorem lpV_zero (v : Bool) (x : Int) (l : List Int) : lpV v x l 0 = v := by unfold lpV memI; simp
theorem lpV_next (v : Bool) {x y : Int} {l : List Int} {k : Nat} (h : l[k]? = some y) : lpV v x l (k + 1) = (lpV v x l k || (y == x)) := by
  unfold lpV memI
  rw [List.take_add_one, h]
  simp only [Option.toList]
  rw [Bool.or_assoc]
  congr 1
  rw [Bool.eq_iff_iff]
  simp
  exact ⟨fun h => h.imp id Eq.symm, fun h => h.imp id Eq.symm⟩
theorem lpV_all (v : Bool) (x : Int) (l : List Int) : lpV v x l l.length = (v || memI x l) := by unfold lpV; rw [List.take_length]

set_option maxHeartbeats 8000000 in
set_option maxRecDepth 100000 in
theorem carryLoops_walk (A : Option Addr) (c : Nat) (l : List Int) (hwf : ∀ v ∈ l, InI v) (hm : l.length ≤ 9223372036854775807) (hc : l.length ≤ c) (hcm : c ≤ 9223372036854775807) (x0 : Int) (hx0 : InI x0) (A3 : Option Addr) (c3 : Nat) (l3 : List Int) (hwf3 : ∀ v ∈ l3, InI v) (hm3 : l3.length ≤ 9223372036854775807) (hc3 : l3.length ≤ c3) (hcm3 : c3 ≤ 9223372036854775807) (w : World) (hA : CellsAt w w.heap.size A (l.map (Value.int .i64))) (hA3 : CellsAt w w.heap.size A3 (l3.map (Value.int .i64))) :
    Calls Try.prog 5 #[.slice A l.length c, .int .i64 x0, .slice A3 l3.length c3] w fun e w' => e = .returned (.bool true) ∧ Below w.heap.size w w' := by
  obtain ⟨p, hp⟩ : ∃ p, netOf l = p := ⟨_, rfl⟩
  have hk := netOk l
  rw [hp] at hk
  have HP := Lib.hid hp
  have HM := Lib.hid hwf
  clear hp hwf
  obtain ⟨n, hn⟩ : ∃ n, l.length = n := ⟨_, rfl⟩
  rw [hn] at hm hc ⊢
  have HLEN := Lib.hid hn
  clear hn
  have hn1 := hk.nodes1
  have hl9 := hk.links1
  have hR := hk.right.out
  have m1 : ∀ (k c : Int) (A : Option Addr) (n m : Nat) (w : World), (Instr.field 42 (.agg #[.int .i64 k, .int .i64 c, .slice A n m]) 0).run Try.prog w = .ok (.int .i64 k) w := fun _ _ _ _ _ _ => by kernel_rfl
  have m2 : ∀ (k c : Int) (A : Option Addr) (n m : Nat) (w : World), (Instr.field 42 (.agg #[.int .i64 k, .int .i64 c, .slice A n m]) 1).run Try.prog w = .ok (.int .i64 c) w := fun _ _ _ _ _ _ => by kernel_rfl
  have U := Below.refl w.heap.size w
  obtain ⟨n3, hn3⟩ : ∃ n, l3.length = n := ⟨_, rfl⟩
  rw [hn3] at hm3 hc3 ⊢
  have HN3 := Lib.hid hn3
  have HW3 := Lib.hid hwf3
  clear hn3 hwf3
  by_cases hl0 : p.links.length = 0
  · have t0 : ((p.links.length : Int) == 0) = true := by simp [hl0]
    clear hl0
    go_enter Try.func5, Try.ntmps5
    go_wp2_with (first
      | (go_at_call 21; (with_reducible refine (awake7_any _).mono ?_); rintro e w1 ⟨rfl, hb1⟩; replace hA := hA.on hb1; replace hA3 := hA3.on hb1; replace U := below_on U hb1)
      | (go_at_call 7; refine (Net_at p l HP A n c HLEN.out HM.out hm hc hcm _ hA).mono ?_; rintro e w2 ⟨An, cn, Al, cl, Ad, cd, Ac, cc, rfl, ho, hb2⟩; have h := PBox.new U hb2 ho; replace hA := hA.on hb2; replace hA3 := hA3.on hb2; replace U := below_on U hb2; have hn2 := below_new w2 (.cells #[.int .i64 p.proto, .int .i64 p.cap, .int .i64 p.k, .slice An p.nodes.length cn, .slice Al p.links.length cl, .slice Ad p.dests.length cd, .slice Ac p.checks.length cc] 29); replace hA := hA.on hn2; replace hA3 := hA3.on hn2; replace U := below_on U hn2; obtain ⟨ce0, ce1, ce2, ce3, ce4, ce5, ce6⟩ := h.cells))
    go_ret
    exact ⟨rfl, h.up⟩
  · have t0 : ((p.links.length : Int) == 0) = false := beq_eq_false_iff_ne.2 (by omega)
    obtain ⟨u, hu, hul⟩ := pickN_nat x0 6 (by omega)
    have HU6 : Hid (pickN x0 6 = (u : Int)) := Lib.hid hu
    obtain ⟨q, hq⟩ : ∃ q, qOf p (1 + (u : Int)) = q := ⟨_, rfl⟩
    have HQ := Lib.hid hq
    have hRq : rightB q = true := by rw [← hq]; exact q_right hR (by omega) (by omega)
    have hsq : PSmall q := by rw [← hq]; exact q_small hk.small _
    have HQ2 : Hid (q.proto = 2) := Lib.hid (by rw [← hq]; rfl)
    have HQC : Hid (q.cap = 1 + (u : Int)) := Lib.hid (by rw [← hq]; rfl)
    have hqlen : 0 < q.links.length ∧ q.links.length ≤ 9 := by rw [← hq]; show 0 < p.links.length ∧ p.links.length ≤ 9; omega
    have hnlen : q.nodes.length ≤ 7 := by rw [← hq]; show p.nodes.length ≤ 7; omega
    have HA3 := Lib.hid hA3
    clear hu hq
    go_enter Try.func5, Try.ntmps5
    go_upto_region 7 with (first
      | (go_at_call 21; (with_reducible refine (awake7_any _).mono ?_); rintro e w1 ⟨rfl, hb1⟩; replace hA := hA.on hb1; replace hA3 := hA3.on hb1; replace U := below_on U hb1)
      | (go_at_call 7; refine (Net_at p l HP A n c HLEN.out HM.out hm hc hcm _ hA).mono ?_; rintro e w2 ⟨An, cn, Al, cl, Ad, cd, Ac, cc, rfl, ho, hb2⟩; have h := PBox.new U hb2 ho; replace hA := hA.on hb2; replace hA3 := hA3.on hb2; replace U := below_on U hb2; have hn2 := below_new w2 (.cells #[.int .i64 p.proto, .int .i64 p.cap, .int .i64 p.k, .slice An p.nodes.length cn, .slice Al p.links.length cl, .slice Ad p.dests.length cd, .slice Ac p.checks.length cc] 29); replace hA := hA.on hn2; replace hA3 := hA3.on hn2; replace U := below_on U hn2; obtain ⟨ce0, ce1, ce2, ce3, ce4, ce5, ce6⟩ := h.cells)
      | (go_at_call 22; (with_reducible refine (pick7_is x0 6 (u : Int) hx0 (by omega) (by omega) HU6 _).mono ?_); rintro e wp ⟨rfl, rfl⟩))
    have hb02 := below_on hb1 hb2
    obtain ⟨W4, hW4⟩ : ∃ W, W = w2.alloc (.cells #[.int .i64 2, .int .i64 (1 + (u : Int)), .int .i64 p.k, .slice An p.nodes.length cn, .slice Al p.links.length cl, .slice Ad p.dests.length cd, .slice Ac p.checks.length cc] 29) := ⟨_, rfl⟩
    rw [← hW4]
    have hB : PBox w.heap.size w w2.heap.size q An q.nodes.length cn Al q.links.length cl Ad q.dests.length cd Ac q.checks.length cc W4 := by
      have e := HQ.out
      subst e
      rw [hW4]
      exact PBox.new (p := qOf p (1 + (u : Int))) hb1 hb2 (q_own ho _)
    have hA34 := HA3.out.on hB.up
    obtain ⟨gW, hgW⟩ : ∃ g, w2.heap.size = g := ⟨_, rfl⟩
    rw [hgW] at hB ⊢
    clear hW4 hgW hb02 h U hA hA3 ho ce0 ce1 ce2 ce3 ce4 ce5 ce6 hn2 t0
    obtain ⟨i, hi, hil⟩ := pickN_nat x0 q.links.length hqlen.1
    have HX := Lib.hid hi
    obtain ⟨⟨la, lb, lc⟩, hli⟩ : ∃ l, q.links[i]? = some l := ⟨_, List.getElem?_eq_getElem hil⟩
    obtain ⟨a, b, ha, hb, hab, hbn, hc0, hc1⟩ := link_ends hRq hli
    dsimp only at ha hb hc0 hc1
    subst ha hb
    obtain ⟨na, hna⟩ : ∃ nd, q.nodes[a]? = some nd := ⟨_, List.getElem?_eq_getElem (by omega)⟩
    obtain ⟨nb, hnb⟩ : ∃ nd, q.nodes[b]? = some nd := ⟨_, List.getElem?_eq_getElem (by omega)⟩
    have HLI := Lib.hid hli
    have HNA := Lib.hid hna
    have HNB := Lib.hid hnb
    have hcap : q.cap ≤ 12 := by rw [HQC.out]; omega
    obtain ⟨ob, oa⟩ := other_b (l := ⟨(a : Int), (b : Int), lc⟩) rfl rfl hab
    obtain ⟨r, hr⟩ : ∃ r, heldR q na.num l3 = r := ⟨_, rfl⟩
    have HRA := Lib.hid hr
    have fa : fitB q na.num r = true := hr ▸ held_fit hRq _ _
    have ka : r.kind ≠ 0 := hr ▸ held_kind _ _ _
    obtain ⟨o, hov⟩ : ∃ o, overB q (i : Int) (b : Int) r = o := ⟨_, rfl⟩
    have HO := Lib.hid hov
    have HKEY := Lib.hid (loops_key hRq HQ2.out hli ob hna hnb hc0 fa ka hov)
    have hrc := (fit_pth fa ka HQ2.out).2.2.2
    obtain ⟨gL, hgL, -, -, -, -⟩ := hB.at_.links.link HLI.out
    subst hgL
    obtain ⟨l0, l1, l2⟩ := RowAt.linkAt hB.at_.links HLI.out
    obtain ⟨kc0, kc1, kc2, kc3, kc4, kc5, kc6⟩ := hB.cells
    have i0 : (0 : Int) ≤ (i : Int) := by omega
    have i1 : (i : Int) < (q.links.length : Int) := by omega
    have HOT : Hid (otherB q (i : Int) (b : Int) = (a : Int)) := Lib.hid (by unfold otherB; rw [if_pos (by omega), Int.toNat_natCast, HLI.out]; exact ob)
    clear hi hli hna hnb hr fa ka hov oa ob
    go_wp2_with (first
      | (go_at_call 22; (with_reducible refine (pick7_is x0 q.links.length (i : Int) hx0 (by omega) (by omega) HX _).mono ?_); rintro e wp ⟨rfl, rfl⟩)
      | (go_at_call 31; (with_reducible refine (held_is q a na HNA hcap l3 r HRA HW3 n3 HN3 hm3 hB.at_ hsq hA34).mono ?_); rintro e w5 ⟨Aa, ca, rfl, Ra, ha1, ha2, hb5⟩; have hnr := below_new w5 (.cells #[.int .i64 r.kind, .int .i64 r.cost, .slice Aa r.path.length ca] 42); have h6 := (hB.go hb5).go hnr; have B6 := Blk.new w5 42 #[.int .i64 r.kind, .int .i64 r.cost, .slice Aa r.path.length ca]; have R6 := Ra.on hnr; obtain ⟨d0, d1, d2, d3, d4, d5, d6⟩ := h6.cells; have f0 := B6.cell 0; have f1 := B6.cell 1; have f2 := B6.cell 2)
      | (go_at_call 27; (with_reducible refine (caOver_w q (i : Int) (b : Int) r o HO h6.at_ hsq R6 ha1 ha2).mono ?_); rintro e w7 ⟨Ao, co, rfl, Ro, ho1, ho2, hb7⟩; have hno := below_new w7 (.cells #[.int .i64 o.kind, .int .i64 o.cost, .slice Ao o.path.length co] 42); have k8 : CL w q gW An cn _ cl Ad cd Ac cc r Aa ca w5.heap.size o Ao co w7.heap.size (w7.alloc (.cells #[.int .i64 o.kind, .int .i64 o.cost, .slice Ao o.path.length co] 42)) := ⟨(h6.go hb7).go hno, (B6.up hb7).up hno, (R6.on hb7).on hno, Blk.new _ _ _, Ro.on hno⟩; obtain ⟨g0, g1, g2, g3, g4⟩ := k8.cells))
    obtain ⟨gN, hgN, -, -, -⟩ := k8.box.at_.nodes.node HNA.out
    subst hgN
    obtain ⟨W8, hW8⟩ : ∃ W, W = w7.alloc (.cells #[.int .i64 o.kind, .int .i64 o.cost, .slice Ao o.path.length co] 42) := ⟨_, rfl⟩
    rw [← hW8] at k8 ⊢
    obtain ⟨gr, hgr⟩ : ∃ g, w5.heap.size = g := ⟨_, rfl⟩
    obtain ⟨go_, hgo⟩ : ∃ g, w7.heap.size = g := ⟨_, rfl⟩
    rw [hgr, hgo] at k8
    rw [hgr, hgo]
    have hrl : r.path.length ≤ 12 := hrc.1
    clear hW8 hgr hgo h6 B6 R6 Ra Ro hb5 hb7 hnr hno d0 d1 d2 d3 d4 d5 d6 f0 f1 f2 g0 g1 g2 g3 g4 kc0 kc1 kc2 kc3 kc4 kc5 kc6 l0 l1 l2 hB hA34 hrc
    obtain ⟨g0, g1, g2, g3, g4⟩ := k8.cells
    have ua := (RowAt.nodeAt k8.box.at_.nodes HNA.out).2
    have ub := (RowAt.nodeAt k8.box.at_.nodes HNB.out).2
    have a0 : (0 : Int) ≤ (a : Int) := by omega
    have a1 : (a : Int) < (q.nodes.length : Int) := by omega
    have b0 : (0 : Int) ≤ (b : Int) := by omega
    have b1 : (b : Int) < (q.nodes.length : Int) := by omega
    obtain ⟨v0, hv0⟩ : ∃ v, (na.num == nb.num) = v := ⟨_, rfl⟩
    have HV0 := Lib.hid hv0
    go_quiet (fail)
    obtain ⟨W9, hW9⟩ : ∃ W, W = W8.drewN nq := ⟨_, rfl⟩
    have k9 : CL w q gW (some ⟨gN, 0, none⟩) cn (some ⟨gL, 0, none⟩) cl Ad cd Ac cc r Aa ca gr o Ao co go_ W9 := by rw [hW9]; exact k8.drewN _
    rw [← hW9]
    clear hW9 k8 g0 g1 g2 g3 g4 ua ub hv0
    obtain ⟨g0, g1, g2, g3, g4⟩ := k9.cells
    go_wp2_with fail
    go_loopw [14, 15] (fun s14 s15 wr => ∃ k : Nat, k ≤ r.path.length ∧ s15 = .int .i64 (k : Nat) ∧ s14 = .bool (lpV v0 nb.num r.path k) ∧ CL w q gW (some ⟨gN, 0, none⟩) cn (some ⟨gL, 0, none⟩) cl Ad cd Ac cc r Aa ca gr o Ao co go_ wr) (fun _ s15 _ => r.path.length - (intOf s15).toNat)
    case atStart => exact ⟨0, Nat.zero_le _, rfl, by rw [lpV_zero], k9⟩
    case round =>
      clear k9 g0 g1 g2 g3 g4
      obtain ⟨k, hkl, rfl, rfl, k9⟩ := hrel
      obtain ⟨bv, hbv⟩ : ∃ b, lpV v0 nb.num r.path k = b := ⟨_, rfl⟩
      rw [hbv]
      have HBV := Lib.hid hbv
      clear hbv
      obtain ⟨g0, g1, g2, g3, g4⟩ := k9.cells
      by_cases hlt : k < r.path.length
      · obtain ⟨y, hy⟩ : ∃ y, r.path[k]? = some y := ⟨_, List.getElem?_eq_getElem hlt⟩
        have HNX := Lib.hid (lpV_next v0 (x := nb.num) hy)
        obtain ⟨ad, hAd, -, cy⟩ := k9.ra.2.1.int hy
        subst hAd
        have ub := (RowAt.nodeAt k9.box.at_.nodes HNB.out).2
        have k0 : (0 : Int) ≤ (k : Int) := by omega
        have k1 : (k : Int) < (r.path.length : Int) := by omega
        clear hy
        cases bv
        · obtain ⟨cv, hcv⟩ : ∃ c, (y == nb.num) = c := ⟨_, rfl⟩
          have HCV := Lib.hid hcv
          go_wp2_with fail
          go_quiet (fail)
          go_wp2
          go_roundw
          case rel => exact ⟨k + 1, by omega, by go_num, by rw [HNX.out, HBV.out, HCV.out]; rfl, k9.drewN _⟩
          case measure => simp [intOf]; omega
        · go_wp2_with fail
          go_quiet (fail)
          go_wp2
          go_roundw
          case rel => exact ⟨k + 1, by omega, by go_num, by rw [HNX.out, HBV.out]; rfl, k9.drewN _⟩
          case measure => simp [intOf]; omega
      · obtain rfl : k = r.path.length := by omega
        have hall := HBV.out
        rw [lpV_all] at hall
        have GONE : Hid (∀ (_ : na.num = nb.num ∨ nb.num ∈ r.path ∨ (r.path.length : Int) = q.cap), (o.kind == 0) = true ∧ ((o.path.length : Int) == 0) = true) := Lib.hid (fun h => by rw [HKEY.out.1 h]; exact ⟨rfl, rfl⟩)
        cases bv
        · have hno : ¬ na.num = nb.num ∧ nb.num ∉ r.path := by
            have e := HV0.out
            unfold memI at hall
            simp only [Bool.or_eq_false_iff, decide_eq_false_iff_not] at hall
            rw [hall.1] at e
            exact ⟨by simpa using e, hall.2⟩
          by_cases hcp : (r.path.length : Int) = q.cap
          · obtain ⟨t1, t2⟩ := GONE.out (.inr (.inr hcp))
            have t3 : ((r.path.length : Int) == q.cap) = true := by simp [hcp]
            clear hcp hall hno
            go_wp2
            go_ret
            exact ⟨rfl, k9.box.up⟩
          · have t3 : ((r.path.length : Int) == q.cap) = false := beq_eq_false_iff_ne.2 hcp
            have heq := HKEY.out.2 (by rintro (h | h | h); exact hno.1 h; exact hno.2 h; exact hcp h)
            have ho : o.path = na.num :: r.path := by rw [heq]
            have hok : o.kind = 2 := by rw [heq]
            have hol : o.path.length = r.path.length + 1 := by rw [ho]; rfl
            have t4 : (o.kind != 2) = false := by simp [hok]
            have t5 : ((o.path.length : Int) != (r.path.length : Int) + 1) = false := by simp [hol]
            have ww : IntKind.i64.wrap ((r.path.length : Int) + 1) = (r.path.length : Int) + 1 := IntWalk.i64_in _ (by omega)
            have ol0 : (0 : Int) < (o.path.length : Int) := by omega
            have ol1 : 0 < o.path.length := by omega
            obtain ⟨ad, hAd, -, ca0⟩ := k9.ro.2.1.int (k := 0) (v := na.num) (by rw [ho]; rfl)
            subst hAd
            have ca1 : wr.cell? ad = some (.int .i64 na.num) := by have := ca0; unfold Addr.add at this; simpa using this
            have ua := (RowAt.nodeAt k9.box.at_.nodes HNA.out).2
            have HOP := Lib.hid ho
            have HOL := Lib.hid hol
            clear hcp hall hno heq ho hok hol
            go_wp2_with fail
            go_quiet (fail)
            obtain ⟨W10, hW10⟩ : ∃ W, W = wr.drewN nq := ⟨_, rfl⟩
            have k10 := k9.drewN nq
            rw [← hW10] at k10 ⊢
            clear hW10 k9 g0 g1 g2 g3 g4 ua ca0 ca1 t3 t4 t5 ww
            obtain ⟨g0, g1, g2, g3, g4⟩ := k10.cells
            go_wp2_with fail
            obtain ⟨wo, rfl⟩ : ∃ wo : World, wo = wr := ⟨_, rfl⟩
            go_loopw [16] (fun s16 wr => ∃ k : Nat, k ≤ r.path.length ∧ s16 = .int .i64 (k : Nat) ∧ CL w q gW (some ⟨gN, 0, none⟩) cn (some ⟨gL, 0, none⟩) cl Ad cd Ac cc r Aa ca gr o (some ad) co go_ wr) (fun s16 _ => r.path.length - (intOf s16).toNat)
            case atStart => exact ⟨0, Nat.zero_le _, rfl, k10⟩
            case round =>
              clear k10 g0 g1 g2 g3 g4
              obtain ⟨k, hkl2, rfl, k10⟩ := hrel
              obtain ⟨g0, g1, g2, g3, g4⟩ := k10.cells
              by_cases hlt : k < r.path.length
              · obtain ⟨y, hy⟩ : ∃ y, r.path[k]? = some y := ⟨_, List.getElem?_eq_getElem hlt⟩
                obtain ⟨ad2, hAd2, -, cy⟩ := k10.ra.2.1.int hy
                subst hAd2
                obtain ⟨ad3, hAd3, -, cz⟩ := k10.ro.2.1.int (k := k + 1) (v := y) (by rw [HOP.out]; simpa using hy)
                injection hAd3 with hAd3
                subst hAd3
                have cz2 : wr.cell? ⟨ad.block, ad.off + (k + 1), none⟩ = some (.int .i64 y) := by
                  have e := cz
                  unfold Addr.add at e
                  rw [if_neg (by omega)] at e
                  exact e
                have k0 : (0 : Int) ≤ (k : Int) := by omega
                have k1 : (k : Int) < (r.path.length : Int) := by omega
                have k2 : (0 : Int) ≤ (k : Int) + 1 := by omega
                have k3 : (k : Int) + 1 < (o.path.length : Int) := by have := HOL.out; omega
                have k4 : ((k : Int) + 1).toNat = k + 1 := by omega
                have ww : IntKind.i64.wrap ((k : Int) + 1) = (k : Int) + 1 := IntWalk.i64_in _ (by omega)
                clear hy
                go_wp2_with fail
                go_quiet (fail)
                clear ww k4
                go_wp2
                go_roundw
                case rel => exact ⟨k + 1, by omega, by go_num, k10.drewN _⟩
                case measure => simp [intOf]; omega
              · obtain ⟨m0, m1, m2, m3, m4, m5, m6⟩ := k10.box.cells
                go_wp2_with (go_at_call 13; (with_reducible refine (Other_ok (i : Int) (b : Int) (a : Int) HOT (Lib.hid hRq) hsq k10.box.at_).mono ?_); rintro e w9 ⟨rfl, hb9⟩; have k11 := k10.go hb9)
                go_ret
                exact ⟨rfl, k11.box.up⟩
        · obtain ⟨t1, t2⟩ := GONE.out (by
            have e := HV0.out
            unfold memI at hall
            simp only [Bool.or_eq_true, decide_eq_true_eq] at hall
            rcases hall with h | h
            · rw [h] at e; exact .inl (by simpa using e)
            · exact .inr (.inl h))
          clear hall
          go_wp2
          go_ret
          exact ⟨rfl, k9.box.up⟩
end Go.Proofs.Ytlfdpfkimggeoaa
