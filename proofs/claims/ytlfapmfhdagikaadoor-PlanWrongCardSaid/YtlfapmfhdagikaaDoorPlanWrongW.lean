/-
  PlanWrong: the walk.
-/
import Derived.Test.YtlfapmfhdagikaaDoorPlZd
import Derived.Deep.RegionHeld3
import Derived.Deep.CutBlock
import Derived.Deep.Upon
import Derived.Deep.AppendSrc
namespace Go.Proofs.YtlfapmfhdagikaaDoor
open Go.RowKit
set_option linter.unusedVariables false

/-! ### What makes a network none -/
theorem right_no (p : PPlan) (h : protoB p.proto p.cap = false ∨ withinB p.k 0 (min 4 (p.links.length : Int)) = false ∨ nodesB p.nodes = false ∨ linksB p.nodes.length p.links = false ∨ destsB p.nodes p.dests = false ∨ checksB p.nodes.length p.dests.length p.checks = false) : Hid (rightB p = false) := by
  refine Lib.hid ?_
  cases hr : rightB p
  · rfl
  · obtain ⟨h1, h2, h3, h4, h5, h6⟩ := right_parts (Lib.hid hr)
    simp_all
theorem allF_no {α : Type} (f : Nat → α → Bool) (l : List α) (k : Nat) (x : α) (hx : l[k]? = some x) (h : f k x = false) : allF f l 0 = false := by
  cases ha : allF f l 0
  · rfl
  · have := (allF_iff f l 0).1 ha k x hx
    rw [Nat.zero_add, h] at this
    cases this
theorem and_no {a b : Bool} (h : b = false) : (a && b) = false := by rw [h, Bool.and_false]
theorem wrong_num (p : PPlan) (i : Nat) (x : PNode) (hx : p.nodes[i]? = some x) (m : Int) (hm : withinB m 1 65535 = false) : Hid (rightB { p with nodes := p.nodes.set i ⟨x.name, m⟩ } = false) :=
  right_no _ (.inr (.inr (.inl (and_no (allF_no _ _ i ⟨x.name, m⟩ (by show (p.nodes.set i ⟨x.name, m⟩)[i]? = _; rw [List.getElem?_set_self (List.getElem?_eq_some_iff.1 hx).1]) (by unfold nodeOk; exact and_no (and_no hm)))))))
theorem ixB_ge {α : Type} (f : α → Bool) (l : List α) (i : Nat) (x : α) (hx : l[i]? = some x) (h : f x = true) : 0 ≤ ixB f l := by
  by_cases hn : ∃ (k : Nat) (y : α), l[k]? = some y ∧ f y = true ∧ ∀ (j : Nat) (z : α), j < k → l[j]? = some z → f z = false
  · obtain ⟨k, y, h1, h2, h3⟩ := hn
    rw [ixB_eq f l k y h1 h2 h3]
    omega
  · exfalso
    revert x
    induction i using Nat.strongRecOn with
    | _ i ih =>
      intro x hx h
      refine hn ⟨i, x, hx, h, fun j z hj hz => ?_⟩
      cases hz2 : f z
      · rfl
      · exact (ih j hj z hz hz2).elim
theorem wrong_name (p : PPlan) (i : Nat) (x : PNode) (hx : p.nodes[i]? = some x) (d : PDest) (hd : p.dests[0]? = some d) : Hid (rightB { p with nodes := p.nodes.set i ⟨d.name, x.num⟩ } = false) := by
  refine right_no _ (.inr (.inr (.inr (.inr (.inl (and_no (allF_no _ _ 0 d hd ?_)))))))
  unfold destOk
  have h0 : 0 ≤ ixB (nameIs d.name) (p.nodes.set i ⟨d.name, x.num⟩) := ixB_ge _ _ i ⟨d.name, x.num⟩ (by rw [List.getElem?_set_self (List.getElem?_eq_some_iff.1 hx).1]) (by unfold nameIs; simp)
  have : decide (ixB (nameIs d.name) (p.nodes.set i ⟨d.name, x.num⟩) < 0) = false := decide_eq_false (by omega)
  show (nameB d.name.data.toList && (decide (ixB (nameIs d.name) (p.nodes.set i ⟨d.name, x.num⟩) < 0) && _)) = false
  rw [this, Bool.false_and, Bool.and_false]
theorem wrong_link (p : PPlan) (x : PLink) (h : placeB x.b p.nodes.length = false ∨ withinB x.a 0 (x.b - 1) = false) : Hid (rightB { p with links := p.links ++ [x] } = false) := by
  refine right_no _ (.inr (.inr (.inr (.inl (and_no (allF_no _ _ p.links.length x (by simp) ?_))))))
  unfold linkOk
  rcases h with h | h
  · rw [h, Bool.false_and]
  · rw [h, Bool.false_and, Bool.and_false]
theorem wrong_twice (p : PPlan) : Hid (rightB { p with links := (⟨0, 1, 1⟩ : PLink) :: ⟨0, 1, 2⟩ :: p.links } = false) := by
  refine right_no _ (.inr (.inr (.inr (.inl (and_no (allF_no _ _ 1 ⟨0, 1, 2⟩ rfl ?_))))))
  unfold linkOk
  refine and_no (and_no (and_no ?_))
  rw [ixB_eq (linkIs 0 1) ((⟨0, 1, 1⟩ : PLink) :: ⟨0, 1, 2⟩ :: p.links) 0 ⟨0, 1, 1⟩ rfl rfl (fun j y hj _ => by omega)]
  rfl
theorem wrong_check (p : PPlan) (x : PCheck) (h : checkB p.nodes.length p.dests.length x = false) : Hid (rightB { p with checks := p.checks ++ [x] } = false) :=
  right_no _ (.inr (.inr (.inr (.inr (.inr (and_no (allF_no _ _ p.checks.length x (by simp) h)))))))
theorem origF_twice (m : Nat) (x : Int) : origF m [x, x] 0 = false := by
  have h : withinB x (x + 1) ((m : Int) - 1) = false := by unfold withinB; rw [decide_eq_false (by omega), Bool.false_and]
  simp only [origF, h, Bool.false_and, Bool.and_false]
theorem wrong_dest (p : PPlan) (x : PDest) (h : origB p.nodes.length x.orig = false) : Hid (rightB { p with dests := p.dests ++ [x] } = false) := by
  refine right_no _ (.inr (.inr (.inr (.inr (.inl (and_no (allF_no _ _ p.dests.length x (by simp) ?_)))))))
  unfold destOk
  exact and_no (and_no (and_no h))

/-- NOTHING IS APPENDED, at the operation. -/
theorem wpList_append_nothing {P : Program} {ops : Array Oper} {rest : List Oper} {o : Oper} {a : Act} {w : World} {Q : Exit → Act → World → Prop} (hgd : o.guard = none) (s x : Operand) (t : TypeId)
    (ho : o.op = .call { callee := .builtin .append, args := #[s, x], argTypes := #[t, t] }) (e : TypeId) (i : TypeInfo) (ht : P.underlying t = some (.slice e)) (hi : P.info? e = some i)
    (base : Option Addr) (n c : Nat) (hs : a.eval s = .slice base n c) (hle : n ≤ c) (A : Option Addr) (m : Nat) (hx : a.eval x = .slice A 0 m)
    (h : wpList P ops Q rest (a.put o.dst (.slice base n c)) w) : wpList P ops Q (o :: rest) a w :=
  wpList_plain hgd fun K hK => by
    have hsrc : Src P i.size t (.slice A 0 m) 0 [] w := by
      cases A with
      | none => exact Src.ofNil w ht m
      | some ad => exact Src.ofSlice w ht ad 0 m [] (by simp) (fun j u hu => by simp at hu) (fun u hu => by simp at hu)
    have hr := run_append_nothing w t t o.type e i ht hi base n c hle (.slice A 0 m) hsrc
    unfold Oper.wp execOp
    simp only [ho, resolve, invoke, builtin, Sem.run_bind, Sem.run_pure, Result.andThen_ok, List.map_toArray, List.map_cons, List.map_nil, hs, hx, hr]
    exact hK _ _ h

set_option maxHeartbeats 4000000 in
set_option maxRecDepth 100000 in
theorem planWrong_walk (A : Option Addr) (c : Nat) (l : List Int) (hwf : ∀ v ∈ l, InI v) (hm : l.length ≤ 9223372036854775807) (hc : l.length ≤ c) (hcm : c ≤ 9223372036854775807) (a : Int) (ha : InI a) (b : Int) (hb : InI b) (w : World) (hA : CellsAt w w.heap.size A (l.map (Value.int .i64))) :
    Calls Tryd.prog 7 #[.slice A l.length c, .int .i64 a, .int .i64 b] w fun e w' => e = .returned (.bool true) ∧ Below w.heap.size w w' := by
  obtain ⟨p, hp⟩ : ∃ p, netOf l = p := ⟨_, rfl⟩
  have hk := netOk l
  have hf := netFine l
  rw [hp] at hk hf
  have HP := Lib.hid hp
  have HM := Lib.hid hwf
  clear hp hwf
  obtain ⟨n, hn⟩ : ∃ n, l.length = n := ⟨_, rfl⟩
  rw [hn] at hm hc ⊢
  have HLEN := Lib.hid hn
  clear hn
  have hn1 := hk.nodes1
  have hd1 := hk.dests1
  obtain ⟨v, hv, bv⟩ := pickN_nat a 12 (by omega)
  have HPK : Hid (pickN a 12 = (v : Int)) := Lib.hid (show pickN a 12 = (v : Int) from hv)
  obtain ⟨i, hi, bi⟩ := pickN_nat b p.nodes.length (by omega)
  have HPI := Lib.hid hi
  obtain ⟨d, hd⟩ : ∃ d, p.dests[0]? = some d := ⟨_, List.getElem?_eq_getElem (by omega)⟩
  have HD := Lib.hid hd
  clear hv hi hd
  have i1 : (0 : Int) < (p.dests.length : Int) := by omega
  have i2 : 0 < p.dests.length := by omega
  go_enter Tryd.func7, Tryd.ntmps7
  go_upto_block 0 with (first
    | (go_at_call 11; refine (awake3_any _).mono ?_; rintro e w1 ⟨rfl, hb1⟩; have hA1 := (hA.below hb1).more hb1.size)
    | (go_at_call 13; (with_reducible refine (Net_at p l HP A n c HLEN.out HM.out hm hc hcm _ hA1).mono ?_); rintro e w2 ⟨An, cn, Al, cl, Ad, cd, Ac, cc, rfl, ho, hb2⟩; have hH0 := HSt.start ho hb2; obtain ⟨gd, Ao, co, hAd, _, c0, _, _⟩ := hH0.pat.dests.dest HD.out; subst hAd; have c0' := c0; rw [Nat.zero_mul] at c0'; clear c0)
    | (go_at_call 25; (with_reducible refine (pick3_is _ _ _ hb (by omega) (by omega) HPI _).mono ?_); rintro e w4 ⟨rfl, rfl⟩)
    | (go_at_call 25; (with_reducible refine (pick3_is _ _ _ ha (by omega) (by omega) HPK _).mono ?_); rintro e w4 ⟨rfl, rfl⟩))
  generalize hW3 : w2.alloc (.cells #[.int .i64 p.proto, .int .i64 p.cap, .int .i64 p.k, .slice An p.nodes.length cn, .slice Al p.links.length cl, .slice (some ⟨gd, 0, none⟩) p.dests.length cd, .slice Ac p.checks.length cc] 29) = W3 at hH0 c0' ⊢
  clear hW3 ho hb2 hA1 hA c0'
  obtain ⟨g, hg⟩ : ∃ g, w2.heap.size = g := ⟨_, rfl⟩
  rw [hg] at hH0 ⊢
  clear hg
  go_cut [] (fun wx => ∃ (q : PPlan) (vn vl vd vc : Value), Hid (rightB q = false) ∧ PSmall q ∧ HSt w1 g q vn vl vd vc wx)
  case first =>
    have hsm := hk.small
    have hti := hk.tiny
    clear HPK HPI HLEN HM HP hb1
    have hv5 : v = 0 ∨ v = 1 ∨ v = 2 ∨ v = 3 ∨ v = 4 ∨ v = 5 ∨ v = 6 ∨ v = 7 ∨ v = 8 ∨ v = 9 ∨ v = 10 ∨ v = 11 := by omega
    clear bv
    have b2 : (0 : Int) ≤ (i : Int) := by omega
    have b3 : (i : Int) < (p.nodes.length : Int) := by omega
    have b7 : i < p.nodes.length := bi
    rcases hv5 with h5 | h5 | h5 | h5 | h5 | h5 | h5 | h5 | h5 | h5 | h5 | h5
    · skip
      subst h5
      obtain ⟨x, hx⟩ : ∃ x, p.nodes[i]? = some x := ⟨_, List.getElem?_eq_getElem bi⟩
      obtain ⟨gn, rfl, _, c0, c1⟩ := hH0.pat.nodes.node hx
      have f0 := fun j => own_frozen hH0.own.nodes j
      have q3 := hH0.blk.cell 3
      have HE := wrong_name p i x hx d HD.out
      have HH := Lib.hid (hH0.nodeName hx d.name)
      have HS : PSmall ({ p with nodes := p.nodes.set i ⟨d.name, x.num⟩ } : PPlan) := ⟨fun y hy => by
        rcases List.mem_or_eq_of_mem_set hy with hy | rfl
        · exact hsm.nodes y hy
        · exact (hsm.dests d (List.mem_of_getElem? HD.out)).1, hsm.dests, by rw [List.length_set]; exact hsm.ln, hsm.ll, hsm.ld, hsm.lc⟩
      clear hH0 hx
      go_wp2_with fail
      go_meet
      exact ⟨_, _, _, _, _, HE, HS, HH.out⟩
    · skip
      subst h5
      obtain ⟨x, hx⟩ : ∃ x, p.nodes[i]? = some x := ⟨_, List.getElem?_eq_getElem bi⟩
      obtain ⟨gn, rfl, _, c0, c1⟩ := hH0.pat.nodes.node hx
      have f0 := fun j => own_frozen hH0.own.nodes j
      have q3 := hH0.blk.cell 3
      have HE := wrong_num p i x hx 0 rfl
      have HH := Lib.hid (hH0.nodeNum hx 0)
      have HS : PSmall ({ p with nodes := p.nodes.set i ⟨x.name, 0⟩ } : PPlan) := ⟨fun y hy => by
        rcases List.mem_or_eq_of_mem_set hy with hy | rfl
        · exact hsm.nodes y hy
        · exact hsm.nodes x (List.mem_of_getElem? hx), hsm.dests, by rw [List.length_set]; exact hsm.ln, hsm.ll, hsm.ld, hsm.lc⟩
      clear hH0 hx
      go_wp2_with fail
      go_meet
      exact ⟨_, _, _, _, _, HE, HS, HH.out⟩
    · skip
      subst h5
      obtain ⟨x, hx⟩ : ∃ x, p.nodes[i]? = some x := ⟨_, List.getElem?_eq_getElem bi⟩
      obtain ⟨gn, rfl, _, c0, c1⟩ := hH0.pat.nodes.node hx
      have f0 := fun j => own_frozen hH0.own.nodes j
      have q3 := hH0.blk.cell 3
      have HE := wrong_num p i x hx 65536 rfl
      have HH := Lib.hid (hH0.nodeNum hx 65536)
      have HS : PSmall ({ p with nodes := p.nodes.set i ⟨x.name, 65536⟩ } : PPlan) := ⟨fun y hy => by
        rcases List.mem_or_eq_of_mem_set hy with hy | rfl
        · exact hsm.nodes y hy
        · exact hsm.nodes x (List.mem_of_getElem? hx), hsm.dests, by rw [List.length_set]; exact hsm.ln, hsm.ll, hsm.ld, hsm.lc⟩
      clear hH0 hx
      go_wp2_with fail
      go_meet
      exact ⟨_, _, _, _, _, HE, HS, HH.out⟩
    · skip
      subst h5
      have hl1 := hk.links1
      obtain ⟨iL, hiL, zL0, zL1, zL2⟩ := info_parts linkInfo
      have qn := hH0.blk.cell 4
      have qm := hH0.blk.cell 3
      have qd := hH0.blk.cell 5
      have HE : Hid (rightB ({ p with links := p.links ++ [(⟨(i : Int), (i : Int), 1⟩ : PLink)] } : PPlan) = false) := wrong_link p _ (.inr (by unfold withinB; simp; omega))
      have HS : PSmall ({ p with links := p.links ++ [(⟨(i : Int), (i : Int), 1⟩ : PLink)] } : PPlan) := ⟨hsm.nodes, hsm.dests, hsm.ln, by show (p.links ++ [(⟨(i : Int), (i : Int), 1⟩ : PLink)]).length ≤ 4096; rw [List.length_append]; show p.links.length + 1 ≤ 4096; omega, hsm.ld, hsm.lc⟩
      go_wp2_with (at_builtin; refine wpList_append_lies _ rfl _ _ _ rfl w1.heap.size 53 iL (.agg #[.int .i64 0, .int .i64 0, .int .i64 0]) 3 24 Tryd.underlying25 hiL zL0 zL1 zL2 rfl (by decide) (.slice Al p.links.length cl) p.links.length _ rfl (own_alloc hH0.own.links _) ⟨W3.heap.size, 0, none⟩ 1 1 [.int .i64 (i : Int), .int .i64 (i : Int), .int .i64 1] rfl rfl (cells_new W3 [.int .i64 (i : Int), .int .i64 (i : Int), .int .i64 1] 53) (by simp [Value.oneCell']) (by omega) (by unfold maxLen; omega) (by omega) (by have := hH0.below.size; simp; omega) (W3.heap.size + 1) (by simp) ?_; intro g6 cap6 w6 hown6 hgrow6 _ _; have hu := hH0.up (below_new W3 (.cells #[.int .i64 (i : Int), .int .i64 (i : Int), .int .i64 1] 53)); have hb6 := hu.blk.grown hgrow6 (fun e1 => own_blk_ne hu.own.links hu.blk (by decide) e1.symm); have q6 := hb6.cell 4; have f6 := hb6.frozen 4)
      go_meet
      have ho7 : w6.ownsRow w1.heap.size 53 3 (.slice (some ⟨g6, 0, none⟩) (p.links.length + 1) cap6) (p.links.length + 1) (p.links.flatMap linkC ++ linkC (⟨(i : Int), (i : Int), 1⟩ : PLink)) := hown6
      have hN := hu.pushLink ho7 hgrow6
      exact ⟨_, .slice An p.nodes.length cn, .slice (some ⟨g6, 0, none⟩) (p.links.length + 1) cap6, .slice (some ⟨gd, 0, none⟩) p.dests.length cd, .slice Ac p.checks.length cc, HE, HS, hN⟩
    · skip
      subst h5
      obtain ⟨iL, hiL, zL0, zL1, zL2⟩ := info_parts linkInfo
      have qn := hH0.blk.cell 4
      have HE := wrong_twice p
      have hl1 := hk.links1
      have HS : PSmall ({ p with links := (⟨0, 1, 1⟩ : PLink) :: ⟨0, 1, 2⟩ :: p.links } : PPlan) := ⟨hsm.nodes, hsm.dests, hsm.ln, by show ((⟨0, 1, 1⟩ : PLink) :: ⟨0, 1, 2⟩ :: p.links).length ≤ 4096; simp; omega, hsm.ld, hsm.lc⟩
      have hbs := hH0.below.size
      have hfr : (W3.alloc (.cells #[.int .i64 0, .int .i64 1, .int .i64 1, .int .i64 0, .int .i64 1, .int .i64 2] 53)).ownsRow w1.heap.size 53 3 (.slice (some ⟨W3.heap.size, 0, none⟩) 2 2) 2 [.int .i64 0, .int .i64 1, .int .i64 1, .int .i64 0, .int .i64 1, .int .i64 2] :=
        World.ownsRow_lit W3 #[.int .i64 0, .int .i64 1, .int .i64 1, .int .i64 0, .int .i64 1, .int .i64 2] 2 hbs (by unfold maxLen; omega) rfl
      have hu := hH0.up (below_new W3 (.cells #[.int .i64 0, .int .i64 1, .int .i64 1, .int .i64 0, .int .i64 1, .int .i64 2] 53))
      have hun := hu.blk.cell 4
      by_cases hz : p.links.length = 0
      · have hnil : p.links = [] := List.eq_nil_of_length_eq_zero hz
        have hg0 : (W3.alloc (.cells #[.int .i64 0, .int .i64 1, .int .i64 1, .int .i64 0, .int .i64 1, .int .i64 2] 53)).grownBy (W3.alloc (.cells #[.int .i64 0, .int .i64 1, .int .i64 1, .int .i64 0, .int .i64 1, .int .i64 2] 53)) (Value.slice Al p.links.length cl).ownBlock := ⟨rfl, rfl, rfl, Nat.le_refl _, fun _ _ _ => rfl⟩
        have HN := Lib.hid (hu.linksTo (xs := (⟨0, 1, 1⟩ : PLink) :: ⟨0, 1, 2⟩ :: p.links) (v' := .slice (some ⟨W3.heap.size, 0, none⟩) 2 2) (by rw [hnil]; exact hfr) hg0)
        have hf6 := hu.blk.frozen 4
        have HZ := Lib.hid hz
        rw [hz] at qn hun
        clear hz hnil hg0
        go_wp2_with (at_builtin; refine wpList_append_nothing rfl _ _ _ rfl 53 iL Tryd.underlying25 hiL (some ⟨W3.heap.size, 0, none⟩) 2 2 rfl (Nat.le_refl _) Al cl rfl ?_)
        go_meet
        exact ⟨_, .slice An p.nodes.length cn, .slice (some ⟨W3.heap.size, 0, none⟩) 2 2, .slice (some ⟨gd, 0, none⟩) p.dests.length cd, .slice Ac p.checks.length cc, HE, HS, HN.out⟩
      · obtain ⟨gl, cl', hform, _⟩ := own_slice hH0.own.links (by omega)
        injection hform with e1 _ e3
        subst e1 e3
        have hpos : 0 < p.links.length := by omega
        have hcells : ∀ j u, (p.links.flatMap linkC)[j]? = some u → (W3.alloc (.cells #[.int .i64 0, .int .i64 1, .int .i64 1, .int .i64 0, .int .i64 1, .int .i64 2] 53)).cell? ((⟨gl, 0, none⟩ : Addr).add j) = some u := hu.own.links.cells rfl
        have hone : ∀ u ∈ p.links.flatMap linkC, u.oneCell' = true := fun u hu => by
          obtain ⟨x, _, hx⟩ := List.mem_flatMap.1 hu
          simp only [linkC, List.mem_cons, List.not_mem_nil, or_false] at hx
          rcases hx with rfl | rfl | rfl <;> rfl
        have HCE := Lib.hid hcells
        have HON := Lib.hid hone
        have HLE := Lib.hid hH0.own.links.1
        have HFR := Lib.hid hfr
        have HU := Lib.hid hu
        clear hcells hone hfr hu
        go_wp2_with (at_builtin; refine wpList_append_lies _ rfl _ _ _ rfl w1.heap.size 53 iL (.agg #[.int .i64 0, .int .i64 0, .int .i64 0]) 3 24 Tryd.underlying25 hiL zL0 zL1 zL2 rfl (by decide) (.slice (some ⟨W3.heap.size, 0, none⟩) 2 2) 2 _ rfl HFR.out ⟨gl, 0, none⟩ p.links.length cl (p.links.flatMap linkC) rfl HLE.out HCE.out HON.out (by omega) (by unfold maxLen; omega) (by omega) (by simp; omega) (W3.heap.size + 1) (by simp) ?_; intro g6 cap6 w6 hown6 hgrow6 _ _; have hbe : Below W3.heap.size W3 w6 := (below_new W3 (.cells #[.int .i64 0, .int .i64 1, .int .i64 1, .int .i64 0, .int .i64 1, .int .i64 2] 53)).trans ((Below.refl _ _).grown hgrow6 (by simp) (fun k hk => by simp [Value.ownBlock] at hk; omega)); have hb6 := hH0.blk.up hbe; have q6 := hb6.cell 4; have f6 := hb6.frozen 4)
        go_meet
        have ho7 : w6.ownsRow w1.heap.size 53 3 (.slice (some ⟨g6, 0, none⟩) (2 + p.links.length) cap6) ((⟨0, 1, 1⟩ : PLink) :: ⟨0, 1, 2⟩ :: p.links).length (((⟨0, 1, 1⟩ : PLink) :: ⟨0, 1, 2⟩ :: p.links).flatMap linkC) := by
          have hl2 : ((⟨0, 1, 1⟩ : PLink) :: ⟨0, 1, 2⟩ :: p.links).length = 2 + p.links.length := by simp; omega
          rw [hl2]
          exact hown6
        have hN := hH0.linksTo ho7 (grown_any ⟨hbe.os, hbe.tape, hbe.output, hbe.size, fun k hk _ => hbe.block k hk⟩)
        exact ⟨_, .slice An p.nodes.length cn, .slice (some ⟨g6, 0, none⟩) (2 + p.links.length) cap6, .slice (some ⟨gd, 0, none⟩) p.dests.length cd, .slice Ac p.checks.length cc, HE, HS, hN⟩
    · skip
      subst h5
      have hl1 := hk.links1
      obtain ⟨iL, hiL, zL0, zL1, zL2⟩ := info_parts linkInfo
      have qn := hH0.blk.cell 4
      have qm := hH0.blk.cell 3
      have qd := hH0.blk.cell 5
      have HE : Hid (rightB ({ p with links := p.links ++ [(⟨(i : Int), (p.nodes.length : Int), 1⟩ : PLink)] } : PPlan) = false) := wrong_link p _ (.inl (by unfold placeB; simp))
      have HS : PSmall ({ p with links := p.links ++ [(⟨(i : Int), (p.nodes.length : Int), 1⟩ : PLink)] } : PPlan) := ⟨hsm.nodes, hsm.dests, hsm.ln, by show (p.links ++ [(⟨(i : Int), (p.nodes.length : Int), 1⟩ : PLink)]).length ≤ 4096; rw [List.length_append]; show p.links.length + 1 ≤ 4096; omega, hsm.ld, hsm.lc⟩
      go_wp2_with (at_builtin; refine wpList_append_lies _ rfl _ _ _ rfl w1.heap.size 53 iL (.agg #[.int .i64 0, .int .i64 0, .int .i64 0]) 3 24 Tryd.underlying25 hiL zL0 zL1 zL2 rfl (by decide) (.slice Al p.links.length cl) p.links.length _ rfl (own_alloc hH0.own.links _) ⟨W3.heap.size, 0, none⟩ 1 1 [.int .i64 (i : Int), .int .i64 (p.nodes.length : Int), .int .i64 1] rfl rfl (cells_new W3 [.int .i64 (i : Int), .int .i64 (p.nodes.length : Int), .int .i64 1] 53) (by simp [Value.oneCell']) (by omega) (by unfold maxLen; omega) (by omega) (by have := hH0.below.size; simp; omega) (W3.heap.size + 1) (by simp) ?_; intro g6 cap6 w6 hown6 hgrow6 _ _; have hu := hH0.up (below_new W3 (.cells #[.int .i64 (i : Int), .int .i64 (p.nodes.length : Int), .int .i64 1] 53)); have hb6 := hu.blk.grown hgrow6 (fun e1 => own_blk_ne hu.own.links hu.blk (by decide) e1.symm); have q6 := hb6.cell 4; have f6 := hb6.frozen 4)
      go_meet
      have ho7 : w6.ownsRow w1.heap.size 53 3 (.slice (some ⟨g6, 0, none⟩) (p.links.length + 1) cap6) (p.links.length + 1) (p.links.flatMap linkC ++ linkC (⟨(i : Int), (p.nodes.length : Int), 1⟩ : PLink)) := hown6
      have hN := hu.pushLink ho7 hgrow6
      exact ⟨_, .slice An p.nodes.length cn, .slice (some ⟨g6, 0, none⟩) (p.links.length + 1) cap6, .slice (some ⟨gd, 0, none⟩) p.dests.length cd, .slice Ac p.checks.length cc, HE, HS, hN⟩
    · skip
      subst h5
      have q4 := hH0.blk.cell 4
      have qq := hH0.blk.cell 2
      have tt := hH0.blk.frozen 2
      have hl1 := hk.links1
      have HE := right_no { p with k := (p.links.length : Int) + 1 } (.inr (.inl (by show withinB ((p.links.length : Int) + 1) 0 (min 4 (p.links.length : Int)) = false; unfold withinB; simp; omega)))
      have HH := Lib.hid (hH0.put 2 (.int .i64 ((p.links.length : Int) + 1)) ({ p with k := (p.links.length : Int) + 1 }) rfl rfl rfl rfl rfl)
      clear hH0
      go_wp2_with fail
      go_meet
      exact ⟨_, _, _, _, _, HE, ⟨hsm.nodes, hsm.dests, hsm.ln, hsm.ll, hsm.ld, hsm.lc⟩, HH.out⟩
    · skip
      subst h5
      have q4 := hH0.blk.cell 4
      have qq := hH0.blk.cell 1
      have tt := hH0.blk.frozen 1
      have hl1 := hk.links1
      have HE := right_no { p with cap := 13 } (.inl (by show protoB p.proto 13 = false; unfold protoB; split; rfl; split <;> rfl))
      have HH := Lib.hid (hH0.put 1 (.int .i64 13) ({ p with cap := 13 }) rfl rfl rfl rfl rfl)
      clear hH0
      go_wp2_with fail
      go_meet
      exact ⟨_, _, _, _, _, HE, ⟨hsm.nodes, hsm.dests, hsm.ln, hsm.ll, hsm.ld, hsm.lc⟩, HH.out⟩
    · skip
      subst h5
      obtain ⟨iD, hiD, zD0, zD1, zD2⟩ := info_parts destInfo
      have qn := hH0.blk.cell 5
      have qm := hH0.blk.cell 3
      have hld := hk.dests1
      have HE : Hid (rightB ({ p with dests := p.dests ++ [(⟨⟨#[110, 101, 119]⟩, [(i : Int), (i : Int)]⟩ : PDest)] } : PPlan) = false) := wrong_dest p _ (by unfold origB; rw [origF_twice]; rfl)
      have HS : PSmall ({ p with dests := p.dests ++ [(⟨⟨#[110, 101, 119]⟩, [(i : Int), (i : Int)]⟩ : PDest)] } : PPlan) := ⟨hsm.nodes, fun y hy => by
        rcases List.mem_append.1 hy with hy | hy
        · exact hsm.dests y hy
        · simp only [List.mem_cons, List.not_mem_nil, or_false] at hy; subst hy; exact ⟨by show (⟨#[110, 101, 119]⟩ : ByteArray).size ≤ 4096; decide, by simp⟩, hsm.ln, hsm.ll, by show (p.dests ++ [_]).length ≤ 4096; rw [List.length_append]; show p.dests.length + 1 ≤ 4096; omega, hsm.lc⟩
      have hbs := hH0.below.size
      have hin : (W3.alloc (.cells #[.int .i64 (i : Int), .int .i64 (i : Int)] 3)).ownsRow w1.heap.size 3 1 (.slice (some ⟨W3.heap.size, 0, none⟩) 2 2) 2 [.int .i64 (i : Int), .int .i64 (i : Int)] :=
        World.ownsRow_lit W3 #[.int .i64 (i : Int), .int .i64 (i : Int)] 2 hbs (by unfold maxLen; omega) rfl
      have hu1 := hH0.up (below_new W3 (.cells #[.int .i64 (i : Int), .int .i64 (i : Int)] 3))
      obtain ⟨hs, e1, e2, e3⟩ := hu1.own.dests
      have HIN := Lib.hid hin
      have HU1 := Lib.hid hu1
      have HE2 := Lib.hid e2
      have HE3 := Lib.hid e3
      have r5 := fun o => (hu1.blk.alloc o).cell 5
      clear hin e3 e2 hu1
      go_wp2_with (at_builtin; refine wpList_append_lies _ rfl _ _ _ rfl w1.heap.size 50 iD (.agg #[.string ⟨#[]⟩, .slice none 0 0]) 2 40 Tryd.underlying26 hiD zD0 zD1 zD2 rfl (by decide) (.slice (some ⟨gd, 0, none⟩) p.dests.length cd) p.dests.length _ rfl (own_alloc HE2.out _) ⟨W3.heap.size + 1, 0, none⟩ 1 1 [.string ⟨#[110, 101, 119]⟩, .slice (some ⟨W3.heap.size, 0, none⟩) 2 2] rfl rfl (World.news_of_block (cs := #[.string ⟨#[110, 101, 119]⟩, .slice (some ⟨W3.heap.size, 0, none⟩) 2 2]) (t := 50) (fr := (0, 0)) (heap2_new _ _ _ _)) (by simp [Value.oneCell']) (by omega) (by unfold maxLen; omega) (by omega) (by simp; omega) (W3.heap.size + 1 + 1) (by simp) ?_; intro g6 cap6 w6 hown6 hgrow6 _ _; have hu := HU1.out.up (below_new (W3.alloc (.cells #[.int .i64 (i : Int), .int .i64 (i : Int)] 3)) (.cells #[.string ⟨#[110, 101, 119]⟩, .slice (some ⟨W3.heap.size, 0, none⟩) 2 2] 50)); have hb6 := hu.blk.grown hgrow6 (fun e1 => own_blk_ne (own_alloc HE2.out _) hu.blk (by decide) e1.symm); have q6 := hb6.cell 5; have f6 := hb6.frozen 5)
      go_meet
      have ho7 : w6.ownsRow w1.heap.size 50 2 (.slice (some ⟨g6, 0, none⟩) (p.dests.length + 1) cap6) (p.dests.length + 1) ((p.dests.zip hs).flatMap destC ++ destC ((⟨⟨#[110, 101, 119]⟩, [(i : Int), (i : Int)]⟩ : PDest), (some ⟨W3.heap.size, 0, none⟩, 2))) := hown6
      have hN := hu.pushDest e1 (own_alloc HE2.out _) (fun j d q h1 h2 => own_alloc (HE3.out j d q h1 h2) _) (x := ⟨⟨#[110, 101, 119]⟩, [(i : Int), (i : Int)]⟩) (A := some ⟨W3.heap.size, 0, none⟩) (c := 2) (own_alloc HIN.out _) ho7 hgrow6
      exact ⟨_, .slice An p.nodes.length cn, .slice Al p.links.length cl, .slice (some ⟨g6, 0, none⟩) (p.dests.length + 1) cap6, .slice Ac p.checks.length cc, HE, HS, hN⟩
    · skip
      subst h5
      have hl1 := hk.checks1
      obtain ⟨iL, hiL, zL0, zL1, zL2⟩ := info_parts checkInfo
      have qn := hH0.blk.cell 6
      have qm := hH0.blk.cell 3
      have qd := hH0.blk.cell 5
      have HE : Hid (rightB ({ p with checks := p.checks ++ [(⟨1, (i : Int), (p.dests.length : Int), 0, 0⟩ : PCheck)] } : PPlan) = false) := wrong_check p _ (by unfold checkB placeB; simp)
      have HS : PSmall ({ p with checks := p.checks ++ [(⟨1, (i : Int), (p.dests.length : Int), 0, 0⟩ : PCheck)] } : PPlan) := ⟨hsm.nodes, hsm.dests, hsm.ln, hsm.ll, hsm.ld, by show (p.checks ++ [(⟨1, (i : Int), (p.dests.length : Int), 0, 0⟩ : PCheck)]).length ≤ 4096; rw [List.length_append]; show p.checks.length + 1 ≤ 4096; omega⟩
      go_wp2_with (at_builtin; refine wpList_append_lies _ rfl _ _ _ rfl w1.heap.size 55 iL (.agg #[.int .i64 0, .int .i64 0, .int .i64 0, .int .i64 0, .int .i64 0]) 5 40 Tryd.underlying27 hiL zL0 zL1 zL2 rfl (by decide) (.slice Ac p.checks.length cc) p.checks.length _ rfl (own_alloc hH0.own.checks _) ⟨W3.heap.size, 0, none⟩ 1 1 [.int .i64 1, .int .i64 (i : Int), .int .i64 (p.dests.length : Int), .int .i64 0, .int .i64 0] rfl rfl (cells_new W3 [.int .i64 1, .int .i64 (i : Int), .int .i64 (p.dests.length : Int), .int .i64 0, .int .i64 0] 55) (by simp [Value.oneCell']) (by omega) (by unfold maxLen; omega) (by omega) (by have := hH0.below.size; simp; omega) (W3.heap.size + 1) (by simp) ?_; intro g6 cap6 w6 hown6 hgrow6 _ _; have hu := hH0.up (below_new W3 (.cells #[.int .i64 1, .int .i64 (i : Int), .int .i64 (p.dests.length : Int), .int .i64 0, .int .i64 0] 55)); have hb6 := hu.blk.grown hgrow6 (fun e1 => own_blk_ne hu.own.checks hu.blk (by decide) e1.symm); have q6 := hb6.cell 6; have f6 := hb6.frozen 6)
      go_meet
      have ho7 : w6.ownsRow w1.heap.size 55 5 (.slice (some ⟨g6, 0, none⟩) (p.checks.length + 1) cap6) (p.checks.length + 1) (p.checks.flatMap checkC ++ checkC (⟨1, (i : Int), (p.dests.length : Int), 0, 0⟩ : PCheck)) := hown6
      have hN := hu.pushCheck ho7 hgrow6
      exact ⟨_, .slice An p.nodes.length cn, .slice Al p.links.length cl, .slice (some ⟨gd, 0, none⟩) p.dests.length cd, .slice (some ⟨g6, 0, none⟩) (p.checks.length + 1) cap6, HE, HS, hN⟩
    · skip
      subst h5
      have hl1 := hk.checks1
      obtain ⟨iL, hiL, zL0, zL1, zL2⟩ := info_parts checkInfo
      have qn := hH0.blk.cell 6
      have qm := hH0.blk.cell 3
      have qd := hH0.blk.cell 5
      have HE : Hid (rightB ({ p with checks := p.checks ++ [(⟨1, (i : Int), 0, 1, 0⟩ : PCheck)] } : PPlan) = false) := wrong_check p _ (by unfold checkB withinB limB; simp)
      have HS : PSmall ({ p with checks := p.checks ++ [(⟨1, (i : Int), 0, 1, 0⟩ : PCheck)] } : PPlan) := ⟨hsm.nodes, hsm.dests, hsm.ln, hsm.ll, hsm.ld, by show (p.checks ++ [(⟨1, (i : Int), 0, 1, 0⟩ : PCheck)]).length ≤ 4096; rw [List.length_append]; show p.checks.length + 1 ≤ 4096; omega⟩
      go_wp2_with (at_builtin; refine wpList_append_lies _ rfl _ _ _ rfl w1.heap.size 55 iL (.agg #[.int .i64 0, .int .i64 0, .int .i64 0, .int .i64 0, .int .i64 0]) 5 40 Tryd.underlying27 hiL zL0 zL1 zL2 rfl (by decide) (.slice Ac p.checks.length cc) p.checks.length _ rfl (own_alloc hH0.own.checks _) ⟨W3.heap.size, 0, none⟩ 1 1 [.int .i64 1, .int .i64 (i : Int), .int .i64 0, .int .i64 1, .int .i64 0] rfl rfl (cells_new W3 [.int .i64 1, .int .i64 (i : Int), .int .i64 0, .int .i64 1, .int .i64 0] 55) (by simp [Value.oneCell']) (by omega) (by unfold maxLen; omega) (by omega) (by have := hH0.below.size; simp; omega) (W3.heap.size + 1) (by simp) ?_; intro g6 cap6 w6 hown6 hgrow6 _ _; have hu := hH0.up (below_new W3 (.cells #[.int .i64 1, .int .i64 (i : Int), .int .i64 0, .int .i64 1, .int .i64 0] 55)); have hb6 := hu.blk.grown hgrow6 (fun e1 => own_blk_ne hu.own.checks hu.blk (by decide) e1.symm); have q6 := hb6.cell 6; have f6 := hb6.frozen 6)
      go_meet
      have ho7 : w6.ownsRow w1.heap.size 55 5 (.slice (some ⟨g6, 0, none⟩) (p.checks.length + 1) cap6) (p.checks.length + 1) (p.checks.flatMap checkC ++ checkC (⟨1, (i : Int), 0, 1, 0⟩ : PCheck)) := hown6
      have hN := hu.pushCheck ho7 hgrow6
      exact ⟨_, .slice An p.nodes.length cn, .slice Al p.links.length cl, .slice (some ⟨gd, 0, none⟩) p.dests.length cd, .slice (some ⟨g6, 0, none⟩) (p.checks.length + 1) cap6, HE, HS, hN⟩
    · skip
      subst h5
      have hl1 := hk.checks1
      obtain ⟨iL, hiL, zL0, zL1, zL2⟩ := info_parts checkInfo
      have qn := hH0.blk.cell 6
      have qm := hH0.blk.cell 3
      have qd := hH0.blk.cell 5
      have HE : Hid (rightB ({ p with checks := p.checks ++ [(⟨4, (i : Int), 0, 0, -1⟩ : PCheck)] } : PPlan) = false) := wrong_check p _ (by unfold checkB withinB; simp)
      have HS : PSmall ({ p with checks := p.checks ++ [(⟨4, (i : Int), 0, 0, -1⟩ : PCheck)] } : PPlan) := ⟨hsm.nodes, hsm.dests, hsm.ln, hsm.ll, hsm.ld, by show (p.checks ++ [(⟨4, (i : Int), 0, 0, -1⟩ : PCheck)]).length ≤ 4096; rw [List.length_append]; show p.checks.length + 1 ≤ 4096; omega⟩
      go_wp2_with (at_builtin; refine wpList_append_lies _ rfl _ _ _ rfl w1.heap.size 55 iL (.agg #[.int .i64 0, .int .i64 0, .int .i64 0, .int .i64 0, .int .i64 0]) 5 40 Tryd.underlying27 hiL zL0 zL1 zL2 rfl (by decide) (.slice Ac p.checks.length cc) p.checks.length _ rfl (own_alloc hH0.own.checks _) ⟨W3.heap.size, 0, none⟩ 1 1 [.int .i64 4, .int .i64 (i : Int), .int .i64 0, .int .i64 0, .int .i64 (-1)] rfl rfl (cells_new W3 [.int .i64 4, .int .i64 (i : Int), .int .i64 0, .int .i64 0, .int .i64 (-1)] 55) (by simp [Value.oneCell']) (by omega) (by unfold maxLen; omega) (by omega) (by have := hH0.below.size; simp; omega) (W3.heap.size + 1) (by simp) ?_; intro g6 cap6 w6 hown6 hgrow6 _ _; have hu := hH0.up (below_new W3 (.cells #[.int .i64 4, .int .i64 (i : Int), .int .i64 0, .int .i64 0, .int .i64 (-1)] 55)); have hb6 := hu.blk.grown hgrow6 (fun e1 => own_blk_ne hu.own.checks hu.blk (by decide) e1.symm); have q6 := hb6.cell 6; have f6 := hb6.frozen 6)
      go_meet
      have ho7 : w6.ownsRow w1.heap.size 55 5 (.slice (some ⟨g6, 0, none⟩) (p.checks.length + 1) cap6) (p.checks.length + 1) (p.checks.flatMap checkC ++ checkC (⟨4, (i : Int), 0, 0, -1⟩ : PCheck)) := hown6
      have hN := hu.pushCheck ho7 hgrow6
      exact ⟨_, .slice An p.nodes.length cn, .slice Al p.links.length cl, .slice (some ⟨gd, 0, none⟩) p.dests.length cd, .slice (some ⟨g6, 0, none⟩) (p.checks.length + 1) cap6, HE, HS, hN⟩
  case rest =>
    as_aux_lemma =>
    obtain ⟨q, vn, vl, vd, vc, HR, hqs, hq⟩ := hcut
    obtain ⟨Bn, mn, dn, Bl, ml, dl, Bd, md, dd, Bc, mc, dc, rfl, rfl, rfl, rfl⟩ := hq.forms
    have hc0 := hq.pat
    have hd0 := hq.blk
    have hbw := hb1.trans (hq.below.mono hb1.size)
    clear hH0 hq
    have q00 := hd0.cell 0
    have q01 := hd0.cell 1
    have q02 := hd0.cell 2
    have q03 := hd0.cell 3
    have q04 := hd0.cell 4
    have q05 := hd0.cell 5
    have q06 := hd0.cell 6
    go_wp2_with (first
      | (go_at_call 16; (with_reducible refine (Right_is false HR hqs hc1).mono ?_); rintro e w5 ⟨rfl, hb5⟩)
      | (go_at_call 14; (with_reducible refine (Print_bad HR hqs hc0).mono ?_); rintro e w4 ⟨rfl, hb4⟩; have hc1 := hc0.up hb4; have hd1 := hd0.up hb4; have q10 := hd1.cell 0; have q11 := hd1.cell 1; have q12 := hd1.cell 2; have q13 := hd1.cell 3; have q14 := hd1.cell 4; have q15 := hd1.cell 5; have q16 := hd1.cell 6))
    go_ret
    exact ⟨rfl, hbw.trans (((hb4.mono (Nat.le_refl _)).trans (hb5.mono hb4.size)).mono hbw.size)⟩
end Go.Proofs.YtlfapmfhdagikaaDoor
