/-
  Package carry: which routes fit.
-/
import Derived.Deep.DeepCutAuto
import Derived.Test.YtdmilbfdiebjgaaCaA
namespace Go.Proofs.Ytdmilbfdiebjgaa
open Go.RowKit
set_option linter.unusedVariables false
set_option linter.unusedSimpArgs false

theorem RowAt.nodeAt {w : World} {B g : Nat} {l : List PNode} (h : RowAt w B (some ⟨g, 0, none⟩) (l.flatMap nodeC)) {k : Nat} {x : PNode} (hk : l[k]? = some x) : w.cell? ⟨g, k * 2, none⟩ = some (.string x.name) ∧ w.cell? ⟨g, k * 2 + 1, none⟩ = some (.int .i64 x.num) := by
  obtain ⟨g', e, _, h1, h2⟩ := h.node hk
  have e := Option.some.inj e
  injection e with e
  subst e
  exact ⟨h1, h2⟩
theorem RowAt.linkAt {w : World} {B g : Nat} {l : List PLink} (h : RowAt w B (some ⟨g, 0, none⟩) (l.flatMap linkC)) {k : Nat} {x : PLink} (hk : l[k]? = some x) : w.cell? ⟨g, k * 3, none⟩ = some (.int .i64 x.a) ∧ w.cell? ⟨g, k * 3 + 1, none⟩ = some (.int .i64 x.b) ∧ w.cell? ⟨g, k * 3 + 2, none⟩ = some (.int .i64 x.cost) := by
  obtain ⟨g', e, _, h1, h2, h3⟩ := h.link hk
  have e := Option.some.inj e
  injection e with e
  subst e
  exact ⟨h1, h2, h3⟩
/-- A network and a route, each in a box. -/
structure PR (w0 : World) (gp : Nat) (p : PPlan) (An : Option Addr) (cn : Nat) (Al : Option Addr) (cl : Nat) (Ad : Option Addr) (cd : Nat) (Ac : Option Addr) (cc : Nat) (gr : Nat) (r : Rt) (A : Option Addr) (n c : Nat) (w : World) : Prop where
  pb : Blk w gp 29 #[.int .i64 p.proto, .int .i64 p.cap, .int .i64 p.k, .slice An p.nodes.length cn, .slice Al p.links.length cl, .slice Ad p.dests.length cd, .slice Ac p.checks.length cc]
  rb : Blk w gr 42 #[.int .i64 r.kind, .int .i64 r.cost, .slice A n c]
  pat : PAt w p p.proto p.cap p.k An p.nodes.length Al p.links.length Ad p.dests.length Ac p.checks.length
  rat : RtAt w r A n
  up : Below w0.heap.size w0 w
section
variable {w0 w w' : World} {gp gr : Nat} {p : PPlan} {An Al Ad Ac A : Option Addr} {cn cl cd cc n c : Nat} {r : Rt}
theorem PR.go (h : PR w0 gp p An cn Al cl Ad cd Ac cc gr r A n c w) (hb : Below w.heap.size w w') : PR w0 gp p An cn Al cl Ad cd Ac cc gr r A n c w' := ⟨h.pb.up hb, h.rb.up hb, h.pat.up hb, h.rat.on hb, below_on h.up hb⟩
theorem PR.drew (h : PR w0 gp p An cn Al cl Ad cd Ac cc gr r A n c w) : PR w0 gp p An cn Al cl Ad cd Ac cc gr r A n c w.drew := h.go ((Below.refl _ _).drew)
theorem PR.alloc (h : PR w0 gp p An cn Al cl Ad cd Ac cc gr r A n c w) (o : Obj) : PR w0 gp p An cn Al cl Ad cd Ac cc gr r A n c (w.alloc o) := h.go (below_new _ _)
theorem PR.new (h : PAt w p p.proto p.cap p.k An p.nodes.length Al p.links.length Ad p.dests.length Ac p.checks.length) (hr : RtAt w r A n) : PR w w.heap.size p An cn Al cl Ad cd Ac cc (w.heap.size + 1) r A n c ((w.alloc (.cells #[.int .i64 p.proto, .int .i64 p.cap, .int .i64 p.k, .slice An p.nodes.length cn, .slice Al p.links.length cl, .slice Ad p.dests.length cd, .slice Ac p.checks.length cc] 29)).alloc (.cells #[.int .i64 r.kind, .int .i64 r.cost, .slice A n c] 42)) :=
  ⟨(Blk.new w _ _).alloc _, by simpa using Blk.new (w.alloc (.cells #[.int .i64 p.proto, .int .i64 p.cap, .int .i64 p.k, .slice An p.nodes.length cn, .slice Al p.links.length cl, .slice Ad p.dests.length cd, .slice Ac p.checks.length cc] 29)) 42 #[.int .i64 r.kind, .int .i64 r.cost, .slice A n c], h.up (below_2 w _ _), hr.on (below_2 w _ _), below_2 w _ _⟩
theorem PR.cells (h : PR w0 gp p An cn Al cl Ad cd Ac cc gr r A n c w) : (w.cell? ⟨gp, 0, none⟩ = some (.int .i64 p.proto) ∧ w.cell? ⟨gp, 1, none⟩ = some (.int .i64 p.cap) ∧ w.cell? ⟨gp, 2, none⟩ = some (.int .i64 p.k) ∧ w.cell? ⟨gp, 3, none⟩ = some (.slice An p.nodes.length cn) ∧ w.cell? ⟨gp, 4, none⟩ = some (.slice Al p.links.length cl) ∧ w.cell? ⟨gp, 5, none⟩ = some (.slice Ad p.dests.length cd) ∧ w.cell? ⟨gp, 6, none⟩ = some (.slice Ac p.checks.length cc)) ∧
    w.cell? ⟨gr, 0, none⟩ = some (.int .i64 r.kind) ∧ w.cell? ⟨gr, 1, none⟩ = some (.int .i64 r.cost) ∧ w.cell? ⟨gr, 2, none⟩ = some (.slice A n c) := ⟨box7 h.pb, h.rb.cell 0, h.rb.cell 1, h.rb.cell 2⟩
end
set_option maxHeartbeats 8000000 in
set_option maxRecDepth 100000 in
theorem caFits_any (p : PPlan) (i : Nat) (nd : PNode) (hnd : p.nodes[i]? = some nd) (r : Rt) {An Al Ad Ac A : Option Addr} {cn cl cd cc n c : Nat} {w : World} (h : PAt w p p.proto p.cap p.k An p.nodes.length Al p.links.length Ad p.dests.length Ac p.checks.length) (hs : PSmall p) (hr : RtAt w r A n) (hl : n ≤ c) (hc : c ≤ 9223372036854775807) :
    Calls Try.prog 56 #[.agg #[.int .i64 p.proto, .int .i64 p.cap, .int .i64 p.k, .slice An p.nodes.length cn, .slice Al p.links.length cl, .slice Ad p.dests.length cd, .slice Ac p.checks.length cc], .int .i64 (i : Nat), .agg #[.int .i64 r.kind, .int .i64 r.cost, .slice A n c]] w fun e w' => e = .returned (.bool (fitB p nd.num r)) ∧ Below w.heap.size w w' := by
  obtain ⟨g, rfl, _, _, _⟩ := h.nodes.node hnd
  have HND := Lib.hid hnd
  have hil := (List.getElem?_eq_some_iff.1 hnd).1
  have i0 : (0 : Int) ≤ (i : Int) := by omega
  have i1 : (i : Int) < (p.nodes.length : Int) := by omega
  have hn63 : p.nodes.length ≤ 9223372036854775807 := by have := hs.ln; omega
  have E0 := PR.new (c := c) (cn := cn) (cl := cl) (cd := cd) (cc := cc) h hr
  have E1 := E0.drew
  obtain ⟨⟨a0, a1, a2, a3, a4, a5, a6⟩, b0, b1, b2⟩ := E0.cells
  obtain ⟨n0, n1⟩ := RowAt.nodeAt E0.pat.nodes HND.out
  obtain ⟨b, hb⟩ : ∃ b, rtRight r = b := ⟨_, rfl⟩
  have HB := Lib.hid hb
  cases b
  · have HR : Hid (false = fitB p nd.num r) := Lib.hid (by unfold fitB; rw [hb]; rfl)
    clear hb hnd h hr
    go_enter Try.func56, Try.ntmps56
    go_upto_region 1 with fail
    refine wp_region_held_drew (S := (fun w' => (w'.cell? ⟨w.heap.size, 0, none⟩ = some (.int .i64 p.proto) ∧ w'.cell? ⟨w.heap.size, 1, none⟩ = some (.int .i64 p.cap) ∧ w'.cell? ⟨w.heap.size, 2, none⟩ = some (.int .i64 p.k) ∧ w'.cell? ⟨w.heap.size, 3, none⟩ = some (.slice (some ⟨g, 0, none⟩) p.nodes.length cn) ∧ w'.cell? ⟨w.heap.size, 4, none⟩ = some (.slice Al p.links.length cl) ∧ w'.cell? ⟨w.heap.size, 5, none⟩ = some (.slice Ad p.dests.length cd) ∧ w'.cell? ⟨w.heap.size, 6, none⟩ = some (.slice Ac p.checks.length cc)) ∧ (w'.cell? ⟨w.heap.size + 1, 0, none⟩ = some (.int .i64 r.kind) ∧ w'.cell? ⟨w.heap.size + 1, 1, none⟩ = some (.int .i64 r.cost) ∧ w'.cell? ⟨w.heap.size + 1, 2, none⟩ = some (.slice A n c)) ∧ w'.cell? ⟨g, i * 2, none⟩ = some (.string nd.name) ∧ w'.cell? ⟨g, i * 2 + 1, none⟩ = some (.int .i64 nd.num))) (by kernel_rfl) (by go_keep) (fun hHeld => ?_)
    refine wpAnyH_take (i := 0) (oi := ?o1) (v := ?v1) ?h1 ?s1 ?f1 ?c1 ?q1 ?y1 hHeld ?r1
    case h1 => (simp only [List.getElem?_toArray, List.getElem?_cons_succ, List.getElem?_cons_zero]; rfl)
    case s1 => kernel_rfl
    case f1 => kernel_rfl
    case c1 => kernel_rfl
    case y1 => (refine Or.inl ⟨by rfl, ?_⟩; intro w hSw; (try dsimp only at hSw); go_simp; (try with_reducible rfl))
    case q1 => exact fun _ _ _ h => h
    try simp only [Act.put, List.setIfInBounds_toArray, List.set_cons_zero, List.set_cons_succ]
    refine wpAnyH_ready (rs := [1]) (by kernel_rfl) (by simp) ?_
    refine AllReadyH.cons rfl (fun K hK => ?_) ?n2
    case n2 => exact AllReadyH.nil
    go_simp
    (go_at_call 75; (with_reducible refine (atRight_is r false HB E1.rat hl hc).mono ?_); rintro e y1 ⟨rfl, hy1⟩; replace E1 := E1.go hy1; obtain ⟨⟨a0, a1, a2, a3, a4, a5, a6⟩, b0, b1, b2⟩ := E1.cells; obtain ⟨n0, n1⟩ := RowAt.nodeAt E1.pat.nodes HND.out)
    go_wp2_with fail
    refine hK.out _ _ (by go_keep) (fun hHeld => ?_)
    clear hK
    try simp only [Act.put, List.setIfInBounds_toArray, List.set_cons_zero, List.set_cons_succ]
    refine wpAnyH_take (i := 2) (oi := ?o3) (v := ?v3) ?h3 ?s3 ?f3 ?c3 ?q3 ?y3 hHeld ?r3
    case h3 => (simp only [List.getElem?_toArray, List.getElem?_cons_succ, List.getElem?_cons_zero]; rfl)
    case s3 => kernel_rfl
    case f3 => kernel_rfl
    case c3 => kernel_rfl
    case y3 => (refine Or.inl ⟨by rfl, ?_⟩; intro w hSw; (try dsimp only at hSw); go_simp; (try with_reducible rfl))
    case q3 => exact fun _ _ _ h => h
    try simp only [Act.put, List.setIfInBounds_toArray, List.set_cons_zero, List.set_cons_succ]
    refine wpAnyH_take (i := 3) (oi := ?o4) (v := undef) ?h4 ?s4 ?f4 ?c4 ?q4 ?y4 hHeld ?r4
    case h4 => (simp only [List.getElem?_toArray, List.getElem?_cons_succ, List.getElem?_cons_zero]; rfl)
    case s4 => kernel_rfl
    case f4 => kernel_rfl
    case c4 => kernel_rfl
    case y4 => exact Or.inr ⟨by rfl, rfl⟩
    case q4 => exact fun _ _ _ h => h
    try simp only [Act.put, List.setIfInBounds_toArray, List.set_cons_zero, List.set_cons_succ]
    refine wpAnyH_take (i := 4) (oi := ?o5) (v := undef) ?h5 ?s5 ?f5 ?c5 ?q5 ?y5 hHeld ?r5
    case h5 => (simp only [List.getElem?_toArray, List.getElem?_cons_succ, List.getElem?_cons_zero]; rfl)
    case s5 => kernel_rfl
    case f5 => kernel_rfl
    case c5 => kernel_rfl
    case y5 => exact Or.inr ⟨by rfl, rfl⟩
    case q5 => exact fun _ _ _ h => h
    try simp only [Act.put, List.setIfInBounds_toArray, List.set_cons_zero, List.set_cons_succ]
    refine wpAnyH_take (i := 5) (oi := ?o6) (v := undef) ?h6 ?s6 ?f6 ?c6 ?q6 ?y6 hHeld ?r6
    case h6 => (simp only [List.getElem?_toArray, List.getElem?_cons_succ, List.getElem?_cons_zero]; rfl)
    case s6 => kernel_rfl
    case f6 => kernel_rfl
    case c6 => kernel_rfl
    case y6 => exact Or.inr ⟨by rfl, rfl⟩
    case q6 => exact fun _ _ _ h => h
    try simp only [Act.put, List.setIfInBounds_toArray, List.set_cons_zero, List.set_cons_succ]
    refine wpAnyH_take (i := 6) (oi := ?o7) (v := undef) ?h7 ?s7 ?f7 ?c7 ?q7 ?y7 hHeld ?r7
    case h7 => (simp only [List.getElem?_toArray, List.getElem?_cons_succ, List.getElem?_cons_zero]; rfl)
    case s7 => kernel_rfl
    case f7 => kernel_rfl
    case c7 => kernel_rfl
    case y7 => exact Or.inr ⟨by rfl, rfl⟩
    case q7 => exact fun _ _ _ h => h
    try simp only [Act.put, List.setIfInBounds_toArray, List.set_cons_zero, List.set_cons_succ]
    refine wpAnyH_take (i := 7) (oi := ?o8) (v := undef) ?h8 ?s8 ?f8 ?c8 ?q8 ?y8 hHeld ?r8
    case h8 => (simp only [List.getElem?_toArray, List.getElem?_cons_succ, List.getElem?_cons_zero]; rfl)
    case s8 => kernel_rfl
    case f8 => kernel_rfl
    case c8 => kernel_rfl
    case y8 => exact Or.inr ⟨by rfl, rfl⟩
    case q8 => exact fun _ _ _ h => h
    try simp only [Act.put, List.setIfInBounds_toArray, List.set_cons_zero, List.set_cons_succ]
    refine wpAnyH_take (i := 8) (oi := ?o9) (v := undef) ?h9 ?s9 ?f9 ?c9 ?q9 ?y9 hHeld ?r9
    case h9 => (simp only [List.getElem?_toArray, List.getElem?_cons_succ, List.getElem?_cons_zero]; rfl)
    case s9 => kernel_rfl
    case f9 => kernel_rfl
    case c9 => kernel_rfl
    case y9 => exact Or.inr ⟨by rfl, rfl⟩
    case q9 => exact fun _ _ _ h => h
    try simp only [Act.put, List.setIfInBounds_toArray, List.set_cons_zero, List.set_cons_succ]
    refine wpAnyH_take (i := 9) (oi := ?o10) (v := undef) ?h10 ?s10 ?f10 ?c10 ?q10 ?y10 hHeld ?r10
    case h10 => (simp only [List.getElem?_toArray, List.getElem?_cons_succ, List.getElem?_cons_zero]; rfl)
    case s10 => kernel_rfl
    case f10 => kernel_rfl
    case c10 => kernel_rfl
    case y10 => exact Or.inr ⟨by rfl, rfl⟩
    case q10 => exact fun _ _ _ h => h
    try simp only [Act.put, List.setIfInBounds_toArray, List.set_cons_zero, List.set_cons_succ]
    refine wpAnyH_take (i := 10) (oi := ?o11) (v := undef) ?h11 ?s11 ?f11 ?c11 ?q11 ?y11 hHeld ?r11
    case h11 => (simp only [List.getElem?_toArray, List.getElem?_cons_succ, List.getElem?_cons_zero]; rfl)
    case s11 => kernel_rfl
    case f11 => kernel_rfl
    case c11 => kernel_rfl
    case y11 => exact Or.inr ⟨by rfl, rfl⟩
    case q11 => exact fun _ _ _ h => h
    try simp only [Act.put, List.setIfInBounds_toArray, List.set_cons_zero, List.set_cons_succ]
    refine wpAnyH_take (i := 11) (oi := ?o12) (v := undef) ?h12 ?s12 ?f12 ?c12 ?q12 ?y12 hHeld ?r12
    case h12 => (simp only [List.getElem?_toArray, List.getElem?_cons_succ, List.getElem?_cons_zero]; rfl)
    case s12 => kernel_rfl
    case f12 => kernel_rfl
    case c12 => kernel_rfl
    case y12 => exact Or.inr ⟨by rfl, rfl⟩
    case q12 => exact fun _ _ _ h => h
    try simp only [Act.put, List.setIfInBounds_toArray, List.set_cons_zero, List.set_cons_succ]
    refine wpAnyH_take (i := 12) (oi := ?o13) (v := undef) ?h13 ?s13 ?f13 ?c13 ?q13 ?y13 hHeld ?r13
    case h13 => (simp only [List.getElem?_toArray, List.getElem?_cons_succ, List.getElem?_cons_zero]; rfl)
    case s13 => kernel_rfl
    case f13 => kernel_rfl
    case c13 => kernel_rfl
    case y13 => exact Or.inr ⟨by rfl, rfl⟩
    case q13 => exact fun _ _ _ h => h
    try simp only [Act.put, List.setIfInBounds_toArray, List.set_cons_zero, List.set_cons_succ]
    refine wpAnyH_take (i := 13) (oi := ?o14) (v := undef) ?h14 ?s14 ?f14 ?c14 ?q14 ?y14 hHeld ?r14
    case h14 => (simp only [List.getElem?_toArray, List.getElem?_cons_succ, List.getElem?_cons_zero]; rfl)
    case s14 => kernel_rfl
    case f14 => kernel_rfl
    case c14 => kernel_rfl
    case y14 => exact Or.inr ⟨by rfl, rfl⟩
    case q14 => exact fun _ _ _ h => h
    try simp only [Act.put, List.setIfInBounds_toArray, List.set_cons_zero, List.set_cons_succ]
    refine wpAnyH_take (i := 14) (oi := ?o15) (v := undef) ?h15 ?s15 ?f15 ?c15 ?q15 ?y15 hHeld ?r15
    case h15 => (simp only [List.getElem?_toArray, List.getElem?_cons_succ, List.getElem?_cons_zero]; rfl)
    case s15 => kernel_rfl
    case f15 => kernel_rfl
    case c15 => kernel_rfl
    case y15 => exact Or.inr ⟨by rfl, rfl⟩
    case q15 => exact fun _ _ _ h => h
    try simp only [Act.put, List.setIfInBounds_toArray, List.set_cons_zero, List.set_cons_succ]
    refine wpAnyH_take (i := 15) (oi := ?o16) (v := undef) ?h16 ?s16 ?f16 ?c16 ?q16 ?y16 hHeld ?r16
    case h16 => (simp only [List.getElem?_toArray, List.getElem?_cons_succ, List.getElem?_cons_zero]; rfl)
    case s16 => kernel_rfl
    case f16 => kernel_rfl
    case c16 => kernel_rfl
    case y16 => exact Or.inr ⟨by rfl, rfl⟩
    case q16 => exact fun _ _ _ h => h
    try simp only [Act.put, List.setIfInBounds_toArray, List.set_cons_zero, List.set_cons_succ]
    refine wpAnyH_take (i := 16) (oi := ?o17) (v := undef) ?h17 ?s17 ?f17 ?c17 ?q17 ?y17 hHeld ?r17
    case h17 => (simp only [List.getElem?_toArray, List.getElem?_cons_succ, List.getElem?_cons_zero]; rfl)
    case s17 => kernel_rfl
    case f17 => kernel_rfl
    case c17 => kernel_rfl
    case y17 => exact Or.inr ⟨by rfl, rfl⟩
    case q17 => exact fun _ _ _ h => h
    try simp only [Act.put, List.setIfInBounds_toArray, List.set_cons_zero, List.set_cons_succ]
    refine wpAnyH_take (i := 17) (oi := ?o18) (v := undef) ?h18 ?s18 ?f18 ?c18 ?q18 ?y18 hHeld ?r18
    case h18 => (simp only [List.getElem?_toArray, List.getElem?_cons_succ, List.getElem?_cons_zero]; rfl)
    case s18 => kernel_rfl
    case f18 => kernel_rfl
    case c18 => kernel_rfl
    case y18 => exact Or.inr ⟨by rfl, rfl⟩
    case q18 => exact fun _ _ _ h => h
    try simp only [Act.put, List.setIfInBounds_toArray, List.set_cons_zero, List.set_cons_succ]
    refine wpAnyH_take (i := 18) (oi := ?o19) (v := undef) ?h19 ?s19 ?f19 ?c19 ?q19 ?y19 hHeld ?r19
    case h19 => (simp only [List.getElem?_toArray, List.getElem?_cons_succ, List.getElem?_cons_zero]; rfl)
    case s19 => kernel_rfl
    case f19 => kernel_rfl
    case c19 => kernel_rfl
    case y19 => exact Or.inr ⟨by rfl, rfl⟩
    case q19 => exact fun _ _ _ h => h
    try simp only [Act.put, List.setIfInBounds_toArray, List.set_cons_zero, List.set_cons_succ]
    refine wpAnyH_take (i := 19) (oi := ?o20) (v := undef) ?h20 ?s20 ?f20 ?c20 ?q20 ?y20 hHeld ?r20
    case h20 => (simp only [List.getElem?_toArray, List.getElem?_cons_succ, List.getElem?_cons_zero]; rfl)
    case s20 => kernel_rfl
    case f20 => kernel_rfl
    case c20 => kernel_rfl
    case y20 => exact Or.inr ⟨by rfl, rfl⟩
    case q20 => exact fun _ _ _ h => h
    try simp only [Act.put, List.setIfInBounds_toArray, List.set_cons_zero, List.set_cons_succ]
    refine wpAnyH_take (i := 20) (oi := ?o21) (v := ?v21) ?h21 ?s21 ?f21 ?c21 ?q21 ?y21 hHeld ?r21
    case h21 => (simp only [List.getElem?_toArray, List.getElem?_cons_succ, List.getElem?_cons_zero]; rfl)
    case s21 => kernel_rfl
    case f21 => kernel_rfl
    case c21 => kernel_rfl
    case y21 => (refine Or.inl ⟨by rfl, ?_⟩; intro w hSw; (try dsimp only at hSw); go_simp; (try with_reducible rfl))
    case q21 => exact fun _ _ _ h => h
    try simp only [Act.put, List.setIfInBounds_toArray, List.set_cons_zero, List.set_cons_succ]
    refine wpAnyH_take (i := 21) (oi := ?o22) (v := ?v22) ?h22 ?s22 ?f22 ?c22 ?q22 ?y22 hHeld ?r22
    case h22 => (simp only [List.getElem?_toArray, List.getElem?_cons_succ, List.getElem?_cons_zero]; rfl)
    case s22 => kernel_rfl
    case f22 => kernel_rfl
    case c22 => kernel_rfl
    case y22 => (refine Or.inl ⟨by rfl, ?_⟩; intro w hSw; (try dsimp only at hSw); go_simp; (try with_reducible rfl))
    case q22 => exact fun _ _ _ h => h
    try simp only [Act.put, List.setIfInBounds_toArray, List.set_cons_zero, List.set_cons_succ]
    refine wpAnyH_done (by kernel_rfl) ?_ _
    repeat go_step
    go_ret
    exact ⟨ret_bool HR.out, E1.up⟩
  · by_cases hk : r.kind = 0
    · have t0 : (r.kind == 0) = true := by simpa using hk
      have HR : Hid (true = fitB p nd.num r) := Lib.hid (by unfold fitB; rw [hb, decide_eq_true hk]; rfl)
      clear hb hnd h hr hk
      go_enter Try.func56, Try.ntmps56
      go_upto_region 1 with fail
      refine wp_region_held_drew (S := (fun w' => (w'.cell? ⟨w.heap.size, 0, none⟩ = some (.int .i64 p.proto) ∧ w'.cell? ⟨w.heap.size, 1, none⟩ = some (.int .i64 p.cap) ∧ w'.cell? ⟨w.heap.size, 2, none⟩ = some (.int .i64 p.k) ∧ w'.cell? ⟨w.heap.size, 3, none⟩ = some (.slice (some ⟨g, 0, none⟩) p.nodes.length cn) ∧ w'.cell? ⟨w.heap.size, 4, none⟩ = some (.slice Al p.links.length cl) ∧ w'.cell? ⟨w.heap.size, 5, none⟩ = some (.slice Ad p.dests.length cd) ∧ w'.cell? ⟨w.heap.size, 6, none⟩ = some (.slice Ac p.checks.length cc)) ∧ (w'.cell? ⟨w.heap.size + 1, 0, none⟩ = some (.int .i64 r.kind) ∧ w'.cell? ⟨w.heap.size + 1, 1, none⟩ = some (.int .i64 r.cost) ∧ w'.cell? ⟨w.heap.size + 1, 2, none⟩ = some (.slice A n c)) ∧ w'.cell? ⟨g, i * 2, none⟩ = some (.string nd.name) ∧ w'.cell? ⟨g, i * 2 + 1, none⟩ = some (.int .i64 nd.num))) (by kernel_rfl) (by go_keep) (fun hHeld => ?_)
      refine wpAnyH_take (i := 0) (oi := ?o23) (v := ?v23) ?h23 ?s23 ?f23 ?c23 ?q23 ?y23 hHeld ?r23
      case h23 => (simp only [List.getElem?_toArray, List.getElem?_cons_succ, List.getElem?_cons_zero]; rfl)
      case s23 => kernel_rfl
      case f23 => kernel_rfl
      case c23 => kernel_rfl
      case y23 => (refine Or.inl ⟨by rfl, ?_⟩; intro w hSw; (try dsimp only at hSw); go_simp; (try with_reducible rfl))
      case q23 => exact fun _ _ _ h => h
      try simp only [Act.put, List.setIfInBounds_toArray, List.set_cons_zero, List.set_cons_succ]
      refine wpAnyH_ready (rs := [1]) (by kernel_rfl) (by simp) ?_
      refine AllReadyH.cons rfl (fun K hK => ?_) ?n24
      case n24 => exact AllReadyH.nil
      go_simp
      (go_at_call 75; (with_reducible refine (atRight_is r true HB E1.rat hl hc).mono ?_); rintro e y1 ⟨rfl, hy1⟩; replace E1 := E1.go hy1; obtain ⟨⟨a0, a1, a2, a3, a4, a5, a6⟩, b0, b1, b2⟩ := E1.cells; obtain ⟨n0, n1⟩ := RowAt.nodeAt E1.pat.nodes HND.out)
      go_wp2_with fail
      refine hK.out _ _ (by go_keep) (fun hHeld => ?_)
      clear hK
      try simp only [Act.put, List.setIfInBounds_toArray, List.set_cons_zero, List.set_cons_succ]
      refine wpAnyH_take (i := 2) (oi := ?o25) (v := ?v25) ?h25 ?s25 ?f25 ?c25 ?q25 ?y25 hHeld ?r25
      case h25 => (simp only [List.getElem?_toArray, List.getElem?_cons_succ, List.getElem?_cons_zero]; rfl)
      case s25 => kernel_rfl
      case f25 => kernel_rfl
      case c25 => kernel_rfl
      case y25 => (refine Or.inl ⟨by rfl, ?_⟩; intro w hSw; (try dsimp only at hSw); go_simp; (try with_reducible rfl))
      case q25 => exact fun _ _ _ h => h
      try simp only [Act.put, List.setIfInBounds_toArray, List.set_cons_zero, List.set_cons_succ]
      refine wpAnyH_take (i := 3) (oi := ?o26) (v := ?v26) ?h26 ?s26 ?f26 ?c26 ?q26 ?y26 hHeld ?r26
      case h26 => (simp only [List.getElem?_toArray, List.getElem?_cons_succ, List.getElem?_cons_zero]; rfl)
      case s26 => kernel_rfl
      case f26 => kernel_rfl
      case c26 => kernel_rfl
      case y26 => (refine Or.inl ⟨by rfl, ?_⟩; intro w hSw; (try dsimp only at hSw); go_simp; (try with_reducible rfl))
      case q26 => exact fun _ _ _ h => h
      try simp only [Act.put, List.setIfInBounds_toArray, List.set_cons_zero, List.set_cons_succ]
      refine wpAnyH_take (i := 4) (oi := ?o27) (v := ?v27) ?h27 ?s27 ?f27 ?c27 ?q27 ?y27 hHeld ?r27
      case h27 => (simp only [List.getElem?_toArray, List.getElem?_cons_succ, List.getElem?_cons_zero]; rfl)
      case s27 => kernel_rfl
      case f27 => kernel_rfl
      case c27 => kernel_rfl
      case y27 => (refine Or.inl ⟨by rfl, ?_⟩; intro w hSw; (try dsimp only at hSw); go_simp; (try with_reducible rfl))
      case q27 => exact fun _ _ _ h => h
      try simp only [Act.put, List.setIfInBounds_toArray, List.set_cons_zero, List.set_cons_succ]
      refine wpAnyH_take (i := 5) (oi := ?o28) (v := ?v28) ?h28 ?s28 ?f28 ?c28 ?q28 ?y28 hHeld ?r28
      case h28 => (simp only [List.getElem?_toArray, List.getElem?_cons_succ, List.getElem?_cons_zero]; rfl)
      case s28 => kernel_rfl
      case f28 => kernel_rfl
      case c28 => kernel_rfl
      case y28 => (refine Or.inl ⟨by rfl, ?_⟩; intro w hSw; (try dsimp only at hSw); go_simp; (try with_reducible rfl))
      case q28 => exact fun _ _ _ h => h
      try simp only [Act.put, List.setIfInBounds_toArray, List.set_cons_zero, List.set_cons_succ]
      refine wpAnyH_take (i := 6) (oi := ?o29) (v := ?v29) ?h29 ?s29 ?f29 ?c29 ?q29 ?y29 hHeld ?r29
      case h29 => (simp only [List.getElem?_toArray, List.getElem?_cons_succ, List.getElem?_cons_zero]; rfl)
      case s29 => kernel_rfl
      case f29 => kernel_rfl
      case c29 => kernel_rfl
      case y29 => (refine Or.inl ⟨by rfl, ?_⟩; intro w hSw; (try dsimp only at hSw); go_simp; (try with_reducible rfl))
      case q29 => exact fun _ _ _ h => h
      try simp only [Act.put, List.setIfInBounds_toArray, List.set_cons_zero, List.set_cons_succ]
      refine wpAnyH_take (i := 7) (oi := ?o30) (v := undef) ?h30 ?s30 ?f30 ?c30 ?q30 ?y30 hHeld ?r30
      case h30 => (simp only [List.getElem?_toArray, List.getElem?_cons_succ, List.getElem?_cons_zero]; rfl)
      case s30 => kernel_rfl
      case f30 => kernel_rfl
      case c30 => kernel_rfl
      case y30 => exact Or.inr ⟨by rfl, rfl⟩
      case q30 => exact fun _ _ _ h => h
      try simp only [Act.put, List.setIfInBounds_toArray, List.set_cons_zero, List.set_cons_succ]
      refine wpAnyH_take (i := 8) (oi := ?o31) (v := undef) ?h31 ?s31 ?f31 ?c31 ?q31 ?y31 hHeld ?r31
      case h31 => (simp only [List.getElem?_toArray, List.getElem?_cons_succ, List.getElem?_cons_zero]; rfl)
      case s31 => kernel_rfl
      case f31 => kernel_rfl
      case c31 => kernel_rfl
      case y31 => exact Or.inr ⟨by rfl, rfl⟩
      case q31 => exact fun _ _ _ h => h
      try simp only [Act.put, List.setIfInBounds_toArray, List.set_cons_zero, List.set_cons_succ]
      refine wpAnyH_take (i := 9) (oi := ?o32) (v := undef) ?h32 ?s32 ?f32 ?c32 ?q32 ?y32 hHeld ?r32
      case h32 => (simp only [List.getElem?_toArray, List.getElem?_cons_succ, List.getElem?_cons_zero]; rfl)
      case s32 => kernel_rfl
      case f32 => kernel_rfl
      case c32 => kernel_rfl
      case y32 => exact Or.inr ⟨by rfl, rfl⟩
      case q32 => exact fun _ _ _ h => h
      try simp only [Act.put, List.setIfInBounds_toArray, List.set_cons_zero, List.set_cons_succ]
      refine wpAnyH_take (i := 10) (oi := ?o33) (v := undef) ?h33 ?s33 ?f33 ?c33 ?q33 ?y33 hHeld ?r33
      case h33 => (simp only [List.getElem?_toArray, List.getElem?_cons_succ, List.getElem?_cons_zero]; rfl)
      case s33 => kernel_rfl
      case f33 => kernel_rfl
      case c33 => kernel_rfl
      case y33 => exact Or.inr ⟨by rfl, rfl⟩
      case q33 => exact fun _ _ _ h => h
      try simp only [Act.put, List.setIfInBounds_toArray, List.set_cons_zero, List.set_cons_succ]
      refine wpAnyH_take (i := 11) (oi := ?o34) (v := undef) ?h34 ?s34 ?f34 ?c34 ?q34 ?y34 hHeld ?r34
      case h34 => (simp only [List.getElem?_toArray, List.getElem?_cons_succ, List.getElem?_cons_zero]; rfl)
      case s34 => kernel_rfl
      case f34 => kernel_rfl
      case c34 => kernel_rfl
      case y34 => exact Or.inr ⟨by rfl, rfl⟩
      case q34 => exact fun _ _ _ h => h
      try simp only [Act.put, List.setIfInBounds_toArray, List.set_cons_zero, List.set_cons_succ]
      refine wpAnyH_take (i := 12) (oi := ?o35) (v := undef) ?h35 ?s35 ?f35 ?c35 ?q35 ?y35 hHeld ?r35
      case h35 => (simp only [List.getElem?_toArray, List.getElem?_cons_succ, List.getElem?_cons_zero]; rfl)
      case s35 => kernel_rfl
      case f35 => kernel_rfl
      case c35 => kernel_rfl
      case y35 => exact Or.inr ⟨by rfl, rfl⟩
      case q35 => exact fun _ _ _ h => h
      try simp only [Act.put, List.setIfInBounds_toArray, List.set_cons_zero, List.set_cons_succ]
      refine wpAnyH_take (i := 13) (oi := ?o36) (v := undef) ?h36 ?s36 ?f36 ?c36 ?q36 ?y36 hHeld ?r36
      case h36 => (simp only [List.getElem?_toArray, List.getElem?_cons_succ, List.getElem?_cons_zero]; rfl)
      case s36 => kernel_rfl
      case f36 => kernel_rfl
      case c36 => kernel_rfl
      case y36 => exact Or.inr ⟨by rfl, rfl⟩
      case q36 => exact fun _ _ _ h => h
      try simp only [Act.put, List.setIfInBounds_toArray, List.set_cons_zero, List.set_cons_succ]
      refine wpAnyH_take (i := 14) (oi := ?o37) (v := undef) ?h37 ?s37 ?f37 ?c37 ?q37 ?y37 hHeld ?r37
      case h37 => (simp only [List.getElem?_toArray, List.getElem?_cons_succ, List.getElem?_cons_zero]; rfl)
      case s37 => kernel_rfl
      case f37 => kernel_rfl
      case c37 => kernel_rfl
      case y37 => exact Or.inr ⟨by rfl, rfl⟩
      case q37 => exact fun _ _ _ h => h
      try simp only [Act.put, List.setIfInBounds_toArray, List.set_cons_zero, List.set_cons_succ]
      refine wpAnyH_take (i := 15) (oi := ?o38) (v := undef) ?h38 ?s38 ?f38 ?c38 ?q38 ?y38 hHeld ?r38
      case h38 => (simp only [List.getElem?_toArray, List.getElem?_cons_succ, List.getElem?_cons_zero]; rfl)
      case s38 => kernel_rfl
      case f38 => kernel_rfl
      case c38 => kernel_rfl
      case y38 => exact Or.inr ⟨by rfl, rfl⟩
      case q38 => exact fun _ _ _ h => h
      try simp only [Act.put, List.setIfInBounds_toArray, List.set_cons_zero, List.set_cons_succ]
      refine wpAnyH_take (i := 16) (oi := ?o39) (v := undef) ?h39 ?s39 ?f39 ?c39 ?q39 ?y39 hHeld ?r39
      case h39 => (simp only [List.getElem?_toArray, List.getElem?_cons_succ, List.getElem?_cons_zero]; rfl)
      case s39 => kernel_rfl
      case f39 => kernel_rfl
      case c39 => kernel_rfl
      case y39 => exact Or.inr ⟨by rfl, rfl⟩
      case q39 => exact fun _ _ _ h => h
      try simp only [Act.put, List.setIfInBounds_toArray, List.set_cons_zero, List.set_cons_succ]
      refine wpAnyH_take (i := 17) (oi := ?o40) (v := undef) ?h40 ?s40 ?f40 ?c40 ?q40 ?y40 hHeld ?r40
      case h40 => (simp only [List.getElem?_toArray, List.getElem?_cons_succ, List.getElem?_cons_zero]; rfl)
      case s40 => kernel_rfl
      case f40 => kernel_rfl
      case c40 => kernel_rfl
      case y40 => exact Or.inr ⟨by rfl, rfl⟩
      case q40 => exact fun _ _ _ h => h
      try simp only [Act.put, List.setIfInBounds_toArray, List.set_cons_zero, List.set_cons_succ]
      refine wpAnyH_take (i := 18) (oi := ?o41) (v := undef) ?h41 ?s41 ?f41 ?c41 ?q41 ?y41 hHeld ?r41
      case h41 => (simp only [List.getElem?_toArray, List.getElem?_cons_succ, List.getElem?_cons_zero]; rfl)
      case s41 => kernel_rfl
      case f41 => kernel_rfl
      case c41 => kernel_rfl
      case y41 => exact Or.inr ⟨by rfl, rfl⟩
      case q41 => exact fun _ _ _ h => h
      try simp only [Act.put, List.setIfInBounds_toArray, List.set_cons_zero, List.set_cons_succ]
      refine wpAnyH_take (i := 19) (oi := ?o42) (v := ?v42) ?h42 ?s42 ?f42 ?c42 ?q42 ?y42 hHeld ?r42
      case h42 => (simp only [List.getElem?_toArray, List.getElem?_cons_succ, List.getElem?_cons_zero]; rfl)
      case s42 => kernel_rfl
      case f42 => kernel_rfl
      case c42 => kernel_rfl
      case y42 => (refine Or.inl ⟨by rfl, ?_⟩; intro w hSw; (try dsimp only at hSw); go_simp; (try with_reducible rfl))
      case q42 => exact fun _ _ _ h => h
      try simp only [Act.put, List.setIfInBounds_toArray, List.set_cons_zero, List.set_cons_succ]
      refine wpAnyH_take (i := 20) (oi := ?o43) (v := ?v43) ?h43 ?s43 ?f43 ?c43 ?q43 ?y43 hHeld ?r43
      case h43 => (simp only [List.getElem?_toArray, List.getElem?_cons_succ, List.getElem?_cons_zero]; rfl)
      case s43 => kernel_rfl
      case f43 => kernel_rfl
      case c43 => kernel_rfl
      case y43 => (refine Or.inl ⟨by rfl, ?_⟩; intro w hSw; (try dsimp only at hSw); go_simp; (try with_reducible rfl))
      case q43 => exact fun _ _ _ h => h
      try simp only [Act.put, List.setIfInBounds_toArray, List.set_cons_zero, List.set_cons_succ]
      refine wpAnyH_take (i := 21) (oi := ?o44) (v := ?v44) ?h44 ?s44 ?f44 ?c44 ?q44 ?y44 hHeld ?r44
      case h44 => (simp only [List.getElem?_toArray, List.getElem?_cons_succ, List.getElem?_cons_zero]; rfl)
      case s44 => kernel_rfl
      case f44 => kernel_rfl
      case c44 => kernel_rfl
      case y44 => (refine Or.inl ⟨by rfl, ?_⟩; intro w hSw; (try dsimp only at hSw); go_simp; (try with_reducible rfl))
      case q44 => exact fun _ _ _ h => h
      try simp only [Act.put, List.setIfInBounds_toArray, List.set_cons_zero, List.set_cons_succ]
      refine wpAnyH_done (by kernel_rfl) ?_ _
      repeat go_step
      go_ret
      exact ⟨ret_bool HR.out, E1.up⟩
    · have t0 : (r.kind == 0) = false := by simpa using hk
      obtain ⟨v, hv⟩ : ∃ v, holdsB p nd.num r = v := ⟨_, rfl⟩
      have HR : Hid (v = fitB p nd.num r) := Lib.hid (by unfold fitB; rw [hb, decide_eq_false hk, hv]; rfl)
      unfold holdsB at hv
      by_cases hp : p.proto = 2
      · rw [if_pos hp] at hv
        have HV := Lib.hid hv
        have HP := Lib.hid hp
        clear hb hnd h hr hk hv hp
        have m1 : ∀ (k : Nat) (w : World), (method (k + 1) 99 (.agg #[.int .i64 p.cap]) "backstay/carry.fits").run Try.prog w = .ok (118, .agg #[.int .i64 p.cap]) w := fun _ _ => by kernel_rfl
        have m2 : ∀ (k : Nat) (w : World), (nilAhead (k + 1) 99 (.agg #[.int .i64 p.cap]) "backstay/carry.fits").run Try.prog w = .ok (some false) w := fun _ _ => by kernel_rfl
        go_enter Try.func56, Try.ntmps56
        go_upto_region 1 with fail
        go_region_held3 (fun w' => (w'.cell? ⟨w.heap.size, 0, none⟩ = some (.int .i64 p.proto) ∧ w'.cell? ⟨w.heap.size, 1, none⟩ = some (.int .i64 p.cap) ∧ w'.cell? ⟨w.heap.size, 2, none⟩ = some (.int .i64 p.k) ∧ w'.cell? ⟨w.heap.size, 3, none⟩ = some (.slice (some ⟨g, 0, none⟩) p.nodes.length cn) ∧ w'.cell? ⟨w.heap.size, 4, none⟩ = some (.slice Al p.links.length cl) ∧ w'.cell? ⟨w.heap.size, 5, none⟩ = some (.slice Ad p.dests.length cd) ∧ w'.cell? ⟨w.heap.size, 6, none⟩ = some (.slice Ac p.checks.length cc)) ∧ (w'.cell? ⟨w.heap.size + 1, 0, none⟩ = some (.int .i64 r.kind) ∧ w'.cell? ⟨w.heap.size + 1, 1, none⟩ = some (.int .i64 r.cost) ∧ w'.cell? ⟨w.heap.size + 1, 2, none⟩ = some (.slice A n c)) ∧ w'.cell? ⟨g, i * 2, none⟩ = some (.string nd.name) ∧ w'.cell? ⟨g, i * 2 + 1, none⟩ = some (.int .i64 nd.num)) (go_keep) (first
          | (go_at_call 75; (with_reducible refine (atRight_is r true HB E1.rat hl hc).mono ?_); rintro e y1 ⟨rfl, hy1⟩; replace E1 := E1.go hy1; obtain ⟨⟨a0, a1, a2, a3, a4, a5, a6⟩, b0, b1, b2⟩ := E1.cells; obtain ⟨n0, n1⟩ := RowAt.nodeAt E1.pat.nodes HND.out)
          | (go_at_call 53; (with_reducible refine (protocolOf_pth HP.out _).mono ?_); rintro e y2 ⟨rfl, hy2⟩; replace E1 := E1.go hy2; obtain ⟨⟨a0, a1, a2, a3, a4, a5, a6⟩, b0, b1, b2⟩ := E1.cells; obtain ⟨n0, n1⟩ := RowAt.nodeAt E1.pat.nodes HND.out)
          | (go_at_call 118; (with_reducible refine (pth_fits p.cap nd r _ E1.rat v HV).mono ?_); rintro e y3 ⟨rfl, hy3⟩; replace E1 := E1.go hy3; obtain ⟨⟨a0, a1, a2, a3, a4, a5, a6⟩, b0, b1, b2⟩ := E1.cells; obtain ⟨n0, n1⟩ := RowAt.nodeAt E1.pat.nodes HND.out))
        go_step
        go_wp2_with fail
        go_ret
        exact ⟨ret_bool HR.out, E1.up⟩
      · rw [if_neg hp] at hv
        have HV := Lib.hid hv
        have HP := Lib.hid hp
        clear hb hnd h hr hk hv hp
        have m1 : ∀ (k : Nat) (w : World), (method (k + 1) 101 (.agg #[]) "backstay/carry.fits").run Try.prog w = .ok (121, .agg #[]) w := fun _ _ => by kernel_rfl
        have m2 : ∀ (k : Nat) (w : World), (nilAhead (k + 1) 101 (.agg #[]) "backstay/carry.fits").run Try.prog w = .ok (some false) w := fun _ _ => by kernel_rfl
        go_enter Try.func56, Try.ntmps56
        go_upto_region 1 with fail
        go_region_held3 (fun w' => (w'.cell? ⟨w.heap.size, 0, none⟩ = some (.int .i64 p.proto) ∧ w'.cell? ⟨w.heap.size, 1, none⟩ = some (.int .i64 p.cap) ∧ w'.cell? ⟨w.heap.size, 2, none⟩ = some (.int .i64 p.k) ∧ w'.cell? ⟨w.heap.size, 3, none⟩ = some (.slice (some ⟨g, 0, none⟩) p.nodes.length cn) ∧ w'.cell? ⟨w.heap.size, 4, none⟩ = some (.slice Al p.links.length cl) ∧ w'.cell? ⟨w.heap.size, 5, none⟩ = some (.slice Ad p.dests.length cd) ∧ w'.cell? ⟨w.heap.size, 6, none⟩ = some (.slice Ac p.checks.length cc)) ∧ (w'.cell? ⟨w.heap.size + 1, 0, none⟩ = some (.int .i64 r.kind) ∧ w'.cell? ⟨w.heap.size + 1, 1, none⟩ = some (.int .i64 r.cost) ∧ w'.cell? ⟨w.heap.size + 1, 2, none⟩ = some (.slice A n c)) ∧ w'.cell? ⟨g, i * 2, none⟩ = some (.string nd.name) ∧ w'.cell? ⟨g, i * 2 + 1, none⟩ = some (.int .i64 nd.num)) (go_keep) (first
          | (go_at_call 75; (with_reducible refine (atRight_is r true HB E1.rat hl hc).mono ?_); rintro e y1 ⟨rfl, hy1⟩; replace E1 := E1.go hy1; obtain ⟨⟨a0, a1, a2, a3, a4, a5, a6⟩, b0, b1, b2⟩ := E1.cells; obtain ⟨n0, n1⟩ := RowAt.nodeAt E1.pat.nodes HND.out)
          | (go_at_call 53; (with_reducible refine (protocolOf_vec HP.out _).mono ?_); rintro e y2 ⟨rfl, hy2⟩; replace E1 := E1.go hy2; obtain ⟨⟨a0, a1, a2, a3, a4, a5, a6⟩, b0, b1, b2⟩ := E1.cells; obtain ⟨n0, n1⟩ := RowAt.nodeAt E1.pat.nodes HND.out)
          | (go_at_call 121; (with_reducible refine (vec_fits nd r _ v HV).mono ?_); rintro e y3 ⟨rfl, hy3⟩; replace E1 := E1.go hy3; obtain ⟨⟨a0, a1, a2, a3, a4, a5, a6⟩, b0, b1, b2⟩ := E1.cells; obtain ⟨n0, n1⟩ := RowAt.nodeAt E1.pat.nodes HND.out))
        go_step
        go_wp2_with fail
        go_ret
        exact ⟨ret_bool HR.out, E1.up⟩
end Go.Proofs.Ytdmilbfdiebjgaa
