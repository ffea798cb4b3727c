/-
  GraphFewer: the walk.
-/
import Derived.Deep.RegionHeld3
import Derived.Test.YtponlhgkgmlihaaGraphTurnsW
namespace Go.Proofs.Ytponlhgkgmlihaa
open Go.RowKit
set_option linter.unusedVariables false
set_option linter.unusedSimpArgs false

theorem filter_le {p q : Nat → Bool} {l : List Nat} (h : ∀ x ∈ l, p x = true → q x = true) : (l.filter p).length ≤ (l.filter q).length := by
  rw [← List.countP_eq_length_filter, ← List.countP_eq_length_filter]
  exact List.countP_mono_left h
theorem hasB_or2 (f : Int) (n i : Nat) (hi : i < 16) : hasB (bits .or .i64 f (n : Int)) (i : Int) = (hasB f (i : Int) || hasB (n : Int) (i : Int)) := by
  rw [hasB_clean _ _ hi, hasB_clean _ _ hi, hasB_clean _ _ hi, cleanB_or, Nat.testBit_or]
theorem hasB_big (f : Int) {i : Nat} (hi : ¬ i < 16) : hasB f (i : Int) = false := by
  unfold hasB
  simp
  omega
/-- More links have failed. -/
def MoreF (x y : Int) : Prop := ∀ i : Nat, hasB y (i : Int) = false → hasB x (i : Int) = false
theorem moreF_or (x : Int) (n : Nat) : MoreF x (bits .or .i64 x (n : Int)) := fun i h => by
  by_cases hi : i < 16
  · rw [hasB_or2 _ _ _ hi] at h
    simp at h
    exact h.1
  · exact hasB_big x hi
theorem adj_more {p : PPlan} {x y : Int} (h : MoreF x y) (u v : Nat) (ha : adjB p y u v = true) : adjB p x u v = true := by
  obtain ⟨i, l, h1, h2, h3⟩ := adj_links.1 ha
  exact adj_links.2 ⟨i, l, h1, h i h2, h3⟩
theorem dist_more {p : PPlan} (hg : GPlan p) {x y : Int} (h : MoreF x y) {a : Nat} (ha : a < p.nodes.length) (b : Nat) : distB (adjB p y) p.nodes.length a b < 0 ∨ 0 ≤ distB (adjB p x) p.nodes.length a b ∧ distB (adjB p x) p.nodes.length a b ≤ distB (adjB p y) p.nodes.length a b := by
  by_cases h0 : distB (adjB p y) p.nodes.length a b < 0
  · exact .inl h0
  · have h1 := dist_to (gok hg y) ha (Int.not_lt.1 h0)
    have h2 := ball_sub (N := p.nodes.length) (s := a) (adj_more h) _ h1
    have h3 := dist_le (gok hg x) ha h2
    exact .inr (by omega)
theorem reach_more {p : PPlan} (hg : GPlan p) {x y : Int} (h : MoreF x y) {a : Nat} (ha : a < p.nodes.length) : (reachB p y (a : Int)).length ≤ (reachB p x (a : Int)).length := by
  unfold reachB
  rw [show isNodeB p.nodes.length (a : Int) = true by unfold isNodeB; simp [ha]]
  refine filter_le fun v _ hv => ?_
  rw [Int.toNat_natCast] at hv ⊢
  simp at hv ⊢
  have := dist_in (adjB p y) p.nodes.length a v
  rcases dist_more hg h ha v with h1 | h1 <;> omega
theorem around_more {p : PPlan} {x y : Int} (h : MoreF x y) (a : Int) : (aroundB p y a).length ≤ (aroundB p x a).length := by
  refine filter_le fun i _ hi => ?_
  unfold arB at hi ⊢
  cases hl : p.links[i]? with
  | none => rw [hl] at hi; cases hi
  | some l =>
    rw [hl] at hi
    simp at hi ⊢
    exact ⟨hi.1, h i hi.2⟩
set_option maxHeartbeats 4000000 in
set_option maxRecDepth 100000 in
theorem graphFewer_walk (A : Option Addr) (c : Nat) (l : List Int) (hwf : ∀ v ∈ l, InI v) (hm : l.length ≤ 9223372036854775807) (hc : l.length ≤ c) (hcm : c ≤ 9223372036854775807) (f0 : Int) (hf0 : InI f0) (g0 : Int) (hg0 : InI g0) (a0 : Int) (ha0 : InI a0) (b0 : Int) (hb0 : InI b0) (w : World) (hA : CellsAt w w.heap.size A (l.map (Value.int .i64))) :
    Calls Try.prog 5 #[.slice A l.length c, .int .i64 f0, .int .i64 g0, .int .i64 a0, .int .i64 b0] w fun e w' => e = .returned (.bool true) ∧ Below w.heap.size w w' := by
  obtain ⟨p, hp⟩ : ∃ p, netOf l = p := ⟨_, rfl⟩
  have hk := netOk l
  rw [hp] at hk
  have HP := Lib.hid hp
  have HM := Lib.hid hwf
  clear hp hwf
  obtain ⟨n, hn⟩ : ∃ n, l.length = n := ⟨_, rfl⟩
  rw [hn] at hm hc ⊢
  have HLEN := Lib.hid hn
  clear hn
  have hn1 := hk.nodes1
  have hg := gplan_right hk.right.out
  obtain ⟨f, hf, hfl⟩ := pickN_nat f0 512 (by omega)
  have Pf := Lib.hid (show pickN f0 512 = (f : Int) from hf)
  clear hf
  obtain ⟨g, hg, hgl⟩ := pickN_nat g0 512 (by omega)
  have Pg := Lib.hid (show pickN g0 512 = (g : Int) from hg)
  clear hg
  obtain ⟨a, ha, han⟩ := pickN_nat a0 p.nodes.length (by omega)
  have Pa := Lib.hid ha
  clear ha
  obtain ⟨b, hb, hbn⟩ := pickN_nat b0 p.nodes.length (by omega)
  have Pb := Lib.hid hb
  clear hb
  obtain ⟨y, hy⟩ : ∃ y, bits .or .i64 (f : Int) (g : Int) = y := ⟨_, rfl⟩
  have hmore : MoreF f y := by rw [← hy]; exact moreF_or _ _
  have HY := Lib.hid hy
  obtain ⟨near, hnear⟩ : ∃ v, distB (adjB p f) p.nodes.length a b = v := ⟨_, rfl⟩
  obtain ⟨far, hfar⟩ : ∃ v, distB (adjB p y) p.nodes.length a b = v := ⟨_, rfl⟩
  have f1 := dist_more hg hmore han b
  rw [hnear, hfar] at f1
  have f2 := dist_in (adjB p f) p.nodes.length a b
  have f3 := dist_in (adjB p y) p.nodes.length a b
  rw [hnear] at f2
  rw [hfar] at f3
  have HN := Lib.hid ((hops_nat (f := f) han hbn).trans hnear)
  have HF := Lib.hid ((hops_nat (f := y) han hbn).trans hfar)
  obtain ⟨ry, hry⟩ : ∃ v, (reachB p y (a : Int)).length = v := ⟨_, rfl⟩
  obtain ⟨rx, hrx⟩ : ∃ v, (reachB p f (a : Int)).length = v := ⟨_, rfl⟩
  obtain ⟨ay, hay⟩ : ∃ v, (aroundB p y (a : Int)).length = v := ⟨_, rfl⟩
  obtain ⟨ax, hax⟩ : ∃ v, (aroundB p f (a : Int)).length = v := ⟨_, rfl⟩
  have f4 := reach_more hg hmore han
  have f5 := around_more (p := p) hmore (a : Int)
  rw [hry, hrx] at f4
  rw [hay, hax] at f5
  have HRY := Lib.hid hry
  have HRX := Lib.hid hrx
  have HAY := Lib.hid hay
  have HAX := Lib.hid hax
  clear hy hnear hfar hry hrx hay hax hmore
  have g4 : (ry : Int) ≤ (rx : Int) := by omega
  have g5 : (ay : Int) ≤ (ax : Int) := by omega
  go_enter Try.func5, Try.ntmps5
  go_upto_region 8 with (first
    | (go_at_call 10; refine (awake5_any _).mono ?_; rintro e w1 ⟨rfl, hb1⟩; have hA1 := (hA.below hb1).more hb1.size)
    | (go_at_call 11; refine (Net_at p l HP A n c HLEN.out HM.out hm hc hcm _ hA1).mono ?_; rintro e w2 ⟨An, cn, Al, cl, Ad, cd, Ac, cc, rfl, ho, hb2⟩; have h0 := PBox.new hb1 hb2 ho; obtain ⟨q0, q1, q2, q3, q4, q5, q6⟩ := h0.cells)
    | (go_at_call 13; (with_reducible refine (pick5_is f0 512 f hf0 (by omega) (by omega) Pf _).mono ?_); rintro e w3 ⟨rfl, rfl⟩)
    | (go_at_call 13; (with_reducible refine (pick5_is g0 512 g hg0 (by omega) (by omega) Pg _).mono ?_); rintro e w3 ⟨rfl, rfl⟩)
    | (go_at_call 13; (with_reducible refine (pick5_is a0 _ a ha0 (by omega) (by omega) Pa _).mono ?_); rintro e w3 ⟨rfl, rfl⟩)
    | (go_at_call 13; (with_reducible refine (pick5_is b0 _ b hb0 (by omega) (by omega) Pb _).mono ?_); rintro e w3 ⟨rfl, rfl⟩))
  rw [HY.out]
  clear HY
  go_upto_region 10 with (first
    | (go_at_call 21; (with_reducible refine (Hops_ok y a b far HF hk.right hk.small h1.at_).mono ?_); rintro e w4 ⟨rfl, hb4⟩; have h2 := h1.go hb4; obtain ⟨q0, q1, q2, q3, q4, q5, q6⟩ := h2.cells)
    | (go_at_call 21; (with_reducible refine (Hops_ok f a b near HN hk.right hk.small h0.at_).mono ?_); rintro e w4 ⟨rfl, hb4⟩; have h1 := h0.go hb4; obtain ⟨q0, q1, q2, q3, q4, q5, q6⟩ := h1.cells))
  have h2d := h2.go ((Below.refl _ _).drew)
  by_cases hfar : far < 0
  · have b1 : (decide (far < 0)) = true := by simp [hfar]
    refine wp_region_held_drew (S := (fun w' => w'.cell? ⟨w2.heap.size, 0, none⟩ = some (.int .i64 p.proto) ∧ w'.cell? ⟨w2.heap.size, 1, none⟩ = some (.int .i64 p.cap) ∧ w'.cell? ⟨w2.heap.size, 2, none⟩ = some (.int .i64 p.k) ∧ w'.cell? ⟨w2.heap.size, 3, none⟩ = some (.slice An p.nodes.length cn) ∧ w'.cell? ⟨w2.heap.size, 4, none⟩ = some (.slice Al p.links.length cl) ∧ w'.cell? ⟨w2.heap.size, 5, none⟩ = some (.slice Ad p.dests.length cd) ∧ w'.cell? ⟨w2.heap.size, 6, none⟩ = some (.slice Ac p.checks.length cc))) (by kernel_rfl) (by go_keep) (fun hHeld => ?_)
    refine wpAnyH_take (i := 0) (oi := ?o1) (v := ?v1) ?h1 ?s1 ?f1 ?c1 ?q1 ?y1 hHeld ?r1
    case h1 => (simp only [List.getElem?_toArray, List.getElem?_cons_succ, List.getElem?_cons_zero]; rfl)
    case s1 => kernel_rfl
    case f1 => kernel_rfl
    case c1 => kernel_rfl
    case y1 => (refine Or.inl ⟨by rfl, ?_⟩; intro w hSw; (try dsimp only at hSw); go_simp; (try with_reducible rfl))
    case q1 => exact fun _ _ _ h => h
    try simp only [Act.put, List.setIfInBounds_toArray, List.set_cons_zero, List.set_cons_succ]
    refine wpAnyH_take (i := 1) (oi := ?o2) (v := ?v2) ?h2 ?s2 ?f2 ?c2 ?q2 ?y2 hHeld ?r2
    case h2 => (simp only [List.getElem?_toArray, List.getElem?_cons_succ, List.getElem?_cons_zero]; rfl)
    case s2 => kernel_rfl
    case f2 => kernel_rfl
    case c2 => kernel_rfl
    case y2 => (refine Or.inl ⟨by rfl, ?_⟩; intro w hSw; (try dsimp only at hSw); go_simp; (try with_reducible rfl))
    case q2 => exact fun _ _ _ h => h
    try simp only [Act.put, List.setIfInBounds_toArray, List.set_cons_zero, List.set_cons_succ]
    refine wpAnyH_take (i := 2) (oi := ?o3) (v := ?v3) ?h3 ?s3 ?f3 ?c3 ?q3 ?y3 hHeld ?r3
    case h3 => (simp only [List.getElem?_toArray, List.getElem?_cons_succ, List.getElem?_cons_zero]; rfl)
    case s3 => kernel_rfl
    case f3 => kernel_rfl
    case c3 => kernel_rfl
    case y3 => (refine Or.inl ⟨by rfl, ?_⟩; intro w hSw; (try dsimp only at hSw); go_simp; (try with_reducible rfl))
    case q3 => exact fun _ _ _ h => h
    try simp only [Act.put, List.setIfInBounds_toArray, List.set_cons_zero, List.set_cons_succ]
    refine wpAnyH_take (i := 3) (oi := ?o4) (v := ?v4) ?h4 ?s4 ?f4 ?c4 ?q4 ?y4 hHeld ?r4
    case h4 => (simp only [List.getElem?_toArray, List.getElem?_cons_succ, List.getElem?_cons_zero]; rfl)
    case s4 => kernel_rfl
    case f4 => kernel_rfl
    case c4 => kernel_rfl
    case y4 => (refine Or.inl ⟨by rfl, ?_⟩; intro w hSw; (try dsimp only at hSw); go_simp; (try with_reducible rfl))
    case q4 => exact fun _ _ _ h => h
    try simp only [Act.put, List.setIfInBounds_toArray, List.set_cons_zero, List.set_cons_succ]
    refine wpAnyH_take (i := 4) (oi := ?o5) (v := ?v5) ?h5 ?s5 ?f5 ?c5 ?q5 ?y5 hHeld ?r5
    case h5 => (simp only [List.getElem?_toArray, List.getElem?_cons_succ, List.getElem?_cons_zero]; rfl)
    case s5 => kernel_rfl
    case f5 => kernel_rfl
    case c5 => kernel_rfl
    case y5 => (refine Or.inl ⟨by rfl, ?_⟩; intro w hSw; (try dsimp only at hSw); go_simp; (try with_reducible rfl))
    case q5 => exact fun _ _ _ h => h
    try simp only [Act.put, List.setIfInBounds_toArray, List.set_cons_zero, List.set_cons_succ]
    refine wpAnyH_take (i := 5) (oi := ?o6) (v := undef) ?h6 ?s6 ?f6 ?c6 ?q6 ?y6 hHeld ?r6
    case h6 => (simp only [List.getElem?_toArray, List.getElem?_cons_succ, List.getElem?_cons_zero]; rfl)
    case s6 => kernel_rfl
    case f6 => kernel_rfl
    case c6 => kernel_rfl
    case y6 => exact Or.inr ⟨by rfl, rfl⟩
    case q6 => exact fun _ _ _ h => h
    try simp only [Act.put, List.setIfInBounds_toArray, List.set_cons_zero, List.set_cons_succ]
    refine wpAnyH_take (i := 6) (oi := ?o7) (v := undef) ?h7 ?s7 ?f7 ?c7 ?q7 ?y7 hHeld ?r7
    case h7 => (simp only [List.getElem?_toArray, List.getElem?_cons_succ, List.getElem?_cons_zero]; rfl)
    case s7 => kernel_rfl
    case f7 => kernel_rfl
    case c7 => kernel_rfl
    case y7 => exact Or.inr ⟨by rfl, rfl⟩
    case q7 => exact fun _ _ _ h => h
    try simp only [Act.put, List.setIfInBounds_toArray, List.set_cons_zero, List.set_cons_succ]
    refine wpAnyH_take (i := 7) (oi := ?o8) (v := undef) ?h8 ?s8 ?f8 ?c8 ?q8 ?y8 hHeld ?r8
    case h8 => (simp only [List.getElem?_toArray, List.getElem?_cons_succ, List.getElem?_cons_zero]; rfl)
    case s8 => kernel_rfl
    case f8 => kernel_rfl
    case c8 => kernel_rfl
    case y8 => exact Or.inr ⟨by rfl, rfl⟩
    case q8 => exact fun _ _ _ h => h
    try simp only [Act.put, List.setIfInBounds_toArray, List.set_cons_zero, List.set_cons_succ]
    refine wpAnyH_take (i := 8) (oi := ?o9) (v := undef) ?h9 ?s9 ?f9 ?c9 ?q9 ?y9 hHeld ?r9
    case h9 => (simp only [List.getElem?_toArray, List.getElem?_cons_succ, List.getElem?_cons_zero]; rfl)
    case s9 => kernel_rfl
    case f9 => kernel_rfl
    case c9 => kernel_rfl
    case y9 => exact Or.inr ⟨by rfl, rfl⟩
    case q9 => exact fun _ _ _ h => h
    try simp only [Act.put, List.setIfInBounds_toArray, List.set_cons_zero, List.set_cons_succ]
    refine wpAnyH_take (i := 9) (oi := ?o10) (v := undef) ?h10 ?s10 ?f10 ?c10 ?q10 ?y10 hHeld ?r10
    case h10 => (simp only [List.getElem?_toArray, List.getElem?_cons_succ, List.getElem?_cons_zero]; rfl)
    case s10 => kernel_rfl
    case f10 => kernel_rfl
    case c10 => kernel_rfl
    case y10 => exact Or.inr ⟨by rfl, rfl⟩
    case q10 => exact fun _ _ _ h => h
    try simp only [Act.put, List.setIfInBounds_toArray, List.set_cons_zero, List.set_cons_succ]
    refine wpAnyH_take (i := 10) (oi := ?o11) (v := undef) ?h11 ?s11 ?f11 ?c11 ?q11 ?y11 hHeld ?r11
    case h11 => (simp only [List.getElem?_toArray, List.getElem?_cons_succ, List.getElem?_cons_zero]; rfl)
    case s11 => kernel_rfl
    case f11 => kernel_rfl
    case c11 => kernel_rfl
    case y11 => exact Or.inr ⟨by rfl, rfl⟩
    case q11 => exact fun _ _ _ h => h
    try simp only [Act.put, List.setIfInBounds_toArray, List.set_cons_zero, List.set_cons_succ]
    refine wpAnyH_take (i := 11) (oi := ?o12) (v := undef) ?h12 ?s12 ?f12 ?c12 ?q12 ?y12 hHeld ?r12
    case h12 => (simp only [List.getElem?_toArray, List.getElem?_cons_succ, List.getElem?_cons_zero]; rfl)
    case s12 => kernel_rfl
    case f12 => kernel_rfl
    case c12 => kernel_rfl
    case y12 => exact Or.inr ⟨by rfl, rfl⟩
    case q12 => exact fun _ _ _ h => h
    try simp only [Act.put, List.setIfInBounds_toArray, List.set_cons_zero, List.set_cons_succ]
    refine wpAnyH_take (i := 12) (oi := ?o13) (v := ?v13) ?h13 ?s13 ?f13 ?c13 ?q13 ?y13 hHeld ?r13
    case h13 => (simp only [List.getElem?_toArray, List.getElem?_cons_succ, List.getElem?_cons_zero]; rfl)
    case s13 => kernel_rfl
    case f13 => kernel_rfl
    case c13 => kernel_rfl
    case y13 => (refine Or.inl ⟨by rfl, ?_⟩; intro w hSw; (try dsimp only at hSw); go_simp; (try with_reducible rfl))
    case q13 => exact fun _ _ _ h => h
    try simp only [Act.put, List.setIfInBounds_toArray, List.set_cons_zero, List.set_cons_succ]
    refine wpAnyH_take (i := 13) (oi := ?o14) (v := ?v14) ?h14 ?s14 ?f14 ?c14 ?q14 ?y14 hHeld ?r14
    case h14 => (simp only [List.getElem?_toArray, List.getElem?_cons_succ, List.getElem?_cons_zero]; rfl)
    case s14 => kernel_rfl
    case f14 => kernel_rfl
    case c14 => kernel_rfl
    case y14 => (refine Or.inl ⟨by rfl, ?_⟩; intro w hSw; (try dsimp only at hSw); go_simp; (try with_reducible rfl))
    case q14 => exact fun _ _ _ h => h
    try simp only [Act.put, List.setIfInBounds_toArray, List.set_cons_zero, List.set_cons_succ]
    refine wpAnyH_take (i := 14) (oi := ?o15) (v := ?v15) ?h15 ?s15 ?f15 ?c15 ?q15 ?y15 hHeld ?r15
    case h15 => (simp only [List.getElem?_toArray, List.getElem?_cons_succ, List.getElem?_cons_zero]; rfl)
    case s15 => kernel_rfl
    case f15 => kernel_rfl
    case c15 => kernel_rfl
    case y15 => (refine Or.inl ⟨by rfl, ?_⟩; intro w hSw; (try dsimp only at hSw); go_simp; (try with_reducible rfl))
    case q15 => exact fun _ _ _ h => h
    try simp only [Act.put, List.setIfInBounds_toArray, List.set_cons_zero, List.set_cons_succ]
    refine wpAnyH_take (i := 15) (oi := ?o16) (v := ?v16) ?h16 ?s16 ?f16 ?c16 ?q16 ?y16 hHeld ?r16
    case h16 => (simp only [List.getElem?_toArray, List.getElem?_cons_succ, List.getElem?_cons_zero]; rfl)
    case s16 => kernel_rfl
    case f16 => kernel_rfl
    case c16 => kernel_rfl
    case y16 => (refine Or.inl ⟨by rfl, ?_⟩; intro w hSw; (try dsimp only at hSw); go_simp; (try with_reducible rfl))
    case q16 => exact fun _ _ _ h => h
    try simp only [Act.put, List.setIfInBounds_toArray, List.set_cons_zero, List.set_cons_succ]
    refine wpAnyH_take (i := 16) (oi := ?o17) (v := ?v17) ?h17 ?s17 ?f17 ?c17 ?q17 ?y17 hHeld ?r17
    case h17 => (simp only [List.getElem?_toArray, List.getElem?_cons_succ, List.getElem?_cons_zero]; rfl)
    case s17 => kernel_rfl
    case f17 => kernel_rfl
    case c17 => kernel_rfl
    case y17 => (refine Or.inl ⟨by rfl, ?_⟩; intro w hSw; (try dsimp only at hSw); go_simp; (try with_reducible rfl))
    case q17 => exact fun _ _ _ h => h
    try simp only [Act.put, List.setIfInBounds_toArray, List.set_cons_zero, List.set_cons_succ]
    refine wpAnyH_take (i := 17) (oi := ?o18) (v := ?v18) ?h18 ?s18 ?f18 ?c18 ?q18 ?y18 hHeld ?r18
    case h18 => (simp only [List.getElem?_toArray, List.getElem?_cons_succ, List.getElem?_cons_zero]; rfl)
    case s18 => kernel_rfl
    case f18 => kernel_rfl
    case c18 => kernel_rfl
    case y18 => (refine Or.inl ⟨by rfl, ?_⟩; intro w hSw; (try dsimp only at hSw); go_simp; (try with_reducible rfl))
    case q18 => exact fun _ _ _ h => h
    try simp only [Act.put, List.setIfInBounds_toArray, List.set_cons_zero, List.set_cons_succ]
    refine wpAnyH_take (i := 20) (oi := ?o19) (v := ?v19) ?h19 ?s19 ?f19 ?c19 ?q19 ?y19 hHeld ?r19
    case h19 => (simp only [List.getElem?_toArray, List.getElem?_cons_succ, List.getElem?_cons_zero]; rfl)
    case s19 => kernel_rfl
    case f19 => kernel_rfl
    case c19 => kernel_rfl
    case y19 => (refine Or.inl ⟨by rfl, ?_⟩; intro w hSw; (try dsimp only at hSw); go_simp; (try with_reducible rfl))
    case q19 => exact fun _ _ _ h => h
    try simp only [Act.put, List.setIfInBounds_toArray, List.set_cons_zero, List.set_cons_succ]
    refine wpAnyH_take (i := 21) (oi := ?o20) (v := ?v20) ?h20 ?s20 ?f20 ?c20 ?q20 ?y20 hHeld ?r20
    case h20 => (simp only [List.getElem?_toArray, List.getElem?_cons_succ, List.getElem?_cons_zero]; rfl)
    case s20 => kernel_rfl
    case f20 => kernel_rfl
    case c20 => kernel_rfl
    case y20 => (refine Or.inl ⟨by rfl, ?_⟩; intro w hSw; (try dsimp only at hSw); go_simp; (try with_reducible rfl))
    case q20 => exact fun _ _ _ h => h
    try simp only [Act.put, List.setIfInBounds_toArray, List.set_cons_zero, List.set_cons_succ]
    refine wpAnyH_take (i := 22) (oi := ?o21) (v := ?v21) ?h21 ?s21 ?f21 ?c21 ?q21 ?y21 hHeld ?r21
    case h21 => (simp only [List.getElem?_toArray, List.getElem?_cons_succ, List.getElem?_cons_zero]; rfl)
    case s21 => kernel_rfl
    case f21 => kernel_rfl
    case c21 => kernel_rfl
    case y21 => (refine Or.inl ⟨by rfl, ?_⟩; intro w hSw; (try dsimp only at hSw); go_simp; (try with_reducible rfl))
    case q21 => exact fun _ _ _ h => h
    try simp only [Act.put, List.setIfInBounds_toArray, List.set_cons_zero, List.set_cons_succ]
    refine wpAnyH_ready (rs := [18]) (by kernel_rfl) (by simp) ?_
    refine AllReadyH.cons rfl (fun K hK => ?_) ?n22
    case n22 => exact AllReadyH.nil
    go_simp
    (go_at_call 19; (with_reducible refine (Reach_ok y a _ ry (Lib.hid rfl) HRY hk.right hk.small h2d.at_).mono ?_); rintro e w5 ⟨A5, c5, rfl, _, hb5⟩; have h3 := h2d.go hb5; obtain ⟨q0, q1, q2, q3, q4, q5, q6⟩ := h3.cells)
    go_wp2_with fail
    refine hK.out _ _ (by go_keep) (fun hHeld => ?_)
    clear hK
    try simp only [Act.put, List.setIfInBounds_toArray, List.set_cons_zero, List.set_cons_succ]
    refine wpAnyH_take (i := 19) (oi := ?o23) (v := ?v23) ?h23 ?s23 ?f23 ?c23 ?q23 ?y23 hHeld ?r23
    case h23 => (simp only [List.getElem?_toArray, List.getElem?_cons_succ, List.getElem?_cons_zero]; rfl)
    case s23 => kernel_rfl
    case f23 => kernel_rfl
    case c23 => kernel_rfl
    case y23 => (refine Or.inl ⟨by rfl, ?_⟩; intro w hSw; (try dsimp only at hSw); go_simp; (try with_reducible rfl))
    case q23 => exact fun _ _ _ h => h
    try simp only [Act.put, List.setIfInBounds_toArray, List.set_cons_zero, List.set_cons_succ]
    refine wpAnyH_ready (rs := [23]) (by kernel_rfl) (by simp) ?_
    refine AllReadyH.cons rfl (fun K hK => ?_) ?n24
    case n24 => exact AllReadyH.nil
    go_simp
    (go_at_call 19; (with_reducible refine (Reach_ok f a _ rx (Lib.hid rfl) HRX hk.right hk.small h3.at_).mono ?_); rintro e w6 ⟨A6, c6, rfl, _, hb6⟩; have h4 := h3.go hb6; obtain ⟨q0, q1, q2, q3, q4, q5, q6⟩ := h4.cells)
    go_wp2_with fail
    refine hK.out _ _ (by go_keep) (fun hHeld => ?_)
    clear hK
    try simp only [Act.put, List.setIfInBounds_toArray, List.set_cons_zero, List.set_cons_succ]
    refine wpAnyH_take (i := 24) (oi := ?o25) (v := ?v25) ?h25 ?s25 ?f25 ?c25 ?q25 ?y25 hHeld ?r25
    case h25 => (simp only [List.getElem?_toArray, List.getElem?_cons_succ, List.getElem?_cons_zero]; rfl)
    case s25 => kernel_rfl
    case f25 => kernel_rfl
    case c25 => kernel_rfl
    case y25 => (refine Or.inl ⟨by rfl, ?_⟩; intro w hSw; (try dsimp only at hSw); go_simp; (try with_reducible rfl))
    case q25 => exact fun _ _ _ h => h
    try simp only [Act.put, List.setIfInBounds_toArray, List.set_cons_zero, List.set_cons_succ]
    refine wpAnyH_take (i := 25) (oi := ?o26) (v := ?v26) ?h26 ?s26 ?f26 ?c26 ?q26 ?y26 hHeld ?r26
    case h26 => (simp only [List.getElem?_toArray, List.getElem?_cons_succ, List.getElem?_cons_zero]; rfl)
    case s26 => kernel_rfl
    case f26 => kernel_rfl
    case c26 => kernel_rfl
    case y26 => (refine Or.inl ⟨by rfl, ?_⟩; intro w hSw; (try dsimp only at hSw); go_simp; (try with_reducible rfl))
    case q26 => exact fun _ _ _ h => h
    try simp only [Act.put, List.setIfInBounds_toArray, List.set_cons_zero, List.set_cons_succ]
    refine wpAnyH_take (i := 26) (oi := ?o27) (v := ?v27) ?h27 ?s27 ?f27 ?c27 ?q27 ?y27 hHeld ?r27
    case h27 => (simp only [List.getElem?_toArray, List.getElem?_cons_succ, List.getElem?_cons_zero]; rfl)
    case s27 => kernel_rfl
    case f27 => kernel_rfl
    case c27 => kernel_rfl
    case y27 => (refine Or.inl ⟨by rfl, ?_⟩; intro w hSw; (try dsimp only at hSw); go_simp; (try with_reducible rfl))
    case q27 => exact fun _ _ _ h => h
    try simp only [Act.put, List.setIfInBounds_toArray, List.set_cons_zero, List.set_cons_succ]
    refine wpAnyH_take (i := 27) (oi := ?o28) (v := ?v28) ?h28 ?s28 ?f28 ?c28 ?q28 ?y28 hHeld ?r28
    case h28 => (simp only [List.getElem?_toArray, List.getElem?_cons_succ, List.getElem?_cons_zero]; rfl)
    case s28 => kernel_rfl
    case f28 => kernel_rfl
    case c28 => kernel_rfl
    case y28 => (refine Or.inl ⟨by rfl, ?_⟩; intro w hSw; (try dsimp only at hSw); go_simp; (try with_reducible rfl))
    case q28 => exact fun _ _ _ h => h
    try simp only [Act.put, List.setIfInBounds_toArray, List.set_cons_zero, List.set_cons_succ]
    refine wpAnyH_take (i := 28) (oi := ?o29) (v := ?v29) ?h29 ?s29 ?f29 ?c29 ?q29 ?y29 hHeld ?r29
    case h29 => (simp only [List.getElem?_toArray, List.getElem?_cons_succ, List.getElem?_cons_zero]; rfl)
    case s29 => kernel_rfl
    case f29 => kernel_rfl
    case c29 => kernel_rfl
    case y29 => (refine Or.inl ⟨by rfl, ?_⟩; intro w hSw; (try dsimp only at hSw); go_simp; (try with_reducible rfl))
    case q29 => exact fun _ _ _ h => h
    try simp only [Act.put, List.setIfInBounds_toArray, List.set_cons_zero, List.set_cons_succ]
    refine wpAnyH_take (i := 29) (oi := ?o30) (v := ?v30) ?h30 ?s30 ?f30 ?c30 ?q30 ?y30 hHeld ?r30
    case h30 => (simp only [List.getElem?_toArray, List.getElem?_cons_succ, List.getElem?_cons_zero]; rfl)
    case s30 => kernel_rfl
    case f30 => kernel_rfl
    case c30 => kernel_rfl
    case y30 => (refine Or.inl ⟨by rfl, ?_⟩; intro w hSw; (try dsimp only at hSw); go_simp; (try with_reducible rfl))
    case q30 => exact fun _ _ _ h => h
    try simp only [Act.put, List.setIfInBounds_toArray, List.set_cons_zero, List.set_cons_succ]
    refine wpAnyH_take (i := 30) (oi := ?o31) (v := ?v31) ?h31 ?s31 ?f31 ?c31 ?q31 ?y31 hHeld ?r31
    case h31 => (simp only [List.getElem?_toArray, List.getElem?_cons_succ, List.getElem?_cons_zero]; rfl)
    case s31 => kernel_rfl
    case f31 => kernel_rfl
    case c31 => kernel_rfl
    case y31 => (refine Or.inl ⟨by rfl, ?_⟩; intro w hSw; (try dsimp only at hSw); go_simp; (try with_reducible rfl))
    case q31 => exact fun _ _ _ h => h
    try simp only [Act.put, List.setIfInBounds_toArray, List.set_cons_zero, List.set_cons_succ]
    refine wpAnyH_take (i := 33) (oi := ?o32) (v := ?v32) ?h32 ?s32 ?f32 ?c32 ?q32 ?y32 hHeld ?r32
    case h32 => (simp only [List.getElem?_toArray, List.getElem?_cons_succ, List.getElem?_cons_zero]; rfl)
    case s32 => kernel_rfl
    case f32 => kernel_rfl
    case c32 => kernel_rfl
    case y32 => (refine Or.inl ⟨by rfl, ?_⟩; intro w hSw; (try dsimp only at hSw); go_simp; (try with_reducible rfl))
    case q32 => exact fun _ _ _ h => h
    try simp only [Act.put, List.setIfInBounds_toArray, List.set_cons_zero, List.set_cons_succ]
    refine wpAnyH_take (i := 34) (oi := ?o33) (v := ?v33) ?h33 ?s33 ?f33 ?c33 ?q33 ?y33 hHeld ?r33
    case h33 => (simp only [List.getElem?_toArray, List.getElem?_cons_succ, List.getElem?_cons_zero]; rfl)
    case s33 => kernel_rfl
    case f33 => kernel_rfl
    case c33 => kernel_rfl
    case y33 => (refine Or.inl ⟨by rfl, ?_⟩; intro w hSw; (try dsimp only at hSw); go_simp; (try with_reducible rfl))
    case q33 => exact fun _ _ _ h => h
    try simp only [Act.put, List.setIfInBounds_toArray, List.set_cons_zero, List.set_cons_succ]
    refine wpAnyH_take (i := 35) (oi := ?o34) (v := ?v34) ?h34 ?s34 ?f34 ?c34 ?q34 ?y34 hHeld ?r34
    case h34 => (simp only [List.getElem?_toArray, List.getElem?_cons_succ, List.getElem?_cons_zero]; rfl)
    case s34 => kernel_rfl
    case f34 => kernel_rfl
    case c34 => kernel_rfl
    case y34 => (refine Or.inl ⟨by rfl, ?_⟩; intro w hSw; (try dsimp only at hSw); go_simp; (try with_reducible rfl))
    case q34 => exact fun _ _ _ h => h
    try simp only [Act.put, List.setIfInBounds_toArray, List.set_cons_zero, List.set_cons_succ]
    refine wpAnyH_ready (rs := [31]) (by kernel_rfl) (by simp) ?_
    refine AllReadyH.cons rfl (fun K hK => ?_) ?n35
    case n35 => exact AllReadyH.nil
    go_simp
    (go_at_call 15; (with_reducible refine (Around_ok y a _ ay (Lib.hid rfl) HAY hk.right hk.small h4.at_).mono ?_); rintro e w7 ⟨A7, c7, rfl, _, hb7⟩; have h5 := h4.go hb7; obtain ⟨q0, q1, q2, q3, q4, q5, q6⟩ := h5.cells)
    go_wp2_with fail
    refine hK.out _ _ (by go_keep) (fun hHeld => ?_)
    clear hK
    try simp only [Act.put, List.setIfInBounds_toArray, List.set_cons_zero, List.set_cons_succ]
    refine wpAnyH_take (i := 32) (oi := ?o36) (v := ?v36) ?h36 ?s36 ?f36 ?c36 ?q36 ?y36 hHeld ?r36
    case h36 => (simp only [List.getElem?_toArray, List.getElem?_cons_succ, List.getElem?_cons_zero]; rfl)
    case s36 => kernel_rfl
    case f36 => kernel_rfl
    case c36 => kernel_rfl
    case y36 => (refine Or.inl ⟨by rfl, ?_⟩; intro w hSw; (try dsimp only at hSw); go_simp; (try with_reducible rfl))
    case q36 => exact fun _ _ _ h => h
    try simp only [Act.put, List.setIfInBounds_toArray, List.set_cons_zero, List.set_cons_succ]
    refine wpAnyH_ready (rs := [36]) (by kernel_rfl) (by simp) ?_
    refine AllReadyH.cons rfl (fun K hK => ?_) ?n37
    case n37 => exact AllReadyH.nil
    go_simp
    (go_at_call 15; (with_reducible refine (Around_ok f a _ ax (Lib.hid rfl) HAX hk.right hk.small h5.at_).mono ?_); rintro e w8 ⟨A8, c8, rfl, _, hb8⟩; have h6 := h5.go hb8; obtain ⟨q0, q1, q2, q3, q4, q5, q6⟩ := h6.cells)
    go_wp2_with fail
    refine hK.out _ _ (by go_keep) (fun hHeld => ?_)
    clear hK
    try simp only [Act.put, List.setIfInBounds_toArray, List.set_cons_zero, List.set_cons_succ]
    refine wpAnyH_take (i := 37) (oi := ?o38) (v := ?v38) ?h38 ?s38 ?f38 ?c38 ?q38 ?y38 hHeld ?r38
    case h38 => (simp only [List.getElem?_toArray, List.getElem?_cons_succ, List.getElem?_cons_zero]; rfl)
    case s38 => kernel_rfl
    case f38 => kernel_rfl
    case c38 => kernel_rfl
    case y38 => (refine Or.inl ⟨by rfl, ?_⟩; intro w hSw; (try dsimp only at hSw); go_simp; (try with_reducible rfl))
    case q38 => exact fun _ _ _ h => h
    try simp only [Act.put, List.setIfInBounds_toArray, List.set_cons_zero, List.set_cons_succ]
    refine wpAnyH_take (i := 38) (oi := ?o39) (v := ?v39) ?h39 ?s39 ?f39 ?c39 ?q39 ?y39 hHeld ?r39
    case h39 => (simp only [List.getElem?_toArray, List.getElem?_cons_succ, List.getElem?_cons_zero]; rfl)
    case s39 => kernel_rfl
    case f39 => kernel_rfl
    case c39 => kernel_rfl
    case y39 => (refine Or.inl ⟨by rfl, ?_⟩; intro w hSw; (try dsimp only at hSw); go_simp; (try with_reducible rfl))
    case q39 => exact fun _ _ _ h => h
    try simp only [Act.put, List.setIfInBounds_toArray, List.set_cons_zero, List.set_cons_succ]
    refine wpAnyH_take (i := 39) (oi := ?o40) (v := ?v40) ?h40 ?s40 ?f40 ?c40 ?q40 ?y40 hHeld ?r40
    case h40 => (simp only [List.getElem?_toArray, List.getElem?_cons_succ, List.getElem?_cons_zero]; rfl)
    case s40 => kernel_rfl
    case f40 => kernel_rfl
    case c40 => kernel_rfl
    case y40 => (refine Or.inl ⟨by rfl, ?_⟩; intro w hSw; (try dsimp only at hSw); go_simp; (try with_reducible rfl))
    case q40 => exact fun _ _ _ h => h
    try simp only [Act.put, List.setIfInBounds_toArray, List.set_cons_zero, List.set_cons_succ]
    refine wpAnyH_take (i := 40) (oi := ?o41) (v := ?v41) ?h41 ?s41 ?f41 ?c41 ?q41 ?y41 hHeld ?r41
    case h41 => (simp only [List.getElem?_toArray, List.getElem?_cons_succ, List.getElem?_cons_zero]; rfl)
    case s41 => kernel_rfl
    case f41 => kernel_rfl
    case c41 => kernel_rfl
    case y41 => (refine Or.inl ⟨by rfl, ?_⟩; intro w hSw; (try dsimp only at hSw); go_simp; (try with_reducible rfl))
    case q41 => exact fun _ _ _ h => h
    try simp only [Act.put, List.setIfInBounds_toArray, List.set_cons_zero, List.set_cons_succ]
    refine wpAnyH_done (by kernel_rfl) ?_ _
    repeat go_step
    go_ret
    exact ⟨ret_bool (by first | rfl | (simp; done) | (simp; omega)), h6.up⟩
  · have b1 : (decide (far < 0)) = false := by simp [hfar]
    have b2 : 0 ≤ near := by omega
    have b3 : near ≤ far := by omega
    refine wp_region_held_drew (S := (fun w' => w'.cell? ⟨w2.heap.size, 0, none⟩ = some (.int .i64 p.proto) ∧ w'.cell? ⟨w2.heap.size, 1, none⟩ = some (.int .i64 p.cap) ∧ w'.cell? ⟨w2.heap.size, 2, none⟩ = some (.int .i64 p.k) ∧ w'.cell? ⟨w2.heap.size, 3, none⟩ = some (.slice An p.nodes.length cn) ∧ w'.cell? ⟨w2.heap.size, 4, none⟩ = some (.slice Al p.links.length cl) ∧ w'.cell? ⟨w2.heap.size, 5, none⟩ = some (.slice Ad p.dests.length cd) ∧ w'.cell? ⟨w2.heap.size, 6, none⟩ = some (.slice Ac p.checks.length cc))) (by kernel_rfl) (by go_keep) (fun hHeld => ?_)
    refine wpAnyH_take (i := 0) (oi := ?o42) (v := ?v42) ?h42 ?s42 ?f42 ?c42 ?q42 ?y42 hHeld ?r42
    case h42 => (simp only [List.getElem?_toArray, List.getElem?_cons_succ, List.getElem?_cons_zero]; rfl)
    case s42 => kernel_rfl
    case f42 => kernel_rfl
    case c42 => kernel_rfl
    case y42 => (refine Or.inl ⟨by rfl, ?_⟩; intro w hSw; (try dsimp only at hSw); go_simp; (try with_reducible rfl))
    case q42 => exact fun _ _ _ h => h
    try simp only [Act.put, List.setIfInBounds_toArray, List.set_cons_zero, List.set_cons_succ]
    refine wpAnyH_take (i := 1) (oi := ?o43) (v := ?v43) ?h43 ?s43 ?f43 ?c43 ?q43 ?y43 hHeld ?r43
    case h43 => (simp only [List.getElem?_toArray, List.getElem?_cons_succ, List.getElem?_cons_zero]; rfl)
    case s43 => kernel_rfl
    case f43 => kernel_rfl
    case c43 => kernel_rfl
    case y43 => (refine Or.inl ⟨by rfl, ?_⟩; intro w hSw; (try dsimp only at hSw); go_simp; (try with_reducible rfl))
    case q43 => exact fun _ _ _ h => h
    try simp only [Act.put, List.setIfInBounds_toArray, List.set_cons_zero, List.set_cons_succ]
    refine wpAnyH_take (i := 2) (oi := ?o44) (v := ?v44) ?h44 ?s44 ?f44 ?c44 ?q44 ?y44 hHeld ?r44
    case h44 => (simp only [List.getElem?_toArray, List.getElem?_cons_succ, List.getElem?_cons_zero]; rfl)
    case s44 => kernel_rfl
    case f44 => kernel_rfl
    case c44 => kernel_rfl
    case y44 => (refine Or.inl ⟨by rfl, ?_⟩; intro w hSw; (try dsimp only at hSw); go_simp; (try with_reducible rfl))
    case q44 => exact fun _ _ _ h => h
    try simp only [Act.put, List.setIfInBounds_toArray, List.set_cons_zero, List.set_cons_succ]
    refine wpAnyH_take (i := 3) (oi := ?o45) (v := ?v45) ?h45 ?s45 ?f45 ?c45 ?q45 ?y45 hHeld ?r45
    case h45 => (simp only [List.getElem?_toArray, List.getElem?_cons_succ, List.getElem?_cons_zero]; rfl)
    case s45 => kernel_rfl
    case f45 => kernel_rfl
    case c45 => kernel_rfl
    case y45 => (refine Or.inl ⟨by rfl, ?_⟩; intro w hSw; (try dsimp only at hSw); go_simp; (try with_reducible rfl))
    case q45 => exact fun _ _ _ h => h
    try simp only [Act.put, List.setIfInBounds_toArray, List.set_cons_zero, List.set_cons_succ]
    refine wpAnyH_take (i := 4) (oi := ?o46) (v := ?v46) ?h46 ?s46 ?f46 ?c46 ?q46 ?y46 hHeld ?r46
    case h46 => (simp only [List.getElem?_toArray, List.getElem?_cons_succ, List.getElem?_cons_zero]; rfl)
    case s46 => kernel_rfl
    case f46 => kernel_rfl
    case c46 => kernel_rfl
    case y46 => (refine Or.inl ⟨by rfl, ?_⟩; intro w hSw; (try dsimp only at hSw); go_simp; (try with_reducible rfl))
    case q46 => exact fun _ _ _ h => h
    try simp only [Act.put, List.setIfInBounds_toArray, List.set_cons_zero, List.set_cons_succ]
    refine wpAnyH_take (i := 5) (oi := ?o47) (v := ?v47) ?h47 ?s47 ?f47 ?c47 ?q47 ?y47 hHeld ?r47
    case h47 => (simp only [List.getElem?_toArray, List.getElem?_cons_succ, List.getElem?_cons_zero]; rfl)
    case s47 => kernel_rfl
    case f47 => kernel_rfl
    case c47 => kernel_rfl
    case y47 => (refine Or.inl ⟨by rfl, ?_⟩; intro w hSw; (try dsimp only at hSw); go_simp; (try with_reducible rfl))
    case q47 => exact fun _ _ _ h => h
    try simp only [Act.put, List.setIfInBounds_toArray, List.set_cons_zero, List.set_cons_succ]
    refine wpAnyH_take (i := 6) (oi := ?o48) (v := ?v48) ?h48 ?s48 ?f48 ?c48 ?q48 ?y48 hHeld ?r48
    case h48 => (simp only [List.getElem?_toArray, List.getElem?_cons_succ, List.getElem?_cons_zero]; rfl)
    case s48 => kernel_rfl
    case f48 => kernel_rfl
    case c48 => kernel_rfl
    case y48 => (refine Or.inl ⟨by rfl, ?_⟩; intro w hSw; (try dsimp only at hSw); go_simp; (try with_reducible rfl))
    case q48 => exact fun _ _ _ h => h
    try simp only [Act.put, List.setIfInBounds_toArray, List.set_cons_zero, List.set_cons_succ]
    refine wpAnyH_take (i := 7) (oi := ?o49) (v := ?v49) ?h49 ?s49 ?f49 ?c49 ?q49 ?y49 hHeld ?r49
    case h49 => (simp only [List.getElem?_toArray, List.getElem?_cons_succ, List.getElem?_cons_zero]; rfl)
    case s49 => kernel_rfl
    case f49 => kernel_rfl
    case c49 => kernel_rfl
    case y49 => (refine Or.inl ⟨by rfl, ?_⟩; intro w hSw; (try dsimp only at hSw); go_simp; (try with_reducible rfl))
    case q49 => exact fun _ _ _ h => h
    try simp only [Act.put, List.setIfInBounds_toArray, List.set_cons_zero, List.set_cons_succ]
    refine wpAnyH_take (i := 8) (oi := ?o50) (v := ?v50) ?h50 ?s50 ?f50 ?c50 ?q50 ?y50 hHeld ?r50
    case h50 => (simp only [List.getElem?_toArray, List.getElem?_cons_succ, List.getElem?_cons_zero]; rfl)
    case s50 => kernel_rfl
    case f50 => kernel_rfl
    case c50 => kernel_rfl
    case y50 => (refine Or.inl ⟨by rfl, ?_⟩; intro w hSw; (try dsimp only at hSw); go_simp; (try with_reducible rfl))
    case q50 => exact fun _ _ _ h => h
    try simp only [Act.put, List.setIfInBounds_toArray, List.set_cons_zero, List.set_cons_succ]
    refine wpAnyH_take (i := 9) (oi := ?o51) (v := ?v51) ?h51 ?s51 ?f51 ?c51 ?q51 ?y51 hHeld ?r51
    case h51 => (simp only [List.getElem?_toArray, List.getElem?_cons_succ, List.getElem?_cons_zero]; rfl)
    case s51 => kernel_rfl
    case f51 => kernel_rfl
    case c51 => kernel_rfl
    case y51 => (refine Or.inl ⟨by rfl, ?_⟩; intro w hSw; (try dsimp only at hSw); go_simp; (try with_reducible rfl))
    case q51 => exact fun _ _ _ h => h
    try simp only [Act.put, List.setIfInBounds_toArray, List.set_cons_zero, List.set_cons_succ]
    refine wpAnyH_take (i := 10) (oi := ?o52) (v := ?v52) ?h52 ?s52 ?f52 ?c52 ?q52 ?y52 hHeld ?r52
    case h52 => (simp only [List.getElem?_toArray, List.getElem?_cons_succ, List.getElem?_cons_zero]; rfl)
    case s52 => kernel_rfl
    case f52 => kernel_rfl
    case c52 => kernel_rfl
    case y52 => (refine Or.inl ⟨by rfl, ?_⟩; intro w hSw; (try dsimp only at hSw); go_simp; (try with_reducible rfl))
    case q52 => exact fun _ _ _ h => h
    try simp only [Act.put, List.setIfInBounds_toArray, List.set_cons_zero, List.set_cons_succ]
    refine wpAnyH_take (i := 11) (oi := ?o53) (v := ?v53) ?h53 ?s53 ?f53 ?c53 ?q53 ?y53 hHeld ?r53
    case h53 => (simp only [List.getElem?_toArray, List.getElem?_cons_succ, List.getElem?_cons_zero]; rfl)
    case s53 => kernel_rfl
    case f53 => kernel_rfl
    case c53 => kernel_rfl
    case y53 => (refine Or.inl ⟨by rfl, ?_⟩; intro w hSw; (try dsimp only at hSw); go_simp; (try with_reducible rfl))
    case q53 => exact fun _ _ _ h => h
    try simp only [Act.put, List.setIfInBounds_toArray, List.set_cons_zero, List.set_cons_succ]
    refine wpAnyH_take (i := 12) (oi := ?o54) (v := ?v54) ?h54 ?s54 ?f54 ?c54 ?q54 ?y54 hHeld ?r54
    case h54 => (simp only [List.getElem?_toArray, List.getElem?_cons_succ, List.getElem?_cons_zero]; rfl)
    case s54 => kernel_rfl
    case f54 => kernel_rfl
    case c54 => kernel_rfl
    case y54 => (refine Or.inl ⟨by rfl, ?_⟩; intro w hSw; (try dsimp only at hSw); go_simp; (try with_reducible rfl))
    case q54 => exact fun _ _ _ h => h
    try simp only [Act.put, List.setIfInBounds_toArray, List.set_cons_zero, List.set_cons_succ]
    refine wpAnyH_take (i := 13) (oi := ?o55) (v := ?v55) ?h55 ?s55 ?f55 ?c55 ?q55 ?y55 hHeld ?r55
    case h55 => (simp only [List.getElem?_toArray, List.getElem?_cons_succ, List.getElem?_cons_zero]; rfl)
    case s55 => kernel_rfl
    case f55 => kernel_rfl
    case c55 => kernel_rfl
    case y55 => (refine Or.inl ⟨by rfl, ?_⟩; intro w hSw; (try dsimp only at hSw); go_simp; (try with_reducible rfl))
    case q55 => exact fun _ _ _ h => h
    try simp only [Act.put, List.setIfInBounds_toArray, List.set_cons_zero, List.set_cons_succ]
    refine wpAnyH_take (i := 14) (oi := ?o56) (v := ?v56) ?h56 ?s56 ?f56 ?c56 ?q56 ?y56 hHeld ?r56
    case h56 => (simp only [List.getElem?_toArray, List.getElem?_cons_succ, List.getElem?_cons_zero]; rfl)
    case s56 => kernel_rfl
    case f56 => kernel_rfl
    case c56 => kernel_rfl
    case y56 => (refine Or.inl ⟨by rfl, ?_⟩; intro w hSw; (try dsimp only at hSw); go_simp; (try with_reducible rfl))
    case q56 => exact fun _ _ _ h => h
    try simp only [Act.put, List.setIfInBounds_toArray, List.set_cons_zero, List.set_cons_succ]
    refine wpAnyH_take (i := 15) (oi := ?o57) (v := ?v57) ?h57 ?s57 ?f57 ?c57 ?q57 ?y57 hHeld ?r57
    case h57 => (simp only [List.getElem?_toArray, List.getElem?_cons_succ, List.getElem?_cons_zero]; rfl)
    case s57 => kernel_rfl
    case f57 => kernel_rfl
    case c57 => kernel_rfl
    case y57 => (refine Or.inl ⟨by rfl, ?_⟩; intro w hSw; (try dsimp only at hSw); go_simp; (try with_reducible rfl))
    case q57 => exact fun _ _ _ h => h
    try simp only [Act.put, List.setIfInBounds_toArray, List.set_cons_zero, List.set_cons_succ]
    refine wpAnyH_take (i := 16) (oi := ?o58) (v := ?v58) ?h58 ?s58 ?f58 ?c58 ?q58 ?y58 hHeld ?r58
    case h58 => (simp only [List.getElem?_toArray, List.getElem?_cons_succ, List.getElem?_cons_zero]; rfl)
    case s58 => kernel_rfl
    case f58 => kernel_rfl
    case c58 => kernel_rfl
    case y58 => (refine Or.inl ⟨by rfl, ?_⟩; intro w hSw; (try dsimp only at hSw); go_simp; (try with_reducible rfl))
    case q58 => exact fun _ _ _ h => h
    try simp only [Act.put, List.setIfInBounds_toArray, List.set_cons_zero, List.set_cons_succ]
    refine wpAnyH_take (i := 17) (oi := ?o59) (v := ?v59) ?h59 ?s59 ?f59 ?c59 ?q59 ?y59 hHeld ?r59
    case h59 => (simp only [List.getElem?_toArray, List.getElem?_cons_succ, List.getElem?_cons_zero]; rfl)
    case s59 => kernel_rfl
    case f59 => kernel_rfl
    case c59 => kernel_rfl
    case y59 => (refine Or.inl ⟨by rfl, ?_⟩; intro w hSw; (try dsimp only at hSw); go_simp; (try with_reducible rfl))
    case q59 => exact fun _ _ _ h => h
    try simp only [Act.put, List.setIfInBounds_toArray, List.set_cons_zero, List.set_cons_succ]
    refine wpAnyH_take (i := 20) (oi := ?o60) (v := ?v60) ?h60 ?s60 ?f60 ?c60 ?q60 ?y60 hHeld ?r60
    case h60 => (simp only [List.getElem?_toArray, List.getElem?_cons_succ, List.getElem?_cons_zero]; rfl)
    case s60 => kernel_rfl
    case f60 => kernel_rfl
    case c60 => kernel_rfl
    case y60 => (refine Or.inl ⟨by rfl, ?_⟩; intro w hSw; (try dsimp only at hSw); go_simp; (try with_reducible rfl))
    case q60 => exact fun _ _ _ h => h
    try simp only [Act.put, List.setIfInBounds_toArray, List.set_cons_zero, List.set_cons_succ]
    refine wpAnyH_take (i := 21) (oi := ?o61) (v := ?v61) ?h61 ?s61 ?f61 ?c61 ?q61 ?y61 hHeld ?r61
    case h61 => (simp only [List.getElem?_toArray, List.getElem?_cons_succ, List.getElem?_cons_zero]; rfl)
    case s61 => kernel_rfl
    case f61 => kernel_rfl
    case c61 => kernel_rfl
    case y61 => (refine Or.inl ⟨by rfl, ?_⟩; intro w hSw; (try dsimp only at hSw); go_simp; (try with_reducible rfl))
    case q61 => exact fun _ _ _ h => h
    try simp only [Act.put, List.setIfInBounds_toArray, List.set_cons_zero, List.set_cons_succ]
    refine wpAnyH_take (i := 22) (oi := ?o62) (v := ?v62) ?h62 ?s62 ?f62 ?c62 ?q62 ?y62 hHeld ?r62
    case h62 => (simp only [List.getElem?_toArray, List.getElem?_cons_succ, List.getElem?_cons_zero]; rfl)
    case s62 => kernel_rfl
    case f62 => kernel_rfl
    case c62 => kernel_rfl
    case y62 => (refine Or.inl ⟨by rfl, ?_⟩; intro w hSw; (try dsimp only at hSw); go_simp; (try with_reducible rfl))
    case q62 => exact fun _ _ _ h => h
    try simp only [Act.put, List.setIfInBounds_toArray, List.set_cons_zero, List.set_cons_succ]
    refine wpAnyH_ready (rs := [18]) (by kernel_rfl) (by simp) ?_
    refine AllReadyH.cons rfl (fun K hK => ?_) ?n63
    case n63 => exact AllReadyH.nil
    go_simp
    (go_at_call 19; (with_reducible refine (Reach_ok y a _ ry (Lib.hid rfl) HRY hk.right hk.small h2d.at_).mono ?_); rintro e w5 ⟨A5, c5, rfl, _, hb5⟩; have h3 := h2d.go hb5; obtain ⟨q0, q1, q2, q3, q4, q5, q6⟩ := h3.cells)
    go_wp2_with fail
    refine hK.out _ _ (by go_keep) (fun hHeld => ?_)
    clear hK
    try simp only [Act.put, List.setIfInBounds_toArray, List.set_cons_zero, List.set_cons_succ]
    refine wpAnyH_take (i := 19) (oi := ?o64) (v := ?v64) ?h64 ?s64 ?f64 ?c64 ?q64 ?y64 hHeld ?r64
    case h64 => (simp only [List.getElem?_toArray, List.getElem?_cons_succ, List.getElem?_cons_zero]; rfl)
    case s64 => kernel_rfl
    case f64 => kernel_rfl
    case c64 => kernel_rfl
    case y64 => (refine Or.inl ⟨by rfl, ?_⟩; intro w hSw; (try dsimp only at hSw); go_simp; (try with_reducible rfl))
    case q64 => exact fun _ _ _ h => h
    try simp only [Act.put, List.setIfInBounds_toArray, List.set_cons_zero, List.set_cons_succ]
    refine wpAnyH_ready (rs := [23]) (by kernel_rfl) (by simp) ?_
    refine AllReadyH.cons rfl (fun K hK => ?_) ?n65
    case n65 => exact AllReadyH.nil
    go_simp
    (go_at_call 19; (with_reducible refine (Reach_ok f a _ rx (Lib.hid rfl) HRX hk.right hk.small h3.at_).mono ?_); rintro e w6 ⟨A6, c6, rfl, _, hb6⟩; have h4 := h3.go hb6; obtain ⟨q0, q1, q2, q3, q4, q5, q6⟩ := h4.cells)
    go_wp2_with fail
    refine hK.out _ _ (by go_keep) (fun hHeld => ?_)
    clear hK
    try simp only [Act.put, List.setIfInBounds_toArray, List.set_cons_zero, List.set_cons_succ]
    refine wpAnyH_take (i := 24) (oi := ?o66) (v := ?v66) ?h66 ?s66 ?f66 ?c66 ?q66 ?y66 hHeld ?r66
    case h66 => (simp only [List.getElem?_toArray, List.getElem?_cons_succ, List.getElem?_cons_zero]; rfl)
    case s66 => kernel_rfl
    case f66 => kernel_rfl
    case c66 => kernel_rfl
    case y66 => (refine Or.inl ⟨by rfl, ?_⟩; intro w hSw; (try dsimp only at hSw); go_simp; (try with_reducible rfl))
    case q66 => exact fun _ _ _ h => h
    try simp only [Act.put, List.setIfInBounds_toArray, List.set_cons_zero, List.set_cons_succ]
    refine wpAnyH_take (i := 25) (oi := ?o67) (v := ?v67) ?h67 ?s67 ?f67 ?c67 ?q67 ?y67 hHeld ?r67
    case h67 => (simp only [List.getElem?_toArray, List.getElem?_cons_succ, List.getElem?_cons_zero]; rfl)
    case s67 => kernel_rfl
    case f67 => kernel_rfl
    case c67 => kernel_rfl
    case y67 => (refine Or.inl ⟨by rfl, ?_⟩; intro w hSw; (try dsimp only at hSw); go_simp; (try with_reducible rfl))
    case q67 => exact fun _ _ _ h => h
    try simp only [Act.put, List.setIfInBounds_toArray, List.set_cons_zero, List.set_cons_succ]
    refine wpAnyH_take (i := 26) (oi := ?o68) (v := ?v68) ?h68 ?s68 ?f68 ?c68 ?q68 ?y68 hHeld ?r68
    case h68 => (simp only [List.getElem?_toArray, List.getElem?_cons_succ, List.getElem?_cons_zero]; rfl)
    case s68 => kernel_rfl
    case f68 => kernel_rfl
    case c68 => kernel_rfl
    case y68 => (refine Or.inl ⟨by rfl, ?_⟩; intro w hSw; (try dsimp only at hSw); go_simp; (try with_reducible rfl))
    case q68 => exact fun _ _ _ h => h
    try simp only [Act.put, List.setIfInBounds_toArray, List.set_cons_zero, List.set_cons_succ]
    refine wpAnyH_take (i := 27) (oi := ?o69) (v := ?v69) ?h69 ?s69 ?f69 ?c69 ?q69 ?y69 hHeld ?r69
    case h69 => (simp only [List.getElem?_toArray, List.getElem?_cons_succ, List.getElem?_cons_zero]; rfl)
    case s69 => kernel_rfl
    case f69 => kernel_rfl
    case c69 => kernel_rfl
    case y69 => (refine Or.inl ⟨by rfl, ?_⟩; intro w hSw; (try dsimp only at hSw); go_simp; (try with_reducible rfl))
    case q69 => exact fun _ _ _ h => h
    try simp only [Act.put, List.setIfInBounds_toArray, List.set_cons_zero, List.set_cons_succ]
    refine wpAnyH_take (i := 28) (oi := ?o70) (v := ?v70) ?h70 ?s70 ?f70 ?c70 ?q70 ?y70 hHeld ?r70
    case h70 => (simp only [List.getElem?_toArray, List.getElem?_cons_succ, List.getElem?_cons_zero]; rfl)
    case s70 => kernel_rfl
    case f70 => kernel_rfl
    case c70 => kernel_rfl
    case y70 => (refine Or.inl ⟨by rfl, ?_⟩; intro w hSw; (try dsimp only at hSw); go_simp; (try with_reducible rfl))
    case q70 => exact fun _ _ _ h => h
    try simp only [Act.put, List.setIfInBounds_toArray, List.set_cons_zero, List.set_cons_succ]
    refine wpAnyH_take (i := 29) (oi := ?o71) (v := ?v71) ?h71 ?s71 ?f71 ?c71 ?q71 ?y71 hHeld ?r71
    case h71 => (simp only [List.getElem?_toArray, List.getElem?_cons_succ, List.getElem?_cons_zero]; rfl)
    case s71 => kernel_rfl
    case f71 => kernel_rfl
    case c71 => kernel_rfl
    case y71 => (refine Or.inl ⟨by rfl, ?_⟩; intro w hSw; (try dsimp only at hSw); go_simp; (try with_reducible rfl))
    case q71 => exact fun _ _ _ h => h
    try simp only [Act.put, List.setIfInBounds_toArray, List.set_cons_zero, List.set_cons_succ]
    refine wpAnyH_take (i := 30) (oi := ?o72) (v := ?v72) ?h72 ?s72 ?f72 ?c72 ?q72 ?y72 hHeld ?r72
    case h72 => (simp only [List.getElem?_toArray, List.getElem?_cons_succ, List.getElem?_cons_zero]; rfl)
    case s72 => kernel_rfl
    case f72 => kernel_rfl
    case c72 => kernel_rfl
    case y72 => (refine Or.inl ⟨by rfl, ?_⟩; intro w hSw; (try dsimp only at hSw); go_simp; (try with_reducible rfl))
    case q72 => exact fun _ _ _ h => h
    try simp only [Act.put, List.setIfInBounds_toArray, List.set_cons_zero, List.set_cons_succ]
    refine wpAnyH_take (i := 33) (oi := ?o73) (v := ?v73) ?h73 ?s73 ?f73 ?c73 ?q73 ?y73 hHeld ?r73
    case h73 => (simp only [List.getElem?_toArray, List.getElem?_cons_succ, List.getElem?_cons_zero]; rfl)
    case s73 => kernel_rfl
    case f73 => kernel_rfl
    case c73 => kernel_rfl
    case y73 => (refine Or.inl ⟨by rfl, ?_⟩; intro w hSw; (try dsimp only at hSw); go_simp; (try with_reducible rfl))
    case q73 => exact fun _ _ _ h => h
    try simp only [Act.put, List.setIfInBounds_toArray, List.set_cons_zero, List.set_cons_succ]
    refine wpAnyH_take (i := 34) (oi := ?o74) (v := ?v74) ?h74 ?s74 ?f74 ?c74 ?q74 ?y74 hHeld ?r74
    case h74 => (simp only [List.getElem?_toArray, List.getElem?_cons_succ, List.getElem?_cons_zero]; rfl)
    case s74 => kernel_rfl
    case f74 => kernel_rfl
    case c74 => kernel_rfl
    case y74 => (refine Or.inl ⟨by rfl, ?_⟩; intro w hSw; (try dsimp only at hSw); go_simp; (try with_reducible rfl))
    case q74 => exact fun _ _ _ h => h
    try simp only [Act.put, List.setIfInBounds_toArray, List.set_cons_zero, List.set_cons_succ]
    refine wpAnyH_take (i := 35) (oi := ?o75) (v := ?v75) ?h75 ?s75 ?f75 ?c75 ?q75 ?y75 hHeld ?r75
    case h75 => (simp only [List.getElem?_toArray, List.getElem?_cons_succ, List.getElem?_cons_zero]; rfl)
    case s75 => kernel_rfl
    case f75 => kernel_rfl
    case c75 => kernel_rfl
    case y75 => (refine Or.inl ⟨by rfl, ?_⟩; intro w hSw; (try dsimp only at hSw); go_simp; (try with_reducible rfl))
    case q75 => exact fun _ _ _ h => h
    try simp only [Act.put, List.setIfInBounds_toArray, List.set_cons_zero, List.set_cons_succ]
    refine wpAnyH_ready (rs := [31]) (by kernel_rfl) (by simp) ?_
    refine AllReadyH.cons rfl (fun K hK => ?_) ?n76
    case n76 => exact AllReadyH.nil
    go_simp
    (go_at_call 15; (with_reducible refine (Around_ok y a _ ay (Lib.hid rfl) HAY hk.right hk.small h4.at_).mono ?_); rintro e w7 ⟨A7, c7, rfl, _, hb7⟩; have h5 := h4.go hb7; obtain ⟨q0, q1, q2, q3, q4, q5, q6⟩ := h5.cells)
    go_wp2_with fail
    refine hK.out _ _ (by go_keep) (fun hHeld => ?_)
    clear hK
    try simp only [Act.put, List.setIfInBounds_toArray, List.set_cons_zero, List.set_cons_succ]
    refine wpAnyH_take (i := 32) (oi := ?o77) (v := ?v77) ?h77 ?s77 ?f77 ?c77 ?q77 ?y77 hHeld ?r77
    case h77 => (simp only [List.getElem?_toArray, List.getElem?_cons_succ, List.getElem?_cons_zero]; rfl)
    case s77 => kernel_rfl
    case f77 => kernel_rfl
    case c77 => kernel_rfl
    case y77 => (refine Or.inl ⟨by rfl, ?_⟩; intro w hSw; (try dsimp only at hSw); go_simp; (try with_reducible rfl))
    case q77 => exact fun _ _ _ h => h
    try simp only [Act.put, List.setIfInBounds_toArray, List.set_cons_zero, List.set_cons_succ]
    refine wpAnyH_ready (rs := [36]) (by kernel_rfl) (by simp) ?_
    refine AllReadyH.cons rfl (fun K hK => ?_) ?n78
    case n78 => exact AllReadyH.nil
    go_simp
    (go_at_call 15; (with_reducible refine (Around_ok f a _ ax (Lib.hid rfl) HAX hk.right hk.small h5.at_).mono ?_); rintro e w8 ⟨A8, c8, rfl, _, hb8⟩; have h6 := h5.go hb8; obtain ⟨q0, q1, q2, q3, q4, q5, q6⟩ := h6.cells)
    go_wp2_with fail
    refine hK.out _ _ (by go_keep) (fun hHeld => ?_)
    clear hK
    try simp only [Act.put, List.setIfInBounds_toArray, List.set_cons_zero, List.set_cons_succ]
    refine wpAnyH_take (i := 37) (oi := ?o79) (v := ?v79) ?h79 ?s79 ?f79 ?c79 ?q79 ?y79 hHeld ?r79
    case h79 => (simp only [List.getElem?_toArray, List.getElem?_cons_succ, List.getElem?_cons_zero]; rfl)
    case s79 => kernel_rfl
    case f79 => kernel_rfl
    case c79 => kernel_rfl
    case y79 => (refine Or.inl ⟨by rfl, ?_⟩; intro w hSw; (try dsimp only at hSw); go_simp; (try with_reducible rfl))
    case q79 => exact fun _ _ _ h => h
    try simp only [Act.put, List.setIfInBounds_toArray, List.set_cons_zero, List.set_cons_succ]
    refine wpAnyH_take (i := 38) (oi := ?o80) (v := ?v80) ?h80 ?s80 ?f80 ?c80 ?q80 ?y80 hHeld ?r80
    case h80 => (simp only [List.getElem?_toArray, List.getElem?_cons_succ, List.getElem?_cons_zero]; rfl)
    case s80 => kernel_rfl
    case f80 => kernel_rfl
    case c80 => kernel_rfl
    case y80 => (refine Or.inl ⟨by rfl, ?_⟩; intro w hSw; (try dsimp only at hSw); go_simp; (try with_reducible rfl))
    case q80 => exact fun _ _ _ h => h
    try simp only [Act.put, List.setIfInBounds_toArray, List.set_cons_zero, List.set_cons_succ]
    refine wpAnyH_take (i := 39) (oi := ?o81) (v := ?v81) ?h81 ?s81 ?f81 ?c81 ?q81 ?y81 hHeld ?r81
    case h81 => (simp only [List.getElem?_toArray, List.getElem?_cons_succ, List.getElem?_cons_zero]; rfl)
    case s81 => kernel_rfl
    case f81 => kernel_rfl
    case c81 => kernel_rfl
    case y81 => (refine Or.inl ⟨by rfl, ?_⟩; intro w hSw; (try dsimp only at hSw); go_simp; (try with_reducible rfl))
    case q81 => exact fun _ _ _ h => h
    try simp only [Act.put, List.setIfInBounds_toArray, List.set_cons_zero, List.set_cons_succ]
    refine wpAnyH_take (i := 40) (oi := ?o82) (v := ?v82) ?h82 ?s82 ?f82 ?c82 ?q82 ?y82 hHeld ?r82
    case h82 => (simp only [List.getElem?_toArray, List.getElem?_cons_succ, List.getElem?_cons_zero]; rfl)
    case s82 => kernel_rfl
    case f82 => kernel_rfl
    case c82 => kernel_rfl
    case y82 => (refine Or.inl ⟨by rfl, ?_⟩; intro w hSw; (try dsimp only at hSw); go_simp; (try with_reducible rfl))
    case q82 => exact fun _ _ _ h => h
    try simp only [Act.put, List.setIfInBounds_toArray, List.set_cons_zero, List.set_cons_succ]
    refine wpAnyH_done (by kernel_rfl) ?_ _
    repeat go_step
    go_ret
    exact ⟨ret_bool (by first | rfl | (simp; done) | (simp; omega)), h6.up⟩
end Go.Proofs.Ytponlhgkgmlihaa
