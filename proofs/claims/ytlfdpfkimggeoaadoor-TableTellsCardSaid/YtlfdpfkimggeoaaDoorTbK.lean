/-
  The document's table: Add of a route that is new.
-/
import Derived.Test.YtlfdpfkimggeoaaDoorTbJ
namespace Go.Proofs.YtlfdpfkimggeoaaDoor
open Go.RowKit
set_option linter.unusedVariables false
set_option linter.unusedSimpArgs false

/-- What the last step of the document's Add leans on. -/
structure T3 (w : World) (sb : Nat) (most : Int) (v : Value) (ln : Nat) (xs : List Value) (r : Rt) (Ar : Option Addr) (n ca : Nat) (W : World) : Prop where
  blk : Blk W sb 32 #[.int .i64 most, v]
  rows : W.ownsRow 0 25 3 v ln xs
  box : Blk W w.heap.size 25 #[.int .i64 r.kind, .int .i64 r.cost, .slice Ar n ca]
section
variable {w W W' : World} {sb : Nat} {most : Int} {v : Value} {ln : Nat} {xs : List Value} {r : Rt} {Ar : Option Addr} {n ca : Nat}
theorem T3.go (h : T3 w sb most v ln xs r Ar n ca W) (hb : Below W.heap.size W W') : T3 w sb most v ln xs r Ar n ca W' := ⟨h.blk.up hb, own_below h.rows hb, h.box.up hb⟩
theorem T3.cells (h : T3 w sb most v ln xs r Ar n ca W) : W.cell? ⟨sb, 1, none⟩ = some v ∧ W.cell? ⟨w.heap.size, 0, none⟩ = some (.int .i64 r.kind) ∧ W.cell? ⟨w.heap.size, 1, none⟩ = some (.int .i64 r.cost) ∧ W.cell? ⟨w.heap.size, 2, none⟩ = some (.slice Ar n ca) := ⟨h.blk.cell 1, h.box.cell 0, h.box.cell 1, h.box.cell 2⟩
end
theorem ref_grown {F : Nat → Prop} {w W5 w7 w9 : World} {sb : Nat} {most : Int} {l : List Rt} {A : Option Addr} {c : Nat} {hs : List (Option Addr × Nat)} {r : Rt} {A4 : Option Addr} {n c4 B g cap : Nat} {o : Obj}
    (h5 : RefIn F W5 sb most l A c hs) (hF : ∀ k, F k → k < w.heap.size) (b5 : Below w.heap.size w W5)
    (b7 : Below W5.heap.size W5 w7) (ho : w7.ownsRow B 3 1 (.slice A4 n c4) n (r.path.map (Value.int .i64))) (hB : W5.heap.size ≤ B) (hn : r.path.length = n) (hn12 : n ≤ 12)
    (g9 : (w7.alloc o).grownBy w9 (Value.slice A l.length c).ownBlock)
    (o9 : w9.ownsRow 0 25 3 (.slice (some ⟨g, 0, none⟩) (l.length + 1) cap) (l.length + 1) ((l.zip hs).flatMap rtC ++ [.int .i64 r.kind, .int .i64 r.cost, .slice A4 n c4]))
    (hat : (Value.slice A l.length c).ownBlock = some g ∨ g = w7.heap.size + 1) (hlt : (l.length : Int) < most) (hl4 : l.length < 4096) :
    Sep F w (w9.setCell ⟨sb, 1, none⟩ (.slice (some ⟨g, 0, none⟩) (l.length + 1) cap)) ∧ RefAt (grewF F w (w9.setCell ⟨sb, 1, none⟩ (.slice (some ⟨g, 0, none⟩) (l.length + 1) cap))) (w9.setCell ⟨sb, 1, none⟩ (.slice (some ⟨g, 0, none⟩) (l.length + 1) cap)) sb most (l ++ [r]) := by
  subst hn
  have z5 := b5.size
  have z7 := b7.size
  have z9 : w7.heap.size + 1 ≤ w9.heap.size := by have := g9.size; simpa using this
  obtain ⟨W, hW⟩ : ∃ W, W = w9.setCell ⟨sb, 1, none⟩ (.slice (some ⟨g, 0, none⟩) (l.length + 1) cap) := ⟨_, rfl⟩
  have zW : W.heap.size = w9.heap.size := by rw [hW]; simp [World.setCell]
  have slt := hF _ h5.fS
  have glt : ∀ g', (Value.slice A l.length c).ownBlock = some g' → g' < w.heap.size := fun g' h => hF _ (h5.fR g' h).1
  let MF : Nat → Prop := fun k => k = sb ∨ (Value.slice A l.length c).ownBlock = some k
  have hMF : ∀ k, MF k → F k := fun k hk => by
    rcases hk with rfl | hk
    · exact h5.fS
    · exact (h5.fR k hk).1
  have s7 : Sep MF W5 w7 := Sep.of_below b7
  have s8 : Sep MF w7 (w7.alloc o) := Sep.of_below (below_new _ _)
  have s9 : Sep MF (w7.alloc o) w9 := Sep.of_grown g9 fun k hk => .inr hk
  have s10 : Sep MF w9 W := by rw [hW]; exact Sep.of_set _ _ _ (.inl rfl)
  have s710 : Sep MF w7 W := ((s8.trans s9 fun _ _ h => h).trans s10 fun _ _ h => h)
  have s510 : Sep MF W5 W := s7.trans s710 fun _ _ h => h
  have S : Sep F w W := (Sep.of_below b5 : Sep F w W5).trans s510 fun i _ h => hMF i h
  have k9 : Blk w9 sb 32 #[.int .i64 most, .slice A l.length c] := (((h5.blk.up b7).alloc o).grown g9 (fun e => (h5.fR sb e.symm).2 rfl))
  have k10 : Blk W sb 32 #[.int .i64 most, .slice (some ⟨g, 0, none⟩) (l.length + 1) cap] := by rw [hW]; exact k9.set_ 1 _
  have o10 := own_setA o9 k9 (by decide) 1 (.slice (some ⟨g, 0, none⟩) (l.length + 1) cap)
  rw [← hW] at o10
  have hlen : (l ++ [r]).length = l.length + 1 := by simp
  have hg0 : ∀ g', (Value.slice (some ⟨g, 0, none⟩) (l.length + 1) cap).ownBlock = some g' → g' = g := fun g' h => by simpa [Value.ownBlock] using h.symm
  have gF : grewF F w W g := by
    rcases hat with h | h
    · exact .inl (h5.fR g h).1
    · exact .inr ⟨by omega, by have := (o9.lt g rfl).2; omega⟩
  have g1 : g ≠ sb := by
    rcases hat with h | h
    · exact (h5.fR g h).2
    · omega
  have hA4 : ∀ a, A4 = some a → B ≤ a.block ∧ a.block < w7.heap.size := fun a ha => by
    have := ho.lt a.block (by rw [ha]; rfl)
    exact this
  rw [← hW]
  refine ⟨S, some ⟨g, 0, none⟩, cap, hs ++ [(A4, c4)], ?_⟩
  exact
    { lt := fun k hk => hk.elim (fun h1 => by have := hF k h1; omega) (fun h1 => h1.2)
      fS := .inl h5.fS
      fR := fun g' hg' => by rw [hlen] at hg'; have := hg0 g' hg'; subst this; exact ⟨gF, g1⟩
      blk := by rw [hlen]; exact k10
      rows := by rw [hlen, flat_snoc l hs r (A4, c4) h5.hl]; exact o10
      hl := by simp [h5.hl]
      paths := fun i r' q e1 e2 => by
        rw [hlen]
        rcases Nat.lt_or_ge i l.length with hi | hi
        · rw [List.getElem?_append_left hi] at e1
          rw [List.getElem?_append_left (by rw [h5.hl]; exact hi)] at e2
          obtain ⟨p1, p2⟩ := h5.paths i r' q e1 e2
          refine ⟨p1.sep s510 fun a ha hm => ?_, fun a ha => ?_⟩
          · obtain ⟨_, q1, q3⟩ := p2 a ha
            rcases hm with h | h
            · exact q1 h
            · exact q3 h
          · obtain ⟨q0, q1, q3⟩ := p2 a ha
            refine ⟨.inl q0, q1, fun e => ?_⟩
            have := hg0 _ e
            rcases hat with h | h
            · exact q3 (by rw [this]; exact h)
            · have := hF _ q0; omega
        · have hi' : i = l.length := by
            have := (List.getElem?_eq_some_iff.1 e1).1
            simp at this; omega
          subst hi'
          simp at e1
          rw [← h5.hl] at e2
          simp at e2
          subst e1 e2
          refine ⟨(RtGives.at_ (w := w) ho (by omega)).sep s710 fun a ha hm => ?_, fun a ha => ?_⟩
          · obtain ⟨q1, q2⟩ := hA4 a ha
            rcases hm with h | h
            · omega
            · have := glt _ h; omega
          · obtain ⟨q1, q2⟩ := hA4 a ha
            refine ⟨.inr ⟨by omega, by omega⟩, by omega, fun e => ?_⟩
            have := hg0 _ e
            rcases hat with h | h
            · have := glt _ h; omega
            · omega
      len := by rw [hlen]; omega
      zero := fun e => by omega }

set_option maxHeartbeats 8000000 in
set_option maxRecDepth 100000 in
theorem refAdd_new {F : Nat → Prop} {sb : Nat} {most : Int} {l : List Rt} {w : World} (h : RefAt F w sb most l) (r : Rt) (hR : rtRight r = true) (hz : most ≠ 0) (hm : r ∉ l) (hf : (l.length : Int) < most) (hl4 : l.length < 4096) {Ar : Option Addr} {n : Nat} (ca : Nat) (hr : RtAt w r Ar n) :
    Calls Tryd.prog 14 #[.pointer (some ⟨sb, 0, none⟩), .agg #[.int .i64 r.kind, .int .i64 r.cost, .slice Ar n ca]] w (RefTells F w sb most l r) := by
  have HR := Lib.hid hR
  have HV : Hid (ixR r l = -1) := Lib.hid (ixR_not hm)
  obtain ⟨a1, a2, a3⟩ := add_new (most := most) hR hm hf
  have HFIN : Hid (∀ w', (Sep F w w' ∧ RefAt (grewF F w w') w' sb most (l ++ [r])) → RefTells F w sb most l r (.returned (.tuple #[.int .i64 (l.length : Int), .int .i64 0])) w') := Lib.hid (fun w' hb => ⟨by rw [a1, a2], hb.1, by rw [a3]; exact hb.2⟩)
  obtain ⟨A, c, hs, h⟩ := h
  obtain ⟨ln, hln⟩ : ∃ n, l.length = n := ⟨_, rfl⟩
  have HLN := Lib.hid hln
  have HLT := Lib.hid h.lt
  have HF := Lib.hid hf
  have HL4 := Lib.hid hl4
  have HN := Lib.hid hr.1
  have h12 : n ≤ 12 := by have := rt_len hR; have := hr.1; omega
  have HNE : Hid (some sb ≠ (Value.slice A ln c).ownBlock ∧ some w.heap.size ≠ (Value.slice A ln c).ownBlock ∧ w.heap.size ≠ sb) := Lib.hid (by
    rw [← hln]
    exact ⟨fun e => (h.fR sb e.symm).2 rfl, fun e => by have := h.lt _ (h.fR _ e.symm).1; omega, by have := h.lt _ h.fS; omega⟩)
  have h1 := RS.new (ca := ca) h hr
  obtain ⟨c0, c1, b0, b1, b2⟩ := h1.cells
  rw [hln] at c1
  have t0 : (most == 0) = false := by simp [hz]
  have t1 : (ln : Int) < most := by omega
  have t2 : decide (most ≤ (ln : Int)) = false := by simpa using t1
  have lnb : ln < 4096 := by omega
  have h63 : ln + 1 ≤ maxLen := by unfold maxLen; omega
  have hby : (ln + 1) * 40 ≤ 140737488355328 := by omega
  obtain ⟨i0, hi, hz0, hz1, hz2⟩ := info_parts rtInfo
  obtain ⟨iI, hiI, zI0, zI1, zI2⟩ := info_parts numInfoA
  clear h hr hR hln hz hm hf a1 a2 a3 hl4
  go_enter Tryd.func14, Tryd.ntmps14
  go_wp2_with (first
    | (go_at_call 26; (with_reducible refine (refRight6_is r true HR h1.at_).mono ?_); rintro e w2 ⟨rfl, hb2⟩; have h2 := h1.go hb2; obtain ⟨d0, d1, x0, x1, x2⟩ := h2.cells; rw [HLN.out] at d1)
    | (go_at_call 17; (with_reducible refine (refFind_any h2.ref2 r (-1) HV h2.at_).mono ?_); rintro e w3 ⟨rfl, hb3⟩; have h3 := h2.go hb3; obtain ⟨e0, e1, y0, y1, y2⟩ := h3.cells; rw [HLN.out] at e1))
  go_quiet (fail)
  obtain ⟨W3, hW3⟩ : ∃ W3, W3 = w3.drewN nq := ⟨_, rfl⟩
  have h4 : RS F w sb most l A c hs r Ar n ca W3 := by rw [hW3]; exact h3.go (below_drewN _ _)
  rw [← hW3]
  clear hW3 h1 h2 h3 c0 c1 b0 b1 b2 d0 d1 x0 x1 x2 e0 e1 y0 y1 y2 hb2 hb3
  have h4d := h4.drew
  obtain ⟨c0, c1, b0, b1, b2⟩ := h4d.cells
  rw [HLN.out] at c1
  go_wp2_with fail
  refine wp_region_held_drew (S := (fun w' => w'.cell? ⟨w.heap.size, 0, none⟩ = some (.int .i64 r.kind) ∧ w'.cell? ⟨w.heap.size, 1, none⟩ = some (.int .i64 r.cost) ∧ w'.cell? ⟨w.heap.size, 2, none⟩ = some (.slice Ar n ca))) (by kernel_rfl) (by go_keep) (fun hHeld => ?_)
  refine wpAnyH_take (i := 0) (oi := ?o1) (v := ?v1) ?h1 ?s1 ?f1 ?c1 ?q1 ?y1 hHeld ?r1
  case h1 => (simp only [List.getElem?_toArray, List.getElem?_cons_succ, List.getElem?_cons_zero]; rfl)
  case s1 => kernel_rfl
  case f1 => kernel_rfl
  case c1 => kernel_rfl
  case y1 => (refine Or.inl ⟨by rfl, ?_⟩; intro w hSw; (try dsimp only at hSw); go_simp; (try with_reducible rfl))
  case q1 => exact fun _ _ _ h => h
  try simp only [Act.put, List.setIfInBounds_toArray, List.set_cons_zero, List.set_cons_succ]
  refine wpAnyH_take (i := 1) (oi := ?o2) (v := ?v2) ?h2 ?s2 ?f2 ?c2 ?q2 ?y2 hHeld ?r2
  case h2 => (simp only [List.getElem?_toArray, List.getElem?_cons_succ, List.getElem?_cons_zero]; rfl)
  case s2 => kernel_rfl
  case f2 => kernel_rfl
  case c2 => kernel_rfl
  case y2 => (refine Or.inl ⟨by rfl, ?_⟩; intro w hSw; (try dsimp only at hSw); go_simp; (try with_reducible rfl))
  case q2 => exact fun _ _ _ h => h
  try simp only [Act.put, List.setIfInBounds_toArray, List.set_cons_zero, List.set_cons_succ]
  refine wpAnyH_take (i := 2) (oi := ?o3) (v := ?v3) ?h3 ?s3 ?f3 ?c3 ?q3 ?y3 hHeld ?r3
  case h3 => (simp only [List.getElem?_toArray, List.getElem?_cons_succ, List.getElem?_cons_zero]; rfl)
  case s3 => kernel_rfl
  case f3 => kernel_rfl
  case c3 => kernel_rfl
  case y3 => (refine Or.inl ⟨by rfl, ?_⟩; intro w hSw; (try dsimp only at hSw); go_simp; (try with_reducible rfl))
  case q3 => exact fun _ _ _ h => h
  try simp only [Act.put, List.setIfInBounds_toArray, List.set_cons_zero, List.set_cons_succ]
  refine wpAnyH_take (i := 3) (oi := ?o4) (v := ?v4) ?h4 ?s4 ?f4 ?c4 ?q4 ?y4 hHeld ?r4
  case h4 => (simp only [List.getElem?_toArray, List.getElem?_cons_succ, List.getElem?_cons_zero]; rfl)
  case s4 => kernel_rfl
  case f4 => kernel_rfl
  case c4 => kernel_rfl
  case y4 => (refine Or.inl ⟨by rfl, ?_⟩; intro w hSw; (try dsimp only at hSw); go_simp; (try with_reducible rfl))
  case q4 => exact fun _ _ _ h => h
  try simp only [Act.put, List.setIfInBounds_toArray, List.set_cons_zero, List.set_cons_succ]
  refine wpAnyH_take (i := 5) (oi := ?o5) (v := ?v5) ?h5 ?s5 ?f5 ?c5 ?q5 ?y5 hHeld ?r5
  case h5 => (simp only [List.getElem?_toArray, List.getElem?_cons_succ, List.getElem?_cons_zero]; rfl)
  case s5 => kernel_rfl
  case f5 => kernel_rfl
  case c5 => kernel_rfl
  case y5 => (refine Or.inl ⟨by rfl, ?_⟩; intro w hSw; (try dsimp only at hSw); go_simp; (try with_reducible rfl))
  case q5 => exact fun _ _ _ h => h
  try simp only [Act.put, List.setIfInBounds_toArray, List.set_cons_zero, List.set_cons_succ]
  refine wpAnyH_take (i := 6) (oi := ?o6) (v := ?v6) ?h6 ?s6 ?f6 ?c6 ?q6 ?y6 hHeld ?r6
  case h6 => (simp only [List.getElem?_toArray, List.getElem?_cons_succ, List.getElem?_cons_zero]; rfl)
  case s6 => kernel_rfl
  case f6 => kernel_rfl
  case c6 => kernel_rfl
  case y6 => (refine Or.inl ⟨by rfl, ?_⟩; intro w hSw; (try dsimp only at hSw); go_simp; (try with_reducible rfl))
  case q6 => exact fun _ _ _ h => h
  try simp only [Act.put, List.setIfInBounds_toArray, List.set_cons_zero, List.set_cons_succ]
  refine wpAnyH_take (i := 7) (oi := ?o7) (v := ?v7) ?h7 ?s7 ?f7 ?c7 ?q7 ?y7 hHeld ?r7
  case h7 => (simp only [List.getElem?_toArray, List.getElem?_cons_succ, List.getElem?_cons_zero]; rfl)
  case s7 => kernel_rfl
  case f7 => kernel_rfl
  case c7 => kernel_rfl
  case y7 => (refine Or.inl ⟨by rfl, ?_⟩; intro w hSw; (try dsimp only at hSw); go_simp; (try with_reducible rfl))
  case q7 => exact fun _ _ _ h => h
  try simp only [Act.put, List.setIfInBounds_toArray, List.set_cons_zero, List.set_cons_succ]
  refine wpAnyH_take (i := 8) (oi := ?o8) (v := ?v8) ?h8 ?s8 ?f8 ?c8 ?q8 ?y8 hHeld ?r8
  case h8 => (simp only [List.getElem?_toArray, List.getElem?_cons_succ, List.getElem?_cons_zero]; rfl)
  case s8 => kernel_rfl
  case f8 => kernel_rfl
  case c8 => kernel_rfl
  case y8 => (refine Or.inl ⟨by rfl, ?_⟩; intro w hSw; (try dsimp only at hSw); go_simp; (try with_reducible rfl))
  case q8 => exact fun _ _ _ h => h
  try simp only [Act.put, List.setIfInBounds_toArray, List.set_cons_zero, List.set_cons_succ]
  refine wpAnyH_take (i := 9) (oi := ?o9) (v := ?v9) ?h9 ?s9 ?f9 ?c9 ?q9 ?y9 hHeld ?r9
  case h9 => (simp only [List.getElem?_toArray, List.getElem?_cons_succ, List.getElem?_cons_zero]; rfl)
  case s9 => kernel_rfl
  case f9 => kernel_rfl
  case c9 => kernel_rfl
  case y9 => (refine Or.inl ⟨by rfl, ?_⟩; intro w hSw; (try dsimp only at hSw); go_simp; (try with_reducible rfl))
  case q9 => exact fun _ _ _ h => h
  try simp only [Act.put, List.setIfInBounds_toArray, List.set_cons_zero, List.set_cons_succ]
  refine wpAnyH_take (i := 10) (oi := ?o10) (v := ?v10) ?h10 ?s10 ?f10 ?c10 ?q10 ?y10 hHeld ?r10
  case h10 => (simp only [List.getElem?_toArray, List.getElem?_cons_succ, List.getElem?_cons_zero]; rfl)
  case s10 => kernel_rfl
  case f10 => kernel_rfl
  case c10 => kernel_rfl
  case y10 => (refine Or.inl ⟨by rfl, ?_⟩; intro w hSw; (try dsimp only at hSw); go_simp; (try with_reducible rfl))
  case q10 => exact fun _ _ _ h => h
  try simp only [Act.put, List.setIfInBounds_toArray, List.set_cons_zero, List.set_cons_succ]
  refine wpAnyH_ready (rs := [4, 11]) (by kernel_rfl) (by simp) ?_
  refine AllReadyH.cons rfl (fun K hK => ?_) (AllReadyH.cons rfl (fun K hK => ?_) AllReadyH.nil)
  · go_simp
    refine hK.out _ _ (by go_keep) (fun hHeld => ?_)
    clear hK
    try simp only [Act.put, List.setIfInBounds_toArray, List.set_cons_zero, List.set_cons_succ]
    refine wpAnyH_ready (rs := [11]) (by kernel_rfl) (by simp) ?_
    refine AllReadyH.cons rfl (fun K hK => ?_) AllReadyH.nil
    refine step_append_cells rfl _ _ _ (by rfl) W3.heap.size 3 iI (.int .i64 0) 1 8 Tryd.underlying23 hiI zI0 zI1 zI2 rfl (by decide) (.slice none 0 0) 0 [] (by rfl) (World.ownsRow_nil _ _ _ _) _ Ar n ca (r.path.map (Value.int .i64)) (by rfl) (by rw [List.length_map, HN.out, Nat.mul_one]) h4d.at_.2.1 (fun u hu => by obtain ⟨y, _, rfl⟩ := List.mem_map.1 hu; rfl) (by omega) (by omega) (Nat.le_refl _) ?_
    intro v' w7 own7 hg7
    rw [Nat.zero_add, List.nil_append] at own7
    obtain ⟨A4, c4, rfl, hc4⟩ := own_formA own7
    have hb7 := below_grown0 hg7
    have k7 : T3 w sb most (.slice A ln c) ln ((l.zip hs).flatMap rtC) r Ar n ca w7 := (show T3 w sb most (.slice A ln c) ln ((l.zip hs).flatMap rtC) r Ar n ca W3.drew from by have e := HLN.out; subst e; exact ⟨h4d.ref.blk, h4d.ref.rows, h4d.box.one⟩).go hb7
    obtain ⟨u0, u1, u2, u3⟩ := k7.cells
    have h8 := fun o => (k7.go (below_new w7 o)).cells
    refine hK.out _ _ (by go_keep) (fun hHeld => ?_)
    clear hK
    try simp only [Act.put, List.setIfInBounds_toArray, List.set_cons_zero, List.set_cons_succ]
    refine wpAnyH_take (i := 12) (oi := ?o11) (v := ?v11) ?h11 ?s11 ?f11 ?c11 ?q11 ?y11 hHeld ?r11
    case h11 => (simp only [List.getElem?_toArray, List.getElem?_cons_succ, List.getElem?_cons_zero]; rfl)
    case s11 => kernel_rfl
    case f11 => kernel_rfl
    case c11 => kernel_rfl
    case y11 => (refine Or.inl ⟨by rfl, ?_⟩; intro w hSw; (try dsimp only at hSw); go_simp; (try with_reducible rfl))
    case q11 => exact fun _ _ _ h => h
    try simp only [Act.put, List.setIfInBounds_toArray, List.set_cons_zero, List.set_cons_succ]
    refine wpAnyH_ready (rs := [13]) (by kernel_rfl) (by simp) ?_
    refine AllReadyH.cons rfl (fun K hK => ?_) AllReadyH.nil
    go_simp
    refine hK.out _ _ (by go_keep) (fun hHeld => ?_)
    clear hK
    try simp only [Act.put, List.setIfInBounds_toArray, List.set_cons_zero, List.set_cons_succ]
    refine wpAnyH_ready (rs := [14]) (by kernel_rfl) (by simp) ?_
    refine AllReadyH.cons rfl (fun K hK => ?_) AllReadyH.nil
    refine step_append_lies _ rfl _ _ _ (by rfl) 0 25 i0 _ 3 40 Tryd.underlying30 hi hz0 hz1 hz2 rfl (by omega) (.slice A ln c) ln ((l.zip hs).flatMap rtC) (by rfl) (k7.rows.alloc _) ⟨w7.heap.size, 0, none⟩ 1 1 [.int .i64 r.kind, .int .i64 r.cost, .slice A4 n c4] (by rfl) (by rfl) (World.news_of_block (cs := #[.int .i64 r.kind, .int .i64 r.cost, .slice A4 n c4]) (t := 25) (fr := (0, 0)) (heap_alloc_new w7 _)) (by simp [Value.oneCell']) (by omega) h63 hby (by simp) (w7.heap.size + 1) (by simp) ?_
    intro g cap w9 own9 hg9 hat9 hlt9
    have k9 := (k7.blk.alloc _).grown hg9 HNE.out.1
    have x9 := (k7.box.alloc _).grown hg9 HNE.out.2.1
    have k90 := k9.cell 1
    have k91 := k9.frozen 1
    have x90 := x9.cell 0
    have x91 := x9.cell 1
    have x92 := x9.cell 2
    have y90 := fun u => (x9.far (p := ⟨sb, 1, none⟩) HNE.out.2.2 u).cell 0
    have y91 := fun u => (x9.far (p := ⟨sb, 1, none⟩) HNE.out.2.2 u).cell 1
    have y92 := fun u => (x9.far (p := ⟨sb, 1, none⟩) HNE.out.2.2 u).cell 2
    refine hK.out _ _ (by go_keep) (fun hHeld => ?_)
    clear hK
    try simp only [Act.put, List.setIfInBounds_toArray, List.set_cons_zero, List.set_cons_succ]
    refine wpAnyH_take (i := 15) (oi := ?o12) (v := ?v12) ?h12 ?s12 ?f12 ?c12 ?q12 ?y12 hHeld ?r12
    case h12 => (simp only [List.getElem?_toArray, List.getElem?_cons_succ, List.getElem?_cons_zero]; rfl)
    case s12 => kernel_rfl
    case f12 => kernel_rfl
    case c12 => kernel_rfl
    case y12 => (refine Or.inl ⟨by rfl, ?_⟩; intro w hSw; (try dsimp only at hSw); go_simp; (try with_reducible rfl))
    case q12 => exact fun _ _ _ h => h
    try simp only [Act.put, List.setIfInBounds_toArray, List.set_cons_zero, List.set_cons_succ]
    refine wpAnyH_take (i := 16) (oi := ?o13) (v := ?v13) ?h13 ?s13 ?f13 ?c13 ?q13 ?y13 hHeld ?r13
    case h13 => (simp only [List.getElem?_toArray, List.getElem?_cons_succ, List.getElem?_cons_zero]; rfl)
    case s13 => kernel_rfl
    case f13 => kernel_rfl
    case c13 => kernel_rfl
    case y13 => (refine Or.inl ⟨by rfl, ?_⟩; intro w hSw; (try dsimp only at hSw); go_simp; (try with_reducible rfl))
    case q13 => exact fun _ _ _ h => h
    try simp only [Act.put, List.setIfInBounds_toArray, List.set_cons_zero, List.set_cons_succ]
    refine wpAnyH_ready (rs := [17]) (by kernel_rfl) (by simp) ?_
    refine AllReadyH.cons rfl (fun K hK => ?_) AllReadyH.nil
    go_simp
    refine hK.out _ _ (by go_keep) (fun hHeld => ?_)
    clear hK
    try simp only [Act.put, List.setIfInBounds_toArray, List.set_cons_zero, List.set_cons_succ]
    refine wpAnyH_done (by kernel_rfl) ?_ _
    go_step
    go_wp2
    go_ret2
    have e := HLN.out
    subst e
    exact HFIN.out _ (ref_grown h4.ref HLT.out h4.box.up (((Below.refl _ _).drew).trans hb7) own7 (Nat.le_refl _) HN.out h12 hg9 own9 hat9 HF.out HL4.out)
  · refine step_append_cells rfl _ _ _ (by rfl) W3.heap.size 3 iI (.int .i64 0) 1 8 Tryd.underlying23 hiI zI0 zI1 zI2 rfl (by decide) (.slice none 0 0) 0 [] (by rfl) (World.ownsRow_nil _ _ _ _) _ Ar n ca (r.path.map (Value.int .i64)) (by rfl) (by rw [List.length_map, HN.out, Nat.mul_one]) h4d.at_.2.1 (fun u hu => by obtain ⟨y, _, rfl⟩ := List.mem_map.1 hu; rfl) (by omega) (by omega) (Nat.le_refl _) ?_
    intro v' w7 own7 hg7
    rw [Nat.zero_add, List.nil_append] at own7
    obtain ⟨A4, c4, rfl, hc4⟩ := own_formA own7
    have hb7 := below_grown0 hg7
    have k7 : T3 w sb most (.slice A ln c) ln ((l.zip hs).flatMap rtC) r Ar n ca w7 := (show T3 w sb most (.slice A ln c) ln ((l.zip hs).flatMap rtC) r Ar n ca W3.drew from by have e := HLN.out; subst e; exact ⟨h4d.ref.blk, h4d.ref.rows, h4d.box.one⟩).go hb7
    obtain ⟨u0, u1, u2, u3⟩ := k7.cells
    have h8 := fun o => (k7.go (below_new w7 o)).cells
    refine hK.out _ _ (by go_keep) (fun hHeld => ?_)
    clear hK
    try simp only [Act.put, List.setIfInBounds_toArray, List.set_cons_zero, List.set_cons_succ]
    refine wpAnyH_take (i := 12) (oi := ?o18) (v := ?v18) ?h18 ?s18 ?f18 ?c18 ?q18 ?y18 hHeld ?r18
    case h18 => (simp only [List.getElem?_toArray, List.getElem?_cons_succ, List.getElem?_cons_zero]; rfl)
    case s18 => kernel_rfl
    case f18 => kernel_rfl
    case c18 => kernel_rfl
    case y18 => (refine Or.inl ⟨by rfl, ?_⟩; intro w hSw; (try dsimp only at hSw); go_simp; (try with_reducible rfl))
    case q18 => exact fun _ _ _ h => h
    try simp only [Act.put, List.setIfInBounds_toArray, List.set_cons_zero, List.set_cons_succ]
    refine wpAnyH_ready (rs := [4, 13]) (by kernel_rfl) (by simp) ?_
    refine AllReadyH.cons rfl (fun K hK => ?_) (AllReadyH.cons rfl (fun K hK => ?_) AllReadyH.nil)
    · go_simp
      refine hK.out _ _ (by go_keep) (fun hHeld => ?_)
      clear hK
      try simp only [Act.put, List.setIfInBounds_toArray, List.set_cons_zero, List.set_cons_succ]
      refine wpAnyH_ready (rs := [13]) (by kernel_rfl) (by simp) ?_
      refine AllReadyH.cons rfl (fun K hK => ?_) AllReadyH.nil
      go_simp
      refine hK.out _ _ (by go_keep) (fun hHeld => ?_)
      clear hK
      try simp only [Act.put, List.setIfInBounds_toArray, List.set_cons_zero, List.set_cons_succ]
      refine wpAnyH_ready (rs := [14]) (by kernel_rfl) (by simp) ?_
      refine AllReadyH.cons rfl (fun K hK => ?_) AllReadyH.nil
      refine step_append_lies _ rfl _ _ _ (by rfl) 0 25 i0 _ 3 40 Tryd.underlying30 hi hz0 hz1 hz2 rfl (by omega) (.slice A ln c) ln ((l.zip hs).flatMap rtC) (by rfl) (k7.rows.alloc _) ⟨w7.heap.size, 0, none⟩ 1 1 [.int .i64 r.kind, .int .i64 r.cost, .slice A4 n c4] (by rfl) (by rfl) (World.news_of_block (cs := #[.int .i64 r.kind, .int .i64 r.cost, .slice A4 n c4]) (t := 25) (fr := (0, 0)) (heap_alloc_new w7 _)) (by simp [Value.oneCell']) (by omega) h63 hby (by simp) (w7.heap.size + 1) (by simp) ?_
      intro g cap w9 own9 hg9 hat9 hlt9
      have k9 := (k7.blk.alloc _).grown hg9 HNE.out.1
      have x9 := (k7.box.alloc _).grown hg9 HNE.out.2.1
      have k90 := k9.cell 1
      have k91 := k9.frozen 1
      have x90 := x9.cell 0
      have x91 := x9.cell 1
      have x92 := x9.cell 2
      have y90 := fun u => (x9.far (p := ⟨sb, 1, none⟩) HNE.out.2.2 u).cell 0
      have y91 := fun u => (x9.far (p := ⟨sb, 1, none⟩) HNE.out.2.2 u).cell 1
      have y92 := fun u => (x9.far (p := ⟨sb, 1, none⟩) HNE.out.2.2 u).cell 2
      refine hK.out _ _ (by go_keep) (fun hHeld => ?_)
      clear hK
      try simp only [Act.put, List.setIfInBounds_toArray, List.set_cons_zero, List.set_cons_succ]
      refine wpAnyH_take (i := 15) (oi := ?o14) (v := ?v14) ?h14 ?s14 ?f14 ?c14 ?q14 ?y14 hHeld ?r14
      case h14 => (simp only [List.getElem?_toArray, List.getElem?_cons_succ, List.getElem?_cons_zero]; rfl)
      case s14 => kernel_rfl
      case f14 => kernel_rfl
      case c14 => kernel_rfl
      case y14 => (refine Or.inl ⟨by rfl, ?_⟩; intro w hSw; (try dsimp only at hSw); go_simp; (try with_reducible rfl))
      case q14 => exact fun _ _ _ h => h
      try simp only [Act.put, List.setIfInBounds_toArray, List.set_cons_zero, List.set_cons_succ]
      refine wpAnyH_take (i := 16) (oi := ?o15) (v := ?v15) ?h15 ?s15 ?f15 ?c15 ?q15 ?y15 hHeld ?r15
      case h15 => (simp only [List.getElem?_toArray, List.getElem?_cons_succ, List.getElem?_cons_zero]; rfl)
      case s15 => kernel_rfl
      case f15 => kernel_rfl
      case c15 => kernel_rfl
      case y15 => (refine Or.inl ⟨by rfl, ?_⟩; intro w hSw; (try dsimp only at hSw); go_simp; (try with_reducible rfl))
      case q15 => exact fun _ _ _ h => h
      try simp only [Act.put, List.setIfInBounds_toArray, List.set_cons_zero, List.set_cons_succ]
      refine wpAnyH_ready (rs := [17]) (by kernel_rfl) (by simp) ?_
      refine AllReadyH.cons rfl (fun K hK => ?_) AllReadyH.nil
      go_simp
      refine hK.out _ _ (by go_keep) (fun hHeld => ?_)
      clear hK
      try simp only [Act.put, List.setIfInBounds_toArray, List.set_cons_zero, List.set_cons_succ]
      refine wpAnyH_done (by kernel_rfl) ?_ _
      go_step
      go_wp2
      go_ret2
      have e := HLN.out
      subst e
      exact HFIN.out _ (ref_grown h4.ref HLT.out h4.box.up (((Below.refl _ _).drew).trans hb7) own7 (Nat.le_refl _) HN.out h12 hg9 own9 hat9 HF.out HL4.out)
    · go_simp
      refine hK.out _ _ (by go_keep) (fun hHeld => ?_)
      clear hK
      try simp only [Act.put, List.setIfInBounds_toArray, List.set_cons_zero, List.set_cons_succ]
      refine wpAnyH_ready (rs := [4]) (by kernel_rfl) (by simp) ?_
      refine AllReadyH.cons rfl (fun K hK => ?_) AllReadyH.nil
      go_simp
      refine hK.out _ _ (by go_keep) (fun hHeld => ?_)
      clear hK
      try simp only [Act.put, List.setIfInBounds_toArray, List.set_cons_zero, List.set_cons_succ]
      refine wpAnyH_ready (rs := [14]) (by kernel_rfl) (by simp) ?_
      refine AllReadyH.cons rfl (fun K hK => ?_) AllReadyH.nil
      refine step_append_lies _ rfl _ _ _ (by rfl) 0 25 i0 _ 3 40 Tryd.underlying30 hi hz0 hz1 hz2 rfl (by omega) (.slice A ln c) ln ((l.zip hs).flatMap rtC) (by rfl) (k7.rows.alloc _) ⟨w7.heap.size, 0, none⟩ 1 1 [.int .i64 r.kind, .int .i64 r.cost, .slice A4 n c4] (by rfl) (by rfl) (World.news_of_block (cs := #[.int .i64 r.kind, .int .i64 r.cost, .slice A4 n c4]) (t := 25) (fr := (0, 0)) (heap_alloc_new w7 _)) (by simp [Value.oneCell']) (by omega) h63 hby (by simp) (w7.heap.size + 1) (by simp) ?_
      intro g cap w9 own9 hg9 hat9 hlt9
      have k9 := (k7.blk.alloc _).grown hg9 HNE.out.1
      have x9 := (k7.box.alloc _).grown hg9 HNE.out.2.1
      have k90 := k9.cell 1
      have k91 := k9.frozen 1
      have x90 := x9.cell 0
      have x91 := x9.cell 1
      have x92 := x9.cell 2
      have y90 := fun u => (x9.far (p := ⟨sb, 1, none⟩) HNE.out.2.2 u).cell 0
      have y91 := fun u => (x9.far (p := ⟨sb, 1, none⟩) HNE.out.2.2 u).cell 1
      have y92 := fun u => (x9.far (p := ⟨sb, 1, none⟩) HNE.out.2.2 u).cell 2
      refine hK.out _ _ (by go_keep) (fun hHeld => ?_)
      clear hK
      try simp only [Act.put, List.setIfInBounds_toArray, List.set_cons_zero, List.set_cons_succ]
      refine wpAnyH_take (i := 15) (oi := ?o16) (v := ?v16) ?h16 ?s16 ?f16 ?c16 ?q16 ?y16 hHeld ?r16
      case h16 => (simp only [List.getElem?_toArray, List.getElem?_cons_succ, List.getElem?_cons_zero]; rfl)
      case s16 => kernel_rfl
      case f16 => kernel_rfl
      case c16 => kernel_rfl
      case y16 => (refine Or.inl ⟨by rfl, ?_⟩; intro w hSw; (try dsimp only at hSw); go_simp; (try with_reducible rfl))
      case q16 => exact fun _ _ _ h => h
      try simp only [Act.put, List.setIfInBounds_toArray, List.set_cons_zero, List.set_cons_succ]
      refine wpAnyH_take (i := 16) (oi := ?o17) (v := ?v17) ?h17 ?s17 ?f17 ?c17 ?q17 ?y17 hHeld ?r17
      case h17 => (simp only [List.getElem?_toArray, List.getElem?_cons_succ, List.getElem?_cons_zero]; rfl)
      case s17 => kernel_rfl
      case f17 => kernel_rfl
      case c17 => kernel_rfl
      case y17 => (refine Or.inl ⟨by rfl, ?_⟩; intro w hSw; (try dsimp only at hSw); go_simp; (try with_reducible rfl))
      case q17 => exact fun _ _ _ h => h
      try simp only [Act.put, List.setIfInBounds_toArray, List.set_cons_zero, List.set_cons_succ]
      refine wpAnyH_ready (rs := [17]) (by kernel_rfl) (by simp) ?_
      refine AllReadyH.cons rfl (fun K hK => ?_) AllReadyH.nil
      go_simp
      refine hK.out _ _ (by go_keep) (fun hHeld => ?_)
      clear hK
      try simp only [Act.put, List.setIfInBounds_toArray, List.set_cons_zero, List.set_cons_succ]
      refine wpAnyH_done (by kernel_rfl) ?_ _
      go_step
      go_wp2
      go_ret2
      have e := HLN.out
      subst e
      exact HFIN.out _ (ref_grown h4.ref HLT.out h4.box.up (((Below.refl _ _).drew).trans hb7) own7 (Nat.le_refl _) HN.out h12 hg9 own9 hat9 HF.out HL4.out)

theorem refAdd_any {F : Nat → Prop} {sb : Nat} {most : Int} {l : List Rt} {w : World} (h : RefAt F w sb most l) (r : Rt) (hl4 : l.length < 4096) {Ar : Option Addr} {n ca : Nat} (hr : RtAt w r Ar n) :
    Calls Tryd.prog 14 #[.pointer (some ⟨sb, 0, none⟩), .agg #[.int .i64 r.kind, .int .i64 r.cost, .slice Ar n ca]] w (RefTells F w sb most l r) := by
  cases hR : rtRight r
  · exact refAdd_bad h r hR ca hr
  · by_cases hz : most = 0
    · exact refAdd_zero h r hR hz ca hr
    · by_cases hm : r ∈ l
      · exact refAdd_old h r hR hz hm ca hr
      · by_cases hf : (l.length : Int) < most
        · exact refAdd_new h r hR hz hm hf hl4 ca hr
        · exact refAdd_full h r hR hz hm hf ca hr
end Go.Proofs.YtlfdpfkimggeoaaDoor
