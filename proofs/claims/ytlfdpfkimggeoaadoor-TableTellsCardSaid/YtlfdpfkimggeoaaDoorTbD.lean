/-
  Package table: Add of a route that is new.
-/
import Derived.Test.YtlfdpfkimggeoaaDoorTbC
namespace Go.Proofs.YtlfdpfkimggeoaaDoor
open Go.RowKit
set_option linter.unusedVariables false
set_option linter.unusedSimpArgs false

/-- Cells lie in no map. -/
theorem CellsAt.off_map {w w' : World} {P : Program} {k : TypeId} {R : Value → Option (DataW Unit × List MemPlace)} {b n : Nat} {D : DataW Unit} {A : Option Addr} {xs : List Value} (h : CellsAt w w.heap.size A xs) (hm : w.ownsMap P k R b n D) (hg : w.grownBy w' (some b)) : CellsAt w' w'.heap.size A xs := fun hn => by
  obtain ⟨ad, e, hb, hc⟩ := h hn
  obtain ⟨x, xs', rfl⟩ := List.exists_cons_of_ne_nil hn
  have hne : ad.block ≠ b := fun e1 => by
    obtain ⟨es, clock, hb', _⟩ := hm
    have h0 := hc 0 x rfl
    have hbl := block_of_add ad 0
    unfold World.cell? at h0
    rw [hbl, e1, hb'] at h0
    simp at h0
  refine ⟨ad, e, Nat.lt_of_lt_of_le hb hg.size, fun j u hu => ?_⟩
  refine (World.cell?_of_block (w := w) (a := ad.add j) (hg.block _ ?_ ?_)).trans (hc j u hu)
  · rw [block_of_add]; exact hb
  · rw [block_of_add]; exact fun e1 => hne (by injection e1)

theorem tab_grown {F : Nat → Prop} {w w5 w6 w7 w9 : World} {tb : Nat} {most : Int} {l : List Rt} {A : Option Addr} {c mb : Nat} {D D' : DataW Unit} {hs : List (Option Addr × Nat)} {r : Rt} {A4 : Option Addr} {n c4 B g cap : Nat} {o : Obj}
    (h5 : TabIn F w5 tb most l A c mb D hs) (hF : ∀ k, F k → k < w.heap.size) (b5 : Below w.heap.size w w5)
    (m6 : w6.ownsMap Tryd.prog 9 (plainElem Tryd.prog 3) mb (l.length + 1) D') (g6 : w5.grownBy w6 (some mb)) (hD : MapIs D' (l ++ [r]))
    (b7 : Below w6.heap.size w6 w7) (ho : w7.ownsRow B 3 1 (.slice A4 n c4) n (r.path.map (Value.int .i64))) (hB : w6.heap.size ≤ B) (hn : r.path.length = n) (hn12 : n ≤ 12)
    (g9 : (w7.alloc o).grownBy w9 (Value.slice A l.length c).ownBlock)
    (o9 : w9.ownsRow 0 25 3 (.slice (some ⟨g, 0, none⟩) (l.length + 1) cap) (l.length + 1) ((l.zip hs).flatMap rtC ++ [.int .i64 r.kind, .int .i64 r.cost, .slice A4 n c4]))
    (hat : (Value.slice A l.length c).ownBlock = some g ∨ g = w7.heap.size + 1) (hr : rtRight r = true) (hnot : r ∉ l) (hlt : (l.length : Int) < most) :
    Sep F w (w9.setCell ⟨tb, 1, none⟩ (.slice (some ⟨g, 0, none⟩) (l.length + 1) cap)) ∧ TabAt (grewF F w (w9.setCell ⟨tb, 1, none⟩ (.slice (some ⟨g, 0, none⟩) (l.length + 1) cap))) (w9.setCell ⟨tb, 1, none⟩ (.slice (some ⟨g, 0, none⟩) (l.length + 1) cap)) tb most (l ++ [r]) := by
  subst hn
  have z5 := b5.size
  have z6 := g6.size
  have z7 := b7.size
  have z9 : w7.heap.size + 1 ≤ w9.heap.size := by have := g9.size; simpa using this
  obtain ⟨W, hW⟩ : ∃ W, W = w9.setCell ⟨tb, 1, none⟩ (.slice (some ⟨g, 0, none⟩) (l.length + 1) cap) := ⟨_, rfl⟩
  have zW : W.heap.size = w9.heap.size := by rw [hW]; simp [World.setCell]
  have tlt := hF _ h5.fT
  have mlt := hF _ h5.fM
  have glt : ∀ g', (Value.slice A l.length c).ownBlock = some g' → g' < w.heap.size := fun g' h => hF _ (h5.fR g' h).1
  let MF : Nat → Prop := fun k => k = tb ∨ k = mb ∨ (Value.slice A l.length c).ownBlock = some k
  have hMF : ∀ k, MF k → F k := fun k hk => by
    rcases hk with rfl | rfl | hk
    · exact h5.fT
    · exact h5.fM
    · exact (h5.fR k hk).1
  have s6 : Sep MF w5 w6 := Sep.of_grown g6 fun k hk => .inr (.inl (by injection hk with hk; exact hk.symm))
  have s7 : Sep MF w6 w7 := Sep.of_below b7
  have s8 : Sep MF w7 (w7.alloc o) := Sep.of_below (below_new _ _)
  have s9 : Sep MF (w7.alloc o) w9 := Sep.of_grown g9 fun k hk => .inr (.inr hk)
  have s10 : Sep MF w9 W := by rw [hW]; exact Sep.of_set _ _ _ (.inl rfl)
  have s710 : Sep MF w7 W := ((s8.trans s9 fun _ _ h => h).trans s10 fun _ _ h => h)
  have s510 : Sep MF w5 W := ((s6.trans s7 fun _ _ h => h).trans s710 fun _ _ h => h)
  have S : Sep F w W := (Sep.of_below b5 : Sep F w w5).trans s510 fun i _ h => hMF i h
  have k9 : Blk w9 tb 49 #[.int .i64 most, .slice A l.length c, .map (some mb)] :=
    ((((h5.blk.grown g6 (fun e => h5.ne (by injection e with e; exact e.symm))).up b7).alloc o).grown g9 (fun e => (h5.fR tb e.symm).2.1 rfl))
  have k10 : Blk W tb 49 #[.int .i64 most, .slice (some ⟨g, 0, none⟩) (l.length + 1) cap, .map (some mb)] := by rw [hW]; exact k9.set_ 1 _
  have o10 := own_setA o9 k9 (by decide) 1 (.slice (some ⟨g, 0, none⟩) (l.length + 1) cap)
  rw [← hW] at o10
  have m7 : w7.ownsMap Tryd.prog 9 (plainElem Tryd.prog 3) mb (l.length + 1) D' := map_sep (F := fun _ => False) m6 (Sep.of_below b7) id
  have m9 := (m7.alloc o).kept g9 (fun e => (h5.fR mb e.symm).2.2 rfl)
  have m10 : W.ownsMap Tryd.prog 9 (plainElem Tryd.prog 3) mb (l.length + 1) D' := by rw [hW]; exact m9.setCell h5.ne _
  have hlen : (l ++ [r]).length = l.length + 1 := by simp
  have hg0 : ∀ g', (Value.slice (some ⟨g, 0, none⟩) (l.length + 1) cap).ownBlock = some g' → g' = g := fun g' h => by simpa [Value.ownBlock] using h.symm
  have gF : grewF F w W g := by
    rcases hat with h | h
    · exact .inl (h5.fR g h).1
    · exact .inr ⟨by omega, by have := (o9.lt g rfl).2; omega⟩
  have g1 : g ≠ tb := by
    rcases hat with h | h
    · exact (h5.fR g h).2.1
    · omega
  have g2 : g ≠ mb := by
    rcases hat with h | h
    · exact (h5.fR g h).2.2
    · omega
  have hA4 : ∀ a, A4 = some a → B ≤ a.block ∧ a.block < w7.heap.size := fun a ha => by
    have := ho.lt a.block (by rw [ha]; rfl)
    exact this
  rw [← hW]
  refine ⟨S, some ⟨g, 0, none⟩, cap, mb, D', hs ++ [(A4, c4)], ?_⟩
  exact
    { lt := fun k hk => hk.elim (fun h1 => by have := hF k h1; omega) (fun h1 => h1.2)
      fT := .inl h5.fT
      fM := .inl h5.fM
      fR := fun g' hg' => by rw [hlen] at hg'; have := hg0 g' hg'; subst this; exact ⟨gF, g1, g2⟩
      ne := h5.ne
      blk := by rw [hlen]; exact k10
      rows := by rw [hlen, flat_snoc l hs r (A4, c4) h5.hl]; exact o10
      hl := by simp [h5.hl]
      paths := fun i r' q e1 e2 => by
        rw [hlen]
        rcases Nat.lt_or_ge i l.length with hi | hi
        · rw [List.getElem?_append_left hi] at e1
          rw [List.getElem?_append_left (by rw [h5.hl]; exact hi)] at e2
          obtain ⟨p1, p2⟩ := h5.paths i r' q e1 e2
          refine ⟨p1.sep s510 fun a ha hm => ?_, fun a ha => ?_⟩
          · obtain ⟨_, q1, q2, q3⟩ := p2 a ha
            rcases hm with h | h | h
            · exact q1 h
            · exact q2 h
            · exact q3 h
          · obtain ⟨q0, q1, q2, q3⟩ := p2 a ha
            refine ⟨.inl q0, q1, q2, fun e => ?_⟩
            have := hg0 _ e
            rcases hat with h | h
            · exact q3 (by rw [this]; exact h)
            · have := hF _ q0; omega
        · have hi' : i = l.length := by
            have := (List.getElem?_eq_some_iff.1 e1).1
            simp at this; omega
          subst hi'
          simp at e1
          rw [← h5.hl] at e2
          simp at e2
          subst e1 e2
          refine ⟨(RtGives.at_ (w := w) ho (by omega)).sep s710 fun a ha hm => ?_, fun a ha => ?_⟩
          · obtain ⟨q1, q2⟩ := hA4 a ha
            rcases hm with h | h | h
            · omega
            · omega
            · have := glt _ h; omega
          · obtain ⟨q1, q2⟩ := hA4 a ha
            refine ⟨.inr ⟨by omega, by omega⟩, by omega, by omega, fun e => ?_⟩
            have := hg0 _ e
            rcases hat with h | h
            · have := glt _ h; omega
            · omega
      map := by rw [hlen]; exact m10
      is := hD
      right := fun r' h => by
        rcases List.mem_append.1 h with h | h
        · exact h5.right r' h
        · simp at h; subst h; exact hr
      nodup := by
        rw [List.nodup_append]
        refine ⟨h5.nodup, by simp, fun a ha b hb => ?_⟩
        simp at hb
        subst hb
        exact fun e => hnot (by rw [← e]; exact ha)
      len := by rw [hlen]; omega
      most := h5.most }

/-- What Add's second half leans on. -/
structure T2 (w : World) (tb : Nat) (most : Int) (v : Value) (m : Value) (ln : Nat) (xs : List Value) (r : Rt) (Ar : Option Addr) (n ca : Nat) (W : World) : Prop where
  blk : Blk W tb 49 #[.int .i64 most, v, m]
  rows : W.ownsRow 0 25 3 v ln xs
  box : Blk W w.heap.size 25 #[.int .i64 r.kind, .int .i64 r.cost, .slice Ar n ca]
  at_ : RtAt W r Ar n
section
variable {w W W' : World} {tb : Nat} {most : Int} {v m : Value} {ln : Nat} {xs : List Value} {r : Rt} {Ar : Option Addr} {n ca : Nat}
theorem T2.go (h : T2 w tb most v m ln xs r Ar n ca W) (hb : Below W.heap.size W W') : T2 w tb most v m ln xs r Ar n ca W' := ⟨h.blk.up hb, own_below h.rows hb, h.box.up hb, h.at_.on hb⟩
theorem T2.drew (h : T2 w tb most v m ln xs r Ar n ca W) : T2 w tb most v m ln xs r Ar n ca W.drew := h.go ((Below.refl _ _).drew)
theorem T2.cells (h : T2 w tb most v m ln xs r Ar n ca W) : W.cell? ⟨tb, 1, none⟩ = some v ∧ W.frozen? ⟨tb, 1, none⟩ = false ∧ W.cell? ⟨w.heap.size, 0, none⟩ = some (.int .i64 r.kind) ∧ W.cell? ⟨w.heap.size, 1, none⟩ = some (.int .i64 r.cost) ∧ W.cell? ⟨w.heap.size, 2, none⟩ = some (.slice Ar n ca) :=
  ⟨h.blk.cell 1, h.blk.frozen 1, h.box.cell 0, h.box.cell 1, h.box.cell 2⟩
end

theorem wf_nat {a : Int} (h0 : 0 ≤ a) (h1 : a ≤ 9223372036854775807) : (Lit.int .i64 a).wf = true := by
  simp [Lit.wf, IntKind.min, IntKind.max, IntKind.signed, IntKind.bits]; omega
theorem T2.of_ts {F : Nat → Prop} {w W W' : World} {tb : Nat} {most : Int} {l : List Rt} {A : Option Addr} {c mb : Nat} {D : DataW Unit} {hs : List (Option Addr × Nat)} {r : Rt} {Ar : Option Addr} {n ca : Nat} (h : TS F w tb most l A c mb D hs r Ar n ca W) (hT : mb < w.heap.size) (hg : W.grownBy W' (some mb)) {ln : Nat} (hln : l.length = ln) :
    T2 w tb most (.slice A ln c) (.map (some mb)) ln ((l.zip hs).flatMap rtC) r Ar n ca W' := by
  subst hln
  exact ⟨h.tab.blk.grown hg (fun e => h.tab.ne (by injection e with e; exact e.symm)), h.tab.rows.kept hg (by
    cases hv : (Value.slice A l.length c).ownBlock with
    | none => exact .inl rfl
    | some g => exact .inr fun e => (h.tab.fR g hv).2.2 (by injection e)), h.box.one.grown hg (fun e => by injection e with e; omega), h.at_.1, h.at_.2.1.off_map h.tab.map hg, h.at_.2.2⟩

set_option maxHeartbeats 8000000 in
set_option maxRecDepth 100000 in
theorem tAdd_new {F : Nat → Prop} {tb : Nat} {most : Int} {l : List Rt} {w : World} (h : TabAt F w tb most l) (r : Rt) (hR : rtRight r = true) (hm : r ∉ l) (hf : (l.length : Int) < most) {Ar : Option Addr} {n : Nat} (ca : Nat) (hr : RtAt w r Ar n) (hl : n ≤ ca) (hc : ca ≤ 9223372036854775807) (PT : PowTab w) :
    Calls Tryd.prog 13 #[.pointer (some ⟨tb, 0, none⟩), .agg #[.int .i64 r.kind, .int .i64 r.cost, .slice Ar n ca]] w (AddTells F w tb most l r) := by
  have HR := Lib.hid hR
  have HV : Hid (ixR r l = -1) := Lib.hid (ixR_not hm)
  obtain ⟨ln, hln⟩ : ∃ ln, l.length = ln := ⟨_, rfl⟩
  have HLN := Lib.hid hln
  have FIN : ∀ w', (Sep F w w' ∧ TabAt (grewF F w w') w' tb most (l ++ [r])) → AddTells F w tb most l r (.returned (.tuple #[.int .i64 (ln : Int), .int .i64 0])) w' := fun w' hb => by
    refine ⟨?_, hb.1, ?_⟩
    · unfold addK addE; rw [if_pos hR, if_neg hm, if_pos hf, if_pos hR, if_neg hm, if_pos hf, hln]
    · unfold addL; rw [if_pos ⟨hR, hm, hf⟩]; exact hb.2
  have HFIN := Lib.hid FIN
  have HM := Lib.hid hm
  have HF := Lib.hid hf
  obtain ⟨s, hs'⟩ : ∃ s, rtS r = s := ⟨_, rfl⟩
  have HS := Lib.hid hs'
  obtain ⟨A, c, mb, D, hs, h⟩ := h
  have HT := Lib.hid h
  have HN := Lib.hid hr.1
  have hmb : mb < w.heap.size := h.lt _ h.fM
  have HMB := Lib.hid hmb
  have HTB : Hid (w.heap.size ≠ tb) := Lib.hid (by have := h.lt _ h.fT; omega)
  have HNE : Hid (some tb ≠ (Value.slice A ln c).ownBlock ∧ some w.heap.size ≠ (Value.slice A ln c).ownBlock) := Lib.hid (by
    rw [← hln]
    exact ⟨fun e => (h.fR tb e.symm).2.1 rfl, fun e => by have := h.lt _ (h.fR _ e.symm).1; omega⟩)
  have h12 : n ≤ 12 := by have := rt_len hR; have := hr.1; omega
  have t0 : (ln : Int) < most := by omega
  have t1 : decide (most ≤ (ln : Int)) = false := by simpa using t0
  have hmost := h.most
  have hml : ln < maxLen := by unfold maxLen; omega
  have h1 := TS.new (ca := ca) h hr PT
  obtain ⟨c0, c1, c2, b0, b1, b2⟩ := h1.cells
  rw [hln] at c1
  obtain ⟨i0, hi, hz0, hz1, hz2⟩ := info_parts rtInfo
  clear h hr PT hR FIN hm hf hln hs'
  go_enter Tryd.func13, Tryd.ntmps13
  go_wp2_with (first
    | (go_at_call 23; (with_reducible refine (atRight_is r true HR h1.at_ hl hc).mono ?_); rintro e w2 ⟨rfl, hb2⟩; have h2 := h1.go hb2; obtain ⟨d0, d1, d2, x0, x1, x2⟩ := h2.cells; rw [HLN.out] at d1)
    | (go_at_call 16; (with_reducible refine (tFind_is h2.at2 r (-1) HV h2.at_ hl hc h2.pow).mono ?_); rintro e w3 ⟨rfl, hb3⟩; have h3 := h2.go hb3; obtain ⟨e0, e1, e2, y0, y1, y2⟩ := h3.cells; rw [HLN.out] at e1))
  go_quiet (fail)
  obtain ⟨W3, hW3⟩ : ∃ W3, W3 = w3.drewN nq := ⟨_, rfl⟩
  have h4 : TS F w tb most l A c mb D hs r Ar n ca W3 := by rw [hW3]; exact h3.go (below_drewN _ _)
  rw [← hW3]
  clear hW3 h1 h2 h3 c0 c1 c2 b0 b1 b2 d0 d1 d2 x0 x1 x2 e0 e1 e2 y0 y1 y2 hb2 hb3
  obtain ⟨c0, c1, c2, b0, b1, b2⟩ := h4.cells
  rw [HLN.out] at c1
  have h4d := h4.drew
  have HML : Hid (l.length < maxLen) := Lib.hid (by rw [HLN.out]; exact hml)
  have HWF : Hid ((Lit.int .i64 (ln : Int)).wf = true) := Lib.hid (wf_nat (by omega) (by unfold maxLen at hml; omega))
  have h63 : ln + 1 ≤ maxLen := by omega
  have hby : (ln + 1) * 40 ≤ 140737488355328 := by omega
  go_wp2_with fail
  go_region_held3 (fun w' => w'.cell? ⟨tb, 2, none⟩ = some (.map (some mb)) ∧ w'.cell? ⟨w.heap.size, 0, none⟩ = some (.int .i64 r.kind) ∧ w'.cell? ⟨w.heap.size, 1, none⟩ = some (.int .i64 r.cost) ∧ w'.cell? ⟨w.heap.size, 2, none⟩ = some (.slice Ar n ca)) (go_keep) (first
    | (go_at_call 24; (with_reducible refine (atPrint_is r s HS HR h4d.at_ h4d.pow).mono ?_); rintro e w5 ⟨rfl, hb5⟩; have h5 := h4d.go hb5; obtain ⟨e0, e1, e2, y0, y1, y2⟩ := h5.cells; obtain ⟨w6, hrun6, hm6, hg6⟩ := h5.tab.map.update law_str Tryd.underlying47 HML.out (rt_key HR.out s HS.out) (plainElem_int (H := Unit) Tryd.underlying3 (a := (ln : Int)) HWF.out); have h6 := T2.of_ts h5 HMB.out hg6 HLN.out; have E6 := h6.blk.cell 2; obtain ⟨z0, z1, z2, z3, z4⟩ := h6.cells))
  have h6d := h6.drew
  clear hrun6 E6 c0 c1 c2 b0 b1 b2 e0 e1 e2 y0 y1 y2
  go_step
  go_wp2_with fail
  go_region_law (first
    | (go_simp; go_at_call 25; (with_reducible refine (copied_is r HN (by omega) h6d.at_).mono ?_); rintro e w7 ⟨A4, c4, rfl, ho4, hle4, hb7⟩; have h7 := h6d.go hb7; obtain ⟨u0, u1, u2, u3, u4⟩ := h7.cells; have h8 := fun o => (h7.go (below_new w7 o)).cells)
    | ((refine step_append_lies _ (by rfl) _ _ _ (by rfl) 0 25 i0 _ 3 40 Tryd.underlying30 hi hz0 hz1 hz2 rfl (by omega) (.slice A ln c) ln ((l.zip hs).flatMap rtC) (by rfl) (h7.rows.alloc _) ⟨w7.heap.size, 0, none⟩ 1 1 [.int .i64 r.kind, .int .i64 r.cost, .slice A4 n c4] (by rfl) (by rfl) (World.news_of_block (cs := #[.int .i64 r.kind, .int .i64 r.cost, .slice A4 n c4]) (t := 25) (fr := (0, 0)) (heap_alloc_new w7 _)) (by simp [Value.oneCell']) (by omega) h63 hby (by simp) (w7.heap.size + 1) (by simp) ?_; intro g cap w9 own9 hg9 hat9 hlt9; have k9 := (h7.blk.alloc _).grown hg9 HNE.out.1; have x9 := (h7.box.alloc _).grown hg9 HNE.out.2; have k90 := k9.cell 1; have k91 := k9.frozen 1; have x90 := x9.cell 0; have x91 := x9.cell 1; have x92 := x9.cell 2; have y90 := fun u => (x9.far (p := ⟨tb, 1, none⟩) HTB.out u).cell 0; have y91 := fun u => (x9.far (p := ⟨tb, 1, none⟩) HTB.out u).cell 1; have y92 := fun u => (x9.far (p := ⟨tb, 1, none⟩) HTB.out u).cell 2)))
  all_goals go_step
  all_goals go_wp2
  all_goals go_ret2
  all_goals refine HFIN.out _ ?_
  all_goals have e := HLN.out
  all_goals subst e
  all_goals exact tab_grown h5.tab HT.out.lt h5.box.up hm6 hg6 (h5.tab.is.snoc h5.tab.map.isMap HR.out HM.out) (((Below.refl _ _).drew).trans hb7) ho4 (Nat.le_refl _) HN.out h12 hg9 own9 hat9 HR.out HM.out HF.out
end Go.Proofs.YtlfdpfkimggeoaaDoor
