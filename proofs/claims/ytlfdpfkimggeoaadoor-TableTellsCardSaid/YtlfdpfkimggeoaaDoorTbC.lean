/-
  Package table: Add.
-/
import Derived.Test.YtlfdpfkimggeoaaDoorTbB
namespace Go.Proofs.YtlfdpfkimggeoaaDoor
open Go.RowKit
set_option linter.unusedVariables false
set_option linter.unusedSimpArgs false

theorem tFind_is {F : Nat → Prop} {tb : Nat} {most : Int} {l : List Rt} {w : World} (h : TabAt F w tb most l) (r : Rt) (v : Int) (HV : Hid (ixR r l = v)) {Ar : Option Addr} {n ca : Nat} (hr : RtAt w r Ar n) (hl : n ≤ ca) (hc : ca ≤ 9223372036854775807) (PT : PowTab w) :
    Calls Tryd.prog 16 #[.pointer (some ⟨tb, 0, none⟩), .agg #[.int .i64 r.kind, .int .i64 r.cost, .slice Ar n ca]] w fun e w' => e = .returned (.int .i64 v) ∧ Below w.heap.size w w' :=
  (tFind_any h r ca hr hl hc PT).mono fun e w' ⟨he, hw⟩ => ⟨by rw [he, HV.out], hw⟩
theorem TS.at2 {F : Nat → Prop} {w W : World} {tb : Nat} {most : Int} {l : List Rt} {A : Option Addr} {c mb : Nat} {D : DataW Unit} {hs : List (Option Addr × Nat)} {r : Rt} {Ar : Option Addr} {n ca : Nat} (h : TS F w tb most l A c mb D hs r Ar n ca W) : TabAt F W tb most l := ⟨_, _, _, _, _, h.tab⟩

/-- What Add tells: a number, an error, the routes behind it. -/
def addK (most : Int) (l : List Rt) (r : Rt) : Int := if rtRight r = true then (if r ∈ l then ixR r l else if (l.length : Int) < most then l.length else 0) else 0
def addE (most : Int) (l : List Rt) (r : Rt) : Int := if rtRight r = true then (if r ∈ l then 0 else if (l.length : Int) < most then 0 else 60) else 1
def addL (most : Int) (l : List Rt) (r : Rt) : List Rt := if rtRight r = true ∧ r ∉ l ∧ (l.length : Int) < most then l ++ [r] else l
/-- A table's blocks, and those that came. -/
def grewF (F : Nat → Prop) (w w' : World) : Nat → Prop := fun k => F k ∨ (w.heap.size ≤ k ∧ k < w'.heap.size)
def AddTells (F : Nat → Prop) (w : World) (tb : Nat) (most : Int) (l : List Rt) (r : Rt) (e : Ending) (w' : World) : Prop :=
  e = .returned (.tuple #[.int .i64 (addK most l r), .int .i64 (addE most l r)]) ∧ Sep F w w' ∧ TabAt (grewF F w w') w' tb most (addL most l r)
theorem TabAt.wide {F : Nat → Prop} {w w' : World} {tb : Nat} {most : Int} {l : List Rt} (h : TabAt F w tb most l) (hb : Below w.heap.size w w') : TabAt (grewF F w w') w' tb most l := by
  obtain ⟨A, c, mb, D, hs, h⟩ := h
  have h' := h.go hb
  exact ⟨A, c, mb, D, hs,
    { lt := fun k hk => hk.elim (fun h1 => h'.lt k h1) (fun h1 => h1.2)
      fT := .inl h'.fT, fM := .inl h'.fM, fR := fun g hg => ⟨.inl (h'.fR g hg).1, (h'.fR g hg).2⟩, ne := h'.ne, blk := h'.blk, rows := h'.rows, hl := h'.hl
      paths := fun i r q h1 h2 => ⟨(h'.paths i r q h1 h2).1, fun a ha => ⟨.inl ((h'.paths i r q h1 h2).2 a ha).1, ((h'.paths i r q h1 h2).2 a ha).2⟩⟩
      map := h'.map, is := h'.is, right := h'.right, nodup := h'.nodup, len := h'.len, most := h'.most }⟩
theorem AddTells.same {F : Nat → Prop} {w w' : World} {tb : Nat} {most : Int} {l : List Rt} {r : Rt} {K E : Int} (h : TabAt F w tb most l) (hK : addK most l r = K) (hE : addE most l r = E) (hL : addL most l r = l) (hb : Below w.heap.size w w') : AddTells F w tb most l r (.returned (.tuple #[.int .i64 K, .int .i64 E])) w' :=
  ⟨by rw [hK, hE], Sep.of_below hb, by rw [hL]; exact h.wide hb⟩

set_option maxHeartbeats 4000000 in
set_option maxRecDepth 100000 in
theorem tAdd_bad {F : Nat → Prop} {tb : Nat} {most : Int} {l : List Rt} {w : World} (h : TabAt F w tb most l) (r : Rt) (hR : rtRight r = false) {Ar : Option Addr} {n : Nat} (ca : Nat) (hr : RtAt w r Ar n) (hl : n ≤ ca) (hc : ca ≤ 9223372036854775807) (PT : PowTab w) :
    Calls Tryd.prog 13 #[.pointer (some ⟨tb, 0, none⟩), .agg #[.int .i64 r.kind, .int .i64 r.cost, .slice Ar n ca]] w (AddTells F w tb most l r) := by
  have H0 := h
  have HR := Lib.hid hR
  have FIN : ∀ w', Below w.heap.size w w' → AddTells F w tb most l r (.returned (.tuple #[.int .i64 0, .int .i64 1])) w' := fun w' hb => AddTells.same h (by unfold addK; rw [if_neg (by simp [hR])]) (by unfold addE; rw [if_neg (by simp [hR])]) (by unfold addL; rw [if_neg (by simp [hR])]) hb
  have HFIN := Lib.hid FIN
  obtain ⟨A, c, mb, D, hs, h⟩ := h
  have h1 := TS.new (ca := ca) h hr PT
  obtain ⟨c0, c1, c2, b0, b1, b2⟩ := h1.cells
  clear h hr PT hR FIN
  go_enter Tryd.func13, Tryd.ntmps13
  go_wp2_with (go_at_call 23; (with_reducible refine (atRight_is r false HR h1.at_ hl hc).mono ?_); rintro e w2 ⟨rfl, hb2⟩)
  go_ret2
  exact HFIN.out _ (below_on h1.box.up hb2)

set_option maxHeartbeats 4000000 in
set_option maxRecDepth 100000 in
theorem tAdd_old {F : Nat → Prop} {tb : Nat} {most : Int} {l : List Rt} {w : World} (h : TabAt F w tb most l) (r : Rt) (hR : rtRight r = true) (hm : r ∈ l) {Ar : Option Addr} {n : Nat} (ca : Nat) (hr : RtAt w r Ar n) (hl : n ≤ ca) (hc : ca ≤ 9223372036854775807) (PT : PowTab w) :
    Calls Tryd.prog 13 #[.pointer (some ⟨tb, 0, none⟩), .agg #[.int .i64 r.kind, .int .i64 r.cost, .slice Ar n ca]] w (AddTells F w tb most l r) := by
  have HR := Lib.hid hR
  obtain ⟨v, hv⟩ : ∃ v, ixR r l = v := ⟨_, rfl⟩
  have HV := Lib.hid hv
  have FIN : ∀ w', Below w.heap.size w w' → AddTells F w tb most l r (.returned (.tuple #[.int .i64 v, .int .i64 0])) w' := fun w' hb => AddTells.same h (by unfold addK; rw [if_pos hR, if_pos hm, hv]) (by unfold addE; rw [if_pos hR, if_pos hm]) (by unfold addL; rw [if_neg (fun e => e.2.1 hm)]) hb
  have HFIN := Lib.hid FIN
  obtain ⟨A, c, mb, D, hs, h⟩ := h
  have v0 : 0 ≤ v := by obtain ⟨i, hi, _⟩ := ixR_some hm; rw [ixR_at h.nodup hi] at hv; omega
  have h1 := TS.new (ca := ca) h hr PT
  obtain ⟨c0, c1, c2, b0, b1, b2⟩ := h1.cells
  clear h hr PT hR FIN hv hm
  go_enter Tryd.func13, Tryd.ntmps13
  go_wp2_with (first
    | (go_at_call 23; (with_reducible refine (atRight_is r true HR h1.at_ hl hc).mono ?_); rintro e w2 ⟨rfl, hb2⟩; have h2 := h1.go hb2; obtain ⟨d0, d1, d2, x0, x1, x2⟩ := h2.cells)
    | (go_at_call 16; (with_reducible refine (tFind_is h2.at2 r v HV h2.at_ hl hc h2.pow).mono ?_); rintro e w3 ⟨rfl, hb3⟩; have h3 := h2.go hb3))
  go_ret2
  exact HFIN.out _ h3.box.up

set_option maxHeartbeats 4000000 in
set_option maxRecDepth 100000 in
theorem tAdd_full {F : Nat → Prop} {tb : Nat} {most : Int} {l : List Rt} {w : World} (h : TabAt F w tb most l) (r : Rt) (hR : rtRight r = true) (hm : r ∉ l) (hf : ¬ (l.length : Int) < most) {Ar : Option Addr} {n : Nat} (ca : Nat) (hr : RtAt w r Ar n) (hl : n ≤ ca) (hc : ca ≤ 9223372036854775807) (PT : PowTab w) :
    Calls Tryd.prog 13 #[.pointer (some ⟨tb, 0, none⟩), .agg #[.int .i64 r.kind, .int .i64 r.cost, .slice Ar n ca]] w (AddTells F w tb most l r) := by
  have HR := Lib.hid hR
  have HV : Hid (ixR r l = -1) := Lib.hid (ixR_not hm)
  have FIN : ∀ w', Below w.heap.size w w' → AddTells F w tb most l r (.returned (.tuple #[.int .i64 0, .int .i64 60])) w' := fun w' hb => AddTells.same h (by unfold addK; rw [if_pos hR, if_neg hm, if_neg hf]) (by unfold addE; rw [if_pos hR, if_neg hm, if_neg hf]) (by unfold addL; rw [if_neg (fun e => hf e.2.2)]) hb
  have HFIN := Lib.hid FIN
  obtain ⟨A, c, mb, D, hs, h⟩ := h
  obtain ⟨ln, hln⟩ : ∃ ln, l.length = ln := ⟨_, rfl⟩
  have HLN := Lib.hid hln
  have t0 : most ≤ (ln : Int) := by omega
  have t1 : decide (most ≤ (ln : Int)) = true := by simpa using t0
  have h1 := TS.new (ca := ca) h hr PT
  obtain ⟨c0, c1, c2, b0, b1, b2⟩ := h1.cells
  rw [hln] at c1
  clear h hr PT hR FIN hm hf hln
  go_enter Tryd.func13, Tryd.ntmps13
  go_wp2_with (first
    | (go_at_call 23; (with_reducible refine (atRight_is r true HR h1.at_ hl hc).mono ?_); rintro e w2 ⟨rfl, hb2⟩; have h2 := h1.go hb2; obtain ⟨d0, d1, d2, x0, x1, x2⟩ := h2.cells; rw [HLN.out] at d1)
    | (go_at_call 16; (with_reducible refine (tFind_is h2.at2 r (-1) HV h2.at_ hl hc h2.pow).mono ?_); rintro e w3 ⟨rfl, hb3⟩; have h3 := h2.go hb3; obtain ⟨e0, e1, e2, y0, y1, y2⟩ := h3.cells; rw [HLN.out] at e1))
  go_quiet (fail)
  go_wp2
  go_ret2
  exact HFIN.out _ (below_draws h3.box.up _)
end Go.Proofs.YtlfdpfkimggeoaaDoor
