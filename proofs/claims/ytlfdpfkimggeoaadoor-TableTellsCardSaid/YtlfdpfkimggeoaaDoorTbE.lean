/-
  Package table: Add of any route; New; no table at all.
-/
import Derived.Test.YtlfdpfkimggeoaaDoorTbD
namespace Go.Proofs.YtlfdpfkimggeoaaDoor
open Go.RowKit
set_option linter.unusedVariables false
set_option linter.unusedSimpArgs false

theorem tAdd_any {F : Nat → Prop} {tb : Nat} {most : Int} {l : List Rt} {w : World} (h : TabAt F w tb most l) (r : Rt) {Ar : Option Addr} {n ca : Nat} (hr : RtAt w r Ar n) (hl : n ≤ ca) (hc : ca ≤ 9223372036854775807) (PT : PowTab w) :
    Calls Tryd.prog 13 #[.pointer (some ⟨tb, 0, none⟩), .agg #[.int .i64 r.kind, .int .i64 r.cost, .slice Ar n ca]] w (AddTells F w tb most l r) := by
  cases hR : rtRight r
  · exact tAdd_bad h r hR ca hr hl hc PT
  · by_cases hm : r ∈ l
    · exact tAdd_old h r hR hm ca hr hl hc PT
    · by_cases hf : (l.length : Int) < most
      · exact tAdd_new h r hR hm hf ca hr hl hc PT
      · exact tAdd_full h r hR hm hf ca hr hl hc PT
theorem addE_nil (r : Rt) : addE 0 [] r = if rtRight r = true then 60 else 1 := by unfold addE; simp
theorem addK_nil (r : Rt) : addK 0 [] r = 0 := by unfold addK; simp
theorem addL_nil (r : Rt) : addL 0 [] r = [] := by unfold addL; simp
set_option maxHeartbeats 4000000 in
set_option maxRecDepth 100000 in
theorem tAdd_nil (w : World) (r : Rt) {Ar : Option Addr} {n ca : Nat} (hr : RtAt w r Ar n) (hl : n ≤ ca) (hc : ca ≤ 9223372036854775807) :
    Calls Tryd.prog 13 #[.pointer none, .agg #[.int .i64 r.kind, .int .i64 r.cost, .slice Ar n ca]] w fun e w' => e = .returned (.tuple #[.int .i64 (addK 0 [] r), .int .i64 (addE 0 [] r)]) ∧ Below w.heap.size w w' := by
  rw [addK_nil, addE_nil]
  have h1 := Rt1.new w r.kind r.cost Ar n ca
  have hr1 := hr.on h1.up
  obtain ⟨b0, b1, b2⟩ := h1.cells
  by_cases hR : rtRight r = true
  · rw [if_pos hR]
    have HR := Lib.hid hR
    clear hR hr
    go_enter Tryd.func13, Tryd.ntmps13
    go_wp2_with (first
      | (go_at_call 23; (with_reducible refine (atRight_is r true HR hr1 hl hc).mono ?_); rintro e w2 ⟨rfl, hb2⟩; have h2 := h1.go hb2; obtain ⟨x0, x1, x2⟩ := h2.cells)
      | (go_at_call 16; (with_reducible refine (tFind_nil _ r _).mono ?_); rintro e w3 ⟨rfl, hb3⟩; have h3 := h2.go hb3))
    go_quiet (fail)
    go_wp2
    go_ret2
    exact ⟨rfl, below_draws h3.up _⟩
  · have hR' : rtRight r = false := by simpa using hR
    rw [if_neg hR]
    have HR := Lib.hid hR'
    clear hR hR' hr
    go_enter Tryd.func13, Tryd.ntmps13
    go_wp2_with (go_at_call 23; (with_reducible refine (atRight_is r false HR hr1 hl hc).mono ?_); rintro e w2 ⟨rfl, hb2⟩)
    go_ret2
    exact ⟨rfl, below_on h1.up hb2⟩

/-- A pointer to a table, or none at all. -/
def TabV (F : Nat → Prop) (w : World) (A : Option Addr) (most : Int) (l : List Rt) : Prop := (A = none ∧ most = 0 ∧ l = []) ∨ ∃ tb, A = some ⟨tb, 0, none⟩ ∧ TabAt F w tb most l
theorem TabV.sep {F G : Nat → Prop} {w w' : World} {A : Option Addr} {most : Int} {l : List Rt} (h : TabV F w A most l) (s : Sep G w w') (hd : ∀ k, F k → ¬ G k) : TabV F w' A most l := by
  rcases h with h | ⟨tb, h1, h2⟩
  · exact .inl h
  · exact .inr ⟨tb, h1, h2.sep s hd⟩
theorem TabV.go {F : Nat → Prop} {w w' : World} {A : Option Addr} {most : Int} {l : List Rt} (h : TabV F w A most l) (hb : Below w.heap.size w w') : TabV F w' A most l := by
  rcases h with h | ⟨tb, h1, h2⟩
  · exact .inl h
  · exact .inr ⟨tb, h1, h2.go hb⟩
def AddTellsV (F : Nat → Prop) (w : World) (A : Option Addr) (most : Int) (l : List Rt) (r : Rt) (e : Ending) (w' : World) : Prop :=
  e = .returned (.tuple #[.int .i64 (addK most l r), .int .i64 (addE most l r)]) ∧ Sep F w w' ∧ TabV (grewF F w w') w' A most (addL most l r)
theorem vAdd_any {F : Nat → Prop} {A : Option Addr} {most : Int} {l : List Rt} {w : World} (h : TabV F w A most l) (r : Rt) {Ar : Option Addr} {n ca : Nat} (hr : RtAt w r Ar n) (hl : n ≤ ca) (hc : ca ≤ 9223372036854775807) (PT : PowTab w) :
    Calls Tryd.prog 13 #[.pointer A, .agg #[.int .i64 r.kind, .int .i64 r.cost, .slice Ar n ca]] w (AddTellsV F w A most l r) := by
  rcases h with ⟨rfl, rfl, rfl⟩ | ⟨tb, rfl, h⟩
  · exact (tAdd_nil w r hr hl hc).mono fun e w' ⟨he, hw⟩ => ⟨he, Sep.of_below hw, .inl ⟨rfl, rfl, addL_nil r⟩⟩
  · exact (tAdd_any h r hr hl hc PT).mono fun e w' ⟨he, hs, ht⟩ => ⟨he, hs, .inr ⟨tb, rfl, ht⟩⟩
theorem vFind_any {F : Nat → Prop} {A : Option Addr} {most : Int} {l : List Rt} {w : World} (h : TabV F w A most l) (r : Rt) {Ar : Option Addr} {n ca : Nat} (hr : RtAt w r Ar n) (hl : n ≤ ca) (hc : ca ≤ 9223372036854775807) (PT : PowTab w) :
    Calls Tryd.prog 16 #[.pointer A, .agg #[.int .i64 r.kind, .int .i64 r.cost, .slice Ar n ca]] w fun e w' => e = .returned (.int .i64 (ixR r l)) ∧ Below w.heap.size w w' := by
  rcases h with ⟨rfl, rfl, rfl⟩ | ⟨tb, rfl, h⟩
  · exact (tFind_nil w r ca).mono fun e w' ⟨he, hw⟩ => ⟨by rw [he, ixR_not (by simp)], hw⟩
  · exact tFind_any h r ca hr hl hc PT
theorem vGet_any {F : Nat → Prop} {A : Option Addr} {most : Int} {l : List Rt} {w : World} (h : TabV F w A most l) (id : Int) (hid : InI id) :
    Calls Tryd.prog 19 #[.pointer A, .int .i64 id] w (RtGives (getR l id) w) := by
  rcases h with ⟨rfl, rfl, rfl⟩ | ⟨tb, rfl, h⟩
  · have : getR [] id = Rt.none := by unfold getR; split <;> rfl
    rw [this]
    exact tGet_nil w id hid
  · exact tGet_any h id hid
theorem vSize_any {F : Nat → Prop} {A : Option Addr} {most : Int} {l : List Rt} {w : World} (h : TabV F w A most l) :
    Calls Tryd.prog 15 #[.pointer A] w fun e w' => e = .returned (.int .i64 (l.length : Int)) ∧ w = w' := by
  rcases h with ⟨rfl, rfl, rfl⟩ | ⟨tb, rfl, h⟩
  · exact tSize_nil w
  · exact tSize_any h

/-! ### New -/
theorem right_none : rtRight Rt.none = true := by decide
theorem tab_empty (w : World) (most : Int) (h1 : 1 ≤ most) (h2 : most ≤ 1073741824) : TabIn (fun k => k = w.heap.size ∨ k = w.heap.size + 1) ((w.alloc (.map #[] 0)).alloc (.cells #[.int .i64 most, .slice none 0 0, .map (some w.heap.size)] 49)) (w.heap.size + 1) most [] none 0 w.heap.size (.map []) [] :=
  { lt := fun k hk => by simp; omega
    fT := .inr rfl, fM := .inl rfl
    fR := fun g hg => by simp [Value.ownBlock] at hg
    ne := by omega
    blk := by have := Blk.new (w.alloc (.map #[] 0)) 49 #[.int .i64 most, .slice none 0 0, .map (some w.heap.size)]; rwa [World.size_alloc] at this
    rows := World.ownsRow_nil _ _ _ _
    hl := rfl
    paths := fun i r q e _ => by simp at e
    map := (World.ownsMap_made w _ _ _).alloc _
    is := MapIs.nil
    right := fun r h => by cases h
    nodup := List.nodup_nil
    len := by simp; omega
    most := h2 }
/-- New blocks alone. -/
def NewF (F : Nat → Prop) (w w' : World) : Prop := ∀ k, F k → w.heap.size ≤ k ∧ k < w'.heap.size
def NewTells (w : World) (most : Int) (l : List Rt) (e : Ending) (w' : World) : Prop := ∃ A F, e = .returned (.pointer A) ∧ TabV F w' A most l ∧ NewF F w w' ∧ Below w.heap.size w w'
theorem tAdd_none {F : Nat → Prop} {tb : Nat} {most : Int} {w : World} (h : TabAt F w tb most []) (PT : PowTab w) :
    Calls Tryd.prog 13 #[.pointer (some ⟨tb, 0, none⟩), .agg #[.int .i64 0, .int .i64 0, .slice none 0 0]] w (AddTells F w tb most [] Rt.none) :=
  tAdd_any h Rt.none ⟨rfl, CellsAt.nil _ _ _, by omega⟩ (Nat.le_refl 0) (by omega) PT
set_option maxHeartbeats 4000000 in
set_option maxRecDepth 100000 in
theorem tNew_yes (most : Int) (h1 : 1 ≤ most) (h2 : most ≤ 1073741824) (w : World) (PT : PowTab w) :
    Calls Tryd.prog 10 #[.int .i64 most] w fun e w' => ∃ tb F, e = .returned (.pointer (some ⟨tb, 0, none⟩)) ∧ TabAt F w' tb most [Rt.none] ∧ NewF F w w' ∧ Below w.heap.size w w' := by
  have HT := Lib.hid (show TabAt _ _ _ most [] from ⟨_, _, _, _, _, tab_empty w most h1 h2⟩)
  have HU := Lib.hid (below_2 w (.map #[] 0) (.cells #[.int .i64 most, .slice none 0 0, .map (some w.heap.size)] 49))
  have HP := Lib.hid (PT.on HU.out)
  have H1 := Lib.hid h1
  have hmm := @run_makeMap Tryd.prog
  have h3 : ¬ most < 1 := by omega
  have h4 : ¬ (1073741824 < most) := by omega
  clear PT
  go_enter Tryd.func10, Tryd.ntmps10
  go_wp2_with (go_at_call 13; (with_reducible refine (tAdd_none HT.out HP.out).mono ?_); rintro e w2 ⟨rfl, hs2, ht2⟩)
  go_ret
  have hl : addL most [] Rt.none = [Rt.none] := by unfold addL; rw [if_pos ⟨right_none, by simp, by simp; have := H1.out; omega⟩]; rfl
  rw [hl] at ht2
  have hb : Below w.heap.size w w2 := HU.out.trans (hs2.below (B := w.heap.size) (fun k hk => by omega) HU.out.size)
  refine ⟨_, _, rfl, ht2, fun k hk => ?_, hb⟩
  have z := hs2.size
  simp only [World.size_alloc] at z
  rcases hk with (rfl | rfl) | ⟨q1, q2⟩
  · omega
  · omega
  · simp only [World.size_alloc] at q1; omega
theorem tNew_no (most : Int) (h : ¬ (1 ≤ most ∧ most ≤ 1073741824)) (w : World) :
    Calls Tryd.prog 10 #[.int .i64 most] w fun e w' => e = .returned (.pointer none) ∧ w = w' := by
  by_cases h1 : most < 1
  · go_enter Tryd.func10, Tryd.ntmps10
    go_wp2
    go_ret
    exact ⟨rfl, rfl⟩
  · have h2 : 1073741824 < most := by omega
    clear h
    go_enter Tryd.func10, Tryd.ntmps10
    go_wp2
    go_ret
    exact ⟨rfl, rfl⟩
def newOk (most : Int) : Bool := decide (1 ≤ most ∧ most ≤ 1073741824)
def newM (most : Int) : Int := if newOk most = true then most else 0
def newL (most : Int) : List Rt := if newOk most = true then [Rt.none] else []
theorem vNew_any (most : Int) (w : World) (PT : PowTab w) : Calls Tryd.prog 10 #[.int .i64 most] w fun e w' => ∃ A F, e = .returned (.pointer A) ∧ A.isSome = newOk most ∧ TabV F w' A (newM most) (newL most) ∧ NewF F w w' ∧ Below w.heap.size w w' := by
  by_cases h : 1 ≤ most ∧ most ≤ 1073741824
  · have e1 : newOk most = true := decide_eq_true h
    have e2 : newM most = most := if_pos e1
    have e3 : newL most = [Rt.none] := if_pos e1
    rw [e1, e2, e3]
    exact (tNew_yes most h.1 h.2 w PT).mono fun e w' ⟨tb, F, he, ht, hF, hb⟩ => ⟨_, F, he, rfl, .inr ⟨tb, rfl, ht⟩, hF, hb⟩
  · have e1 : newOk most = false := decide_eq_false h
    have e2 : newM most = 0 := if_neg (by rw [e1]; simp)
    have e3 : newL most = [] := if_neg (by rw [e1]; simp)
    rw [e1, e2, e3]
    exact (tNew_no most h w).mono fun e w' ⟨he, hw⟩ => ⟨none, fun _ => False, he, rfl, .inl ⟨rfl, rfl, rfl⟩, fun _ h => h.elim, by rw [← hw]; exact Below.refl _ _⟩
end Go.Proofs.YtlfdpfkimggeoaaDoor
