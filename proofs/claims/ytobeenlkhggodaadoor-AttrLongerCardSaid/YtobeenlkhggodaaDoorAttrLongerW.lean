/-
  AttrLonger: the walk.
-/
import Derived.IntWalk
import Derived.Test.YtobeenlkhggodaaDoorAtR
namespace Go.Proofs.YtobeenlkhggodaaDoor
open Go.RowKit
set_option linter.unusedVariables false
set_option linter.unusedSimpArgs false

theorem longer_len {a b : Rt} (hk : a.kind = b.kind) (hl : rtLen a < rtLen b) : rtBetter a b = true := by
  rw [better_iff]; exact .inr ⟨hk, .inl hl⟩
/-- So many numbers, one after the other, are not all among fewer. -/
theorem pigeon (base : Int) : ∀ (K : Nat) (p : List Int), (∀ k : Nat, k < K → base + (k : Int) ∈ p) → K ≤ p.length
  | 0, p, _ => Nat.zero_le _
  | K + 1, p, h => by
    have hm := h K (by omega)
    have hl := List.length_erase_of_mem hm
    have hpos : 0 < p.length := List.length_pos_of_mem hm
    have := pigeon base K (p.erase (base + (K : Int))) (fun k hk => (List.mem_erase_of_ne (by omega)).2 (h k (by omega)))
    omega
/-- The copy's path: the row with its last number. -/
structure LongSt (W0 : World) (a : Rt) (p : List Int) (na gc gA c5 : Nat) (v : Int) (W : World) : Prop where
  box : Blk W gc 24 #[.int .i64 a.kind, .int .i64 a.cost, .slice (some ⟨gA, 0, none⟩) (na + 1) c5]
  row : ∃ cur, Blk W gA 3 cur ∧ (∀ (j : Nat) (u : Value), ((p ++ [v]).map (Value.int .i64))[j]? = some u → cur[j]? = some u)
  up : Below W0.heap.size W0 W
theorem LongSt.turn {W0 : World} {a : Rt} {p : List Int} {na gc gA c5 : Nat} {v : Int} {W : World} (h : LongSt W0 a p na gc gA c5 v W) (hp : p.length = na) (hg : W0.heap.size ≤ gA) (x : Int) : LongSt W0 a p na gc gA c5 x (W.setCell ⟨gA, na, none⟩ (.int .i64 x)) := by
  obtain ⟨cur, hB, hc⟩ := h.row
  have hne : gc ≠ gA := Blk.ne_ h.box hB (by decide)
  refine ⟨h.box.far (p := ⟨gA, na, none⟩) hne _, ⟨_, hB.set_ na _, fun j u hu => ?_⟩, h.up.setCell (p := ⟨gA, na, none⟩) hg _⟩
  rw [Array.getElem?_setIfInBounds]
  have hsz : na < cur.size := by
    have := hc na (.int .i64 v) (by rw [List.map_append, List.getElem?_append_right (by simp [hp]), List.length_map, hp, Nat.sub_self]; rfl)
    exact (Array.getElem?_eq_some_iff.1 this).1
  by_cases e : na = j
  · subst e
    rw [if_pos rfl, if_pos hsz]
    rw [List.map_append, List.getElem?_append_right (by simp [hp]), List.length_map, hp, Nat.sub_self] at hu
    exact hu
  · rw [if_neg e]
    apply hc
    rw [List.map_append] at hu ⊢
    by_cases hj : j < na
    · rw [List.getElem?_append_left (by simp [hp, hj])] at hu ⊢; exact hu
    · rw [List.getElem?_append_right (by simp [hp]; omega)] at hu
      have hl := (List.getElem?_eq_some_iff.1 hu).1
      simp [hp] at hl
      omega
theorem LongSt.cell {W0 : World} {a : Rt} {p : List Int} {na gc gA c5 : Nat} {v : Int} {W : World} (h : LongSt W0 a p na gc gA c5 v W) (hp : p.length = na) : W.cell? ⟨gA, na, none⟩ = some (.int .i64 v) ∧ W.frozen? ⟨gA, na, none⟩ = false := by
  obtain ⟨cur, hB, hc⟩ := h.row
  exact ⟨by rw [hB.cell]; exact hc na _ (by rw [List.map_append, List.getElem?_append_right (by simp [hp]), List.length_map, hp, Nat.sub_self]; rfl), hB.frozen _⟩
theorem LongSt.at_ {W0 : World} {a : Rt} {p : List Int} {na gc gA c5 : Nat} {v : Int} {W : World} (h : LongSt W0 a p na gc gA c5 v W) (hp : p.length = na) (hm : na ≤ 4096) : RtAt W ⟨a.kind, a.cost, p ++ [v]⟩ (some ⟨gA, 0, none⟩) (na + 1) := by
  obtain ⟨cur, hB, hc⟩ := h.row
  exact ⟨by simp [hp], (show RowAt W W.heap.size (some ⟨gA, 0, none⟩) ((p ++ [v]).map (Value.int .i64)) from fun _ => ⟨gA, rfl, hB.lt, fun j u hu => by rw [hB.cell]; exact hc j u hu⟩).cells, by omega⟩
theorem LongSt.go {W0 : World} {a : Rt} {p : List Int} {na gc gA c5 : Nat} {v : Int} {W W' : World} (h : LongSt W0 a p na gc gA c5 v W) (hb : Below W.heap.size W W') : LongSt W0 a p na gc gA c5 v W' := by
  obtain ⟨cur, hB, hc⟩ := h.row
  exact ⟨h.box.up hb, ⟨cur, hB.up hb, hc⟩, h.up.trans (hb.mono h.up.size)⟩

set_option maxHeartbeats 8000000 in
set_option maxRecDepth 100000 in
theorem attrLonger_walk (A1 : Option Addr) (c1 : Nat) (l1 : List Int) (hwf1 : ∀ v ∈ l1, InI v) (hm1 : l1.length ≤ 9223372036854775807) (hc1 : l1.length ≤ c1) (hcm1 : c1 ≤ 9223372036854775807) (A2 : Option Addr) (c2 : Nat) (l2 : List Int) (hwf2 : ∀ v ∈ l2, InI v) (hm2 : l2.length ≤ 9223372036854775807) (hc2 : l2.length ≤ c2) (hcm2 : c2 ≤ 9223372036854775807) (x1 : Int) (hx1 : InI x1) (w : World) (hT : PowTab w) (hA1 : CellsAt w w.heap.size A1 (l1.map (Value.int .i64))) (hA2 : CellsAt w w.heap.size A2 (l2.map (Value.int .i64))) :
    Calls Tryd.prog 7 #[.slice A1 l1.length c1, .slice A2 l2.length c2, .int .i64 x1] w fun e w' => e = .returned (.bool true) ∧ Below w.heap.size w w' := by
  obtain ⟨a, ha⟩ : ∃ r, rtOf l1 = r := ⟨_, rfl⟩
  have hra := rtOf_right l1
  rw [ha] at hra
  have hla := rt_len hra
  obtain ⟨na, hna⟩ : ∃ n, a.path.length = n := ⟨_, rfl⟩
  rw [hna] at hla
  obtain ⟨m1, hml1⟩ : ∃ n, l1.length = n := ⟨_, rfl⟩
  rw [hml1] at hm1 hc1 ⊢
  have HRa := Lib.hid ha
  have HQa := Lib.hid hra
  have HNa := Lib.hid hna
  have HM1 := Lib.hid hml1
  have HW1 := Lib.hid hwf1
  clear ha hra hna hml1 hwf1
  obtain ⟨b, hb⟩ : ∃ r, rtOf l2 = r := ⟨_, rfl⟩
  have hrb := rtOf_right l2
  rw [hb] at hrb
  have hlb := rt_len hrb
  obtain ⟨nb, hnb⟩ : ∃ n, b.path.length = n := ⟨_, rfl⟩
  rw [hnb] at hlb
  obtain ⟨m2, hml2⟩ : ∃ n, l2.length = n := ⟨_, rfl⟩
  rw [hml2] at hm2 hc2 ⊢
  have HRb := Lib.hid hb
  have HQb := Lib.hid hrb
  have HNb := Lib.hid hnb
  have HM2 := Lib.hid hml2
  have HW2 := Lib.hid hwf2
  clear hb hrb hnb hml2 hwf2
  obtain ⟨la, hla⟩ : ∃ v, rtLen a = v := ⟨_, rfl⟩
  obtain ⟨lb, hlb⟩ : ∃ v, rtLen b = v := ⟨_, rfl⟩
  have HLA := Lib.hid hla
  have HLB := Lib.hid hlb
  have HBE : Hid (a.kind = b.kind → la < lb → rtBetter a b = true) := Lib.hid fun h1 h2 => longer_len h1 (by rw [hla, hlb]; exact h2)
  obtain ⟨v9, hv9⟩ : ∃ v, pickN x1 60000 = v := ⟨_, rfl⟩
  have b9 := pickN_in x1 60000 (by omega)
  rw [hv9] at b9
  obtain ⟨b90, b91⟩ := b9
  have HV9 := Lib.hid hv9
  obtain ⟨p, hp⟩ : ∃ p, a.path = p := ⟨_, rfl⟩
  have hpn : p.length = na := by rw [← hp]; exact HNa.out
  have HPN := Lib.hid hpn
  have HP := Lib.hid hp
  clear hla hlb hv9 hp hpn
  obtain ⟨i0, hi, hz0, hz1, hz2⟩ := info_parts numInfoA
  have hcase : ((a.kind == b.kind) = false) ∨ ((a.kind == b.kind) = true ∧ decide (la < lb) = false) ∨ ((a.kind == b.kind) = true ∧ decide (la < lb) = true ∧ rtBetter a b = true) := by
    by_cases h1 : a.kind = b.kind
    · by_cases h2 : la < lb
      · exact .inr (.inr ⟨by simp [h1], by simp [h2], HBE.out h1 h2⟩)
      · exact .inr (.inl ⟨by simp [h1], by simp only [decide_eq_false_iff_not]; exact h2⟩)
    · exact .inl (by simp [h1])
  -- the rest of the law, behind its first test
  rcases hcase with hc | ⟨hc, hc2⟩ | ⟨hc, hc2, hc3⟩
  · skip
    go_enter Tryd.func7, Tryd.ntmps7
    go_upto_region 4 with (first
      | (go_at_call 11; refine (awake6_any _ hT).mono ?_; rintro e w1 ⟨rfl, hb1⟩; have hA1x := hA1.on hb1; have hA2x := hA2.on hb1)
      | (go_at_call 14; (with_reducible refine (Route_is l1 a HRa na m1 HNa HM1 HW1.out hm1 hA1x).mono ?_); rintro e w2 ⟨Aa, ca, rfl, raa, lea, hb2⟩; have Ba := RB.new (c := ca) hb1 hT hb2 raa; have hA2x := (hA2x.on hb2).on (below_new _ (.cells #[.int .i64 a.kind, .int .i64 a.cost, .slice Aa na ca] 24)); obtain ⟨a0, a1, a2⟩ := Ba.cells)
      | (go_at_call 14; (with_reducible refine (Route_is l2 b HRb nb m2 HNb HM2 HW2.out hm2 hA2x).mono ?_); rintro e w3 ⟨Ab, cb, rfl, rab, leb, hb3⟩; have Bb := RB.new (c := cb) Ba.up hT hb3 rab; have Ba := (Ba.go hb3).alloc (.cells #[.int .i64 b.kind, .int .i64 b.cost, .slice Ab nb cb] 24); obtain ⟨b0, b1, b2⟩ := Bb.cells; obtain ⟨a0, a1, a2⟩ := Ba.cells))
    have Ba := Ba.drew
    have Bb := Bb.drew
    obtain ⟨a0, a1, a2⟩ := Ba.cells
    obtain ⟨b0, b1, b2⟩ := Bb.cells
    refine wp_region_held_drew (S := (fun w' => w'.cell? ⟨w2.heap.size, 0, none⟩ = some (.int .i64 a.kind) ∧ w'.cell? ⟨w2.heap.size, 1, none⟩ = some (.int .i64 a.cost) ∧ w'.cell? ⟨w2.heap.size, 2, none⟩ = some (.slice Aa na ca) ∧ w'.cell? ⟨w3.heap.size, 0, none⟩ = some (.int .i64 b.kind) ∧ w'.cell? ⟨w3.heap.size, 1, none⟩ = some (.int .i64 b.cost) ∧ w'.cell? ⟨w3.heap.size, 2, none⟩ = some (.slice Ab nb cb))) (by kernel_rfl) (by go_keep) (fun hHeld => ?_)
    refine wpAnyH_take (i := 0) (oi := ?o1) (v := ?v1) ?h1 ?s1 ?f1 ?c1 ?q1 ?y1 hHeld ?r1
    case h1 => (simp only [List.getElem?_toArray, List.getElem?_cons_succ, List.getElem?_cons_zero]; rfl)
    case s1 => kernel_rfl
    case f1 => kernel_rfl
    case c1 => kernel_rfl
    case y1 => (refine Or.inl ⟨by rfl, ?_⟩; intro w hSw; (try dsimp only at hSw); go_simp; (try with_reducible rfl))
    case q1 => exact fun _ _ _ h => h
    try simp only [Act.put, List.setIfInBounds_toArray, List.set_cons_zero, List.set_cons_succ]
    refine wpAnyH_take (i := 1) (oi := ?o2) (v := ?v2) ?h2 ?s2 ?f2 ?c2 ?q2 ?y2 hHeld ?r2
    case h2 => (simp only [List.getElem?_toArray, List.getElem?_cons_succ, List.getElem?_cons_zero]; rfl)
    case s2 => kernel_rfl
    case f2 => kernel_rfl
    case c2 => kernel_rfl
    case y2 => (refine Or.inl ⟨by rfl, ?_⟩; intro w hSw; (try dsimp only at hSw); go_simp; (try with_reducible rfl))
    case q2 => exact fun _ _ _ h => h
    try simp only [Act.put, List.setIfInBounds_toArray, List.set_cons_zero, List.set_cons_succ]
    refine wpAnyH_take (i := 2) (oi := ?o3) (v := ?v3) ?h3 ?s3 ?f3 ?c3 ?q3 ?y3 hHeld ?r3
    case h3 => (simp only [List.getElem?_toArray, List.getElem?_cons_succ, List.getElem?_cons_zero]; rfl)
    case s3 => kernel_rfl
    case f3 => kernel_rfl
    case c3 => kernel_rfl
    case y3 => (refine Or.inl ⟨by rfl, ?_⟩; intro w hSw; (try dsimp only at hSw); go_simp; (try with_reducible rfl))
    case q3 => exact fun _ _ _ h => h
    try simp only [Act.put, List.setIfInBounds_toArray, List.set_cons_zero, List.set_cons_succ]
    refine wpAnyH_take (i := 3) (oi := ?o4) (v := ?v4) ?h4 ?s4 ?f4 ?c4 ?q4 ?y4 hHeld ?r4
    case h4 => (simp only [List.getElem?_toArray, List.getElem?_cons_succ, List.getElem?_cons_zero]; rfl)
    case s4 => kernel_rfl
    case f4 => kernel_rfl
    case c4 => kernel_rfl
    case y4 => (refine Or.inl ⟨by rfl, ?_⟩; intro w hSw; (try dsimp only at hSw); go_simp; (try with_reducible rfl))
    case q4 => exact fun _ _ _ h => h
    try simp only [Act.put, List.setIfInBounds_toArray, List.set_cons_zero, List.set_cons_succ]
    refine wpAnyH_take (i := 4) (oi := ?o5) (v := ?v5) ?h5 ?s5 ?f5 ?c5 ?q5 ?y5 hHeld ?r5
    case h5 => (simp only [List.getElem?_toArray, List.getElem?_cons_succ, List.getElem?_cons_zero]; rfl)
    case s5 => kernel_rfl
    case f5 => kernel_rfl
    case c5 => kernel_rfl
    case y5 => (refine Or.inl ⟨by rfl, ?_⟩; intro w hSw; (try dsimp only at hSw); go_simp; (try with_reducible rfl))
    case q5 => exact fun _ _ _ h => h
    try simp only [Act.put, List.setIfInBounds_toArray, List.set_cons_zero, List.set_cons_succ]
    refine wpAnyH_take (i := 5) (oi := ?o6) (v := ?v6) ?h6 ?s6 ?f6 ?c6 ?q6 ?y6 hHeld ?r6
    case h6 => (simp only [List.getElem?_toArray, List.getElem?_cons_succ, List.getElem?_cons_zero]; rfl)
    case s6 => kernel_rfl
    case f6 => kernel_rfl
    case c6 => kernel_rfl
    case y6 => (refine Or.inl ⟨by rfl, ?_⟩; intro w hSw; (try dsimp only at hSw); go_simp; (try with_reducible rfl))
    case q6 => exact fun _ _ _ h => h
    try simp only [Act.put, List.setIfInBounds_toArray, List.set_cons_zero, List.set_cons_succ]
    refine wpAnyH_take (i := 6) (oi := ?o7) (v := undef) ?h7 ?s7 ?f7 ?c7 ?q7 ?y7 hHeld ?r7
    case h7 => (simp only [List.getElem?_toArray, List.getElem?_cons_succ, List.getElem?_cons_zero]; rfl)
    case s7 => kernel_rfl
    case f7 => kernel_rfl
    case c7 => kernel_rfl
    case y7 => exact Or.inr ⟨by rfl, rfl⟩
    case q7 => exact fun _ _ _ h => h
    try simp only [Act.put, List.setIfInBounds_toArray, List.set_cons_zero, List.set_cons_succ]
    refine wpAnyH_take (i := 7) (oi := ?o8) (v := undef) ?h8 ?s8 ?f8 ?c8 ?q8 ?y8 hHeld ?r8
    case h8 => (simp only [List.getElem?_toArray, List.getElem?_cons_succ, List.getElem?_cons_zero]; rfl)
    case s8 => kernel_rfl
    case f8 => kernel_rfl
    case c8 => kernel_rfl
    case y8 => exact Or.inr ⟨by rfl, rfl⟩
    case q8 => exact fun _ _ _ h => h
    try simp only [Act.put, List.setIfInBounds_toArray, List.set_cons_zero, List.set_cons_succ]
    refine wpAnyH_take (i := 8) (oi := ?o9) (v := undef) ?h9 ?s9 ?f9 ?c9 ?q9 ?y9 hHeld ?r9
    case h9 => (simp only [List.getElem?_toArray, List.getElem?_cons_succ, List.getElem?_cons_zero]; rfl)
    case s9 => kernel_rfl
    case f9 => kernel_rfl
    case c9 => kernel_rfl
    case y9 => exact Or.inr ⟨by rfl, rfl⟩
    case q9 => exact fun _ _ _ h => h
    try simp only [Act.put, List.setIfInBounds_toArray, List.set_cons_zero, List.set_cons_succ]
    refine wpAnyH_take (i := 9) (oi := ?o10) (v := undef) ?h10 ?s10 ?f10 ?c10 ?q10 ?y10 hHeld ?r10
    case h10 => (simp only [List.getElem?_toArray, List.getElem?_cons_succ, List.getElem?_cons_zero]; rfl)
    case s10 => kernel_rfl
    case f10 => kernel_rfl
    case c10 => kernel_rfl
    case y10 => exact Or.inr ⟨by rfl, rfl⟩
    case q10 => exact fun _ _ _ h => h
    try simp only [Act.put, List.setIfInBounds_toArray, List.set_cons_zero, List.set_cons_succ]
    refine wpAnyH_take (i := 10) (oi := ?o11) (v := undef) ?h11 ?s11 ?f11 ?c11 ?q11 ?y11 hHeld ?r11
    case h11 => (simp only [List.getElem?_toArray, List.getElem?_cons_succ, List.getElem?_cons_zero]; rfl)
    case s11 => kernel_rfl
    case f11 => kernel_rfl
    case c11 => kernel_rfl
    case y11 => exact Or.inr ⟨by rfl, rfl⟩
    case q11 => exact fun _ _ _ h => h
    try simp only [Act.put, List.setIfInBounds_toArray, List.set_cons_zero, List.set_cons_succ]
    refine wpAnyH_take (i := 11) (oi := ?o12) (v := ?v12) ?h12 ?s12 ?f12 ?c12 ?q12 ?y12 hHeld ?r12
    case h12 => (simp only [List.getElem?_toArray, List.getElem?_cons_succ, List.getElem?_cons_zero]; rfl)
    case s12 => kernel_rfl
    case f12 => kernel_rfl
    case c12 => kernel_rfl
    case y12 => (refine Or.inl ⟨by rfl, ?_⟩; intro w hSw; (try dsimp only at hSw); go_simp; (try with_reducible rfl))
    case q12 => exact fun _ _ _ h => h
    try simp only [Act.put, List.setIfInBounds_toArray, List.set_cons_zero, List.set_cons_succ]
    refine wpAnyH_take (i := 12) (oi := ?o13) (v := ?v13) ?h13 ?s13 ?f13 ?c13 ?q13 ?y13 hHeld ?r13
    case h13 => (simp only [List.getElem?_toArray, List.getElem?_cons_succ, List.getElem?_cons_zero]; rfl)
    case s13 => kernel_rfl
    case f13 => kernel_rfl
    case c13 => kernel_rfl
    case y13 => (refine Or.inl ⟨by rfl, ?_⟩; intro w hSw; (try dsimp only at hSw); go_simp; (try with_reducible rfl))
    case q13 => exact fun _ _ _ h => h
    try simp only [Act.put, List.setIfInBounds_toArray, List.set_cons_zero, List.set_cons_succ]
    refine wpAnyH_take (i := 13) (oi := ?o14) (v := undef) ?h14 ?s14 ?f14 ?c14 ?q14 ?y14 hHeld ?r14
    case h14 => (simp only [List.getElem?_toArray, List.getElem?_cons_succ, List.getElem?_cons_zero]; rfl)
    case s14 => kernel_rfl
    case f14 => kernel_rfl
    case c14 => kernel_rfl
    case y14 => exact Or.inr ⟨by rfl, rfl⟩
    case q14 => exact fun _ _ _ h => h
    try simp only [Act.put, List.setIfInBounds_toArray, List.set_cons_zero, List.set_cons_succ]
    refine wpAnyH_take (i := 14) (oi := ?o15) (v := undef) ?h15 ?s15 ?f15 ?c15 ?q15 ?y15 hHeld ?r15
    case h15 => (simp only [List.getElem?_toArray, List.getElem?_cons_succ, List.getElem?_cons_zero]; rfl)
    case s15 => kernel_rfl
    case f15 => kernel_rfl
    case c15 => kernel_rfl
    case y15 => exact Or.inr ⟨by rfl, rfl⟩
    case q15 => exact fun _ _ _ h => h
    try simp only [Act.put, List.setIfInBounds_toArray, List.set_cons_zero, List.set_cons_succ]
    refine wpAnyH_take (i := 15) (oi := ?o16) (v := undef) ?h16 ?s16 ?f16 ?c16 ?q16 ?y16 hHeld ?r16
    case h16 => (simp only [List.getElem?_toArray, List.getElem?_cons_succ, List.getElem?_cons_zero]; rfl)
    case s16 => kernel_rfl
    case f16 => kernel_rfl
    case c16 => kernel_rfl
    case y16 => exact Or.inr ⟨by rfl, rfl⟩
    case q16 => exact fun _ _ _ h => h
    try simp only [Act.put, List.setIfInBounds_toArray, List.set_cons_zero, List.set_cons_succ]
    refine wpAnyH_take (i := 16) (oi := ?o17) (v := undef) ?h17 ?s17 ?f17 ?c17 ?q17 ?y17 hHeld ?r17
    case h17 => (simp only [List.getElem?_toArray, List.getElem?_cons_succ, List.getElem?_cons_zero]; rfl)
    case s17 => kernel_rfl
    case f17 => kernel_rfl
    case c17 => kernel_rfl
    case y17 => exact Or.inr ⟨by rfl, rfl⟩
    case q17 => exact fun _ _ _ h => h
    try simp only [Act.put, List.setIfInBounds_toArray, List.set_cons_zero, List.set_cons_succ]
    refine wpAnyH_take (i := 17) (oi := ?o18) (v := ?v18) ?h18 ?s18 ?f18 ?c18 ?q18 ?y18 hHeld ?r18
    case h18 => (simp only [List.getElem?_toArray, List.getElem?_cons_succ, List.getElem?_cons_zero]; rfl)
    case s18 => kernel_rfl
    case f18 => kernel_rfl
    case c18 => kernel_rfl
    case y18 => (refine Or.inl ⟨by rfl, ?_⟩; intro w hSw; (try dsimp only at hSw); go_simp; (try with_reducible rfl))
    case q18 => exact fun _ _ _ h => h
    try simp only [Act.put, List.setIfInBounds_toArray, List.set_cons_zero, List.set_cons_succ]
    refine wpAnyH_done (by kernel_rfl) ?_ _
    obtain ⟨W0, hW0⟩ : ∃ W, W = (w3.alloc (.cells #[.int .i64 b.kind, .int .i64 b.cost, .slice Ab nb cb] 24)).drew := ⟨_, rfl⟩
    rw [← hW0] at Ba Bb a0 a1 a2 ⊢
    clear hW0
    go_step
    clear hHeld
    have d0 := Ba.blk.lt
    clear Bb b0 b1 b2
    by_cases hk2 : a.kind = 2
    · have t2 : (a.kind != 2) = false := by simp [hk2]
      by_cases hl11 : 11 < na
      · have hl' : (11 : Int) < (na : Int) := by omega
        clear hk2
        go_wp2
        go_ret
        exact ⟨rfl, Ba.up⟩
      · have hl' : ¬ (11 : Int) < (na : Int) := by omega
        obtain ⟨hc0, hpB⟩ := path_of HQa.out hk2
        rw [HP.out] at hpB
        have HPB := Lib.hid hpB
        have HK2 := Lib.hid hk2
        have HC0 := Lib.hid hc0
        have hg0 : w.heap.size ≤ W0.heap.size := Ba.up.size
        clear hk2 hc0 hpB
        go_upto_region 9 with (fail)
        have z2 : (W0.alloc (.cells #[.int .i64 a.kind, .int .i64 a.cost, .slice Aa na ca] 24)).cell? ⟨w2.heap.size, 2, none⟩ = some (.slice Aa na ca) := (Ba.alloc _).cells.2.2
        have hbc := Blk.new W0 24 #[.int .i64 a.kind, .int .i64 a.cost, .slice Aa na ca]
        have huc := below_new W0 (.cells #[.int .i64 a.kind, .int .i64 a.cost, .slice Aa na ca] 24)
        have hcc := (Ba.at_.box (.cells #[.int .i64 a.kind, .int .i64 a.cost, .slice Aa na ca] 24)).2.1
        rw [HP.out] at hcc
        obtain ⟨Wc, hWc⟩ : ∃ W, W = W0.alloc (.cells #[.int .i64 a.kind, .int .i64 a.cost, .slice Aa na ca] 24) := ⟨_, rfl⟩
        rw [← hWc] at z2 hbc huc hcc ⊢
        have hsc := huc.size
        have HCC := Lib.hid hcc
        clear hWc hcc
        go_upto_region 10 with (first
          | (refine wpList_append_own _ rfl _ _ 22 rfl W0.heap.size 3 i0 (.int .i64 0) 1 8 Tryd.underlying22 hi hz0 hz1 hz2 rfl (by decide) _ _ _ rfl (hown9.alloc _) ⟨u9.heap.size, 0, none⟩ 1 1 [.int .i64 0] rfl rfl (cell_one_new _ _ _) (by simp [Value.oneCell']) (by unfold maxLen; omega) (by omega) (by have := hq9.size; simp; omega) ?_; intro v' u5 hown5 hgrow5 _; obtain ⟨A5, c5, rfl, hc5, hcm5⟩ := own_formB hown5; have hb5 := (hb9.alloc (.cells #[.int .i64 0] 3)).grown hgrow5 (fun e => own_blk_ne hown9 hb9 (by decide) e.symm); have hq5 := (hq9.trans ((below_new u9 (.cells #[.int .i64 0] 3)).mono hq9.size)).grown hgrow5 (by have := hq9.size; simp; omega) (fun g hg => (hown9.lt g hg).1); have s2 := hb5.cell 2; have e2 := hb5.frozen 2)
          | (refine wpList_append_cells _ rfl _ _ 22 rfl W0.heap.size 3 i0 (.int .i64 0) 1 8 Tryd.underlying22 hi hz0 hz1 hz2 rfl (by decide) _ 0 [] rfl (World.ownsRow_nil _ _ _ _) _ Aa na ca (p.map (Value.int .i64)) rfl (by rw [List.length_map, HPN.out, Nat.mul_one]) HCC.out (fun u hu => by obtain ⟨y, _, rfl⟩ := List.mem_map.1 hu; rfl) (by omega) (by omega) hsc ?_; intro v9' u9 hown9 hgrow8; have hgrow9 : Wc.grownBy u9 none := hgrow8; clear hgrow8; rw [Nat.zero_add, List.nil_append] at hown9; have hb9 := hbc.grown hgrow9 (by simp); have hq9 : Below W0.heap.size W0 u9 := huc.grown hgrow9 hsc (fun g hg => by cases hg)))
        have o5 := own_setA hown5 hb5 (by decide) 2 (.slice A5 (na + 1) c5)
        have k5 := hb5.set_ 2 (.slice A5 (na + 1) c5)
        have x5 := hq5.setCell (p := ⟨W0.heap.size, 2, none⟩) (Nat.le_refl _) (.slice A5 (na + 1) c5)
        obtain ⟨W1, hW1⟩ : ∃ W, W = u5.setCell ⟨W0.heap.size, 2, none⟩ (.slice A5 (na + 1) c5) := ⟨_, rfl⟩
        rw [← hW1] at o5 k5 x5 ⊢
        obtain ⟨gA, hA5, hgA, hrow⟩ : ∃ gA, A5 = some ⟨gA, 0, none⟩ ∧ W0.heap.size ≤ gA ∧ ∃ cur, Blk W1 gA 3 cur ∧ (∀ (j : Nat) (u : Value), ((p ++ [0]).map (Value.int .i64))[j]? = some u → cur[j]? = some u) := by
          rcases o5.2 with ⟨_, h0⟩ | ⟨g, cap, cur, hv, hb, hg, hc, hcm, hsz, htk⟩
          · omega
          · refine ⟨g, by injection hv, hb, cur, hg, fun j u hu => ?_⟩
            have e := congrArg (fun t : List Value => t[j]?) htk
            have hj : j < na + 1 := by
              have := (List.getElem?_eq_some_iff.1 hu).1
              simp [HPN.out] at this; omega
            simp only [List.getElem?_take, Nat.mul_one, hj, if_true] at e
            rw [List.map_append] at hu
            have e2 := e.trans hu
            simpa using e2
        subst hA5
        have LS : LongSt W0 a p na W0.heap.size gA c5 0 W1 := ⟨k5, hrow, x5⟩
        clear hrow o5 k5 x5 hW1 s2 e2 hb5 hq5 hown5 hgrow5 hown9 hgrow9 hb9 hq9 z2 hbc huc a0 a1 a2
        have HBA := Lib.hid Ba
        clear Ba
        go_wp2_with fail
        go_loopw [11] (fun s11 wr => ∃ (k : Nat) (v : Int), k ≤ 20 ∧ s11 = .int .i64 (k : Nat) ∧ Hid ((∀ i : Nat, i < k → (1 + v9) + (i : Int) ∈ p) ∨ (v ∉ p ∧ 1 ≤ v ∧ v ≤ 65535)) ∧ LongSt W0 a p na W0.heap.size gA c5 v wr) (fun s11 _ => 20 - (intOf s11).toNat)
        case atStart => exact ⟨0, 0, by omega, rfl, Lib.hid (.inl (fun i hi => absurd hi (by omega))), LS⟩
        case round =>
          clear LS
          obtain ⟨k, v, hk, rfl, HV, LS⟩ := hrel
          have Ba := HBA.out.go (show Below W0.heap.size W0 wr from LS.up)
          obtain ⟨a0, a1, a2⟩ := Ba.cells
          have l0 : wr.cell? ⟨W0.heap.size, 0, none⟩ = some (.int .i64 a.kind) := LS.box.cell 0
          have l1 : wr.cell? ⟨W0.heap.size, 1, none⟩ = some (.int .i64 a.cost) := LS.box.cell 1
          have l2 : wr.cell? ⟨W0.heap.size, 2, none⟩ = some (.slice (some ⟨gA, 0, none⟩) (na + 1) c5) := LS.box.cell 2
          by_cases hlt : k < 20
          · have hlt' : (k : Int) < 20 := by omega
            obtain ⟨X, hX⟩ : ∃ X, (1 + v9) + (k : Int) = X := ⟨_, rfl⟩
            have hXb : 1 ≤ X ∧ X ≤ 65535 := by omega
            have HX := Lib.hid hX
            obtain ⟨lc, lf⟩ := LS.cell HPN.out
            have hcl := Ba.at_.2.1
            rw [HP.out] at hcl
            have HCL := Lib.hid hcl
            have HLS := Lib.hid LS
            have HUPB := Lib.hid Ba.up
            clear hX hcl LS Ba
            go_upto_region 14 with (go_at_call 25; (with_reducible refine (pick6_is x1 60000 v9 hx1 (by omega) (by omega) HV9 _).mono ?_); rintro e w6 ⟨rfl, rfl⟩)
            rw [HX.out]
            go_wp2_with fail
            go_loop [13, 14] (fun s13 s14 => ∃ (t : Nat) (here : Bool), t ≤ na ∧ s14 = .int .i64 (t : Nat) ∧ s13 = .bool here ∧ Hid (memI X (p.take t) = here)) (fun _ s14 => na - (intOf s14).toNat)
            case atStart => exact ⟨0, false, Nat.zero_le _, rfl, rfl, Lib.hid (by simp [memI])⟩
            case round =>
              obtain ⟨t, here, ht, rfl, rfl, HH⟩ := hrel
              by_cases htl : t < na
              · obtain ⟨y, hy⟩ : ∃ y, p[t]? = some y := ⟨_, List.getElem?_eq_getElem (by rw [HPN.out]; exact htl)⟩
                obtain ⟨ad, rfl, _, cg⟩ := HCL.out.int hy
                have hmn : memI X (p.take (t + 1)) = (here || decide (X = y)) := by
                  rw [← HH.out]
                  unfold memI
                  rw [List.take_add_one, hy]
                  simp [List.mem_append, Bool.decide_or]
                have HMN := Lib.hid hmn
                clear hmn hy
                have htl' : (t : Int) < (na : Int) := by omega
                cases here
                · by_cases e : y = X
                  · have tt : (y == X) = true := by simpa using e
                    have HM2 : Hid (memI X (p.take (t + 1)) = true) := Lib.hid (by rw [HMN.out, decide_eq_true e.symm]; rfl)
                    clear e
                    go_wp2
                    go_round
                    case rel => exact ⟨t + 1, true, by omega, by go_num, rfl, HM2⟩
                    case measure => simp [intOf]; omega
                  · have tt : (y == X) = false := by simpa using e
                    have HM2 : Hid (memI X (p.take (t + 1)) = false) := Lib.hid (by rw [HMN.out, decide_eq_false (fun h => e h.symm)]; rfl)
                    clear e
                    go_wp2
                    go_round
                    case rel => exact ⟨t + 1, false, by omega, by go_num, rfl, HM2⟩
                    case measure => simp [intOf]; omega
                · have HM2 : Hid (memI X (p.take (t + 1)) = true) := Lib.hid (by rw [HMN.out]; rfl)
                  go_wp2
                  go_round
                  case rel => exact ⟨t + 1, true, by omega, by go_num, rfl, HM2⟩
                  case measure => simp [intOf]; omega
              · have htl' : ¬ (t : Int) < (na : Int) := by omega
                have HMP : Hid (memI X p = here) := Lib.hid (by have := HH.out; rwa [List.take_of_length_le (by rw [HPN.out]; omega)] at this)
                have n0 : (0 : Int) ≤ (na : Int) := by omega
                have n1 : (na : Int) < (na : Int) + 1 := by omega
                cases here
                · have HV2 : Hid ((∀ i : Nat, i < k + 1 → (1 + v9) + (i : Int) ∈ p) ∨ (X ∉ p ∧ 1 ≤ X ∧ X ≤ 65535)) := Lib.hid (.inr ⟨by have := HMP.out; unfold memI at this; simpa using this, hXb⟩)
                  go_wp2_with fail
                  go_roundw
                  case rel => exact ⟨k + 1, X, by omega, by go_num, HV2, HLS.out.turn HPN.out hgA X⟩
                  case measure => simp [intOf]; omega
                · have HV2 : Hid ((∀ i : Nat, i < k + 1 → (1 + v9) + (i : Int) ∈ p) ∨ (v ∉ p ∧ 1 ≤ v ∧ v ≤ 65535)) := Lib.hid (by
                    rcases HV.out with h | h
                    · refine .inl (fun i hi => ?_)
                      by_cases e : i = k
                      · rw [e, HX.out]; have := HMP.out; unfold memI at this; simpa using this
                      · exact h i (by omega)
                    · exact .inr h)
                  go_wp2_with fail
                  go_roundw
                  case rel => exact ⟨k + 1, v, by omega, by go_num, HV2, HLS.out⟩
                  case measure => simp [intOf]; omega
          · have hlt' : ¬ (k : Int) < 20 := by omega
            have hv : v ∉ p ∧ 1 ≤ v ∧ v ≤ 65535 := by
              rcases HV.out with h | h
              · have := pigeon (1 + v9) k p h
                rw [HPN.out] at this; omega
              · exact h
            obtain ⟨hv1, hv2, hv3⟩ := hv
            have hla : la = (na : Int) := by rw [← HLA.out]; unfold rtLen lenV; rw [HK2.out, HP.out, HPN.out]; rfl
            have G1 : Hid (rtRight ⟨a.kind, a.cost, p ++ [v]⟩ = true) := Lib.hid (by rw [HK2.out, HC0.out, right_path]; exact pathB_app HPB.out (by rw [HPN.out]; omega) hv1 hv2 hv3)
            have hlc : rtLen ⟨a.kind, a.cost, p ++ [v]⟩ = (na : Int) + 1 := by unfold rtLen lenV; dsimp only; rw [HK2.out, List.length_append, HPN.out]; rfl
            have G2 : Hid (rtBetter a ⟨a.kind, a.cost, p ++ [v]⟩ = true) := Lib.hid (longer_len rfl (by rw [hlc, HLA.out, hla]; omega))
            have G3 := Lib.hid hlc
            have G4 : Hid (rtLen a = (na : Int)) := Lib.hid (HLA.out.trans hla)
            have r7 := LS.at_ HPN.out (by omega)
            obtain ⟨L, hL⟩ : ∃ L, p ++ [v] = L := ⟨_, rfl⟩
            rw [hL] at G1 G2 G3 r7
            have hLL : L.length = na + 1 := by rw [← hL, List.length_append, HPN.out]; rfl
            have HLL := Lib.hid hLL
            have n0 : (0 : Int) ≤ (na : Int) := by omega
            have w1 : IntKind.i64.wrap ((na : Int) + 1) = (na : Int) + 1 := IntWalk.i64_in _ (by omega)
            have e1 : ((na : Int) + 1 == (na : Int) + 1) = true := by simp
            have Bc : RB w W0.heap.size ⟨a.kind, a.cost, L⟩ (some ⟨gA, 0, none⟩) (na + 1) c5 wr := ⟨LS.box, r7, Ba.up, Ba.tab⟩
            have Da := Ba.drew
            have Dc := Bc.drew
            clear hL hLL hla hlc hv1 LS r7 Bc Ba
            go_wp2_with fail
            go_region_held3 (fun w' => w'.cell? ⟨w2.heap.size, 0, none⟩ = some (.int .i64 a.kind) ∧ w'.cell? ⟨w2.heap.size, 1, none⟩ = some (.int .i64 a.cost) ∧ w'.cell? ⟨w2.heap.size, 2, none⟩ = some (.slice Aa na ca) ∧ w'.cell? ⟨W0.heap.size, 0, none⟩ = some (.int .i64 a.kind) ∧ w'.cell? ⟨W0.heap.size, 1, none⟩ = some (.int .i64 a.cost) ∧ w'.cell? ⟨W0.heap.size, 2, none⟩ = some (.slice (some ⟨gA, 0, none⟩) (na + 1) c5)) (go_keep) (first
              | (go_at_call 12; (with_reducible refine (atRight_is ⟨a.kind, a.cost, L⟩ true G1 Dc.at_ hc5 hcm5).mono ?_); rintro e y1 ⟨rfl, hy1⟩; replace Da := Da.go hy1; replace Dc := Dc.go hy1; obtain ⟨a0, a1, a2⟩ := Da.cells; obtain ⟨l0, l1, l2⟩ := Dc.cellsK)
              | (go_at_call 21; (with_reducible refine (atBetter_is a ⟨a.kind, a.cost, L⟩ true G2 Da.at_ Dc.at_).mono ?_); rintro e y2 ⟨rfl, hy2⟩; replace Da := Da.go hy2; replace Dc := Dc.go hy2; obtain ⟨a0, a1, a2⟩ := Da.cells; obtain ⟨l0, l1, l2⟩ := Dc.cellsK)
              | (go_at_call 17; (with_reducible refine (atLength_is ⟨a.kind, a.cost, L⟩ _ G3 _ HLL.out).mono ?_); rintro e y3 ⟨rfl, hy3⟩; replace Da := Da.go hy3; replace Dc := Dc.go hy3; obtain ⟨a0, a1, a2⟩ := Da.cells; obtain ⟨l0, l1, l2⟩ := Dc.cellsK)
              | (go_at_call 17; (with_reducible refine (atLength_is a _ G4 _ HNa.out).mono ?_); rintro e y4 ⟨rfl, hy4⟩; replace Da := Da.go hy4; replace Dc := Dc.go hy4; obtain ⟨a0, a1, a2⟩ := Da.cells; obtain ⟨l0, l1, l2⟩ := Dc.cellsK))
            repeat go_step
            go_ret
            exact ⟨ret_bool (by first | rfl | (simp; done) | (simp; omega)), Da.up⟩
    · have t2 : (a.kind != 2) = true := by simp [hk2]
      clear hk2
      go_wp2
      go_ret
      exact ⟨rfl, Ba.up⟩
  · skip
    go_enter Tryd.func7, Tryd.ntmps7
    go_upto_region 4 with (first
      | (go_at_call 11; refine (awake6_any _ hT).mono ?_; rintro e w1 ⟨rfl, hb1⟩; have hA1x := hA1.on hb1; have hA2x := hA2.on hb1)
      | (go_at_call 14; (with_reducible refine (Route_is l1 a HRa na m1 HNa HM1 HW1.out hm1 hA1x).mono ?_); rintro e w2 ⟨Aa, ca, rfl, raa, lea, hb2⟩; have Ba := RB.new (c := ca) hb1 hT hb2 raa; have hA2x := (hA2x.on hb2).on (below_new _ (.cells #[.int .i64 a.kind, .int .i64 a.cost, .slice Aa na ca] 24)); obtain ⟨a0, a1, a2⟩ := Ba.cells)
      | (go_at_call 14; (with_reducible refine (Route_is l2 b HRb nb m2 HNb HM2 HW2.out hm2 hA2x).mono ?_); rintro e w3 ⟨Ab, cb, rfl, rab, leb, hb3⟩; have Bb := RB.new (c := cb) Ba.up hT hb3 rab; have Ba := (Ba.go hb3).alloc (.cells #[.int .i64 b.kind, .int .i64 b.cost, .slice Ab nb cb] 24); obtain ⟨b0, b1, b2⟩ := Bb.cells; obtain ⟨a0, a1, a2⟩ := Ba.cells))
    have Ba := Ba.drew
    have Bb := Bb.drew
    obtain ⟨a0, a1, a2⟩ := Ba.cells
    obtain ⟨b0, b1, b2⟩ := Bb.cells
    refine wp_region_held_drew (S := (fun w' => w'.cell? ⟨w2.heap.size, 0, none⟩ = some (.int .i64 a.kind) ∧ w'.cell? ⟨w2.heap.size, 1, none⟩ = some (.int .i64 a.cost) ∧ w'.cell? ⟨w2.heap.size, 2, none⟩ = some (.slice Aa na ca) ∧ w'.cell? ⟨w3.heap.size, 0, none⟩ = some (.int .i64 b.kind) ∧ w'.cell? ⟨w3.heap.size, 1, none⟩ = some (.int .i64 b.cost) ∧ w'.cell? ⟨w3.heap.size, 2, none⟩ = some (.slice Ab nb cb))) (by kernel_rfl) (by go_keep) (fun hHeld => ?_)
    refine wpAnyH_take (i := 0) (oi := ?o19) (v := ?v19) ?h19 ?s19 ?f19 ?c19 ?q19 ?y19 hHeld ?r19
    case h19 => (simp only [List.getElem?_toArray, List.getElem?_cons_succ, List.getElem?_cons_zero]; rfl)
    case s19 => kernel_rfl
    case f19 => kernel_rfl
    case c19 => kernel_rfl
    case y19 => (refine Or.inl ⟨by rfl, ?_⟩; intro w hSw; (try dsimp only at hSw); go_simp; (try with_reducible rfl))
    case q19 => exact fun _ _ _ h => h
    try simp only [Act.put, List.setIfInBounds_toArray, List.set_cons_zero, List.set_cons_succ]
    refine wpAnyH_take (i := 1) (oi := ?o20) (v := ?v20) ?h20 ?s20 ?f20 ?c20 ?q20 ?y20 hHeld ?r20
    case h20 => (simp only [List.getElem?_toArray, List.getElem?_cons_succ, List.getElem?_cons_zero]; rfl)
    case s20 => kernel_rfl
    case f20 => kernel_rfl
    case c20 => kernel_rfl
    case y20 => (refine Or.inl ⟨by rfl, ?_⟩; intro w hSw; (try dsimp only at hSw); go_simp; (try with_reducible rfl))
    case q20 => exact fun _ _ _ h => h
    try simp only [Act.put, List.setIfInBounds_toArray, List.set_cons_zero, List.set_cons_succ]
    refine wpAnyH_take (i := 2) (oi := ?o21) (v := ?v21) ?h21 ?s21 ?f21 ?c21 ?q21 ?y21 hHeld ?r21
    case h21 => (simp only [List.getElem?_toArray, List.getElem?_cons_succ, List.getElem?_cons_zero]; rfl)
    case s21 => kernel_rfl
    case f21 => kernel_rfl
    case c21 => kernel_rfl
    case y21 => (refine Or.inl ⟨by rfl, ?_⟩; intro w hSw; (try dsimp only at hSw); go_simp; (try with_reducible rfl))
    case q21 => exact fun _ _ _ h => h
    try simp only [Act.put, List.setIfInBounds_toArray, List.set_cons_zero, List.set_cons_succ]
    refine wpAnyH_take (i := 3) (oi := ?o22) (v := ?v22) ?h22 ?s22 ?f22 ?c22 ?q22 ?y22 hHeld ?r22
    case h22 => (simp only [List.getElem?_toArray, List.getElem?_cons_succ, List.getElem?_cons_zero]; rfl)
    case s22 => kernel_rfl
    case f22 => kernel_rfl
    case c22 => kernel_rfl
    case y22 => (refine Or.inl ⟨by rfl, ?_⟩; intro w hSw; (try dsimp only at hSw); go_simp; (try with_reducible rfl))
    case q22 => exact fun _ _ _ h => h
    try simp only [Act.put, List.setIfInBounds_toArray, List.set_cons_zero, List.set_cons_succ]
    refine wpAnyH_take (i := 4) (oi := ?o23) (v := ?v23) ?h23 ?s23 ?f23 ?c23 ?q23 ?y23 hHeld ?r23
    case h23 => (simp only [List.getElem?_toArray, List.getElem?_cons_succ, List.getElem?_cons_zero]; rfl)
    case s23 => kernel_rfl
    case f23 => kernel_rfl
    case c23 => kernel_rfl
    case y23 => (refine Or.inl ⟨by rfl, ?_⟩; intro w hSw; (try dsimp only at hSw); go_simp; (try with_reducible rfl))
    case q23 => exact fun _ _ _ h => h
    try simp only [Act.put, List.setIfInBounds_toArray, List.set_cons_zero, List.set_cons_succ]
    refine wpAnyH_take (i := 5) (oi := ?o24) (v := ?v24) ?h24 ?s24 ?f24 ?c24 ?q24 ?y24 hHeld ?r24
    case h24 => (simp only [List.getElem?_toArray, List.getElem?_cons_succ, List.getElem?_cons_zero]; rfl)
    case s24 => kernel_rfl
    case f24 => kernel_rfl
    case c24 => kernel_rfl
    case y24 => (refine Or.inl ⟨by rfl, ?_⟩; intro w hSw; (try dsimp only at hSw); go_simp; (try with_reducible rfl))
    case q24 => exact fun _ _ _ h => h
    try simp only [Act.put, List.setIfInBounds_toArray, List.set_cons_zero, List.set_cons_succ]
    refine wpAnyH_take (i := 6) (oi := ?o25) (v := ?v25) ?h25 ?s25 ?f25 ?c25 ?q25 ?y25 hHeld ?r25
    case h25 => (simp only [List.getElem?_toArray, List.getElem?_cons_succ, List.getElem?_cons_zero]; rfl)
    case s25 => kernel_rfl
    case f25 => kernel_rfl
    case c25 => kernel_rfl
    case y25 => (refine Or.inl ⟨by rfl, ?_⟩; intro w hSw; (try dsimp only at hSw); go_simp; (try with_reducible rfl))
    case q25 => exact fun _ _ _ h => h
    try simp only [Act.put, List.setIfInBounds_toArray, List.set_cons_zero, List.set_cons_succ]
    refine wpAnyH_take (i := 8) (oi := ?o26) (v := ?v26) ?h26 ?s26 ?f26 ?c26 ?q26 ?y26 hHeld ?r26
    case h26 => (simp only [List.getElem?_toArray, List.getElem?_cons_succ, List.getElem?_cons_zero]; rfl)
    case s26 => kernel_rfl
    case f26 => kernel_rfl
    case c26 => kernel_rfl
    case y26 => (refine Or.inl ⟨by rfl, ?_⟩; intro w hSw; (try dsimp only at hSw); go_simp; (try with_reducible rfl))
    case q26 => exact fun _ _ _ h => h
    try simp only [Act.put, List.setIfInBounds_toArray, List.set_cons_zero, List.set_cons_succ]
    refine wpAnyH_ready (rs := [7]) (by kernel_rfl) (by simp) ?_
    refine AllReadyH.cons rfl (fun K hK => ?_) ?n27
    case n27 => exact AllReadyH.nil
    go_simp
    (go_at_call 17; (with_reducible refine (atLength_is a la HLA _ HNa.out).mono ?_); rintro e u1 ⟨rfl, hy1⟩; replace Ba := Ba.go hy1; replace Bb := Bb.go hy1; obtain ⟨a0, a1, a2⟩ := Ba.cells; obtain ⟨b0, b1, b2⟩ := Bb.cells)
    go_wp2_with fail
    refine hK.out _ _ (by go_keep) (fun hHeld => ?_)
    clear hK
    try simp only [Act.put, List.setIfInBounds_toArray, List.set_cons_zero, List.set_cons_succ]
    refine wpAnyH_ready (rs := [9]) (by kernel_rfl) (by simp) ?_
    refine AllReadyH.cons rfl (fun K hK => ?_) ?n28
    case n28 => exact AllReadyH.nil
    go_simp
    (go_at_call 17; (with_reducible refine (atLength_is b lb HLB _ HNb.out).mono ?_); rintro e u2 ⟨rfl, hy2⟩; replace Ba := Ba.go hy2; replace Bb := Bb.go hy2; obtain ⟨a0, a1, a2⟩ := Ba.cells; obtain ⟨b0, b1, b2⟩ := Bb.cells)
    go_wp2_with fail
    refine hK.out _ _ (by go_keep) (fun hHeld => ?_)
    clear hK
    try simp only [Act.put, List.setIfInBounds_toArray, List.set_cons_zero, List.set_cons_succ]
    refine wpAnyH_take (i := 10) (oi := ?o29) (v := ?v29) ?h29 ?s29 ?f29 ?c29 ?q29 ?y29 hHeld ?r29
    case h29 => (simp only [List.getElem?_toArray, List.getElem?_cons_succ, List.getElem?_cons_zero]; rfl)
    case s29 => kernel_rfl
    case f29 => kernel_rfl
    case c29 => kernel_rfl
    case y29 => (refine Or.inl ⟨by rfl, ?_⟩; intro w hSw; (try dsimp only at hSw); go_simp; (try with_reducible rfl))
    case q29 => exact fun _ _ _ h => h
    try simp only [Act.put, List.setIfInBounds_toArray, List.set_cons_zero, List.set_cons_succ]
    refine wpAnyH_take (i := 11) (oi := ?o30) (v := ?v30) ?h30 ?s30 ?f30 ?c30 ?q30 ?y30 hHeld ?r30
    case h30 => (simp only [List.getElem?_toArray, List.getElem?_cons_succ, List.getElem?_cons_zero]; rfl)
    case s30 => kernel_rfl
    case f30 => kernel_rfl
    case c30 => kernel_rfl
    case y30 => (refine Or.inl ⟨by rfl, ?_⟩; intro w hSw; (try dsimp only at hSw); go_simp; (try with_reducible rfl))
    case q30 => exact fun _ _ _ h => h
    try simp only [Act.put, List.setIfInBounds_toArray, List.set_cons_zero, List.set_cons_succ]
    refine wpAnyH_take (i := 12) (oi := ?o31) (v := ?v31) ?h31 ?s31 ?f31 ?c31 ?q31 ?y31 hHeld ?r31
    case h31 => (simp only [List.getElem?_toArray, List.getElem?_cons_succ, List.getElem?_cons_zero]; rfl)
    case s31 => kernel_rfl
    case f31 => kernel_rfl
    case c31 => kernel_rfl
    case y31 => (refine Or.inl ⟨by rfl, ?_⟩; intro w hSw; (try dsimp only at hSw); go_simp; (try with_reducible rfl))
    case q31 => exact fun _ _ _ h => h
    try simp only [Act.put, List.setIfInBounds_toArray, List.set_cons_zero, List.set_cons_succ]
    refine wpAnyH_take (i := 13) (oi := ?o32) (v := undef) ?h32 ?s32 ?f32 ?c32 ?q32 ?y32 hHeld ?r32
    case h32 => (simp only [List.getElem?_toArray, List.getElem?_cons_succ, List.getElem?_cons_zero]; rfl)
    case s32 => kernel_rfl
    case f32 => kernel_rfl
    case c32 => kernel_rfl
    case y32 => exact Or.inr ⟨by rfl, rfl⟩
    case q32 => exact fun _ _ _ h => h
    try simp only [Act.put, List.setIfInBounds_toArray, List.set_cons_zero, List.set_cons_succ]
    refine wpAnyH_take (i := 14) (oi := ?o33) (v := undef) ?h33 ?s33 ?f33 ?c33 ?q33 ?y33 hHeld ?r33
    case h33 => (simp only [List.getElem?_toArray, List.getElem?_cons_succ, List.getElem?_cons_zero]; rfl)
    case s33 => kernel_rfl
    case f33 => kernel_rfl
    case c33 => kernel_rfl
    case y33 => exact Or.inr ⟨by rfl, rfl⟩
    case q33 => exact fun _ _ _ h => h
    try simp only [Act.put, List.setIfInBounds_toArray, List.set_cons_zero, List.set_cons_succ]
    refine wpAnyH_take (i := 15) (oi := ?o34) (v := undef) ?h34 ?s34 ?f34 ?c34 ?q34 ?y34 hHeld ?r34
    case h34 => (simp only [List.getElem?_toArray, List.getElem?_cons_succ, List.getElem?_cons_zero]; rfl)
    case s34 => kernel_rfl
    case f34 => kernel_rfl
    case c34 => kernel_rfl
    case y34 => exact Or.inr ⟨by rfl, rfl⟩
    case q34 => exact fun _ _ _ h => h
    try simp only [Act.put, List.setIfInBounds_toArray, List.set_cons_zero, List.set_cons_succ]
    refine wpAnyH_take (i := 16) (oi := ?o35) (v := undef) ?h35 ?s35 ?f35 ?c35 ?q35 ?y35 hHeld ?r35
    case h35 => (simp only [List.getElem?_toArray, List.getElem?_cons_succ, List.getElem?_cons_zero]; rfl)
    case s35 => kernel_rfl
    case f35 => kernel_rfl
    case c35 => kernel_rfl
    case y35 => exact Or.inr ⟨by rfl, rfl⟩
    case q35 => exact fun _ _ _ h => h
    try simp only [Act.put, List.setIfInBounds_toArray, List.set_cons_zero, List.set_cons_succ]
    refine wpAnyH_take (i := 17) (oi := ?o36) (v := ?v36) ?h36 ?s36 ?f36 ?c36 ?q36 ?y36 hHeld ?r36
    case h36 => (simp only [List.getElem?_toArray, List.getElem?_cons_succ, List.getElem?_cons_zero]; rfl)
    case s36 => kernel_rfl
    case f36 => kernel_rfl
    case c36 => kernel_rfl
    case y36 => (refine Or.inl ⟨by rfl, ?_⟩; intro w hSw; (try dsimp only at hSw); go_simp; (try with_reducible rfl))
    case q36 => exact fun _ _ _ h => h
    try simp only [Act.put, List.setIfInBounds_toArray, List.set_cons_zero, List.set_cons_succ]
    refine wpAnyH_done (by kernel_rfl) ?_ _
    obtain ⟨W0, hW0⟩ : ∃ W, W = u2 := ⟨_, rfl⟩
    rw [← hW0] at Ba Bb a0 a1 a2 ⊢
    clear hW0
    go_step
    clear hHeld
    have d0 := Ba.blk.lt
    clear Bb b0 b1 b2
    by_cases hk2 : a.kind = 2
    · have t2 : (a.kind != 2) = false := by simp [hk2]
      by_cases hl11 : 11 < na
      · have hl' : (11 : Int) < (na : Int) := by omega
        clear hk2
        go_wp2
        go_ret
        exact ⟨rfl, Ba.up⟩
      · have hl' : ¬ (11 : Int) < (na : Int) := by omega
        obtain ⟨hc0, hpB⟩ := path_of HQa.out hk2
        rw [HP.out] at hpB
        have HPB := Lib.hid hpB
        have HK2 := Lib.hid hk2
        have HC0 := Lib.hid hc0
        have hg0 : w.heap.size ≤ W0.heap.size := Ba.up.size
        clear hk2 hc0 hpB
        go_upto_region 9 with (fail)
        have z2 : (W0.alloc (.cells #[.int .i64 a.kind, .int .i64 a.cost, .slice Aa na ca] 24)).cell? ⟨w2.heap.size, 2, none⟩ = some (.slice Aa na ca) := (Ba.alloc _).cells.2.2
        have hbc := Blk.new W0 24 #[.int .i64 a.kind, .int .i64 a.cost, .slice Aa na ca]
        have huc := below_new W0 (.cells #[.int .i64 a.kind, .int .i64 a.cost, .slice Aa na ca] 24)
        have hcc := (Ba.at_.box (.cells #[.int .i64 a.kind, .int .i64 a.cost, .slice Aa na ca] 24)).2.1
        rw [HP.out] at hcc
        obtain ⟨Wc, hWc⟩ : ∃ W, W = W0.alloc (.cells #[.int .i64 a.kind, .int .i64 a.cost, .slice Aa na ca] 24) := ⟨_, rfl⟩
        rw [← hWc] at z2 hbc huc hcc ⊢
        have hsc := huc.size
        have HCC := Lib.hid hcc
        clear hWc hcc
        go_upto_region 10 with (first
          | (refine wpList_append_own _ rfl _ _ 22 rfl W0.heap.size 3 i0 (.int .i64 0) 1 8 Tryd.underlying22 hi hz0 hz1 hz2 rfl (by decide) _ _ _ rfl (hown9.alloc _) ⟨u9.heap.size, 0, none⟩ 1 1 [.int .i64 0] rfl rfl (cell_one_new _ _ _) (by simp [Value.oneCell']) (by unfold maxLen; omega) (by omega) (by have := hq9.size; simp; omega) ?_; intro v' u5 hown5 hgrow5 _; obtain ⟨A5, c5, rfl, hc5, hcm5⟩ := own_formB hown5; have hb5 := (hb9.alloc (.cells #[.int .i64 0] 3)).grown hgrow5 (fun e => own_blk_ne hown9 hb9 (by decide) e.symm); have hq5 := (hq9.trans ((below_new u9 (.cells #[.int .i64 0] 3)).mono hq9.size)).grown hgrow5 (by have := hq9.size; simp; omega) (fun g hg => (hown9.lt g hg).1); have s2 := hb5.cell 2; have e2 := hb5.frozen 2)
          | (refine wpList_append_cells _ rfl _ _ 22 rfl W0.heap.size 3 i0 (.int .i64 0) 1 8 Tryd.underlying22 hi hz0 hz1 hz2 rfl (by decide) _ 0 [] rfl (World.ownsRow_nil _ _ _ _) _ Aa na ca (p.map (Value.int .i64)) rfl (by rw [List.length_map, HPN.out, Nat.mul_one]) HCC.out (fun u hu => by obtain ⟨y, _, rfl⟩ := List.mem_map.1 hu; rfl) (by omega) (by omega) hsc ?_; intro v9' u9 hown9 hgrow8; have hgrow9 : Wc.grownBy u9 none := hgrow8; clear hgrow8; rw [Nat.zero_add, List.nil_append] at hown9; have hb9 := hbc.grown hgrow9 (by simp); have hq9 : Below W0.heap.size W0 u9 := huc.grown hgrow9 hsc (fun g hg => by cases hg)))
        have o5 := own_setA hown5 hb5 (by decide) 2 (.slice A5 (na + 1) c5)
        have k5 := hb5.set_ 2 (.slice A5 (na + 1) c5)
        have x5 := hq5.setCell (p := ⟨W0.heap.size, 2, none⟩) (Nat.le_refl _) (.slice A5 (na + 1) c5)
        obtain ⟨W1, hW1⟩ : ∃ W, W = u5.setCell ⟨W0.heap.size, 2, none⟩ (.slice A5 (na + 1) c5) := ⟨_, rfl⟩
        rw [← hW1] at o5 k5 x5 ⊢
        obtain ⟨gA, hA5, hgA, hrow⟩ : ∃ gA, A5 = some ⟨gA, 0, none⟩ ∧ W0.heap.size ≤ gA ∧ ∃ cur, Blk W1 gA 3 cur ∧ (∀ (j : Nat) (u : Value), ((p ++ [0]).map (Value.int .i64))[j]? = some u → cur[j]? = some u) := by
          rcases o5.2 with ⟨_, h0⟩ | ⟨g, cap, cur, hv, hb, hg, hc, hcm, hsz, htk⟩
          · omega
          · refine ⟨g, by injection hv, hb, cur, hg, fun j u hu => ?_⟩
            have e := congrArg (fun t : List Value => t[j]?) htk
            have hj : j < na + 1 := by
              have := (List.getElem?_eq_some_iff.1 hu).1
              simp [HPN.out] at this; omega
            simp only [List.getElem?_take, Nat.mul_one, hj, if_true] at e
            rw [List.map_append] at hu
            have e2 := e.trans hu
            simpa using e2
        subst hA5
        have LS : LongSt W0 a p na W0.heap.size gA c5 0 W1 := ⟨k5, hrow, x5⟩
        clear hrow o5 k5 x5 hW1 s2 e2 hb5 hq5 hown5 hgrow5 hown9 hgrow9 hb9 hq9 z2 hbc huc a0 a1 a2
        have HBA := Lib.hid Ba
        clear Ba
        go_wp2_with fail
        go_loopw [11] (fun s11 wr => ∃ (k : Nat) (v : Int), k ≤ 20 ∧ s11 = .int .i64 (k : Nat) ∧ Hid ((∀ i : Nat, i < k → (1 + v9) + (i : Int) ∈ p) ∨ (v ∉ p ∧ 1 ≤ v ∧ v ≤ 65535)) ∧ LongSt W0 a p na W0.heap.size gA c5 v wr) (fun s11 _ => 20 - (intOf s11).toNat)
        case atStart => exact ⟨0, 0, by omega, rfl, Lib.hid (.inl (fun i hi => absurd hi (by omega))), LS⟩
        case round =>
          clear LS
          obtain ⟨k, v, hk, rfl, HV, LS⟩ := hrel
          have Ba := HBA.out.go (show Below W0.heap.size W0 wr from LS.up)
          obtain ⟨a0, a1, a2⟩ := Ba.cells
          have l0 : wr.cell? ⟨W0.heap.size, 0, none⟩ = some (.int .i64 a.kind) := LS.box.cell 0
          have l1 : wr.cell? ⟨W0.heap.size, 1, none⟩ = some (.int .i64 a.cost) := LS.box.cell 1
          have l2 : wr.cell? ⟨W0.heap.size, 2, none⟩ = some (.slice (some ⟨gA, 0, none⟩) (na + 1) c5) := LS.box.cell 2
          by_cases hlt : k < 20
          · have hlt' : (k : Int) < 20 := by omega
            obtain ⟨X, hX⟩ : ∃ X, (1 + v9) + (k : Int) = X := ⟨_, rfl⟩
            have hXb : 1 ≤ X ∧ X ≤ 65535 := by omega
            have HX := Lib.hid hX
            obtain ⟨lc, lf⟩ := LS.cell HPN.out
            have hcl := Ba.at_.2.1
            rw [HP.out] at hcl
            have HCL := Lib.hid hcl
            have HLS := Lib.hid LS
            have HUPB := Lib.hid Ba.up
            clear hX hcl LS Ba
            go_upto_region 14 with (go_at_call 25; (with_reducible refine (pick6_is x1 60000 v9 hx1 (by omega) (by omega) HV9 _).mono ?_); rintro e w6 ⟨rfl, rfl⟩)
            rw [HX.out]
            go_wp2_with fail
            go_loop [13, 14] (fun s13 s14 => ∃ (t : Nat) (here : Bool), t ≤ na ∧ s14 = .int .i64 (t : Nat) ∧ s13 = .bool here ∧ Hid (memI X (p.take t) = here)) (fun _ s14 => na - (intOf s14).toNat)
            case atStart => exact ⟨0, false, Nat.zero_le _, rfl, rfl, Lib.hid (by simp [memI])⟩
            case round =>
              obtain ⟨t, here, ht, rfl, rfl, HH⟩ := hrel
              by_cases htl : t < na
              · obtain ⟨y, hy⟩ : ∃ y, p[t]? = some y := ⟨_, List.getElem?_eq_getElem (by rw [HPN.out]; exact htl)⟩
                obtain ⟨ad, rfl, _, cg⟩ := HCL.out.int hy
                have hmn : memI X (p.take (t + 1)) = (here || decide (X = y)) := by
                  rw [← HH.out]
                  unfold memI
                  rw [List.take_add_one, hy]
                  simp [List.mem_append, Bool.decide_or]
                have HMN := Lib.hid hmn
                clear hmn hy
                have htl' : (t : Int) < (na : Int) := by omega
                cases here
                · by_cases e : y = X
                  · have tt : (y == X) = true := by simpa using e
                    have HM2 : Hid (memI X (p.take (t + 1)) = true) := Lib.hid (by rw [HMN.out, decide_eq_true e.symm]; rfl)
                    clear e
                    go_wp2
                    go_round
                    case rel => exact ⟨t + 1, true, by omega, by go_num, rfl, HM2⟩
                    case measure => simp [intOf]; omega
                  · have tt : (y == X) = false := by simpa using e
                    have HM2 : Hid (memI X (p.take (t + 1)) = false) := Lib.hid (by rw [HMN.out, decide_eq_false (fun h => e h.symm)]; rfl)
                    clear e
                    go_wp2
                    go_round
                    case rel => exact ⟨t + 1, false, by omega, by go_num, rfl, HM2⟩
                    case measure => simp [intOf]; omega
                · have HM2 : Hid (memI X (p.take (t + 1)) = true) := Lib.hid (by rw [HMN.out]; rfl)
                  go_wp2
                  go_round
                  case rel => exact ⟨t + 1, true, by omega, by go_num, rfl, HM2⟩
                  case measure => simp [intOf]; omega
              · have htl' : ¬ (t : Int) < (na : Int) := by omega
                have HMP : Hid (memI X p = here) := Lib.hid (by have := HH.out; rwa [List.take_of_length_le (by rw [HPN.out]; omega)] at this)
                have n0 : (0 : Int) ≤ (na : Int) := by omega
                have n1 : (na : Int) < (na : Int) + 1 := by omega
                cases here
                · have HV2 : Hid ((∀ i : Nat, i < k + 1 → (1 + v9) + (i : Int) ∈ p) ∨ (X ∉ p ∧ 1 ≤ X ∧ X ≤ 65535)) := Lib.hid (.inr ⟨by have := HMP.out; unfold memI at this; simpa using this, hXb⟩)
                  go_wp2_with fail
                  go_roundw
                  case rel => exact ⟨k + 1, X, by omega, by go_num, HV2, HLS.out.turn HPN.out hgA X⟩
                  case measure => simp [intOf]; omega
                · have HV2 : Hid ((∀ i : Nat, i < k + 1 → (1 + v9) + (i : Int) ∈ p) ∨ (v ∉ p ∧ 1 ≤ v ∧ v ≤ 65535)) := Lib.hid (by
                    rcases HV.out with h | h
                    · refine .inl (fun i hi => ?_)
                      by_cases e : i = k
                      · rw [e, HX.out]; have := HMP.out; unfold memI at this; simpa using this
                      · exact h i (by omega)
                    · exact .inr h)
                  go_wp2_with fail
                  go_roundw
                  case rel => exact ⟨k + 1, v, by omega, by go_num, HV2, HLS.out⟩
                  case measure => simp [intOf]; omega
          · have hlt' : ¬ (k : Int) < 20 := by omega
            have hv : v ∉ p ∧ 1 ≤ v ∧ v ≤ 65535 := by
              rcases HV.out with h | h
              · have := pigeon (1 + v9) k p h
                rw [HPN.out] at this; omega
              · exact h
            obtain ⟨hv1, hv2, hv3⟩ := hv
            have hla : la = (na : Int) := by rw [← HLA.out]; unfold rtLen lenV; rw [HK2.out, HP.out, HPN.out]; rfl
            have G1 : Hid (rtRight ⟨a.kind, a.cost, p ++ [v]⟩ = true) := Lib.hid (by rw [HK2.out, HC0.out, right_path]; exact pathB_app HPB.out (by rw [HPN.out]; omega) hv1 hv2 hv3)
            have hlc : rtLen ⟨a.kind, a.cost, p ++ [v]⟩ = (na : Int) + 1 := by unfold rtLen lenV; dsimp only; rw [HK2.out, List.length_append, HPN.out]; rfl
            have G2 : Hid (rtBetter a ⟨a.kind, a.cost, p ++ [v]⟩ = true) := Lib.hid (longer_len rfl (by rw [hlc, HLA.out, hla]; omega))
            have G3 := Lib.hid hlc
            have G4 : Hid (rtLen a = (na : Int)) := Lib.hid (HLA.out.trans hla)
            have r7 := LS.at_ HPN.out (by omega)
            obtain ⟨L, hL⟩ : ∃ L, p ++ [v] = L := ⟨_, rfl⟩
            rw [hL] at G1 G2 G3 r7
            have hLL : L.length = na + 1 := by rw [← hL, List.length_append, HPN.out]; rfl
            have HLL := Lib.hid hLL
            have n0 : (0 : Int) ≤ (na : Int) := by omega
            have w1 : IntKind.i64.wrap ((na : Int) + 1) = (na : Int) + 1 := IntWalk.i64_in _ (by omega)
            have e1 : ((na : Int) + 1 == (na : Int) + 1) = true := by simp
            have Bc : RB w W0.heap.size ⟨a.kind, a.cost, L⟩ (some ⟨gA, 0, none⟩) (na + 1) c5 wr := ⟨LS.box, r7, Ba.up, Ba.tab⟩
            have Da := Ba.drew
            have Dc := Bc.drew
            clear hL hLL hla hlc hv1 LS r7 Bc Ba
            go_wp2_with fail
            go_region_held3 (fun w' => w'.cell? ⟨w2.heap.size, 0, none⟩ = some (.int .i64 a.kind) ∧ w'.cell? ⟨w2.heap.size, 1, none⟩ = some (.int .i64 a.cost) ∧ w'.cell? ⟨w2.heap.size, 2, none⟩ = some (.slice Aa na ca) ∧ w'.cell? ⟨W0.heap.size, 0, none⟩ = some (.int .i64 a.kind) ∧ w'.cell? ⟨W0.heap.size, 1, none⟩ = some (.int .i64 a.cost) ∧ w'.cell? ⟨W0.heap.size, 2, none⟩ = some (.slice (some ⟨gA, 0, none⟩) (na + 1) c5)) (go_keep) (first
              | (go_at_call 12; (with_reducible refine (atRight_is ⟨a.kind, a.cost, L⟩ true G1 Dc.at_ hc5 hcm5).mono ?_); rintro e y1 ⟨rfl, hy1⟩; replace Da := Da.go hy1; replace Dc := Dc.go hy1; obtain ⟨a0, a1, a2⟩ := Da.cells; obtain ⟨l0, l1, l2⟩ := Dc.cellsK)
              | (go_at_call 21; (with_reducible refine (atBetter_is a ⟨a.kind, a.cost, L⟩ true G2 Da.at_ Dc.at_).mono ?_); rintro e y2 ⟨rfl, hy2⟩; replace Da := Da.go hy2; replace Dc := Dc.go hy2; obtain ⟨a0, a1, a2⟩ := Da.cells; obtain ⟨l0, l1, l2⟩ := Dc.cellsK)
              | (go_at_call 17; (with_reducible refine (atLength_is ⟨a.kind, a.cost, L⟩ _ G3 _ HLL.out).mono ?_); rintro e y3 ⟨rfl, hy3⟩; replace Da := Da.go hy3; replace Dc := Dc.go hy3; obtain ⟨a0, a1, a2⟩ := Da.cells; obtain ⟨l0, l1, l2⟩ := Dc.cellsK)
              | (go_at_call 17; (with_reducible refine (atLength_is a _ G4 _ HNa.out).mono ?_); rintro e y4 ⟨rfl, hy4⟩; replace Da := Da.go hy4; replace Dc := Dc.go hy4; obtain ⟨a0, a1, a2⟩ := Da.cells; obtain ⟨l0, l1, l2⟩ := Dc.cellsK))
            repeat go_step
            go_ret
            exact ⟨ret_bool (by first | rfl | (simp; done) | (simp; omega)), Da.up⟩
    · have t2 : (a.kind != 2) = true := by simp [hk2]
      clear hk2
      go_wp2
      go_ret
      exact ⟨rfl, Ba.up⟩
  · have HBT := Lib.hid hc3
    clear hc3
    go_enter Tryd.func7, Tryd.ntmps7
    go_upto_region 4 with (first
      | (go_at_call 11; refine (awake6_any _ hT).mono ?_; rintro e w1 ⟨rfl, hb1⟩; have hA1x := hA1.on hb1; have hA2x := hA2.on hb1)
      | (go_at_call 14; (with_reducible refine (Route_is l1 a HRa na m1 HNa HM1 HW1.out hm1 hA1x).mono ?_); rintro e w2 ⟨Aa, ca, rfl, raa, lea, hb2⟩; have Ba := RB.new (c := ca) hb1 hT hb2 raa; have hA2x := (hA2x.on hb2).on (below_new _ (.cells #[.int .i64 a.kind, .int .i64 a.cost, .slice Aa na ca] 24)); obtain ⟨a0, a1, a2⟩ := Ba.cells)
      | (go_at_call 14; (with_reducible refine (Route_is l2 b HRb nb m2 HNb HM2 HW2.out hm2 hA2x).mono ?_); rintro e w3 ⟨Ab, cb, rfl, rab, leb, hb3⟩; have Bb := RB.new (c := cb) Ba.up hT hb3 rab; have Ba := (Ba.go hb3).alloc (.cells #[.int .i64 b.kind, .int .i64 b.cost, .slice Ab nb cb] 24); obtain ⟨b0, b1, b2⟩ := Bb.cells; obtain ⟨a0, a1, a2⟩ := Ba.cells))
    have Ba := Ba.drew
    have Bb := Bb.drew
    obtain ⟨a0, a1, a2⟩ := Ba.cells
    obtain ⟨b0, b1, b2⟩ := Bb.cells
    refine wp_region_held_drew (S := (fun w' => w'.cell? ⟨w2.heap.size, 0, none⟩ = some (.int .i64 a.kind) ∧ w'.cell? ⟨w2.heap.size, 1, none⟩ = some (.int .i64 a.cost) ∧ w'.cell? ⟨w2.heap.size, 2, none⟩ = some (.slice Aa na ca) ∧ w'.cell? ⟨w3.heap.size, 0, none⟩ = some (.int .i64 b.kind) ∧ w'.cell? ⟨w3.heap.size, 1, none⟩ = some (.int .i64 b.cost) ∧ w'.cell? ⟨w3.heap.size, 2, none⟩ = some (.slice Ab nb cb))) (by kernel_rfl) (by go_keep) (fun hHeld => ?_)
    refine wpAnyH_take (i := 0) (oi := ?o37) (v := ?v37) ?h37 ?s37 ?f37 ?c37 ?q37 ?y37 hHeld ?r37
    case h37 => (simp only [List.getElem?_toArray, List.getElem?_cons_succ, List.getElem?_cons_zero]; rfl)
    case s37 => kernel_rfl
    case f37 => kernel_rfl
    case c37 => kernel_rfl
    case y37 => (refine Or.inl ⟨by rfl, ?_⟩; intro w hSw; (try dsimp only at hSw); go_simp; (try with_reducible rfl))
    case q37 => exact fun _ _ _ h => h
    try simp only [Act.put, List.setIfInBounds_toArray, List.set_cons_zero, List.set_cons_succ]
    refine wpAnyH_take (i := 1) (oi := ?o38) (v := ?v38) ?h38 ?s38 ?f38 ?c38 ?q38 ?y38 hHeld ?r38
    case h38 => (simp only [List.getElem?_toArray, List.getElem?_cons_succ, List.getElem?_cons_zero]; rfl)
    case s38 => kernel_rfl
    case f38 => kernel_rfl
    case c38 => kernel_rfl
    case y38 => (refine Or.inl ⟨by rfl, ?_⟩; intro w hSw; (try dsimp only at hSw); go_simp; (try with_reducible rfl))
    case q38 => exact fun _ _ _ h => h
    try simp only [Act.put, List.setIfInBounds_toArray, List.set_cons_zero, List.set_cons_succ]
    refine wpAnyH_take (i := 2) (oi := ?o39) (v := ?v39) ?h39 ?s39 ?f39 ?c39 ?q39 ?y39 hHeld ?r39
    case h39 => (simp only [List.getElem?_toArray, List.getElem?_cons_succ, List.getElem?_cons_zero]; rfl)
    case s39 => kernel_rfl
    case f39 => kernel_rfl
    case c39 => kernel_rfl
    case y39 => (refine Or.inl ⟨by rfl, ?_⟩; intro w hSw; (try dsimp only at hSw); go_simp; (try with_reducible rfl))
    case q39 => exact fun _ _ _ h => h
    try simp only [Act.put, List.setIfInBounds_toArray, List.set_cons_zero, List.set_cons_succ]
    refine wpAnyH_take (i := 3) (oi := ?o40) (v := ?v40) ?h40 ?s40 ?f40 ?c40 ?q40 ?y40 hHeld ?r40
    case h40 => (simp only [List.getElem?_toArray, List.getElem?_cons_succ, List.getElem?_cons_zero]; rfl)
    case s40 => kernel_rfl
    case f40 => kernel_rfl
    case c40 => kernel_rfl
    case y40 => (refine Or.inl ⟨by rfl, ?_⟩; intro w hSw; (try dsimp only at hSw); go_simp; (try with_reducible rfl))
    case q40 => exact fun _ _ _ h => h
    try simp only [Act.put, List.setIfInBounds_toArray, List.set_cons_zero, List.set_cons_succ]
    refine wpAnyH_take (i := 4) (oi := ?o41) (v := ?v41) ?h41 ?s41 ?f41 ?c41 ?q41 ?y41 hHeld ?r41
    case h41 => (simp only [List.getElem?_toArray, List.getElem?_cons_succ, List.getElem?_cons_zero]; rfl)
    case s41 => kernel_rfl
    case f41 => kernel_rfl
    case c41 => kernel_rfl
    case y41 => (refine Or.inl ⟨by rfl, ?_⟩; intro w hSw; (try dsimp only at hSw); go_simp; (try with_reducible rfl))
    case q41 => exact fun _ _ _ h => h
    try simp only [Act.put, List.setIfInBounds_toArray, List.set_cons_zero, List.set_cons_succ]
    refine wpAnyH_take (i := 5) (oi := ?o42) (v := ?v42) ?h42 ?s42 ?f42 ?c42 ?q42 ?y42 hHeld ?r42
    case h42 => (simp only [List.getElem?_toArray, List.getElem?_cons_succ, List.getElem?_cons_zero]; rfl)
    case s42 => kernel_rfl
    case f42 => kernel_rfl
    case c42 => kernel_rfl
    case y42 => (refine Or.inl ⟨by rfl, ?_⟩; intro w hSw; (try dsimp only at hSw); go_simp; (try with_reducible rfl))
    case q42 => exact fun _ _ _ h => h
    try simp only [Act.put, List.setIfInBounds_toArray, List.set_cons_zero, List.set_cons_succ]
    refine wpAnyH_take (i := 6) (oi := ?o43) (v := ?v43) ?h43 ?s43 ?f43 ?c43 ?q43 ?y43 hHeld ?r43
    case h43 => (simp only [List.getElem?_toArray, List.getElem?_cons_succ, List.getElem?_cons_zero]; rfl)
    case s43 => kernel_rfl
    case f43 => kernel_rfl
    case c43 => kernel_rfl
    case y43 => (refine Or.inl ⟨by rfl, ?_⟩; intro w hSw; (try dsimp only at hSw); go_simp; (try with_reducible rfl))
    case q43 => exact fun _ _ _ h => h
    try simp only [Act.put, List.setIfInBounds_toArray, List.set_cons_zero, List.set_cons_succ]
    refine wpAnyH_take (i := 8) (oi := ?o44) (v := ?v44) ?h44 ?s44 ?f44 ?c44 ?q44 ?y44 hHeld ?r44
    case h44 => (simp only [List.getElem?_toArray, List.getElem?_cons_succ, List.getElem?_cons_zero]; rfl)
    case s44 => kernel_rfl
    case f44 => kernel_rfl
    case c44 => kernel_rfl
    case y44 => (refine Or.inl ⟨by rfl, ?_⟩; intro w hSw; (try dsimp only at hSw); go_simp; (try with_reducible rfl))
    case q44 => exact fun _ _ _ h => h
    try simp only [Act.put, List.setIfInBounds_toArray, List.set_cons_zero, List.set_cons_succ]
    refine wpAnyH_ready (rs := [7]) (by kernel_rfl) (by simp) ?_
    refine AllReadyH.cons rfl (fun K hK => ?_) ?n45
    case n45 => exact AllReadyH.nil
    go_simp
    (go_at_call 17; (with_reducible refine (atLength_is a la HLA _ HNa.out).mono ?_); rintro e u1 ⟨rfl, hy1⟩; replace Ba := Ba.go hy1; replace Bb := Bb.go hy1; obtain ⟨a0, a1, a2⟩ := Ba.cells; obtain ⟨b0, b1, b2⟩ := Bb.cells)
    go_wp2_with fail
    refine hK.out _ _ (by go_keep) (fun hHeld => ?_)
    clear hK
    try simp only [Act.put, List.setIfInBounds_toArray, List.set_cons_zero, List.set_cons_succ]
    refine wpAnyH_ready (rs := [9]) (by kernel_rfl) (by simp) ?_
    refine AllReadyH.cons rfl (fun K hK => ?_) ?n46
    case n46 => exact AllReadyH.nil
    go_simp
    (go_at_call 17; (with_reducible refine (atLength_is b lb HLB _ HNb.out).mono ?_); rintro e u2 ⟨rfl, hy2⟩; replace Ba := Ba.go hy2; replace Bb := Bb.go hy2; obtain ⟨a0, a1, a2⟩ := Ba.cells; obtain ⟨b0, b1, b2⟩ := Bb.cells)
    go_wp2_with fail
    refine hK.out _ _ (by go_keep) (fun hHeld => ?_)
    clear hK
    try simp only [Act.put, List.setIfInBounds_toArray, List.set_cons_zero, List.set_cons_succ]
    refine wpAnyH_take (i := 10) (oi := ?o47) (v := ?v47) ?h47 ?s47 ?f47 ?c47 ?q47 ?y47 hHeld ?r47
    case h47 => (simp only [List.getElem?_toArray, List.getElem?_cons_succ, List.getElem?_cons_zero]; rfl)
    case s47 => kernel_rfl
    case f47 => kernel_rfl
    case c47 => kernel_rfl
    case y47 => (refine Or.inl ⟨by rfl, ?_⟩; intro w hSw; (try dsimp only at hSw); go_simp; (try with_reducible rfl))
    case q47 => exact fun _ _ _ h => h
    try simp only [Act.put, List.setIfInBounds_toArray, List.set_cons_zero, List.set_cons_succ]
    refine wpAnyH_take (i := 11) (oi := ?o48) (v := ?v48) ?h48 ?s48 ?f48 ?c48 ?q48 ?y48 hHeld ?r48
    case h48 => (simp only [List.getElem?_toArray, List.getElem?_cons_succ, List.getElem?_cons_zero]; rfl)
    case s48 => kernel_rfl
    case f48 => kernel_rfl
    case c48 => kernel_rfl
    case y48 => (refine Or.inl ⟨by rfl, ?_⟩; intro w hSw; (try dsimp only at hSw); go_simp; (try with_reducible rfl))
    case q48 => exact fun _ _ _ h => h
    try simp only [Act.put, List.setIfInBounds_toArray, List.set_cons_zero, List.set_cons_succ]
    refine wpAnyH_take (i := 12) (oi := ?o49) (v := ?v49) ?h49 ?s49 ?f49 ?c49 ?q49 ?y49 hHeld ?r49
    case h49 => (simp only [List.getElem?_toArray, List.getElem?_cons_succ, List.getElem?_cons_zero]; rfl)
    case s49 => kernel_rfl
    case f49 => kernel_rfl
    case c49 => kernel_rfl
    case y49 => (refine Or.inl ⟨by rfl, ?_⟩; intro w hSw; (try dsimp only at hSw); go_simp; (try with_reducible rfl))
    case q49 => exact fun _ _ _ h => h
    try simp only [Act.put, List.setIfInBounds_toArray, List.set_cons_zero, List.set_cons_succ]
    refine wpAnyH_take (i := 13) (oi := ?o50) (v := ?v50) ?h50 ?s50 ?f50 ?c50 ?q50 ?y50 hHeld ?r50
    case h50 => (simp only [List.getElem?_toArray, List.getElem?_cons_succ, List.getElem?_cons_zero]; rfl)
    case s50 => kernel_rfl
    case f50 => kernel_rfl
    case c50 => kernel_rfl
    case y50 => (refine Or.inl ⟨by rfl, ?_⟩; intro w hSw; (try dsimp only at hSw); go_simp; (try with_reducible rfl))
    case q50 => exact fun _ _ _ h => h
    try simp only [Act.put, List.setIfInBounds_toArray, List.set_cons_zero, List.set_cons_succ]
    refine wpAnyH_take (i := 14) (oi := ?o51) (v := ?v51) ?h51 ?s51 ?f51 ?c51 ?q51 ?y51 hHeld ?r51
    case h51 => (simp only [List.getElem?_toArray, List.getElem?_cons_succ, List.getElem?_cons_zero]; rfl)
    case s51 => kernel_rfl
    case f51 => kernel_rfl
    case c51 => kernel_rfl
    case y51 => (refine Or.inl ⟨by rfl, ?_⟩; intro w hSw; (try dsimp only at hSw); go_simp; (try with_reducible rfl))
    case q51 => exact fun _ _ _ h => h
    try simp only [Act.put, List.setIfInBounds_toArray, List.set_cons_zero, List.set_cons_succ]
    refine wpAnyH_ready (rs := [15]) (by kernel_rfl) (by simp) ?_
    refine AllReadyH.cons rfl (fun K hK => ?_) ?n52
    case n52 => exact AllReadyH.nil
    go_simp
    (go_at_call 21; (with_reducible refine (atBetter_is a b true HBT Ba.at_ Bb.at_).mono ?_); rintro e u3 ⟨rfl, hy3⟩; replace Ba := Ba.go hy3; replace Bb := Bb.go hy3; obtain ⟨a0, a1, a2⟩ := Ba.cells; obtain ⟨b0, b1, b2⟩ := Bb.cells)
    go_wp2_with fail
    refine hK.out _ _ (by go_keep) (fun hHeld => ?_)
    clear hK
    try simp only [Act.put, List.setIfInBounds_toArray, List.set_cons_zero, List.set_cons_succ]
    refine wpAnyH_take (i := 16) (oi := ?o53) (v := ?v53) ?h53 ?s53 ?f53 ?c53 ?q53 ?y53 hHeld ?r53
    case h53 => (simp only [List.getElem?_toArray, List.getElem?_cons_succ, List.getElem?_cons_zero]; rfl)
    case s53 => kernel_rfl
    case f53 => kernel_rfl
    case c53 => kernel_rfl
    case y53 => (refine Or.inl ⟨by rfl, ?_⟩; intro w hSw; (try dsimp only at hSw); go_simp; (try with_reducible rfl))
    case q53 => exact fun _ _ _ h => h
    try simp only [Act.put, List.setIfInBounds_toArray, List.set_cons_zero, List.set_cons_succ]
    refine wpAnyH_take (i := 17) (oi := ?o54) (v := ?v54) ?h54 ?s54 ?f54 ?c54 ?q54 ?y54 hHeld ?r54
    case h54 => (simp only [List.getElem?_toArray, List.getElem?_cons_succ, List.getElem?_cons_zero]; rfl)
    case s54 => kernel_rfl
    case f54 => kernel_rfl
    case c54 => kernel_rfl
    case y54 => (refine Or.inl ⟨by rfl, ?_⟩; intro w hSw; (try dsimp only at hSw); go_simp; (try with_reducible rfl))
    case q54 => exact fun _ _ _ h => h
    try simp only [Act.put, List.setIfInBounds_toArray, List.set_cons_zero, List.set_cons_succ]
    refine wpAnyH_done (by kernel_rfl) ?_ _
    obtain ⟨W0, hW0⟩ : ∃ W, W = u3 := ⟨_, rfl⟩
    rw [← hW0] at Ba Bb a0 a1 a2 ⊢
    clear hW0
    go_step
    clear hHeld
    have d0 := Ba.blk.lt
    clear Bb b0 b1 b2
    by_cases hk2 : a.kind = 2
    · have t2 : (a.kind != 2) = false := by simp [hk2]
      by_cases hl11 : 11 < na
      · have hl' : (11 : Int) < (na : Int) := by omega
        clear hk2
        go_wp2
        go_ret
        exact ⟨rfl, Ba.up⟩
      · have hl' : ¬ (11 : Int) < (na : Int) := by omega
        obtain ⟨hc0, hpB⟩ := path_of HQa.out hk2
        rw [HP.out] at hpB
        have HPB := Lib.hid hpB
        have HK2 := Lib.hid hk2
        have HC0 := Lib.hid hc0
        have hg0 : w.heap.size ≤ W0.heap.size := Ba.up.size
        clear hk2 hc0 hpB
        go_upto_region 9 with (fail)
        have z2 : (W0.alloc (.cells #[.int .i64 a.kind, .int .i64 a.cost, .slice Aa na ca] 24)).cell? ⟨w2.heap.size, 2, none⟩ = some (.slice Aa na ca) := (Ba.alloc _).cells.2.2
        have hbc := Blk.new W0 24 #[.int .i64 a.kind, .int .i64 a.cost, .slice Aa na ca]
        have huc := below_new W0 (.cells #[.int .i64 a.kind, .int .i64 a.cost, .slice Aa na ca] 24)
        have hcc := (Ba.at_.box (.cells #[.int .i64 a.kind, .int .i64 a.cost, .slice Aa na ca] 24)).2.1
        rw [HP.out] at hcc
        obtain ⟨Wc, hWc⟩ : ∃ W, W = W0.alloc (.cells #[.int .i64 a.kind, .int .i64 a.cost, .slice Aa na ca] 24) := ⟨_, rfl⟩
        rw [← hWc] at z2 hbc huc hcc ⊢
        have hsc := huc.size
        have HCC := Lib.hid hcc
        clear hWc hcc
        go_upto_region 10 with (first
          | (refine wpList_append_own _ rfl _ _ 22 rfl W0.heap.size 3 i0 (.int .i64 0) 1 8 Tryd.underlying22 hi hz0 hz1 hz2 rfl (by decide) _ _ _ rfl (hown9.alloc _) ⟨u9.heap.size, 0, none⟩ 1 1 [.int .i64 0] rfl rfl (cell_one_new _ _ _) (by simp [Value.oneCell']) (by unfold maxLen; omega) (by omega) (by have := hq9.size; simp; omega) ?_; intro v' u5 hown5 hgrow5 _; obtain ⟨A5, c5, rfl, hc5, hcm5⟩ := own_formB hown5; have hb5 := (hb9.alloc (.cells #[.int .i64 0] 3)).grown hgrow5 (fun e => own_blk_ne hown9 hb9 (by decide) e.symm); have hq5 := (hq9.trans ((below_new u9 (.cells #[.int .i64 0] 3)).mono hq9.size)).grown hgrow5 (by have := hq9.size; simp; omega) (fun g hg => (hown9.lt g hg).1); have s2 := hb5.cell 2; have e2 := hb5.frozen 2)
          | (refine wpList_append_cells _ rfl _ _ 22 rfl W0.heap.size 3 i0 (.int .i64 0) 1 8 Tryd.underlying22 hi hz0 hz1 hz2 rfl (by decide) _ 0 [] rfl (World.ownsRow_nil _ _ _ _) _ Aa na ca (p.map (Value.int .i64)) rfl (by rw [List.length_map, HPN.out, Nat.mul_one]) HCC.out (fun u hu => by obtain ⟨y, _, rfl⟩ := List.mem_map.1 hu; rfl) (by omega) (by omega) hsc ?_; intro v9' u9 hown9 hgrow8; have hgrow9 : Wc.grownBy u9 none := hgrow8; clear hgrow8; rw [Nat.zero_add, List.nil_append] at hown9; have hb9 := hbc.grown hgrow9 (by simp); have hq9 : Below W0.heap.size W0 u9 := huc.grown hgrow9 hsc (fun g hg => by cases hg)))
        have o5 := own_setA hown5 hb5 (by decide) 2 (.slice A5 (na + 1) c5)
        have k5 := hb5.set_ 2 (.slice A5 (na + 1) c5)
        have x5 := hq5.setCell (p := ⟨W0.heap.size, 2, none⟩) (Nat.le_refl _) (.slice A5 (na + 1) c5)
        obtain ⟨W1, hW1⟩ : ∃ W, W = u5.setCell ⟨W0.heap.size, 2, none⟩ (.slice A5 (na + 1) c5) := ⟨_, rfl⟩
        rw [← hW1] at o5 k5 x5 ⊢
        obtain ⟨gA, hA5, hgA, hrow⟩ : ∃ gA, A5 = some ⟨gA, 0, none⟩ ∧ W0.heap.size ≤ gA ∧ ∃ cur, Blk W1 gA 3 cur ∧ (∀ (j : Nat) (u : Value), ((p ++ [0]).map (Value.int .i64))[j]? = some u → cur[j]? = some u) := by
          rcases o5.2 with ⟨_, h0⟩ | ⟨g, cap, cur, hv, hb, hg, hc, hcm, hsz, htk⟩
          · omega
          · refine ⟨g, by injection hv, hb, cur, hg, fun j u hu => ?_⟩
            have e := congrArg (fun t : List Value => t[j]?) htk
            have hj : j < na + 1 := by
              have := (List.getElem?_eq_some_iff.1 hu).1
              simp [HPN.out] at this; omega
            simp only [List.getElem?_take, Nat.mul_one, hj, if_true] at e
            rw [List.map_append] at hu
            have e2 := e.trans hu
            simpa using e2
        subst hA5
        have LS : LongSt W0 a p na W0.heap.size gA c5 0 W1 := ⟨k5, hrow, x5⟩
        clear hrow o5 k5 x5 hW1 s2 e2 hb5 hq5 hown5 hgrow5 hown9 hgrow9 hb9 hq9 z2 hbc huc a0 a1 a2
        have HBA := Lib.hid Ba
        clear Ba
        go_wp2_with fail
        go_loopw [11] (fun s11 wr => ∃ (k : Nat) (v : Int), k ≤ 20 ∧ s11 = .int .i64 (k : Nat) ∧ Hid ((∀ i : Nat, i < k → (1 + v9) + (i : Int) ∈ p) ∨ (v ∉ p ∧ 1 ≤ v ∧ v ≤ 65535)) ∧ LongSt W0 a p na W0.heap.size gA c5 v wr) (fun s11 _ => 20 - (intOf s11).toNat)
        case atStart => exact ⟨0, 0, by omega, rfl, Lib.hid (.inl (fun i hi => absurd hi (by omega))), LS⟩
        case round =>
          clear LS
          obtain ⟨k, v, hk, rfl, HV, LS⟩ := hrel
          have Ba := HBA.out.go (show Below W0.heap.size W0 wr from LS.up)
          obtain ⟨a0, a1, a2⟩ := Ba.cells
          have l0 : wr.cell? ⟨W0.heap.size, 0, none⟩ = some (.int .i64 a.kind) := LS.box.cell 0
          have l1 : wr.cell? ⟨W0.heap.size, 1, none⟩ = some (.int .i64 a.cost) := LS.box.cell 1
          have l2 : wr.cell? ⟨W0.heap.size, 2, none⟩ = some (.slice (some ⟨gA, 0, none⟩) (na + 1) c5) := LS.box.cell 2
          by_cases hlt : k < 20
          · have hlt' : (k : Int) < 20 := by omega
            obtain ⟨X, hX⟩ : ∃ X, (1 + v9) + (k : Int) = X := ⟨_, rfl⟩
            have hXb : 1 ≤ X ∧ X ≤ 65535 := by omega
            have HX := Lib.hid hX
            obtain ⟨lc, lf⟩ := LS.cell HPN.out
            have hcl := Ba.at_.2.1
            rw [HP.out] at hcl
            have HCL := Lib.hid hcl
            have HLS := Lib.hid LS
            have HUPB := Lib.hid Ba.up
            clear hX hcl LS Ba
            go_upto_region 14 with (go_at_call 25; (with_reducible refine (pick6_is x1 60000 v9 hx1 (by omega) (by omega) HV9 _).mono ?_); rintro e w6 ⟨rfl, rfl⟩)
            rw [HX.out]
            go_wp2_with fail
            go_loop [13, 14] (fun s13 s14 => ∃ (t : Nat) (here : Bool), t ≤ na ∧ s14 = .int .i64 (t : Nat) ∧ s13 = .bool here ∧ Hid (memI X (p.take t) = here)) (fun _ s14 => na - (intOf s14).toNat)
            case atStart => exact ⟨0, false, Nat.zero_le _, rfl, rfl, Lib.hid (by simp [memI])⟩
            case round =>
              obtain ⟨t, here, ht, rfl, rfl, HH⟩ := hrel
              by_cases htl : t < na
              · obtain ⟨y, hy⟩ : ∃ y, p[t]? = some y := ⟨_, List.getElem?_eq_getElem (by rw [HPN.out]; exact htl)⟩
                obtain ⟨ad, rfl, _, cg⟩ := HCL.out.int hy
                have hmn : memI X (p.take (t + 1)) = (here || decide (X = y)) := by
                  rw [← HH.out]
                  unfold memI
                  rw [List.take_add_one, hy]
                  simp [List.mem_append, Bool.decide_or]
                have HMN := Lib.hid hmn
                clear hmn hy
                have htl' : (t : Int) < (na : Int) := by omega
                cases here
                · by_cases e : y = X
                  · have tt : (y == X) = true := by simpa using e
                    have HM2 : Hid (memI X (p.take (t + 1)) = true) := Lib.hid (by rw [HMN.out, decide_eq_true e.symm]; rfl)
                    clear e
                    go_wp2
                    go_round
                    case rel => exact ⟨t + 1, true, by omega, by go_num, rfl, HM2⟩
                    case measure => simp [intOf]; omega
                  · have tt : (y == X) = false := by simpa using e
                    have HM2 : Hid (memI X (p.take (t + 1)) = false) := Lib.hid (by rw [HMN.out, decide_eq_false (fun h => e h.symm)]; rfl)
                    clear e
                    go_wp2
                    go_round
                    case rel => exact ⟨t + 1, false, by omega, by go_num, rfl, HM2⟩
                    case measure => simp [intOf]; omega
                · have HM2 : Hid (memI X (p.take (t + 1)) = true) := Lib.hid (by rw [HMN.out]; rfl)
                  go_wp2
                  go_round
                  case rel => exact ⟨t + 1, true, by omega, by go_num, rfl, HM2⟩
                  case measure => simp [intOf]; omega
              · have htl' : ¬ (t : Int) < (na : Int) := by omega
                have HMP : Hid (memI X p = here) := Lib.hid (by have := HH.out; rwa [List.take_of_length_le (by rw [HPN.out]; omega)] at this)
                have n0 : (0 : Int) ≤ (na : Int) := by omega
                have n1 : (na : Int) < (na : Int) + 1 := by omega
                cases here
                · have HV2 : Hid ((∀ i : Nat, i < k + 1 → (1 + v9) + (i : Int) ∈ p) ∨ (X ∉ p ∧ 1 ≤ X ∧ X ≤ 65535)) := Lib.hid (.inr ⟨by have := HMP.out; unfold memI at this; simpa using this, hXb⟩)
                  go_wp2_with fail
                  go_roundw
                  case rel => exact ⟨k + 1, X, by omega, by go_num, HV2, HLS.out.turn HPN.out hgA X⟩
                  case measure => simp [intOf]; omega
                · have HV2 : Hid ((∀ i : Nat, i < k + 1 → (1 + v9) + (i : Int) ∈ p) ∨ (v ∉ p ∧ 1 ≤ v ∧ v ≤ 65535)) := Lib.hid (by
                    rcases HV.out with h | h
                    · refine .inl (fun i hi => ?_)
                      by_cases e : i = k
                      · rw [e, HX.out]; have := HMP.out; unfold memI at this; simpa using this
                      · exact h i (by omega)
                    · exact .inr h)
                  go_wp2_with fail
                  go_roundw
                  case rel => exact ⟨k + 1, v, by omega, by go_num, HV2, HLS.out⟩
                  case measure => simp [intOf]; omega
          · have hlt' : ¬ (k : Int) < 20 := by omega
            have hv : v ∉ p ∧ 1 ≤ v ∧ v ≤ 65535 := by
              rcases HV.out with h | h
              · have := pigeon (1 + v9) k p h
                rw [HPN.out] at this; omega
              · exact h
            obtain ⟨hv1, hv2, hv3⟩ := hv
            have hla : la = (na : Int) := by rw [← HLA.out]; unfold rtLen lenV; rw [HK2.out, HP.out, HPN.out]; rfl
            have G1 : Hid (rtRight ⟨a.kind, a.cost, p ++ [v]⟩ = true) := Lib.hid (by rw [HK2.out, HC0.out, right_path]; exact pathB_app HPB.out (by rw [HPN.out]; omega) hv1 hv2 hv3)
            have hlc : rtLen ⟨a.kind, a.cost, p ++ [v]⟩ = (na : Int) + 1 := by unfold rtLen lenV; dsimp only; rw [HK2.out, List.length_append, HPN.out]; rfl
            have G2 : Hid (rtBetter a ⟨a.kind, a.cost, p ++ [v]⟩ = true) := Lib.hid (longer_len rfl (by rw [hlc, HLA.out, hla]; omega))
            have G3 := Lib.hid hlc
            have G4 : Hid (rtLen a = (na : Int)) := Lib.hid (HLA.out.trans hla)
            have r7 := LS.at_ HPN.out (by omega)
            obtain ⟨L, hL⟩ : ∃ L, p ++ [v] = L := ⟨_, rfl⟩
            rw [hL] at G1 G2 G3 r7
            have hLL : L.length = na + 1 := by rw [← hL, List.length_append, HPN.out]; rfl
            have HLL := Lib.hid hLL
            have n0 : (0 : Int) ≤ (na : Int) := by omega
            have w1 : IntKind.i64.wrap ((na : Int) + 1) = (na : Int) + 1 := IntWalk.i64_in _ (by omega)
            have e1 : ((na : Int) + 1 == (na : Int) + 1) = true := by simp
            have Bc : RB w W0.heap.size ⟨a.kind, a.cost, L⟩ (some ⟨gA, 0, none⟩) (na + 1) c5 wr := ⟨LS.box, r7, Ba.up, Ba.tab⟩
            have Da := Ba.drew
            have Dc := Bc.drew
            clear hL hLL hla hlc hv1 LS r7 Bc Ba
            go_wp2_with fail
            go_region_held3 (fun w' => w'.cell? ⟨w2.heap.size, 0, none⟩ = some (.int .i64 a.kind) ∧ w'.cell? ⟨w2.heap.size, 1, none⟩ = some (.int .i64 a.cost) ∧ w'.cell? ⟨w2.heap.size, 2, none⟩ = some (.slice Aa na ca) ∧ w'.cell? ⟨W0.heap.size, 0, none⟩ = some (.int .i64 a.kind) ∧ w'.cell? ⟨W0.heap.size, 1, none⟩ = some (.int .i64 a.cost) ∧ w'.cell? ⟨W0.heap.size, 2, none⟩ = some (.slice (some ⟨gA, 0, none⟩) (na + 1) c5)) (go_keep) (first
              | (go_at_call 12; (with_reducible refine (atRight_is ⟨a.kind, a.cost, L⟩ true G1 Dc.at_ hc5 hcm5).mono ?_); rintro e y1 ⟨rfl, hy1⟩; replace Da := Da.go hy1; replace Dc := Dc.go hy1; obtain ⟨a0, a1, a2⟩ := Da.cells; obtain ⟨l0, l1, l2⟩ := Dc.cellsK)
              | (go_at_call 21; (with_reducible refine (atBetter_is a ⟨a.kind, a.cost, L⟩ true G2 Da.at_ Dc.at_).mono ?_); rintro e y2 ⟨rfl, hy2⟩; replace Da := Da.go hy2; replace Dc := Dc.go hy2; obtain ⟨a0, a1, a2⟩ := Da.cells; obtain ⟨l0, l1, l2⟩ := Dc.cellsK)
              | (go_at_call 17; (with_reducible refine (atLength_is ⟨a.kind, a.cost, L⟩ _ G3 _ HLL.out).mono ?_); rintro e y3 ⟨rfl, hy3⟩; replace Da := Da.go hy3; replace Dc := Dc.go hy3; obtain ⟨a0, a1, a2⟩ := Da.cells; obtain ⟨l0, l1, l2⟩ := Dc.cellsK)
              | (go_at_call 17; (with_reducible refine (atLength_is a _ G4 _ HNa.out).mono ?_); rintro e y4 ⟨rfl, hy4⟩; replace Da := Da.go hy4; replace Dc := Dc.go hy4; obtain ⟨a0, a1, a2⟩ := Da.cells; obtain ⟨l0, l1, l2⟩ := Dc.cellsK))
            repeat go_step
            go_ret
            exact ⟨ret_bool (by first | rfl | (simp; done) | (simp; omega)), Da.up⟩
    · have t2 : (a.kind != 2) = true := by simp [hk2]
      clear hk2
      go_wp2
      go_ret
      exact ⟨rfl, Ba.up⟩
end Go.Proofs.YtobeenlkhggodaaDoor
