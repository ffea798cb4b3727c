/-
  A table beside a list of routes and a list of numbers that the law makes.
-/
import Derived.Test.YtlfdpfkimggeoaaDoorTbG
namespace Go.Proofs.YtlfdpfkimggeoaaDoor
open Go.RowKit
set_option linter.unusedVariables false
set_option linter.unusedSimpArgs false

structure KS (w0 : World) (F : Nat → Prop) (tb : Nat) (lt : List Rt) (A : Option Addr) (c : Nat) (ls : List Rt) (hs : List (Option Addr × Nat)) (Bi : Option Addr) (ci : Nat) (ids : List Int) (W : World) : Prop where
  t : LT w0 F tb 100 lt W
  rows : W.ownsRow w0.heap.size 25 3 (.slice A ls.length c) ls.length ((ls.zip hs).flatMap rtC)
  hl : hs.length = ls.length
  paths : ∀ (i : Nat) (r : Rt) (q : Option Addr × Nat), ls[i]? = some r → hs[i]? = some q → RtAt W r q.1 r.path.length ∧ (∀ a, q.1 = some a → ¬ F a.block ∧ (Value.slice A ls.length c).ownBlock ≠ some a.block ∧ (Value.slice Bi ids.length ci).ownBlock ≠ some a.block ∧ a.block < W.heap.size) ∧ r.path.length ≤ q.2 ∧ q.2 ≤ 9223372036854775807
  nums : W.ownsRow w0.heap.size 3 1 (.slice Bi ids.length ci) ids.length (ids.map (Value.int .i64))
  rF : ∀ g, (Value.slice A ls.length c).ownBlock = some g → ¬ F g ∧ (Value.slice Bi ids.length ci).ownBlock ≠ some g
  iF : ∀ g, (Value.slice Bi ids.length ci).ownBlock = some g → ¬ F g
section
variable {w0 W W' : World} {F : Nat → Prop} {tb : Nat} {lt l' : List Rt} {A : Option Addr} {c : Nat} {ls : List Rt} {hs : List (Option Addr × Nat)} {Bi : Option Addr} {ci : Nat} {ids : List Int}
theorem KS.go (h : KS w0 F tb lt A c ls hs Bi ci ids W) (hb : Below W.heap.size W W') : KS w0 F tb lt A c ls hs Bi ci ids W' :=
  { t := h.t.go hb, rows := own_below h.rows hb, hl := h.hl
    paths := fun i r q e1 e2 => ⟨(h.paths i r q e1 e2).1.on hb, fun a ha => by obtain ⟨q1, q2, q3, q4⟩ := (h.paths i r q e1 e2).2.1 a ha; exact ⟨q1, q2, q3, Nat.lt_of_lt_of_le q4 hb.size⟩, (h.paths i r q e1 e2).2.2⟩
    nums := own_below h.nums hb, rF := h.rF, iF := h.iF }
theorem KS.drew (h : KS w0 F tb lt A c ls hs Bi ci ids W) : KS w0 F tb lt A c ls hs Bi ci ids W.drew := h.go ((Below.refl _ _).drew)
theorem KS.addT (h : KS w0 F tb lt A c ls hs Bi ci ids W) {F' : Nat → Prop} (ht : LT w0 F' tb 100 l' W') (e : F' = grewF F W W') (s : Sep F W W') : KS w0 F' tb l' A c ls hs Bi ci ids W' := by
  subst e
  have lr : ∀ g, (Value.slice A ls.length c).ownBlock = some g → g < W.heap.size := fun g hg => (h.rows.lt g hg).2
  have li : ∀ g, (Value.slice Bi ids.length ci).ownBlock = some g → g < W.heap.size := fun g hg => (h.nums.lt g hg).2
  exact
    { t := ht, rows := own_sep h.rows s fun g hg => (h.rF g hg).1, hl := h.hl
      paths := fun i r q e1 e2 => by
        obtain ⟨p1, p2, p3⟩ := h.paths i r q e1 e2
        exact ⟨p1.sep s fun a ha => (p2 a ha).1, fun a ha => by obtain ⟨q1, q2, q3, q4⟩ := p2 a ha; exact ⟨fun e => e.elim q1 (fun e => by omega), q2, q3, Nat.lt_of_lt_of_le q4 s.size⟩, p3⟩
      nums := own_sep h.nums s h.iF
      rF := fun g hg => ⟨fun e => e.elim (h.rF g hg).1 (fun e => by have := lr g hg; omega), (h.rF g hg).2⟩
      iF := fun g hg e => e.elim (h.iF g hg) (fun e => by have := li g hg; omega) }
theorem KS.addL (h : KS w0 F tb lt A c ls hs Bi ci ids W) {o : Obj} {g cap : Nat} {r : Rt} {Ar : Option Addr} {nr cr : Nat} (hg : (W.alloc o).grownBy W' (Value.slice A ls.length c).ownBlock)
    (ho : W'.ownsRow w0.heap.size 25 3 (.slice (some ⟨g, 0, none⟩) (ls.length + 1) cap) (ls.length + 1) ((ls.zip hs).flatMap rtC ++ [.int .i64 r.kind, .int .i64 r.cost, .slice Ar nr cr]))
    (hat : (Value.slice A ls.length c).ownBlock = some g ∨ g = W.heap.size + 1) (hr : RtAt W r Ar nr) (hn : r.path.length = nr)
    (hA : ∀ a, Ar = some a → ¬ F a.block ∧ (Value.slice A ls.length c).ownBlock ≠ some a.block ∧ (Value.slice Bi ids.length ci).ownBlock ≠ some a.block ∧ a.block < W.heap.size) (h1 : nr ≤ cr) (h2 : cr ≤ 9223372036854775807) :
    KS w0 F tb lt (some ⟨g, 0, none⟩) cap (ls ++ [r]) (hs ++ [(Ar, cr)]) Bi ci ids W' := by
  subst hn
  have lr : ∀ g, (Value.slice A ls.length c).ownBlock = some g → g < W.heap.size := fun g hg => (h.rows.lt g hg).2
  have li : ∀ g, (Value.slice Bi ids.length ci).ownBlock = some g → g < W.heap.size := fun g hg => (h.nums.lt g hg).2
  have b0 := h.t.up.size
  have s1 : Sep (fun k => (Value.slice A ls.length c).ownBlock = some k) W W' := (Sep.of_below (below_new W o)).trans (Sep.of_grown hg fun k hk => hk) fun _ _ e => e
  have hlen : (ls ++ [r]).length = ls.length + 1 := by simp
  have hg0 : ∀ g', (Value.slice (some ⟨g, 0, none⟩) (ls.length + 1) cap).ownBlock = some g' → g' = g := fun g' h => by simpa [Value.ownBlock] using h.symm
  have gF : ¬ F g ∧ (Value.slice Bi ids.length ci).ownBlock ≠ some g := by
    rcases hat with e | e
    · exact h.rF g e
    · exact ⟨fun e1 => by have := h.t.tab.lt g e1; omega, fun e1 => by have := li g e1; omega⟩
  exact
    { t := h.t.sep s1 (fun k hk hf => (h.rF k hk).1 hf) (fun k hk => (h.rows.lt k hk).1)
      rows := by rw [hlen, flat_snoc ls hs r (Ar, cr) h.hl]; exact ho
      hl := by simp [h.hl]
      paths := fun i r' q e1 e2 => by
        rw [hlen]
        rcases Nat.lt_or_ge i ls.length with hi | hi
        · rw [List.getElem?_append_left hi] at e1
          rw [List.getElem?_append_left (by rw [h.hl]; exact hi)] at e2
          obtain ⟨p1, p2, p3⟩ := h.paths i r' q e1 e2
          refine ⟨p1.sep s1 fun a ha => (p2 a ha).2.1, fun a ha => ?_, p3⟩
          obtain ⟨q1, q2, q3, q4⟩ := p2 a ha
          refine ⟨q1, fun e => ?_, q3, Nat.lt_of_lt_of_le q4 s1.size⟩
          have := hg0 _ e
          rcases hat with e1 | e1
          · exact q2 (by rw [this]; exact e1)
          · omega
        · have hi' : i = ls.length := by
            have := (List.getElem?_eq_some_iff.1 e1).1
            simp at this; omega
          subst hi'
          simp at e1
          rw [← h.hl] at e2
          simp at e2
          subst e1 e2
          refine ⟨hr.sep s1 fun a ha => (hA a ha).2.1, fun a ha => ?_, h1, h2⟩
          obtain ⟨q1, q2, q3, q4⟩ := hA a ha
          refine ⟨q1, fun e => ?_, q3, Nat.lt_of_lt_of_le q4 s1.size⟩
          have := hg0 _ e
          rcases hat with e1 | e1
          · exact q2 (by rw [this]; exact e1)
          · omega
      nums := own_sep h.nums s1 fun g' hg' e => (h.rF g' e).2 hg'
      rF := fun g' hg' => by rw [hlen] at hg'; have := hg0 g' hg'; subst this; exact gF
      iF := h.iF }
theorem KS.addI (h : KS w0 F tb lt A c ls hs Bi ci ids W) {o : Obj} {g cap : Nat} {x : Int} (hg : (W.alloc o).grownBy W' (Value.slice Bi ids.length ci).ownBlock)
    (ho : W'.ownsRow w0.heap.size 3 1 (.slice (some ⟨g, 0, none⟩) (ids.length + 1) cap) (ids.length + 1) (ids.map (Value.int .i64) ++ [.int .i64 x]))
    (hat : (Value.slice Bi ids.length ci).ownBlock = some g ∨ g = W.heap.size + 1) :
    KS w0 F tb lt A c ls hs (some ⟨g, 0, none⟩) cap (ids ++ [x]) W' := by
  have lr : ∀ g, (Value.slice A ls.length c).ownBlock = some g → g < W.heap.size := fun g hg => (h.rows.lt g hg).2
  have li : ∀ g, (Value.slice Bi ids.length ci).ownBlock = some g → g < W.heap.size := fun g hg => (h.nums.lt g hg).2
  have s1 : Sep (fun k => (Value.slice Bi ids.length ci).ownBlock = some k) W W' := (Sep.of_below (below_new W o)).trans (Sep.of_grown hg fun k hk => hk) fun _ _ e => e
  have hlen : (ids ++ [x]).length = ids.length + 1 := by simp
  have hg0 : ∀ g', (Value.slice (some ⟨g, 0, none⟩) (ids.length + 1) cap).ownBlock = some g' → g' = g := fun g' h => by simpa [Value.ownBlock] using h.symm
  exact
    { t := h.t.sep s1 (fun k hk hf => h.iF k hk hf) (fun k hk => (h.nums.lt k hk).1)
      rows := own_sep h.rows s1 fun g' hg' e => (h.rF g' hg').2 e
      hl := h.hl
      paths := fun i r' q e1 e2 => by
        rw [hlen]
        obtain ⟨p1, p2, p3⟩ := h.paths i r' q e1 e2
        refine ⟨p1.sep s1 fun a ha => (p2 a ha).2.2.1, fun a ha => ?_, p3⟩
        obtain ⟨q1, q2, q3, q4⟩ := p2 a ha
        refine ⟨q1, q2, fun e => ?_, Nat.lt_of_lt_of_le q4 s1.size⟩
        have := hg0 _ e
        rcases hat with e1 | e1
        · exact q3 (by rw [this]; exact e1)
        · omega
      nums := by rw [hlen, List.map_append]; exact ho
      rF := fun g' hg' => by
        rw [hlen]
        refine ⟨(h.rF g' hg').1, fun e => ?_⟩
        have := hg0 _ e
        rcases hat with e1 | e1
        · exact (h.rF g' hg').2 (by rw [this]; exact e1)
        · have := lr g' hg'; omega
      iF := fun g' hg' => by
        rw [hlen] at hg'
        have := hg0 g' hg'
        subst this
        rcases hat with e1 | e1
        · exact h.iF g' e1
        · exact fun e => by have := h.t.tab.lt g' e; omega }
theorem KS.rts (h : KS w0 F tb lt A c ls hs Bi ci ids W) : RtsAt W A ls := ⟨hs, h.hl, CellsAt.of_own h.rows, fun i r q e1 e2 => (h.paths i r q e1 e2).1⟩
/-- A route of the list, with all that a call of it leans on. -/
theorem KS.get (h : KS w0 F tb lt A c ls hs Bi ci ids W) {k : Nat} {r : Rt} (hk : ls[k]? = some r) :
    ∃ ad Ao co, A = some ad ∧ W.cell? (ad.add (k * 3)) = some (.int .i64 r.kind) ∧ W.cell? ⟨(ad.add (k * 3)).block, (ad.add (k * 3)).off + 1, none⟩ = some (.int .i64 r.cost) ∧ W.cell? ⟨(ad.add (k * 3)).block, (ad.add (k * 3)).off + 2, none⟩ = some (.slice Ao r.path.length co) ∧ RtAt W r Ao r.path.length ∧ hs[k]? = some (Ao, co) ∧ r.path.length ≤ co ∧ co ≤ 9223372036854775807 := by
  have hlt := (List.getElem?_eq_some_iff.1 hk).1
  obtain ⟨q, hq⟩ : ∃ q, hs[k]? = some q := ⟨_, List.getElem?_eq_getElem (by rw [h.hl]; exact hlt)⟩
  obtain ⟨p1, p2, p3⟩ := h.paths k r q hk hq
  have hz : (ls.zip hs)[k]? = some (r, q) := by rw [List.getElem?_zip_eq_some]; exact ⟨hk, hq⟩
  have hne : (ls.zip hs).flatMap rtC ≠ [] := by
    intro e
    have := rtC_len (ls.zip hs)
    rw [e] at this
    have h3 := (List.getElem?_eq_some_iff.1 hz).1
    simp at this h3; omega
  obtain ⟨ad, Ao, co, hA, _, c0, c1, c2, hra⟩ := h.rts.get hk
  obtain ⟨ad', hA', _, hc⟩ := CellsAt.of_own h.rows hne
  have had : ad' = ad := by rw [hA] at hA'; injection hA' with e; exact e.symm
  subst had
  have e3 : (((ls.zip hs).take k).flatMap rtC).length = k * 3 := by
    rw [rtC_len, List.length_take]
    have := (List.getElem?_eq_some_iff.1 hz).1
    omega
  have hrow : ((ls.zip hs).flatMap rtC)[k * 3 + 2]? = some (.slice q.1 r.path.length q.2) := by
    have e1 : (ls.zip hs).flatMap rtC = ((ls.zip hs).take k).flatMap rtC ++ ((ls.zip hs).drop k).flatMap rtC := by rw [← List.flatMap_append, List.take_append_drop]
    have e2 : (ls.zip hs).drop k = (r, q) :: (ls.zip hs).drop (k + 1) := by
      obtain ⟨hz1, hz2⟩ := List.getElem?_eq_some_iff.1 hz
      rw [List.drop_eq_getElem_cons hz1, hz2]
    rw [e1, List.getElem?_append_right (by omega), e3, e2, List.flatMap_cons, Nat.add_sub_cancel_left]
    rfl
  have h2 := hc _ _ hrow
  rw [← add_of_add] at h2
  have h2' : W.cell? ⟨(ad'.add (k * 3)).block, (ad'.add (k * 3)).off + 2, none⟩ = some (.slice q.1 r.path.length q.2) := h2
  rw [c2] at h2'
  injection h2' with h2'
  injection h2' with g1 _ g3
  subst g1 g3
  exact ⟨ad', q.1, q.2, hA, c0, c1, c2, p1, hq, p3⟩
theorem KS.num (h : KS w0 F tb lt A c ls hs Bi ci ids W) {k : Nat} {x : Int} (hk : ids[k]? = some x) : ∃ ad, Bi = some ad ∧ W.cell? (ad.add k) = some (.int .i64 x) := by
  obtain ⟨ad, hA, _, hc⟩ := (CellsAt.of_own h.nums).int hk
  exact ⟨ad, hA, hc⟩
end
section
variable {w0 W W' : World} {F : Nat → Prop} {tb : Nat} {lt l' : List Rt} {A : Option Addr} {c : Nat} {ls : List Rt} {hs : List (Option Addr × Nat)} {Bi : Option Addr} {ci : Nat} {ids : List Int} {j : Nat}
theorem KS.rowsJ (h : KS w0 F tb lt A c ls hs Bi ci ids W) (hj : Hid (ls.length = j)) : W.ownsRow w0.heap.size 25 3 (.slice A j c) j ((ls.zip hs).flatMap rtC) := by have e := hj.out; subst e; exact h.rows
theorem KS.numsJ (h : KS w0 F tb lt A c ls hs Bi ci ids W) (hj : Hid (ids.length = j)) : W.ownsRow w0.heap.size 3 1 (.slice Bi j ci) j (ids.map (Value.int .i64)) := by have e := hj.out; subst e; exact h.nums
theorem KS.addLJ (h : KS w0 F tb lt A c ls hs Bi ci ids W) (hj : Hid (ls.length = j)) {o : Obj} {g cap : Nat} {r : Rt} {Ar : Option Addr} {nr cr : Nat} (hg : (W.alloc o).grownBy W' (Value.slice A j c).ownBlock)
    (ho : W'.ownsRow w0.heap.size 25 3 (.slice (some ⟨g, 0, none⟩) (j + 1) cap) (j + 1) ((ls.zip hs).flatMap rtC ++ [.int .i64 r.kind, .int .i64 r.cost, .slice Ar nr cr]))
    (hat : (Value.slice A j c).ownBlock = some g ∨ g = W.heap.size + 1) (hr : RtAt W r Ar nr) (hn : Hid (r.path.length = nr))
    (hA : ∀ a, Ar = some a → ¬ F a.block ∧ (Value.slice A j c).ownBlock ≠ some a.block ∧ (Value.slice Bi ids.length ci).ownBlock ≠ some a.block ∧ a.block < W.heap.size) (h1 : nr ≤ cr) (h2 : cr ≤ 9223372036854775807) :
    KS w0 F tb lt (some ⟨g, 0, none⟩) cap (ls ++ [r]) (hs ++ [(Ar, cr)]) Bi ci ids W' := by have e := hj.out; subst e; exact h.addL hg ho hat hr hn.out hA h1 h2
theorem KS.addIJ (h : KS w0 F tb lt A c ls hs Bi ci ids W) (hj : Hid (ids.length = j)) {o : Obj} {g cap : Nat} {x : Int} (hg : (W.alloc o).grownBy W' (Value.slice Bi j ci).ownBlock)
    (ho : W'.ownsRow w0.heap.size 3 1 (.slice (some ⟨g, 0, none⟩) (j + 1) cap) (j + 1) (ids.map (Value.int .i64) ++ [.int .i64 x]))
    (hat : (Value.slice Bi j ci).ownBlock = some g ∨ g = W.heap.size + 1) :
    KS w0 F tb lt A c ls hs (some ⟨g, 0, none⟩) cap (ids ++ [x]) W' := by have e := hj.out; subst e; exact h.addI hg ho hat
theorem KS.farN (h : KS w0 F tb lt A c ls hs Bi ci ids W) (hj : Hid (ls.length = j)) {b : Nat} (hb : W.heap.size ≤ b) : (Value.slice A j c).ownBlock ≠ some b ∧ (Value.slice Bi ids.length ci).ownBlock ≠ some b := by
  have e := hj.out
  subst e
  exact ⟨fun e => by have := (h.rows.lt b e).2; omega, fun e => by have := (h.nums.lt b e).2; omega⟩
theorem KS.get2 {ad : Addr} (h : KS w0 F tb lt (some ad) c ls hs Bi ci ids W) {k : Nat} {r : Rt} {Ao : Option Addr} {co n : Nat} (hk : Hid (ls[k]? = some r)) (hq : Hid (hs[k]? = some (Ao, co))) (hn : Hid (r.path.length = n)) :
    (W.cell? (ad.add (k * 3)) = some (.int .i64 r.kind) ∧ W.cell? ⟨(ad.add (k * 3)).block, (ad.add (k * 3)).off + 1, none⟩ = some (.int .i64 r.cost) ∧ W.cell? ⟨(ad.add (k * 3)).block, (ad.add (k * 3)).off + 2, none⟩ = some (.slice Ao n co)) ∧ RtAt W r Ao n := by
  have e := hn.out
  subst e
  obtain ⟨ad', Ao', co', hA, c0, c1, c2, hra, hq', _, _⟩ := h.get hk.out
  injection hA with hA
  subst hA
  rw [hq.out] at hq'
  injection hq' with hq'
  injection hq' with g1 g2
  subst g1 g2
  exact ⟨⟨c0, c1, c2⟩, hra⟩
theorem KS.num2 {ad : Addr} (h : KS w0 F tb lt A c ls hs (some ad) ci ids W) {k : Nat} {x : Int} (hk : Hid (ids[k]? = some x)) : W.cell? (ad.add k) = some (.int .i64 x) := by
  obtain ⟨ad', hA, hc⟩ := h.num hk.out
  injection hA with hA
  subst hA
  exact hc
end
theorem add_at2 {most : Int} {l : List Rt} {r : Rt} (hr : rtRight r = true) (hn : l.Nodup) (hf : (l.length : Int) < most) : ∃ (i : Nat) (L : List Rt), addK most l r = (i : Int) ∧ addE most l r = 0 ∧ addL most l r = L ∧ L[i]? = some r ∧ L.length ≤ l.length + 1 ∧ (∀ (k : Nat) (r' : Rt), l[k]? = some r' → L[k]? = some r') := by
  by_cases hm : r ∈ l
  · obtain ⟨i, hi, _⟩ := ixR_some hm
    obtain ⟨a, b, c⟩ := add_old (most := most) hr hm
    exact ⟨i, l, by rw [a, ixR_at hn hi], b, c, hi, by omega, fun _ _ h => h⟩
  · obtain ⟨a, b, c⟩ := add_new hr hm hf
    exact ⟨l.length, _, a, b, c, by simp, by simp, fun k r' h => by rw [List.getElem?_append_left (List.getElem?_eq_some_iff.1 h).1]; exact h⟩
/-- What the numbers say of the routes. -/
structure KR (j : Nat) (lt ls : List Rt) (ids : List Int) : Prop where
  l1 : ls.length = j
  l2 : ids.length = j
  num : ∀ (i : Nat) (r : Rt), ls[i]? = some r → ∃ k : Nat, ids[i]? = some (k : Int) ∧ lt[k]? = some r
  right : ∀ r ∈ ls, rtRight r = true
  len : lt.length ≤ j + 1
theorem KR.next {j : Nat} {lt ls : List Rt} {ids : List Int} (h : KR j lt ls ids) {r : Rt} {i : Nat} {L : List Rt} (hr : rtRight r = true) (h1 : L[i]? = some r) (h2 : L.length ≤ lt.length + 1) (h3 : ∀ (k : Nat) (r' : Rt), lt[k]? = some r' → L[k]? = some r') : KR (j + 1) L (ls ++ [r]) (ids ++ [(i : Int)]) :=
  { l1 := by rw [List.length_append, h.l1]; rfl
    l2 := by rw [List.length_append, h.l2]; rfl
    num := fun q r' e => by
      rcases Nat.lt_or_ge q ls.length with hq | hq
      · rw [List.getElem?_append_left hq] at e
        obtain ⟨k, k1, k2⟩ := h.num q r' e
        exact ⟨k, by rw [List.getElem?_append_left (by rw [h.l2, ← h.l1]; exact hq)]; exact k1, h3 k r' k2⟩
      · have : q = ls.length := by
          have := (List.getElem?_eq_some_iff.1 e).1
          simp at this; omega
        subst this
        simp at e
        subst e
        exact ⟨i, by rw [h.l1, ← h.l2]; simp, h1⟩
    right := fun r' h' => by
      rcases List.mem_append.1 h' with h' | h'
      · exact h.right r' h'
      · simp at h'; subst h'; exact hr
    len := by have := h.len; omega }
end Go.Proofs.YtlfdpfkimggeoaaDoor
