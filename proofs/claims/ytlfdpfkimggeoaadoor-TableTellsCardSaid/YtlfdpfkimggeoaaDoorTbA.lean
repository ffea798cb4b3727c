/-
  Tables of routes in memory: what a call may turn, what stays; numbers by texts.
-/
import Derived.Maps.OwnSet
import Derived.Deep.AppendLies
import Derived.Test.YtlfdpfkimggeoaaDoorAtS
namespace Go.Proofs.YtlfdpfkimggeoaaDoor
open Go.RowKit
set_option linter.unusedVariables false
set_option linter.unusedSimpArgs false

/-! ### Worlds that differ in some blocks alone -/
/-- w' is w but for the blocks F, and new ones. -/
structure Sep (F : Nat → Prop) (w w' : World) : Prop where
  os : w'.os = w.os
  tape : w'.tape = w.tape
  output : w'.output = w.output
  size : w.heap.size ≤ w'.heap.size
  block : ∀ k, k < w.heap.size → ¬ F k → w'.heap[k]? = w.heap[k]?
theorem Sep.of_below {F : Nat → Prop} {w w' : World} (h : Below w.heap.size w w') : Sep F w w' := ⟨h.os, h.tape, h.output, h.size, fun k hk _ => h.block k hk⟩
theorem Sep.of_grown {F : Nat → Prop} {w w' : World} {row : Option Nat} (h : w.grownBy w' row) (hg : ∀ g, row = some g → F g) : Sep F w w' :=
  ⟨h.os, h.tape, h.output, h.size, fun k hk hf => h.block k hk (fun e => hf (hg k e.symm))⟩
theorem Sep.of_set {F : Nat → Prop} (w : World) (a : Addr) (u : Value) (ha : F a.block) : Sep F w (w.setCell a u) :=
  ⟨rfl, rfl, rfl, by simp [World.setCell], fun k _ hf => Below.heap_setCell w a u k (fun e => hf (by rw [e]; exact ha))⟩
theorem Sep.refl (F : Nat → Prop) (w : World) : Sep F w w := ⟨rfl, rfl, rfl, Nat.le_refl _, fun _ _ _ => rfl⟩
theorem Sep.trans {F G : Nat → Prop} {a b c : World} (h : Sep F a b) (k : Sep G b c) (hG : ∀ i, i < a.heap.size → G i → F i) : Sep F a c :=
  ⟨k.os.trans h.os, k.tape.trans h.tape, k.output.trans h.output, Nat.le_trans h.size k.size, fun i hi hf => (k.block i (Nat.lt_of_lt_of_le hi h.size) (fun hg => hf (hG i hi hg))).trans (h.block i hi hf)⟩
theorem Sep.below {F : Nat → Prop} {B : Nat} {w w' : World} (h : Sep F w w') (hF : ∀ k, F k → B ≤ k) (hB : B ≤ w.heap.size) : Below B w w' :=
  ⟨h.os, h.tape, h.output, h.size, fun k hk => h.block k (Nat.lt_of_lt_of_le hk hB) (fun hf => by have := hF k hf; omega)⟩
theorem Sep.more {F G : Nat → Prop} {w w' : World} (h : Sep F w w') (hG : ∀ i, i < w.heap.size → F i → G i) : Sep G w w' :=
  ⟨h.os, h.tape, h.output, h.size, fun k hk hf => h.block k hk (fun e => hf (hG k hk e))⟩
theorem Sep.blk {F : Nat → Prop} {w w' : World} (h : Sep F w w') {g : Nat} {t : TypeId} {cs : Array Value} (hb : Blk w g t cs) (hg : ¬ F g) : Blk w' g t cs := (h.block g hb.lt hg).trans hb

/-- An address outside of some blocks. -/
def OutF (F : Nat → Prop) (A : Option Addr) : Prop := ∀ a, A = some a → ¬ F a.block
theorem CellsAt.sep {F : Nat → Prop} {w w' : World} {A : Option Addr} {xs : List Value} (h : CellsAt w w.heap.size A xs) (hs : Sep F w w') (ho : OutF F A) : CellsAt w' w'.heap.size A xs := fun hn => by
  obtain ⟨ad, e, hb, hc⟩ := h hn
  refine ⟨ad, e, Nat.lt_of_lt_of_le hb hs.size, fun j u hu => ?_⟩
  refine (World.cell?_of_block (w := w) (a := ad.add j) (hs.block _ ?_ ?_)).trans (hc j u hu)
  · rw [block_of_add]; exact hb
  · rw [block_of_add]; exact ho ad e
theorem RtAt.sep {F : Nat → Prop} {w w' : World} {r : Rt} {A : Option Addr} {n : Nat} (h : RtAt w r A n) (hs : Sep F w w') (ho : OutF F A) : RtAt w' r A n := ⟨h.1, h.2.1.sep hs ho, h.2.2⟩
theorem own_sep {F : Nat → Prop} {w w' : World} {base : Nat} {e : TypeId} {size : Nat} {v : Value} {n : Nat} {xs : List Value} (h : w.ownsRow base e size v n xs) (hs : Sep F w w') (ho : ∀ g, v.ownBlock = some g → ¬ F g) : w'.ownsRow base e size v n xs := by
  refine ⟨h.1, ?_⟩
  rcases h.2 with h0 | ⟨g, cap, cur, hv, hb, hg, r⟩
  · exact .inl h0
  · refine .inr ⟨g, cap, cur, hv, hb, ?_, r⟩
    exact (hs.block g (Array.getElem?_eq_some_iff.1 hg).1 (ho g (by rw [hv]; rfl))).trans hg
theorem map_sep {F : Nat → Prop} {w w' : World} {P : Program} {k : TypeId} {R : Value → Option (DataW Unit × List MemPlace)} {b n : Nat} {D : DataW Unit} (h : w.ownsMap P k R b n D) (hs : Sep F w w') (ho : ¬ F b) : w'.ownsMap P k R b n D := by
  have hlt := h.lt
  obtain ⟨es, clock, hb, r⟩ := h
  exact ⟨es, clock, (hs.block b hlt ho).trans hb, r⟩

/-! ### Places -/
instance rtDec : DecidableEq Rt := fun a b => decidable_of_iff (rtSame a b = true) same_iff
/-- A route's place in a list; -1: it has none. -/
def ixR (r : Rt) (l : List Rt) : Int := if r ∈ l then ((l.findIdx fun x => decide (x = r) : Nat) : Int) else -1
theorem ixR_not {r : Rt} {l : List Rt} (h : r ∉ l) : ixR r l = -1 := if_neg h
theorem ixR_at {r : Rt} {l : List Rt} (hn : l.Nodup) {i : Nat} (h : l[i]? = some r) : ixR r l = (i : Int) := by
  have hm : r ∈ l := List.mem_of_getElem? h
  obtain ⟨hi, e⟩ := List.getElem?_eq_some_iff.1 h
  have : (l.findIdx fun x => decide (x = r)) = i := by
    rw [List.findIdx_eq hi]
    refine ⟨by simp [e], fun j hj => ?_⟩
    have := List.pairwise_iff_getElem.1 hn j i (by omega) hi hj
    rw [e] at this
    exact decide_eq_false this
  rw [ixR, if_pos hm, this]
theorem ixR_some {r : Rt} {l : List Rt} (h : r ∈ l) : ∃ i : Nat, l[i]? = some r ∧ i < l.length := by
  obtain ⟨i, hi, e⟩ := List.getElem_of_mem h
  exact ⟨i, by rw [List.getElem?_eq_getElem hi, e], hi⟩

/-! ### Numbers by texts -/
def zN : DataW Unit := .lit (.int .i64 0)
def MapIs (D : DataW Unit) (l : List Rt) : Prop :=
  ∀ r, rtRight r = true → Maps.has D (.string (rtText r)) = decide (r ∈ l) ∧ ∀ i : Nat, l[i]? = some r → D.atKey (.string (rtText r)) zN = .lit (.int .i64 (i : Int))
theorem MapIs.nil : MapIs (.map []) [] := fun r _ => ⟨by simp [Maps.has], fun i h => by simp at h⟩
theorem text_ne {a b : Rt} (ha : rtRight a = true) (hb : rtRight b = true) (h : a ≠ b) : rtText a ≠ rtText b := fun e => by
  have := rtText_inj ha hb
  rw [decide_eq_true e] at this
  exact h (same_iff.1 this.symm)
theorem MapIs.snoc {D : DataW Unit} {l : List Rt} (h : MapIs D l) (hD : Maps.IsMap D) {r : Rt} (hr : rtRight r = true) (hn : r ∉ l) : MapIs (D.put (.string (rtText r)) (.lit (.int .i64 (l.length : Int)))) (l ++ [r]) := fun r' hr' => by
  by_cases e : r' = r
  · subst e
    refine ⟨by rw [Maps.has_put_same hD (by trivial)]; simp, fun i hi => ?_⟩
    rw [Maps.atKey_put_same hD (by trivial)]
    have : i = l.length := by
      have hlt := (List.getElem?_eq_some_iff.1 hi).1
      rcases Nat.lt_or_ge i l.length with h1 | h1
      · rw [List.getElem?_append_left h1] at hi
        exact absurd (List.mem_of_getElem? hi) hn
      · simp at hlt; omega
    rw [this]
  · have hk : (Lit.string (rtText r')) ≠ .string (rtText r) := fun e1 => text_ne hr' hr e (by injection e1)
    refine ⟨by rw [Maps.has_put_other hk, (h r' hr').1]; simp [e], fun i hi => ?_⟩
    rw [Maps.atKey_put_other hk]
    refine (h r' hr').2 i ?_
    rcases Nat.lt_or_ge i l.length with h1 | h1
    · rwa [List.getElem?_append_left h1] at hi
    · rw [List.getElem?_append_right h1] at hi
      obtain ⟨_, e1⟩ := List.getElem?_eq_some_iff.1 hi
      simp at e1
      exact absurd e1.symm e

/-! ### A table -/
/-- A path's numbers lie in a table's blocks, apart from its three own. -/
def ApartP (F : Nat → Prop) (tb mb : Nat) (v : Value) (A : Option Addr) : Prop := ∀ a, A = some a → F a.block ∧ a.block ≠ tb ∧ a.block ≠ mb ∧ v.ownBlock ≠ some a.block
structure TabIn (F : Nat → Prop) (w : World) (tb : Nat) (most : Int) (l : List Rt) (A : Option Addr) (c mb : Nat) (D : DataW Unit) (hs : List (Option Addr × Nat)) : Prop where
  lt : ∀ k, F k → k < w.heap.size
  fT : F tb
  fM : F mb
  fR : ∀ g, (Value.slice A l.length c).ownBlock = some g → F g ∧ g ≠ tb ∧ g ≠ mb
  ne : mb ≠ tb
  blk : Blk w tb 49 #[.int .i64 most, .slice A l.length c, .map (some mb)]
  rows : w.ownsRow 0 25 3 (.slice A l.length c) l.length ((l.zip hs).flatMap rtC)
  hl : hs.length = l.length
  paths : ∀ (i : Nat) (r : Rt) (q : Option Addr × Nat), l[i]? = some r → hs[i]? = some q → RtAt w r q.1 r.path.length ∧ ApartP F tb mb (.slice A l.length c) q.1
  map : w.ownsMap Tryd.prog 9 (plainElem Tryd.prog 3) mb l.length D
  is : MapIs D l
  right : ∀ r ∈ l, rtRight r = true
  nodup : l.Nodup
  len : (l.length : Int) ≤ most
  most : most ≤ 1073741824
def TabAt (F : Nat → Prop) (w : World) (tb : Nat) (most : Int) (l : List Rt) : Prop := ∃ A c mb D hs, TabIn F w tb most l A c mb D hs
section
variable {F : Nat → Prop} {w w' : World} {tb : Nat} {most : Int} {l : List Rt} {A : Option Addr} {c mb : Nat} {D : DataW Unit} {hs : List (Option Addr × Nat)}
theorem TabIn.sep {G : Nat → Prop} (h : TabIn F w tb most l A c mb D hs) (s : Sep G w w') (hd : ∀ k, F k → ¬ G k) : TabIn F w' tb most l A c mb D hs :=
  { lt := fun k hk => Nat.lt_of_lt_of_le (h.lt k hk) s.size
    fT := h.fT, fM := h.fM, fR := h.fR, ne := h.ne
    blk := s.blk h.blk (hd _ h.fT)
    rows := own_sep h.rows s fun g hg => hd g (h.fR g hg).1
    hl := h.hl
    paths := fun i r q h1 h2 => ⟨(h.paths i r q h1 h2).1.sep s fun a ha => hd _ ((h.paths i r q h1 h2).2 a ha).1, (h.paths i r q h1 h2).2⟩
    map := map_sep h.map s (hd _ h.fM)
    is := h.is, right := h.right, nodup := h.nodup, len := h.len, most := h.most }
theorem TabIn.go (h : TabIn F w tb most l A c mb D hs) (hb : Below w.heap.size w w') : TabIn F w' tb most l A c mb D hs := h.sep (G := fun _ => False) (Sep.of_below hb) fun _ _ => id
theorem TabIn.cells (h : TabIn F w tb most l A c mb D hs) : w.cell? ⟨tb, 0, none⟩ = some (.int .i64 most) ∧ w.cell? ⟨tb, 1, none⟩ = some (.slice A l.length c) ∧ w.cell? ⟨tb, 2, none⟩ = some (.map (some mb)) := ⟨h.blk.cell 0, h.blk.cell 1, h.blk.cell 2⟩
theorem TabAt.sep {G : Nat → Prop} (h : TabAt F w tb most l) (s : Sep G w w') (hd : ∀ k, F k → ¬ G k) : TabAt F w' tb most l := by obtain ⟨A, c, mb, D, hs, h⟩ := h; exact ⟨A, c, mb, D, hs, h.sep s hd⟩
theorem TabAt.go (h : TabAt F w tb most l) (hb : Below w.heap.size w w') : TabAt F w' tb most l := by obtain ⟨A, c, mb, D, hs, h⟩ := h; exact ⟨A, c, mb, D, hs, h.go hb⟩
/-- The routes, one by one. -/
theorem TabIn.get (h : TabIn F w tb most l A c mb D hs) {k : Nat} {r : Rt} (hk : l[k]? = some r) :
    ∃ g q, A = some ⟨g, 0, none⟩ ∧ w.cell? ⟨g, k * 3, none⟩ = some (.int .i64 r.kind) ∧ w.cell? ⟨g, k * 3 + 1, none⟩ = some (.int .i64 r.cost) ∧ w.cell? ⟨g, k * 3 + 2, none⟩ = some (.slice q.1 r.path.length q.2) ∧ RtAt w r q.1 r.path.length ∧ hs[k]? = some q := by
  have hlt := (List.getElem?_eq_some_iff.1 hk).1
  obtain ⟨q, hq⟩ : ∃ q, hs[k]? = some q := ⟨_, List.getElem?_eq_getElem (by rw [h.hl]; exact hlt)⟩
  obtain ⟨g, cap, hv, _, _⟩ := h.rows.form (by omega)
  injection hv with hA _ _
  subst hA
  have hz : (l.zip hs)[k]? = some (r, q) := by rw [List.getElem?_zip_eq_some]; exact ⟨hk, hq⟩
  have hc := h.rows.cells (g := g) rfl
  have hadd : ∀ j, (⟨g, 0, none⟩ : Addr).add j = ⟨g, j, none⟩ := fun j => by unfold Addr.add; split <;> simp_all
  have row : ∀ j u, (rtC (r, q))[j]? = some u → w.cell? ⟨g, k * 3 + j, none⟩ = some u := fun j u hu => by
    rw [← hadd]
    refine hc _ _ ?_
    have e1 : (l.zip hs).flatMap rtC = ((l.zip hs).take k).flatMap rtC ++ ((l.zip hs).drop k).flatMap rtC := by rw [← List.flatMap_append, List.take_append_drop]
    have e2 : (l.zip hs).drop k = (r, q) :: (l.zip hs).drop (k + 1) := by
      obtain ⟨hz1, hz2⟩ := List.getElem?_eq_some_iff.1 hz
      rw [List.drop_eq_getElem_cons hz1, hz2]
    have e3 : (((l.zip hs).take k).flatMap rtC).length = k * 3 := by
      rw [rtC_len, List.length_take]
      have := (List.getElem?_eq_some_iff.1 hz).1
      omega
    rw [e1, List.getElem?_append_right (by omega), e3, e2, List.flatMap_cons, Nat.add_sub_cancel_left, List.getElem?_append_left (by have := (List.getElem?_eq_some_iff.1 hu).1; exact this)]
    exact hu
  exact ⟨g, q, rfl, by simpa using row 0 _ rfl, row 1 _ rfl, row 2 _ rfl, (h.paths k r q hk hq).1, hq⟩
end
theorem law_str : Maps.Keyed Tryd.prog 9 := Maps.string_keyed Tryd.underlying9
theorem zero_int (w : World) : (zeroValue 3).run Tryd.prog w = .ok (.int .i64 0) w := by kernel_rfl
section
variable {F : Nat → Prop} {w w' : World} {tb : Nat} {most : Int} {l : List Rt} {A : Option Addr} {c mb : Nat} {D : DataW Unit} {hs : List (Option Addr × Nat)}
theorem rtS_small {r : Rt} (hr : rtRight r = true) : (rtS r).size ≤ maxLen := by
  have h0 : (rtS r).size = (rtText r).length := by unfold rtS; rfl
  rw [h0]
  unfold maxLen rtText
  unfold rtRight at hr
  by_cases h1 : r.kind = 1
  · rw [if_pos h1]
    rw [if_neg (by omega), if_pos h1] at hr
    simp only [Bool.and_eq_true, decide_eq_true_eq] at hr
    have := dig_len 2 r.cost.toNat (by omega) (by omega)
    omega
  · rw [if_neg h1]
    by_cases h2 : r.kind = 2
    · rw [if_pos h2]
      rw [if_neg (by omega), if_neg h1, if_pos h2] at hr
      simp only [Bool.and_eq_true, decide_eq_true_eq, pathB] at hr
      have := numsJ_len r.path fun x hx => (pathOk_in hr.2.2 x hx).2
      simp only [List.length_cons, List.length_append, List.length_nil]
      omega
    · rw [if_neg h2]; simp
theorem rt_key {r : Rt} (hr : rtRight r = true) (s : ByteArray) (HS : rtS r = s) : keyOf Tryd.prog 9 (.string s) = some (.string (rtText r)) := by
  subst HS
  have := WideMaps.keyOf_string_mk (P := Tryd.prog) (k := 9) Tryd.underlying9 (s := rtS r) (rtS_small hr)
  rw [this]; rfl
theorem TabIn.look (h : TabIn F w tb most l A c mb D hs) {r : Rt} (hr : rtRight r = true) {s : ByteArray} (HS : rtS r = s) {i : Nat} (hi : l[i]? = some r) :
    (Instr.lookup 47 (.map (some mb)) (.string s) true).run Tryd.prog w = .ok (.tuple #[.int .i64 (i : Int), .bool true]) w := by
  obtain ⟨v, ps, hrun, hv⟩ := h.map.look_ok law_str Tryd.underlying47 (zero_int w) (zd := zN) (zp := []) (plainElem_int Tryd.underlying3 (by decide)) (rt_key hr s HS)
  obtain ⟨a, rfl, hc, _⟩ := plainElem_int_inv Tryd.underlying3 hv
  obtain ⟨h1, h2⟩ := h.is r hr
  rw [h2 i hi] at hc
  rw [h1, decide_eq_true (List.mem_of_getElem? hi)] at hrun
  have : a = (i : Int) := by
    have := congrArg Prod.fst hc
    simpa using this.symm
  rw [hrun, this]
theorem TabIn.look_no (h : TabIn F w tb most l A c mb D hs) {r : Rt} (hr : rtRight r = true) {s : ByteArray} (HS : rtS r = s) (hi : r ∉ l) :
    (Instr.lookup 47 (.map (some mb)) (.string s) true).run Tryd.prog w = .ok (.tuple #[.int .i64 0, .bool false]) w := by
  obtain ⟨v, ps, hrun, hv⟩ := h.map.look_ok law_str Tryd.underlying47 (zero_int w) (zd := zN) (zp := []) (plainElem_int Tryd.underlying3 (by decide)) (rt_key hr s HS)
  obtain ⟨a, rfl, hc, _⟩ := plainElem_int_inv Tryd.underlying3 hv
  obtain ⟨h1, h2⟩ := h.is r hr
  rw [decide_eq_false hi] at h1
  rw [Maps.atKey_of_not_has h1] at hc
  rw [h1] at hrun
  have : a = 0 := by
    have := congrArg Prod.fst hc
    simpa [zN] using this.symm
  rw [hrun, this]
end
end Go.Proofs.YtlfdpfkimggeoaaDoor
