/-
  Helpers of the law's Net.
-/
import Derived.Deep.DeepCutAuto
import Derived.Deep.RegionLaw
import Derived.Deep.AppendLies
import Derived.Deep.CutBlock
import Derived.Deep.MidRow
import Derived.Test.YtlfdpfkimggeoaaPlV
namespace Go.Proofs.Ytlfdpfkimggeoaa
open Go.RowKit

def SrcOk (l : List Int) : Prop := (∀ v ∈ l, InI v) ∧ l.length ≤ 4096
theorem SrcOk.tail {l : List Int} (h : SrcOk l) : SrcOk l.tail := ⟨fun v hv => h.1 v (List.mem_of_mem_tail hv), by have := h.2; rw [List.length_tail]; omega⟩

section
variable {w0 : World} {sb pb : Nat} {l : List Int} {pr ca kk : Int} {vn vl vd vc : Value} {ns : List PNode} {ls : List PLink} {ds : List PDest} {cs : List PCheck} {w : World}
theorem next_st (n : Int) (m v : Nat) (l' : List Int) (HV : Hid (nx l m = v)) (HT : Hid (l.tail = l')) (h : NetSt w0 sb pb l pr ca kk vn vl vd vc ns ls ds cs w) (hG : SrcOk l) (hn : n = (m : Int)) (h0 : 0 < m) (hm : m ≤ 4096) :
    Calls Try.prog 32 #[.pointer (some ⟨sb, 0, none⟩), .int .i64 n] w fun e w' => e = .returned (.int .i64 (v : Int)) ∧ NetSt w0 sb pb l' pr ca kk vn vl vd vc ns ls ds cs w' ∧ SrcOk l' ∧ Turned sb w w' := by
  subst hn
  refine (next_any w0.heap.size sb l m h0 hm hG.1 hG.2 h.sb w h.src).mono fun e w' ⟨he, hs, ht⟩ => ?_
  rw [HV.out] at he
  rw [HT.out] at hs
  exact ⟨he, h.turned hs ht, by rw [← HT.out]; exact hG.tail, ht⟩
end

/-- What Net tells, and how it lies in memory. -/
structure POwn (B : Nat) (p : PPlan) (vn vl vd vc : Value) (w : World) : Prop where
  nodes : w.ownsRow B 56 2 vn p.nodes.length (p.nodes.flatMap nodeC)
  links : w.ownsRow B 53 3 vl p.links.length (p.links.flatMap linkC)
  dests : DestsOwn B vd p.dests w
  checks : w.ownsRow B 67 5 vc p.checks.length (p.checks.flatMap checkC)
def NetAs (p : PPlan) (w : World) (e : Ending) (w' : World) : Prop :=
  ∃ vn vl vd vc, e = .returned (.agg #[.int .i64 p.proto, .int .i64 p.cap, .int .i64 p.k, vn, vl, vd, vc]) ∧ POwn w.heap.size p vn vl vd vc w' ∧ Below w.heap.size w w'

theorem CellsAt.take {w : World} {B : Nat} {A : Option Addr} {l : List Int} (h : CellsAt w B A (l.map (Value.int .i64))) (k : Nat) : CellsAt w B A ((l.take k).map (Value.int .i64)) := fun hn => by
  have hne : l.map (Value.int .i64) ≠ [] := by intro e; rw [List.map_eq_nil_iff] at e; subst e; simp at hn
  obtain ⟨ad, hA, hb, hc⟩ := h hne
  refine ⟨ad, hA, hb, fun j u hu => hc j u ?_⟩
  rw [List.getElem?_map, List.getElem?_take] at hu
  split at hu
  · rw [List.getElem?_map]; exact hu
  · simp at hu
theorem src_ok (l : List Int) (h : ∀ v ∈ l, InI v) : SrcOk (l.take 200) := ⟨fun v hv => h v (List.mem_of_mem_take hv), by rw [List.length_take]; omega⟩

/-- The network as it begins. -/
theorem net_start (w : World) (A : Option Addr) (n c : Nat) (l : List Int) (hl : l.length = n) (hc : n ≤ c) (hA : CellsAt w w.heap.size A (l.map (Value.int .i64))) :
    NetSt w (w.heap.size + 1) (w.heap.size + 1 + 1) l 1 0 0 (.slice none 0 0) (.slice none 0 0) (.slice none 0 0) (.slice none 0 0) [] [] [] [] (((w.alloc (.cells #[.int .i64 0, .int .i64 0, .int .i64 0, .slice none 0 0, .slice none 0 0, .slice none 0 0, .slice none 0 0] 29)).alloc (.cells #[.slice A n c] 60)).alloc (.cells #[.int .i64 1, .int .i64 0, .int .i64 0, .slice none 0 0, .slice none 0 0, .slice none 0 0, .slice none 0 0] 29)) := by
  have hb : Below w.heap.size w (((w.alloc (.cells #[.int .i64 0, .int .i64 0, .int .i64 0, .slice none 0 0, .slice none 0 0, .slice none 0 0, .slice none 0 0] 29)).alloc (.cells #[.slice A n c] 60)).alloc (.cells #[.int .i64 1, .int .i64 0, .int .i64 0, .slice none 0 0, .slice none 0 0, .slice none 0 0, .slice none 0 0] 29)) := (((Below.refl _ w).alloc (Nat.le_refl _) _).alloc (by simp) _).alloc (by simp; omega) _
  have h1 := Blk.new (w.alloc (.cells #[.int .i64 0, .int .i64 0, .int .i64 0, .slice none 0 0, .slice none 0 0, .slice none 0 0, .slice none 0 0] 29)) 60 #[.slice A n c]
  have h2 := Blk.new ((w.alloc (.cells #[.int .i64 0, .int .i64 0, .int .i64 0, .slice none 0 0, .slice none 0 0, .slice none 0 0, .slice none 0 0] 29)).alloc (.cells #[.slice A n c] 60)) 29 #[.int .i64 1, .int .i64 0, .int .i64 0, .slice none 0 0, .slice none 0 0, .slice none 0 0, .slice none 0 0]
  rw [World.size_alloc] at h1
  rw [World.size_alloc, World.size_alloc] at h2
  subst hl
  exact ⟨hb, ⟨A, c, h1.alloc _, hc, hA.below hb⟩, h2, World.ownsRow_nil _ _ _ _, World.ownsRow_nil _ _ _ _, ⟨[], rfl, World.ownsRow_nil _ _ _ _, fun i d q e1 => by simp at e1⟩, World.ownsRow_nil _ _ _ _, by omega, by omega, ((Blk.new w 29 _).alloc _).alloc _⟩

theorem heap2_new (w : World) (o : Obj) (cs : Array Value) (t : TypeId) : ((w.alloc o).alloc (.cells cs t)).drew.heap[w.heap.size + 1]? = some (.cells cs t (0, 0)) := by
  have := Blk.new (w.alloc o) t cs
  rw [World.size_alloc] at this
  exact this
section
variable {w0 : World} {sb pb : Nat} {l : List Int} {pr ca kk : Int} {vn vl vd vc : Value} {ns : List PNode} {ls : List PLink} {ds : List PDest} {cs : List PCheck} {w w' : World}
theorem NetSt.pbOf (h : NetSt w0 sb pb l pr ca kk vn vl vd vc ns ls ds cs w) {e : TypeId} {size n : Nat} {u : Value} {xs : List Value} (ho : w.ownsRow w0.heap.size e size u n xs) (hne : e ≠ 29) (hg : w.grownBy w' u.ownBlock) :
    Blk w' pb 29 #[.int .i64 pr, .int .i64 ca, .int .i64 kk, vn, vl, vd, vc] := h.blk.grown hg (fun e1 => own_blk_ne ho h.blk hne e1.symm)
end

theorem setCell_self {w : World} {g i : Nat} {t : TypeId} {cs : Array Value} {v : Value} (h : Blk w g t cs) (hv : cs[i]? = some v) : w.setCell ⟨g, i, none⟩ v = w := by
  unfold World.setCell
  have e : (w.heap.modify g fun
      | .cells c elem frozen => .cells (if (none : Option Nat).isSome then c else c.setIfInBounds i v) elem frozen
      | o => o) = w.heap := by
    apply Array.ext_getElem?
    intro j
    rw [Array.getElem?_modify]
    split
    · rename_i hj
      subst hj
      unfold Blk at h
      rw [h]
      simp only [Option.map_some, Option.isSome_none, Bool.false_eq_true, if_false]
      congr 2
      apply Array.ext_getElem?
      intro k
      rw [Array.getElem?_setIfInBounds]
      split
      · rename_i hk
        subst hk
        have hi := (Array.getElem?_eq_some_iff.1 hv).1
        rw [if_pos hi, hv]
      · rfl
    · rfl
  exact congrArg (fun h => { w with heap := h }) e
theorem setCells_self {w : World} {g : Nat} {t : TypeId} {cs : Array Value} (h : Blk w g t cs) : ∀ (vs : List Value) (o : Nat), (∀ j v, vs[j]? = some v → cs[o + j]? = some v) → w.setCells g o vs = w
  | [], _, _ => rfl
  | v :: r, o, hc => by
    rw [World.setCells, setCell_self h (by have := hc 0 v rfl; rwa [Nat.add_zero] at this)]
    exact setCells_self h r (o + 1) fun j u hu => by rw [Nat.add_assoc, Nat.add_comm 1 j]; exact hc (j + 1) u (by simpa using hu)
theorem there_of_blk {w : World} {g : Nat} {t : TypeId} {cs : Array Value} (h : Blk w g t cs) : w.there g 0 cs.size := fun j hj => ⟨by rw [Nat.zero_add, h.cell]; simp [hj], h.frozen _⟩

theorem nodeInfo : (Try.prog.info? 56).map (fun i => (i.zero, i.size, i.bytes)) = some (some (.agg #[.string ⟨#[]⟩, .int .i64 0]), 2, 24) := by kernel_rfl
theorem linkInfo : (Try.prog.info? 53).map (fun i => (i.zero, i.size, i.bytes)) = some (some (.agg #[.int .i64 0, .int .i64 0, .int .i64 0]), 3, 24) := by kernel_rfl
theorem destInfo : (Try.prog.info? 65).map (fun i => (i.zero, i.size, i.bytes)) = some (some (.agg #[.string ⟨#[]⟩, .slice none 0 0]), 2, 40) := by kernel_rfl
theorem checkInfo : (Try.prog.info? 67).map (fun i => (i.zero, i.size, i.bytes)) = some (some (.agg #[.int .i64 0, .int .i64 0, .int .i64 0, .int .i64 0, .int .i64 0]), 5, 40) := by kernel_rfl
theorem numInfo : (Try.prog.info? 3).map (fun i => (i.zero, i.size, i.bytes)) = some (some (.int .i64 0), 1, 8) := by kernel_rfl

theorem names_at (k : Nat) (hk : k < 7) (w : World) : (w.alloc (.cells #[.string ⟨#[97]⟩, .string ⟨#[98]⟩, .string ⟨#[99]⟩, .string ⟨#[100]⟩, .string ⟨#[101]⟩, .string ⟨#[102]⟩, .string ⟨#[103]⟩] 9)).cell? ⟨w.heap.size, k, none⟩ = some (.string (nmG k)) := by
  rw [(Blk.new w _ _).cell k]
  have : ∀ k, k < 7 → (#[.string ⟨#[97]⟩, .string ⟨#[98]⟩, .string ⟨#[99]⟩, .string ⟨#[100]⟩, .string ⟨#[101]⟩, .string ⟨#[102]⟩, .string ⟨#[103]⟩] : Array Value)[k]? = some (.string (nmG k)) := by
    intro k hk
    match k, hk with
    | 0, _ => rfl
    | 1, _ => rfl
    | 2, _ => rfl
    | 3, _ => rfl
    | 4, _ => rfl
    | 5, _ => rfl
    | 6, _ => rfl
  exact this k hk

/-- Which links there are, as the law's array of booleans tells. -/
def UsedAt (ub : Nat) (ls : List PLink) (w : World) : Prop := ∃ cs : Array Value, Blk w ub 63 cs ∧ cs.size = 49 ∧ ∀ a b : Nat, a < b → b < 7 → cs[7 * a + b]? = some (.bool (hasL ls a b))
theorem UsedAt.start {ub : Nat} {w : World} {cs : Array Value} (h : Blk w ub 63 cs) (hc : cs = Array.replicate 49 (.bool false)) : UsedAt ub [] w := by
  subst hc
  refine ⟨_, h, by simp, fun a b hab hb => ?_⟩
  rw [Array.getElem?_replicate, if_pos (by omega)]
  rfl
theorem UsedAt.get {ub : Nat} {ls : List PLink} {w : World} (h : UsedAt ub ls w) (a b : Nat) (hab : a < b) (hb : b < 7) : w.cell? ⟨ub, 7 * a + b, none⟩ = some (.bool (hasL ls a b)) ∧ w.frozen? ⟨ub, 7 * a + b, none⟩ = false := by
  obtain ⟨cs, h1, h2, h3⟩ := h
  exact ⟨by rw [h1.cell, h3 a b hab hb], h1.frozen _⟩
theorem UsedAt.turned {ub sb : Nat} {ls : List PLink} {w w' : World} (h : UsedAt ub ls w) (ht : Turned sb w w') (hne : ub ≠ sb) : UsedAt ub ls w' := by
  obtain ⟨cs, h1, h2⟩ := h
  exact ⟨cs, ht.blk h1 hne, h2⟩
theorem UsedAt.up {ub : Nat} {ls : List PLink} {w w' : World} (h : UsedAt ub ls w) (hb : Below w.heap.size w w') : UsedAt ub ls w' := by
  obtain ⟨cs, h1, h2⟩ := h
  exact ⟨cs, h1.up hb, h2⟩
theorem UsedAt.far {ub : Nat} {ls : List PLink} {w w' : World} (h : UsedAt ub ls w) {base : Nat} {e : TypeId} {size n : Nat} {u : Value} {xs : List Value} (ho : w.ownsRow base e size u n xs) (hne : e ≠ 63) (hg : w.grownBy w' u.ownBlock) : UsedAt ub ls w' := by
  obtain ⟨cs, h1, h2⟩ := h
  exact ⟨cs, h1.grown hg (fun e1 => own_blk_ne ho h1 hne e1.symm), h2⟩
theorem UsedAt.put {ub : Nat} {ls : List PLink} {w : World} (h : UsedAt ub ls w) {p : Addr} (hne : ub ≠ p.block) (u : Value) : UsedAt ub ls (w.setCell p u) := by
  obtain ⟨cs, h1, h2⟩ := h
  exact ⟨cs, h1.far hne u, h2⟩
theorem hasL_snoc (ls : List PLink) (x : PLink) (a b : Nat) : hasL (ls ++ [x]) a b = (hasL ls a b || linkIs a b x) := by unfold hasL; rw [List.any_append]; simp
theorem UsedAt.set_ {ub : Nat} {ls : List PLink} {w : World} (h : UsedAt ub ls w) (a b : Nat) (c : Int) (hab : a < b) (hb : b < 7) : UsedAt ub (ls ++ [⟨a, b, c⟩]) (w.setCell ⟨ub, 7 * a + b, none⟩ (.bool true)) := by
  obtain ⟨cs, h1, h2, h3⟩ := h
  refine ⟨_, h1.set_ _ _, by rw [Array.size_setIfInBounds]; exact h2, fun a' b' hab' hb' => ?_⟩
  rw [Array.getElem?_setIfInBounds, hasL_snoc]
  by_cases he : 7 * a + b = 7 * a' + b'
  · have e1 : a = a' := by omega
    have e2 : b = b' := by omega
    subst e1 e2
    rw [if_pos rfl, if_pos (by omega)]
    unfold linkIs; simp
  · rw [if_neg he, h3 a' b' hab' hb']
    have : linkIs a' b' ⟨a, b, c⟩ = false := by unfold linkIs; simp; omega
    rw [this, Bool.or_false]
theorem UsedAt.lt {ub : Nat} {ls : List PLink} {w : World} (h : UsedAt ub ls w) : ub < w.heap.size := by
  obtain ⟨cs, h1, _⟩ := h
  exact h1.lt
theorem blk2_new (w : World) (o : Obj) (cs : Array Value) (t : TypeId) : Blk ((w.alloc o).alloc (.cells cs t)) (w.heap.size + 1) t cs := by
  have := Blk.new (w.alloc o) t cs
  rw [World.size_alloc] at this
  exact this
theorem below_2a (w : World) (o1 o2 : Obj) : Below w.heap.size w ((w.alloc o1).alloc o2) := ((Below.refl _ w).alloc (Nat.le_refl _) _).alloc (by simp) _
theorem dnames_at (k : Nat) (hk : k < 2) (w : World) : (w.alloc (.cells #[.string ⟨#[120]⟩, .string ⟨#[121]⟩] 9)).cell? ⟨w.heap.size, k, none⟩ = some (.string (dnG k)) := by
  rw [(Blk.new w _ _).cell k]
  match k, hk with
  | 0, _ => rfl
  | 1, _ => rfl
theorem own_base {w : World} {base base' : Nat} {e : TypeId} {size : Nat} {v : Value} {n : Nat} {xs : List Value} (h : w.ownsRow base e size v n xs) (hb : base' ≤ base) : w.ownsRow base' e size v n xs := by
  obtain ⟨h1, h2⟩ := h
  refine ⟨h1, ?_⟩
  rcases h2 with h2 | ⟨g, cap, cur, hv, hg, hr⟩
  · exact .inl h2
  · exact .inr ⟨g, cap, cur, hv, Nat.le_trans hb hg, hr⟩
theorem own_ge {w : World} {base : Nat} {e : TypeId} {size : Nat} {g n c : Nat} {xs : List Value} (h : w.ownsRow base e size (.slice (some ⟨g, 0, none⟩) n c) n xs) : base ≤ g := (h.lt g rfl).1
theorem below_none {w w' : World} (h : w.grownBy w' none) : Below w.heap.size w w' := ⟨h.os, h.tape, h.output, h.size, fun i hi => h.block i hi (by simp)⟩
theorem UsedAt.ne {ub sb B : Nat} {ls : List PLink} {l : List Int} {w : World} (h : UsedAt ub ls w) (hs : SrcAt B sb l w) : ub ≠ sb := by
  obtain ⟨cs, h1, _⟩ := h
  obtain ⟨v, hv⟩ := hs.blk
  exact h1.ne_ hv (by decide)
theorem UsedAt.ne2 {ub pb : Nat} {ls : List PLink} {w : World} {xs : Array Value} (h : UsedAt ub ls w) (hb : Blk w pb 29 xs) : ub ≠ pb := by
  obtain ⟨cs, h1, _⟩ := h
  exact h1.ne_ hb (by decide)
theorem next_su {w0 : World} {sb pb ub : Nat} {l : List Int} {pr ca kk : Int} {vn vl vd vc : Value} {ns : List PNode} {ls us : List PLink} {ds : List PDest} {cs : List PCheck} {w : World} (n : Int) (m v : Nat) (l' : List Int) (HV : Hid (nx l m = v)) (HT : Hid (l.tail = l')) (h : NetSt w0 sb pb l pr ca kk vn vl vd vc ns ls ds cs w) (hG : SrcOk l) (hU : UsedAt ub us w) (hn : n = (m : Int)) (h0 : 0 < m) (hm : m ≤ 4096) :
    Calls Try.prog 32 #[.pointer (some ⟨sb, 0, none⟩), .int .i64 n] w fun e w' => e = .returned (.int .i64 (v : Int)) ∧ NetSt w0 sb pb l' pr ca kk vn vl vd vc ns ls ds cs w' ∧ SrcOk l' ∧ UsedAt ub us w' :=
  (next_st n m v l' HV HT h hG hn h0 hm).mono fun _ _ ⟨h1, h2, h3, h4⟩ => ⟨h1, h2, h3, hU.turned h4 (hU.ne h.src)⟩
theorem ex_nx (l : List Int) (n : Nat) (h : 0 < n) : ∃ v, Hid (nx l n = v) ∧ v < n := ⟨_, rfl, nx_lt l n h⟩
theorem ex_tail (l : List Int) : ∃ l', Hid (l.tail = l') := ⟨_, rfl⟩
/-- A cell of a block that is none of the network's is written. -/
theorem NetSt.putFar {w0 : World} {sb pb : Nat} {l : List Int} {pr ca kk : Int} {vn vl vd vc : Value} {ns : List PNode} {ls : List PLink} {ds : List PDest} {cs : List PCheck} {w : World} (h : NetSt w0 sb pb l pr ca kk vn vl vd vc ns ls ds cs w) {g : Nat} {t : TypeId} {xs : Array Value} (hb : Blk w g t xs) (hg : w0.heap.size ≤ g)
    (hN : 56 ≠ t) (hL : 53 ≠ t) (hD : 65 ≠ t) (hC : 67 ≠ t) (hI : 3 ≠ t) (hP : 29 ≠ t) (hS : 60 ≠ t) (i : Nat) (u : Value) :
    NetSt w0 sb pb l pr ca kk vn vl vd vc ns ls ds cs (w.setCell ⟨g, i, none⟩ u) := by
  have hb2 : Below w0.heap.size w (w.setCell ⟨g, i, none⟩ u) := (Below.refl _ _).setCell (p := ⟨g, i, none⟩) hg _
  exact ⟨h.below.trans hb2, h.src.keep hb2 (fun _ hk => hk.far (p := ⟨g, i, none⟩) (hk.ne_ hb hS) _), h.blk.far (p := ⟨g, i, none⟩) (h.blk.ne_ hb hP) _, own_set h.nodes hb hN i u, own_set h.links hb hL i u,
    h.dests.map fun he ho => own_set ho hb (by rcases he with rfl | rfl; exact hD; exact hI) i u, own_set h.checks hb hC i u, h.sb, h.pb', h.res.far (p := ⟨g, i, none⟩) (h.res.ne_ hb hP) _⟩

end Go.Proofs.Ytlfdpfkimggeoaa

namespace Go.Proofs.Ytlfdpfkimggeoaa
open Go.RowKit

section
variable {w0 : World} {sb pb : Nat} {l : List Int} {pr ca kk : Int} {vn vl vd vc : Value} {ns : List PNode} {ls : List PLink} {ds : List PDest} {cs : List PCheck} {B : Nat} {bo : Option Nat} {w w' : World}

/-- The network while a check is drawn. -/
structure CSt (w0 : World) (sb pb : Nat) (l : List Int) (pr ca kk : Int) (vn vl vd vc : Value) (ns : List PNode) (ls : List PLink) (ds : List PDest) (cs : List PCheck) (B : Nat) (bo : Option Nat) (w : World) : Prop where
  st : NetSt w0 sb pb l pr ca kk vn vl vd vc ns ls ds cs w
  lo : sb < B ∧ B ≤ w.heap.size
  own : ∀ b, bo = some b → B ≤ b ∧ Blk w b 67 #[.int .i64 0, .int .i64 0, .int .i64 0, .int .i64 0, .int .i64 0]

theorem CSt.start (h : NetSt w0 sb pb l pr ca kk vn vl vd vc ns ls ds cs w) : CSt w0 sb pb l pr ca kk vn vl vd vc ns ls ds cs w.heap.size none w := by
  obtain ⟨v, hv⟩ := h.src.blk
  exact ⟨h, ⟨hv.lt, Nat.le_refl _⟩, fun b hb => by cases hb⟩
theorem CSt.up (h : CSt w0 sb pb l pr ca kk vn vl vd vc ns ls ds cs B bo w) (hb : Below w.heap.size w w') : CSt w0 sb pb l pr ca kk vn vl vd vc ns ls ds cs B bo w' :=
  ⟨h.st.up hb, ⟨h.lo.1, Nat.le_trans h.lo.2 hb.size⟩, fun b hbo => ⟨(h.own b hbo).1, (h.own b hbo).2.up hb⟩⟩
theorem CSt.alloc (h : CSt w0 sb pb l pr ca kk vn vl vd vc ns ls ds cs B none w) : CSt w0 sb pb l pr ca kk vn vl vd vc ns ls ds cs B (some w.heap.size) (w.alloc (.cells #[.int .i64 0, .int .i64 0, .int .i64 0, .int .i64 0, .int .i64 0] 67)) :=
  ⟨h.st.up (below_new _ _), ⟨h.lo.1, Nat.le_trans h.lo.2 (below_new w _).size⟩, fun b hbo => by
    injection hbo with hbo
    subst hbo
    exact ⟨h.lo.2, Blk.new _ _ _⟩⟩
theorem CSt.turned (h : CSt w0 sb pb l pr ca kk vn vl vd vc ns ls ds cs B bo w) {l' : List Int} (hs : NetSt w0 sb pb l' pr ca kk vn vl vd vc ns ls ds cs w') (ht : Turned sb w w') : CSt w0 sb pb l' pr ca kk vn vl vd vc ns ls ds cs B bo w' :=
  ⟨hs, ⟨h.lo.1, Nat.le_trans h.lo.2 ht.grown.size⟩, fun b hbo => ⟨(h.own b hbo).1, ht.blk (h.own b hbo).2 (by have := (h.own b hbo).1; have := h.lo.1; omega)⟩⟩

/-- The next number while a check is drawn. -/
theorem next_c (n : Int) (m v : Nat) (l' : List Int) (HV : Hid (nx l m = v)) (HT : Hid (l.tail = l')) (h : CSt w0 sb pb l pr ca kk vn vl vd vc ns ls ds cs B bo w) (hG : SrcOk l) (hn : n = (m : Int)) (h0 : 0 < m) (hm : m ≤ 4096) :
    Calls Try.prog 32 #[.pointer (some ⟨sb, 0, none⟩), .int .i64 n] w fun e w' => e = .returned (.int .i64 (v : Int)) ∧ CSt w0 sb pb l' pr ca kk vn vl vd vc ns ls ds cs B bo w' ∧ SrcOk l' :=
  (next_st n m v l' HV HT h.st hG hn h0 hm).mono fun _ _ ⟨he, hs, hok, ht⟩ => ⟨he, h.turned hs ht, hok⟩
end

/-- The result's own block is of a plan: rows of nodes, links, destinations and checks stay. -/
theorem POwn.set_ {B : Nat} {p : PPlan} {vn vl vd vc : Value} {w : World} (h : POwn B p vn vl vd vc w) {g : Nat} {xs : Array Value} (hb : Blk w g 29 xs) (i : Nat) (u : Value) : POwn B p vn vl vd vc (w.setCell ⟨g, i, none⟩ u) :=
  ⟨own_set h.nodes hb (by decide) i u, own_set h.links hb (by decide) i u, h.dests.map fun he ho => own_set ho hb (by rcases he with rfl | rfl <;> decide) i u, own_set h.checks hb (by decide) i u⟩
/-- A plan's block with the plan, its rows and what lay there. -/
structure PRes (B g : Nat) (p : PPlan) (vn vl vd vc : Value) (xs : Array Value) (w0 w : World) : Prop where
  own : POwn B p vn vl vd vc w
  blk : Blk w g 29 xs
  up : Below B w0 w
theorem PRes.set_ {B g : Nat} {p : PPlan} {vn vl vd vc : Value} {xs : Array Value} {w0 w : World} (h : PRes B g p vn vl vd vc xs w0 w) (hg : B ≤ g) (i : Nat) (u : Value) : PRes B g p vn vl vd vc (xs.setIfInBounds i u) w0 (w.setCell ⟨g, i, none⟩ u) :=
  ⟨h.own.set_ h.blk i u, h.blk.set_ i u, h.up.setCell (p := ⟨g, i, none⟩) hg _⟩
/-- The result's block as it is at the end. -/
theorem NetSt.result {w0 : World} {sb pb : Nat} {l : List Int} {pr ca kk : Int} {vn vl vd vc : Value} {ns : List PNode} {ls : List PLink} {ds : List PDest} {cs : List PCheck} {w : World} (h : NetSt w0 sb pb l pr ca kk vn vl vd vc ns ls ds cs w) :
    PRes w0.heap.size w0.heap.size ⟨pr, ca, kk, ns, ls, ds, cs⟩ vn vl vd vc #[.int .i64 pr, .int .i64 ca, .int .i64 kk, vn, vl, vd, vc] w0 (w.setCells w0.heap.size 0 [.int .i64 pr, .int .i64 ca, .int .i64 kk, vn, vl, vd, vc]) := by
  have h0 : PRes w0.heap.size w0.heap.size ⟨pr, ca, kk, ns, ls, ds, cs⟩ vn vl vd vc _ w0 w := ⟨⟨h.nodes, h.links, h.dests, h.checks⟩, h.res, h.below⟩
  have r := Nat.le_refl w0.heap.size
  exact ((((((h0.set_ r 0 (.int .i64 pr)).set_ r 1 (.int .i64 ca)).set_ r 2 (.int .i64 kk)).set_ r 3 vn).set_ r 4 vl).set_ r 5 vd).set_ r 6 vc

/-- The network of numbers, out of its parts. -/
theorem net_is {l0 l2 l3 l4 La l5 Lb l6 Lc l7 Ld : List Int} {pr ca : Int} {v3 v4 v5 v6 v7 : Nat} {ns : List PNode} {ls : List PLink} {ds : List PDest} {cs : List PCheck}
    (hP : protoG l0 = ((pr, ca), l2)) (hv3 : nx l2 4 = v3) (hl3 : l2.tail = l3) (hv4 : nx l3 6 = v4) (hl4 : l3.tail = l4) (hN : nodesG l4 (2 + v4) = (ns, La)) (hv5 : nx La 10 = v5) (hl5 : La.tail = l5)
    (hL : linksG (2 + v4) l5 v5 = (ls, Lb)) (hv6 : nx Lb 2 = v6) (hl6 : Lb.tail = l6) (hD : destsG (2 + v4) l6 (v6 + 1) = (ds, Lc)) (hdl : ds.length = v6 + 1) (hv7 : nx Lc 7 = v7) (hl7 : Lc.tail = l7) (hC : checksG (2 + v4) ds.length l7 v7 = (cs, Ld)) :
    netL l0 = ⟨pr, ca, min (v3 : Int) (ls.length : Int), ns, ls, ds, cs⟩ := by
  have e1 : nG l0 = 2 + v4 := by unfold nG; rw [hP, hl3, hv4]
  have e2 : nodesOf l0 = (ns, La) := by unfold nodesOf; rw [e1, hP, hl3, hl4]; exact hN
  have e3 : linksOf l0 = (ls, Lb) := by unfold linksOf; rw [e1, e2, hl5, hv5]; exact hL
  have e4 : ndG l0 = v6 + 1 := by unfold ndG; rw [e3, hv6]
  have e5 : destsOf l0 = (ds, Lc) := by unfold destsOf; rw [e1, e3, e4, hl6]; exact hD
  have e6 : checksOf l0 = (cs, Ld) := by unfold checksOf; rw [e1, e4, e5, hl7, hv7, ← hdl]; exact hC
  unfold netL
  rw [e2, e3, e5, e6, hP, hv3]

end Go.Proofs.Ytlfdpfkimggeoaa
