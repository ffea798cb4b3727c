/-
  Package graph: distances from a node.
-/
import Derived.Deep.LoopGhost
import Derived.Deep.DeepCutAuto
import Derived.Deep.MidRow
import Derived.Laws.Rows
import Derived.Test.YtlfdpfkimggeoaaGrB
import Derived.Test.YtlfdpfkimggeoaaPlX
namespace Go.Proofs.Ytlfdpfkimggeoaa
open Go.RowKit
set_option linter.unusedVariables false

/-- The cells of an array of distances. -/
def farC (far : Nat → Int) : Array Value := ((List.range 12).map fun i => Value.int .i64 (far i)).toArray
theorem farC_at {far : Nat → Int} {u : Nat} (h : u < 12) : (farC far)[u]? = some (.int .i64 (far u)) := by
  unfold farC
  simp [h]
theorem farC_upd {far : Nat → Int} {u : Nat} {d : Int} (h : u < 12) : (farC far).setIfInBounds u (.int .i64 d) = farC (updF far u d) := by
  apply Array.ext_getElem?
  intro j
  rw [Array.getElem?_setIfInBounds]
  by_cases hj : u = j
  · subst hj
    rw [if_pos rfl, farC_at h, updF_at]
    simp [farC, h]
  · rw [if_neg hj]
    by_cases h12 : j < 12
    · rw [farC_at h12, farC_at h12, updF_ne (Ne.symm hj)]
    · simp [farC, h12]
/-- What lies there while distances are told. -/
structure DistSt (w0 : World) (pv : Array Value) (far : Nat → Int) (w : World) : Prop where
  below : Below w0.heap.size w0 w
  box : Blk w w0.heap.size 29 pv
  res : Blk w (w0.heap.size + 1) 73 (farC fun _ => 0)
  far : Blk w (w0.heap.size + 1 + 1) 73 (farC far)
section
variable {w0 w w' : World} {pv : Array Value} {far : Nat → Int}
theorem DistSt.lt (h : DistSt w0 pv far w) : w0.heap.size + 1 + 1 < w.heap.size := h.far.lt
theorem DistSt.up (h : DistSt w0 pv far w) (hb : Below w.heap.size w w') : DistSt w0 pv far w' :=
  ⟨h.below.trans (hb.mono h.below.size), h.box.up hb, h.res.up hb, h.far.up hb⟩
theorem DistSt.set_ (h : DistSt w0 pv far w) {u : Nat} (hu : u < 12) (d : Int) : DistSt w0 pv (updF far u d) (w.setCell ⟨w0.heap.size + 1 + 1, u, none⟩ (.int .i64 d)) :=
  ⟨h.below.trans ((Below.refl _ _).setCell (p := ⟨w0.heap.size + 1 + 1, u, none⟩) (by simp; omega) _), h.box.far (p := ⟨w0.heap.size + 1 + 1, u, none⟩) (by simp; omega) _, h.res.far (p := ⟨w0.heap.size + 1 + 1, u, none⟩) (by simp) _, by have := h.far.set_ u (.int .i64 d); rwa [farC_upd hu] at this⟩
theorem DistSt.grown (h : DistSt w0 pv far w) {b : Nat} (hg : w.grownBy w' (some b)) (hb : w0.heap.size + 1 + 1 + 1 ≤ b) : DistSt w0 pv far w' :=
  ⟨h.below.trans ((Below.refl _ _).grown hg h.below.size (fun g e => by injection e with e; omega)), h.box.grown hg (fun e => by injection e with e; omega), h.res.grown hg (fun e => by injection e with e; omega), h.far.grown hg (fun e => by injection e with e; omega)⟩
theorem DistSt.cell (h : DistSt w0 pv far w) {u : Nat} (hu : u < 12) : w.cell? ⟨w0.heap.size + 1 + 1, u, none⟩ = some (.int .i64 (far u)) := (h.far.cell u).trans (farC_at hu)
end
theorem farC_ext {far far' : Nat → Int} (h : ∀ v, v < 12 → far v = far' v) : farC far = farC far' := by
  unfold farC
  congr 1
  refine List.map_congr_left fun v hv => ?_
  rw [h v (List.mem_range.1 hv)]
theorem DistSt.ext {w0 w : World} {pv : Array Value} {far far' : Nat → Int} (h : DistSt w0 pv far w) (he : ∀ v, v < 12 → far v = far' v) : DistSt w0 pv far' w := ⟨h.below, h.box, h.res, by rw [← farC_ext he]; exact h.far⟩
theorem QAt.one {w : World} {t : TypeId} {B b x : Nat} (h : Blk w b t #[.int .i64 (x : Nat)]) (hB : B ≤ b) : QAt w B b 0 1 1 [x] :=
  ⟨hB, h.lt, rfl, by omega, by unfold maxLen; omega, fun j u hu => by
    have hj : j = 0 := by
      have := (List.getElem?_eq_some_iff.1 hu).1
      simp at this; exact this
    subst hj
    simp at hu
    subst hu
    exact h.cell 0, fun j hj => by
    have hj : j = 0 := by omega
    subst hj
    exact ⟨by rw [h.cell]; rfl, h.frozen _⟩⟩
theorem blk_setCells {g : Nat} {t : TypeId} : ∀ (vs : List Value) (o : Nat) (w : World) (cs : Array Value), Blk w g t cs → o + vs.length = cs.size → ∃ cs' : Array Value, Blk (w.setCells g o vs) g t cs' ∧ cs'.size = cs.size ∧ ∀ j, cs'[j]? = if j < o then cs[j]? else vs[j - o]?
  | [], o, w, cs, h, hl => ⟨cs, h, rfl, fun j => by
      by_cases hj : j < o
      · rw [if_pos hj]
      · rw [if_neg hj]; simp at hl ⊢; omega⟩
  | v :: r, o, w, cs, h, hl => by
      obtain ⟨cs', h1, h2, h3⟩ := blk_setCells r (o + 1) (w.setCell ⟨g, o, none⟩ v) _ (h.set_ o v) (by rw [Array.size_setIfInBounds, ← hl, List.length_cons]; omega)
      refine ⟨cs', h1, by rw [h2, Array.size_setIfInBounds], fun j => ?_⟩
      rw [h3 j]
      rw [List.length_cons] at hl
      by_cases hj : j < o
      · rw [if_pos (by omega), if_pos hj, Array.getElem?_setIfInBounds, if_neg (by omega)]
      · rw [if_neg hj]
        by_cases e : j = o
        · subst e
          rw [if_pos (by omega), Array.getElem?_setIfInBounds, if_pos rfl, if_pos (by omega), Nat.sub_self]
          rfl
        · rw [if_neg (by omega), show j - o = (j - (o + 1)) + 1 by omega, List.getElem?_cons_succ]
theorem blk_row {w : World} {g : Nat} {t : TypeId} {cs : Array Value} (h : Blk w g t cs) (ds : Array Value) (hl : ds.size = cs.size) : Blk (w.setCells g 0 ds.toList) g t ds := by
  obtain ⟨cs', h1, h2, h3⟩ := blk_setCells ds.toList 0 w cs h (by simp [hl])
  have : cs' = ds := by
    apply Array.ext_getElem?
    intro j
    rw [h3 j, if_neg (by omega)]
    simp
  rwa [this] at h1
theorem below_setCells {B : Nat} (g : Nat) : ∀ (vs : List Value) (o : Nat) (w : World), B ≤ g → Below B w (w.setCells g o vs)
  | [], _, w, _ => Below.refl _ w
  | v :: r, o, w, h => ((Below.refl _ w).setCell (p := ⟨g, o, none⟩) h v).trans (below_setCells g r (o + 1) _ h)
theorem farC_size (far : Nat → Int) : (farC far).size = 12 := by simp [farC]
theorem farC_one (far : Nat → Int) : (farC far).all (·.oneCell') = true := by
  rw [Array.all_eq_true_iff_forall_mem]
  intro v hv
  unfold farC at hv
  simp at hv
  obtain ⟨i, _, rfl⟩ := hv
  rfl
theorem distInfo : (Try.prog.info? 73).map (·.size) = some 12 := by kernel_rfl
theorem DistSt.done {w0 w : World} {pv : Array Value} {far : Nat → Int} (h : DistSt w0 pv far w) : Blk (w.setCells (w0.heap.size + 1) 0 (farC far).toList) (w0.heap.size + 1) 73 (farC far) ∧ Below w0.heap.size w0 (w.setCells (w0.heap.size + 1) 0 (farC far).toList) :=
  ⟨blk_row h.res _ (by rw [farC_size, farC_size]), h.below.trans (below_setCells _ _ _ _ (by omega))⟩
/-- A list's slice that no queue overwrites. -/
def ListAt (w : World) (B : Nat) (A : Option Addr) (b : Nat) (L : List Nat) : Prop := L ≠ [] → ∃ g, A = some ⟨g, 0, none⟩ ∧ B ≤ g ∧ g < w.heap.size ∧ g ≠ b ∧ ∀ j i, L[j]? = some i → w.cell? ⟨g, j, none⟩ = some (.int .i64 (i : Nat))
section
variable {w w' : World} {B b : Nat} {A : Option Addr} {L : List Nat}
theorem ListAt.up (h : ListAt w B A b L) (hb : Below w.heap.size w w') : ListAt w' B A b L := fun hn => by
  obtain ⟨g, h1, h2, h3, h4, h5⟩ := h hn
  exact ⟨g, h1, h2, Nat.lt_of_lt_of_le h3 hb.size, h4, fun j i hj => (hb.cell (p := ⟨g, j, none⟩) h3).trans (h5 j i hj)⟩
theorem ListAt.set_ (h : ListAt w B A b L) {p : Addr} (hp : p.block < B) (u : Value) : ListAt (w.setCell p u) B A b L := fun hn => by
  obtain ⟨g, h1, h2, h3, h4, h5⟩ := h hn
  exact ⟨g, h1, h2, by simpa [World.setCell] using h3, h4, fun j i hj => (World.cell?_setCell_other w p ⟨g, j, none⟩ u (fun e => by subst e; simp at hp; omega)).trans (h5 j i hj)⟩
theorem ListAt.grown (h : ListAt w B A b L) {b' : Nat} (hg : w.grownBy w' (some b)) (hb : b' = b ∨ w.heap.size ≤ b') : ListAt w' B A b' L := fun hn => by
  obtain ⟨g, h1, h2, h3, h4, h5⟩ := h hn
  exact ⟨g, h1, h2, Nat.lt_of_lt_of_le h3 hg.size, by omega, fun j i hj => (World.cell?_of_block (a := ⟨g, j, none⟩) (hg.block g h3 (by simpa using h4))).trans (h5 j i hj)⟩
theorem ListAt.of_own {e : TypeId} {c : Nat} {W : World} (h : w.ownsRow W.heap.size e 1 (.slice A L.length c) L.length (intCells L)) (hB : B ≤ W.heap.size) (hb : b < W.heap.size) : ListAt w B A b L := fun hn => by
  have hl : 0 < L.length := List.length_pos_iff.2 hn
  obtain ⟨g, cap, hv, _⟩ := own_slice h hl
  injection hv with h1
  subst h1
  obtain ⟨hlo, hlt⟩ := h.lt g rfl
  refine ⟨g, rfl, by omega, hlt, by omega, fun j i hj => ?_⟩
  have := h.cells (g := g) rfl j (.int .i64 (i : Nat)) (by rw [intCells, List.getElem?_map, hj]; rfl)
  rw [Addr.add_lit, Nat.zero_add] at this
  exact this
end
theorem cell_set (w : World) (p : Addr) (v u : Value) (t : TypeId) : ((w.setCell p v).alloc (.cells #[u] t)).cell? ⟨w.heap.size, 0, none⟩ = some u := by
  have h := Blk.cell (Blk.new (w.setCell p v) t #[u]) 0
  rw [show (w.setCell p v).heap.size = w.heap.size by simp [World.setCell]] at h
  exact h
set_option maxRecDepth 100000 in
set_option maxHeartbeats 2000000 in
theorem dist_any (p : PPlan) (f : Int) (s : Nat) {pr ca kk : Int} {An Al Ad Ac : Option Addr} {ln cn ll cl ld cd lc cc : Nat} {w : World} (h : PAt w p pr ca kk An ln Al ll Ad ld Ac lc) (hgp : GPlan p) (hs : s < ln) :
    Calls Try.prog 39 #[.agg #[.int .i64 pr, .int .i64 ca, .int .i64 kk, .slice An ln cn, .slice Al ll cl, .slice Ad ld cd, .slice Ac lc cc], .int .i64 f, .int .i64 (s : Nat)] w fun e w' => e = .returned (.agg (farC (distB (adjB p f) ln s))) ∧ Below w.heap.size w w' := by
  have hG := gok hgp f
  rw [h.ln] at hG
  have h12 := hgp.n12
  rw [h.ln] at h12
  have h16 := hgp.l16
  rw [h.ll] at h16
  obtain ⟨i0, hi, hz0, hz1, hz2⟩ := info_parts intInfo
  have HBX := Lib.hid (fun (o1 o2 : Obj) => Blk.new w 29 #[.int .i64 pr, .int .i64 ca, .int .i64 kk, .slice An ln cn, .slice Al ll cl, .slice Ad ld cd, .slice Ac lc cc])
  go_enter Try.func39, Try.ntmps39
  go_wp2
  have hst0 : DistSt w #[.int .i64 pr, .int .i64 ca, .int .i64 kk, .slice An ln cn, .slice Al ll cl, .slice Ad ld cd, .slice Ac lc cc] (fun _ => 0) (((w.alloc (.cells #[.int .i64 pr, .int .i64 ca, .int .i64 kk, .slice An ln cn, .slice Al ll cl, .slice Ad ld cd, .slice Ac lc cc] 29)).alloc (.cells #[.int .i64 0, .int .i64 0, .int .i64 0, .int .i64 0, .int .i64 0, .int .i64 0, .int .i64 0, .int .i64 0, .int .i64 0, .int .i64 0, .int .i64 0, .int .i64 0] 73)).alloc (.cells #[.int .i64 0, .int .i64 0, .int .i64 0, .int .i64 0, .int .i64 0, .int .i64 0, .int .i64 0, .int .i64 0, .int .i64 0, .int .i64 0, .int .i64 0, .int .i64 0] 73)) := by
    have e1 := Blk.new (w.alloc (.cells #[.int .i64 pr, .int .i64 ca, .int .i64 kk, .slice An ln cn, .slice Al ll cl, .slice Ad ld cd, .slice Ac lc cc] 29)) 73 (farC fun _ => 0)
    have e2 := Blk.new ((w.alloc (.cells #[.int .i64 pr, .int .i64 ca, .int .i64 kk, .slice An ln cn, .slice Al ll cl, .slice Ad ld cd, .slice Ac lc cc] 29)).alloc (.cells (farC fun _ => 0) 73)) 73 (farC fun _ => 0)
    rw [World.size_alloc] at e1
    rw [World.size_alloc, World.size_alloc] at e2
    exact ⟨(((Below.refl _ w).alloc (Nat.le_refl _) _).alloc (by simp) _).alloc (by simp; omega) _, ((Blk.new w _ _).alloc _).alloc _, e1.alloc _, e2⟩
  go_loopw [8, 14] (fun _ i wr => ∃ k : Nat, k ≤ 12 ∧ i = .int .i64 (k : Nat) ∧ DistSt w #[.int .i64 pr, .int .i64 ca, .int .i64 kk, .slice An ln cn, .slice Al ll cl, .slice Ad ld cd, .slice Ac lc cc] (fun v => if v < k then -1 else 0) wr) (fun _ i _ => 12 - (intOf i).toNat)
  case atStart => exact ⟨0, Nat.zero_le _, rfl, by simpa using hst0⟩
  case round =>
    clear hst0
    obtain ⟨k, hk, rfl, hst⟩ := hrel
    by_cases hlt : k < 12
    · have n0 : (0 : Int) ≤ (k : Int) := by omega
      have n1 : (k : Int) < 12 := by omega
      have c0 := hst.cell hlt
      have f0 := hst.far.frozen k
      have hst' := hst.set_ hlt (-1)
      have e : updF (fun v => if v < k then (-1 : Int) else 0) k (-1) = fun v => if v < k + 1 then -1 else 0 := by
        funext v
        unfold updF
        show (if v = k then (-1 : Int) else if v < k then (-1 : Int) else 0) = if v < k + 1 then (-1 : Int) else 0
        by_cases e1 : v = k
        · subst e1; simp
        · rw [if_neg e1]
          by_cases e2 : v < k
          · rw [if_pos e2, if_pos (by omega)]
          · rw [if_neg e2, if_neg (by omega)]
      rw [e] at hst'
      clear e
      go_wp2
      go_roundw
      case rel => exact ⟨k + 1, by omega, by go_num, hst'⟩
      case measure => simp [intOf]; omega
    · have hk12 : k = 12 := by omega
      subst hk12
      have n0 : (0 : Int) ≤ (s : Int) := by omega
      have n1 : (s : Int) < 12 := by omega
      have c0 := hst.cell (u := s) (by omega)
      have f0 := hst.far.frozen s
      have hst' := hst.set_ (u := s) (by omega) 0
      go_wp2
      have hst1 : DistSt w #[.int .i64 pr, .int .i64 ca, .int .i64 kk, .slice An ln cn, .slice Al ll cl, .slice Ad ld cd, .slice Ac lc cc] (fun v => if v = s then 0 else -1) ((wr.setCell ⟨w.heap.size + 1 + 1, s, none⟩ (.int .i64 0)).alloc (.cells #[.int .i64 (s : Nat)] 3)) := by
        refine (hst'.up (below_new _ _)).ext fun v hv => ?_
        unfold updF
        show (if v = s then (0 : Int) else if v < 12 then (-1 : Int) else 0) = if v = s then (0 : Int) else -1
        rw [if_pos hv]
      have hlt0 := hst.lt
      have hq1 : QAt ((wr.setCell ⟨w.heap.size + 1 + 1, s, none⟩ (.int .i64 0)).alloc (.cells #[.int .i64 (s : Nat)] 3)) (w.heap.size + 1 + 1 + 1) wr.heap.size 0 1 1 [s] := by
        have := Blk.new (wr.setCell ⟨w.heap.size + 1 + 1, s, none⟩ (.int .i64 0)) 3 #[.int .i64 (s : Nat)]
        rw [show (wr.setCell ⟨w.heap.size + 1 + 1, s, none⟩ (.int .i64 0)).heap.size = wr.heap.size by simp [World.setCell]] at this
        exact QAt.one this (by omega)
      have hB1 := Bfs.begin (adj := adjB p f) (N := ln) (s := s) (far := fun v => if v = s then 0 else -1) hs fun v => rfl
      have hle1 := hB1.left
      clear hst' hst c0 f0 hlt0
      go_loopg [9] ln (fun gg s9 wr => ∃ (b off n cap : Nat) (q : List Nat) (far : Nat → Int), s9 = .slice (some ⟨b, off, none⟩) n cap ∧ QAt wr (w.heap.size + 1 + 1 + 1) b off n cap q ∧ DistSt w #[.int .i64 pr, .int .i64 ca, .int .i64 kk, .slice An ln cn, .slice Al ll cl, .slice Ad ld cd, .slice Ac lc cc] far wr ∧ Bfs (adjB p f) ln s far q ∧ leftF ln far + q.length ≤ gg)
      case atStart => exact ⟨_, _, _, _, _, _, rfl, hq1, hst1, hB1, hle1⟩
      case round =>
        clear hq1 hst1 hB1 hle1 hlt
        obtain ⟨b, off, n, cap, q, far, rfl, hq, hst, hB, hle⟩ := hrel
        have hql := hq.len
        have hqc := hq.le
        cases q with
        | nil =>
          simp at hql
          subst hql
          have hfin : farC far = farC (distB (adjB p f) ln s) := farC_ext fun v _ => hB.over hG hs v
          have HF := Lib.hid hfin
          clear hfin
          obtain ⟨F, hF⟩ : ∃ F, farC far = F := ⟨_, rfl⟩
          obtain ⟨W, hW⟩ : ∃ W, wr.setCells (w.heap.size + 1) 0 F.toList = W := ⟨_, rfl⟩
          have hd := hst.done
          have hf := hst.far
          have ht := there_of_blk hst.res
          have hz := farC_size far
          have h1 := farC_one far
          rw [farC_size] at ht
          rw [hF] at hd hf hz h1 HF
          rw [← hz] at ht
          rw [hW] at hd
          have HD := Lib.hid hd
          have HB := Lib.hid hf
          have HT := Lib.hid ht
          have HZ := Lib.hid (show (Try.prog.info? 73).map (·.size) = some F.size by rw [hz]; exact distInfo)
          have H1 := Lib.hid h1
          have HW := Lib.hid hW
          clear hst hB hq hd hf ht hz h1 hF hW
          go_upto_region 20 with (fail)
          go_step
          refine wpList_load_row rfl 73 (.tmp 7) rfl (w.heap.size + 1 + 1) rfl 73 F (0, 0) _ HB.out Try.underlying73 rfl HZ.out ?_
          refine wpList_store_mid rfl 73 (.tmp 6) (.tmp 63) rfl (w.heap.size + 1) 0 F rfl rfl HT.out HZ.out H1.out ?_
          rw [HW.out]
          go_wp2_with fail
          refine bodyPost_ret (v := .agg F) ?_ rfl ?_
          · refine results_cell_row Try.results39 _ _ (w.heap.size + 1) 73 F (0, 0) _ ?_ HD.out.1 Try.underlying73 rfl HZ.out
            simp [Act.put]
          · exact ⟨by rw [HF.out], HD.out.2⟩
        | cons x r =>
          have hx := hB.found x (List.mem_cons_self)
          have c0 := hq.cells 0 x rfl
          rw [Nat.add_zero] at c0
          have hn : 0 < (n : Int) := by rw [List.length_cons] at hql; omega
          have hnn : (1 : Int) ≤ (n : Int) := by omega
          have hnc : (n : Int) ≤ (cap : Int) := by omega
          have hcm := hq.max
          unfold maxLen at hcm
          have HQL := Lib.hid hql
          have bx := fun (i : Nat) => hst.box.cell i
          have b0 := hst.box.cell 0
          have b1 := hst.box.cell 1
          have b2 := hst.box.cell 2
          have b3 := hst.box.cell 3
          have b4 := hst.box.cell 4
          have b5 := hst.box.cell 5
          have b6 := hst.box.cell 6
          clear bx hql
          have hlk := h.links.up hst.below
          have HT := hB.take hG hs
          have hle2 := hle
          rw [List.length_cons] at hle2
          have hq2 := hq.tail
          have hBw : w.heap.size + 1 + 1 + 1 ≤ wr.heap.size := hst.lt
          have hbw := hq.hi
          obtain ⟨L, hL⟩ : ∃ L, aroundB p f (x : Int) = L := ⟨_, rfl⟩
          obtain ⟨m, hm⟩ : ∃ m, L.length = m := ⟨_, rfl⟩
          have hm16 : m ≤ 16 := by
            have h1 := aroundK_len p f (x : Int) p.links.length
            have h2 := h.ll
            rw [← hm, ← hL]
            unfold aroundB
            omega
          have HL := Lib.hid hL
          have HM := Lib.hid hm
          have HST := Lib.hid hst
          have HLL := Lib.hid h.ll
          clear hq hB hle hL hm hst
          have hco : cap = 1 ∨ ¬ cap = 1 := Decidable.em _
          rcases hco with rfl | hc1
          all_goals
            first | (obtain rfl : n = 1 := (by omega); rw [if_pos rfl] at hq2; simp only [Nat.sub_self] at hq2) | rw [if_neg hc1] at hq2
            go_wp2_with (go_at_call 34; (with_reducible refine (around_any p f (x : Int) hlk HLL (by omega)).mono ?_); rw [HL.out]; rintro e w1 ⟨vL, rfl, hoL, hb1⟩; obtain ⟨AL, cL, rfl, hcL⟩ := own_form hoL; have hq3 := hq2.up hb1; have hst3 := HST.out.up hb1; have hL3 := ListAt.of_own hoL hBw hbw; rw [HM.out])
            clear hoL hb1 hcL b0 b1 b2 b3 b4 b5 b6 c0 hq2 hn hnn hnc hcm HQL hqc HST hlk hBw hbw
            go_loopw [9, 37] (fun s9 s37 wr => ∃ (k b' off' n' cap' : Nat) (q' : List Nat) (far' : Nat → Int), k ≤ m ∧ s37 = .int .i64 (k : Nat) ∧ s9 = .slice (some ⟨b', off', none⟩) n' cap' ∧ QAt wr (w.heap.size + 1 + 1 + 1) b' off' n' cap' q' ∧ DistSt w #[.int .i64 pr, .int .i64 ca, .int .i64 kk, .slice An ln cn, .slice Al ll cl, .slice Ad ld cd, .slice Ac lc cc] far' wr ∧ BfsIn (adjB p f) ln s far' q' x (fun u => ∃ j i, j < k ∧ L[j]? = some i ∧ nextN p (x : Int) i = u) ∧ ListAt wr (w.heap.size + 1 + 1 + 1) AL b' L ∧ leftF ln far' + (q'.length + 1) ≤ gk) (fun _ s37 _ => m - (intOf s37).toNat)
            case atStart => exact ⟨0, _, _, _, _, _, _, Nat.zero_le _, rfl, rfl, hq3, hst3, { HT with seen := fun u ⟨j, i, hj, _⟩ => by omega }, hL3, hle2⟩
            case round =>
              clear hq3 hst3 hL3 hle2 HT
              obtain ⟨k, b', off', n', cap', q', far', hk, rfl, rfl, hq, hst, hB, hLs, hle⟩ := hrel
              by_cases hlt : k < m
              · obtain ⟨i, hi⟩ : ∃ i, L[k]? = some i := ⟨_, List.getElem?_eq_getElem (by rw [HM.out]; exact hlt)⟩
                have himem : i ∈ aroundB p f (x : Int) := by rw [HL.out]; exact List.mem_of_getElem? hi
                obtain ⟨l, hl, ho, hh⟩ := around_mem.1 himem
                obtain ⟨u, hu, hun, hends⟩ := other_ends hgp hl ho
                rw [h.ln] at hun
                have hadj : adjB p f x u = true := adj_links.2 ⟨i, l, hl, hh, hends⟩
                have hnx : nextN p (x : Int) i = u := by rw [next_at hl, hu]; omega
                obtain ⟨la, lb, lco⟩ := l
                have HU := Lib.hid hu
                have HI := Lib.hid hi
                have hil : i < ll := by rw [← h.ll]; exact (List.getElem?_eq_some_iff.1 hl).1
                obtain ⟨g2, hAl, hg2, c0, c1, c2⟩ := (h.links.up hst.below).link hl
                dsimp only at c0 c1 c2
                obtain ⟨gL, hAL, hgB, hgL, hgb, hcL⟩ := hLs (by intro e; rw [e] at hi; simp at hi)
                have cL := hcL k i hi
                have b4 := hst.box.cell 4
                subst hAl
                subst hAL
                have n0 : (0 : Int) ≤ (k : Int) := by omega
                have n1 : (k : Int) < (m : Int) := by omega
                have n2 : (0 : Int) ≤ (i : Int) := by omega
                have n3 : (i : Int) < (ll : Int) := by omega
                have n4 : (0 : Int) ≤ (u : Int) := by omega
                have n5 : (u : Int) < 12 := by omega
                have n6 : (0 : Int) ≤ (x : Int) := by omega
                have n7 : (x : Int) < 12 := by have := hB.xN; omega
                clear hi hl ho hu hends himem hh hcL
                by_cases hf : far' u = -1
                · obtain ⟨dx, hdx⟩ : ∃ dx, far' x = dx := ⟨_, rfl⟩
                  have hdl := hB.ok.lt hG hs x
                  have hd0 := hB.x0
                  have hB2 := hB.come hG hadj hf
                  rw [hdx] at hdl hd0 hB2
                  have hlf := leftF_upd (N := ln) (far := far') (u := u) (d := dx + 1) hun hf (by omega)
                  have HF := Lib.hid hf
                  have HX := Lib.hid hdx
                  have hleft := hB.left
                  have hqn := hq.len
                  have hn1000 : n' ≤ 1000 := by omega
                  have HQN := Lib.hid hqn
                  clear hf hdx hadj hB hqn
                  go_wp2_with (first
                    | (go_at_call 37; (with_reducible refine (other_is ⟨la, lb, lco⟩ (x : Int) (u : Int) HU _).mono ?_); rintro e w2 ⟨rfl, hb2⟩; have hst2 := hst.up hb2; have q2 := hq.up hb2; have l2 := hLs.up hb2; have d5 := hst2.cell (u := u) (by omega); rw [HF.out] at d5; have d6 := hst2.cell (u := x) (by omega); rw [HX.out] at d6; have f5 := hst2.far.frozen u)
                    | (at_builtin; refine wpList_append_queue _ rfl _ _ 22 rfl 3 i0 Try.underlying22 hi hz0 hz1 hz2 (w.heap.size + 1 + 1 + 1) b' off' n' cap' q' rfl ((q2.set_ (p := ⟨w.heap.size + 1 + 1, u, none⟩) (by simp) _).alloc _) ⟨w2.heap.size, 0, none⟩ _ u rfl (cell_set w2 _ _ _ _) hn1000 (by have := hst2.lt; simp [World.setCell]; omega) ?_; intro b5 off5 cap5 w5 hq5 hg5 hb5; have hst5 := ((hst2.set_ (u := u) (by omega) (dx + 1)).up (below_new _ _)).grown hg5 q2.lo; have l5 := ((l2.set_ (p := ⟨w.heap.size + 1 + 1, u, none⟩) (by simp) (.int .i64 (dx + 1))).up (below_new _ _)).grown hg5 (by simpa [World.setCell] using hb5)))
                  go_roundw
                  case rel => exact ⟨k + 1, b5, off5, n' + 1, cap5, q' ++ [u], updF far' u (dx + 1), by omega, by go_num, rfl, hq5, hst5, { hB2 with seen := fun v ⟨j, i', hj, hi', hn⟩ => hB2.seen v (by
                    rcases Nat.lt_or_ge j k with hjk | hjk
                    · exact .inl ⟨j, i', hjk, hi', hn⟩
                    · have : j = k := by omega
                      subst this
                      have := HI.out
                      rw [hi'] at this
                      injection this with this
                      subst this
                      exact .inr (hn.symm.trans hnx)) }, l5, by rw [List.length_append, List.length_singleton]; omega⟩
                  case measure => simp [intOf]; omega
                · obtain ⟨du, hdu⟩ : ∃ du, far' u = du := ⟨_, rfl⟩
                  have hdl := hB.ok.lt hG hs u
                  rw [hdu] at hdl hf
                  have HX := Lib.hid hdu
                  have hB2 := hB.known (u := u) (by rw [hdu]; omega)
                  have t1 : (du == -1) = false := by simp [hf]
                  clear hdu hadj hB hf
                  go_wp2_with (first
                    | (go_at_call 37; (with_reducible refine (other_is ⟨la, lb, lco⟩ (x : Int) (u : Int) HU _).mono ?_); rintro e w2 ⟨rfl, hb2⟩; have hst2 := hst.up hb2; have q2 := hq.up hb2; have l2 := hLs.up hb2; have d5 := hst2.cell (u := u) (by omega); rw [HX.out] at d5))
                  go_roundw
                  case rel => exact ⟨k + 1, b', off', n', cap', q', far', by omega, by go_num, rfl, q2, hst2, { hB2 with seen := fun v ⟨j, i', hj, hi', hn⟩ => hB2.seen v (by
                    rcases Nat.lt_or_ge j k with hjk | hjk
                    · exact .inl ⟨j, i', hjk, hi', hn⟩
                    · have : j = k := by omega
                      subst this
                      have := HI.out
                      rw [hi'] at this
                      injection this with this
                      subst this
                      exact .inr (hn.symm.trans hnx)) }, l2, hle⟩
                  case measure => simp [intOf]; omega
              · have hkm : k = m := by omega
                have hge : ¬ (k : Int) < (m : Int) := by omega
                have hB2 := hB.finish fun u hu => by
                  obtain ⟨i, hi, e⟩ := (adj_next hgp).1 hu
                  rw [HL.out] at hi
                  obtain ⟨j, hj, hj2⟩ := List.getElem_of_mem hi
                  have := HM.out
                  exact ⟨j, i, by omega, by rw [List.getElem?_eq_getElem hj, hj2], e⟩
                clear hkm
                go_wp2
                go_roundg (gk - 1)
                case rel => exact ⟨_, _, _, _, _, _, rfl, hq, hst, hB2, by omega⟩
                case measure => omega
end Go.Proofs.Ytlfdpfkimggeoaa
