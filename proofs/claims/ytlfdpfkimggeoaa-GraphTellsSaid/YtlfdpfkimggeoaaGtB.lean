/-
  The document's answer for layer 5: Hops.
-/
import Derived.Deep.OwnRows
import Derived.Test.YtlfdpfkimggeoaaGtA
import Derived.Test.YtlfdpfkimggeoaaApp
namespace Go.Proofs.Ytlfdpfkimggeoaa
open Go.RowKit
set_option linter.unusedVariables false
set_option linter.unusedSimpArgs false

theorem boolInfo : (Try.prog.info? 4).map (fun i => (i.zero, i.size, i.bytes)) = some (some (.bool false), 1, 1) := by kernel_rfl
/-- What a round's links add. -/
def nxB (p : PPlan) (f : Int) (I : Nat → Bool) : Nat → Nat → Bool
  | 0, v => I v
  | k + 1, v => nxB p f I k v || (match p.links[k]? with
    | some l => !hasB f (k : Int) && ((I l.a.toNat || I l.b.toNat) && (decide (v = l.a.toNat) || decide (v = l.b.toNat)))
    | none => false)
theorem nx_iff {p : PPlan} {f : Int} {I : Nat → Bool} : ∀ (k v : Nat), nxB p f I k v = true ↔ I v = true ∨ ∃ (i : Nat) (l : PLink), i < k ∧ p.links[i]? = some l ∧ hasB f (i : Int) = false ∧ (I l.a.toNat = true ∨ I l.b.toNat = true) ∧ (v = l.a.toNat ∨ v = l.b.toNat)
  | 0, v => by
    unfold nxB
    exact ⟨.inl, fun h => h.elim id fun ⟨i, l, hi, _⟩ => absurd hi (by omega)⟩
  | k + 1, v => by
    unfold nxB
    rw [Bool.or_eq_true, nx_iff k v]
    constructor
    · rintro ((h | ⟨i, l, hi, h⟩) | h)
      · exact .inl h
      · exact .inr ⟨i, l, by omega, h⟩
      · cases hl : p.links[k]? with
        | none => rw [hl] at h; cases h
        | some l =>
          rw [hl] at h
          simp only [Bool.and_eq_true, Bool.or_eq_true, Bool.not_eq_true', decide_eq_true_eq] at h
          exact .inr ⟨k, l, by omega, hl, h.1, h.2.1, h.2.2⟩
    · rintro (h | ⟨i, l, hi, hl, h1, h2, h3⟩)
      · exact .inl (.inl h)
      · by_cases e : i = k
        · subst e
          refine .inr ?_
          rw [hl]
          simp only [Bool.and_eq_true, Bool.or_eq_true, Bool.not_eq_true', decide_eq_true_eq]
          exact ⟨h1, h2, h3⟩
        · exact .inl (.inr ⟨i, l, by omega, hl, h1, h2, h3⟩)
theorem nx_at {p : PPlan} {f : Int} {I : Nat → Bool} {k : Nat} {a b : Nat} {c : Int} (hl : p.links[k]? = some ⟨(a : Int), (b : Int), c⟩) (v : Nat) : nxB p f I (k + 1) v = (nxB p f I k v || (!hasB f (k : Int) && ((I a || I b) && (decide (v = a) || decide (v = b))))) := by
  show (nxB p f I k v || _) = _
  rw [hl]
  rfl
/-- A whole round: a step more. -/
theorem nx_all {p : PPlan} (hg : GPlan p) (f : Int) (s n v : Nat) : nxB p f (ballB (adjB p f) p.nodes.length s n) p.links.length v = ballB (adjB p f) p.nodes.length s (n + 1) v := by
  have hk := gok hg f
  rw [Bool.eq_iff_iff, nx_iff]
  constructor
  · rintro (h | ⟨i, l, hi, hl, h1, h2, h3⟩)
    · exact ball_mono (by omega) h
    · obtain ⟨a, b, ea, eb, hab, hbn⟩ := hg.link i l hl
      rw [ea, eb, Int.toNat_natCast, Int.toNat_natCast] at h2 h3
      have ab : adjB p f a b = true := adj_links.2 ⟨i, l, hl, h1, .inl ⟨ea, eb⟩⟩
      have ba := hk.sym _ _ ab
      rcases h2 with h2 | h2 <;> rcases h3 with rfl | rfl
      · exact ball_mono (by omega) h2
      · exact ball_step hk h2 ab
      · exact ball_step hk h2 ba
      · exact ball_mono (by omega) h2
  · intro h
    rcases ball_succ.1 h with h | ⟨u, hu, hb, ha⟩
    · exact .inl h
    · obtain ⟨i, l, hl, h1, h2⟩ := adj_links.1 ha
      refine .inr ⟨i, l, (List.getElem?_eq_some_iff.1 hl).1, hl, h1, ?_⟩
      rcases h2 with ⟨e1, e2⟩ | ⟨e1, e2⟩
      · rw [e1, e2, Int.toNat_natCast, Int.toNat_natCast]; exact ⟨.inl hb, .inr rfl⟩
      · rw [e1, e2, Int.toNat_natCast, Int.toNat_natCast]; exact ⟨.inr hb, .inl rfl⟩
def updT (F : Nat → Bool) (k : Nat) : Nat → Bool := fun v => F v || decide (v = k)
theorem nx_set {p : PPlan} {f : Int} {I : Nat → Bool} {k : Nat} {a b : Nat} {c : Int} (hl : p.links[k]? = some ⟨(a : Int), (b : Int), c⟩) (hf : hasB f (k : Int) = false) (hi : (I a || I b) = true) : updT (updT (nxB p f I k) a) b = nxB p f I (k + 1) := by
  funext v
  rw [nx_at hl, hf, hi]
  unfold updT
  simp [Bool.or_assoc]
theorem nx_keep {p : PPlan} {f : Int} {I : Nat → Bool} {k : Nat} {a b : Nat} {c : Int} (hl : p.links[k]? = some ⟨(a : Int), (b : Int), c⟩) (hi : (!hasB f (k : Int) && (I a || I b)) = false) : nxB p f I k = nxB p f I (k + 1) := by
  funext v
  rw [nx_at hl, ← Bool.and_assoc, hi]
  simp
/-- Bools in a block of the call's own. -/
def BA (w : World) (g n : Nat) (F : Nat → Bool) : Prop := ∃ cs : Array Value, Blk w g 4 cs ∧ n ≤ cs.size ∧ ∀ j, j < n → cs[j]? = some (.bool (F j))
section
variable {w w' : World} {g n : Nat} {F : Nat → Bool}
theorem BA.lt (h : BA w g n F) : g < w.heap.size := by obtain ⟨cs, h1, _⟩ := h; exact h1.lt
theorem BA.cell (h : BA w g n F) {j : Nat} (hj : j < n) : w.cell? ⟨g, j, none⟩ = some (.bool (F j)) := by
  obtain ⟨cs, h1, _, h3⟩ := h
  rw [h1.cell]; exact h3 j hj
theorem BA.frozen (h : BA w g n F) (j : Nat) : w.frozen? ⟨g, j, none⟩ = false := by obtain ⟨cs, h1, _⟩ := h; exact h1.frozen j
theorem BA.up (h : BA w g n F) (hb : Below w.heap.size w w') : BA w' g n F := by obtain ⟨cs, h1, h2⟩ := h; exact ⟨cs, h1.up hb, h2⟩
theorem BA.far (h : BA w g n F) {p : Addr} (hp : g ≠ p.block) (u : Value) : BA (w.setCell p u) g n F := by obtain ⟨cs, h1, h2⟩ := h; exact ⟨cs, h1.far hp u, h2⟩
theorem BA.set_ (h : BA w g n F) {j : Nat} (hj : j < n) : BA (w.setCell ⟨g, j, none⟩ (.bool true)) g n (updT F j) := by
  obtain ⟨cs, h1, h2, h3⟩ := h
  refine ⟨_, h1.set_ j (.bool true), by rw [Array.size_setIfInBounds]; exact h2, fun i hi => ?_⟩
  unfold updT
  by_cases e : i = j
  · subst e
    rw [Array.getElem?_setIfInBounds_self_of_lt (by omega), decide_eq_true rfl, Bool.or_true]
  · rw [Array.getElem?_setIfInBounds_ne (Ne.symm e), decide_eq_false e, Bool.or_false]; exact h3 i hi
theorem BA.of_own {B c : Nat} {A : Option Addr} (h : w.ownsRow B 4 1 (.slice A n c) n ((List.range n).map fun j => Value.bool (F j))) (hn : 0 < n) : ∃ g, A = some ⟨g, 0, none⟩ ∧ B ≤ g ∧ BA w g n F := by
  rcases h.2 with ⟨hv, hz⟩ | ⟨g, cap, cur, hv, hg, hb, hnc, hcm, hsz, hpre⟩
  · omega
  · injection hv with h1 h2 h3
    subst h1 h3
    refine ⟨g, rfl, hg, cur, hb, by omega, fun j hj => ?_⟩
    have := h.cells (g := g) rfl j (.bool (F j)) (by rw [List.getElem?_map, List.getElem?_range hj]; rfl)
    rw [Addr.add_lit, Nat.zero_add, cell_of_row _ _ _ _ _ _ hb] at this
    exact this
theorem BA.row (h : BA w g n F) : CellsAt w w.heap.size (some ⟨g, 0, none⟩) ((List.range n).map fun j => Value.bool (F j)) := fun _ => by
  refine ⟨_, rfl, h.lt, fun j u hu => ?_⟩
  rw [List.getElem?_map] at hu
  obtain ⟨x, hx, rfl⟩ := Option.map_eq_some_iff.1 hu
  obtain ⟨h1, h2⟩ := List.getElem?_eq_some_iff.1 hx
  rw [List.length_range] at h1
  rw [List.getElem_range] at h2
  subst h2
  rw [Addr.add_lit, Nat.zero_add]
  exact h.cell h1
theorem BA.made (w : World) (n : Nat) : BA (w.alloc (.cells (madeCells #[.bool false] n) 4)) w.heap.size n (fun _ => false) :=
  ⟨_, Blk.new _ _ _, by rw [size_madeCells]; exact Nat.le_refl _, fun j hj => by
    unfold madeCells
    rw [Array.getElem?_map, Array.getElem?_range, if_pos (by omega)]
    show some ((#[Value.bool false] : Array Value)[j % 1]!) = _
    rw [Nat.mod_one]
    rfl⟩
theorem BA.made2 (w : World) (n s : Nat) (hs : s < n) : BA (w.alloc (.cells ((madeCells #[.bool false] n).setIfInBounds s (.bool true)) 4)) w.heap.size n (updT (fun _ => false) s) := by
  obtain ⟨cs, h1, h2, h3⟩ := (BA.made w n).set_ hs
  refine ⟨_, Blk.new _ _ _, by rw [Array.size_setIfInBounds, size_madeCells]; exact Nat.le_refl _, ?_⟩
  have e := (Blk.new w 4 (madeCells #[.bool false] n)).set_ s (.bool true)
  have h4 := h1.symm.trans e
  injection h4 with h4
  injection h4 with h4
  rw [← h4]
  exact h3
end
/-- The network's box, the bools of a round. -/
structure H1 (w : World) (p : PPlan) (An : Option Addr) (cn : Nat) (Al : Option Addr) (cl : Nat) (Ad : Option Addr) (cd : Nat) (Ac : Option Addr) (cc : Nat) (gi : Nat) (I : Nat → Bool) (W : World) : Prop where
  box : PBox w.heap.size w w.heap.size p An p.nodes.length cn Al p.links.length cl Ad p.dests.length cd Ac p.checks.length cc W
  bi : BA W gi p.nodes.length I
  ni : w.heap.size ≤ gi
/-- .. and those of the next. -/
structure H2 (w : World) (p : PPlan) (An : Option Addr) (cn : Nat) (Al : Option Addr) (cl : Nat) (Ad : Option Addr) (cd : Nat) (Ac : Option Addr) (cc : Nat) (gi : Nat) (I : Nat → Bool) (gn : Nat) (X : Nat → Bool) (W : World) : Prop where
  a1 : H1 w p An cn Al cl Ad cd Ac cc gi I W
  bn : BA W gn p.nodes.length X
  nn : w.heap.size ≤ gn
  ne : gi ≠ gn
section
variable {w W W' : World} {p : PPlan} {An : Option Addr} {cn : Nat} {Al : Option Addr} {cl : Nat} {Ad : Option Addr} {cd : Nat} {Ac : Option Addr} {cc gi : Nat} {I : Nat → Bool} {gn : Nat} {X : Nat → Bool}
theorem H1.go (h : H1 w p An cn Al cl Ad cd Ac cc gi I W) (hb : Below W.heap.size W W') : H1 w p An cn Al cl Ad cd Ac cc gi I W' := ⟨h.box.go hb, h.bi.up hb, h.ni⟩
theorem H2.go (h : H2 w p An cn Al cl Ad cd Ac cc gi I gn X W) (hb : Below W.heap.size W W') : H2 w p An cn Al cl Ad cd Ac cc gi I gn X W' := ⟨h.a1.go hb, h.bn.up hb, h.nn, h.ne⟩
theorem BA.ne_box (h : BA W gn p.nodes.length X) (k : Blk W w.heap.size 29 #[.int .i64 p.proto, .int .i64 p.cap, .int .i64 p.k, .slice An p.nodes.length cn, .slice Al p.links.length cl, .slice Ad p.dests.length cd, .slice Ac p.checks.length cc]) : w.heap.size ≠ gn := by
  obtain ⟨cs, h1, _⟩ := h
  exact (k.ne_ h1 (by decide))
theorem PBox.set_ (h : PBox w.heap.size w w.heap.size p An p.nodes.length cn Al p.links.length cl Ad p.dests.length cd Ac p.checks.length cc W) (hA : PAt w p p.proto p.cap p.k An p.nodes.length Al p.links.length Ad p.dests.length Ac p.checks.length) (hn : BA W gn p.nodes.length X) (hg : w.heap.size ≤ gn) (j : Nat) (u : Value) : PBox w.heap.size w w.heap.size p An p.nodes.length cn Al p.links.length cl Ad p.dests.length cd Ac p.checks.length cc (W.setCell ⟨gn, j, none⟩ u) := by
  have hb : Below w.heap.size w (W.setCell ⟨gn, j, none⟩ u) := h.up.setCell (p := ⟨gn, j, none⟩) hg u
  exact ⟨hA.up hb, h.blk.far (p := ⟨gn, j, none⟩) (hn.ne_box h.blk) u, hb, hb.size⟩
theorem H2.set_ (h : H2 w p An cn Al cl Ad cd Ac cc gi I gn X W) (hA : PAt w p p.proto p.cap p.k An p.nodes.length Al p.links.length Ad p.dests.length Ac p.checks.length) {j : Nat} (hj : j < p.nodes.length) : H2 w p An cn Al cl Ad cd Ac cc gi I gn (updT X j) (W.setCell ⟨gn, j, none⟩ (.bool true)) :=
  ⟨⟨h.a1.box.set_ hA h.bn h.nn j _, h.a1.bi.far (p := ⟨gn, j, none⟩) h.ne _, h.a1.ni⟩, h.bn.set_ hj, h.nn, h.ne⟩
theorem H1.set_ (h : H1 w p An cn Al cl Ad cd Ac cc gi I W) (hA : PAt w p p.proto p.cap p.k An p.nodes.length Al p.links.length Ad p.dests.length Ac p.checks.length) {j : Nat} (hj : j < p.nodes.length) : H1 w p An cn Al cl Ad cd Ac cc gi (updT I j) (W.setCell ⟨gi, j, none⟩ (.bool true)) :=
  ⟨h.box.set_ hA h.bi h.ni j _, h.bi.set_ hj, h.ni⟩
theorem H1.copied {A' : Option Addr} {c' : Nat} (h : H1 w p An cn Al cl Ad cd Ac cc gi I W) (hA : PAt w p p.proto p.cap p.k An p.nodes.length Al p.links.length Ad p.dests.length Ac p.checks.length) (hn : 0 < p.nodes.length) (ho : W'.ownsRow W.heap.size 4 1 (.slice A' p.nodes.length c') p.nodes.length ((List.range p.nodes.length).map fun j => Value.bool (I j))) (hg : W.grownBy W' none) : ∃ gn, A' = some ⟨gn, 0, none⟩ ∧ H2 w p An cn Al cl Ad cd Ac cc gi I gn I W' := by
  obtain ⟨gn, rfl, h1, h2⟩ := BA.of_own ho hn
  have hb : Below W.heap.size W W' := (Below.refl _ _).grown hg (Nat.le_refl _) (fun g e => by cases e)
  exact ⟨gn, rfl, h.go hb, h2, Nat.le_trans h.box.size h1, by have := h.bi.lt; omega⟩
theorem H2.turn (h : H2 w p An cn Al cl Ad cd Ac cc gi I gn X W) : H1 w p An cn Al cl Ad cd Ac cc gn X W := ⟨h.a1.box, h.bn, h.nn⟩
end
/-- How far, of a network that may be or may not. -/
def hopsG (p : PPlan) (f a b : Int) : Int := if rightB p = true then hopsB p f a b else -1
set_option maxHeartbeats 16000000 in
set_option maxRecDepth 100000 in
theorem refHops_w {p : PPlan} (f a b : Int) (v : Int) (HV : Hid (hopsG p f a b = v)) {An Al Ad Ac : Option Addr} {cn cl cd cc : Nat} {w : World} (h : PAt w p p.proto p.cap p.k An p.nodes.length Al p.links.length Ad p.dests.length Ac p.checks.length) (hs : PSmall p) :
    Calls Try.prog 18 #[.agg #[.int .i64 p.proto, .int .i64 p.cap, .int .i64 p.k, .slice An p.nodes.length cn, .slice Al p.links.length cl, .slice Ad p.dests.length cd, .slice Ac p.checks.length cc], .int .i64 f, .int .i64 a, .int .i64 b] w fun e w' => e = .returned (.int .i64 v) ∧ Below w.heap.size w w' := by
  have hv := HV.out
  unfold hopsG at hv
  have E0 := PBox.ofG (cn := cn) (cl := cl) (cd := cd) (cc := cc) h
  obtain ⟨a0, a1, a2, a3, a4, a5, a6⟩ := E0.cells
  have hln := hs.ln
  have hll := hs.ll
  have HA := Lib.hid h
  clear h
  cases hR : rightB p
  · have HR := Lib.hid hR
    have HE : Hid (-1 = v) := Lib.hid (by rw [← hv, hR]; rfl)
    clear hv hR
    go_enter Try.func18, Try.ntmps18
    go_wp2_with (first | (go_at_call 35; (with_reducible refine (RefRight_is false HR hs E0.at_).mono ?_); rintro e y1 ⟨rfl, hy1⟩; have E1 := E0.go hy1; obtain ⟨a0, a1, a2, a3, a4, a5, a6⟩ := E1.cells))
    go_ret
    exact ⟨ret_int HE.out, E1.up⟩
  · have HR := Lib.hid hR
    rw [hR, if_pos rfl] at hv
    unfold hopsB isNodeB at hv
    have hgp := gplan_right hR
    clear hR
    by_cases q1 : a < 0
    · have HE : Hid (-1 = v) := Lib.hid (by rw [← hv, if_neg (by simp; omega)])
      clear hv
      go_enter Try.func18, Try.ntmps18
      go_wp2_with (first | (go_at_call 35; (with_reducible refine (RefRight_is true HR hs E0.at_).mono ?_); rintro e y1 ⟨rfl, hy1⟩; have E1 := E0.go hy1; obtain ⟨a0, a1, a2, a3, a4, a5, a6⟩ := E1.cells))
      go_ret
      exact ⟨ret_int HE.out, E1.up⟩
    · by_cases q2 : (p.nodes.length : Int) ≤ a
      · have HE : Hid (-1 = v) := Lib.hid (by rw [← hv, if_neg (by simp; omega)])
        clear hv
        go_enter Try.func18, Try.ntmps18
        go_wp2_with (first | (go_at_call 35; (with_reducible refine (RefRight_is true HR hs E0.at_).mono ?_); rintro e y1 ⟨rfl, hy1⟩; have E1 := E0.go hy1; obtain ⟨a0, a1, a2, a3, a4, a5, a6⟩ := E1.cells))
        go_ret
        exact ⟨ret_int HE.out, E1.up⟩
      · by_cases q3 : b < 0
        · have HE : Hid (-1 = v) := Lib.hid (by rw [← hv, if_neg (by simp; omega)])
          clear hv
          go_enter Try.func18, Try.ntmps18
          go_wp2_with (first | (go_at_call 35; (with_reducible refine (RefRight_is true HR hs E0.at_).mono ?_); rintro e y1 ⟨rfl, hy1⟩; have E1 := E0.go hy1; obtain ⟨a0, a1, a2, a3, a4, a5, a6⟩ := E1.cells))
          go_ret
          exact ⟨ret_int HE.out, E1.up⟩
        · by_cases q4 : (p.nodes.length : Int) ≤ b
          · have HE : Hid (-1 = v) := Lib.hid (by rw [← hv, if_neg (by simp; omega)])
            clear hv
            go_enter Try.func18, Try.ntmps18
            go_wp2_with (first | (go_at_call 35; (with_reducible refine (RefRight_is true HR hs E0.at_).mono ?_); rintro e y1 ⟨rfl, hy1⟩; have E1 := E0.go hy1; obtain ⟨a0, a1, a2, a3, a4, a5, a6⟩ := E1.cells))
            go_ret
            exact ⟨ret_int HE.out, E1.up⟩
          · obtain ⟨s, rfl⟩ := Int.eq_ofNat_of_zero_le (Int.not_lt.1 q1)
            obtain ⟨t, rfl⟩ := Int.eq_ofNat_of_zero_le (Int.not_lt.1 q3)
            have hsn : s < p.nodes.length := by omega
            have htn : t < p.nodes.length := by omega
            have hv : distB (adjB p f) p.nodes.length s t = v := by rw [← hv, if_pos (by simp; omega), Int.toNat_natCast, Int.toNat_natCast]
            have HD := Lib.hid hv
            have HG := Lib.hid hgp
            have hn12 := hgp.n12
            have hl16 := hgp.l16
            clear hv hgp q1 q2 q3 q4
            have n0 : (0 : Int) ≤ (s : Int) := by omega
            have n1 : (s : Int) < (p.nodes.length : Int) := by omega
            have n2 : (0 : Int) ≤ (t : Int) := by omega
            have n3 : (t : Int) < (p.nodes.length : Int) := by omega
            have d1 : decide ((s : Int) < 0) = false := decide_eq_false (by omega)
            have d2 : decide ((p.nodes.length : Int) ≤ (s : Int)) = false := decide_eq_false (by omega)
            have d3 : decide ((t : Int) < 0) = false := decide_eq_false (by omega)
            have d4 : decide ((p.nodes.length : Int) ≤ (t : Int)) = false := decide_eq_false (by omega)
            have d5 : decide (p.nodes.length ≤ s) = false := decide_eq_false (by omega)
            have d6 : decide (p.nodes.length ≤ t) = false := decide_eq_false (by omega)
            obtain ⟨i0, hi, hz0, hz1, hz2⟩ := info_parts boolInfo
            have hmk := fun W => run_make_row' (P := Try.prog) 75 4 (.bool false) 1 Try.underlying75 boolInfo rfl .i64 .i64 p.nodes.length (by omega) (by omega) W
            have hmd := fun W => BA.made W p.nodes.length
            go_enter Try.func18, Try.ntmps18
            go_wp2_with (first | (go_at_call 35; (with_reducible refine (RefRight_is true HR hs E0.at_).mono ?_); rintro e y1 ⟨rfl, hy1⟩; have E1 := E0.go hy1; obtain ⟨a0, a1, a2, a3, a4, a5, a6⟩ := E1.cells; have hm := hmd y1; have z0 := hm.cell hsn; have z1 := hm.frozen s))
            have S2 : H1 w p An cn Al cl Ad cd Ac cc y1.heap.size (updT (fun _ => false) s) (y1.alloc (.cells ((madeCells #[.bool false] p.nodes.length).setIfInBounds s (.bool true)) 4)) := ⟨E1.alloc _, BA.made2 _ _ _ hsn, E1.size⟩
            have hst : updT (fun _ => false) s = ballB (adjB p f) p.nodes.length s 0 := by funext v; unfold updT ballB; rw [Bool.eq_iff_iff]; simp
            rw [hst] at S2
            obtain ⟨gi, hgi⟩ : ∃ g, y1.heap.size = g := ⟨_, rfl⟩
            rw [hgi] at S2 ⊢
            clear hst hm hmd z0 z1 E1 hy1 hmk hgi a0 a1 a2 a3 a4 a5 a6 E0
            go_loopw [10, 11] (fun s10 s11 wr => ∃ (k g c : Nat), k ≤ p.nodes.length + 1 ∧ s11 = .int .i64 (k : Nat) ∧ s10 = .slice (some ⟨g, 0, none⟩) p.nodes.length c ∧ (∀ j, j < k → ballB (adjB p f) p.nodes.length s j t = false) ∧ H1 w p An cn Al cl Ad cd Ac cc g (ballB (adjB p f) p.nodes.length s k) wr) (fun _ s11 _ => p.nodes.length + 1 - (intOf s11).toNat)
            case atStart => exact ⟨0, gi, _, by omega, rfl, rfl, fun j hj => by omega, S2⟩
            case round =>
              clear S2
              obtain ⟨k, gi, ci, hk, rfl, rfl, hnot, S⟩ := hrel
              have HN := Lib.hid hnot
              clear hnot
              obtain ⟨a0, a1, a2, a3, a4, a5, a6⟩ := S.box.cells
              by_cases hle : k ≤ p.nodes.length
              · have ct := S.bi.cell htn
                obtain ⟨bt, hbt⟩ : ∃ x, ballB (adjB p f) p.nodes.length s k t = x := ⟨_, rfl⟩
                rw [hbt] at ct
                have hle2 : (k : Int) ≤ (p.nodes.length : Int) := by omega
                cases bt with
                | true =>
                  have HE : Hid ((k : Int) = v) := Lib.hid (by
                    rw [← HD.out]
                    obtain ⟨j, hj, hjk, _⟩ := dist_ball (gok HG.out f) hsn hbt
                    have hb2 := dist_to (gok HG.out f) hsn (v := t) (by rw [hj]; omega)
                    rw [hj, Int.toNat_natCast] at hb2
                    rw [hj]
                    by_cases e : j = k
                    · rw [e]
                    · rw [HN.out j (by omega)] at hb2; cases hb2)
                  clear hbt
                  go_wp2
                  go_ret
                  exact ⟨ret_int HE.out, S.box.up⟩
                | false =>
                  have HNX : Hid (∀ j, j < k + 1 → ballB (adjB p f) p.nodes.length s j t = false) := Lib.hid (fun j hj => by
                    by_cases e : j = k
                    · rw [e]; exact hbt
                    · exact HN.out j (by omega))
                  obtain ⟨I, hI⟩ : ∃ I, ballB (adjB p f) p.nodes.length s k = I := ⟨_, rfl⟩
                  have HI := Lib.hid hI
                  rw [hI] at S
                  have hrow := S.bi.row
                  have hrl : ((List.range p.nodes.length).map fun j => Value.bool (I j)).length = p.nodes.length * 1 := by simp
                  have hone : ∀ u ∈ (List.range p.nodes.length).map fun j => Value.bool (I j), u.oneCell' = true := by intro u hu; obtain ⟨x, _, rfl⟩ := List.mem_map.1 hu; rfl
                  have hn1 := HG.out.n1
                  have HX : Hid (∀ v, nxB p f I p.links.length v = ballB (adjB p f) p.nodes.length s (k + 1) v) := Lib.hid (fun v => by rw [← hI]; exact nx_all HG.out f s k v)
                  clear hI hbt
                  go_wp2_with (first
                    | (at_builtin; refine wpList_append_cells _ rfl _ _ 75 rfl wr.heap.size 4 i0 (.bool false) 1 1 Try.underlying75 hi hz0 hz1 hz2 rfl (by decide) (.slice none 0 0) 0 [] rfl (World.ownsRow_nil _ _ _ _) wr.heap.size (some ⟨gi, 0, none⟩) p.nodes.length ci _ rfl hrl hrow hone (by omega) (by omega) (Nat.le_refl _) ?_; intro v' w6 hown6 hgrow6))
                  rw [List.nil_append, Nat.zero_add] at hown6
                  obtain ⟨A6, c6, rfl, _⟩ := own_form hown6
                  obtain ⟨gn, rfl, K0⟩ := S.copied HA.out hn1 hown6 hgrow6
                  clear hown6 hgrow6 hrow hrl hone S a0 a1 a2 a3 a4 a5 a6 ct
                  go_loopw [13] (fun s13 wr => ∃ i : Nat, i ≤ p.links.length ∧ s13 = .int .i64 (i : Nat) ∧ H2 w p An cn Al cl Ad cd Ac cc gi I gn (nxB p f I i) wr) (fun s13 _ => p.links.length - (intOf s13).toNat)
                  case atStart => exact ⟨0, Nat.zero_le _, rfl, K0⟩
                  case round =>
                    clear K0
                    obtain ⟨i, hil, rfl, K⟩ := hrel
                    obtain ⟨a0, a1, a2, a3, a4, a5, a6⟩ := K.a1.box.cells
                    by_cases hlt : i < p.links.length
                    · obtain ⟨⟨la, lb, lc⟩, hl⟩ : ∃ l, p.links[i]? = some l := ⟨_, List.getElem?_eq_getElem hlt⟩
                      obtain ⟨a, b, ea, eb, hab, hbn⟩ := HG.out.link i _ hl
                      dsimp only at ea eb
                      subst ea eb
                      have han : a < p.nodes.length := by omega
                      obtain ⟨gL, hgL, -, -, -, -⟩ := K.a1.box.at_.links.link hl
                      subst hgL
                      obtain ⟨l0, l1, l2⟩ := RowAt.linkG K.a1.box.at_.links hl
                      dsimp only at l0 l1 l2
                      obtain ⟨fb, hfb⟩ : ∃ x, hasB f (i : Int) = x := ⟨_, rfl⟩
                      have HU : Hid (upB p f (i : Int) = !fb) := Lib.hid (by rw [up_at hl, hfb])
                      have m0 : (0 : Int) ≤ (i : Int) := by omega
                      have m1 : (i : Int) < (p.links.length : Int) := by omega
                      have m2 : (0 : Int) ≤ (a : Int) := by omega
                      have m3 : (a : Int) < (p.nodes.length : Int) := by omega
                      have m4 : (0 : Int) ≤ (b : Int) := by omega
                      have m5 : (b : Int) < (p.nodes.length : Int) := by omega
                      have hbx := below_new wr (.cells #[.int .i64 (a : Int), .int .i64 (b : Int), .int .i64 lc] 53)
                      have KL := Blk.new wr 53 #[.int .i64 (a : Int), .int .i64 (b : Int), .int .i64 lc]
                      have K1 := K.go hbx
                      obtain ⟨ia, hia⟩ : ∃ x, I a = x := ⟨_, rfl⟩
                      obtain ⟨ib, hib⟩ : ∃ x, I b = x := ⟨_, rfl⟩
                      have HL := Lib.hid hl
                      have HF := Lib.hid hfb
                      have HIA := Lib.hid hia
                      have HIB := Lib.hid hib
                      clear hl hfb
                      obtain ⟨a0, a1, a2, a3, a4, a5, a6⟩ := K1.a1.box.cells
                      have hne : ∀ y : World, Below (wr.alloc (.cells #[.int .i64 (a : Int), .int .i64 (b : Int), .int .i64 lc] 53)).heap.size (wr.alloc (.cells #[.int .i64 (a : Int), .int .i64 (b : Int), .int .i64 lc] 53)) y → wr.heap.size ≠ gn := fun y _ => by have := K.bn.lt; omega
                      cases fb
                      · cases ia
                        · cases ib
                          · have HK := Lib.hid (nx_keep (p := p) (f := f) (I := I) HL.out (by rw [HF.out, HIA.out, HIB.out]; rfl))
                            go_wp2_with (first | (go_at_call 36; (with_reducible refine (refUp_w f (i : Int) true HU K1.a1.box.at_ hs).mono ?_); rintro e y2 ⟨rfl, hy2⟩; have K2 := K1.go hy2; have KL2 := KL.up hy2; obtain ⟨a0, a1, a2, a3, a4, a5, a6⟩ := K2.a1.box.cells; have x0 := KL2.cell 0; have x1 := KL2.cell 1; have ca := K2.a1.bi.cell han; have cb := K2.a1.bi.cell hbn; rw [hia] at ca; rw [hib] at cb))
                            go_roundw
                            case rel => exact ⟨i + 1, by omega, by go_num, by rw [← HK.out]; exact K2⟩
                            case measure => simp [intOf]; omega
                          · have HK := Lib.hid (nx_set (p := p) (f := f) (I := I) HL.out HF.out (by rw [HIA.out, HIB.out]; rfl))
                            go_wp2_with (first | (go_at_call 36; (with_reducible refine (refUp_w f (i : Int) true HU K1.a1.box.at_ hs).mono ?_); rintro e y2 ⟨rfl, hy2⟩; have K2 := K1.go hy2; have KL2 := KL.up hy2; obtain ⟨a0, a1, a2, a3, a4, a5, a6⟩ := K2.a1.box.cells; have x0 := KL2.cell 0; have x1 := KL2.cell 1; have ca := K2.a1.bi.cell han; have cb := K2.a1.bi.cell hbn; rw [hia] at ca; rw [hib] at cb; have na := K2.bn.cell han; have fa := K2.bn.frozen a; have K3 := K2.set_ HA.out han; have nb := K3.bn.cell hbn; have fb := K3.bn.frozen b; have KL3 := KL2.far (p := ⟨gn, a, none⟩) (hne y2 hy2) (.bool true); have v1 := KL3.cell 1; have K4 := K3.set_ HA.out hbn))
                            go_roundw
                            case rel => exact ⟨i + 1, by omega, by go_num, by rw [← HK.out]; exact K4⟩
                            case measure => simp [intOf]; omega
                        · cases ib
                          · have HK := Lib.hid (nx_set (p := p) (f := f) (I := I) HL.out HF.out (by rw [HIA.out, HIB.out]; rfl))
                            go_wp2_with (first | (go_at_call 36; (with_reducible refine (refUp_w f (i : Int) true HU K1.a1.box.at_ hs).mono ?_); rintro e y2 ⟨rfl, hy2⟩; have K2 := K1.go hy2; have KL2 := KL.up hy2; obtain ⟨a0, a1, a2, a3, a4, a5, a6⟩ := K2.a1.box.cells; have x0 := KL2.cell 0; have x1 := KL2.cell 1; have ca := K2.a1.bi.cell han; have cb := K2.a1.bi.cell hbn; rw [hia] at ca; rw [hib] at cb; have na := K2.bn.cell han; have fa := K2.bn.frozen a; have K3 := K2.set_ HA.out han; have nb := K3.bn.cell hbn; have fb := K3.bn.frozen b; have KL3 := KL2.far (p := ⟨gn, a, none⟩) (hne y2 hy2) (.bool true); have v1 := KL3.cell 1; have K4 := K3.set_ HA.out hbn))
                            go_roundw
                            case rel => exact ⟨i + 1, by omega, by go_num, by rw [← HK.out]; exact K4⟩
                            case measure => simp [intOf]; omega
                          · have HK := Lib.hid (nx_set (p := p) (f := f) (I := I) HL.out HF.out (by rw [HIA.out, HIB.out]; rfl))
                            go_wp2_with (first | (go_at_call 36; (with_reducible refine (refUp_w f (i : Int) true HU K1.a1.box.at_ hs).mono ?_); rintro e y2 ⟨rfl, hy2⟩; have K2 := K1.go hy2; have KL2 := KL.up hy2; obtain ⟨a0, a1, a2, a3, a4, a5, a6⟩ := K2.a1.box.cells; have x0 := KL2.cell 0; have x1 := KL2.cell 1; have ca := K2.a1.bi.cell han; have cb := K2.a1.bi.cell hbn; rw [hia] at ca; rw [hib] at cb; have na := K2.bn.cell han; have fa := K2.bn.frozen a; have K3 := K2.set_ HA.out han; have nb := K3.bn.cell hbn; have fb := K3.bn.frozen b; have KL3 := KL2.far (p := ⟨gn, a, none⟩) (hne y2 hy2) (.bool true); have v1 := KL3.cell 1; have K4 := K3.set_ HA.out hbn))
                            go_roundw
                            case rel => exact ⟨i + 1, by omega, by go_num, by rw [← HK.out]; exact K4⟩
                            case measure => simp [intOf]; omega
                      · have HK := Lib.hid (nx_keep (p := p) (f := f) (I := I) HL.out (by rw [HF.out]; rfl))
                        go_wp2_with (first | (go_at_call 36; (with_reducible refine (refUp_w f (i : Int) false HU K1.a1.box.at_ hs).mono ?_); rintro e y2 ⟨rfl, hy2⟩; have K2 := K1.go hy2; have KL2 := KL.up hy2; obtain ⟨a0, a1, a2, a3, a4, a5, a6⟩ := K2.a1.box.cells; have x0 := KL2.cell 0; have x1 := KL2.cell 1))
                        go_roundw
                        case rel => exact ⟨i + 1, by omega, by go_num, by rw [← HK.out]; exact K2⟩
                        case measure => simp [intOf]; omega
                    · obtain rfl : i = p.links.length := by omega
                      go_wp2_with (fail)
                      go_roundw
                      case rel => exact ⟨k + 1, gn, c6, by omega, by go_num, rfl, HNX.out, by have e : nxB p f I p.links.length = ballB (adjB p f) p.nodes.length s (k + 1) := funext HX.out; rw [← e]; exact K.turn⟩
                      case measure => simp [intOf]; omega
              · have HE : Hid (-1 = v) := Lib.hid (by
                  rw [← HD.out]
                  exact (dist_none (gok HG.out f) hsn fun j hj => HN.out j (by omega)).symm)
                have hge : ¬ (k : Int) ≤ (p.nodes.length : Int) := by omega
                go_wp2
                go_ret
                exact ⟨ret_int HE.out, S.box.up⟩
end Go.Proofs.Ytlfdpfkimggeoaa
