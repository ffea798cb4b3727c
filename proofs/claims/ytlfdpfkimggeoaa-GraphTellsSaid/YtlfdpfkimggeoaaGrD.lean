/-
  Package graph: Around, Other, Hops, Reach.
-/
import Derived.Test.YtlfdpfkimggeoaaGrC
namespace Go.Proofs.Ytlfdpfkimggeoaa
open Go.RowKit
set_option linter.unusedVariables false

/-- By how many links at least one comes from a node to another one. -/
def hopsB (p : PPlan) (f a b : Int) : Int := if isNodeB p.nodes.length a && isNodeB p.nodes.length b then distB (adjB p f) p.nodes.length a.toNat b.toNat else -1
/-- The nodes that one comes to. -/
def reachK (p : PPlan) (f : Int) (a k : Nat) : List Nat := (List.range k).filter fun v => !decide (distB (adjB p f) p.nodes.length a v = -1)
def reachB (p : PPlan) (f a : Int) : List Nat := if isNodeB p.nodes.length a then reachK p f a.toNat p.nodes.length else []
theorem reachK_yes {p : PPlan} {f : Int} {a k : Nat} (h : distB (adjB p f) p.nodes.length a k ≠ -1) : reachK p f a (k + 1) = reachK p f a k ++ [k] := by
  simp [reachK, List.range_succ, List.filter_append, h]
theorem reachK_no {p : PPlan} {f : Int} {a k : Nat} (h : distB (adjB p f) p.nodes.length a k = -1) : reachK p f a (k + 1) = reachK p f a k := by
  simp [reachK, List.range_succ, List.filter_append, h]
theorem reachK_len (p : PPlan) (f : Int) (a k : Nat) : (reachK p f a k).length ≤ k := by
  have := List.length_filter_le (fun v => !decide (distB (adjB p f) p.nodes.length a v = -1)) (List.range k)
  simpa [reachK] using this
theorem dist_out {p : PPlan} (hg : GPlan p) (f : Int) {a v : Nat} (ha : a < p.nodes.length) (hv : p.nodes.length ≤ v) : distB (adjB p f) p.nodes.length a v = -1 := by
  rcases dist_cases (adjB p f) p.nodes.length a v with ⟨k, _, _, h, _⟩ | ⟨h, _⟩
  · have := ball_lt (gok hg f) ha k h; omega
  · exact h
theorem reachK_more {p : PPlan} (hg : GPlan p) (f : Int) {a : Nat} (ha : a < p.nodes.length) : ∀ j, reachK p f a (p.nodes.length + j) = reachK p f a p.nodes.length
  | 0 => rfl
  | j + 1 => by rw [← Nat.add_assoc, reachK_no (dist_out hg f ha (by omega)), reachK_more hg f ha j]
theorem reachK_12 {p : PPlan} (hg : GPlan p) (f : Int) {a : Nat} (ha : a < p.nodes.length) : reachK p f a 12 = reachK p f a p.nodes.length := by
  have := reachK_more hg f ha (12 - p.nodes.length)
  have h12 := hg.n12
  rwa [show p.nodes.length + (12 - p.nodes.length) = 12 by omega] at this

/-- An array of distances, at a place. -/
theorem index_far (F : Nat → Int) : ∀ (v : Nat), v < 12 → ∀ W : World, (Instr.index 73 (.agg (farC F)) (.int .i64 (v : Nat))).run Try.prog W = .ok (.int .i64 (F v)) W
  | 0, _, _ => by kernel_rfl
  | 1, _, _ => by kernel_rfl
  | 2, _, _ => by kernel_rfl
  | 3, _, _ => by kernel_rfl
  | 4, _, _ => by kernel_rfl
  | 5, _, _ => by kernel_rfl
  | 6, _, _ => by kernel_rfl
  | 7, _, _ => by kernel_rfl
  | 8, _, _ => by kernel_rfl
  | 9, _, _ => by kernel_rfl
  | 10, _, _ => by kernel_rfl
  | 11, _, _ => by kernel_rfl

section
variable {p : PPlan} {pr ca kk : Int} {An Al Ad Ac : Option Addr} {ln cn ll cl ld cd lc cc : Nat} {w : World}
theorem dist_is (f : Int) (s : Nat) (F : Array Value) (HF : Hid (farC (distB (adjB p f) ln s) = F)) (h : PAt w p pr ca kk An ln Al ll Ad ld Ac lc) (hgp : GPlan p) (hs : s < ln) :
    Calls Try.prog 39 #[.agg #[.int .i64 pr, .int .i64 ca, .int .i64 kk, .slice An ln cn, .slice Al ll cl, .slice Ad ld cd, .slice Ac lc cc], .int .i64 f, .int .i64 (s : Nat)] w fun e w' => e = .returned (.agg F) ∧ Below w.heap.size w w' :=
  (dist_any p f s h hgp hs).mono fun _ _ ⟨he, hw⟩ => ⟨by rw [he, HF.out], hw⟩
theorem around_is (f node : Int) (L : List Nat) (n : Nat) (HL : Hid (aroundB p f node = L)) (HN : Hid (L.length = n)) (h : PAt w p pr ca kk An ln Al ll Ad ld Ac lc) (hm : ll ≤ 4096) :
    Calls Try.prog 34 #[.agg #[.int .i64 pr, .int .i64 ca, .int .i64 kk, .slice An ln cn, .slice Al ll cl, .slice Ad ld cd, .slice Ac lc cc], .int .i64 f, .int .i64 node] w fun e w' => ∃ A c, e = .returned (.slice A n c) ∧ w'.ownsRow w.heap.size 3 1 (.slice A n c) n (intCells L) ∧ Below w.heap.size w w' :=
  (around_any p f node h.links (Lib.hid h.ll) hm).mono fun _ _ ⟨v, he, ho, hw⟩ => by
    rw [HL.out, HN.out] at ho
    obtain ⟨A, c, rfl, _⟩ := own_form ho
    exact ⟨A, c, he, ho, hw⟩

/-- The exported calls, of a network that may be. -/
theorem Around_ok (f node : Int) (L : List Nat) (n : Nat) (HL : Hid (aroundB p f node = L)) (HN : Hid (L.length = n)) (HR : Hid (rightB p = true)) (hs : PSmall p) (h : PAt w p pr ca kk An ln Al ll Ad ld Ac lc) :
    Calls Try.prog 11 #[.agg #[.int .i64 pr, .int .i64 ca, .int .i64 kk, .slice An ln cn, .slice Al ll cl, .slice Ad ld cd, .slice Ac lc cc], .int .i64 f, .int .i64 node] w fun e w' => ∃ A c, e = .returned (.slice A n c) ∧ w'.ownsRow w.heap.size 3 1 (.slice A n c) n (intCells L) ∧ Below w.heap.size w w' := by
  have hl16 := (gplan_right HR.out).l16
  rw [h.ll] at hl16
  have hbx := below_new w (.cells #[.int .i64 pr, .int .i64 ca, .int .i64 kk, .slice An ln cn, .slice Al ll cl, .slice Ad ld cd, .slice Ac lc cc] 29)
  have h0 := h.up hbx
  have k0 := Blk.new w 29 #[.int .i64 pr, .int .i64 ca, .int .i64 kk, .slice An ln cn, .slice Al ll cl, .slice Ad ld cd, .slice Ac lc cc]
  clear h
  go_enter Try.func11, Try.ntmps11
  go_wp2_with (first
    | (go_at_call 33; (with_reducible refine (Right_is true HR hs h0).mono ?_); rintro e w1 ⟨rfl, hb1⟩; have h1 := h0.up hb1; have k1 := k0.up hb1; obtain ⟨d0, d1, d2, d3, d4, d5, d6⟩ := box7 k1)
    | (go_at_call 34; (with_reducible refine (around_is f node L n HL HN h1 (by omega)).mono ?_); rintro e w2 ⟨A, c, rfl, ho, hb2⟩))
  go_ret
  exact ⟨A, c, rfl, ownsRow_lower ho (Nat.le_trans hbx.size hb1.size), hbx.trans ((hb1.mono hbx.size).trans (hb2.mono (Nat.le_trans hbx.size hb1.size)))⟩
theorem Hops_ok (f a b v : Int) (HV : Hid (hopsB p f a b = v)) (HR : Hid (rightB p = true)) (hs : PSmall p) (h : PAt w p pr ca kk An ln Al ll Ad ld Ac lc) :
    Calls Try.prog 17 #[.agg #[.int .i64 pr, .int .i64 ca, .int .i64 kk, .slice An ln cn, .slice Al ll cl, .slice Ad ld cd, .slice Ac lc cc], .int .i64 f, .int .i64 a, .int .i64 b] w fun e w' => e = .returned (.int .i64 v) ∧ Below w.heap.size w w' := by
  have hgp := gplan_right HR.out
  have hn12 := hgp.n12
  have HV' := HV.out
  unfold hopsB at HV'
  rw [h.ln] at hn12 HV'
  have hbx := below_new w (.cells #[.int .i64 pr, .int .i64 ca, .int .i64 kk, .slice An ln cn, .slice Al ll cl, .slice Ad ld cd, .slice Ac lc cc] 29)
  have h0 := h.up hbx
  have k0 := Blk.new w 29 #[.int .i64 pr, .int .i64 ca, .int .i64 kk, .slice An ln cn, .slice Al ll cl, .slice Ad ld cd, .slice Ac lc cc]
  clear h
  obtain ⟨ba, hba⟩ : ∃ ba, isNodeB ln a = ba := ⟨_, rfl⟩
  obtain ⟨bb, hbb⟩ : ∃ bb, isNodeB ln b = bb := ⟨_, rfl⟩
  rw [hba, hbb] at HV'
  have HA := Lib.hid hba
  have HB := Lib.hid hbb
  cases ba
  · have HE : Hid ((-1 : Int) = v) := Lib.hid (by simpa using HV')
    clear HV' hba hbb
    go_enter Try.func17, Try.ntmps17
    go_wp2_with (first
      | (go_at_call 33; (with_reducible refine (Right_is true HR hs h0).mono ?_); rintro e w1 ⟨rfl, hb1⟩; have h1 := h0.up hb1; have k1 := k0.up hb1; obtain ⟨d0, d1, d2, d3, d4, d5, d6⟩ := box7 k1)
      | (go_at_call 38; (with_reducible refine (isNode_is false _ _ _ a _ _ _ _ _ _ _ _ _ _ _ _ HA _).mono ?_); rintro e w2 ⟨rfl, hb2⟩))
    go_ret
    exact ⟨ret_int HE.out, hbx.trans ((hb1.mono hbx.size).trans (hb2.mono (Nat.le_trans hbx.size hb1.size)))⟩
  · cases bb
    · have HE : Hid ((-1 : Int) = v) := Lib.hid (by simpa using HV')
      clear HV' hba hbb
      go_enter Try.func17, Try.ntmps17
      go_wp2_with (first
        | (go_at_call 33; (with_reducible refine (Right_is true HR hs h0).mono ?_); rintro e w1 ⟨rfl, hb1⟩; have h1 := h0.up hb1; have k1 := k0.up hb1; obtain ⟨d0, d1, d2, d3, d4, d5, d6⟩ := box7 k1)
        | (go_at_call 38; (with_reducible refine (isNode_is false _ _ _ b _ _ _ _ _ _ _ _ _ _ _ _ HB _).mono ?_); rintro e w3 ⟨rfl, hb3⟩)
        | (go_at_call 38; (with_reducible refine (isNode_is true _ _ _ a _ _ _ _ _ _ _ _ _ _ _ _ HA _).mono ?_); rintro e w2 ⟨rfl, hb2⟩; obtain ⟨g0, g1, g2, g3, g4, g5, g6⟩ := box7 (k1.up hb2)))
      go_ret
      exact ⟨ret_int HE.out, hbx.trans ((hb1.mono hbx.size).trans ((hb2.mono (Nat.le_trans hbx.size hb1.size)).trans (hb3.mono (Nat.le_trans (Nat.le_trans hbx.size hb1.size) hb2.size))))⟩
    · unfold isNodeB at hba hbb
      simp only [Bool.and_eq_true, decide_eq_true_eq] at hba hbb
      obtain ⟨sa, rfl⟩ := Int.eq_ofNat_of_zero_le hba.1
      obtain ⟨sb, rfl⟩ := Int.eq_ofNat_of_zero_le hbb.1
      have hsa : sa < ln := by omega
      have hsb : sb < 12 := by omega
      have hix := index_far (distB (adjB p f) ln sa) sb hsb
      obtain ⟨F, hF⟩ : ∃ F, farC (distB (adjB p f) ln sa) = F := ⟨_, rfl⟩
      have HE : Hid (distB (adjB p f) ln sa sb = v) := Lib.hid (by simpa using HV')
      rw [hF, HE.out] at hix
      have HF := Lib.hid hF
      clear HV' hba hbb hF
      go_enter Try.func17, Try.ntmps17
      go_wp2_with (first
        | (go_at_call 33; (with_reducible refine (Right_is true HR hs h0).mono ?_); rintro e w1 ⟨rfl, hb1⟩; have h1 := h0.up hb1; have k1 := k0.up hb1; obtain ⟨d0, d1, d2, d3, d4, d5, d6⟩ := box7 k1)
        | (go_at_call 38; (with_reducible refine (isNode_is true _ _ _ (sb : Int) _ _ _ _ _ _ _ _ _ _ _ _ HB _).mono ?_); rintro e w3 ⟨rfl, hb3⟩; have h3 := h2.up hb3; obtain ⟨e0, e1, e2, e3, e4, e5, e6⟩ := box7 (k2.up hb3))
        | (go_at_call 38; (with_reducible refine (isNode_is true _ _ _ (sa : Int) _ _ _ _ _ _ _ _ _ _ _ _ HA _).mono ?_); rintro e w2 ⟨rfl, hb2⟩; have h2 := h1.up hb2; have k2 := k1.up hb2; obtain ⟨g0, g1, g2, g3, g4, g5, g6⟩ := box7 k2)
        | (go_at_call 39; (with_reducible refine (dist_is f sa F HF h3 hgp hsa).mono ?_); rintro e w4 ⟨rfl, hb4⟩))
      go_ret
      exact ⟨rfl, hbx.trans ((hb1.mono hbx.size).trans ((hb2.mono (Nat.le_trans hbx.size hb1.size)).trans ((hb3.mono (Nat.le_trans (Nat.le_trans hbx.size hb1.size) hb2.size)).trans (hb4.mono (Nat.le_trans (Nat.le_trans (Nat.le_trans hbx.size hb1.size) hb2.size) hb3.size)))))⟩
set_option maxHeartbeats 1000000 in
theorem Reach_ok (f a : Int) (L : List Nat) (n : Nat) (HL : Hid (reachB p f a = L)) (HN : Hid (L.length = n)) (HR : Hid (rightB p = true)) (hs : PSmall p) (h : PAt w p pr ca kk An ln Al ll Ad ld Ac lc) :
    Calls Try.prog 15 #[.agg #[.int .i64 pr, .int .i64 ca, .int .i64 kk, .slice An ln cn, .slice Al ll cl, .slice Ad ld cd, .slice Ac lc cc], .int .i64 f, .int .i64 a] w fun e w' => ∃ A c, e = .returned (.slice A n c) ∧ w'.ownsRow w.heap.size 3 1 (.slice A n c) n (intCells L) ∧ Below w.heap.size w w' := by
  have hgp := gplan_right HR.out
  have hn12 := hgp.n12
  have HL' := HL.out
  unfold reachB at HL'
  rw [h.ln] at hn12 HL'
  obtain ⟨i0, hi, hz0, hz1, hz2⟩ := info_parts intInfo
  have hbx := below_new w (.cells #[.int .i64 pr, .int .i64 ca, .int .i64 kk, .slice An ln cn, .slice Al ll cl, .slice Ad ld cd, .slice Ac lc cc] 29)
  have h0 := h.up hbx
  have k0 := Blk.new w 29 #[.int .i64 pr, .int .i64 ca, .int .i64 kk, .slice An ln cn, .slice Al ll cl, .slice Ad ld cd, .slice Ac lc cc]
  have hLn := h.ln
  clear h
  obtain ⟨ba, hba⟩ : ∃ ba, isNodeB ln a = ba := ⟨_, rfl⟩
  rw [hba] at HL'
  have HA := Lib.hid hba
  cases ba
  · have HE : Hid (([] : List Nat) = L) := Lib.hid (by simpa using HL')
    clear HL' hba hLn
    go_enter Try.func15, Try.ntmps15
    go_wp2_with (first
      | (go_at_call 33; (with_reducible refine (Right_is true HR hs h0).mono ?_); rintro e w1 ⟨rfl, hb1⟩; have h1 := h0.up hb1; have k1 := k0.up hb1; obtain ⟨d0, d1, d2, d3, d4, d5, d6⟩ := box7 k1)
      | (go_at_call 38; (with_reducible refine (isNode_is false _ _ _ a _ _ _ _ _ _ _ _ _ _ _ _ HA _).mono ?_); rintro e w2 ⟨rfl, hb2⟩))
    go_ret
    obtain rfl : n = 0 := by rw [← HN.out, ← HE.out]; rfl
    exact ⟨none, 0, rfl, by rw [← HE.out]; exact World.ownsRow_nil _ _ _ _, hbx.trans ((hb1.mono hbx.size).trans (hb2.mono (Nat.le_trans hbx.size hb1.size)))⟩
  · unfold isNodeB at hba
    simp only [Bool.and_eq_true, decide_eq_true_eq] at hba
    obtain ⟨sa, rfl⟩ := Int.eq_ofNat_of_zero_le hba.1
    have hsa : sa < ln := by omega
    have HE : Hid (reachK p f sa 12 = L) := Lib.hid (by rw [reachK_12 hgp f (by rw [hLn]; exact hsa), hLn]; simpa using HL')
    have HX := Lib.hid (index_far (distB (adjB p f) ln sa))
    obtain ⟨F, hF⟩ : ∃ F, farC (distB (adjB p f) ln sa) = F := ⟨_, rfl⟩
    rw [hF] at HX
    have HF := Lib.hid hF
    have HLn := Lib.hid hLn
    clear HL' hba hF hLn
    go_enter Try.func15, Try.ntmps15
    go_wp2_with (first
      | (go_at_call 33; (with_reducible refine (Right_is true HR hs h0).mono ?_); rintro e w1 ⟨rfl, hb1⟩; have h1 := h0.up hb1; have k1 := k0.up hb1; obtain ⟨d0, d1, d2, d3, d4, d5, d6⟩ := box7 k1)
      | (go_at_call 38; (with_reducible refine (isNode_is true _ _ _ (sa : Int) _ _ _ _ _ _ _ _ _ _ _ _ HA _).mono ?_); rintro e w2 ⟨rfl, hb2⟩; have h2 := h1.up hb2; have k2 := k1.up hb2; obtain ⟨g0, g1, g2, g3, g4, g5, g6⟩ := box7 k2)
      | (go_at_call 39; (with_reducible refine (dist_is f sa F HF h2 hgp hsa).mono ?_); rintro e w4 ⟨rfl, hb4⟩))
    have hbb : Below w.heap.size w w4 := hbx.trans ((hb1.mono hbx.size).trans ((hb2.mono (Nat.le_trans hbx.size hb1.size)).trans (hb4.mono (Nat.le_trans (Nat.le_trans hbx.size hb1.size) hb2.size))))
    clear d0 d1 d2 d3 d4 d5 d6 g0 g1 g2 g3 g4 g5 g6 k0 k1 k2 h0 h1 h2 hbx hb1 hb2 hb4
    go_loopw [7, 23] (fun s7 s23 wr => ∃ k : Nat, k ≤ 12 ∧ s23 = .int .i64 (k : Nat) ∧ wr.ownsRow w.heap.size 3 1 s7 (reachK p f sa k).length (intCells (reachK p f sa k)) ∧ Below w.heap.size w wr) (fun _ s23 _ => 12 - (intOf s23).toNat)
    case atStart => exact ⟨0, Nat.zero_le _, rfl, World.ownsRow_nil _ _ _ _, hbb⟩
    case round =>
      clear hbb
      obtain ⟨k, hk, rfl, hown, hbw⟩ := hrel
      have hkl := reachK_len p f sa k
      by_cases hlt : k < 12
      · have hix := HX.out k hlt
        have n0 : (0 : Int) ≤ (k : Int) := by omega
        have n1 : (k : Int) < 12 := by omega
        obtain ⟨d, hd⟩ : ∃ d, distB (adjB p f) ln sa k = d := ⟨_, rfl⟩
        rw [hd] at hix
        have hz := hbw.size
        by_cases hd1 : d = -1
        · have HN2 := Lib.hid (reachK_no (p := p) (f := f) (a := sa) (k := k) (by rw [HLn.out, hd, hd1]))
          have t1 : (d != -1) = false := by simp [hd1]
          clear hd hd1
          go_wp2
          go_roundw
          case rel => exact ⟨k + 1, by omega, by go_num, by rw [HN2.out]; exact hown, hbw⟩
          case measure => simp [intOf]; omega
        · have HY2 := Lib.hid (reachK_yes (p := p) (f := f) (a := sa) (k := k) (by rw [HLn.out, hd]; exact hd1))
          have t1 : (d != -1) = true := by simp [hd1]
          clear hd hd1
          go_wp2_with (at_builtin; refine wpList_append_own _ rfl _ _ 22 rfl w.heap.size 3 i0 (.int .i64 0) 1 8 Try.underlying22 hi hz0 hz1 hz2 rfl (by decide) _ _ _ rfl (own_alloc hown _) ⟨wr.heap.size, 0, none⟩ 1 1 [.int .i64 (k : Nat)] rfl rfl (cell_one_new _ _ _) (by simp [Value.oneCell']) (by unfold maxLen; omega) (by omega) (by simp; omega) ?_; intro v' w5 hown5 hgrow5 _; have hbw5 := (hbw.trans ((below_new wr _).mono hz)).grown hgrow5 (by simp; omega) (fun g hg => (hown.lt g hg).1))
          go_roundw
          case rel => exact ⟨k + 1, by omega, by go_num, by rw [HY2.out]; simpa [intCells] using hown5, hbw5⟩
          case measure => simp [intOf]; omega
      · have hk12 : k = 12 := by omega
        subst hk12
        rw [HE.out, HN.out] at hown
        obtain ⟨A, c, rfl, _⟩ := own_form hown
        go_wp2
        go_ret
        exact ⟨A, c, rfl, hown, hbw⟩
/-- .. and of one that may not be. -/
theorem Around_no (f node : Int) (HR : Hid (rightB p = false)) (hs : PSmall p) (h : PAt w p pr ca kk An ln Al ll Ad ld Ac lc) :
    Calls Try.prog 11 #[.agg #[.int .i64 pr, .int .i64 ca, .int .i64 kk, .slice An ln cn, .slice Al ll cl, .slice Ad ld cd, .slice Ac lc cc], .int .i64 f, .int .i64 node] w fun e w' => e = .returned (.slice none 0 0) ∧ Below w.heap.size w w' := by
  have hbx := below_new w (.cells #[.int .i64 pr, .int .i64 ca, .int .i64 kk, .slice An ln cn, .slice Al ll cl, .slice Ad ld cd, .slice Ac lc cc] 29)
  have h0 := h.up hbx
  have k0 := Blk.new w 29 #[.int .i64 pr, .int .i64 ca, .int .i64 kk, .slice An ln cn, .slice Al ll cl, .slice Ad ld cd, .slice Ac lc cc]
  clear h
  go_enter Try.func11, Try.ntmps11
  go_wp2_with (go_at_call 33; (with_reducible refine (Right_is false HR hs h0).mono ?_); rintro e w1 ⟨rfl, hb1⟩)
  go_ret
  exact ⟨rfl, hbx.trans (hb1.mono hbx.size)⟩
theorem Hops_no (f a b : Int) (HR : Hid (rightB p = false)) (hs : PSmall p) (h : PAt w p pr ca kk An ln Al ll Ad ld Ac lc) :
    Calls Try.prog 17 #[.agg #[.int .i64 pr, .int .i64 ca, .int .i64 kk, .slice An ln cn, .slice Al ll cl, .slice Ad ld cd, .slice Ac lc cc], .int .i64 f, .int .i64 a, .int .i64 b] w fun e w' => e = .returned (.int .i64 (-1)) ∧ Below w.heap.size w w' := by
  have hbx := below_new w (.cells #[.int .i64 pr, .int .i64 ca, .int .i64 kk, .slice An ln cn, .slice Al ll cl, .slice Ad ld cd, .slice Ac lc cc] 29)
  have h0 := h.up hbx
  have k0 := Blk.new w 29 #[.int .i64 pr, .int .i64 ca, .int .i64 kk, .slice An ln cn, .slice Al ll cl, .slice Ad ld cd, .slice Ac lc cc]
  clear h
  go_enter Try.func17, Try.ntmps17
  go_wp2_with (go_at_call 33; (with_reducible refine (Right_is false HR hs h0).mono ?_); rintro e w1 ⟨rfl, hb1⟩)
  go_ret
  exact ⟨rfl, hbx.trans (hb1.mono hbx.size)⟩
theorem Reach_no (f a : Int) (HR : Hid (rightB p = false)) (hs : PSmall p) (h : PAt w p pr ca kk An ln Al ll Ad ld Ac lc) :
    Calls Try.prog 15 #[.agg #[.int .i64 pr, .int .i64 ca, .int .i64 kk, .slice An ln cn, .slice Al ll cl, .slice Ad ld cd, .slice Ac lc cc], .int .i64 f, .int .i64 a] w fun e w' => e = .returned (.slice none 0 0) ∧ Below w.heap.size w w' := by
  have hbx := below_new w (.cells #[.int .i64 pr, .int .i64 ca, .int .i64 kk, .slice An ln cn, .slice Al ll cl, .slice Ad ld cd, .slice Ac lc cc] 29)
  have h0 := h.up hbx
  have k0 := Blk.new w 29 #[.int .i64 pr, .int .i64 ca, .int .i64 kk, .slice An ln cn, .slice Al ll cl, .slice Ad ld cd, .slice Ac lc cc]
  clear h
  go_enter Try.func15, Try.ntmps15
  go_wp2_with (go_at_call 33; (with_reducible refine (Right_is false HR hs h0).mono ?_); rintro e w1 ⟨rfl, hb1⟩)
  go_ret
  exact ⟨rfl, hbx.trans (hb1.mono hbx.size)⟩
theorem Cuts_no (f : Int) (HR : Hid (rightB p = false)) (hs : PSmall p) (h : PAt w p pr ca kk An ln Al ll Ad ld Ac lc) :
    Calls Try.prog 19 #[.agg #[.int .i64 pr, .int .i64 ca, .int .i64 kk, .slice An ln cn, .slice Al ll cl, .slice Ad ld cd, .slice Ac lc cc], .int .i64 f] w fun e w' => e = .returned (.slice none 0 0) ∧ Below w.heap.size w w' := by
  have hbx := below_new w (.cells #[.int .i64 pr, .int .i64 ca, .int .i64 kk, .slice An ln cn, .slice Al ll cl, .slice Ad ld cd, .slice Ac lc cc] 29)
  have h0 := h.up hbx
  have k0 := Blk.new w 29 #[.int .i64 pr, .int .i64 ca, .int .i64 kk, .slice An ln cn, .slice Al ll cl, .slice Ad ld cd, .slice Ac lc cc]
  clear h
  go_enter Try.func19, Try.ntmps19
  go_wp2_with (go_at_call 33; (with_reducible refine (Right_is false HR hs h0).mono ?_); rintro e w1 ⟨rfl, hb1⟩)
  go_ret
  exact ⟨rfl, hbx.trans (hb1.mono hbx.size)⟩
end
end Go.Proofs.Ytlfdpfkimggeoaa
