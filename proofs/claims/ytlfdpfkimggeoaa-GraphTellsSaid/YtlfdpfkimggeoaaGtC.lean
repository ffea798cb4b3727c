/-
  The document's answers for layer 5: Reach, Cuts.
-/
import Derived.Deep.RegionHeld3
import Derived.Test.YtlfdpfkimggeoaaGtB
namespace Go.Proofs.Ytlfdpfkimggeoaa
open Go.RowKit
set_option linter.unusedVariables false
set_option linter.unusedSimpArgs false

def reachG (p : PPlan) (f a : Int) : List Nat := if rightB p = true then reachB p f a else []
noncomputable def cutsG (p : PPlan) (f : Int) : List Nat := if rightB p = true then cutsB p f else []
def rrK (p : PPlan) (f a : Int) (k : Nat) : List Nat := (List.range k).filter fun i => decide (0 ≤ hopsG p f a (i : Int))
theorem rrK_yes {p : PPlan} {f a : Int} {k : Nat} (h : 0 ≤ hopsG p f a (k : Int)) : rrK p f a (k + 1) = rrK p f a k ++ [k] := by
  simp [rrK, List.range_succ, List.filter_append, h]
theorem rrK_no {p : PPlan} {f a : Int} {k : Nat} (h : ¬ 0 ≤ hopsG p f a (k : Int)) : rrK p f a (k + 1) = rrK p f a k := by
  simp [rrK, List.range_succ, List.filter_append]
  omega
theorem rrK_len (p : PPlan) (f a : Int) (k : Nat) : (rrK p f a k).length ≤ k := by
  have := List.length_filter_le (fun i : Nat => decide (0 ≤ hopsG p f a (i : Int))) (List.range k)
  simpa [rrK] using this
theorem rr_all (p : PPlan) (f a : Int) : rrK p f a p.nodes.length = reachG p f a := by
  unfold rrK reachG hopsG
  cases hR : rightB p
  · rw [if_neg (by simp)]
    refine List.filter_eq_nil_iff.2 fun i _ => ?_
    simp
  · rw [if_pos rfl]
    unfold reachB
    cases ha : isNodeB p.nodes.length a
    · rw [if_neg (by simp)]
      refine List.filter_eq_nil_iff.2 fun i _ => ?_
      unfold hopsB
      rw [ha]
      simp
    · rw [if_pos rfl]
      unfold reachK
      refine List.filter_congr fun i hi => ?_
      have hi := List.mem_range.1 hi
      rw [if_pos rfl]
      unfold hopsB
      rw [ha, show isNodeB p.nodes.length (i : Int) = true by unfold isNodeB; simp; omega, Bool.true_and, if_pos rfl, Int.toNat_natCast]
      have := (dist_in (adjB p f) p.nodes.length a.toNat i).1
      rw [Bool.eq_iff_iff]
      simp
      omega
/-- A bit that is not there yet, added. -/
theorem bit_add {x i : Nat} (h : x.testBit i = false) (j : Nat) : (x + 2 ^ i).testBit j = (x.testBit j || decide (j = i)) := by
  rw [Nat.add_comm]
  rcases Nat.lt_trichotomy j i with e | e | e
  · rw [Nat.testBit_two_pow_add_gt e, decide_eq_false (by omega), Bool.or_false]
  · subst e
    rw [Nat.testBit_two_pow_add_eq, h]
    simp
  · rw [decide_eq_false (by omega), Bool.or_false]
    have e1 : ∀ y : Nat, y.testBit j = (y / 2 ^ (i + 1)).testBit (j - (i + 1)) := fun y => by
      rw [Nat.testBit_div_two_pow]; congr 1; omega
    rw [e1, e1 x]
    congr 1
    have hp : 0 < 2 ^ i := Nat.two_pow_pos i
    rw [Nat.pow_succ, ← Nat.div_div_eq_div_mul, ← Nat.div_div_eq_div_mul, Nat.add_div_left _ hp]
    rw [Nat.testBit_eq_decide_div_mod_eq] at h
    have := of_decide_eq_false h
    omega
theorem hasB_add (f : Int) (k i : Nat) (hk : k < 16) (hi : i < 16) (hf : hasB f (k : Int) = false) : hasB ((cleanB f : Int) + ((2 ^ k : Nat) : Int)) (i : Int) = hasB (orI f k) (i : Int) := by
  rw [hasB_or f k i hk hi, hasB_clean _ _ hi, hasB_clean f i hi]
  rw [hasB_clean f k hk] at hf
  have e : cleanB ((cleanB f : Int) + ((2 ^ k : Nat) : Int)) = (cleanB f + 2 ^ k) % 2 ^ 16 := by
    unfold cleanB
    omega
  rw [e, Nat.testBit_mod_two_pow, decide_eq_true hi, Bool.true_and, bit_add hf]
theorem adj_add {p : PPlan} (hg : GPlan p) (f : Int) (k : Nat) (hk : k < p.links.length) (hf : hasB f (k : Int) = false) : adjB p ((cleanB f : Int) + ((2 ^ k : Nat) : Int)) = adjB p (orI f k) := by
  have hl := hg.l16
  funext u v
  rw [Bool.eq_iff_iff, adj_links, adj_links]
  constructor
  · rintro ⟨i, l, h1, h2, h3⟩
    have := (List.getElem?_eq_some_iff.1 h1).1
    exact ⟨i, l, h1, by rw [← hasB_add f k i (by omega) (by omega) hf]; exact h2, h3⟩
  · rintro ⟨i, l, h1, h2, h3⟩
    have := (List.getElem?_eq_some_iff.1 h1).1
    exact ⟨i, l, h1, by rw [hasB_add f k i (by omega) (by omega) hf]; exact h2, h3⟩
theorem clean_is (f : Int) (c : Nat) (H : Hid (cleanB f = c)) (w : World) :
    Calls Try.prog 42 #[.int .i64 f] w fun e w' => e = .returned (.int .i64 (c : Int)) ∧ w' = w := by
  rw [← H.out]; exact Clean_any f w
set_option maxHeartbeats 8000000 in
set_option maxRecDepth 100000 in
theorem refReach_w {p : PPlan} (f node : Int) (L : List Nat) (HL : Hid (reachG p f node = L)) {An Al Ad Ac : Option Addr} {cn cl cd cc : Nat} {w : World} (h : PAt w p p.proto p.cap p.k An p.nodes.length Al p.links.length Ad p.dests.length Ac p.checks.length) (hs : PSmall p) :
    Calls Try.prog 16 #[.agg #[.int .i64 p.proto, .int .i64 p.cap, .int .i64 p.k, .slice An p.nodes.length cn, .slice Al p.links.length cl, .slice Ad p.dests.length cd, .slice Ac p.checks.length cc], .int .i64 f, .int .i64 node] w (Lists L w) := by
  have E0 := PBox.ofG (cn := cn) (cl := cl) (cd := cd) (cc := cc) h
  obtain ⟨a0, a1, a2, a3, a4, a5, a6⟩ := E0.cells
  have hln := hs.ln
  have HA := Lib.hid h
  obtain ⟨i0, hi, hz0, hz1, hz2⟩ := info_parts intInfo
  clear h
  go_enter Try.func16, Try.ntmps16
  go_wp2_with (fail)
  go_loopw [7, 8] (fun s7 s8 wr => ∃ k : Nat, k ≤ p.nodes.length ∧ s8 = .int .i64 (k : Nat) ∧ wr.ownsRow w.heap.size 3 1 s7 (rrK p f node k).length (intCells (rrK p f node k)) ∧ PBox w.heap.size w w.heap.size p An p.nodes.length cn Al p.links.length cl Ad p.dests.length cd Ac p.checks.length cc wr) (fun _ s8 _ => p.nodes.length - (intOf s8).toNat)
  case atStart => exact ⟨0, Nat.zero_le _, rfl, World.ownsRow_nil _ _ _ _, E0⟩
  case round =>
    clear a0 a1 a2 a3 a4 a5 a6 E0
    obtain ⟨k, hk, rfl, hown, E1⟩ := hrel
    have hkl := rrK_len p f node k
    obtain ⟨a0, a1, a2, a3, a4, a5, a6⟩ := E1.cells
    by_cases hlt : k < p.nodes.length
    · have hlt2 : (k : Int) < (p.nodes.length : Int) := by omega
      obtain ⟨d, hd⟩ : ∃ d, hopsG p f node (k : Int) = d := ⟨_, rfl⟩
      have HD := Lib.hid hd
      by_cases hd0 : 0 ≤ d
      · have t1 : decide (0 ≤ d) = true := decide_eq_true hd0
        have HY := Lib.hid (rrK_yes (p := p) (f := f) (a := node) (k := k) (by rw [hd]; exact hd0))
        clear hd
        go_wp2_with (first
          | (go_at_call 18; (with_reducible refine (refHops_w f node (k : Int) d HD E1.at_ hs).mono ?_); rintro e y2 ⟨rfl, hy2⟩; have E2 := E1.go hy2; have hown2 := own_below hown hy2)
          | (at_builtin; refine wpList_append_own _ rfl _ _ 22 rfl w.heap.size 3 i0 (.int .i64 0) 1 8 Try.underlying22 hi hz0 hz1 hz2 rfl (by decide) _ _ _ rfl (own_alloc hown2 _) ⟨y2.heap.size, 0, none⟩ 1 1 [.int .i64 (k : Nat)] rfl rfl (cell_one_new _ _ _) (by simp [Value.oneCell']) (by unfold maxLen; omega) (by omega) (by have := E2.size; simp; omega) ?_; intro v' w6 hown6 hgrow6 _))
        have E6 : PBox w.heap.size w w.heap.size p An p.nodes.length cn _ p.links.length cl Ad p.dests.length cd Ac p.checks.length cc w6 := own_box (E2.alloc _) (own_alloc hown2 _) hgrow6 HA.out
        go_roundw
        case rel => exact ⟨k + 1, by omega, by go_num, by rw [HY.out]; simpa [intCells] using hown6, E6⟩
        case measure => simp [intOf]; omega
      · have t1 : decide (0 ≤ d) = false := decide_eq_false hd0
        have HN := Lib.hid (rrK_no (p := p) (f := f) (a := node) (k := k) (by rw [hd]; exact hd0))
        clear hd
        go_wp2_with (first
          | (go_at_call 18; (with_reducible refine (refHops_w f node (k : Int) d HD E1.at_ hs).mono ?_); rintro e y2 ⟨rfl, hy2⟩; have E2 := E1.go hy2; have hown2 := own_below hown hy2))
        go_roundw
        case rel => exact ⟨k + 1, by omega, by go_num, by rw [HN.out]; exact hown2, E2⟩
        case measure => simp [intOf]; omega
    · obtain rfl : k = p.nodes.length := by omega
      have HK := Lib.hid (show rrK p f node p.nodes.length = L by rw [rr_all, HL.out])
      rw [HK.out] at hown
      obtain ⟨A, c, rfl, _⟩ := own_form hown
      go_wp2
      go_ret
      exact ⟨A, c, rfl, hown, E1.up⟩
set_option maxHeartbeats 16000000 in
set_option maxRecDepth 100000 in
theorem refCuts_w {p : PPlan} (f : Int) (L : List Nat) (HL : Hid (cutsG p f = L)) {An Al Ad Ac : Option Addr} {cn cl cd cc : Nat} {w : World} (h : PAt w p p.proto p.cap p.k An p.nodes.length Al p.links.length Ad p.dests.length Ac p.checks.length) (hs : PSmall p) :
    Calls Try.prog 20 #[.agg #[.int .i64 p.proto, .int .i64 p.cap, .int .i64 p.k, .slice An p.nodes.length cn, .slice Al p.links.length cl, .slice Ad p.dests.length cd, .slice Ac p.checks.length cc], .int .i64 f] w (Lists L w) := by
  have hv := HL.out
  unfold cutsG at hv
  have E0 := PBox.ofG (cn := cn) (cl := cl) (cd := cd) (cc := cc) h
  obtain ⟨a0, a1, a2, a3, a4, a5, a6⟩ := E0.cells
  have hll := hs.ll
  have HA := Lib.hid h
  clear h
  cases hR : rightB p
  · have HR := Lib.hid hR
    have HE : Hid (([] : List Nat) = L) := Lib.hid (by rw [← hv, hR]; rfl)
    clear hv hR
    go_enter Try.func20, Try.ntmps20
    go_wp2_with (first | (go_at_call 35; (with_reducible refine (RefRight_is false HR hs E0.at_).mono ?_); rintro e y1 ⟨rfl, hy1⟩; have E1 := E0.go hy1; obtain ⟨a0, a1, a2, a3, a4, a5, a6⟩ := E1.cells))
    go_loopw [6, 7] (fun s6 s7 wr => s6 = .slice none 0 0 ∧ s7 = .int .i64 0 ∧ PBox w.heap.size w w.heap.size p An p.nodes.length cn Al p.links.length cl Ad p.dests.length cd Ac p.checks.length cc wr) (fun _ _ _ => 0)
    case atStart => exact ⟨rfl, rfl, E1⟩
    case round =>
      clear a0 a1 a2 a3 a4 a5 a6 E1
      obtain ⟨rfl, rfl, E1⟩ := hrel
      obtain ⟨a0, a1, a2, a3, a4, a5, a6⟩ := E1.cells
      by_cases hz : (0 : Int) < (p.links.length : Int)
      · go_wp2
        go_ret
        exact ⟨none, 0, by rw [← HE.out]; rfl, by rw [← HE.out]; exact World.ownsRow_nil _ _ _ _, E1.up⟩
      · go_wp2
        go_ret
        exact ⟨none, 0, by rw [← HE.out]; rfl, by rw [← HE.out]; exact World.ownsRow_nil _ _ _ _, E1.up⟩
  · have HR := Lib.hid hR
    rw [hR, if_pos rfl] at hv
    have hgp := gplan_right hR
    have hl16 := hgp.l16
    have hn12 := hgp.n12
    have HG := Lib.hid hgp
    have HV := Lib.hid hv
    obtain ⟨i0, hi, hz0, hz1, hz2⟩ := info_parts intInfo
    clear hv hR
    go_enter Try.func20, Try.ntmps20
    go_wp2_with (first | (go_at_call 35; (with_reducible refine (RefRight_is true HR hs E0.at_).mono ?_); rintro e y1 ⟨rfl, hy1⟩; have E1 := E0.go hy1; obtain ⟨a0, a1, a2, a3, a4, a5, a6⟩ := E1.cells))
    clear E0 hy1
    go_loopw [6, 7] (fun s6 s7 wr => ∃ k : Nat, k ≤ p.links.length ∧ s7 = .int .i64 (k : Nat) ∧ wr.ownsRow w.heap.size 3 1 s6 (cutsK p f k).length (intCells (cutsK p f k)) ∧ PBox w.heap.size w w.heap.size p An p.nodes.length cn Al p.links.length cl Ad p.dests.length cd Ac p.checks.length cc wr) (fun _ s7 _ => p.links.length - (intOf s7).toNat)
    case atStart => exact ⟨0, Nat.zero_le _, rfl, World.ownsRow_nil _ _ _ _, E1⟩
    case round =>
      clear a0 a1 a2 a3 a4 a5 a6 E1
      obtain ⟨k, hk, rfl, hown, E1⟩ := hrel
      have hkl := cutsK_len p f k
      obtain ⟨a0, a1, a2, a3, a4, a5, a6⟩ := E1.cells
      by_cases hlt : k < p.links.length
      · obtain ⟨⟨la, lb, lc⟩, hl⟩ : ∃ l, p.links[k]? = some l := ⟨_, List.getElem?_eq_getElem hlt⟩
        obtain ⟨a, b, ea, eb, hab, hbn⟩ := HG.out.link k _ hl
        dsimp only at ea eb
        subst ea eb
        obtain ⟨gL, hgL, -, -, -, -⟩ := E1.at_.links.link hl
        subst hgL
        obtain ⟨l0, l1, l2⟩ := RowAt.linkG E1.at_.links hl
        dsimp only at l0 l1 l2
        have hct := cutB_at (f := f) hl
        dsimp only at hct
        rw [Int.toNat_natCast, Int.toNat_natCast] at hct
        obtain ⟨fb, hfb⟩ : ∃ x, hasB f (k : Int) = x := ⟨_, rfl⟩
        have HU : Hid (upB p f (k : Int) = !fb) := Lib.hid (by rw [up_at hl, hfb])
        have n0 : (0 : Int) ≤ (k : Int) := by omega
        have n1 : (k : Int) < (p.links.length : Int) := by omega
        clear hl
        go_upto_region 7 with (fail)
        obtain ⟨gx, hgx⟩ : ∃ g, wr.heap.size = g := ⟨_, rfl⟩
        obtain ⟨W, hW⟩ : ∃ W, wr.alloc (.cells #[.int .i64 (a : Int), .int .i64 (b : Int), .int .i64 lc] 53) = W := ⟨_, rfl⟩
        have KL := Blk.new wr 53 #[.int .i64 (a : Int), .int .i64 (b : Int), .int .i64 lc]
        rw [hW, hgx] at KL
        rw [hW]
        first | rw [hgx] | skip
        have hbW : Below wr.heap.size wr W := by rw [← hW]; exact below_new wr _
        have EW := E1.go hbW
        have hownW := own_below hown hbW
        clear hW hbW hgx E1 hown a0 a1 a2 a3 a4 a5 a6 l0 l1 l2
        obtain ⟨a0, a1, a2, a3, a4, a5, a6⟩ := EW.cells
        have x0 := KL.cell 0
        have x1 := KL.cell 1
        have ED := EW.go (Below.refl _ _).drew
        have KD := KL.up (Below.refl _ _).drew
        have hownD := own_below hownW (Below.refl _ _).drew
        cases fb with
        | true =>
          have HN := Lib.hid (cutsK_no (p := p) (f := f) (k := k) (by rw [hct, hfb]; rfl))
          clear hct hfb
          refine wp_region_held_drew (S := (fun w' => (w'.cell? ⟨w.heap.size, 0, none⟩ = some (.int .i64 p.proto) ∧ w'.cell? ⟨w.heap.size, 1, none⟩ = some (.int .i64 p.cap) ∧ w'.cell? ⟨w.heap.size, 2, none⟩ = some (.int .i64 p.k) ∧ w'.cell? ⟨w.heap.size, 3, none⟩ = some (.slice An p.nodes.length cn) ∧ w'.cell? ⟨w.heap.size, 4, none⟩ = some (.slice (some ⟨gL, 0, none⟩) p.links.length cl) ∧ w'.cell? ⟨w.heap.size, 5, none⟩ = some (.slice Ad p.dests.length cd) ∧ w'.cell? ⟨w.heap.size, 6, none⟩ = some (.slice Ac p.checks.length cc)) ∧ w'.cell? ⟨gx, 0, none⟩ = some (.int .i64 (a : Int)) ∧ w'.cell? ⟨gx, 1, none⟩ = some (.int .i64 (b : Int)))) (by kernel_rfl) (by go_keep) (fun hHeld => ?_)
          refine wpAnyH_take (i := 0) (oi := ?o1) (v := ?v1) ?h1 ?s1 ?f1 ?c1 ?q1 ?y1 hHeld ?r1
          case h1 => (simp only [List.getElem?_toArray, List.getElem?_cons_succ, List.getElem?_cons_zero]; rfl)
          case s1 => kernel_rfl
          case f1 => kernel_rfl
          case c1 => kernel_rfl
          case y1 => (refine Or.inl ⟨by rfl, ?_⟩; intro w hSw; (try dsimp only at hSw); go_simp; (try with_reducible rfl))
          case q1 => exact fun _ _ _ h => h
          try simp only [Act.put, List.setIfInBounds_toArray, List.set_cons_zero, List.set_cons_succ]
          refine wpAnyH_take (i := 1) (oi := ?o2) (v := ?v2) ?h2 ?s2 ?f2 ?c2 ?q2 ?y2 hHeld ?r2
          case h2 => (simp only [List.getElem?_toArray, List.getElem?_cons_succ, List.getElem?_cons_zero]; rfl)
          case s2 => kernel_rfl
          case f2 => kernel_rfl
          case c2 => kernel_rfl
          case y2 => (refine Or.inl ⟨by rfl, ?_⟩; intro w hSw; (try dsimp only at hSw); go_simp; (try with_reducible rfl))
          case q2 => exact fun _ _ _ h => h
          try simp only [Act.put, List.setIfInBounds_toArray, List.set_cons_zero, List.set_cons_succ]
          refine wpAnyH_take (i := 2) (oi := ?o3) (v := ?v3) ?h3 ?s3 ?f3 ?c3 ?q3 ?y3 hHeld ?r3
          case h3 => (simp only [List.getElem?_toArray, List.getElem?_cons_succ, List.getElem?_cons_zero]; rfl)
          case s3 => kernel_rfl
          case f3 => kernel_rfl
          case c3 => kernel_rfl
          case y3 => (refine Or.inl ⟨by rfl, ?_⟩; intro w hSw; (try dsimp only at hSw); go_simp; (try with_reducible rfl))
          case q3 => exact fun _ _ _ h => h
          try simp only [Act.put, List.setIfInBounds_toArray, List.set_cons_zero, List.set_cons_succ]
          refine wpAnyH_ready (rs := [3]) (by kernel_rfl) (by simp) ?_
          refine AllReadyH.cons rfl (fun K hK => ?_) ?n4
          case n4 => exact AllReadyH.nil
          go_simp
          (go_at_call 36; (with_reducible refine (refUp_w f (k : Int) false HU ED.at_ hs).mono ?_); rintro e y1 ⟨rfl, hy1⟩; have E1 := ED.go hy1; have K1 := KD.up hy1; have hown1 := own_below hownD hy1; obtain ⟨a0, a1, a2, a3, a4, a5, a6⟩ := E1.cells; have x0 := K1.cell 0; have x1 := K1.cell 1)
          go_wp2_with fail
          refine hK.out _ _ (by go_keep) (fun hHeld => ?_)
          clear hK
          try simp only [Act.put, List.setIfInBounds_toArray, List.set_cons_zero, List.set_cons_succ]
          refine wpAnyH_take (i := 4) (oi := ?o5) (v := ?v5) ?h5 ?s5 ?f5 ?c5 ?q5 ?y5 hHeld ?r5
          case h5 => (simp only [List.getElem?_toArray, List.getElem?_cons_succ, List.getElem?_cons_zero]; rfl)
          case s5 => kernel_rfl
          case f5 => kernel_rfl
          case c5 => kernel_rfl
          case y5 => (refine Or.inl ⟨by rfl, ?_⟩; intro w hSw; (try dsimp only at hSw); go_simp; (try with_reducible rfl))
          case q5 => exact fun _ _ _ h => h
          try simp only [Act.put, List.setIfInBounds_toArray, List.set_cons_zero, List.set_cons_succ]
          refine wpAnyH_take (i := 5) (oi := ?o6) (v := undef) ?h6 ?s6 ?f6 ?c6 ?q6 ?y6 hHeld ?r6
          case h6 => (simp only [List.getElem?_toArray, List.getElem?_cons_succ, List.getElem?_cons_zero]; rfl)
          case s6 => kernel_rfl
          case f6 => kernel_rfl
          case c6 => kernel_rfl
          case y6 => exact Or.inr ⟨by rfl, rfl⟩
          case q6 => exact fun _ _ _ h => h
          try simp only [Act.put, List.setIfInBounds_toArray, List.set_cons_zero, List.set_cons_succ]
          refine wpAnyH_take (i := 6) (oi := ?o7) (v := undef) ?h7 ?s7 ?f7 ?c7 ?q7 ?y7 hHeld ?r7
          case h7 => (simp only [List.getElem?_toArray, List.getElem?_cons_succ, List.getElem?_cons_zero]; rfl)
          case s7 => kernel_rfl
          case f7 => kernel_rfl
          case c7 => kernel_rfl
          case y7 => exact Or.inr ⟨by rfl, rfl⟩
          case q7 => exact fun _ _ _ h => h
          try simp only [Act.put, List.setIfInBounds_toArray, List.set_cons_zero, List.set_cons_succ]
          refine wpAnyH_take (i := 7) (oi := ?o8) (v := undef) ?h8 ?s8 ?f8 ?c8 ?q8 ?y8 hHeld ?r8
          case h8 => (simp only [List.getElem?_toArray, List.getElem?_cons_succ, List.getElem?_cons_zero]; rfl)
          case s8 => kernel_rfl
          case f8 => kernel_rfl
          case c8 => kernel_rfl
          case y8 => exact Or.inr ⟨by rfl, rfl⟩
          case q8 => exact fun _ _ _ h => h
          try simp only [Act.put, List.setIfInBounds_toArray, List.set_cons_zero, List.set_cons_succ]
          refine wpAnyH_take (i := 8) (oi := ?o9) (v := undef) ?h9 ?s9 ?f9 ?c9 ?q9 ?y9 hHeld ?r9
          case h9 => (simp only [List.getElem?_toArray, List.getElem?_cons_succ, List.getElem?_cons_zero]; rfl)
          case s9 => kernel_rfl
          case f9 => kernel_rfl
          case c9 => kernel_rfl
          case y9 => exact Or.inr ⟨by rfl, rfl⟩
          case q9 => exact fun _ _ _ h => h
          try simp only [Act.put, List.setIfInBounds_toArray, List.set_cons_zero, List.set_cons_succ]
          refine wpAnyH_take (i := 9) (oi := ?o10) (v := undef) ?h10 ?s10 ?f10 ?c10 ?q10 ?y10 hHeld ?r10
          case h10 => (simp only [List.getElem?_toArray, List.getElem?_cons_succ, List.getElem?_cons_zero]; rfl)
          case s10 => kernel_rfl
          case f10 => kernel_rfl
          case c10 => kernel_rfl
          case y10 => exact Or.inr ⟨by rfl, rfl⟩
          case q10 => exact fun _ _ _ h => h
          try simp only [Act.put, List.setIfInBounds_toArray, List.set_cons_zero, List.set_cons_succ]
          refine wpAnyH_take (i := 10) (oi := ?o11) (v := undef) ?h11 ?s11 ?f11 ?c11 ?q11 ?y11 hHeld ?r11
          case h11 => (simp only [List.getElem?_toArray, List.getElem?_cons_succ, List.getElem?_cons_zero]; rfl)
          case s11 => kernel_rfl
          case f11 => kernel_rfl
          case c11 => kernel_rfl
          case y11 => exact Or.inr ⟨by rfl, rfl⟩
          case q11 => exact fun _ _ _ h => h
          try simp only [Act.put, List.setIfInBounds_toArray, List.set_cons_zero, List.set_cons_succ]
          refine wpAnyH_take (i := 11) (oi := ?o12) (v := undef) ?h12 ?s12 ?f12 ?c12 ?q12 ?y12 hHeld ?r12
          case h12 => (simp only [List.getElem?_toArray, List.getElem?_cons_succ, List.getElem?_cons_zero]; rfl)
          case s12 => kernel_rfl
          case f12 => kernel_rfl
          case c12 => kernel_rfl
          case y12 => exact Or.inr ⟨by rfl, rfl⟩
          case q12 => exact fun _ _ _ h => h
          try simp only [Act.put, List.setIfInBounds_toArray, List.set_cons_zero, List.set_cons_succ]
          refine wpAnyH_take (i := 12) (oi := ?o13) (v := undef) ?h13 ?s13 ?f13 ?c13 ?q13 ?y13 hHeld ?r13
          case h13 => (simp only [List.getElem?_toArray, List.getElem?_cons_succ, List.getElem?_cons_zero]; rfl)
          case s13 => kernel_rfl
          case f13 => kernel_rfl
          case c13 => kernel_rfl
          case y13 => exact Or.inr ⟨by rfl, rfl⟩
          case q13 => exact fun _ _ _ h => h
          try simp only [Act.put, List.setIfInBounds_toArray, List.set_cons_zero, List.set_cons_succ]
          refine wpAnyH_take (i := 13) (oi := ?o14) (v := undef) ?h14 ?s14 ?f14 ?c14 ?q14 ?y14 hHeld ?r14
          case h14 => (simp only [List.getElem?_toArray, List.getElem?_cons_succ, List.getElem?_cons_zero]; rfl)
          case s14 => kernel_rfl
          case f14 => kernel_rfl
          case c14 => kernel_rfl
          case y14 => exact Or.inr ⟨by rfl, rfl⟩
          case q14 => exact fun _ _ _ h => h
          try simp only [Act.put, List.setIfInBounds_toArray, List.set_cons_zero, List.set_cons_succ]
          refine wpAnyH_take (i := 14) (oi := ?o15) (v := undef) ?h15 ?s15 ?f15 ?c15 ?q15 ?y15 hHeld ?r15
          case h15 => (simp only [List.getElem?_toArray, List.getElem?_cons_succ, List.getElem?_cons_zero]; rfl)
          case s15 => kernel_rfl
          case f15 => kernel_rfl
          case c15 => kernel_rfl
          case y15 => exact Or.inr ⟨by rfl, rfl⟩
          case q15 => exact fun _ _ _ h => h
          try simp only [Act.put, List.setIfInBounds_toArray, List.set_cons_zero, List.set_cons_succ]
          refine wpAnyH_take (i := 15) (oi := ?o16) (v := undef) ?h16 ?s16 ?f16 ?c16 ?q16 ?y16 hHeld ?r16
          case h16 => (simp only [List.getElem?_toArray, List.getElem?_cons_succ, List.getElem?_cons_zero]; rfl)
          case s16 => kernel_rfl
          case f16 => kernel_rfl
          case c16 => kernel_rfl
          case y16 => exact Or.inr ⟨by rfl, rfl⟩
          case q16 => exact fun _ _ _ h => h
          try simp only [Act.put, List.setIfInBounds_toArray, List.set_cons_zero, List.set_cons_succ]
          refine wpAnyH_take (i := 16) (oi := ?o17) (v := undef) ?h17 ?s17 ?f17 ?c17 ?q17 ?y17 hHeld ?r17
          case h17 => (simp only [List.getElem?_toArray, List.getElem?_cons_succ, List.getElem?_cons_zero]; rfl)
          case s17 => kernel_rfl
          case f17 => kernel_rfl
          case c17 => kernel_rfl
          case y17 => exact Or.inr ⟨by rfl, rfl⟩
          case q17 => exact fun _ _ _ h => h
          try simp only [Act.put, List.setIfInBounds_toArray, List.set_cons_zero, List.set_cons_succ]
          refine wpAnyH_take (i := 17) (oi := ?o18) (v := ?v18) ?h18 ?s18 ?f18 ?c18 ?q18 ?y18 hHeld ?r18
          case h18 => (simp only [List.getElem?_toArray, List.getElem?_cons_succ, List.getElem?_cons_zero]; rfl)
          case s18 => kernel_rfl
          case f18 => kernel_rfl
          case c18 => kernel_rfl
          case y18 => (refine Or.inl ⟨by rfl, ?_⟩; intro w hSw; (try dsimp only at hSw); go_simp; (try with_reducible rfl))
          case q18 => exact fun _ _ _ h => h
          try simp only [Act.put, List.setIfInBounds_toArray, List.set_cons_zero, List.set_cons_succ]
          refine wpAnyH_done (by kernel_rfl) ?_ _
          repeat go_step
          go_roundw
          case rel => exact ⟨k + 1, by omega, by go_num, by rw [HN.out]; exact hown1, E1⟩
          case measure => simp [intOf]; omega
        | false =>
          have hadj := adj_add HG.out f k hlt hfb
          obtain ⟨c, hc⟩ : ∃ c, cleanB f = c := ⟨_, rfl⟩
          have HC := Lib.hid hc
          have hc16 := cleanB_lt f
          have hp := pow16 k (by omega)
          have hsh := shl_one k (by omega)
          obtain ⟨p2, hp2⟩ : ∃ p2, 2 ^ k = p2 := ⟨_, rfl⟩
          rw [hc, hp2] at hadj
          rw [hc] at hc16
          rw [hp2] at hp hsh
          obtain ⟨x, hx⟩ : ∃ x : Int, (c : Int) + (p2 : Int) = x := ⟨_, rfl⟩
          have hxx : IntKind.i64.wrap ((c : Int) + IntKind.i64.wrap ((2 : Int) ^ k)) = x := by rw [show ((2 : Int) ^ k) = (p2 : Int) by rw [← hp2]; simp, IntWalk.i64_in (p2 : Int) (by omega), ← hx]; exact IntWalk.i64_in _ (by omega)
          rw [hx] at hadj
          obtain ⟨d, hd⟩ : ∃ d, distB (adjB p (orI f k)) p.nodes.length a b = d := ⟨_, rfl⟩
          have hdd : hopsG p x (a : Int) (b : Int) = d := by
            unfold hopsG hopsB isNodeB
            rw [if_pos HR.out, if_pos (by simp; omega), Int.toNat_natCast, Int.toNat_natCast, hadj, hd]
          have hdi := (dist_in (adjB p (orI f k)) p.nodes.length a b).1
          rw [hd] at hdi hct
          have HD : Hid (hopsG p (IntKind.i64.wrap ((c : Int) + IntKind.i64.wrap ((2 : Int) ^ k))) (a : Int) (b : Int) = d) := Lib.hid (by rw [hxx]; exact hdd)
          by_cases hd1 : d = -1
          · have HY := Lib.hid (cutsK_yes (p := p) (f := f) (k := k) (by rw [hct, hfb, hd1]; rfl))
            have t1 : decide (d < 0) = true := decide_eq_true (by omega)
            clear hct hfb hd1 hdi hd hadj hdd hc hp2 hxx hx hc16 hp hsh
            go_region_held3 (fun w' => (w'.cell? ⟨w.heap.size, 0, none⟩ = some (.int .i64 p.proto) ∧ w'.cell? ⟨w.heap.size, 1, none⟩ = some (.int .i64 p.cap) ∧ w'.cell? ⟨w.heap.size, 2, none⟩ = some (.int .i64 p.k) ∧ w'.cell? ⟨w.heap.size, 3, none⟩ = some (.slice An p.nodes.length cn) ∧ w'.cell? ⟨w.heap.size, 4, none⟩ = some (.slice (some ⟨gL, 0, none⟩) p.links.length cl) ∧ w'.cell? ⟨w.heap.size, 5, none⟩ = some (.slice Ad p.dests.length cd) ∧ w'.cell? ⟨w.heap.size, 6, none⟩ = some (.slice Ac p.checks.length cc)) ∧ w'.cell? ⟨gx, 0, none⟩ = some (.int .i64 (a : Int)) ∧ w'.cell? ⟨gx, 1, none⟩ = some (.int .i64 (b : Int))) (go_keep) (first | (go_at_call 36; (with_reducible refine (refUp_w f (k : Int) true HU ED.at_ hs).mono ?_); rintro e y1 ⟨rfl, hy1⟩; have E1 := ED.go hy1; have K1 := KD.up hy1; have hown1 := own_below hownD hy1; obtain ⟨a0, a1, a2, a3, a4, a5, a6⟩ := E1.cells; have x0 := K1.cell 0; have x1 := K1.cell 1) | (go_at_call 42; (with_reducible refine (clean_is f c HC _).mono ?_); rintro e yc ⟨rfl, rfl⟩) | (go_at_call 18; (with_reducible refine (refHops_w _ (a : Int) (b : Int) d HD E1.at_ hs).mono ?_); rintro e y2 ⟨rfl, hy2⟩; have E2 := E1.go hy2; have K2 := K1.up hy2; have hown2 := own_below hown1 hy2; obtain ⟨a0, a1, a2, a3, a4, a5, a6⟩ := E2.cells; have x0 := K2.cell 0; have x1 := K2.cell 1))
            go_step
            go_wp2_with (first | (at_builtin; refine wpList_append_own _ rfl _ _ 22 rfl w.heap.size 3 i0 (.int .i64 0) 1 8 Try.underlying22 hi hz0 hz1 hz2 rfl (by decide) _ _ _ rfl (own_alloc hown2 _) ⟨y2.heap.size, 0, none⟩ 1 1 [.int .i64 (k : Nat)] rfl rfl (cell_one_new _ _ _) (by simp [Value.oneCell']) (by unfold maxLen; omega) (by omega) (by have := E2.size; simp; omega) ?_; intro v' w6 hown6 hgrow6 _))
            have E6 : PBox w.heap.size w w.heap.size p An p.nodes.length cn _ p.links.length cl Ad p.dests.length cd Ac p.checks.length cc w6 := own_box (E2.alloc _) (own_alloc hown2 _) hgrow6 HA.out
            go_roundw
            case rel => exact ⟨k + 1, by omega, by go_num, by rw [HY.out]; simpa [intCells] using hown6, E6⟩
            case measure => simp [intOf]; omega
          · have HN := Lib.hid (cutsK_no (p := p) (f := f) (k := k) (by rw [hct, decide_eq_false hd1, Bool.and_false]))
            have t1 : decide (d < 0) = false := decide_eq_false (by omega)
            clear hct hfb hd1 hdi hd hadj hdd hc hp2 hxx hx hc16 hp hsh
            go_region_held3 (fun w' => (w'.cell? ⟨w.heap.size, 0, none⟩ = some (.int .i64 p.proto) ∧ w'.cell? ⟨w.heap.size, 1, none⟩ = some (.int .i64 p.cap) ∧ w'.cell? ⟨w.heap.size, 2, none⟩ = some (.int .i64 p.k) ∧ w'.cell? ⟨w.heap.size, 3, none⟩ = some (.slice An p.nodes.length cn) ∧ w'.cell? ⟨w.heap.size, 4, none⟩ = some (.slice (some ⟨gL, 0, none⟩) p.links.length cl) ∧ w'.cell? ⟨w.heap.size, 5, none⟩ = some (.slice Ad p.dests.length cd) ∧ w'.cell? ⟨w.heap.size, 6, none⟩ = some (.slice Ac p.checks.length cc)) ∧ w'.cell? ⟨gx, 0, none⟩ = some (.int .i64 (a : Int)) ∧ w'.cell? ⟨gx, 1, none⟩ = some (.int .i64 (b : Int))) (go_keep) (first | (go_at_call 36; (with_reducible refine (refUp_w f (k : Int) true HU ED.at_ hs).mono ?_); rintro e y1 ⟨rfl, hy1⟩; have E1 := ED.go hy1; have K1 := KD.up hy1; have hown1 := own_below hownD hy1; obtain ⟨a0, a1, a2, a3, a4, a5, a6⟩ := E1.cells; have x0 := K1.cell 0; have x1 := K1.cell 1) | (go_at_call 42; (with_reducible refine (clean_is f c HC _).mono ?_); rintro e yc ⟨rfl, rfl⟩) | (go_at_call 18; (with_reducible refine (refHops_w _ (a : Int) (b : Int) d HD E1.at_ hs).mono ?_); rintro e y2 ⟨rfl, hy2⟩; have E2 := E1.go hy2; have K2 := K1.up hy2; have hown2 := own_below hown1 hy2; obtain ⟨a0, a1, a2, a3, a4, a5, a6⟩ := E2.cells; have x0 := K2.cell 0; have x1 := K2.cell 1))
            repeat go_step
            go_roundw
            case rel => exact ⟨k + 1, by omega, by go_num, by rw [HN.out]; exact hown2, E2⟩
            case measure => simp [intOf]; omega
      · obtain rfl : k = p.links.length := by omega
        have HK := Lib.hid (show cutsK p f p.links.length = L by rw [← HV.out]; rfl)
        rw [HK.out] at hown
        obtain ⟨A, c, rfl, _⟩ := own_form hown
        go_wp2
        go_ret
        exact ⟨A, c, rfl, hown, E1.up⟩
end Go.Proofs.Ytlfdpfkimggeoaa
