/-
  The document's answer for layer 5: Up, Other, Around.
-/
import Derived.Deep.QuietTactic
import Derived.BigQuiet
import Derived.Test.YtlfdpfkimggeoaaPlUf
import Derived.Test.YtlfdpfkimggeoaaPmB
import Derived.Test.YtlfdpfkimggeoaaGrE
namespace Go.Proofs.Ytlfdpfkimggeoaa
open Go.RowKit Go.Sort
set_option linter.unusedVariables false
set_option linter.unusedSimpArgs false

theorem tmod_parts (f : Int) : -65536 < f.tmod 65536 ∧ f.tmod 65536 < 65536 ∧ (f.tmod 65536 + 65536) % 65536 = (cleanB f : Int) := by
  unfold cleanB
  by_cases h : 0 ≤ f
  · rw [Int.tmod_eq_emod_of_nonneg h]; omega
  · have e : f.tmod 65536 = -((-f) % 65536) := by
      rw [← Int.tmod_eq_emod_of_nonneg (a := -f) (by omega), Int.neg_tmod, Int.neg_neg]
    rw [e]; omega

theorem Clean_any (f : Int) (w : World) :
    Calls Try.prog 42 #[.int .i64 f] w fun e w' => e = .returned (.int .i64 (cleanB f : Int)) ∧ w' = w := by
  obtain ⟨h1, h2, h3⟩ := tmod_parts f
  have H3 := Lib.hid h3
  clear h3
  go_enter Try.func42, Try.ntmps42
  go_wp2
  go_ret
  exact ⟨ret_int H3.out, rfl⟩

set_option maxHeartbeats 800000 in
theorem refHas_yes (f : Int) (l : Nat) (w : World) (h : l < 16) :
    Calls Try.prog 62 #[.int .i64 f, .int .i64 (l : Int)] w fun e w' => e = .returned (.bool (hasB f l)) ∧ ∃ n, w' = w.drewN n := by
  have hp := pow16 l (by omega)
  have hp1 : 1 ≤ 2 ^ l := Nat.one_le_two_pow
  have hs := shl_one l (by omega)
  have hc := cleanB_lt f
  obtain ⟨c, hcc⟩ : ∃ c, cleanB f = c := ⟨_, rfl⟩
  obtain ⟨p, hpp⟩ : ∃ p, 2 ^ l = p := ⟨_, rfl⟩
  have hv : hasB f l = (((c : Int) / (p : Int)) % 2 == 1) := by
    rw [hasB_clean f l h, Nat.testBit_eq_decide_div_mod_eq, hcc, hpp]
    rw [Bool.eq_iff_iff]
    simp
    omega
  rw [hcc] at hc
  rw [hpp] at hp hp1 hs
  have HV := Lib.hid hv
  have HC := Lib.hid hcc
  clear hv hcc hpp
  go_enter Try.func62, Try.ntmps62
  go_wp2
  go_quiet ((go_at_call 42; exact Calls.quiet_of_same (HC.out ▸ Clean_any f _)))
  go_wp2
  go_ret
  refine ⟨ret_bool ?_, nq, rfl⟩
  rw [HV.out]
  have hq1 : 0 ≤ (c : Int) / (p : Int) := Int.ediv_nonneg (by omega) (by omega)
  have hq2 : (c : Int) / (p : Int) ≤ c := Int.ediv_le_self _ (by omega)
  rw [IntWalk.wrap64_in _ (by omega), Int.tmod_eq_emod_of_nonneg hq1]

set_option maxHeartbeats 400000 in
theorem refHas_no (f l : Int) (w : World) (h : ¬ (0 ≤ l ∧ l < 16)) :
    Calls Try.prog 62 #[.int .i64 f, .int .i64 l] w fun e w' => e = .returned (.bool (hasB f l)) ∧ ∃ n, w' = w.drewN n := by
  have hv : hasB f l = false := by
    have : (decide (0 ≤ l) && decide (l < 16)) = false := by simp; omega
    unfold hasB
    rw [this]; rfl
  rw [hv]
  by_cases h0 : l < 0
  · clear h
    go_enter Try.func62, Try.ntmps62
    go_wp2
    go_ret
    exact ⟨rfl, 0, rfl⟩
  · have h1 : 16 ≤ l := by omega
    clear h
    go_enter Try.func62, Try.ntmps62
    go_wp2
    go_ret
    exact ⟨rfl, 0, rfl⟩

theorem refHas_any (f l : Int) (w : World) :
    Calls Try.prog 62 #[.int .i64 f, .int .i64 l] w fun e w' => e = .returned (.bool (hasB f l)) ∧ ∃ n, w' = w.drewN n := by
  by_cases h : 0 ≤ l ∧ l < 16
  · obtain ⟨n, rfl⟩ := Int.eq_ofNat_of_zero_le h.1
    exact refHas_yes f n w (by omega)
  · exact refHas_no f l w h
/-- The document's Has, its answer named; nothing older turns. -/
theorem refHas_is (f l : Int) (b : Bool) (H : Hid (hasB f l = b)) {B : Nat} {w0 w : World} (hb : Below B w0 w) :
    Calls Try.prog 62 #[.int .i64 f, .int .i64 l] w fun e w' => e = .returned (.bool b) ∧ ∃ n, w' = w.drewN n ∧ Below B w0 w' :=
  (refHas_any f l w).mono fun _ _ ⟨he, n, hw⟩ => ⟨by rw [he, show hasB f l = b from H], n, hw, hw ▸ below_draws hb n⟩

theorem RowAt.nodeG {w : World} {B g : Nat} {l : List PNode} (h : RowAt w B (some ⟨g, 0, none⟩) (l.flatMap nodeC)) {k : Nat} {x : PNode} (hk : l[k]? = some x) : w.cell? ⟨g, k * 2, none⟩ = some (.string x.name) ∧ w.cell? ⟨g, k * 2 + 1, none⟩ = some (.int .i64 x.num) := by
  obtain ⟨g', e, _, h1, h2⟩ := h.node hk
  have e := Option.some.inj e
  injection e with e
  subst e
  exact ⟨h1, h2⟩
theorem RowAt.linkG {w : World} {B g : Nat} {l : List PLink} (h : RowAt w B (some ⟨g, 0, none⟩) (l.flatMap linkC)) {k : Nat} {x : PLink} (hk : l[k]? = some x) : w.cell? ⟨g, k * 3, none⟩ = some (.int .i64 x.a) ∧ w.cell? ⟨g, k * 3 + 1, none⟩ = some (.int .i64 x.b) ∧ w.cell? ⟨g, k * 3 + 2, none⟩ = some (.int .i64 x.cost) := by
  obtain ⟨g', e, _, h1, h2, h3⟩ := h.link hk
  have e := Option.some.inj e
  injection e with e
  subst e
  exact ⟨h1, h2, h3⟩

/-- A link's other end, of a network that may be or may not. -/
def oiG (p : PPlan) (link node : Int) : Int := if rightB p = true then otherB p link node else -1
theorem PBox.ofG {p : PPlan} {An Al Ad Ac : Option Addr} {cn cl cd cc : Nat} {w : World} (h : PAt w p p.proto p.cap p.k An p.nodes.length Al p.links.length Ad p.dests.length Ac p.checks.length) : PBox w.heap.size w w.heap.size p An p.nodes.length cn Al p.links.length cl Ad p.dests.length cd Ac p.checks.length cc (w.alloc (.cells #[.int .i64 p.proto, .int .i64 p.cap, .int .i64 p.k, .slice An p.nodes.length cn, .slice Al p.links.length cl, .slice Ad p.dests.length cd, .slice Ac p.checks.length cc] 29)) :=
  ⟨h.up (below_new w _), Blk.new _ _ _, below_new w _, (below_new w _).size⟩
set_option maxHeartbeats 8000000 in
set_option maxRecDepth 100000 in
theorem refOther5_g {p : PPlan} (link node v : Int) (HV : Hid (oiG p link node = v)) {An Al Ad Ac : Option Addr} {cn cl cd cc : Nat} {w : World} (h : PAt w p p.proto p.cap p.k An p.nodes.length Al p.links.length Ad p.dests.length Ac p.checks.length) (hs : PSmall p) :
    Calls Try.prog 14 #[.agg #[.int .i64 p.proto, .int .i64 p.cap, .int .i64 p.k, .slice An p.nodes.length cn, .slice Al p.links.length cl, .slice Ad p.dests.length cd, .slice Ac p.checks.length cc], .int .i64 link, .int .i64 node] w fun e w' => e = .returned (.int .i64 v) ∧ Below w.heap.size w w' := by
  have hv := HV.out
  unfold oiG otherB at hv
  have E0 := PBox.ofG (cn := cn) (cl := cl) (cd := cd) (cc := cc) h
  obtain ⟨a0, a1, a2, a3, a4, a5, a6⟩ := E0.cells
  have hll := hs.ll
  cases hR : rightB p
  · have HR := Lib.hid hR
    have HE : Hid (-1 = v) := Lib.hid (by rw [← hv, hR]; rfl)
    clear hv hR h
    go_enter Try.func14, Try.ntmps14
    go_wp2_with (first
      | (go_at_call 35; (with_reducible refine (RefRight_is false HR hs E0.at_).mono ?_); rintro e y1 ⟨rfl, hy1⟩; have E1 := E0.go hy1; obtain ⟨a0, a1, a2, a3, a4, a5, a6⟩ := E1.cells))
    go_ret
    exact ⟨ret_int HE.out, E1.up⟩
  · have HR := Lib.hid hR
    rw [hR, if_pos rfl] at hv
    clear hR
    by_cases h0 : link < 0
    · have HE : Hid (-1 = v) := Lib.hid (by rw [← hv, if_neg (by omega)])
      clear hv h
      go_enter Try.func14, Try.ntmps14
      go_wp2_with (first
        | (go_at_call 35; (with_reducible refine (RefRight_is true HR hs E0.at_).mono ?_); rintro e y1 ⟨rfl, hy1⟩; have E1 := E0.go hy1; obtain ⟨a0, a1, a2, a3, a4, a5, a6⟩ := E1.cells))
      go_ret
      exact ⟨ret_int HE.out, E1.up⟩
    · obtain ⟨i, rfl⟩ := Int.eq_ofNat_of_zero_le (Int.not_lt.1 h0)
      have i0 : (0 : Int) ≤ (i : Int) := by omega
      rw [if_pos i0, Int.toNat_natCast] at hv
      by_cases h1 : (i : Int) < (p.links.length : Int)
      · obtain ⟨l, hl⟩ : ∃ l, p.links[i]? = some l := ⟨_, List.getElem?_eq_getElem (by omega)⟩
        rw [hl] at hv
        dsimp only at hv
        unfold otherI at hv
        obtain ⟨gL, hgL, -, -, -, -⟩ := h.links.link hl
        subst hgL
        have HL := Lib.hid hl
        clear h hl
        by_cases e1 : node = l.a
        · have t1 : (node == l.a) = true := by simp [e1]
          have HE : Hid (l.b = v) := Lib.hid (by rw [← hv, if_pos e1])
          clear hv e1
          go_enter Try.func14, Try.ntmps14
          go_wp2_with (first
            | (go_at_call 35; (with_reducible refine (RefRight_is true HR hs E0.at_).mono ?_); rintro e y1 ⟨rfl, hy1⟩; have E1 := E0.go hy1; obtain ⟨a0, a1, a2, a3, a4, a5, a6⟩ := E1.cells; obtain ⟨l0, l1, l2⟩ := RowAt.linkG E1.at_.links HL.out))
          go_ret
          exact ⟨ret_int HE.out, E1.up⟩
        · have t1 : (node == l.a) = false := by simp [e1]
          by_cases e2 : node = l.b
          · have t2 : (node == l.b) = true := by simp [e2]
            have HE : Hid (l.a = v) := Lib.hid (by rw [← hv, if_neg e1, if_pos e2])
            clear hv e1 e2
            go_enter Try.func14, Try.ntmps14
            go_wp2_with (first
              | (go_at_call 35; (with_reducible refine (RefRight_is true HR hs E0.at_).mono ?_); rintro e y1 ⟨rfl, hy1⟩; have E1 := E0.go hy1; obtain ⟨a0, a1, a2, a3, a4, a5, a6⟩ := E1.cells; obtain ⟨l0, l1, l2⟩ := RowAt.linkG E1.at_.links HL.out))
            go_ret
            exact ⟨ret_int HE.out, E1.up⟩
          · have t2 : (node == l.b) = false := by simp [e2]
            have HE : Hid (-1 = v) := Lib.hid (by rw [← hv, if_neg e1, if_neg e2])
            clear hv e1 e2
            go_enter Try.func14, Try.ntmps14
            go_wp2_with (first
              | (go_at_call 35; (with_reducible refine (RefRight_is true HR hs E0.at_).mono ?_); rintro e y1 ⟨rfl, hy1⟩; have E1 := E0.go hy1; obtain ⟨a0, a1, a2, a3, a4, a5, a6⟩ := E1.cells; obtain ⟨l0, l1, l2⟩ := RowAt.linkG E1.at_.links HL.out))
            go_ret
            exact ⟨ret_int HE.out, E1.up⟩
      · have HE : Hid (-1 = v) := Lib.hid (by rw [← hv, List.getElem?_eq_none (by omega)])
        clear hv h
        go_enter Try.func14, Try.ntmps14
        go_wp2_with (first
          | (go_at_call 35; (with_reducible refine (RefRight_is true HR hs E0.at_).mono ?_); rintro e y1 ⟨rfl, hy1⟩; have E1 := E0.go hy1; obtain ⟨a0, a1, a2, a3, a4, a5, a6⟩ := E1.cells))
        go_ret
        exact ⟨ret_int HE.out, E1.up⟩


def upB (p : PPlan) (f link : Int) : Bool := decide (0 ≤ link) && (decide (link < (p.links.length : Int)) && !hasB f link)
set_option maxHeartbeats 4000000 in
theorem refUp_w {p : PPlan} (f link : Int) (v : Bool) (HV : Hid (upB p f link = v)) {An Al Ad Ac : Option Addr} {cn cl cd cc : Nat} {w : World} (h : PAt w p p.proto p.cap p.k An p.nodes.length Al p.links.length Ad p.dests.length Ac p.checks.length) (hs : PSmall p) :
    Calls Try.prog 36 #[.agg #[.int .i64 p.proto, .int .i64 p.cap, .int .i64 p.k, .slice An p.nodes.length cn, .slice Al p.links.length cl, .slice Ad p.dests.length cd, .slice Ac p.checks.length cc], .int .i64 f, .int .i64 link] w fun e w' => e = .returned (.bool v) ∧ Below w.heap.size w w' := by
  have hv := HV.out
  unfold upB at hv
  have E0 := PBox.ofG (cn := cn) (cl := cl) (cd := cd) (cc := cc) h
  obtain ⟨a0, a1, a2, a3, a4, a5, a6⟩ := E0.cells
  have hll := hs.ll
  clear h
  by_cases h0 : 0 ≤ link
  · by_cases h1 : link < (p.links.length : Int)
    · obtain ⟨b, hb⟩ : ∃ b, hasB f link = b := ⟨_, rfl⟩
      have HB := Lib.hid hb
      have HE : Hid ((!b) = v) := Lib.hid (by rw [← hv, decide_eq_true h0, decide_eq_true h1, hb]; rfl)
      clear hv hb
      go_enter Try.func36, Try.ntmps36
      go_wp2_with (go_at_call 62; (with_reducible refine (refHas_is f link b HB E0.up).mono ?_); rintro e y1 ⟨rfl, n, rfl, hy1⟩)
      go_ret
      exact ⟨ret_bool HE.out, hy1⟩
    · have HE : Hid (false = v) := Lib.hid (by rw [← hv, decide_eq_false h1]; simp)
      clear hv
      go_enter Try.func36, Try.ntmps36
      go_wp2
      go_ret
      exact ⟨ret_bool HE.out, E0.up⟩
  · have HE : Hid (false = v) := Lib.hid (by rw [← hv, decide_eq_false h0]; simp)
    clear hv
    go_enter Try.func36, Try.ntmps36
    go_wp2
    go_ret
    exact ⟨ret_bool HE.out, E0.up⟩
theorem up_at {p : PPlan} {f : Int} {k : Nat} {l : PLink} (h : p.links[k]? = some l) : upB p f (k : Int) = !hasB f (k : Int) := by
  have hk := (List.getElem?_eq_some_iff.1 h).1
  unfold upB
  rw [decide_eq_true (by omega), decide_eq_true (by omega)]
  rfl
/-- The links of a node, of a network that may be or may not. -/
def aroundG (p : PPlan) (f node : Int) : List Nat := if rightB p = true then aroundB p f node else []
/-- A list of links or nodes that a call tells. -/
def Lists (L : List Nat) (w : World) (e : Ending) (w' : World) : Prop := ∃ A c, e = .returned (.slice A L.length c) ∧ w'.ownsRow w.heap.size 3 1 (.slice A L.length c) L.length (intCells L) ∧ Below w.heap.size w w'
theorem around_ends {p : PPlan} (hg : GPlan p) {f node : Int} {k : Nat} {l : PLink} (h : p.links[k]? = some l) : arB p f node k = (!hasB f (k : Int) && (decide (l.a = node) || decide (l.b = node))) := by
  rw [arB_at h]
  obtain ⟨a, b, ea, eb, hab, hbn⟩ := hg.link k l h
  rw [Bool.and_comm]
  congr 1
  by_cases e1 : node = l.a
  · rw [show otherI l node = l.b by unfold otherI; rw [if_pos e1], decide_eq_true (show l.a = node from e1.symm), decide_eq_true (by omega)]; rfl
  · by_cases e2 : node = l.b
    · rw [show otherI l node = l.a by unfold otherI; rw [if_neg e1, if_pos e2], decide_eq_true (show l.b = node from e2.symm), decide_eq_true (by omega)]; simp
    · rw [show otherI l node = -1 by unfold otherI; rw [if_neg e1, if_neg e2], decide_eq_false (show ¬ l.a = node from fun e => e1 e.symm), decide_eq_false (show ¬ l.b = node from fun e => e2 e.symm)]; rfl
theorem own_box {p : PPlan} {w w1 w2 : World} {g : Nat} {An Al Ad Ac : Option Addr} {ln ll ld lc cn cl cd cc : Nat} {v : Value} {n : Nat} {xs : List Value} (h : PBox w.heap.size w g p An ln cn Al ll cl Ad ld cd Ac lc cc w1) (ho : w1.ownsRow w.heap.size 3 1 v n xs) (hg : w1.grownBy w2 v.ownBlock) (hA : PAt w p p.proto p.cap p.k An ln Al ll Ad ld Ac lc) : PBox w.heap.size w g p An ln cn Al ll cl Ad ld cd Ac lc cc w2 := by
  have hb := h.up.grown hg h.size (fun g hg => (ho.lt g hg).1)
  exact ⟨hA.up hb, h.blk.grown hg (fun e1 => own_blk_ne ho h.blk (by decide) e1.symm), hb, hb.size⟩
set_option maxHeartbeats 8000000 in
set_option maxRecDepth 100000 in
theorem refAround_w {p : PPlan} (f node : Int) (L : List Nat) (HL : Hid (aroundG p f node = L)) {An Al Ad Ac : Option Addr} {cn cl cd cc : Nat} {w : World} (h : PAt w p p.proto p.cap p.k An p.nodes.length Al p.links.length Ad p.dests.length Ac p.checks.length) (hs : PSmall p) :
    Calls Try.prog 12 #[.agg #[.int .i64 p.proto, .int .i64 p.cap, .int .i64 p.k, .slice An p.nodes.length cn, .slice Al p.links.length cl, .slice Ad p.dests.length cd, .slice Ac p.checks.length cc], .int .i64 f, .int .i64 node] w (Lists L w) := by
  have hv := HL.out
  unfold aroundG at hv
  have E0 := PBox.ofG (cn := cn) (cl := cl) (cd := cd) (cc := cc) h
  obtain ⟨a0, a1, a2, a3, a4, a5, a6⟩ := E0.cells
  have hll := hs.ll
  have HA := Lib.hid h
  clear h
  cases hR : rightB p
  · have HR := Lib.hid hR
    have HE : Hid (([] : List Nat) = L) := Lib.hid (by rw [← hv, hR]; rfl)
    clear hv hR
    go_enter Try.func12, Try.ntmps12
    go_wp2_with (first
      | (go_at_call 35; (with_reducible refine (RefRight_is false HR hs E0.at_).mono ?_); rintro e y1 ⟨rfl, hy1⟩; have E1 := E0.go hy1; obtain ⟨a0, a1, a2, a3, a4, a5, a6⟩ := E1.cells))
    go_loopw [8, 9] (fun s8 s9 wr => s8 = .slice none 0 0 ∧ s9 = .int .i64 0 ∧ PBox w.heap.size w w.heap.size p An p.nodes.length cn Al p.links.length cl Ad p.dests.length cd Ac p.checks.length cc wr) (fun _ _ _ => 0)
    case atStart => exact ⟨rfl, rfl, E1⟩
    case round =>
      clear a0 a1 a2 a3 a4 a5 a6 E1
      obtain ⟨rfl, rfl, E1⟩ := hrel
      obtain ⟨a0, a1, a2, a3, a4, a5, a6⟩ := E1.cells
      by_cases hz : (0 : Int) < (p.links.length : Int)
      · go_wp2
        go_ret
        exact ⟨none, 0, by rw [← HE.out]; rfl, by rw [← HE.out]; exact World.ownsRow_nil _ _ _ _, E1.up⟩
      · go_wp2
        go_ret
        exact ⟨none, 0, by rw [← HE.out]; rfl, by rw [← HE.out]; exact World.ownsRow_nil _ _ _ _, E1.up⟩
  · have HR := Lib.hid hR
    rw [hR, if_pos rfl] at hv
    have hgp := gplan_right hR
    have hl16 := hgp.l16
    have HG := Lib.hid hgp
    have HV := Lib.hid hv
    obtain ⟨i0, hi, hz0, hz1, hz2⟩ := info_parts intInfo
    clear hv hR
    go_enter Try.func12, Try.ntmps12
    go_wp2_with (first
      | (go_at_call 35; (with_reducible refine (RefRight_is true HR hs E0.at_).mono ?_); rintro e y1 ⟨rfl, hy1⟩; have E1 := E0.go hy1; obtain ⟨a0, a1, a2, a3, a4, a5, a6⟩ := E1.cells))
    clear E0 hy1
    go_loopw [8, 9] (fun s8 s9 wr => ∃ k : Nat, k ≤ p.links.length ∧ s9 = .int .i64 (k : Nat) ∧ wr.ownsRow w.heap.size 3 1 s8 (aroundK p f node k).length (intCells (aroundK p f node k)) ∧ PBox w.heap.size w w.heap.size p An p.nodes.length cn Al p.links.length cl Ad p.dests.length cd Ac p.checks.length cc wr) (fun _ s9 _ => p.links.length - (intOf s9).toNat)
    case atStart => exact ⟨0, Nat.zero_le _, rfl, World.ownsRow_nil _ _ _ _, E1⟩
    case round =>
      clear a0 a1 a2 a3 a4 a5 a6 E1
      obtain ⟨k, hk, rfl, hown, E1⟩ := hrel
      have hkl := aroundK_len p f node k
      obtain ⟨a0, a1, a2, a3, a4, a5, a6⟩ := E1.cells
      by_cases hlt : k < p.links.length
      · obtain ⟨l, hl⟩ : ∃ l, p.links[k]? = some l := ⟨_, List.getElem?_eq_getElem hlt⟩
        obtain ⟨gL, hgL, -, -, -, -⟩ := E1.at_.links.link hl
        subst hgL
        have har := around_ends (f := f) (node := node) HG.out hl
        obtain ⟨b, hb⟩ : ∃ b, hasB f (k : Int) = b := ⟨_, rfl⟩
        have HU : Hid (upB p f (k : Int) = !b) := Lib.hid (by rw [up_at hl, hb])
        obtain ⟨c1, hc1⟩ : ∃ c, (l.a == node) = c := ⟨_, rfl⟩
        obtain ⟨c2, hc2⟩ : ∃ c, (l.b == node) = c := ⟨_, rfl⟩
        have e1 : decide (l.a = node) = c1 := by rw [← hc1]; rfl
        have e2 : decide (l.b = node) = c2 := by rw [← hc2]; rfl
        rw [hb, e1, e2] at har
        have n0 : (0 : Int) ≤ (k : Int) := by omega
        have n1 : (k : Int) < (p.links.length : Int) := by omega
        have HLK := Lib.hid hl
        clear hb e1 e2 hl
        cases b
        · cases c1
          · cases c2
            · have HN := Lib.hid (aroundK_no (har.trans (by rfl)))
              clear har
              go_wp2_with (first | (go_at_call 36; (with_reducible refine (refUp_w f (k : Int) true HU E1.at_ hs).mono ?_); rintro e y2 ⟨rfl, hy2⟩; have E2 := E1.go hy2; obtain ⟨a0, a1, a2, a3, a4, a5, a6⟩ := E2.cells; obtain ⟨l0, l1, l2⟩ := RowAt.linkG E2.at_.links HLK.out; have hown2 := own_below hown hy2))
              go_roundw
              case rel => exact ⟨k + 1, by omega, by go_num, by rw [HN.out]; exact hown2, E2⟩
              case measure => simp [intOf]; omega
            · have HY := Lib.hid (aroundK_yes (har.trans (by rfl)))
              clear har
              go_wp2_with (first | (go_at_call 36; (with_reducible refine (refUp_w f (k : Int) true HU E1.at_ hs).mono ?_); rintro e y2 ⟨rfl, hy2⟩; have E2 := E1.go hy2; obtain ⟨a0, a1, a2, a3, a4, a5, a6⟩ := E2.cells; obtain ⟨l0, l1, l2⟩ := RowAt.linkG E2.at_.links HLK.out; have hown2 := own_below hown hy2) | (at_builtin; refine wpList_append_own _ rfl _ _ 22 rfl w.heap.size 3 i0 (.int .i64 0) 1 8 Try.underlying22 hi hz0 hz1 hz2 rfl (by decide) _ _ _ rfl (own_alloc hown2 _) ⟨y2.heap.size, 0, none⟩ 1 1 [.int .i64 (k : Nat)] rfl rfl (cell_one_new _ _ _) (by simp [Value.oneCell']) (by unfold maxLen; omega) (by omega) (by have := E2.size; simp; omega) ?_; intro v' w6 hown6 hgrow6 _))
              have E6 : PBox w.heap.size w w.heap.size p An p.nodes.length cn _ p.links.length cl Ad p.dests.length cd Ac p.checks.length cc w6 := own_box (E2.alloc _) (own_alloc hown2 _) hgrow6 HA.out
              go_roundw
              case rel => exact ⟨k + 1, by omega, by go_num, by rw [HY.out]; simpa [intCells] using hown6, E6⟩
              case measure => simp [intOf]; omega
          · have HY := Lib.hid (aroundK_yes (har.trans (by rfl)))
            clear har
            go_wp2_with (first | (go_at_call 36; (with_reducible refine (refUp_w f (k : Int) true HU E1.at_ hs).mono ?_); rintro e y2 ⟨rfl, hy2⟩; have E2 := E1.go hy2; obtain ⟨a0, a1, a2, a3, a4, a5, a6⟩ := E2.cells; obtain ⟨l0, l1, l2⟩ := RowAt.linkG E2.at_.links HLK.out; have hown2 := own_below hown hy2) | (at_builtin; refine wpList_append_own _ rfl _ _ 22 rfl w.heap.size 3 i0 (.int .i64 0) 1 8 Try.underlying22 hi hz0 hz1 hz2 rfl (by decide) _ _ _ rfl (own_alloc hown2 _) ⟨y2.heap.size, 0, none⟩ 1 1 [.int .i64 (k : Nat)] rfl rfl (cell_one_new _ _ _) (by simp [Value.oneCell']) (by unfold maxLen; omega) (by omega) (by have := E2.size; simp; omega) ?_; intro v' w6 hown6 hgrow6 _))
            have E6 : PBox w.heap.size w w.heap.size p An p.nodes.length cn _ p.links.length cl Ad p.dests.length cd Ac p.checks.length cc w6 := own_box (E2.alloc _) (own_alloc hown2 _) hgrow6 HA.out
            go_roundw
            case rel => exact ⟨k + 1, by omega, by go_num, by rw [HY.out]; simpa [intCells] using hown6, E6⟩
            case measure => simp [intOf]; omega
        · have har : arB p f node k = false := har.trans (by rfl)
          have HN := Lib.hid (aroundK_no har)
          clear har
          go_wp2_with (first | (go_at_call 36; (with_reducible refine (refUp_w f (k : Int) false HU E1.at_ hs).mono ?_); rintro e y2 ⟨rfl, hy2⟩; have E2 := E1.go hy2; obtain ⟨a0, a1, a2, a3, a4, a5, a6⟩ := E2.cells; obtain ⟨l0, l1, l2⟩ := RowAt.linkG E2.at_.links HLK.out; have hown2 := own_below hown hy2))
          go_roundw
          case rel => exact ⟨k + 1, by omega, by go_num, by rw [HN.out]; exact hown2, E2⟩
          case measure => simp [intOf]; omega
      · have hkk : k = p.links.length := by omega
        have HK := Lib.hid (show aroundK p f node k = L by rw [← HV.out]; unfold aroundB; rw [hkk])
        rw [HK.out] at hown
        obtain ⟨A, c, rfl, _⟩ := own_form hown
        go_wp2
        go_ret
        exact ⟨A, c, rfl, hown, E1.up⟩
end Go.Proofs.Ytlfdpfkimggeoaa
