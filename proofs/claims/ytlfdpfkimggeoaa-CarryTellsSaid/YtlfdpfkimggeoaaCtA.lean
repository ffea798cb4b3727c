/-
  The document's answer for layer 7: in, the link's other end, Fits.
-/
import Derived.Deep.QuietTactic
import Derived.BigQuiet
import Derived.Test.YtlfdpfkimggeoaaCaI
import Derived.Test.YtlfdpfkimggeoaaPlUf
import Derived.Test.YtlfdpfkimggeoaaPmB
import Derived.Test.YtlfdpfkimggeoaaAtM
namespace Go.Proofs.Ytlfdpfkimggeoaa
open Go.RowKit
set_option linter.unusedVariables false
set_option linter.unusedSimpArgs false

theorem refIn7_any (l : List Int) (A : Option Addr) (n c : Nat) (x : Int) (b : Bool) (HB : Hid (memI x l = b)) (HN : Hid (l.length = n)) (hn : n ≤ 9223372036854775807) {w : World} (hA : CellsAt w w.heap.size A (l.map (Value.int .i64))) :
    Calls Try.prog 47 #[.slice A n c, .int .i64 x] w fun e w' => e = .returned (.bool b) ∧ w = w' := by
  have HA := Lib.hid hA
  clear hA
  go_enter Try.func47, Try.ntmps47
  go_wp2
  go_loop [5] (fun s5 => ∃ k : Nat, k ≤ n ∧ s5 = .int .i64 (k : Nat) ∧ x ∉ l.take k) (fun s5 => n - (intOf s5).toNat)
  case atStart => exact ⟨0, Nat.zero_le _, rfl, by simp⟩
  case round =>
    obtain ⟨k, hk, rfl, hf⟩ := hrel
    have HF := Lib.hid hf
    clear hf
    by_cases hlt : k < n
    · obtain ⟨y, hy⟩ : ∃ y, l[k]? = some y := ⟨_, List.getElem?_eq_getElem (by rw [HN.out]; exact hlt)⟩
      obtain ⟨ad, rfl, -, cy⟩ := HA.out.int hy
      have HY := Lib.hid hy
      have k0 : (0 : Int) ≤ (k : Int) := by omega
      have k1 : (k : Int) < (n : Int) := by omega
      clear hy
      by_cases e : y = x
      · have t : (y == x) = true := by simp [e]
        have HE : Hid (true = b) := Lib.hid (by rw [← HB.out]; unfold memI; exact (decide_eq_true (by rw [← e]; exact List.mem_of_getElem? HY.out)).symm)
        clear e
        go_wp2
        go_ret
        exact ⟨ret_bool HE.out, rfl⟩
      · have t : (y == x) = false := by simp [e]
        have HNX : Hid (x ∉ l.take (k + 1)) := Lib.hid (by
          rw [List.take_add_one, HY.out]
          intro hm
          rcases List.mem_append.1 hm with hm | hm
          · exact HF.out hm
          · simp at hm; exact e hm.symm)
        clear e
        go_wp2
        go_round
        case rel => exact ⟨k + 1, by omega, by go_num, HNX.out⟩
        case measure => simp [intOf]; omega
    · have HE : Hid (false = b) := Lib.hid (by rw [← HB.out]; unfold memI; exact (decide_eq_false (by have h := HF.out; rwa [List.take_of_length_le (by rw [HN.out]; omega)] at h)).symm)
      go_wp2
      go_ret
      exact ⟨ret_bool HE.out, rfl⟩

theorem PBox.of {p : PPlan} {An Al Ad Ac : Option Addr} {cn cl cd cc : Nat} {w : World} (h : PAt w p p.proto p.cap p.k An p.nodes.length Al p.links.length Ad p.dests.length Ac p.checks.length) : PBox w.heap.size w w.heap.size p An p.nodes.length cn Al p.links.length cl Ad p.dests.length cd Ac p.checks.length cc (w.alloc (.cells #[.int .i64 p.proto, .int .i64 p.cap, .int .i64 p.k, .slice An p.nodes.length cn, .slice Al p.links.length cl, .slice Ad p.dests.length cd, .slice Ac p.checks.length cc] 29)) :=
  ⟨h.up (below_new w _), Blk.new _ _ _, below_new w _, (below_new w _).size⟩
set_option maxHeartbeats 8000000 in
set_option maxRecDepth 100000 in
theorem refOther5_w {p : PPlan} (link node v : Int) (HV : Hid (oiB p link node = v)) {An Al Ad Ac : Option Addr} {cn cl cd cc : Nat} {w : World} (h : PAt w p p.proto p.cap p.k An p.nodes.length Al p.links.length Ad p.dests.length Ac p.checks.length) (hs : PSmall p) :
    Calls Try.prog 14 #[.agg #[.int .i64 p.proto, .int .i64 p.cap, .int .i64 p.k, .slice An p.nodes.length cn, .slice Al p.links.length cl, .slice Ad p.dests.length cd, .slice Ac p.checks.length cc], .int .i64 link, .int .i64 node] w fun e w' => e = .returned (.int .i64 v) ∧ Below w.heap.size w w' := by
  have hv := HV.out
  unfold oiB otherB at hv
  have E0 := PBox.of (cn := cn) (cl := cl) (cd := cd) (cc := cc) h
  obtain ⟨a0, a1, a2, a3, a4, a5, a6⟩ := E0.cells
  have hll := hs.ll
  cases hR : rightB p
  · have HR := Lib.hid hR
    have HE : Hid (-1 = v) := Lib.hid (by rw [← hv, hR]; rfl)
    clear hv hR h
    go_enter Try.func14, Try.ntmps14
    go_wp2_with (first
      | (go_at_call 35; (with_reducible refine (RefRight_is false HR hs E0.at_).mono ?_); rintro e y1 ⟨rfl, hy1⟩; have E1 := E0.go hy1; obtain ⟨a0, a1, a2, a3, a4, a5, a6⟩ := E1.cells))
    go_ret
    exact ⟨ret_int HE.out, E1.up⟩
  · have HR := Lib.hid hR
    rw [hR, if_pos rfl] at hv
    clear hR
    by_cases h0 : link < 0
    · have HE : Hid (-1 = v) := Lib.hid (by rw [← hv, if_neg (by omega)])
      clear hv h
      go_enter Try.func14, Try.ntmps14
      go_wp2_with (first
        | (go_at_call 35; (with_reducible refine (RefRight_is true HR hs E0.at_).mono ?_); rintro e y1 ⟨rfl, hy1⟩; have E1 := E0.go hy1; obtain ⟨a0, a1, a2, a3, a4, a5, a6⟩ := E1.cells))
      go_ret
      exact ⟨ret_int HE.out, E1.up⟩
    · obtain ⟨i, rfl⟩ := Int.eq_ofNat_of_zero_le (Int.not_lt.1 h0)
      have i0 : (0 : Int) ≤ (i : Int) := by omega
      rw [if_pos i0, Int.toNat_natCast] at hv
      by_cases h1 : (i : Int) < (p.links.length : Int)
      · obtain ⟨l, hl⟩ : ∃ l, p.links[i]? = some l := ⟨_, List.getElem?_eq_getElem (by omega)⟩
        rw [hl] at hv
        dsimp only at hv
        unfold otherI at hv
        obtain ⟨gL, hgL, -, -, -, -⟩ := h.links.link hl
        subst hgL
        have HL := Lib.hid hl
        clear h hl
        by_cases e1 : node = l.a
        · have t1 : (node == l.a) = true := by simp [e1]
          have HE : Hid (l.b = v) := Lib.hid (by rw [← hv, if_pos e1])
          clear hv e1
          go_enter Try.func14, Try.ntmps14
          go_wp2_with (first
            | (go_at_call 35; (with_reducible refine (RefRight_is true HR hs E0.at_).mono ?_); rintro e y1 ⟨rfl, hy1⟩; have E1 := E0.go hy1; obtain ⟨a0, a1, a2, a3, a4, a5, a6⟩ := E1.cells; obtain ⟨l0, l1, l2⟩ := RowAt.linkAt E1.at_.links HL.out))
          go_ret
          exact ⟨ret_int HE.out, E1.up⟩
        · have t1 : (node == l.a) = false := by simp [e1]
          by_cases e2 : node = l.b
          · have t2 : (node == l.b) = true := by simp [e2]
            have HE : Hid (l.a = v) := Lib.hid (by rw [← hv, if_neg e1, if_pos e2])
            clear hv e1 e2
            go_enter Try.func14, Try.ntmps14
            go_wp2_with (first
              | (go_at_call 35; (with_reducible refine (RefRight_is true HR hs E0.at_).mono ?_); rintro e y1 ⟨rfl, hy1⟩; have E1 := E0.go hy1; obtain ⟨a0, a1, a2, a3, a4, a5, a6⟩ := E1.cells; obtain ⟨l0, l1, l2⟩ := RowAt.linkAt E1.at_.links HL.out))
            go_ret
            exact ⟨ret_int HE.out, E1.up⟩
          · have t2 : (node == l.b) = false := by simp [e2]
            have HE : Hid (-1 = v) := Lib.hid (by rw [← hv, if_neg e1, if_neg e2])
            clear hv e1 e2
            go_enter Try.func14, Try.ntmps14
            go_wp2_with (first
              | (go_at_call 35; (with_reducible refine (RefRight_is true HR hs E0.at_).mono ?_); rintro e y1 ⟨rfl, hy1⟩; have E1 := E0.go hy1; obtain ⟨a0, a1, a2, a3, a4, a5, a6⟩ := E1.cells; obtain ⟨l0, l1, l2⟩ := RowAt.linkAt E1.at_.links HL.out))
            go_ret
            exact ⟨ret_int HE.out, E1.up⟩
      · have HE : Hid (-1 = v) := Lib.hid (by rw [← hv, List.getElem?_eq_none (by omega)])
        clear hv h
        go_enter Try.func14, Try.ntmps14
        go_wp2_with (first
          | (go_at_call 35; (with_reducible refine (RefRight_is true HR hs E0.at_).mono ?_); rintro e y1 ⟨rfl, hy1⟩; have E1 := E0.go hy1; obtain ⟨a0, a1, a2, a3, a4, a5, a6⟩ := E1.cells))
        go_ret
        exact ⟨ret_int HE.out, E1.up⟩

set_option maxHeartbeats 8000000 in
set_option maxRecDepth 100000 in
theorem refFits7_w (p : PPlan) (node : Int) (r : Rt) (b : Bool) (HB : Hid (fitsB p node r = b)) {An Al Ad Ac A : Option Addr} {cn cl cd cc n c : Nat} {w : World} (h : PAt w p p.proto p.cap p.k An p.nodes.length Al p.links.length Ad p.dests.length Ac p.checks.length) (hs : PSmall p) (hr : RtAt w r A n) :
    Calls Try.prog 29 #[.agg #[.int .i64 p.proto, .int .i64 p.cap, .int .i64 p.k, .slice An p.nodes.length cn, .slice Al p.links.length cl, .slice Ad p.dests.length cd, .slice Ac p.checks.length cc], .int .i64 node, .agg #[.int .i64 r.kind, .int .i64 r.cost, .slice A n c]] w fun e w' => e = .returned (.bool b) ∧ Below w.heap.size w w' := by
  have hb := HB.out
  unfold fitsB at hb
  have E0 := PR.new (c := c) (cn := cn) (cl := cl) (cd := cd) (cc := cc) h hr
  obtain ⟨⟨a0, a1, a2, a3, a4, a5, a6⟩, b0, b1, b2⟩ := E0.cells
  have hln := hs.ln
  have hrn := hr.1
  have HRN := Lib.hid hrn
  obtain ⟨rr, hrr⟩ : ∃ v, rtRight r = v := ⟨_, rfl⟩
  have HRR := Lib.hid hrr
  cases hR : rightB p
  · have HR := Lib.hid hR
    have HE : Hid (false = b) := Lib.hid (by rw [← hb, hR]; rfl)
    clear hb hR h hr hrn hrr
    go_enter Try.func29, Try.ntmps29
    go_wp2_with (first
      | (go_at_call 35; (with_reducible refine (RefRight_is false HR hs E0.pat).mono ?_); rintro e y1 ⟨rfl, hy1⟩; have E1 := E0.go hy1; obtain ⟨⟨a0, a1, a2, a3, a4, a5, a6⟩, b0, b1, b2⟩ := E1.cells)
      | (go_at_call 50; (with_reducible refine (refRight6_is r rr HRR E1.rat).mono ?_); rintro e y2 ⟨rfl, hy2⟩; have E2 := E1.go hy2; obtain ⟨⟨a0, a1, a2, a3, a4, a5, a6⟩, b0, b1, b2⟩ := E2.cells))
    go_ret
    exact ⟨ret_bool HE.out, E2.up⟩
  · have HR := Lib.hid hR
    rw [hR, Bool.true_and] at hb
    have hpt := proto_two hR
    clear hR
    by_cases h0 : node < 0
    · have HE : Hid (false = b) := Lib.hid (by rw [← hb, decide_eq_false (by omega)]; rfl)
      clear hb h hr hrn hrr hpt
      cases rr
      all_goals
        go_enter Try.func29, Try.ntmps29
        go_wp2_with (first
          | (go_at_call 35; (with_reducible refine (RefRight_is true HR hs E0.pat).mono ?_); rintro e y1 ⟨rfl, hy1⟩; have E1 := E0.go hy1; obtain ⟨⟨a0, a1, a2, a3, a4, a5, a6⟩, b0, b1, b2⟩ := E1.cells)
          | (go_at_call 50; (with_reducible refine (refRight6_is r _ HRR E1.rat).mono ?_); rintro e y2 ⟨rfl, hy2⟩; have E2 := E1.go hy2; obtain ⟨⟨a0, a1, a2, a3, a4, a5, a6⟩, b0, b1, b2⟩ := E2.cells))
        go_ret
        exact ⟨ret_bool HE.out, E2.up⟩
    · obtain ⟨i, rfl⟩ := Int.eq_ofNat_of_zero_le (Int.not_lt.1 h0)
      have i0 : (0 : Int) ≤ (i : Int) := by omega
      rw [decide_eq_true i0, Bool.true_and] at hb
      by_cases h1 : (i : Int) < (p.nodes.length : Int)
      · obtain ⟨nd, hnd⟩ : ∃ nd, p.nodes[i]? = some nd := ⟨_, List.getElem?_eq_getElem (by omega)⟩
        rw [decide_eq_true h1, Bool.true_and, numAt_nat hnd] at hb
        unfold fitB at hb
        rw [hrr] at hb
        obtain ⟨gN, hgN, -, -, -⟩ := h.nodes.node hnd
        subst hgN
        have HND := Lib.hid hnd
        cases rr
        · have HE : Hid (false = b) := Lib.hid (by rw [← hb]; rfl)
          clear hb h hr hrn hrr hpt hnd
          go_enter Try.func29, Try.ntmps29
          go_wp2_with (first
            | (go_at_call 35; (with_reducible refine (RefRight_is true HR hs E0.pat).mono ?_); rintro e y1 ⟨rfl, hy1⟩; have E1 := E0.go hy1; obtain ⟨⟨a0, a1, a2, a3, a4, a5, a6⟩, b0, b1, b2⟩ := E1.cells)
            | (go_at_call 50; (with_reducible refine (refRight6_is r false HRR E1.rat).mono ?_); rintro e y2 ⟨rfl, hy2⟩; have E2 := E1.go hy2; obtain ⟨⟨a0, a1, a2, a3, a4, a5, a6⟩, b0, b1, b2⟩ := E2.cells))
          go_ret
          exact ⟨ret_bool HE.out, E2.up⟩
        · rw [Bool.true_and] at hb
          have hk3 := rtRight_kind hrr
          have h12 : n ≤ 12 := by have := rt_len hrr; omega
          by_cases k0 : r.kind = 0
          · have t1 : (r.kind == 1) = false := by simp [k0]
            have t2 : (r.kind == 2) = false := by simp [k0]
            have HE : Hid (true = b) := Lib.hid (by rw [← hb, decide_eq_true k0]; rfl)
            clear hb h hr hrn hrr hpt hnd k0 hk3
            go_enter Try.func29, Try.ntmps29
            go_wp2_with (first
              | (go_at_call 35; (with_reducible refine (RefRight_is true HR hs E0.pat).mono ?_); rintro e y1 ⟨rfl, hy1⟩; have E1 := E0.go hy1; obtain ⟨⟨a0, a1, a2, a3, a4, a5, a6⟩, b0, b1, b2⟩ := E1.cells)
              | (go_at_call 50; (with_reducible refine (refRight6_is r true HRR E1.rat).mono ?_); rintro e y2 ⟨rfl, hy2⟩; have E2 := E1.go hy2; obtain ⟨⟨a0, a1, a2, a3, a4, a5, a6⟩, b0, b1, b2⟩ := E2.cells))
            go_ret
            exact ⟨ret_bool HE.out, E2.up⟩
          · rw [decide_eq_false k0, Bool.false_or] at hb
            unfold holdsB at hb
            by_cases k1 : r.kind = 1
            · have t1 : (r.kind == 1) = true := by simp [k1]
              have HE : Hid ((p.proto == 1) = b) := Lib.hid (by
                rw [← hb]
                rcases hpt with ⟨e, _⟩ | ⟨e, _⟩
                · rw [if_neg (by omega), e, k1]; rfl
                · rw [if_pos e, e, k1]; rfl)
              clear hb h hr hrn hrr hpt hnd k0 k1 hk3
              go_enter Try.func29, Try.ntmps29
              go_wp2_with (first
                | (go_at_call 35; (with_reducible refine (RefRight_is true HR hs E0.pat).mono ?_); rintro e y1 ⟨rfl, hy1⟩; have E1 := E0.go hy1; obtain ⟨⟨a0, a1, a2, a3, a4, a5, a6⟩, b0, b1, b2⟩ := E1.cells)
                | (go_at_call 50; (with_reducible refine (refRight6_is r true HRR E1.rat).mono ?_); rintro e y2 ⟨rfl, hy2⟩; have E2 := E1.go hy2; obtain ⟨⟨a0, a1, a2, a3, a4, a5, a6⟩, b0, b1, b2⟩ := E2.cells))
              go_ret
              exact ⟨ret_bool HE.out, E2.up⟩
            · have k2 : r.kind = 2 := by omega
              have t1 : (r.kind == 1) = false := by simp [k1]
              have t2 : (r.kind == 2) = true := by simp [k2]
              clear k0 k1 hk3
              by_cases hp : p.proto = 2
              · rw [if_pos hp, decide_eq_true k2, Bool.true_and, hrn] at hb
                have t3 : (p.proto == 2) = true := by simp [hp]
                by_cases hc : (n : Int) ≤ p.cap
                · rw [decide_eq_true hc, Bool.true_and] at hb
                  have t4 : decide ((n : Int) ≤ p.cap) = true := decide_eq_true hc
                  obtain ⟨m, hm⟩ : ∃ m, memI nd.num r.path = m := ⟨_, rfl⟩
                  rw [hm] at hb
                  have HM := Lib.hid hm
                  have HE := Lib.hid hb
                  clear hb h hr hrn hrr hpt hnd hp hm k2
                  go_enter Try.func29, Try.ntmps29
                  go_wp2_with (first
                    | (go_at_call 35; (with_reducible refine (RefRight_is true HR hs E0.pat).mono ?_); rintro e y1 ⟨rfl, hy1⟩; have E1 := E0.go hy1; obtain ⟨⟨a0, a1, a2, a3, a4, a5, a6⟩, b0, b1, b2⟩ := E1.cells)
                    | (go_at_call 50; (with_reducible refine (refRight6_is r true HRR E1.rat).mono ?_); rintro e y2 ⟨rfl, hy2⟩; have E2 := E1.go hy2; obtain ⟨⟨a0, a1, a2, a3, a4, a5, a6⟩, b0, b1, b2⟩ := E2.cells; obtain ⟨n0, n1⟩ := RowAt.nodeAt E2.pat.nodes HND.out))
                  go_quiet ((go_at_call 47; exact Calls.quiet_of_same ((refIn7_any r.path A n c nd.num m HM HRN (by omega) (E2.rat.on (below_drewN _ _)).2.1).mono fun _ _ ⟨h1, h2⟩ => ⟨h1, h2.symm⟩)))
                  go_wp2
                  go_ret
                  exact ⟨ret_bool HE.out, below_draws E2.up _⟩
                · have t4 : decide ((n : Int) ≤ p.cap) = false := decide_eq_false hc
                  have HE : Hid (false = b) := Lib.hid (by rw [← hb, decide_eq_false hc]; rfl)
                  clear hb h hr hrn hrr hpt hnd hp hc k2
                  go_enter Try.func29, Try.ntmps29
                  go_wp2_with (first
                    | (go_at_call 35; (with_reducible refine (RefRight_is true HR hs E0.pat).mono ?_); rintro e y1 ⟨rfl, hy1⟩; have E1 := E0.go hy1; obtain ⟨⟨a0, a1, a2, a3, a4, a5, a6⟩, b0, b1, b2⟩ := E1.cells)
                    | (go_at_call 50; (with_reducible refine (refRight6_is r true HRR E1.rat).mono ?_); rintro e y2 ⟨rfl, hy2⟩; have E2 := E1.go hy2; obtain ⟨⟨a0, a1, a2, a3, a4, a5, a6⟩, b0, b1, b2⟩ := E2.cells))
                  go_quiet (fail)
                  go_wp2
                  go_ret
                  exact ⟨ret_bool HE.out, below_draws E2.up _⟩
              · rw [if_neg hp] at hb
                have t3 : (p.proto == 2) = false := by simp [hp]
                have HE : Hid (false = b) := Lib.hid (by rw [← hb]; exact (decide_eq_false (by omega)).symm)
                clear hb h hr hrn hrr hpt hnd hp k2
                go_enter Try.func29, Try.ntmps29
                go_wp2_with (first
                  | (go_at_call 35; (with_reducible refine (RefRight_is true HR hs E0.pat).mono ?_); rintro e y1 ⟨rfl, hy1⟩; have E1 := E0.go hy1; obtain ⟨⟨a0, a1, a2, a3, a4, a5, a6⟩, b0, b1, b2⟩ := E1.cells)
                  | (go_at_call 50; (with_reducible refine (refRight6_is r true HRR E1.rat).mono ?_); rintro e y2 ⟨rfl, hy2⟩; have E2 := E1.go hy2; obtain ⟨⟨a0, a1, a2, a3, a4, a5, a6⟩, b0, b1, b2⟩ := E2.cells))
                go_quiet (fail)
                go_wp2
                go_ret
                exact ⟨ret_bool HE.out, below_draws E2.up _⟩
      · have HE : Hid (false = b) := Lib.hid (by rw [← hb, decide_eq_false h1]; rfl)
        clear hb h hr hrn hrr hpt h0
        cases rr
        all_goals
          go_enter Try.func29, Try.ntmps29
          go_wp2_with (first
            | (go_at_call 35; (with_reducible refine (RefRight_is true HR hs E0.pat).mono ?_); rintro e y1 ⟨rfl, hy1⟩; have E1 := E0.go hy1; obtain ⟨⟨a0, a1, a2, a3, a4, a5, a6⟩, b0, b1, b2⟩ := E1.cells)
            | (go_at_call 50; (with_reducible refine (refRight6_is r _ HRR E1.rat).mono ?_); rintro e y2 ⟨rfl, hy2⟩; have E2 := E1.go hy2; obtain ⟨⟨a0, a1, a2, a3, a4, a5, a6⟩, b0, b1, b2⟩ := E2.cells))
          go_ret
          exact ⟨ret_bool HE.out, E2.up⟩
end Go.Proofs.Ytlfdpfkimggeoaa
