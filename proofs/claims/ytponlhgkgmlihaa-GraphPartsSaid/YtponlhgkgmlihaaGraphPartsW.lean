/-
  GraphParts: the walk.
-/
import Derived.Deep.QuietTactic
import Derived.BigQuiet
import Derived.IntWalk
import Derived.Deep.DeepCutAuto
import Derived.Test.YtponlhgkgmlihaaGrI
import Derived.Test.YtponlhgkgmlihaaGraphTurnsW
namespace Go.Proofs.Ytponlhgkgmlihaa
open Go.RowKit
set_option linter.unusedVariables false
set_option linter.unusedSimpArgs false

theorem quiet_add5 {P : Program} {f : FuncId} {args : Array Value} {w : World} {a n : Nat} {v : Value}
    (h : Calls P f args (w.drewN (a + n)) fun e w' => e = .returned v ∧ ∃ m, w' = (w.drewN (a + n)).drewN m) :
    Calls P f args (w.drewN (a + n)) fun e w'' => e = .returned v ∧ ∃ m, w'' = w.drewN (a + m) :=
  h.mono fun _ _ ⟨he, m, hm⟩ => ⟨he, n + m, by rw [hm, World.drewN_drewN, Nat.add_assoc]⟩
theorem reach_mem {p : PPlan} (hg : GPlan p) {f : Int} {a v : Nat} (ha : a < p.nodes.length) : v ∈ reachB p f (a : Int) ↔ 0 ≤ distB (adjB p f) p.nodes.length a v := by
  unfold reachB
  rw [show isNodeB p.nodes.length (a : Int) = true by unfold isNodeB; simp [ha], if_pos rfl, Int.toNat_natCast]
  unfold reachK
  rw [List.mem_filter, List.mem_range]
  have h1 := dist_in (adjB p f) p.nodes.length a v
  constructor
  · rintro ⟨_, h⟩
    simp at h; omega
  · intro h
    refine ⟨?_, by simp; omega⟩
    have := ball_lt (gok hg f) ha _ (dist_to (gok hg f) ha h)
    exact this
theorem reach_rises (p : PPlan) (f : Int) (a : Int) : (reachB p f a).Pairwise (· < ·) := by
  unfold reachB
  split
  · exact List.Pairwise.filter _ List.pairwise_lt_range
  · exact List.Pairwise.nil
/-- One node of both: all of both. -/
theorem reach_same {p : PPlan} (hg : GPlan p) {f : Int} {a b v : Nat} (ha : a < p.nodes.length) (hb : b < p.nodes.length) (h1 : v ∈ reachB p f (a : Int)) (h2 : v ∈ reachB p f (b : Int)) : reachB p f (a : Int) = reachB p f (b : Int) := by
  have hG := gok hg f
  rw [reach_mem hg ha] at h1
  rw [reach_mem hg hb] at h2
  have hv := ball_lt hG ha _ (dist_to hG ha h1)
  have hab := dist_tri hG ha hv h1 (by rw [dist_sym hG hv hb]; exact h2)
  have hba := dist_sym hG ha hb
  unfold reachB
  rw [show isNodeB p.nodes.length (a : Int) = true by unfold isNodeB; simp [ha], show isNodeB p.nodes.length (b : Int) = true by unfold isNodeB; simp [hb], if_pos rfl, if_pos rfl, Int.toNat_natCast, Int.toNat_natCast]
  unfold reachK
  refine List.filter_congr fun u _ => ?_
  have i1 := dist_in (adjB p f) p.nodes.length a u
  have i2 := dist_in (adjB p f) p.nodes.length b u
  have e : 0 ≤ distB (adjB p f) p.nodes.length a u ↔ 0 ≤ distB (adjB p f) p.nodes.length b u := by
    constructor
    · intro h
      exact (dist_tri hG hb ha (by omega) h).1
    · intro h
      exact (dist_tri hG ha hb hab.1 h).1
  have : (distB (adjB p f) p.nodes.length a u = -1) ↔ (distB (adjB p f) p.nodes.length b u = -1) := by omega
  simp [this]
set_option maxHeartbeats 4000000 in
set_option maxRecDepth 100000 in
theorem graphParts_walk (A : Option Addr) (c : Nat) (l : List Int) (hwf : ∀ v ∈ l, InI v) (hm : l.length ≤ 9223372036854775807) (hc : l.length ≤ c) (hcm : c ≤ 9223372036854775807) (f0 : Int) (hf0 : InI f0) (a0 : Int) (ha0 : InI a0) (b0 : Int) (hb0 : InI b0) (w : World) (hA : CellsAt w w.heap.size A (l.map (Value.int .i64))) :
    Calls Try.prog 8 #[.slice A l.length c, .int .i64 f0, .int .i64 a0, .int .i64 b0] w fun e w' => e = .returned (.bool true) ∧ Below w.heap.size w w' := by
  obtain ⟨p, hp⟩ : ∃ p, netOf l = p := ⟨_, rfl⟩
  have hk := netOk l
  rw [hp] at hk
  have HP := Lib.hid hp
  have HM := Lib.hid hwf
  clear hp hwf
  obtain ⟨n, hn⟩ : ∃ n, l.length = n := ⟨_, rfl⟩
  rw [hn] at hm hc ⊢
  have HLEN := Lib.hid hn
  clear hn
  have hn1 := hk.nodes1
  have hg := gplan_right hk.right.out
  obtain ⟨f, hf, hfl⟩ := pickN_nat f0 512 (by omega)
  have Pf := Lib.hid (show pickN f0 512 = (f : Int) from hf)
  clear hf
  obtain ⟨a, ha, han⟩ := pickN_nat a0 p.nodes.length (by omega)
  have Pa := Lib.hid ha
  clear ha
  obtain ⟨b, hb, hbn⟩ := pickN_nat b0 p.nodes.length (by omega)
  have Pb := Lib.hid hb
  clear hb
  obtain ⟨L, hL⟩ : ∃ L, reachB p f (a : Int) = L := ⟨_, rfl⟩
  obtain ⟨M, hM⟩ : ∃ M, reachB p f (b : Int) = M := ⟨_, rfl⟩
  obtain ⟨nl, hnl⟩ : ∃ m, L.length = m := ⟨_, rfl⟩
  obtain ⟨nm, hnm⟩ : ∃ m, M.length = m := ⟨_, rfl⟩
  have hle : ∀ z : Nat, z < p.nodes.length → (reachB p f (z : Int)).length ≤ 12 := fun z hz => by
    have h1 := reachK_len p f z p.nodes.length
    unfold reachB
    rw [show isNodeB p.nodes.length (z : Int) = true by unfold isNodeB; simp [hz], if_pos rfl, Int.toNat_natCast]
    omega
  have hl12 := hle a han
  rw [hL, hnl] at hl12
  have hm12 := hle b hbn
  rw [hM, hnm] at hm12
  obtain ⟨ab, hab⟩ : ∃ v, distB (adjB p f) p.nodes.length a b = v := ⟨_, rfl⟩
  have HAB := Lib.hid ((hops_nat (f := f) han hbn).trans hab)
  have hself : a ∈ L := by rw [← hL, reach_mem hg han, dist_self han]; omega
  have hl1 : 1 ≤ nl := by rw [← hnl]; exact List.length_pos_of_mem hself
  have HIN : Hid (b ∈ L ↔ 0 ≤ ab) := Lib.hid (by rw [← hL, ← hab]; exact reach_mem hg han)
  have HUP : Hid (L.Pairwise (· < ·)) := Lib.hid (by rw [← hL]; exact reach_rises _ _ _)
  have HEQ : Hid (∀ v, v ∈ L → v ∈ M → L = M) := Lib.hid fun v h1 h2 => by
    rw [← hL] at h1 ⊢
    rw [← hM] at h2 ⊢
    exact reach_same hg han hbn h1 h2
  have HL := Lib.hid hL
  have HMM := Lib.hid hM
  have HNL := Lib.hid hnl
  have HNM := Lib.hid hnm
  clear hL hM hnl hnm hab hself hle
  go_enter Try.func8, Try.ntmps8
  go_wp2_with (first
    | (go_at_call 10; refine (awake5_any _).mono ?_; rintro e w1 ⟨rfl, hb1⟩; have hA1 := (hA.below hb1).more hb1.size)
    | (go_at_call 11; refine (Net_at p l HP A n c HLEN.out HM.out hm hc hcm _ hA1).mono ?_; rintro e w2 ⟨An, cn, Al, cl, Ad, cd, Ac, cc, rfl, ho, hb2⟩; have h0 := PBox.new hb1 hb2 ho; obtain ⟨q0, q1, q2, q3, q4, q5, q6⟩ := h0.cells)
    | (go_at_call 13; (with_reducible refine (pick5_is f0 512 f hf0 (by omega) (by omega) Pf _).mono ?_); rintro e w3 ⟨rfl, rfl⟩)
    | (go_at_call 13; (with_reducible refine (pick5_is a0 _ a ha0 (by omega) (by omega) Pa _).mono ?_); rintro e w3 ⟨rfl, rfl⟩)
    | (go_at_call 13; (with_reducible refine (pick5_is b0 _ b hb0 (by omega) (by omega) Pb _).mono ?_); rintro e w3 ⟨rfl, rfl⟩)
    | (go_at_call 19; (with_reducible refine (Reach_ok f b M nm HMM HNM hk.right hk.small h1.at_).mono ?_); rintro e w5 ⟨AM, cM, rfl, ho5, hb5⟩; have h2 := h1.go hb5; have hrm := RowAt.of_own ho5; have hrl2 := hrl.up hb5)
    | (go_at_call 19; (with_reducible refine (Reach_ok f a L nl HL HNL hk.right hk.small h0.at_).mono ?_); rintro e w4 ⟨AL, cL, rfl, ho4, hb4⟩; have h1 := h0.go hb4; have hrl := RowAt.of_own ho4; obtain ⟨r0, r1, r2, r3, r4, r5, r6⟩ := h1.cells))
  clear ho4 ho5 hA1 hb4 hb5 h0 h1 q0 q1 q2 q3 q4 q5 q6 r0 r1 r2 r3 r4 r5 r6 ho hb2 hb1 hA hrl
  go_loopw [16, 17] (fun s16 s17 wr => ∃ (k : Nat) (here : Bool), k ≤ nl ∧ s17 = .int .i64 (k : Nat) ∧ s16 = .bool here ∧ Hid (here = decide (b ∈ L.take k)) ∧ RowAt wr wr.heap.size AL (intCells L) ∧ RowAt wr wr.heap.size AM (intCells M) ∧ PBox w.heap.size w w2.heap.size p An p.nodes.length cn Al p.links.length cl Ad p.dests.length cd Ac p.checks.length cc wr) (fun _ s17 _ => nl - (intOf s17).toNat)
  case atStart => exact ⟨0, false, Nat.zero_le _, rfl, rfl, Lib.hid (by simp), hrl2, hrm, h2⟩
  case round =>
    clear hrl2 hrm h2
    obtain ⟨k, here, hkm, rfl, rfl, HH, hrl, hrm, hx⟩ := hrel
    by_cases hlt : k < nl
    · obtain ⟨v, hv⟩ : ∃ v, L[k]? = some v := ⟨_, List.getElem?_eq_getElem (by rw [HNL.out]; exact hlt)⟩
      obtain ⟨gL, hAL, hgL, hcL⟩ := hrl.nat hv
      have cv := hcL k v hv
      have HV := Lib.hid hv
      have n0 : (0 : Int) ≤ (k : Int) := by omega
      have n1 : (k : Int) < (nl : Int) := by omega
      have HHN : Hid ((here || decide (v = b)) = decide (b ∈ L.take (k + 1))) := Lib.hid (by
        rw [HH.out, List.take_add_one, hv]
        simp [List.mem_append, Bool.decide_or, eq_comm])
      have hprev : 0 < k → ∃ u, L[k - 1]? = some u ∧ u < v := fun h0 => by
        have hl : k - 1 < L.length := by rw [HNL.out]; omega
        have hl2 : k < L.length := by rw [HNL.out]; omega
        refine ⟨L[k - 1], List.getElem?_eq_getElem hl, ?_⟩
        have := List.pairwise_iff_getElem.1 HUP.out (k - 1) k hl hl2 (by omega)
        have e : L[k] = v := by rw [List.getElem?_eq_getElem hl2] at hv; injection hv
        omega
      have HPREV := Lib.hid hprev
      have HCL := Lib.hid hcL
      have t1 : ((v : Int) == (b : Int)) = decide (v = b) := by
        by_cases e : v = b
        · simp [e]
        · rw [decide_eq_false e]; simp; omega
      clear hv hprev hcL
      subst hAL
      have hcase : (k = 0) ∨ (∃ u, L[k - 1]? = some u ∧ u < v ∧ 0 < k) := by
        by_cases h0 : k = 0
        · exact .inl h0
        · obtain ⟨u, hu, huv⟩ := HPREV.out (by omega)
          exact .inr ⟨u, hu, huv, by omega⟩
      have q0 := hx.blk
      cases here
      all_goals rcases hcase with rfl | ⟨u, hu, huv, h0⟩
      all_goals
        (try have cu := HCL.out _ _ hu)
        (try have g1 : IntKind.i64.wrap ((k : Int) - 1) = (k : Int) - 1 := IntWalk.i64_in _ (by omega))
        (try have g2 : (0 : Int) ≤ (k : Int) - 1 := by omega)
        (try have g3 : (k : Int) - 1 < (nl : Int) := by omega)
        (try have g4 : ((k : Int) - 1).toNat = k - 1 := by omega)
        (try have g5 : decide ((v : Int) ≤ (u : Int)) = false := by simp; omega)
        (try have g6 : decide (0 < (k : Int)) = true := by simp; omega)
        (try have g7 : decide (0 < (k : Int)) = false := by simp; omega)
        clear q0
        go_upto_region 13 with (fail)
        clear t1
        go_quiet (fail)
        have hrl1 := hrl.draws nq
        have hrm1 := hrm.draws nq
        have hx1 := hx.go (below_draws (Below.refl _ _) nq)
        clear hrl hrm hx
        go_wp2
        go_loopw [18] (fun s18 wr => ∃ j : Nat, j ≤ nm ∧ s18 = .int .i64 (j : Nat) ∧ RowAt wr wr.heap.size (some ⟨gL, 0, none⟩) (intCells L) ∧ RowAt wr wr.heap.size AM (intCells M) ∧ PBox w.heap.size w w2.heap.size p An p.nodes.length cn Al p.links.length cl Ad p.dests.length cd Ac p.checks.length cc wr) (fun s18 _ => nm - (intOf s18).toNat)
        case atStart => exact ⟨0, Nat.zero_le _, rfl, hrl1, hrm1, hx1⟩
        case round =>
          clear hrl1 hrm1 hx1
          obtain ⟨j, hjm, rfl, hrl, hrm, hx⟩ := hrel
          by_cases hlt2 : j < nm
          · obtain ⟨v2, hv2⟩ : ∃ v, M[j]? = some v := ⟨_, List.getElem?_eq_getElem (by rw [HNM.out]; exact hlt2)⟩
            obtain ⟨gM, hAM, hgM, hcM⟩ := hrm.nat hv2
            obtain ⟨gL', hAL', hgL', hcL'⟩ := hrl.nat HV.out
            injection hAL' with hAL'
            injection hAL' with hAL' _ _
            subst hAL'
            subst hAM
            have cm := hcM j v2 hv2
            have cl2 := hcL' _ v HV.out
            have p0 : (0 : Int) ≤ (j : Int) := by omega
            have p1 : (j : Int) < (nm : Int) := by omega
            have HSM : Hid (v = v2 → L = M) := Lib.hid fun e => HEQ.out v (List.mem_of_getElem? HV.out) (by rw [e]; exact List.mem_of_getElem? hv2)
            have hzz := Nat.le_refl wr.heap.size
            clear hv2 hcM hcL'
            by_cases e : v = v2
            · have t2 : ((v : Int) == (v2 : Int)) = true := by simp [e]
              have HD : Hid (decide (L = M) = true) := Lib.hid (decide_eq_true (HSM.out e))
              have HRL := Lib.hid hrl
              have HRM := Lib.hid hrm
              clear e
              go_upto_region 18 with (fail)
              go_quiet ((go_at_call 14; (first | exact Calls.quiet_of (ints5_quiet _ _ _ _ _ _ L M true HD HNL HNM (by omega) (HRL.out.draws _) (HRM.out.draws _)) | exact quiet_add5 (ints5_quiet _ _ _ _ _ _ L M true HD HNL HNM (by omega) (HRL.out.draws _) (HRM.out.draws _)))))
              go_wp2
              go_roundw
              case rel => exact ⟨j + 1, by omega, by go_num, hrl.draws _, hrm.draws _, hx.go (below_draws (Below.refl _ _) _)⟩
              case measure => simp [intOf]; omega
            · have t2 : ((v : Int) == (v2 : Int)) = false := by simp; omega
              clear e
              go_upto_region 18 with (fail)
              go_quiet (fail)
              go_wp2
              go_roundw
              case rel => exact ⟨j + 1, by omega, by go_num, hrl.draws _, hrm.draws _, hx.go (below_draws (Below.refl _ _) _)⟩
              case measure => simp [intOf]; omega
          · have hge2 : ¬ (j : Int) < (nm : Int) := by omega
            have HHX := HHN.out
            first
              | rw [Bool.false_or] at HHX
              | rw [Bool.true_or] at HHX
            go_wp2
            go_roundw
            case rel => exact ⟨_ + 1, _, by omega, by go_num, rfl, Lib.hid HHX, hrl, hrm, hx⟩
            case measure => simp [intOf]; omega
    · have hkk : k = nl := by omega
      have hge : ¬ (k : Int) < (nl : Int) := by omega
      have HHF : Hid (here = decide (b ∈ L)) := Lib.hid (by rw [HH.out, hkk, ← HNL.out, List.take_length])
      have t3 : decide (0 ≤ ab) = here := by rw [HHF.out]; exact decide_eq_decide.2 HIN.out.symm
      have g1 : (1 : Int) ≤ (nl : Int) := by omega
      obtain ⟨q0, q1, q2, q3, q4, q5, q6⟩ := hx.cells
      clear hkk
      cases here
      all_goals
        go_wp2_with (go_at_call 21; (with_reducible refine (Hops_ok f a b ab HAB hk.right hk.small hx.at_).mono ?_); rintro e w6 ⟨rfl, hb6⟩; have hx6 := hx.go hb6)
        go_ret
        exact ⟨ret_bool (by first | rfl | (simp; done) | (simp; omega)), hx6.up⟩
end Go.Proofs.Ytponlhgkgmlihaa
