/-
  Layer 7's laws: Held.
-/
import Derived.Deep.DeepCutAuto
import Derived.Test.YtlfdpfkimggeoaaCaE
namespace Go.Proofs.Ytlfdpfkimggeoaa
open Go.RowKit
set_option linter.unusedVariables false
set_option linter.unusedSimpArgs false

def heldG (cap num : Int) : List Int → List Int → List Int
  | p, [] => p
  | p, z :: m => if (p.length : Int) < cap then heldG cap num (if (decide (1 + pickN z 20 = num) || memI (1 + pickN z 20) p) = true then p else p ++ [1 + pickN z 20]) m else p
def heldV : List Int → Int
  | [] => 0
  | z :: _ => pickN z 16
def heldR (p : PPlan) (num : Int) (raw : List Int) : Rt := if p.proto = 1 then ⟨1, heldV raw, []⟩ else ⟨2, 0, heldG p.cap num [] raw⟩
theorem heldG_ok (cap num : Int) (hcap : cap ≤ 12) : ∀ (m p : List Int), pathB p = true → (p.length : Int) ≤ cap → num ∉ p → pathB (heldG cap num p m) = true ∧ ((heldG cap num p m).length : Int) ≤ cap ∧ num ∉ heldG cap num p m
  | [], p, h1, h2, h3 => ⟨h1, h2, h3⟩
  | z :: m, p, h1, h2, h3 => by
    unfold heldG
    by_cases hl : (p.length : Int) < cap
    · rw [if_pos hl]
      refine heldG_ok cap num hcap m _ ?_ ?_ ?_
      all_goals split
      · exact h1
      · next hn =>
        simp only [Bool.or_eq_true, decide_eq_true_eq, not_or] at hn
        obtain ⟨b0, b1⟩ := pickN_in z 20 (by omega)
        have hm : (1 + pickN z 20) ∉ p := fun hh => hn.2 (by unfold memI; simpa using hh)
        unfold pathB pathOk at h1 ⊢
        simp only [Bool.and_eq_true, decide_eq_true_eq, List.all_eq_true] at h1 ⊢
        refine ⟨by rw [List.length_append]; simp; omega, fun x hx => ?_, ?_⟩
        · rcases List.mem_append.1 hx with hx | hx
          · exact h1.2.1 x hx
          · rw [List.mem_singleton] at hx; subst hx; omega
        · rw [List.nodup_append]
          refine ⟨h1.2.2, by simp, fun a ha b hb => ?_⟩
          rw [List.mem_singleton] at hb
          subst hb
          intro e; subst e; exact hm ha
      · exact h2
      · rw [List.length_append]; simp; omega
      · exact h3
      · next hn =>
        simp only [Bool.or_eq_true, decide_eq_true_eq, not_or] at hn
        intro hh
        rcases List.mem_append.1 hh with hh | hh
        · exact h3 hh
        · rw [List.mem_singleton] at hh; exact hn.1 hh.symm
    · rw [if_neg hl]
      exact ⟨h1, h2, h3⟩
theorem heldV_in : ∀ raw : List Int, 0 ≤ heldV raw ∧ heldV raw ≤ 15
  | [] => ⟨by decide, by decide⟩
  | z :: _ => by have := pickN_in z 16 (by omega); exact ⟨this.1, by show pickN z 16 ≤ 15; omega⟩
structure HeSt (w : World) (p : PPlan) (An : Option Addr) (cn : Nat) (Al : Option Addr) (cl : Nat) (Ad : Option Addr) (cd : Nat) (Ac : Option Addr) (cc : Nat) (q : List Int) (Ap : Option Addr) (np cp : Nat) (W : World) : Prop where
  pb : Blk W w.heap.size 29 #[.int .i64 p.proto, .int .i64 p.cap, .int .i64 p.k, .slice An p.nodes.length cn, .slice Al p.links.length cl, .slice Ad p.dests.length cd, .slice Ac p.checks.length cc]
  res : Blk W (w.heap.size + 1) 42 #[.int .i64 0, .int .i64 0, .slice Option.none 0 0]
  box : Blk W (w.heap.size + 1 + 1) 42 #[.int .i64 2, .int .i64 0, .slice Ap np cp]
  own : W.ownsRow w.heap.size 3 1 (.slice Ap np cp) np (q.map (Value.int .i64))
  len : q.length = np
  le : np ≤ cp
  pat : PAt W p p.proto p.cap p.k An p.nodes.length Al p.links.length Ad p.dests.length Ac p.checks.length
  up : Below w.heap.size w W
section
variable {w W W' : World} {p : PPlan} {An Al Ad Ac Ap : Option Addr} {cn cl cd cc np cp : Nat} {q : List Int}
theorem HeSt.new (h : PAt w p p.proto p.cap p.k An p.nodes.length Al p.links.length Ad p.dests.length Ac p.checks.length) : HeSt w p An cn Al cl Ad cd Ac cc [] Option.none 0 0 (((w.alloc (.cells #[.int .i64 p.proto, .int .i64 p.cap, .int .i64 p.k, .slice An p.nodes.length cn, .slice Al p.links.length cl, .slice Ad p.dests.length cd, .slice Ac p.checks.length cc] 29)).alloc (.cells #[.int .i64 0, .int .i64 0, .slice Option.none 0 0] 42)).alloc (.cells #[.int .i64 2, .int .i64 0, .slice Option.none 0 0] 42)) :=
  ⟨((Blk.new w _ _).alloc _).alloc _, by simpa using (Blk.new (w.alloc (.cells #[.int .i64 p.proto, .int .i64 p.cap, .int .i64 p.k, .slice An p.nodes.length cn, .slice Al p.links.length cl, .slice Ad p.dests.length cd, .slice Ac p.checks.length cc] 29)) 42 #[.int .i64 0, .int .i64 0, .slice Option.none 0 0]).alloc _, by simpa using Blk.new ((w.alloc (.cells #[.int .i64 p.proto, .int .i64 p.cap, .int .i64 p.k, .slice An p.nodes.length cn, .slice Al p.links.length cl, .slice Ad p.dests.length cd, .slice Ac p.checks.length cc] 29)).alloc (.cells #[.int .i64 0, .int .i64 0, .slice Option.none 0 0] 42)) 42 #[.int .i64 2, .int .i64 0, .slice Option.none 0 0], World.ownsRow_nil _ _ _ _, rfl, Nat.le_refl _, h.up (below_3 w _ _ _), below_3 w _ _ _⟩
theorem HeSt.cells (h : HeSt w p An cn Al cl Ad cd Ac cc q Ap np cp W) : (W.cell? ⟨w.heap.size, 0, none⟩ = some (.int .i64 p.proto) ∧ W.cell? ⟨w.heap.size, 1, none⟩ = some (.int .i64 p.cap) ∧ W.cell? ⟨w.heap.size, 2, none⟩ = some (.int .i64 p.k) ∧ W.cell? ⟨w.heap.size, 3, none⟩ = some (.slice An p.nodes.length cn) ∧ W.cell? ⟨w.heap.size, 4, none⟩ = some (.slice Al p.links.length cl) ∧ W.cell? ⟨w.heap.size, 5, none⟩ = some (.slice Ad p.dests.length cd) ∧ W.cell? ⟨w.heap.size, 6, none⟩ = some (.slice Ac p.checks.length cc)) ∧
    W.cell? ⟨w.heap.size + 1 + 1, 0, none⟩ = some (.int .i64 2) ∧ W.cell? ⟨w.heap.size + 1 + 1, 1, none⟩ = some (.int .i64 0) ∧ W.cell? ⟨w.heap.size + 1 + 1, 2, none⟩ = some (.slice Ap np cp) := ⟨box7 h.pb, h.box.cell 0, h.box.cell 1, h.box.cell 2⟩
theorem HeSt.at_ (h : HeSt w p An cn Al cl Ad cd Ac cc q Ap np cp W) {k : Nat} {x : Int} (hx : q[k]? = some x) : ∃ g, Ap = some ⟨g, 0, none⟩ ∧ W.cell? ⟨g, k, none⟩ = some (.int .i64 x) := by
  obtain ⟨g, hA, hg, hc⟩ := RowAt.of_own h.own (by intro e; rw [List.map_eq_nil_iff] at e; rw [e] at hx; simp at hx)
  exact ⟨g, hA, hc k _ (by rw [List.getElem?_map, hx]; rfl)⟩
end
set_option maxHeartbeats 8000000 in
set_option maxRecDepth 100000 in
theorem held_any (p : PPlan) (i : Nat) (nd : PNode) (hnd : p.nodes[i]? = some nd) (hcap : p.cap ≤ 12) (l : List Int) (hwf : ∀ v ∈ l, InI v) {An Al Ad Ac A : Option Addr} {cn cl cd cc c : Nat} (n : Nat) (hn : l.length = n) (hm : n ≤ 9223372036854775807) {w : World} (h : PAt w p p.proto p.cap p.k An p.nodes.length Al p.links.length Ad p.dests.length Ac p.checks.length) (hs : PSmall p) (hA : CellsAt w w.heap.size A (l.map (Value.int .i64))) :
    Calls Try.prog 31 #[.agg #[.int .i64 p.proto, .int .i64 p.cap, .int .i64 p.k, .slice An p.nodes.length cn, .slice Al p.links.length cl, .slice Ad p.dests.length cd, .slice Ac p.checks.length cc], .int .i64 (i : Nat), .slice A n c] w (RtOut (heldR p nd.num l) w) := by
  have HN := Lib.hid hn
  have HWF := Lib.hid hwf
  have HA := Lib.hid hA
  obtain ⟨i0, hi, hz⟩ := Option.map_eq_some_iff.1 numInfoC
  simp only [Prod.mk.injEq] at hz
  obtain ⟨hz0, hz1, hz2⟩ := hz
  clear hn hwf hA
  by_cases hp : p.proto = 1
  · have t0 : (p.proto == 1) = true := by simpa using hp
    have HR0 : heldR p nd.num l = ⟨1, heldV l, []⟩ := by unfold heldR; rw [if_pos hp]
    by_cases hn0 : n = 0
    · have HR : Hid (heldR p nd.num l = ⟨1, 0, []⟩) := Lib.hid (by rw [HR0, List.eq_nil_of_length_eq_zero (HN.out.trans hn0)]; rfl)
      have t1 : ¬ (0 : Int) < (n : Int) := by omega
      clear hp HR0 hn0 h
      have hR : Blk (((w.alloc (.cells #[.int .i64 p.proto, .int .i64 p.cap, .int .i64 p.k, .slice An p.nodes.length cn, .slice Al p.links.length cl, .slice Ad p.dests.length cd, .slice Ac p.checks.length cc] 29)).alloc (.cells #[.int .i64 1, .int .i64 0, .slice Option.none 0 0] 42)).alloc (.cells #[.int .i64 1, .int .i64 0, .slice Option.none 0 0] 42)) (w.heap.size + 1) 42 #[.int .i64 1, .int .i64 0, .slice Option.none 0 0] := by simpa using (Blk.new (w.alloc (.cells #[.int .i64 p.proto, .int .i64 p.cap, .int .i64 p.k, .slice An p.nodes.length cn, .slice Al p.links.length cl, .slice Ad p.dests.length cd, .slice Ac p.checks.length cc] 29)) 42 #[.int .i64 1, .int .i64 0, .slice Option.none 0 0]).alloc (.cells #[.int .i64 1, .int .i64 0, .slice Option.none 0 0] 42)
      have hU : Below w.heap.size w (((w.alloc (.cells #[.int .i64 p.proto, .int .i64 p.cap, .int .i64 p.k, .slice An p.nodes.length cn, .slice Al p.links.length cl, .slice Ad p.dests.length cd, .slice Ac p.checks.length cc] 29)).alloc (.cells #[.int .i64 1, .int .i64 0, .slice Option.none 0 0] 42)).alloc (.cells #[.int .i64 1, .int .i64 0, .slice Option.none 0 0] 42)) := below_3 w _ _ _
      have z0 := hR.cell 0
      have z1 := hR.cell 1
      have z2 := hR.cell 2
      obtain ⟨W4, hW4⟩ : ∃ W4, W4 = (((w.alloc (.cells #[.int .i64 p.proto, .int .i64 p.cap, .int .i64 p.k, .slice An p.nodes.length cn, .slice Al p.links.length cl, .slice Ad p.dests.length cd, .slice Ac p.checks.length cc] 29)).alloc (.cells #[.int .i64 1, .int .i64 0, .slice Option.none 0 0] 42)).alloc (.cells #[.int .i64 1, .int .i64 0, .slice Option.none 0 0] 42)) := ⟨_, rfl⟩
      rw [← hW4] at z0 z1 z2 hU
      replace hW4 := Lib.hid hW4
      clear hR
      go_enter Try.func31, Try.ntmps31
      go_wp2
      rw [← hW4.out]
      clear hW4
      refine bodyPost_ret (v := .agg #[.int .i64 1, .int .i64 0, .slice Option.none 0 0]) (by first | (simp [results, Try.results31, go_sem] at z0 z1 z2 ⊢; simp [z0, z1, z2]; done) | (simp [results, Try.results31, go_sem, z0, z1, z2]; done)) rfl ?_
      rw [HR.out]; exact RtOut.flat rfl hU
    · have t1 : (0 : Int) < (n : Int) := by omega
      obtain ⟨x, hx⟩ : ∃ x, l[0]? = some x := ⟨_, List.getElem?_eq_getElem (by rw [HN.out]; omega)⟩
      obtain ⟨ad, hAd, _, c1⟩ := ((HA.out.on (below_3 w (.cells #[.int .i64 p.proto, .int .i64 p.cap, .int .i64 p.k, .slice An p.nodes.length cn, .slice Al p.links.length cl, .slice Ad p.dests.length cd, .slice Ac p.checks.length cc] 29) (.cells #[.int .i64 0, .int .i64 0, .slice Option.none 0 0] 42) (.cells #[.int .i64 1, .int .i64 0, .slice Option.none 0 0] 42)))).int hx
      have hxi := HWF.out x (List.mem_of_getElem? hx)
      obtain ⟨v, hv⟩ : ∃ v, pickN x 16 = v := ⟨_, rfl⟩
      have HV := Lib.hid hv
      have HXI := Lib.hid hxi
      have HR : Hid (heldR p nd.num l = ⟨1, v, []⟩) := Lib.hid (by
        rw [HR0]
        cases l with
        | nil => simp at hx
        | cons z m => simp at hx; subst hx; rw [← hv]; rfl)
      have ea : ad.add 0 = ad := rfl
      rw [ea] at c1
      subst hAd
      clear hp HR0 hn0 hv hxi hx h ea
      have hR : Blk (((w.alloc (.cells #[.int .i64 p.proto, .int .i64 p.cap, .int .i64 p.k, .slice An p.nodes.length cn, .slice Al p.links.length cl, .slice Ad p.dests.length cd, .slice Ac p.checks.length cc] 29)).alloc (.cells #[.int .i64 1, .int .i64 v, .slice Option.none 0 0] 42)).alloc (.cells #[.int .i64 1, .int .i64 v, .slice Option.none 0 0] 42)) (w.heap.size + 1) 42 #[.int .i64 1, .int .i64 v, .slice Option.none 0 0] := by simpa using (Blk.new (w.alloc (.cells #[.int .i64 p.proto, .int .i64 p.cap, .int .i64 p.k, .slice An p.nodes.length cn, .slice Al p.links.length cl, .slice Ad p.dests.length cd, .slice Ac p.checks.length cc] 29)) 42 #[.int .i64 1, .int .i64 v, .slice Option.none 0 0]).alloc (.cells #[.int .i64 1, .int .i64 v, .slice Option.none 0 0] 42)
      have hU : Below w.heap.size w (((w.alloc (.cells #[.int .i64 p.proto, .int .i64 p.cap, .int .i64 p.k, .slice An p.nodes.length cn, .slice Al p.links.length cl, .slice Ad p.dests.length cd, .slice Ac p.checks.length cc] 29)).alloc (.cells #[.int .i64 1, .int .i64 v, .slice Option.none 0 0] 42)).alloc (.cells #[.int .i64 1, .int .i64 v, .slice Option.none 0 0] 42)) := below_3 w _ _ _
      have z0 := hR.cell 0
      have z1 := hR.cell 1
      have z2 := hR.cell 2
      obtain ⟨W4, hW4⟩ : ∃ W4, W4 = (((w.alloc (.cells #[.int .i64 p.proto, .int .i64 p.cap, .int .i64 p.k, .slice An p.nodes.length cn, .slice Al p.links.length cl, .slice Ad p.dests.length cd, .slice Ac p.checks.length cc] 29)).alloc (.cells #[.int .i64 1, .int .i64 v, .slice Option.none 0 0] 42)).alloc (.cells #[.int .i64 1, .int .i64 v, .slice Option.none 0 0] 42)) := ⟨_, rfl⟩
      rw [← hW4] at z0 z1 z2 hU
      replace hW4 := Lib.hid hW4
      clear hR
      go_enter Try.func31, Try.ntmps31
      go_wp2_with (go_at_call 22; (with_reducible refine (pick7_is x 16 v HXI.out (by omega) (by omega) HV _).mono ?_); rintro e w2 ⟨rfl, rfl⟩)
      rw [← hW4.out]
      clear hW4
      refine bodyPost_ret (v := .agg #[.int .i64 1, .int .i64 v, .slice Option.none 0 0]) (by first | (simp [results, Try.results31, go_sem] at z0 z1 z2 ⊢; simp [z0, z1, z2]; done) | (simp [results, Try.results31, go_sem, z0, z1, z2]; done)) rfl ?_
      rw [HR.out]; exact RtOut.flat rfl hU
  · have t0 : (p.proto == 1) = false := by simpa using hp
    have HR : Hid (heldR p nd.num l = ⟨2, 0, heldG p.cap nd.num [] l⟩) := Lib.hid (by unfold heldR; rw [if_neg hp])
    obtain ⟨gN, hgN, _⟩ := h.nodes.node hnd
    subst hgN
    have hil : (i : Int) < (p.nodes.length : Int) := by have := (List.getElem?_eq_some_iff.1 hnd).1; omega
    have hi0 : (0 : Int) ≤ (i : Int) := by omega
    have hn63 : p.nodes.length ≤ 9223372036854775807 := by have := hs.ln; omega
    have HND := Lib.hid hnd
    have HP0 := Lib.hid h
    have h0 := HeSt.new (cn := cn) (cl := cl) (cd := cd) (cc := cc) h
    obtain ⟨⟨a0, a1, a2, a3, a4, a5, a6⟩, q0, q1, q2⟩ := h0.cells
    clear hp h hnd
    go_enter Try.func31, Try.ntmps31
    go_wp2_with fail
    go_loopw [8] (fun s8 wr => ∃ (j : Nat) (q : List Int) (Ap : Option Addr) (np cp : Nat), j ≤ n ∧ s8 = .int .i64 (j : Nat) ∧ HeSt w p (some ⟨gN, 0, none⟩) cn Al cl Ad cd Ac cc q Ap np cp wr ∧ (np : Int) ≤ max 0 p.cap ∧ Hid (heldG p.cap nd.num [] l = heldG p.cap nd.num q (l.drop j))) (fun s8 _ => n - (intOf s8).toNat)
    case atStart => exact ⟨0, [], none, 0, 0, Nat.zero_le _, rfl, h0, by omega, Lib.hid rfl⟩
    case round =>
      clear h0 a0 a1 a2 a3 a4 a5 a6 q0 q1 q2
      obtain ⟨j, q, Ap, np, cp, hj, rfl, h0, hpc, HG⟩ := hrel
      obtain ⟨⟨a0, a1, a2, a3, a4, a5, a6⟩, q0, q1, q2⟩ := h0.cells
      obtain ⟨n0, n1⟩ := RowAt.nodeAt h0.pat.nodes HND.out
      have hlen := h0.len
      by_cases hgo : j < n ∧ (np : Int) < p.cap
      · obtain ⟨hlt, hltc⟩ := hgo
        have hjn : (j : Int) < (n : Int) := by omega
        have hj0 : (0 : Int) ≤ (j : Int) := by omega
        have hp12 : np < 12 := by omega
        obtain ⟨z, hz⟩ : ∃ z, l[j]? = some z := ⟨_, List.getElem?_eq_getElem (by rw [HN.out]; exact hlt)⟩
        obtain ⟨ad, hAd, _, cz⟩ := (HA.out.on h0.up).int hz
        have hzi := HWF.out z (List.mem_of_getElem? hz)
        obtain ⟨v9, hv9⟩ : ∃ v, pickN z 20 = v := ⟨_, rfl⟩
        have b9 := pickN_in z 20 (by omega)
        rw [hv9] at b9
        obtain ⟨b90, b91⟩ := b9
        obtain ⟨N, hN⟩ : ∃ N, 1 + v9 = N := ⟨_, rfl⟩
        have hnx : heldG p.cap nd.num [] l = heldG p.cap nd.num (if (decide (N = nd.num) || memI N q) = true then q else q ++ [N]) (l.drop (j + 1)) := by
          rw [HG.out, drop_cons hz, heldG, if_pos (by rw [hlen]; exact hltc), hv9, hN]
        have HNX := Lib.hid hnx
        have HNN := Lib.hid hN
        have HV9 := Lib.hid hv9
        have HZI := Lib.hid hzi
        have HS := Lib.hid h0
        have HPL := Lib.hid hlen
        obtain ⟨b, hb⟩ : ∃ b, decide (N = nd.num) = b := ⟨_, rfl⟩
        have HBN := Lib.hid hb
        have tb : (N == nd.num) = b := by rw [← hb]; rfl
        subst hAd
        clear hv9 hzi hz h0 hlen HG hnx hN hb
        go_upto_region 11 with (go_at_call 22; (with_reducible refine (pick7_is z 20 v9 HZI.out (by omega) (by omega) HV9 _).mono ?_); rintro e w2 ⟨rfl, rfl⟩)
        rw [HNN.out]
        go_wp2_with fail
        go_loop [10, 11] (fun s10 s11 => ∃ (t : Nat) (here : Bool), t ≤ np ∧ s11 = .int .i64 (t : Nat) ∧ s10 = .bool here ∧ Hid ((b || memI N (q.take t)) = here)) (fun _ s11 => np - (intOf s11).toNat)
        case atStart => exact ⟨0, b, Nat.zero_le _, rfl, rfl, Lib.hid (by simp [memI])⟩
        case round =>
          obtain ⟨t, here, ht, rfl, rfl, HH⟩ := hrel
          by_cases htl : t < np
          · obtain ⟨y, hy⟩ : ∃ y, q[t]? = some y := ⟨_, List.getElem?_eq_getElem (by rw [HPL.out]; exact htl)⟩
            obtain ⟨g, rfl, cg⟩ := HS.out.at_ hy
            have hmn : (b || memI N (q.take (t + 1))) = (here || decide (N = y)) := by
              rw [← HH.out]
              unfold memI
              rw [List.take_add_one, hy]
              simp [List.mem_append, Bool.decide_or, Bool.or_assoc]
            have HMN := Lib.hid hmn
            clear hmn hy
            have htl' : (t : Int) < (np : Int) := by omega
            cases here
            · by_cases e : y = N
              · have tt : (y == N) = true := by simpa using e
                have HM2 : Hid ((b || memI N (q.take (t + 1))) = true) := Lib.hid (by rw [HMN.out, decide_eq_true e.symm]; rfl)
                clear e
                go_wp2
                go_round
                case rel => exact ⟨t + 1, true, by omega, by go_num, rfl, HM2⟩
                case measure => simp [intOf]; omega
              · have tt : (y == N) = false := by simpa using e
                have HM2 : Hid ((b || memI N (q.take (t + 1))) = false) := Lib.hid (by rw [HMN.out, decide_eq_false (fun h => e h.symm)]; rfl)
                clear e
                go_wp2
                go_round
                case rel => exact ⟨t + 1, false, by omega, by go_num, rfl, HM2⟩
                case measure => simp [intOf]; omega
            · have HM2 : Hid ((b || memI N (q.take (t + 1))) = true) := Lib.hid (by rw [HMN.out]; rfl)
              go_wp2
              go_round
              case rel => exact ⟨t + 1, true, by omega, by go_num, rfl, HM2⟩
              case measure => simp [intOf]; omega
          · have htl' : ¬ (t : Int) < (np : Int) := by omega
            have HMP : Hid ((b || memI N q) = here) := Lib.hid (by have := HH.out; rwa [List.take_of_length_le (by rw [HPL.out]; omega)] at this)
            cases here
            · have HG2 : Hid (heldG p.cap nd.num [] l = heldG p.cap nd.num (q ++ [N]) (l.drop (j + 1))) := Lib.hid (by rw [HNX.out, if_neg (by rw [HBN.out, HMP.out]; simp)])
              have hwr := HS.out.pb.lt
              go_wp2_with (refine wpList_append_own _ rfl _ _ 22 rfl w.heap.size 3 i0 (.int .i64 0) 1 8 Try.underlying22 hi hz0 hz1 hz2 rfl (by decide) _ _ _ rfl (HS.out.own.alloc _) ⟨wr.heap.size, 0, none⟩ 1 1 [.int .i64 N] rfl rfl (cells_new _ _ _) (by simp [Value.oneCell']) (by unfold maxLen; omega) (by omega) (by have := HS.out.up.size; simp; omega) ?_; intro v' w4 hown4 hgrow4 _; obtain ⟨A4, c4, rfl, hc4, _⟩ := own_formC hown4; have hsz := HS.out.up.size; have hbx := HS.out.box; have hrs := HS.out.res; have hpb := HS.out.pb; have hb4 := (hbx.alloc (.cells #[.int .i64 N] 3)).grown hgrow4 (fun e => own_blk_ne HS.out.own hbx (by decide) e.symm); have hr4 := (hrs.alloc (.cells #[.int .i64 N] 3)).grown hgrow4 (fun e => own_blk_ne HS.out.own hrs (by decide) e.symm); have hp4 := (hpb.alloc (.cells #[.int .i64 N] 3)).grown hgrow4 (fun e => own_blk_ne HS.out.own hpb (by decide) e.symm); have hu4 := (below_on HS.out.up (below_new wr (.cells #[.int .i64 N] 3))).grown hgrow4 (by simp; omega) (fun g hg => (HS.out.own.lt g hg).1); have s0 := hb4.cell 2; have s1 := hb4.frozen 2)
              go_roundw
              case rel =>
                have hne : w.heap.size + 1 ≠ w.heap.size + 1 + 1 := by omega
                have hne2 : w.heap.size ≠ w.heap.size + 1 + 1 := by omega
                have huf := hu4.setCell (p := ⟨w.heap.size + 1 + 1, 2, none⟩) (by simp; omega) (.slice A4 (np + 1) c4)
                exact ⟨j + 1, q ++ [N], A4, np + 1, c4, by omega, by go_num, ⟨hp4.far (p := ⟨w.heap.size + 1 + 1, 2, none⟩) hne2 _, hr4.far (p := ⟨w.heap.size + 1 + 1, 2, none⟩) hne _, hb4.set_ 2 _, by rw [List.map_append]; exact own_setA hown4 hb4 (by decide) 2 _, by rw [List.length_append, HPL.out]; rfl, hc4, HP0.out.up huf, huf⟩, by omega, HG2⟩
              case measure => simp [intOf]; omega
            · have HG2 : Hid (heldG p.cap nd.num [] l = heldG p.cap nd.num q (l.drop (j + 1))) := Lib.hid (by rw [HNX.out, if_pos (by rw [HBN.out, HMP.out])])
              go_wp2
              go_roundw
              case rel => exact ⟨j + 1, q, Ap, np, cp, by omega, by go_num, HS.out, by omega, HG2⟩
              case measure => simp [intOf]; omega
      · have hfin : heldG p.cap nd.num q (l.drop j) = q := by
          by_cases hjn : j < n
          · obtain ⟨z, hz⟩ : ∃ z, l[j]? = some z := ⟨_, List.getElem?_eq_getElem (by rw [HN.out]; exact hjn)⟩
            rw [drop_cons hz, heldG, if_neg (by omega)]
          · rw [List.drop_of_length_le (by rw [HN.out]; omega)]; rfl
        have HR2 : Hid (heldR p nd.num l = ⟨2, 0, q⟩) := Lib.hid (by rw [HR.out, HG.out, hfin])
        have x0 := h0.res.cell 0
        have x1 := h0.res.cell 1
        have x2 := h0.res.cell 2
        have f0 := h0.res.frozen 0
        have f1 := h0.res.frozen 1
        have f2 := h0.res.frozen 2
        have HQL := Lib.hid hlen
        clear hfin hlen
        have hcase : ¬ (j : Int) < (n : Int) ∨ ((j : Int) < (n : Int) ∧ ¬ (np : Int) < p.cap) := by omega
        rcases hcase with hc | ⟨hc, hc2⟩
        all_goals
          go_wp2
          have kf := resC h0.res (.int .i64 2) (.int .i64 0) (.slice Ap np cp)
          have hbf := below_res (g := w.heap.size + 1) h0.up (by omega) (.int .i64 2) (.int .i64 0) (.slice Ap np cp)
          have ho3 := own_setA (own_setA (own_setA h0.own h0.res (by decide) 0 (.int .i64 2)) (h0.res.set_ 0 (.int .i64 2)) (by decide) 1 (.int .i64 0)) ((h0.res.set_ 0 (.int .i64 2)).set_ 1 (.int .i64 0)) (by decide) 2 (.slice Ap np cp)
          obtain ⟨A', c', hv', hle', hcm'⟩ := own_formC ho3
          have z0 := kf.cell 0
          have z1 := kf.cell 1
          have z2 := kf.cell 2
          obtain ⟨W4, hW4⟩ : ∃ W4, W4 = ((wr.setCell ⟨w.heap.size + 1, 0, none⟩ (.int .i64 2)).setCell ⟨w.heap.size + 1, 1, none⟩ (.int .i64 0)).setCell ⟨w.heap.size + 1, 2, none⟩ (.slice Ap np cp) := ⟨_, rfl⟩
          rw [← hW4] at z0 z1 z2 hbf ho3 ⊢
          clear hW4 kf x0 x1 x2 f0 f1 f2 a0 a1 a2 a3 a4 a5 a6 q0 q1 q2
          injection hv' with e1 _ e2
          subst e1 e2
          refine bodyPost_ret (v := .agg #[.int .i64 2, .int .i64 0, .slice Ap np cp]) (by first | (simp [results, Try.results31, go_sem] at z0 z1 z2 ⊢; simp [z0, z1, z2]; done) | (simp [results, Try.results31, go_sem, z0, z1, z2]; done)) rfl ?_
          rw [HR2.out]; exact ⟨Ap, cp, by rw [HQL.out], ⟨rfl, (RowAt.of_own ho3).cells, by rw [HQL.out]; omega⟩, by rw [HQL.out]; exact hle', hcm', hbf⟩
end Go.Proofs.Ytlfdpfkimggeoaa
