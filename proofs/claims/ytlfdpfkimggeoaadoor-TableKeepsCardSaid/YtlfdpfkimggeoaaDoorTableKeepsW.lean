/-
  A route keeps its number, and a number its route; unlike routes have unlike numbers; what is added again changes nothing.
-/
import Derived.Test.YtlfdpfkimggeoaaDoorTbH
namespace Go.Proofs.YtlfdpfkimggeoaaDoor
open Go.RowKit
set_option linter.unusedVariables false
set_option linter.unusedSimpArgs false

set_option maxHeartbeats 8000000 in
set_option maxRecDepth 100000 in
theorem tableKeeps_walk (A1 : Option Addr) (c1 : Nat) (L1 : List (List Int)) (hz1 : ∀ l ∈ L1, (∀ v ∈ l, InI v) ∧ l.length ≤ 9223372036854775807) (hm1 : L1.length ≤ 9223372036854775807) (w : World) (hT : PowTab w) (hA1 : LsAt w A1 L1) :
    Calls Tryd.prog 4 #[.slice A1 L1.length c1] w fun e w' => e = .returned (.bool true) ∧ Below w.heap.size w w' := by
  obtain ⟨N, hN⟩ : ∃ n, L1.length = n := ⟨_, rfl⟩
  rw [hN] at hm1 ⊢
  have HNN := Lib.hid hN
  have HZ := Lib.hid hz1
  have HA := Lib.hid hA1
  have HP := Lib.hid hT
  clear hN hz1 hA1 hT
  obtain ⟨iR, hiR, zR0, zR1, zR2⟩ := info_parts rtInfo
  obtain ⟨iI, hiI, zI0, zI1, zI2⟩ := info_parts numInfoA
  go_enter Tryd.func4, Tryd.ntmps4
  go_wp2_with (first
    | (go_at_call 8; (with_reducible refine (awake8_any _ HP.out).mono ?_); rintro e w1 ⟨rfl, hb1⟩)
    | (go_at_call 10; (with_reducible refine (lawNew hb1 HP.out 100 (by omega) (by omega)).mono ?_); rintro e w2 ⟨tb, F1, rfl, h1, _, _⟩))
  go_loopw [5, 6, 7] (fun s5 s6 s7 wr => ∃ (j : Nat) (F : Nat → Prop) (lt : List Rt) (A : Option Addr) (c : Nat) (ls : List Rt) (hs : List (Option Addr × Nat)) (Bi : Option Addr) (ci : Nat) (ids : List Int), j ≤ N ∧ j ≤ 30 ∧ s7 = .int .i64 (j : Nat) ∧ s5 = .slice A j c ∧ s6 = .slice Bi j ci ∧ KS w F tb lt A c ls hs Bi ci ids wr ∧ KR j lt ls ids) (fun _ _ s7 _ => 30 - (intOf s7).toNat)
  case atStart => exact ⟨0, F1, [Rt.none], none, 0, [], [], none, 0, [], Nat.zero_le _, by omega, rfl, rfl, rfl, ⟨h1, World.ownsRow_nil _ _ _ _, rfl, (fun i r q e _ => by simp at e), World.ownsRow_nil _ _ _ _, (fun g e => by simp [Value.ownBlock] at e), (fun g e => by simp [Value.ownBlock] at e)⟩, ⟨rfl, rfl, (fun i r e => by simp at e), (fun r e => by cases e), by simp⟩⟩
  case round =>
    clear h1
    obtain ⟨j, F, lt, A, c, ls, hs, Bi, ci, ids, hjN, hj30, rfl, rfl, rfl, k1, kr⟩ := hrel
    have HKR := Lib.hid kr
    have J1 := Lib.hid kr.l1
    have J2 := Lib.hid kr.l2
    by_cases hlt : j < N ∧ j < 30
    · obtain ⟨hlt1, hlt2⟩ := hlt
      obtain ⟨x, hx⟩ : ∃ x, L1[j]? = some x := ⟨_, List.getElem?_eq_getElem (by rw [HNN.out]; exact hlt1)⟩
      obtain ⟨ad, Al, cl, rfl, ca, hcl⟩ := (HA.out.on k1.t.up).get hx
      obtain ⟨hwf, hlm⟩ := HZ.out x (List.mem_of_getElem? hx)
      obtain ⟨r, hr⟩ : ∃ r, rtOf x = r := ⟨_, rfl⟩
      have hrr := rtOf_right x
      rw [hr] at hrr
      obtain ⟨nl, hnl⟩ : ∃ n, x.length = n := ⟨_, rfl⟩
      rw [hnl] at hlm ca
      obtain ⟨nr, hnr⟩ : ∃ n, r.path.length = n := ⟨_, rfl⟩
      have HR := Lib.hid hr
      have HRR := Lib.hid hrr
      have HNL := Lib.hid hnl
      have HNR := Lib.hid hnr
      have HWF := Lib.hid hwf
      have HCL := Lib.hid hcl
      have h12 : nr ≤ 12 := by rw [← hnr]; exact rt_len hrr
      have j0 : (0 : Int) ≤ (j : Int) := by omega
      have j1 : (j : Int) < (N : Int) := by omega
      have j2 : (j : Int) < 30 := by omega
      obtain ⟨i, L, ak, ae, al, hLi, hLl, hLp⟩ := add_at2 (most := 100) hrr k1.t.tab.nodup (by have := kr.len; omega)
      have KT := Lib.hid ak
      have ET := Lib.hid ae
      have LT' := Lib.hid al
      have HNX := Lib.hid (kr.next hrr hLi hLl hLp)
      have HFN := Lib.hid (fun b (h : wr.heap.size ≤ b) => k1.farN J1 h)
      have h63 : j + 1 ≤ maxLen := by unfold maxLen; omega
      have hb40 : (j + 1) * 40 ≤ 140737488355328 := by omega
      have hb8 : (j + 1) * 8 ≤ 140737488355328 := by omega
      clear kr hx hcl hr hrr hnl hnr hwf ak ae al hLi hLl hLp
      go_wp2_with (first
        | (go_at_call 12; (with_reducible refine (Route_new x r HR nr nl HNR HNL HWF.out hlm HCL.out).mono ?_); rintro e w3 ⟨Ar, cr, rfl, hra, hrn, hle, hcr, hb3⟩; have k2 := (k1.go hb3).go (below_new w3 (.cells #[.int .i64 r.kind, .int .i64 r.cost, .slice Ar nr cr] 25)); have x2 := BoxR.new (ca := cr) k1.t.tab.lt hb3 hra hrn; obtain ⟨b0, b1, b2⟩ := x2.cells)
        | (go_at_call 13; (with_reducible refine (lawAdd k2.t HP.out r (i : Int) 0 L KT ET LT' x2.at_ hle hcr).mono ?_); rintro e w4 ⟨F4, rfl, ht4, eF4, s4⟩; have k3 := k2.addT ht4 eF4 s4; have x3 : BoxR F4 _ r Ar nr cr w4 := eF4 ▸ x2.add s4; obtain ⟨d0, d1, d2⟩ := x3.cells; have HAr : Hid (∀ a, Ar = some a → ¬ F4 a.block ∧ (Value.slice A j c).ownBlock ≠ some a.block ∧ (Value.slice Bi ids.length ci).ownBlock ≠ some a.block ∧ a.block < w4.heap.size) := Lib.hid (fun a ha => ⟨(x3.na a ha).1, (HFN.out _ (hrn a ha).1).1, (HFN.out _ (hrn a ha).1).2, (x3.na a ha).2⟩))
        | (refine wpList_append_lies _ rfl _ _ 30 rfl w.heap.size 25 iR (.agg #[.int .i64 0, .int .i64 0, .slice none 0 0]) 3 40 Tryd.underlying30 hiR zR0 zR1 zR2 rfl (by omega) _ _ _ rfl ((k3.rowsJ J1).alloc _) ⟨w4.heap.size, 0, none⟩ 1 1 [.int .i64 r.kind, .int .i64 r.cost, .slice Ar nr cr] rfl rfl (World.news_of_block (cs := #[.int .i64 r.kind, .int .i64 r.cost, .slice Ar nr cr]) (heap_alloc_new w4 _)) (by simp [Value.oneCell']) (by omega) h63 hb40 (by have := k3.t.up.size; simp; omega) (w4.heap.size + 1) (by simp) ?_; intro gL cL w5 own5 hg5 hat5 hlt5; have k5 := k3.addLJ J1 hg5 own5 hat5 x3.at_ HNR HAr.out hle hcr)
        | (refine wpList_append_lies _ rfl _ _ 23 rfl w.heap.size 3 iI (.int .i64 0) 1 8 Tryd.underlying23 hiI zI0 zI1 zI2 rfl (by omega) _ _ _ rfl ((k5.numsJ J2).alloc _) ⟨w5.heap.size, 0, none⟩ 1 1 [.int .i64 (i : Int)] rfl rfl (World.news_of_block (cs := #[.int .i64 (i : Int)]) (heap_alloc_new w5 _)) (by simp [Value.oneCell']) (by omega) h63 hb8 (by have := k5.t.up.size; simp; omega) (w5.heap.size + 1) (by simp) ?_; intro gI cI w6 own6 hg6 hat6 hlt6; have k6 := k5.addIJ J2 hg6 own6 hat6))
      go_roundw
      case rel => exact ⟨j + 1, F4, L, _, _, _, _, _, _, _, by omega, by omega, by go_num, rfl, rfl, k6, HNX.out⟩
      case measure => simp [intOf]; omega
    · have hcase : ¬ (j : Int) < (N : Int) ∨ ((j : Int) < (N : Int) ∧ ¬ (j : Int) < 30) := by omega
      obtain ⟨ln, hln⟩ : ∃ n, lt.length = n := ⟨_, rfl⟩
      have S0 : Hid ((lt.length : Int) = (ln : Int)) := Lib.hid (by rw [hln])
      have lnj : (ln : Int) ≤ (j : Int) + 1 := by have := kr.len; omega
      have HLN := Lib.hid hln
      clear hlt hln kr
      rcases hcase with hc | ⟨hc, hc2⟩
      all_goals
        go_wp2_with (go_at_call 15; (with_reducible refine (lawSize k1.t (ln : Int) S0).mono ?_); rintro e w9 ⟨rfl, rfl⟩)
        obtain ⟨wo, rfl⟩ : ∃ wo : World, wo = wr := ⟨_, rfl⟩
        go_loopw [12] (fun s12 wr => ∃ (q : Nat) (F : Nat → Prop), q ≤ j ∧ s12 = .int .i64 (q : Nat) ∧ KS w F tb lt A c ls hs Bi ci ids wr) (fun s12 _ => j - (intOf s12).toNat)
        case atStart => exact ⟨0, F, Nat.zero_le _, rfl, k1⟩
        case round =>
          clear k1
          obtain ⟨q, F, hq, rfl, k1⟩ := hrel
          by_cases hlt : q < j
          · obtain ⟨r, hr⟩ : ∃ r, ls[q]? = some r := ⟨_, List.getElem?_eq_getElem (by rw [J1.out]; exact hlt)⟩
            obtain ⟨kq, hkq, hltq⟩ := HKR.out.num q r hr
            have hrr := HKR.out.right r (List.mem_of_getElem? hr)
            obtain ⟨nr, hnr⟩ : ∃ n, r.path.length = n := ⟨_, rfl⟩
            have h12 : nr ≤ 12 := by rw [← hnr]; exact rt_len hrr
            obtain ⟨ad, Ao, co, rfl, -, -, -, -, hhq, hle, hcr⟩ := k1.get hr
            obtain ⟨adI, rfl, -⟩ := k1.num hkq
            rw [hnr] at hle
            have HR := Lib.hid hr
            have HQ := Lib.hid hhq
            have HNR := Lib.hid hnr
            have HKQ := Lib.hid hkq
            obtain ⟨⟨c0, c1, c2⟩, hra⟩ := k1.get2 HR HQ HNR
            obtain ⟨ak, ae, al⟩ := add_old (most := 100) hrr (List.mem_of_getElem? hltq)
            have I1 : Hid (ixR r lt = (kq : Int)) := Lib.hid (ixR_at k1.t.tab.nodup hltq)
            have KT : Hid (addK 100 lt r = (kq : Int)) := Lib.hid (by rw [ak, I1.out])
            have ET := Lib.hid ae
            have LT' := Lib.hid al
            have kl : (kq : Int) < (ln : Int) := by have := (List.getElem?_eq_some_iff.1 hltq).1; have := HLN.out; omega
            have k0 : (0 : Int) ≤ (kq : Int) := by omega
            have V1 : Hid (InI (kq : Int)) := Lib.hid ⟨by omega, by omega⟩
            have G1 : Hid (getR lt (kq : Int) = r) := Lib.hid (by unfold getR; rw [if_neg (by omega)]; simp [hltq])
            have HLQ := Lib.hid hltq
            have SR : Hid (rtSame r r = true) := Lib.hid (same_iff.2 rfl)
            have t1 : decide ((kq : Int) < 0) = false := decide_eq_false (by omega)
            have t2 : decide ((ln : Int) ≤ (kq : Int)) = false := decide_eq_false (by omega)
            have t3 : decide (ln ≤ kq) = false := decide_eq_false (by omega)
            have q0 : (0 : Int) ≤ (q : Int) := by omega
            have q1 : (q : Int) < (j : Int) := by omega
            clear hr hkq hltq hrr hnr hhq ak ae al
            go_wp2_with (go_at_call 13; (with_reducible refine (lawAdd k1.t HP.out r (kq : Int) 0 lt KT ET LT' hra hle hcr).mono ?_); rintro e w4 ⟨F4, rfl, ht4, eF4, s4⟩; have k4 := k1.addT ht4 eF4 s4)
            clear k1 c0 c1 c2 hra ht4 eF4 s4
            have k4d := k4.drew
            obtain ⟨⟨c0, c1, c2⟩, hra⟩ := k4.get2 HR HQ HNR
            have c3 := k4.num2 HKQ
            have hra4 := hra.on (Below.refl w4.heap.size w4).drew
            go_region_held3 (fun w' => w'.cell? (ad.add (q * 3)) = some (.int .i64 r.kind) ∧ w'.cell? ⟨(ad.add (q * 3)).block, (ad.add (q * 3)).off + 1, none⟩ = some (.int .i64 r.cost) ∧ w'.cell? ⟨(ad.add (q * 3)).block, (ad.add (q * 3)).off + 2, none⟩ = some (.slice Ao nr co) ∧ w'.cell? (adI.add q) = some (.int .i64 (kq : Int))) (go_keep) (first
              | (go_at_call 18; (with_reducible refine (refSame6_is r r true SR hg6 hra6).mono ?_); rintro e w7 ⟨rfl, hb7⟩; have k7 := k6.go hb7; obtain ⟨⟨o0, o1, o2⟩, hra7⟩ := k7.get2 HR HQ HNR; have o3 := k7.num2 HKQ)
              | (go_at_call 19; (with_reducible refine (lawGet k5.t (kq : Int) V1.out r G1 nr HNR h12).mono ?_); rintro e w6 ⟨A6, c6, rfl, hg6, _, _, _, _, hb6⟩; have k6 := k5.go hb6; obtain ⟨⟨n0, n1, n2⟩, hra6⟩ := k6.get2 HR HQ HNR; have n3 := k6.num2 HKQ)
              | (go_at_call 16; (with_reducible refine (lawFind k4d.t HP.out r (kq : Int) I1 hra4 hle hcr).mono ?_); rintro e w5 ⟨rfl, hb5⟩; have k5 := k4d.go hb5; obtain ⟨⟨m0, m1, m2⟩, hra5⟩ := k5.get2 HR HQ HNR; have m3 := k5.num2 HKQ)
              | fail)
            clear k4 k4d k5 k6 hra hra4 hra5 hra6 hra7 c0 c1 c2 c3 m0 m1 m2 m3 n0 n1 n2 n3 o0 o1 o2 o3 hg6
            go_step
            go_wp2_with fail
            obtain ⟨wi, rfl⟩ : ∃ wi : World, wi = wr := ⟨_, rfl⟩
            go_loopw [15] (fun s15 wr => ∃ p : Nat, p ≤ q ∧ s15 = .int .i64 (p : Nat) ∧ KS w F4 tb lt (some ad) c ls hs (some adI) ci ids wr) (fun s15 _ => q - (intOf s15).toNat)
            case atStart => exact ⟨0, Nat.zero_le _, rfl, k7⟩
            case round =>
              clear k7
              obtain ⟨p, hp, rfl, k7⟩ := hrel
              by_cases hpq : p < q
              · obtain ⟨r2, hr2⟩ : ∃ r, ls[p]? = some r := ⟨_, List.getElem?_eq_getElem (by rw [J1.out]; omega)⟩
                obtain ⟨kp, hkp, hltp⟩ := HKR.out.num p r2 hr2
                obtain ⟨n2, hn2⟩ : ∃ n, r2.path.length = n := ⟨_, rfl⟩
                obtain ⟨_, A2, c2, -, -, -, -, -, hhp, -, -⟩ := k7.get hr2
                have HR2 := Lib.hid hr2
                have HQ2 := Lib.hid hhp
                have HN2 := Lib.hid hn2
                have HKP := Lib.hid hkp
                have k7d := k7.drew
                obtain ⟨⟨m0, m1, m2⟩, hra⟩ := k7d.get2 HR HQ HNR
                obtain ⟨⟨o0, o1, o2⟩, hrb⟩ := k7d.get2 HR2 HQ2 HN2
                have m3 := k7d.num2 HKQ
                have o3 := k7d.num2 HKP
                have p0 : (0 : Int) ≤ (p : Int) := by omega
                have p1 : (p : Int) < (j : Int) := by omega
                obtain ⟨v, hv, hv2⟩ : ∃ v, rtSame r r2 = v ∧ (((kq : Int) == (kp : Int)) = v) := by
                  refine ⟨_, rfl, ?_⟩
                  rw [Bool.eq_iff_iff, beq_iff_eq, same_iff]
                  have h1 := HLQ.out
                  constructor
                  · intro e
                    have : kq = kp := by omega
                    subst this
                    rw [hltp] at h1
                    injection h1 with h1
                    exact h1.symm
                  · intro e
                    subst e
                    have hnd := k7.t.tab.nodup
                    have e1 := ixR_at hnd h1
                    have e2 := ixR_at hnd hltp
                    rw [e1] at e2
                    exact e2
                have SM := Lib.hid hv
                clear hr2 hkp hltp hn2 hhp hv k7
                cases v
                all_goals
                  go_wp2_with fail
                  go_region_held3 (fun w' => w'.cell? (ad.add (q * 3)) = some (.int .i64 r.kind) ∧ w'.cell? ⟨(ad.add (q * 3)).block, (ad.add (q * 3)).off + 1, none⟩ = some (.int .i64 r.cost) ∧ w'.cell? ⟨(ad.add (q * 3)).block, (ad.add (q * 3)).off + 2, none⟩ = some (.slice Ao nr co) ∧ w'.cell? (adI.add q) = some (.int .i64 (kq : Int)) ∧ w'.cell? (ad.add (p * 3)) = some (.int .i64 r2.kind) ∧ w'.cell? ⟨(ad.add (p * 3)).block, (ad.add (p * 3)).off + 1, none⟩ = some (.int .i64 r2.cost) ∧ w'.cell? ⟨(ad.add (p * 3)).block, (ad.add (p * 3)).off + 2, none⟩ = some (.slice A2 n2 c2) ∧ w'.cell? (adI.add p) = some (.int .i64 (kp : Int))) (go_keep) (first
                    | (go_at_call 18; (with_reducible refine (refSame6_is r r2 _ SM hra hrb).mono ?_); rintro e w8 ⟨rfl, hb8⟩; have k8 := k7d.go hb8; obtain ⟨⟨u0, u1, u2⟩, -⟩ := k8.get2 HR HQ HNR; obtain ⟨⟨x0, x1, x2⟩, -⟩ := k8.get2 HR2 HQ2 HN2; have u3 := k8.num2 HKQ; have x3 := k8.num2 HKP)
                    | fail)
                  go_step
                  go_wp2
                  go_roundw
                  case rel => exact ⟨p + 1, by omega, by go_num, k8⟩
                  case measure => simp [intOf]; omega
              · go_wp2
                go_roundw
                case rel => exact ⟨q + 1, F4, by omega, by go_num, k7⟩
                case measure => simp [intOf]; omega
          · obtain rfl : q = j := by omega
            go_wp2_with (go_at_call 15; (with_reducible refine (lawSize k1.t (ln : Int) S0).mono ?_); rintro e w9 ⟨rfl, rfl⟩)
            go_ret
            exact ⟨rfl, k1.t.up⟩
end Go.Proofs.YtlfdpfkimggeoaaDoor
