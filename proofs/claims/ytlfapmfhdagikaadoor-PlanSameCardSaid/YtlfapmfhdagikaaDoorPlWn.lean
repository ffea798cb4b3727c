/-
  The law's Net: a network of raw numbers.
-/
import Derived.Test.YtlfapmfhdagikaaDoorPlWm
namespace Go.Proofs.YtlfapmfhdagikaaDoor
open Go.RowKit
set_option linter.unusedVariables false

theorem net_seven {l0 l2 l3 l4 : List Int} {pr ca : Int} {v3 v4 : Nat} (hP : protoG l0 = ((pr, ca), l2)) (hv3 : nx l2 4 = v3) (hl3 : l2.tail = l3) (hv4 : nx l3 6 = v4) (hl4 : l3.tail = l4)
    (ns : List PNode) (L1 : List Int) (ls : List PLink) (L2 : List Int) (hN : nodesG l4 (2 + v4) = (ns, L1)) (hL : linksG (2 + v4) L1.tail (nx L1 10) = (ls, L2)) :
    netL l0 = ⟨pr, ca, min (v3 : Int) (ls.length : Int), ns, ls, (destsG (2 + v4) L2.tail (nx L2 2 + 1)).1, (checksG (2 + v4) (destsG (2 + v4) L2.tail (nx L2 2 + 1)).1.length (destsG (2 + v4) L2.tail (nx L2 2 + 1)).2.tail (nx (destsG (2 + v4) L2.tail (nx L2 2 + 1)).2 7)).1⟩ :=
  net_is hP hv3 hl3 hv4 hl4 hN rfl rfl hL rfl rfl rfl (destsG_ok (2 + v4) _ (by omega) _).2 rfl rfl rfl

set_option maxHeartbeats 8000000 in
set_option maxRecDepth 100000 in
theorem Net_any (l : List Int) (A : Option Addr) (n c : Nat) (hl : l.length = n) (hwf : ∀ v ∈ l, InI v) (hm : n ≤ 9223372036854775807) (hc : n ≤ c) (hcm : c ≤ 9223372036854775807) (w : World) (hA : CellsAt w w.heap.size A (l.map (Value.int .i64))) :
    Calls Tryd.prog 13 #[.slice A n c] w (NetAs (netOf l) w) := by
  have hok := src_ok l hwf
  have hA2 := hA.take 200
  have hnet : netOf l = netL (l.take 200) := rfl
  obtain ⟨l0, hl0⟩ : ∃ l0, l.take 200 = l0 := ⟨_, rfl⟩
  have hlen : l0.length = min n 200 := by rw [← hl0, List.length_take, hl]; omega
  rw [hl0] at hok hA2 hnet
  have HLEN := Lib.hid hlen
  have HNET := Lib.hid hnet
  have HOK := Lib.hid hok
  have HA2 := Lib.hid hA2
  clear hlen hnet hl0 hok hA2 hA hwf hl
  go_enter Tryd.func13, Tryd.ntmps13
  go_upto_if 21 with (fail)
  go_cut [0] (fun v wx => ∃ n' c', v = .slice A n' c' ∧ l0.length = n' ∧ n' ≤ c' ∧ wx = w.alloc (.cells #[.int .i64 0, .int .i64 0, .int .i64 0, .slice none 0 0, .slice none 0 0, .slice none 0 0, .slice none 0 0] 29))
  case first =>
    by_cases hbig : 200 < n
    · go_wp2_with fail
      go_meet
      exact ⟨200, c, rfl, by rw [HLEN.out]; omega, by omega, rfl⟩
    · go_wp2_with fail
      go_meet
      exact ⟨n, c, rfl, by rw [HLEN.out]; omega, by omega, rfl⟩
  case rest =>
    obtain ⟨n', c', rfl, hn', hc', rfl⟩ := hcut
    have hst := net_start w A n' c' l0 hn' hc' HA2.out
    have HST := Lib.hid hst
    clear hst hn'
    obtain ⟨v1, HV1, bv1⟩ := ex_nx l0 2 (by omega)
    obtain ⟨l1, HL1⟩ := ex_tail l0
    go_upto_if 30 with (go_at_call 26; refine (next_st 2 2 v1 l1 HV1 HL1 HST.out HOK.out rfl (by omega) (by omega)).mono ?_; rintro e w1 ⟨rfl, hst, hok, -⟩; have p0 := hst.blk.cell 0; have p1 := hst.blk.cell 1; have f0 := hst.blk.frozen 0; have f1 := hst.blk.frozen 1)
    go_cut [] (fun wx => ∃ (pr ca : Int) (l2 : List Int), Hid (protoG l0 = ((pr, ca), l2)) ∧ NetSt w (w.heap.size + 1) (w.heap.size + 1 + 1) l2 pr ca 0 (.slice none 0 0) (.slice none 0 0) (.slice none 0 0) (.slice none 0 0) [] [] [] [] wx ∧ SrcOk l2)
    case first =>
      as_aux_lemma =>
      by_cases h1 : v1 = 1
      · subst h1
        obtain ⟨v2, HV2, bv2⟩ := ex_nx l1 6 (by omega)
        obtain ⟨l2, HL2⟩ := ex_tail l1
        have hst' := hst.put 0 (.int .i64 2) 2 0 0 rfl
        go_wp2_with (go_at_call 26; refine (next_st 6 6 v2 l2 HV2 HL2 hst' hok rfl (by omega) (by omega)).mono ?_; rintro e w2 ⟨rfl, hst2, hok2, -⟩; have q1 := hst2.blk.cell 1; have g1 := hst2.blk.frozen 1; have hst3 := hst2.put 1 (.int .i64 (1 + (v2 : Int))) 2 (1 + (v2 : Int)) 0 rfl)
        go_meet
        exact ⟨2, 1 + (v2 : Int), l2, Lib.hid (by unfold protoG; rw [HL1.out, HV1.out, if_pos rfl, HV2.out, HL2.out]; rfl), hst3, hok2⟩
      · have h2 : ¬ (v1 : Int) = 1 := by omega
        have h3 : ((v1 : Int) == 1) = false := by simpa using h2
        go_wp2_with fail
        go_meet
        exact ⟨1, 0, l1, Lib.hid (by unfold protoG; rw [HV1.out, if_neg h1, HL1.out]), hst, hok⟩
    case rest =>
      as_aux_lemma =>
      clear p0 p1 f0 f1 hst hok
      obtain ⟨pr, ca, l2, HP, hst, hok⟩ := hcut
      obtain ⟨v3, HV3, bv3⟩ := ex_nx l2 4 (by omega)
      obtain ⟨l3, HL3⟩ := ex_tail l2
      obtain ⟨v4, HV4, bv4⟩ := ex_nx l3 6 (by omega)
      obtain ⟨l4, HL4⟩ := ex_tail l3
      have HN7 := Lib.hid (fun ns L1 ls L2 hN hL => HNET.out.trans (net_seven HP.out HV3.out HL3.out HV4.out HL4.out ns L1 ls L2 hN hL))
      clear HST
      repeat (first | exact net_rest7 l w _ l4 v3 v4 bv3 bv4 pr ca hst2 hok2 HN7 _ _ _ _ _ _ _ _ _ _ _ _ _ _ _ _ _ _ _ _ _ _ _ _ _ _ _ _ _ _ _ _ _ _ _ _ _ _ _ _ _ _ _ _ _ _ _ _ _ _ _ _ _ _ _ _ _ _ _ _ _ _ _ _ _ _ _ _ _ _ _ _ _ _ _ _ _ _ _ _ _ _ _ _ _ _ _ _ _ _ _ _ _ _ _ _ _ _ _ _ _ _ _ _ _ _ _ _ _ _ _ _ _ _ _ _ _ _ _ _ _ _ _ _ _ _ _ _ _ _ _ _ _ _ _ _ _ _ _ _ _ _ _ _ _ _ _ _ _ _ _ _ _ _ _ _ _ _ _ _ _ _ _ _ _ _ _ _ _ _ _ _ _ _ _ _ _ _ _ _ _ _ _ _ _ _ _ _ _ _ _ _ _ _ _ _ _ _ _ _ _ _ _ _ _ _ _ _ _ _ _ _ _ _ _ _ _ _ _ _ _ _ | (go_at_call 26; (with_reducible refine (next_st 6 6 v4 l4 HV4 HL4 hst1 hok1 rfl (by omega) (by omega)).mono ?_); rintro e w4 ⟨rfl, hst2, hok2, -⟩; dsimp only) | (go_at_call 26; (with_reducible refine (next_st 4 4 v3 l3 HV3 HL3 hst hok rfl (by omega) (by omega)).mono ?_); rintro e w3 ⟨rfl, hst1, hok1, -⟩; dsimp only) | go_values | go_skip | go_guarded | go_step | go_upon)
end Go.Proofs.YtlfapmfhdagikaaDoor
