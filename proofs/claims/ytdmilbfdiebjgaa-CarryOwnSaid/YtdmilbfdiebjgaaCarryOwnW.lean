/-
  CarryOwn: the walk.
-/
import Derived.Test.YtdmilbfdiebjgaaCaG
import Derived.Test.YtdmilbfdiebjgaaCaJ
import Derived.Test.YtdmilbfdiebjgaaPmB
namespace Go.Proofs.Ytdmilbfdiebjgaa
open Go.RowKit
set_option linter.unusedVariables false
set_option linter.unusedSimpArgs false

theorem own_fit {p : PPlan} (h : rightB p = true) (num : Int) : fitB p num (ownR p) = true := by
  unfold fitB holdsB ownR
  rcases proto_two h with ⟨e, _⟩ | ⟨e, c1, c2⟩
  · have hp : ¬ p.proto = 2 := by omega
    rw [if_neg hp, if_neg hp]; rfl
  · rw [if_pos e, if_pos e]
    simp [rtRight, pathB, pathOk, memI]
    omega
theorem own_len (p : PPlan) : rtLen (ownR p) = 0 := by unfold ownR; split <;> rfl
theorem own_best {p : PPlan} {num : Int} {r : Rt} (hf : fitB p num r = true) (hk : r.kind ≠ 0) : rtBetter r (ownR p) = false := by
  have hl := own_len p
  unfold rtBetter
  by_cases hp : p.proto = 2
  · obtain ⟨k1, k2, k3, k4, _⟩ := fit_pth hf hk hp
    have ho : ownR p = ⟨2, 0, []⟩ := by unfold ownR; rw [if_pos hp]
    rw [hl, ho, if_pos k1]
    have hr : rtLen r = (r.path.length : Int) := by unfold rtLen lenV; rw [if_neg (by omega), if_pos k1]
    rw [hr]
    by_cases e : (r.path.length : Int) = 0
    · have hn : r.path = [] := List.eq_nil_of_length_eq_zero (by omega)
      rw [if_pos e, hn]
      rfl
    · rw [if_neg e]; first | (simp; done) | (simp; omega)
  · obtain ⟨k1, k2, k3, k4⟩ := fit_vec hf hk hp
    have ho : ownR p = ⟨1, 0, []⟩ := by unfold ownR; rw [if_neg hp]
    rw [hl, ho, if_pos k1]
    have hr : rtLen r = r.cost := by unfold rtLen lenV; rw [if_pos k1]
    rw [hr]
    by_cases e : r.cost = 0
    · rw [if_pos e, k4]; rfl
    · rw [if_neg e]; simp; omega
set_option maxHeartbeats 8000000 in
set_option maxRecDepth 100000 in
theorem carryOwn_walk (A : Option Addr) (c : Nat) (l : List Int) (hwf : ∀ v ∈ l, InI v) (hm : l.length ≤ 9223372036854775807) (hc : l.length ≤ c) (hcm : c ≤ 9223372036854775807) (x0 : Int) (hx0 : InI x0) (y0 : Int) (hy0 : InI y0) (A3 : Option Addr) (c3 : Nat) (l3 : List Int) (hwf3 : ∀ v ∈ l3, InI v) (hm3 : l3.length ≤ 9223372036854775807) (hc3 : l3.length ≤ c3) (hcm3 : c3 ≤ 9223372036854775807) (w : World) (hA : CellsAt w w.heap.size A (l.map (Value.int .i64))) (hA3 : CellsAt w w.heap.size A3 (l3.map (Value.int .i64))) :
    Calls Try.prog 8 #[.slice A l.length c, .int .i64 x0, .int .i64 y0, .slice A3 l3.length c3] w fun e w' => e = .returned (.bool true) ∧ Below w.heap.size w w' := by
  obtain ⟨p, hp⟩ : ∃ p, netOf l = p := ⟨_, rfl⟩
  have hk := netOk l
  rw [hp] at hk
  have HP := Lib.hid hp
  have HM := Lib.hid hwf
  clear hp hwf
  obtain ⟨n, hn⟩ : ∃ n, l.length = n := ⟨_, rfl⟩
  rw [hn] at hm hc ⊢
  have HLEN := Lib.hid hn
  clear hn
  have hn1 := hk.nodes1
  have hl9 := hk.links1
  have hR := hk.right.out
  have m1 : ∀ (k c : Int) (A : Option Addr) (n m : Nat) (w : World), (Instr.field 42 (.agg #[.int .i64 k, .int .i64 c, .slice A n m]) 0).run Try.prog w = .ok (.int .i64 k) w := fun _ _ _ _ _ _ => by kernel_rfl
  have m2 : ∀ (k c : Int) (A : Option Addr) (n m : Nat) (w : World), (Instr.field 42 (.agg #[.int .i64 k, .int .i64 c, .slice A n m]) 1).run Try.prog w = .ok (.int .i64 c) w := fun _ _ _ _ _ _ => by kernel_rfl
  have U := Below.refl w.heap.size w
  obtain ⟨n3, hn3⟩ : ∃ n, l3.length = n := ⟨_, rfl⟩
  rw [hn3] at hm3 hc3 ⊢
  have HN3 := Lib.hid hn3
  have HW3 := Lib.hid hwf3
  have hd1 := hk.dests1
  clear hn3 hwf3
  obtain ⟨i, hi, hil⟩ := pickN_nat x0 p.dests.length (by omega)
  obtain ⟨y, hy, hyl⟩ := pickN_nat y0 p.nodes.length (by omega)
  have HX := Lib.hid hi
  have HY := Lib.hid hy
  obtain ⟨d, hd⟩ : ∃ d, p.dests[i]? = some d := ⟨_, List.getElem?_eq_getElem hil⟩
  obtain ⟨ny, hny⟩ : ∃ nd, p.nodes[y]? = some nd := ⟨_, List.getElem?_eq_getElem hyl⟩
  have HD := Lib.hid hd
  have HNY := Lib.hid hny
  have hcap : p.cap ≤ 12 := by rcases proto_two hR with ⟨_, e⟩ | ⟨_, _, e⟩ <;> omega
  have hol : d.orig.length ≤ 4000 := (hk.small.dests d (List.mem_of_getElem? hd)).2
  have hown : ownB p (i : Int) (y : Int) = if memI (y : Int) d.orig = true then ownR p else Rt.none := by
    unfold ownB origAt
    rw [Int.toNat_natCast, hd, hR, decide_eq_true (show (0 : Int) ≤ (i : Int) by omega), decide_eq_true (show (i : Int) < (p.dests.length : Int) by omega)]
    rfl
  have HOWN := Lib.hid hown
  obtain ⟨r, hr⟩ : ∃ r, heldR p ny.num l3 = r := ⟨_, rfl⟩
  have HRA := Lib.hid hr
  have hbest : rtBetter r (ownR p) = false := by rw [← hr]; exact own_best (held_fit hR _ _) (held_kind _ _ _)
  obtain ⟨ro, hro⟩ : ∃ r, ownR p = r := ⟨_, rfl⟩
  have HBT : Hid (rtBetter r ro = false) := Lib.hid (hro ▸ hbest)
  have HLN : Hid (rtLen ro = 0) := Lib.hid (hro ▸ own_len p)
  have HFT : Hid (fitsB p (y : Int) ro = true) := Lib.hid (by rw [fits_nat hR hny, ← hro]; exact own_fit hR _)
  have HRO := Lib.hid hro
  have i0 : (0 : Int) ≤ (i : Int) := by omega
  have i1 : (i : Int) < (p.dests.length : Int) := by omega
  obtain ⟨no, hno⟩ : ∃ n, d.orig.length = n := ⟨_, rfl⟩
  rw [hno] at hol
  have HNO := Lib.hid hno
  clear hi hy hd hny hown hr hbest hro
  go_enter Try.func8, Try.ntmps8
  go_wp2_with (first
    | (go_at_call 26; (with_reducible refine (awake7_any _).mono ?_); rintro e w1 ⟨rfl, hb1⟩; replace hA := hA.on hb1; replace hA3 := hA3.on hb1; replace U := below_on U hb1)
    | (go_at_call 12; refine (Net_at p l HP A n c HLEN.out HM.out hm hc hcm _ hA).mono ?_; rintro e w2 ⟨An, cn, Al, cl, Ad, cd, Ac, cc, rfl, ho, hb2⟩; have h := PBox.new U hb2 ho; replace hA := hA.on hb2; replace hA3 := hA3.on hb2; replace U := below_on U hb2; have hn2 := below_new w2 (.cells #[.int .i64 p.proto, .int .i64 p.cap, .int .i64 p.k, .slice An p.nodes.length cn, .slice Al p.links.length cl, .slice Ad p.dests.length cd, .slice Ac p.checks.length cc] 29); replace hA := hA.on hn2; replace hA3 := hA3.on hn2; replace U := below_on U hn2; obtain ⟨ce0, ce1, ce2, ce3, ce4, ce5, ce6⟩ := h.cells; obtain ⟨gD, Ao, co, hgD, _, dn, ds, hor⟩ := h.at_.dests.dest HD.out; subst hgD; rw [HNO.out] at ds)
    | (go_at_call 27; (with_reducible refine (pick7_is x0 _ (i : Int) hx0 (by omega) (by omega) HX _).mono ?_); rintro e wp ⟨rfl, rfl⟩)
    | (go_at_call 27; (with_reducible refine (pick7_is y0 _ (y : Int) hy0 (by omega) (by omega) HY _).mono ?_); rintro e wp ⟨rfl, rfl⟩))
  have HOR := Lib.hid hor
  clear hor
  go_loop [13, 14] (fun s13 s14 => ∃ (t : Nat) (here : Bool), t ≤ no ∧ s14 = .int .i64 (t : Nat) ∧ s13 = .bool here ∧ Hid (memI (y : Int) (d.orig.take t) = here)) (fun _ s14 => no - (intOf s14).toNat)
  case atStart => exact ⟨0, false, Nat.zero_le _, rfl, rfl, Lib.hid (by simp [memI])⟩
  case round =>
    obtain ⟨t, here, ht, rfl, rfl, HH⟩ := hrel
    by_cases htl : t < no
    · obtain ⟨z, hz⟩ : ∃ z, d.orig[t]? = some z := ⟨_, List.getElem?_eq_getElem (by rw [HNO.out]; exact htl)⟩
      obtain ⟨g, rfl, _, cg⟩ := HOR.out.num hz
      have hmn : memI (y : Int) (d.orig.take (t + 1)) = (here || decide ((y : Int) = z)) := by
        rw [← HH.out]
        unfold memI
        rw [List.take_add_one, hz]
        simp [List.mem_append, Bool.decide_or]
      have HMN := Lib.hid hmn
      clear hmn hz
      have htl' : (t : Int) < (no : Int) := by omega
      have htl0 : (0 : Int) ≤ (t : Int) := by omega
      cases here
      · by_cases e : z = (y : Int)
        · have tt : (z == (y : Int)) = true := by simpa using e
          have HM2 : Hid (memI (y : Int) (d.orig.take (t + 1)) = true) := Lib.hid (by rw [HMN.out, decide_eq_true e.symm]; rfl)
          clear e
          go_wp2
          go_round
          case rel => exact ⟨t + 1, true, by omega, by go_num, rfl, HM2⟩
          case measure => simp [intOf]; omega
        · have tt : (z == (y : Int)) = false := by simpa using e
          have HM2 : Hid (memI (y : Int) (d.orig.take (t + 1)) = false) := Lib.hid (by rw [HMN.out, decide_eq_false (fun h => e h.symm)]; rfl)
          clear e
          go_wp2
          go_round
          case rel => exact ⟨t + 1, false, by omega, by go_num, rfl, HM2⟩
          case measure => simp [intOf]; omega
      · have HM2 : Hid (memI (y : Int) (d.orig.take (t + 1)) = true) := Lib.hid (by rw [HMN.out]; rfl)
        go_wp2
        go_round
        case rel => exact ⟨t + 1, true, by omega, by go_num, rfl, HM2⟩
        case measure => simp [intOf]; omega
    · have htl' : ¬ (t : Int) < (no : Int) := by omega
      have HMP : Hid (memI (y : Int) d.orig = here) := Lib.hid (by have := HH.out; rwa [List.take_of_length_le (by rw [HNO.out]; omega)] at this)
      cases here
      · have HO : Hid (ownB p (i : Int) (y : Int) = Rt.none) := Lib.hid (by rw [HOWN.out, HMP.out, if_neg (by simp)])
        obtain ⟨rn, hrn⟩ : ∃ q, Rt.none = q := ⟨_, rfl⟩
        have hrk : (rn.kind == 0) = true := by rw [← hrn]; rfl
        rw [hrn] at HO
        clear hrn
        go_wp2_with (first
          | (go_at_call 28; (with_reducible refine (caOwn_w p (i : Int) (y : Int) rn HO h.at_ hk.small).mono ?_); rintro e w3 ⟨Ao2, co2, rfl, Ro, ho1, ho2, hb3⟩; replace h := h.go hb3; replace hA := hA.on hb3; replace hA3 := hA3.on hb3; replace U := below_on U hb3; have hn3 := below_new w3 (.cells #[.int .i64 rn.kind, .int .i64 rn.cost, .slice Ao2 rn.path.length co2] 42); replace h := h.go hn3; replace hA := hA.on hn3; replace hA3 := hA3.on hn3; replace Ro := Ro.on hn3; replace U := below_on U hn3; have Bo := Blk.new w3 42 #[.int .i64 rn.kind, .int .i64 rn.cost, .slice Ao2 rn.path.length co2]; obtain ⟨ce7, ce8, ce9, ce10, ce11, ce12, ce13⟩ := h.cells; have ce14 := Bo.cell 0; have ce15 := Bo.cell 1; have ce16 := Bo.cell 2)
          | (go_at_call 36; (with_reducible refine (held_is p y ny HNY hcap l3 r HRA HW3 n3 HN3 hm3 h.at_ hk.small hA3).mono ?_); rintro e w4 ⟨Aa, ca, rfl, Ra, ha1, ha2, hb4⟩; replace h := h.go hb4; replace Bo := Bo.up hb4; replace hA := hA.on hb4; replace hA3 := hA3.on hb4; replace Ro := Ro.on hb4; replace U := below_on U hb4; have hn4 := below_new w4 (.cells #[.int .i64 r.kind, .int .i64 r.cost, .slice Aa r.path.length ca] 42); replace h := h.go hn4; replace Bo := Bo.up hn4; replace hA := hA.on hn4; replace hA3 := hA3.on hn4; replace Ro := Ro.on hn4; replace Ra := Ra.on hn4; replace U := below_on U hn4; have Ba := Blk.new w4 42 #[.int .i64 r.kind, .int .i64 r.cost, .slice Aa r.path.length ca]; obtain ⟨ce17, ce18, ce19, ce20, ce21, ce22, ce23⟩ := h.cells; have ce24 := Bo.cell 0; have ce25 := Bo.cell 1; have ce26 := Bo.cell 2; have ce27 := Ba.cell 0; have ce28 := Ba.cell 1; have ce29 := Ba.cell 2))
        go_ret
        exact ⟨rfl, U⟩
      · have HO : Hid (ownB p (i : Int) (y : Int) = ro) := Lib.hid (by rw [HOWN.out, HMP.out, if_pos rfl, HRO.out])
        go_wp2_with (first
          | (go_at_call 28; (with_reducible refine (caOwn_w p (i : Int) (y : Int) ro HO h.at_ hk.small).mono ?_); rintro e w3 ⟨Ao2, co2, rfl, Ro, ho1, ho2, hb3⟩; replace h := h.go hb3; replace hA := hA.on hb3; replace hA3 := hA3.on hb3; replace U := below_on U hb3; have hn3 := below_new w3 (.cells #[.int .i64 ro.kind, .int .i64 ro.cost, .slice Ao2 ro.path.length co2] 42); replace h := h.go hn3; replace hA := hA.on hn3; replace hA3 := hA3.on hn3; replace Ro := Ro.on hn3; replace U := below_on U hn3; have Bo := Blk.new w3 42 #[.int .i64 ro.kind, .int .i64 ro.cost, .slice Ao2 ro.path.length co2]; obtain ⟨ce7, ce8, ce9, ce10, ce11, ce12, ce13⟩ := h.cells; have ce14 := Bo.cell 0; have ce15 := Bo.cell 1; have ce16 := Bo.cell 2)
          | (go_at_call 36; (with_reducible refine (held_is p y ny HNY hcap l3 r HRA HW3 n3 HN3 hm3 h.at_ hk.small hA3).mono ?_); rintro e w4 ⟨Aa, ca, rfl, Ra, ha1, ha2, hb4⟩; replace h := h.go hb4; replace Bo := Bo.up hb4; replace hA := hA.on hb4; replace hA3 := hA3.on hb4; replace Ro := Ro.on hb4; replace U := below_on U hb4; have hn4 := below_new w4 (.cells #[.int .i64 r.kind, .int .i64 r.cost, .slice Aa r.path.length ca] 42); replace h := h.go hn4; replace Bo := Bo.up hn4; replace hA := hA.on hn4; replace hA3 := hA3.on hn4; replace Ro := Ro.on hn4; replace Ra := Ra.on hn4; replace U := below_on U hn4; have Ba := Blk.new w4 42 #[.int .i64 r.kind, .int .i64 r.cost, .slice Aa r.path.length ca]; obtain ⟨ce17, ce18, ce19, ce20, ce21, ce22, ce23⟩ := h.cells; have ce24 := Bo.cell 0; have ce25 := Bo.cell 1; have ce26 := Bo.cell 2; have ce27 := Ba.cell 0; have ce28 := Ba.cell 1; have ce29 := Ba.cell 2)
          | (go_at_call 33; (with_reducible refine (caFits_w p (y : Int) ro _ HFT h.at_ hk.small Ro ho1 ho2).mono ?_); rintro e w5 ⟨rfl, hb5⟩; replace h := h.go hb5; replace Bo := Bo.up hb5; replace Ba := Ba.up hb5; replace hA := hA.on hb5; replace hA3 := hA3.on hb5; replace Ro := Ro.on hb5; replace Ra := Ra.on hb5; replace U := below_on U hb5; obtain ⟨ce30, ce31, ce32, ce33, ce34, ce35, ce36⟩ := h.cells; have ce37 := Bo.cell 0; have ce38 := Bo.cell 1; have ce39 := Bo.cell 2; have ce40 := Ba.cell 0; have ce41 := Ba.cell 1; have ce42 := Ba.cell 2)
          | (go_at_call 37; (with_reducible refine (atLength_is ro 0 HLN co2 rfl).mono ?_); rintro e w6 ⟨rfl, hb6⟩; replace h := h.go hb6; replace Bo := Bo.up hb6; replace Ba := Ba.up hb6; replace hA := hA.on hb6; replace hA3 := hA3.on hb6; replace Ro := Ro.on hb6; replace Ra := Ra.on hb6; replace U := below_on U hb6; obtain ⟨ce43, ce44, ce45, ce46, ce47, ce48, ce49⟩ := h.cells; have ce50 := Bo.cell 0; have ce51 := Bo.cell 1; have ce52 := Bo.cell 2; have ce53 := Ba.cell 0; have ce54 := Ba.cell 1; have ce55 := Ba.cell 2)
          | (go_at_call 38; (with_reducible refine (atBetter_is r ro _ HBT Ra Ro).mono ?_); rintro e w7 ⟨rfl, hb7⟩; replace h := h.go hb7; replace Bo := Bo.up hb7; replace Ba := Ba.up hb7; replace hA := hA.on hb7; replace hA3 := hA3.on hb7; replace Ro := Ro.on hb7; replace Ra := Ra.on hb7; replace U := below_on U hb7; obtain ⟨ce56, ce57, ce58, ce59, ce60, ce61, ce62⟩ := h.cells; have ce63 := Bo.cell 0; have ce64 := Bo.cell 1; have ce65 := Bo.cell 2; have ce66 := Ba.cell 0; have ce67 := Ba.cell 1; have ce68 := Ba.cell 2))
        go_ret
        exact ⟨rfl, U⟩
end Go.Proofs.Ytdmilbfdiebjgaa
