/-
  Package plan: Print.
-/
import Derived.Deep.RegionHeld3
import Derived.Deep.DrawnRows
import Derived.Test.YtdmilbfdiebjgaaDoorPlN
namespace Go.Proofs.YtdmilbfdiebjgaaDoor
open Go.RowKit

section
variable {p : PPlan} {pr ca kk : Int} {An Al Ad Ac : Option Addr} {ln cn ll cl ld cd lc cc : Nat} {w : World}

theorem Print_bad (H : Hid (rightB p = false)) (hs : PSmall p) (h : PAt w p pr ca kk An ln Al ll Ad ld Ac lc) :
    Calls Tryd.prog 7 #[.agg #[.int .i64 pr, .int .i64 ca, .int .i64 kk, .slice An ln cn, .slice Al ll cl, .slice Ad ld cd, .slice Ac lc cc]] w fun e w' => e = .returned (.tuple #[.string ⟨#[]⟩, .int .i64 1]) ∧ Below w.heap.size w w' := by
  have hP := Lib.hid (h.box (.cells #[.int .i64 pr, .int .i64 ca, .int .i64 kk, .slice An ln cn, .slice Al ll cl, .slice Ad ld cd, .slice Ac lc cc] 29))
  clear h
  go_enter Tryd.func7, Tryd.ntmps7
  go_wp2_with (go_at_call 9; refine (Right_is _ H hs hP.out).mono ?_; rintro e w1 ⟨rfl, hb1⟩)
  go_ret2
  exact ⟨rfl, below_box hb1⟩

attribute [local go_sem ↓] Go.wp_at_zero Go.wp_at_succ

set_option maxHeartbeats 8000000 in
set_option maxRecDepth 100000 in
theorem Print_good (H : Hid (rightB p = true)) (hs : PSmall p) (ht : PTiny p) (h : PAt w p pr ca kk An ln Al ll Ad ld Ac lc) (hT : (textB p).length ≤ 140737488355328) :
    Calls Tryd.prog 7 #[.agg #[.int .i64 pr, .int .i64 ca, .int .i64 kk, .slice An ln cn, .slice Al ll cl, .slice Ad ld cd, .slice Ac lc cc]] w fun e w' => e = .returned (.tuple #[.string ⟨(textB p).toArray⟩, .int .i64 0]) ∧ Below w.heap.size w w' := by
  have hP := Lib.hid (h.box (.cells #[.int .i64 pr, .int .i64 ca, .int .i64 kk, .slice An ln cn, .slice Al ll cl, .slice Ad ld cd, .slice Ac lc cc] 29))
  have hX := Lib.hid (Blk.new w 29 #[.int .i64 pr, .int .i64 ca, .int .i64 kk, .slice An ln cn, .slice Al ll cl, .slice Ad ld cd, .slice Ac lc cc])
  obtain ⟨cap, hcap, hcap2⟩ := ht.cap
  obtain ⟨k0, hk0, hk02⟩ := ht.k
  have e1 : pr = p.proto := h.pr.symm
  have e2 : ca = (cap : Int) := by rw [← hcap, h.ca]
  have e3 : kk = (k0 : Int) := by rw [← hk0, h.kk]
  subst e2 e3
  obtain ⟨T0, hT0⟩ : ∃ T, lineS (protoW pr (cap : Int)) ++ lineS (failW (k0 : Int)) = T := ⟨_, rfl⟩
  obtain ⟨TN, hTN⟩ : ∃ T, p.nodes.flatMap (fun n => lineS (nodeW n)) = T := ⟨_, rfl⟩
  obtain ⟨TL, hTL⟩ : ∃ T, p.links.flatMap (fun l => lineS (linkW p.nodes l)) = T := ⟨_, rfl⟩
  obtain ⟨TD, hTD⟩ : ∃ T, p.dests.flatMap (fun d => lineS (destW p.nodes d)) = T := ⟨_, rfl⟩
  obtain ⟨TC, hTC⟩ : ∃ T, p.checks.flatMap (fun c => lineS (checkW p.nodes p.dests c)) = T := ⟨_, rfl⟩
  have hTT : textB p = T0 ++ (TN ++ (TL ++ (TD ++ TC))) := by
    unfold textB
    rw [← e1, hcap, hk0, ← List.append_assoc, hT0, hTN, hTL, hTD, hTC]
  have hlen := hT
  rw [hTT] at hlen
  simp only [List.length_append] at hlen
  have hh := congrArg List.length hT0
  rw [List.length_append] at hh
  have HT0 := Lib.hid hT0
  have HTN := Lib.hid hTN
  have HTL := Lib.hid hTL
  have HTD := Lib.hid hTD
  have HTC := Lib.hid hTC
  have HTT := Lib.hid hTT
  have bn : ln ≤ 4096 := by rw [← h.ln]; exact hs.ln
  have bl : ll ≤ 4096 := by rw [← h.ll]; exact hs.ll
  have bd : ld ≤ 4096 := by rw [← h.ld]; exact hs.ld
  have bc : lc ≤ 4096 := by rw [← h.lc]; exact hs.lc
  have HHT := Lib.hid ht
  have HHS := Lib.hid hs
  have HHP := Lib.hid h
  have hhl : 0 + ((lineS (protoW pr (cap : Int))).length + (lineS (failW (k0 : Int))).length) ≤ 140737488355328 := by omega
  have HHL := Lib.hid hhl
  clear hT0 hTN hTL hTD hTC hTT ht h hh hhl e1 hcap hk0 hT
  go_enter Tryd.func7, Tryd.ntmps7
  go_wp2_with (first
    | (go_at_call 9; refine (Right_is _ H hs hP.out).mono ?_; rintro e w1 ⟨rfl, hb1⟩; have hx1 := hX.out.up hb1; obtain ⟨d0, d1, d2, d3, d4, d5, d6⟩ := box7a hx1)
    | (go_at_call 18; refine (head_any _ _ [] pr cap k0 _ (PrAt.fresh w1) (by simp) hcap2 hk02 HHL.out).mono ?_; rintro e w2 ⟨rfl, hp2, hb2, hf2⟩; rw [HT0.out, List.nil_append] at hp2
       have hq : w.heap.size < w1.heap.size := by have := hb1.size; simp at this; omega
       have hx2 := hf2 _ _ _ (hx1.alloc _) (by decide) (by omega)
       have hbw : Below w.heap.size w w2 := (below_box hb1).trans (((Below.refl _ w1).alloc (by omega) _).trans (hb2.mono (by omega)))
       have hbs := hb2.size
       have hbs' : w1.heap.size < w2.heap.size := by simp at hbs; omega
       clear hb1 hx1 d0 d1 d2 d3 d4 d5 d6 hb2 hf2 hP hX hbs hs
       have d3 := hx2.cell 3
       have HX2 := Lib.hid hx2
       clear hx2))
  go_loopw [6, 21] (fun _ i wr => ∃ k : Nat, k ≤ ln ∧ i = .int .i64 (k : Nat) ∧ PrAt w1.heap.size w1.heap.size (T0 ++ (p.nodes.take k).flatMap (fun n => lineS (nodeW n))) wr ∧ Below w.heap.size w wr ∧ w1.heap.size < wr.heap.size ∧ Blk wr w.heap.size 29 #[.int .i64 pr, .int .i64 (cap : Int), .int .i64 (k0 : Int), .slice An ln cn, .slice Al ll cl, .slice Ad ld cd, .slice Ac lc cc]) (fun _ i _ => ln - (intOf i).toNat)
  case atStart => exact ⟨0, Nat.zero_le _, rfl, by simpa using hp2, hbw, hbs', HX2.out⟩
  case round =>
    clear d3 hp2 hbw hbs' HX2
    obtain ⟨k, hk, rfl, hp, hbw, hbs, hx⟩ := hrel
    by_cases hlt : k < ln
    · obtain ⟨⟨nm, nu⟩, hn⟩ : ∃ n, p.nodes[k]? = some n := ⟨_, List.getElem?_eq_getElem (by rw [HHP.out.ln]; exact hlt)⟩
      obtain ⟨i, hi, hi2⟩ := HHT.out.nodes _ (List.mem_of_getElem? hn)
      replace hi : nu = (i : Int) := hi
      subst hi
      obtain ⟨g, rfl, hg, c0, c1⟩ := (HHP.out.nodes.up hbw).node hn
      try dsimp only at c0 c1
      have hfl := flat_le (fun n => lineS (nodeW n)) p.nodes k _ hn
      have hft := flat_take (fun n => lineS (nodeW n)) p.nodes k _ hn
      rw [HTN.out] at hfl
      try dsimp only at hfl hft
      have hnw : nodeW ⟨nm, (i : Int)⟩ = [⟨#[110, 111, 100, 101]⟩, nm, ⟨(Lib.decDigits i).toArray⟩] := rfl
      rw [hnw] at hfl hft
      have HFT := Lib.hid hft
      have HHX := Lib.hid hx
      have HHB := Lib.hid hbw
      have HHp := Lib.hid (hp.up (below_new wr (.cells #[.string nm, .int .i64 (i : Int)] 41)))
      have HBN := Lib.hid (Blk.new wr 41 #[.string nm, .int .i64 (i : Int)])
      clear hft hnw hn hx hbw hp
      go_wp2
      go_region_held3 (fun w' => w'.cell? ⟨wr.heap.size, 0, none⟩ = some (.string nm) ∧ w'.cell? ⟨wr.heap.size, 1, none⟩ = some (.int .i64 (i : Int))) (go_keep) (first
        | (go_at_call 20; refine (Tryd.strconv_Itoa_small i hi2 _).mono ?_; rintro e w4 ⟨rfl, rfl⟩)
        | (go_at_call 19; refine (line_is _ _ _ [⟨#[110, 111, 100, 101]⟩, nm, ⟨(Lib.decDigits i).toArray⟩] _ HHp.out (below_nd _ _) (RowAt.newAtD _ (List.map Value.string [⟨#[110, 111, 100, 101]⟩, nm, ⟨(Lib.decDigits i).toArray⟩]) _ _ (by simp)) (Lib.hid rfl) (Nat.le_refl _) (by simp) (by simp) (by rw [List.length_append]; omega) (by simp; omega)).mono ?_; rintro e w5 ⟨rfl, hp5, hb5, hf5⟩; have hx5 := (hf5 _ _ _ HBN.out (by decide) (by omega)); have q0 := hx5.cell 0; have q1 := hx5.cell 1))
      have hs5 := hb5.size
      rw [World.size_alloc] at hs5
      go_wp2
      go_roundw
      case rel => exact ⟨k + 1, by omega, by go_num, by rw [HFT.out, ← List.append_assoc]; exact hp5, (HHB.out.alloc HHB.out.size _).trans (hb5.mono (by omega)), by omega, hf5 _ _ _ (HHX.out.alloc _) (by decide) (by omega)⟩
      case measure => simp [intOf]; omega
    · obtain rfl : ln = k := by omega
      have hall : (p.nodes.take ln) = p.nodes := by rw [← HHP.out.ln]; exact List.take_length
      rw [hall, HTN.out] at hp
      have d4 := hx.cell 4
      clear hall
      go_wp2
      obtain ⟨wq, rfl⟩ : ∃ wq : World, wq = wr := ⟨_, rfl⟩
      go_loopw [8, 36] (fun _ i wr => ∃ k : Nat, k ≤ ll ∧ i = .int .i64 (k : Nat) ∧ PrAt w1.heap.size w1.heap.size (T0 ++ TN ++ (p.links.take k).flatMap (fun l => lineS (linkW p.nodes l))) wr ∧ Below w.heap.size w wr ∧ w1.heap.size < wr.heap.size ∧ Blk wr w.heap.size 29 #[.int .i64 pr, .int .i64 (cap : Int), .int .i64 (k0 : Int), .slice An ln cn, .slice Al ll cl, .slice Ad ld cd, .slice Ac lc cc]) (fun _ i _ => ll - (intOf i).toNat)
      case atStart => exact ⟨0, Nat.zero_le _, rfl, by simpa using hp, hbw, hbs, hx⟩
      case round =>
        clear d4 hp hbw hbs hx
        obtain ⟨k, hk, rfl, hp, hbw, hbs, hx⟩ := hrel
        by_cases hlt : k < ll
        · obtain ⟨⟨la, lb, lco⟩, hn⟩ : ∃ n, p.links[k]? = some n := ⟨_, List.getElem?_eq_getElem (by rw [HHP.out.ll]; exact hlt)⟩
          obtain ⟨a, b, i, ha, hb, hi, ha2, hb2, hi2⟩ := HHT.out.links _ (List.mem_of_getElem? hn)
          rw [HHP.out.ln] at ha2 hb2
          replace ha : la = (a : Int) := ha
          replace hb : lb = (b : Int) := hb
          replace hi : lco = (i : Int) := hi
          subst ha hb hi
          obtain ⟨⟨na, nua⟩, hna⟩ : ∃ n, p.nodes[a]? = some n := ⟨_, List.getElem?_eq_getElem (by rw [HHP.out.ln]; exact ha2)⟩
          obtain ⟨⟨nb, nub⟩, hnb⟩ : ∃ n, p.nodes[b]? = some n := ⟨_, List.getElem?_eq_getElem (by rw [HHP.out.ln]; exact hb2)⟩
          obtain ⟨g, rfl, hg, c0, c1, c2⟩ := (HHP.out.links.up hbw).link hn
          obtain ⟨g1, rfl, hg1, e0, _⟩ := HHP.out.nodes.node hna
          obtain ⟨g2, he2, _, f0, _⟩ := HHP.out.nodes.node hnb
          obtain rfl : g1 = g2 := by injection he2 with he2; injection he2
          try dsimp only at c0 c1 c2 e0 f0
          have e0' : ∀ o, (wr.alloc o).cell? ⟨g1, a * 2, none⟩ = some (.string na) := fun o => (((hbw.alloc hbw.size o).cell (p := ⟨g1, a * 2, none⟩) hg1)).trans e0
          have f0' : ∀ o, (wr.alloc o).cell? ⟨g1, b * 2, none⟩ = some (.string nb) := fun o => (((hbw.alloc hbw.size o).cell (p := ⟨g1, b * 2, none⟩) hg1)).trans f0
          have hfl := flat_le (fun l => lineS (linkW p.nodes l)) p.links k _ hn
          have hft := flat_take (fun l => lineS (linkW p.nodes l)) p.links k _ hn
          rw [HTL.out] at hfl
          try dsimp only at hfl hft
          have hnw : linkW p.nodes ⟨(a : Int), (b : Int), (i : Int)⟩ = [⟨#[108, 105, 110, 107]⟩, na, nb, ⟨(Lib.decDigits i).toArray⟩] := by
            unfold linkW; dsimp only; rw [nm_is hna, nm_is hnb, decW_nat]
          rw [hnw] at hfl hft
          have HFT := Lib.hid hft
          have HHX := Lib.hid hx
          have HHB := Lib.hid hbw
          have HHp := Lib.hid (hp.up (below_new wr (.cells #[.int .i64 (a : Int), .int .i64 (b : Int), .int .i64 (i : Int)] 43)))
          have HBN := Lib.hid (Blk.new wr 43 #[.int .i64 (a : Int), .int .i64 (b : Int), .int .i64 (i : Int)])
          have ia : (0 : Int) ≤ (a : Int) := by omega
          have ia2 : (a : Int) < (ln : Int) := by omega
          have ib : (0 : Int) ≤ (b : Int) := by omega
          have ib2 : (b : Int) < (ln : Int) := by omega
          have hbw' := hbw.size
          have d3 := fun o => (hx.alloc (w := wr) o).cell 3
          have E0 := Lib.hid e0
          have F0 := Lib.hid f0
          clear hft hnw hn hx hbw hp hna hnb e0 f0
          go_wp2
          go_region_held3 (fun w' => w'.cell? ⟨w.heap.size, 3, none⟩ = some (.slice (some ⟨g1, 0, none⟩) ln cn) ∧ w'.cell? ⟨wr.heap.size, 0, none⟩ = some (.int .i64 (a : Int)) ∧ w'.cell? ⟨wr.heap.size, 1, none⟩ = some (.int .i64 (b : Int)) ∧ w'.cell? ⟨wr.heap.size, 2, none⟩ = some (.int .i64 (i : Int)) ∧ w'.cell? ⟨g1, a * 2, none⟩ = some (.string na) ∧ w'.cell? ⟨g1, b * 2, none⟩ = some (.string nb)) (go_keep) (first
            | (go_at_call 20; refine (Tryd.strconv_Itoa_small i hi2 _).mono ?_; rintro e w4 ⟨rfl, rfl⟩)
            | (go_at_call 19; refine (line_is _ _ _ [⟨#[108, 105, 110, 107]⟩, na, nb, ⟨(Lib.decDigits i).toArray⟩] _ HHp.out (below_nd _ _) (RowAt.newAtD _ (List.map Value.string [⟨#[108, 105, 110, 107]⟩, na, nb, ⟨(Lib.decDigits i).toArray⟩]) _ _ (by simp)) (Lib.hid rfl) (Nat.le_refl _) (by simp) (by simp) (by rw [List.length_append, List.length_append]; omega) (by simp; omega)).mono ?_; rintro e w5 ⟨rfl, hp5, hb5, hf5⟩; have hx5 := (hf5 _ _ _ HBN.out (by decide) (by omega)); have q0 := hx5.cell 0; have q1 := hx5.cell 1; have q2 := hx5.cell 2; have hx6 := hf5 _ _ _ (HHX.out.alloc _) (by decide) (by omega); have q3 := hx6.cell 3; have q4 := (hb5.cell (p := ⟨g1, a * 2, none⟩) (by show g1 < _; omega)).trans (e0' _); have q5 := (hb5.cell (p := ⟨g1, b * 2, none⟩) (by show g1 < _; omega)).trans (f0' _)))
          have hs5 := hb5.size
          rw [World.size_alloc] at hs5
          go_wp2
          go_roundw
          case rel => exact ⟨k + 1, by omega, by go_num, by rw [HFT.out, ← List.append_assoc]; exact hp5, (HHB.out.alloc HHB.out.size _).trans (hb5.mono (by omega)), by omega, hx6⟩
          case measure => simp [intOf]; omega
        · obtain rfl : ll = k := by omega
          have hall : (p.links.take ll) = p.links := by rw [← HHP.out.ll]; exact List.take_length
          rw [hall, HTL.out] at hp
          have d5 := hx.cell 5
          clear hall
          go_wp2
          obtain ⟨wq2, rfl⟩ : ∃ wq : World, wq = wr := ⟨_, rfl⟩
          go_loopw [10, 63] (fun _ i wr => ∃ k : Nat, k ≤ ld ∧ i = .int .i64 (k : Nat) ∧ PrAt w1.heap.size w1.heap.size (T0 ++ TN ++ TL ++ (p.dests.take k).flatMap (fun d => lineS (destW p.nodes d))) wr ∧ Below w.heap.size w wr ∧ w1.heap.size < wr.heap.size ∧ Blk wr w.heap.size 29 #[.int .i64 pr, .int .i64 (cap : Int), .int .i64 (k0 : Int), .slice An ln cn, .slice Al ll cl, .slice Ad ld cd, .slice Ac lc cc]) (fun _ i _ => ld - (intOf i).toNat)
          case atStart => exact ⟨0, Nat.zero_le _, rfl, by simpa using hp, hbw, hbs, hx⟩
          case round =>
            clear d5 hp hbw hbs hx
            obtain ⟨k, hk, rfl, hp, hbw, hbs, hx⟩ := hrel
            by_cases hlt : k < ld
            · obtain ⟨⟨nm, og⟩, hn⟩ : ∃ n, p.dests[k]? = some n := ⟨_, List.getElem?_eq_getElem (by rw [HHP.out.ld]; exact hlt)⟩
              have hog := HHT.out.dests _ (List.mem_of_getElem? hn)
              rw [HHP.out.ln] at hog
              obtain ⟨_, hol⟩ := HHS.out.dests _ (List.mem_of_getElem? hn)
              obtain ⟨g, Ao, co, rfl, hg, c0, c1, hO⟩ := (HHP.out.dests.up hbw).dest hn
              try dsimp only at hog hol c0 c1 hO
              obtain ⟨lo, hlo⟩ : ∃ n, og.length = n := ⟨_, rfl⟩
              rw [hlo] at c1 hol
              have HLO := Lib.hid hlo
              have HOG := Lib.hid hog
              have hfl := flat_le (fun d => lineS (destW p.nodes d)) p.dests k _ hn
              have hft := flat_take (fun d => lineS (destW p.nodes d)) p.dests k _ hn
              rw [HTD.out] at hfl
              try dsimp only at hfl hft
              have HFT := Lib.hid hft
              obtain ⟨d0, d1, d2, d3, d4, d5, d6⟩ := box7a hx
              have HHX := Lib.hid hx
              have HHB := Lib.hid hbw
              have HO' := Lib.hid (fun o => hO.box o)
              have HN' := Lib.hid (fun o => (HHP.out.nodes.up hbw).box o)
              have HLN := Lib.hid HHP.out.ln
              have HHp := Lib.hid (hp.up (below_new wr (.cells #[.string nm, .slice Ao lo co] 49)))
              clear hft hn hx hbw hp hlo hog hO
              go_wp2_with (go_at_call 21; refine (dest_line _ _ _ p _ HHp.out (by simp; omega) (HN'.out _) HLN nm og (HO'.out _) HLO hol HOG (by rw [List.length_append, List.length_append, List.length_append]; omega)).mono ?_; rintro e w5 ⟨rfl, hp5, hb5, hf5⟩)
              have hs5 := hb5.size
              rw [World.size_alloc] at hs5
              go_roundw
              case rel => exact ⟨k + 1, by omega, by go_num, by rw [HFT.out, ← List.append_assoc]; exact hp5, (HHB.out.alloc HHB.out.size _).trans (hb5.mono (by omega)), by omega, hf5 _ _ _ (HHX.out.alloc _) (by decide) (by omega)⟩
              case measure => simp [intOf]; omega
            · obtain rfl : ld = k := by omega
              have hall : (p.dests.take ld) = p.dests := by rw [← HHP.out.ld]; exact List.take_length
              rw [hall, HTD.out] at hp
              have d6 := hx.cell 6
              clear hall
              go_wp2
              obtain ⟨wq3, rfl⟩ : ∃ wq : World, wq = wr := ⟨_, rfl⟩
              go_loopw [12, 74] (fun _ i wr => ∃ k : Nat, k ≤ lc ∧ i = .int .i64 (k : Nat) ∧ PrAt w1.heap.size w1.heap.size (T0 ++ TN ++ TL ++ TD ++ (p.checks.take k).flatMap (fun c => lineS (checkW p.nodes p.dests c))) wr ∧ Below w.heap.size w wr ∧ w1.heap.size < wr.heap.size ∧ Blk wr w.heap.size 29 #[.int .i64 pr, .int .i64 (cap : Int), .int .i64 (k0 : Int), .slice An ln cn, .slice Al ll cl, .slice Ad ld cd, .slice Ac lc cc]) (fun _ i _ => lc - (intOf i).toNat)
              case atStart => exact ⟨0, Nat.zero_le _, rfl, by simpa using hp, hbw, hbs, hx⟩
              case round =>
                clear d6 hp hbw hbs hx
                obtain ⟨k, hk, rfl, hp, hbw, hbs, hx⟩ := hrel
                by_cases hlt : k < lc
                · obtain ⟨⟨kd, cn', cd', cl', co'⟩, hn⟩ : ∃ n, p.checks[k]? = some n := ⟨_, List.getElem?_eq_getElem (by rw [HHP.out.lc]; exact hlt)⟩
                  obtain ⟨hkd, i, d, li, o, hi, hd, hli, ho, hi2, hd2, ho2, hli2⟩ := HHT.out.checks _ (List.mem_of_getElem? hn)
                  rw [HHP.out.ln] at hi2 ho2
                  rw [HHP.out.ld] at hd2
                  replace hi : cn' = (i : Int) := hi
                  replace hd : cd' = (d : Int) := hd
                  replace hli : cl' = (li : Int) := hli
                  replace ho : co' = (o : Int) := ho
                  subst hi hd hli ho
                  obtain ⟨g, rfl, hg, c0, c1, c2, c3, c4⟩ := (HHP.out.checks.up hbw).check hn
                  try dsimp only at c0 c1 c2 c3 c4 hkd
                  have hfl := flat_le (fun c => lineS (checkW p.nodes p.dests c)) p.checks k _ hn
                  have hft := flat_take (fun c => lineS (checkW p.nodes p.dests c)) p.checks k _ hn
                  rw [HTC.out] at hfl
                  try dsimp only at hfl hft
                  have HFT := Lib.hid hft
                  obtain ⟨d0, d1, d2, d3, d4, d5, d6⟩ := box7a hx
                  have HHX := Lib.hid hx
                  have HHB := Lib.hid hbw
                  have HK := Lib.hid hkd
                  have HN' := Lib.hid (fun o => (HHP.out.nodes.up hbw).box o)
                  have HD' := Lib.hid (fun o => (HHP.out.dests.up hbw).box o)
                  have HHp := Lib.hid (hp.up (below_new wr (.cells #[.int .i64 kd, .int .i64 (i : Int), .int .i64 (d : Int), .int .i64 (li : Int), .int .i64 (o : Int)] 51)))
                  clear hft hn hx hbw hp hkd
                  go_wp2_with (go_at_call 22; refine (check_line _ _ _ p _ HHp.out (by simp; omega) (HN'.out _) (HD'.out _) HHP.out.ln HHP.out.ld bn bd kd i d o li HK.out hi2 hd2 ho2 hli2 (by rw [List.length_append, List.length_append, List.length_append, List.length_append]; omega)).mono ?_; rintro e w5 ⟨rfl, hp5, hb5, hf5⟩)
                  have hs5 := hb5.size
                  rw [World.size_alloc] at hs5
                  go_roundw
                  case rel => exact ⟨k + 1, by omega, by go_num, by rw [HFT.out, ← List.append_assoc]; exact hp5, (HHB.out.alloc HHB.out.size _).trans (hb5.mono (by omega)), by omega, hf5 _ _ _ (HHX.out.alloc _) (by decide) (by omega)⟩
                  case measure => simp [intOf]; omega
                · obtain rfl : lc = k := by omega
                  have hall : (p.checks.take lc) = p.checks := by rw [← HHP.out.lc]; exact List.take_length
                  rw [hall, HTC.out] at hp
                  have htx : textB p = T0 ++ TN ++ TL ++ TD ++ TC := by rw [HTT.out]; simp only [List.append_assoc]
                  rw [← htx] at hp
                  have hne : textB p ≠ [] := by
                    rw [HTT.out, ← HT0.out]
                    unfold lineS lineB
                    simp
                  have HNE := Lib.hid hne
                  have HHB := Lib.hid hbw
                  clear hall htx hne hbw
                  go_wp2_with (go_at_call 23; refine (String_any _ _ _ _ hp HNE.out).mono ?_; rintro e w5 ⟨rfl, hb5⟩)
                  go_ret2
                  exact ⟨rfl, HHB.out.trans (hb5.mono (by omega))⟩
end

end Go.Proofs.YtdmilbfdiebjgaaDoor
