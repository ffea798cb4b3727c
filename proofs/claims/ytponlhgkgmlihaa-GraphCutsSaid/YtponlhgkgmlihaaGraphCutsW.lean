/-
  GraphCuts: the walk.
-/
import Derived.Deep.RegionHeld3
import Derived.Test.YtponlhgkgmlihaaGrH
import Derived.Test.YtponlhgkgmlihaaGrI
namespace Go.Proofs.Ytponlhgkgmlihaa
open Go.RowKit
set_option linter.unusedVariables false
set_option linter.unusedSimpArgs false

theorem Of_row (L : List Nat) (n : Nat) (hn : L.length = n) (hm : n ≤ 1000) (y : Nat) (H : Hid (ofB (asInts L) = y)) {A : Option Addr} {c : Nat} (w : World) (hr : RowAt w w.heap.size A (intCells L)) :
    Calls Try.prog 25 #[.slice A n c] w fun e w' => e = .returned (.int .i64 (y : Nat)) ∧ w = w' := by
  have h := Of_any A c (asInts L) w.heap.size w hr.ints (by rw [asInts_len]; omega)
  rw [asInts_len, hn, H.out] at h
  exact h
set_option maxHeartbeats 4000000 in
set_option maxRecDepth 100000 in
theorem graphCuts_walk (A : Option Addr) (c : Nat) (l : List Int) (hwf : ∀ v ∈ l, InI v) (hm : l.length ≤ 9223372036854775807) (hc : l.length ≤ c) (hcm : c ≤ 9223372036854775807) (f0 : Int) (hf0 : InI f0) (i0 : Int) (hi0 : InI i0) (w : World) (hA : CellsAt w w.heap.size A (l.map (Value.int .i64))) :
    Calls Try.prog 7 #[.slice A l.length c, .int .i64 f0, .int .i64 i0] w fun e w' => e = .returned (.bool true) ∧ Below w.heap.size w w' := by
  obtain ⟨p, hp⟩ : ∃ p, netOf l = p := ⟨_, rfl⟩
  have hk := netOk l
  rw [hp] at hk
  have HP := Lib.hid hp
  have HM := Lib.hid hwf
  clear hp hwf
  obtain ⟨n, hn⟩ : ∃ n, l.length = n := ⟨_, rfl⟩
  rw [hn] at hm hc ⊢
  have HLEN := Lib.hid hn
  clear hn
  have hn1 := hk.nodes1
  have hg := gplan_right hk.right.out
  obtain ⟨f, hf, hfl⟩ := pickN_nat f0 512 (by omega)
  have Pf := Lib.hid (show pickN f0 512 = (f : Int) from hf)
  clear hf
  obtain ⟨C, hC⟩ : ∃ L, cutsB p (f : Int) = L := ⟨_, rfl⟩
  obtain ⟨nc, hnc⟩ : ∃ m, C.length = m := ⟨_, rfl⟩
  have hl16 := hg.l16
  have hnc16 : nc ≤ 16 := by
    have h1 := cutsK_len p f p.links.length
    rw [← hnc, ← hC]
    unfold cutsB
    omega
  have HC := Lib.hid hC
  have HNC := Lib.hid hnc
  obtain ⟨ii, hi, hz0, hz1, hz2⟩ := info_parts intInfo
  by_cases hll : p.links.length = 0
  · have hc0 : nc = 0 := by
      rw [← hnc, ← hC]
      unfold cutsB
      rw [hll]; rfl
    have t1 : ((p.links.length : Int) == 0) = true := by simp [hll]
    subst hc0
    clear hll hC hnc
    go_enter Try.func7, Try.ntmps7
    go_wp2_with (first
      | (go_at_call 10; refine (awake5_any _).mono ?_; rintro e w1 ⟨rfl, hb1⟩; have hA1 := (hA.below hb1).more hb1.size)
      | (go_at_call 11; refine (Net_at p l HP A n c HLEN.out HM.out hm hc hcm _ hA1).mono ?_; rintro e w2 ⟨An, cn, Al, cl, Ad, cd, Ac, cc, rfl, ho, hb2⟩; have h0 := PBox.new hb1 hb2 ho; obtain ⟨q0, q1, q2, q3, q4, q5, q6⟩ := h0.cells)
      | (go_at_call 13; (with_reducible refine (pick5_is f0 512 f hf0 (by omega) (by omega) Pf _).mono ?_); rintro e w3 ⟨rfl, rfl⟩)
      | (go_at_call 23; (with_reducible refine (Cuts_ok f C 0 HC HNC hk.right hk.small h0.at_).mono ?_); rintro e w4 ⟨AC, cC, rfl, hoC, hb4⟩; have h1 := h0.go hb4; obtain ⟨r0, r1, r2, r3, r4, r5, r6⟩ := h1.cells))
    go_ret
    exact ⟨rfl, h1.up⟩
  · have hlp : 0 < p.links.length := by omega
    obtain ⟨i, hii, hil⟩ := pickN_nat i0 p.links.length hlp
    have PI := Lib.hid hii
    have t1 : ((p.links.length : Int) == 0) = false := beq_eq_false_iff_ne.2 (by omega)
    obtain ⟨⟨la, lb, lco⟩, hlk⟩ : ∃ lk, p.links[i]? = some lk := ⟨_, List.getElem?_eq_getElem hil⟩
    obtain ⟨a, b, ea, eb, hab, hbn⟩ := hg.link i _ hlk
    dsimp only at ea eb
    subst ea eb
    have han : a < p.nodes.length := by omega
    have hi16 : i < 16 := by omega
    obtain ⟨S, hS⟩ : ∃ S, setB (f : Int) = S := ⟨_, rfl⟩
    obtain ⟨ns, hns⟩ : ∃ m, S.length = m := ⟨_, rfl⟩
    have hns16 : ns ≤ 16 := by rw [← hns, ← hS]; exact uptoB_len _ 16
    obtain ⟨y, hy⟩ : ∃ y : Nat, f ||| 2 ^ i = y := ⟨_, rfl⟩
    have hyo : orI (f : Int) i = (y : Int) := by rw [← hy]; exact orI_nat f i (by omega) hi16
    have HOF : Hid (ofB (asInts (S ++ [i])) = y) := Lib.hid (by
      rw [← hy, ← hS, ← ofB_more f i (by omega) hi16]
      unfold asInts
      rw [List.map_append]; rfl)
    have hcut := cut_fewer hg (f := (f : Int)) (a := a) (b := b) hlk rfl rfl
    rw [hyo] at hcut
    obtain ⟨ry, hry⟩ : ∃ v, (reachB p (y : Int) (a : Int)).length = v := ⟨_, rfl⟩
    obtain ⟨rx, hrx⟩ : ∃ v, (reachB p (f : Int) (a : Int)).length = v := ⟨_, rfl⟩
    rw [hry, hrx] at hcut
    have hmem : i ∈ C ↔ ry < rx := by rw [← hC, cuts_mem]; exact hcut
    have hstand : i ∈ C → hasB (f : Int) (i : Int) = false := fun h => by rw [← hC, cuts_mem] at h; exact cut_stands h
    obtain ⟨hb, hhb⟩ : ∃ hb, hasB (f : Int) (i : Int) = hb := ⟨_, rfl⟩
    rw [hhb] at hstand
    have HB := Lib.hid hhb
    have HRY := Lib.hid hry
    have HRX := Lib.hid hrx
    have HMEM := Lib.hid hmem
    have HST := Lib.hid hstand
    have HS := Lib.hid hS
    have HNS := Lib.hid hns
    have HLK := Lib.hid hlk
    have x0 : (0 : Int) ≤ (i : Int) := by omega
    have x1 : (i : Int) < (p.links.length : Int) := by omega
    clear hC hnc hii hlk hS hns hy hyo hcut hry hrx hmem hstand hhb hll
    go_enter Try.func7, Try.ntmps7
    go_wp2_with (first
      | (go_at_call 10; refine (awake5_any _).mono ?_; rintro e w1 ⟨rfl, hb1⟩; have hA1 := (hA.below hb1).more hb1.size)
      | (go_at_call 11; refine (Net_at p l HP A n c HLEN.out HM.out hm hc hcm _ hA1).mono ?_; rintro e w2 ⟨An, cn, Al, cl, Ad, cd, Ac, cc, rfl, ho, hb2⟩; have h0 := PBox.new hb1 hb2 ho; obtain ⟨q0, q1, q2, q3, q4, q5, q6⟩ := h0.cells)
      | (go_at_call 13; (with_reducible refine (pick5_is f0 512 f hf0 (by omega) (by omega) Pf _).mono ?_); rintro e w3 ⟨rfl, rfl⟩)
      | (go_at_call 13; (with_reducible refine (pick5_is i0 _ i hi0 (by omega) (by omega) PI _).mono ?_); rintro e w3 ⟨rfl, rfl⟩)
      | (go_at_call 23; (with_reducible refine (Cuts_ok f C nc HC HNC hk.right hk.small h0.at_).mono ?_); rintro e w4 ⟨AC, cC, rfl, hoC, hb4⟩; have h1 := h0.go hb4; obtain ⟨r0, r1, r2, r3, r4, r5, r6⟩ := h1.cells))
    have hrc := RowAt.of_own hoC
    clear hoC hA1 hb4 h0 q0 q1 q2 q3 q4 q5 q6 r0 r1 r2 r3 r4 r5 r6 ho hb2 hb1 hA
    go_loopw [12, 13] (fun s12 s13 wr => ∃ (k : Nat) (cut : Bool), k ≤ nc ∧ s13 = .int .i64 (k : Nat) ∧ s12 = .bool cut ∧ Hid (cut = decide (i ∈ C.take k)) ∧ RowAt wr wr.heap.size AC (intCells C) ∧ PBox w.heap.size w w2.heap.size p An p.nodes.length cn Al p.links.length cl Ad p.dests.length cd Ac p.checks.length cc wr) (fun _ s13 _ => nc - (intOf s13).toNat)
    case atStart => exact ⟨0, false, Nat.zero_le _, rfl, rfl, Lib.hid (by simp), hrc, h1⟩
    case round =>
      clear hrc h1
      obtain ⟨k, cut, hkm, rfl, rfl, HH, hrc, hx⟩ := hrel
      by_cases hlt : k < nc
      · obtain ⟨v, hv⟩ : ∃ v, C[k]? = some v := ⟨_, List.getElem?_eq_getElem (by rw [HNC.out]; exact hlt)⟩
        obtain ⟨gC, hAC, hgC, hcC⟩ := hrc.nat hv
        have cv := hcC k v hv
        have n0 : (0 : Int) ≤ (k : Int) := by omega
        have n1 : (k : Int) < (nc : Int) := by omega
        have HHN : Hid ((cut || decide (v = i)) = decide (i ∈ C.take (k + 1))) := Lib.hid (by
          rw [HH.out, List.take_add_one, hv]
          simp [List.mem_append, Bool.decide_or, eq_comm])
        have t2 : ((v : Int) == (i : Int)) = decide (v = i) := by
          by_cases e : v = i
          · simp [e]
          · rw [decide_eq_false e]; simp; omega
        clear hv hcC
        subst hAC
        cases cut
        all_goals
          have HHX := HHN.out
          first
            | rw [Bool.false_or] at HHX
            | rw [Bool.true_or] at HHX
          have HHY := Lib.hid HHX
          clear HHX
          go_wp2
          go_roundw
          case rel => exact ⟨k + 1, _, by omega, by go_num, rfl, HHY, hrc, hx⟩
          case measure => simp [intOf]; omega
      · have hkk : k = nc := by omega
        have hge : ¬ (k : Int) < (nc : Int) := by omega
        have HHF : Hid (cut = decide (i ∈ C)) := Lib.hid (by rw [HH.out, hkk, ← HNC.out, List.take_length])
        obtain ⟨q0, q1, q2, q3, q4, q5, q6⟩ := hx.cells
        obtain ⟨gl, hAl, hgl, c0, c1, c2⟩ := hx.at_.links.link HLK.out
        dsimp only at c0 c1 c2
        subst hAl
        have hsz := hx.size
        clear hkk hrc
        go_upto_region 15 with (first
          | (go_at_call 26; refine (List_any _ _).mono ?_; rw [HS.out, HNS.out]; rintro e w5 ⟨v5, rfl, ho5, _, hb5⟩; have hx5 := hx.go hb5; obtain ⟨A5, c5, rfl, _⟩ := own_form ho5)
          | (at_builtin; refine wpList_append_own _ rfl _ _ 22 rfl wr.heap.size 3 ii (.int .i64 0) 1 8 Try.underlying22 hi hz0 hz1 hz2 rfl (by decide) _ _ _ rfl (own_alloc ho5 _) ⟨w5.heap.size, 0, none⟩ 1 1 [.int .i64 (i : Nat)] rfl rfl (cell_one_new _ _ _) (by simp [Value.oneCell']) (by unfold maxLen; omega) (by omega) (by have := hb5.size; simp; omega) ?_; intro v6 w6 ho6 hg6 _; have hb6 : Below wr.heap.size wr w6 := (hb5.trans ((below_new w5 _).mono hb5.size)).grown hg6 (by have := hb5.size; simp; omega) (fun g hg => (ho5.lt g hg).1); have hx6 := hx.go hb6; have ho6' : w6.ownsRow wr.heap.size 3 1 v6 (ns + 1) (intCells (S ++ [i])) := (by simpa [intCells] using ho6); obtain ⟨A6, c6, rfl, _⟩ := own_form ho6'; have hr6 := RowAt.of_own ho6')
          | (go_at_call 25; refine (Of_row (S ++ [i]) (ns + 1) (by rw [List.length_append, HNS.out]; rfl) (by omega) y HOF _ hr6).mono ?_; rintro e w7 ⟨rfl, rfl⟩))
        have hx7 := hx6.go ((Below.refl _ _).drew)
        obtain ⟨q0, q1, q2, q3, q4, q5, q6⟩ := hx6.cells
        clear c0 c1 c2
        go_region_held3 (fun w' => w'.cell? ⟨w2.heap.size, 0, none⟩ = some (.int .i64 p.proto) ∧ w'.cell? ⟨w2.heap.size, 1, none⟩ = some (.int .i64 p.cap) ∧ w'.cell? ⟨w2.heap.size, 2, none⟩ = some (.int .i64 p.k) ∧ w'.cell? ⟨w2.heap.size, 3, none⟩ = some (.slice An p.nodes.length cn) ∧ w'.cell? ⟨w2.heap.size, 4, none⟩ = some (.slice (some ⟨gl, 0, none⟩) p.links.length cl) ∧ w'.cell? ⟨w2.heap.size, 5, none⟩ = some (.slice Ad p.dests.length cd) ∧ w'.cell? ⟨w2.heap.size, 6, none⟩ = some (.slice Ac p.checks.length cc)) (go_keep) (first
          | (go_at_call 19; (with_reducible refine (Reach_ok y a _ ry (Lib.hid rfl) HRY hk.right hk.small hx7.at_).mono ?_); rintro e w8 ⟨A8, c8, rfl, _, hb8⟩; have hx8 := hx7.go hb8; obtain ⟨q0, q1, q2, q3, q4, q5, q6⟩ := hx8.cells)
          | (go_at_call 19; (with_reducible refine (Reach_ok f a _ rx (Lib.hid rfl) HRX hk.right hk.small hx8.at_).mono ?_); rintro e w9 ⟨A9, c9, rfl, _, hb9⟩; have hx9 := hx8.go hb9; obtain ⟨q0, q1, q2, q3, q4, q5, q6⟩ := hx9.cells))
        have HB2 : Hid (cut = true → hb = false) := Lib.hid fun h => HST.out (by have := HHF.out; rw [h] at this; simpa using this.symm)
        have t3 : decide ((ry : Int) < (rx : Int)) = cut := by
          rw [HHF.out]
          exact decide_eq_decide.2 ⟨fun h => HMEM.out.2 (by omega), fun h => by have := HMEM.out.1 h; omega⟩
        go_step
        cases cut
        · have u1 : (rx : Int) ≤ (ry : Int) := by have := of_decide_eq_false t3; omega
          clear t3
          go_wp2_with (go_at_call 27; (with_reducible refine (Has_is f (i : Int) hb HB _).mono ?_); rintro e w10 ⟨rfl, rfl⟩)
          all_goals (go_ret; exact ⟨ret_bool (by first | rfl | (simp; done) | (simp; omega)), hx9.up⟩)
        · have hb0 := HB2.out rfl
          subst hb0
          have u1 : (ry : Int) < (rx : Int) := of_decide_eq_true t3
          clear t3
          go_wp2_with (go_at_call 27; (with_reducible refine (Has_is f (i : Int) false HB _).mono ?_); rintro e w10 ⟨rfl, rfl⟩)
          all_goals (go_ret; exact ⟨ret_bool (by first | rfl | (simp; done) | (simp; omega)), hx9.up⟩)
end Go.Proofs.Ytponlhgkgmlihaa
