/-
  GraphSteps: the walk.
-/
import Derived.Deep.RegionHeld3
import Derived.Test.YtponlhgkgmlihaaGraphTurnsW
namespace Go.Proofs.Ytponlhgkgmlihaa
open Go.RowKit
set_option linter.unusedVariables false
set_option linter.unusedSimpArgs false

/-- The least so far. -/
def BestI (L : List Nat) (D : Nat → Int) (k : Nat) (best : Int) : Prop :=
  (best = -1 ∨ ∃ j i, j < k ∧ L[j]? = some i ∧ 0 ≤ D i ∧ best = D i + 1) ∧ ∀ j i, j < k → L[j]? = some i → 0 ≤ D i → 0 ≤ best ∧ best ≤ D i + 1
theorem BestI.start (L : List Nat) (D : Nat → Int) : BestI L D 0 (-1) := ⟨.inl rfl, fun j i h => by omega⟩
theorem BestI.skip {L : List Nat} {D : Nat → Int} {k i : Nat} {best : Int} (h : BestI L D k best) (hi : L[k]? = some i) (hd : D i < 0 ∨ (0 ≤ best ∧ best ≤ D i + 1)) : BestI L D (k + 1) best := by
  refine ⟨h.1.imp id fun ⟨j, i, h1, h2⟩ => ⟨j, i, by omega, h2⟩, fun j i' hj hi' h0 => ?_⟩
  by_cases e : j = k
  · subst e
    rw [hi] at hi'; injection hi' with hi'; subst hi'
    omega
  · exact h.2 j i' (by omega) hi' h0
theorem BestI.take {L : List Nat} {D : Nat → Int} {k i : Nat} {best : Int} (h : BestI L D k best) (hi : L[k]? = some i) (h0 : 0 ≤ D i) (hb : best < 0 ∨ D i + 1 < best) : BestI L D (k + 1) (D i + 1) := by
  refine ⟨.inr ⟨k, i, by omega, hi, h0, rfl⟩, fun j i' hj hi' h0' => ?_⟩
  by_cases e : j = k
  · subst e
    rw [hi] at hi'; injection hi' with hi'; subst hi'
    omega
  · have := h.2 j i' (by omega) hi' h0'
    omega
theorem BestI.done {p : PPlan} (hg : GPlan p) {f : Int} {a b : Nat} (ha : a < p.nodes.length) (hab : a ≠ b) {best : Int}
    (h : BestI (aroundB p f (b : Int)) (fun i => distB (adjB p f) p.nodes.length a (nextN p (b : Int) i)) (aroundB p f (b : Int)).length best) : distB (adjB p f) p.nodes.length a b = best := by
  have hG := gok hg f
  have h1 := dist_in (adjB p f) p.nodes.length a b
  have key : ∀ i ∈ aroundB p f (b : Int), 0 ≤ distB (adjB p f) p.nodes.length a (nextN p (b : Int) i) → 0 ≤ distB (adjB p f) p.nodes.length a b ∧ distB (adjB p f) p.nodes.length a b ≤ distB (adjB p f) p.nodes.length a (nextN p (b : Int) i) + 1 := fun i hi h0 => by
    have hadj : adjB p f b (nextN p (b : Int) i) = true := (adj_next hg).2 ⟨i, hi, rfl⟩
    exact dist_step hG ha (hG.sym _ _ hadj) h0
  by_cases h0 : 0 ≤ distB (adjB p f) p.nodes.length a b
  · have hne : distB (adjB p f) p.nodes.length a b ≠ 0 := fun e => hab ((dist_zero ha).1 e).symm
    obtain ⟨u, hu, hd⟩ := dist_pred hG ha (v := b) (by omega)
    obtain ⟨i, hi, hn⟩ := (adj_next hg).1 (hG.sym _ _ hu)
    obtain ⟨j, hj, hj2⟩ := List.getElem_of_mem hi
    have h2 := h.2 j i hj (by rw [List.getElem?_eq_getElem hj, hj2]) (by dsimp only; rw [hn]; omega)
    dsimp only at h2
    rw [hn] at h2
    rcases h.1 with e | ⟨j', i', h3, h4, h5, h6⟩
    · omega
    · have := key i' (List.mem_of_getElem? h4) h5
      dsimp only at h6
      omega
  · rcases h.1 with e | ⟨j', i', h3, h4, h5, h6⟩
    · omega
    · have := key i' (List.mem_of_getElem? h4) h5
      omega
set_option maxHeartbeats 4000000 in
set_option maxRecDepth 100000 in
theorem graphSteps_walk (A : Option Addr) (c : Nat) (l : List Int) (hwf : ∀ v ∈ l, InI v) (hm : l.length ≤ 9223372036854775807) (hc : l.length ≤ c) (hcm : c ≤ 9223372036854775807) (f0 : Int) (hf0 : InI f0) (a0 : Int) (ha0 : InI a0) (b0 : Int) (hb0 : InI b0) (w : World) (hA : CellsAt w w.heap.size A (l.map (Value.int .i64))) :
    Calls Try.prog 6 #[.slice A l.length c, .int .i64 f0, .int .i64 a0, .int .i64 b0] w fun e w' => e = .returned (.bool true) ∧ Below w.heap.size w w' := by
  obtain ⟨p, hp⟩ : ∃ p, netOf l = p := ⟨_, rfl⟩
  have hk := netOk l
  rw [hp] at hk
  have HP := Lib.hid hp
  have HM := Lib.hid hwf
  clear hp hwf
  obtain ⟨n, hn⟩ : ∃ n, l.length = n := ⟨_, rfl⟩
  rw [hn] at hm hc ⊢
  have HLEN := Lib.hid hn
  clear hn
  have hn1 := hk.nodes1
  have hg := gplan_right hk.right.out
  obtain ⟨f, hf, hfl⟩ := pickN_nat f0 512 (by omega)
  have Pf := Lib.hid (show pickN f0 512 = (f : Int) from hf)
  clear hf
  obtain ⟨a, ha, han⟩ := pickN_nat a0 p.nodes.length (by omega)
  have Pa := Lib.hid ha
  clear ha
  obtain ⟨b, hb, hbn⟩ := pickN_nat b0 p.nodes.length (by omega)
  have Pb := Lib.hid hb
  clear hb
  obtain ⟨L, hL⟩ : ∃ L, aroundB p f (b : Int) = L := ⟨_, rfl⟩
  obtain ⟨m, hm2⟩ : ∃ m, L.length = m := ⟨_, rfl⟩
  have hm16 : m ≤ 16 := by
    have h1 := aroundK_len p f (b : Int) p.links.length
    have h2 := hg.l16
    rw [← hm2, ← hL]
    unfold aroundB
    omega
  have HL := Lib.hid hL
  have HLM := Lib.hid hm2
  obtain ⟨ab, hab⟩ : ∃ v, distB (adjB p f) p.nodes.length a b = v := ⟨_, rfl⟩
  have HAB := Lib.hid ((hops_nat (f := f) han hbn).trans hab)
  have HFIN : Hid (∀ best, a ≠ b → BestI L (fun i => distB (adjB p f) p.nodes.length a (nextN p (b : Int) i)) m best → ab = best) := Lib.hid fun best hne h => by
    rw [← hab]
    rw [← hm2, ← hL] at h
    exact BestI.done hg han hne h
  have HZ : Hid (a = b → ab = 0) := Lib.hid fun e => by rw [← hab, ← e]; exact dist_self han
  clear hL hm2 hab
  go_enter Try.func6, Try.ntmps6
  go_wp2_with (first
    | (go_at_call 10; refine (awake5_any _).mono ?_; rintro e w1 ⟨rfl, hb1⟩; have hA1 := (hA.below hb1).more hb1.size)
    | (go_at_call 11; refine (Net_at p l HP A n c HLEN.out HM.out hm hc hcm _ hA1).mono ?_; rintro e w2 ⟨An, cn, Al, cl, Ad, cd, Ac, cc, rfl, ho, hb2⟩; have h0 := PBox.new hb1 hb2 ho; obtain ⟨q0, q1, q2, q3, q4, q5, q6⟩ := h0.cells)
    | (go_at_call 13; (with_reducible refine (pick5_is f0 512 f hf0 (by omega) (by omega) Pf _).mono ?_); rintro e w3 ⟨rfl, rfl⟩)
    | (go_at_call 13; (with_reducible refine (pick5_is a0 _ a ha0 (by omega) (by omega) Pa _).mono ?_); rintro e w3 ⟨rfl, rfl⟩)
    | (go_at_call 13; (with_reducible refine (pick5_is b0 _ b hb0 (by omega) (by omega) Pb _).mono ?_); rintro e w3 ⟨rfl, rfl⟩)
    | (go_at_call 15; (with_reducible refine (Around_ok f b L m HL HLM hk.right hk.small h0.at_).mono ?_); rintro e w4 ⟨AL, cL, rfl, ho4, hb4⟩; have h1 := h0.go hb4; have hr1 := RowAt.of_own ho4))
  clear ho4 hA1 hb4 h0 q0 q1 q2 q3 q4 q5 q6 ho hb2 hb1 hA
  go_loopw [15, 17] (fun s15 s17 wr => ∃ (k : Nat) (best : Int), k ≤ m ∧ s17 = .int .i64 (k : Nat) ∧ s15 = .int .i64 best ∧ -1 ≤ best ∧ best ≤ 100 ∧ BestI L (fun i => distB (adjB p f) p.nodes.length a (nextN p (b : Int) i)) k best ∧ RowAt wr wr.heap.size AL (intCells L) ∧ PBox w.heap.size w w2.heap.size p An p.nodes.length cn Al p.links.length cl Ad p.dests.length cd Ac p.checks.length cc wr) (fun _ s17 _ => m - (intOf s17).toNat)
  case atStart => exact ⟨0, -1, Nat.zero_le _, rfl, rfl, by omega, by omega, BestI.start _ _, hr1, h1⟩
  case round =>
    clear hr1 h1
    obtain ⟨k, best, hkm, rfl, rfl, hb0, hb1, hB, hr, hx⟩ := hrel
    obtain ⟨q0, q1, q2, q3, q4, q5, q6⟩ := hx.cells
    by_cases hlt : k < m
    · obtain ⟨i, hi⟩ : ∃ i, L[k]? = some i := ⟨_, List.getElem?_eq_getElem (by rw [HLM.out]; exact hlt)⟩
      have himem : i ∈ aroundB p f (b : Int) := by rw [HL.out]; exact List.mem_of_getElem? hi
      obtain ⟨lk, hl, hoth, hh⟩ := around_mem.1 himem
      obtain ⟨u, hu, hun, hends⟩ := other_ends hg hl hoth
      have hnx : nextN p (b : Int) i = u := by rw [next_at hl, hu]; omega
      have hou : otherB p (i : Int) (b : Int) = u := by
        unfold otherB
        rw [if_pos (by omega), Int.toNat_natCast, hl]
        exact hu
      obtain ⟨d, hd⟩ : ∃ d, distB (adjB p f) p.nodes.length a u = d := ⟨_, rfl⟩
      have hdn := dist_in (adjB p f) p.nodes.length a u
      rw [hd] at hdn
      have HD := Lib.hid ((hops_nat (f := f) han hun).trans hd)
      have HOU := Lib.hid hou
      obtain ⟨gL, hAL, hgL, hcL⟩ := hr (by intro e; have := congrArg List.length e; rw [intCells, List.length_map, HLM.out] at this; simp at this; omega)
      have cL := hcL k (.int .i64 (i : Nat)) (by rw [intCells, List.getElem?_map, hi]; rfl)
      have HR := Lib.hid hr
      have HCL := Lib.hid (fun (W : World) (hb : Below wr.heap.size wr W) => (hb.cell (p := ⟨gL, k, none⟩) hgL).trans cL)
      have hxd := hx.go ((Below.refl _ _).drew)
      have HI := Lib.hid hi
      have HNX : Hid (distB (adjB p f) p.nodes.length a (nextN p (b : Int) i) = d) := Lib.hid (by rw [hnx]; exact hd)
      have n0 : (0 : Int) ≤ (k : Int) := by omega
      have n1 : (k : Int) < (m : Int) := by omega
      subst hAL
      clear hi hl hoth hh hu hends hou hd himem hnx hr hcL
      have hcase : d < 0 ∨ (0 ≤ d ∧ best < 0) ∨ (0 ≤ d ∧ 0 ≤ best ∧ d + 1 < best) ∨ (0 ≤ d ∧ 0 ≤ best ∧ ¬ d + 1 < best) := by omega
      go_upto_region 12 with (fail)
      go_region_held3 (fun w' => w'.cell? ⟨w2.heap.size, 0, none⟩ = some (.int .i64 p.proto) ∧ w'.cell? ⟨w2.heap.size, 1, none⟩ = some (.int .i64 p.cap) ∧ w'.cell? ⟨w2.heap.size, 2, none⟩ = some (.int .i64 p.k) ∧ w'.cell? ⟨w2.heap.size, 3, none⟩ = some (.slice An p.nodes.length cn) ∧ w'.cell? ⟨w2.heap.size, 4, none⟩ = some (.slice Al p.links.length cl) ∧ w'.cell? ⟨w2.heap.size, 5, none⟩ = some (.slice Ad p.dests.length cd) ∧ w'.cell? ⟨w2.heap.size, 6, none⟩ = some (.slice Ac p.checks.length cc) ∧ w'.cell? ⟨gL, k, none⟩ = some (.int .i64 (i : Nat))) (go_keep) (first
          | (go_at_call 17; (with_reducible refine (Other_ok (i : Int) (b : Int) (u : Int) HOU hk.right hk.small hxd.at_).mono ?_); rintro e w5 ⟨rfl, hb5⟩; have hx5 := hxd.go hb5; obtain ⟨q0, q1, q2, q3, q4, q5, q6⟩ := hx5.cells; have cL5 := HCL.out w5 (((Below.refl _ wr).drew).trans hb5))
          | (go_at_call 21; (with_reducible refine (Hops_ok f a u d HD hk.right hk.small hx5.at_).mono ?_); rintro e w6 ⟨rfl, hb6⟩; have hx6 := hx5.go hb6; obtain ⟨q0, q1, q2, q3, q4, q5, q6⟩ := hx6.cells; have cL6 := HCL.out w6 (((Below.refl _ wr).drew).trans (hb5.trans (hb6.mono hb5.size))))
        )
      have hr6 := HR.out.up (((Below.refl _ wr).drew).trans (hb5.trans (hb6.mono hb5.size)))
      clear hxd hx5 hx cL cL5 cL6
      go_step
      rcases hcase with c1 | ⟨c1, c2⟩ | ⟨c1, c2, c3⟩ | ⟨c1, c2, c3⟩
      · have HB2 := Lib.hid (hB.skip HI.out (.inl (by (try dsimp only); rw [HNX.out]; exact c1)))
        go_wp2
        go_roundw
        case rel => exact ⟨k + 1, best, by omega, by go_num, rfl, hb0, hb1, HB2.out, hr6, hx6⟩
        case measure => simp [intOf]; omega
      · have HB2 := Lib.hid (hB.take HI.out (by (try dsimp only); rw [HNX.out]; exact c1) (.inl c2))
        (try dsimp only at HB2)
        rw [HNX.out] at HB2
        go_wp2
        go_roundw
        case rel => exact ⟨k + 1, d + 1, by omega, by go_num, rfl, by omega, by omega, HB2.out, hr6, hx6⟩
        case measure => simp [intOf]; omega
      · have HB2 := Lib.hid (hB.take HI.out (by (try dsimp only); rw [HNX.out]; exact c1) (.inr (by (try dsimp only); rw [HNX.out]; exact c3)))
        (try dsimp only at HB2)
        rw [HNX.out] at HB2
        go_wp2
        go_roundw
        case rel => exact ⟨k + 1, d + 1, by omega, by go_num, rfl, by omega, by omega, HB2.out, hr6, hx6⟩
        case measure => simp [intOf]; omega
      · have HB2 := Lib.hid (hB.skip HI.out (.inr (by (try dsimp only); rw [HNX.out]; omega)))
        go_wp2
        go_roundw
        case rel => exact ⟨k + 1, best, by omega, by go_num, rfl, hb0, hb1, HB2.out, hr6, hx6⟩
        case measure => simp [intOf]; omega
    · have hkm2 : k = m := by omega
      subst hkm2
      by_cases hab : a = b
      · have t1 : ((a : Int) == (b : Int)) = true := by simp [hab]
        have hz := HZ.out hab
        subst hz
        clear hab
        go_wp2_with (go_at_call 21; (with_reducible refine (Hops_ok f a b 0 HAB hk.right hk.small hx.at_).mono ?_); rintro e w6 ⟨rfl, hb6⟩; have hx6 := hx.go hb6)
        go_ret
        exact ⟨rfl, hx6.up⟩
      · have t1 : ((a : Int) == (b : Int)) = false := by simp; omega
        have hz := HFIN.out best hab hB
        subst hz
        clear hab
        go_wp2_with (go_at_call 21; (with_reducible refine (Hops_ok f a b ab HAB hk.right hk.small hx.at_).mono ?_); rintro e w6 ⟨rfl, hb6⟩; have hx6 := hx.go hb6)
        go_ret
        exact ⟨ret_bool (by simp), hx6.up⟩
end Go.Proofs.Ytponlhgkgmlihaa
