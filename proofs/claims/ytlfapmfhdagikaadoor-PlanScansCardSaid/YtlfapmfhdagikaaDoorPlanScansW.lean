/-
  PlanScans: the walk.
-/
import Derived.Test.YtlfapmfhdagikaaDoorPlTa
import Derived.Test.YtlfapmfhdagikaaDoorLxE
import Derived.Deep.RegionHeld3
namespace Go.Proofs.YtlfapmfhdagikaaDoor
open Go.RowKit
set_option linter.unusedVariables false

theorem Lex_text (s : ByteArray) (l : List UInt8) (T : List Tok) (n : Nat) (hs : s.size ≤ 9223372036854775807) (h0 : Hid (s = ⟨l.toArray⟩)) (h1 : Hid (lexT l = T)) (hn : Hid (T.length = n)) (h2 : Hid (lexE l = 0)) (w : World) :
    Calls Tryd.prog 24 #[.string s] w fun e w' => ∃ A c q, e = .returned (.tuple #[.slice A n c, .int .i64 0, .int .i64 q]) ∧ CellsAt w' w'.heap.size A (toksCells T) ∧ Below w.heap.size w w' :=
  (Lex_any s hs w).mono fun e w' ⟨A, c, he, hc, hw⟩ => by
    have hd : s.data.toList = l := by rw [h0.out]
    rw [hd, h1.out] at hc
    rw [hd, h1.out, h2.out, hn.out] at he
    exact ⟨A, c, _, he, hc, hw⟩
theorem tok_cell {T : List Tok} {k : Nat} {t : Tok} (h : T[k]? = some t) : (toksCells T)[k * 4]? = some (.int .i64 t.1) := by
  induction T generalizing k with
  | nil => simp at h
  | cons x T ih =>
    unfold toksCells at ih ⊢
    rw [List.flatMap_cons]
    cases k with
    | zero => simp at h; subst h; rfl
    | succ k =>
      have hl : (tokCells x).length = 4 := rfl
      rw [List.getElem?_append_right (by rw [hl]; omega), hl, show (k + 1) * 4 - 4 = k * 4 by omega]
      exact ih (by simpa using h)
set_option maxHeartbeats 4000000 in
set_option maxRecDepth 100000 in
theorem planScans_walk (A : Option Addr) (c : Nat) (l : List Int) (hwf : ∀ v ∈ l, InI v) (hm : l.length ≤ 9223372036854775807) (hc : l.length ≤ c) (hcm : c ≤ 9223372036854775807) (w : World) (hA : CellsAt w w.heap.size A (l.map (Value.int .i64))) :
    Calls Tryd.prog 5 #[.slice A l.length c] w fun e w' => e = .returned (.bool true) ∧ Below w.heap.size w w' := by
  obtain ⟨p, hp⟩ : ∃ p, netOf l = p := ⟨_, rfl⟩
  have hk := netOk l
  rw [hp] at hk
  have HP := Lib.hid hp
  have HM := Lib.hid hwf
  clear hp hwf
  obtain ⟨n, hn⟩ : ∃ n, l.length = n := ⟨_, rfl⟩
  rw [hn] at hm hc ⊢
  have HLEN := Lib.hid hn
  clear hn
  have hn1 := hk.nodes1
  have hd1 := hk.dests1
  have hl1 := hk.links1
  have hc1 := hk.checks1
  obtain ⟨T, h1, h2, h3, h4⟩ := text_lex hk
  have htl := text_len hk
  obtain ⟨m, hm1⟩ : ∃ m, T.length = m := ⟨_, rfl⟩
  rw [hm1] at h3
  obtain ⟨S, hS⟩ : ∃ S : ByteArray, S = ⟨(textB p).toArray⟩ := ⟨_, rfl⟩
  have hS1 : S.size ≤ 9223372036854775807 := by
    rw [hS]; show (textB p).length ≤ _; omega
  have HS := Lib.hid hS
  have HT1 := Lib.hid h1
  have HT2 := Lib.hid h2
  have HT4 := Lib.hid h4
  have HMM := Lib.hid hm1
  clear h1 h2 h4 hm1 hS
  go_enter Tryd.func5, Tryd.ntmps5
  go_wp2_with (first
    | (go_at_call 11; refine (awake3_any _).mono ?_; rintro e w1 ⟨rfl, hb1⟩; have hA1 := (hA.below hb1).more hb1.size)
    | (go_at_call 13; refine (Net_at p l HP A n c HLEN.out HM.out hm hc hcm _ hA1).mono ?_; rintro e w2 ⟨An, cn, Al, cl, Ad, cd, Ac, cc, rfl, ho, hb2⟩; have hbx := below_new w2 (.cells #[.int .i64 p.proto, .int .i64 p.cap, .int .i64 p.k, .slice An p.nodes.length cn, .slice Al p.links.length cl, .slice Ad p.dests.length cd, .slice Ac p.checks.length cc] 29); have hat0 := ho.at_.up hbx; have hbl0 := Blk.new w2 29 #[.int .i64 p.proto, .int .i64 p.cap, .int .i64 p.k, .slice An p.nodes.length cn, .slice Al p.links.length cl, .slice Ad p.dests.length cd, .slice Ac p.checks.length cc])
    | (go_at_call 14; (with_reducible refine (Print_good hk.right hk.small hk.tiny hat0 (text_le hk.small hk.tiny)).mono ?_); rintro e w3 ⟨rfl, hb3⟩; rw [← HS.out]; have hbl := hbl0.up hb3)
    | (go_at_call 24; (with_reducible refine (Lex_text S (textB p) T m hS1 HS HT1 HMM HT4 _).mono ?_); rintro e w4 ⟨B, cb, q, rfl, hB, hb4⟩; have hbl4 := hbl.up hb4))
  have hTne : toksCells T ≠ [] := by
    intro e
    have h5 := toksCells_len T
    rw [e, HMM.out] at h5
    have h6 := stops_le T
    have h7 := HT2.out
    rw [HMM.out] at h6
    simp at h5
    omega
  obtain ⟨ad, rfl, had, hcl⟩ := hB hTne
  have HCL := Lib.hid hcl
  have hbb : Below w.heap.size w w4 := by
    have t1 := hb1.trans (hb2.mono hb1.size)
    have t2 := t1.trans (hbx.mono t1.size)
    have t3 := t2.trans (hb3.mono t2.size)
    exact t3.trans (hb4.mono t3.size)
  clear hTne hcl hbl0 hbl hat0 ho hb1 hb2 hb3 hb4 hbx hA1 hA
  go_loopw [10, 11] (fun s10 s11 wr => ∃ k v : Nat, k ≤ m ∧ v ≤ k ∧ s11 = .int .i64 (k : Nat) ∧ s10 = .int .i64 (v : Nat) ∧ Hid (stopsT (T.take k) = v) ∧ Below w4.heap.size w4 wr) (fun _ s11 _ => m - (intOf s11).toNat)
  case atStart => exact ⟨0, 0, Nat.zero_le _, Nat.le_refl _, rfl, rfl, Lib.hid rfl, Below.refl _ _⟩
  case round =>
    obtain ⟨k, v, hkm, hvk, rfl, rfl, HV, hbr⟩ := hrel
    by_cases hlt : k < m
    · obtain ⟨t, ht⟩ : ∃ t, T[k]? = some t := ⟨_, List.getElem?_eq_getElem (by rw [HMM.out]; exact hlt)⟩
      have c0 := (hbr.cell (p := ad.add (k * 4)) (by unfold Addr.add; split <;> exact had)).trans (HCL.out _ _ (tok_cell ht))
      have HV2 := stops_take ht
      rw [HV.out] at HV2
      have i0 : (0 : Int) ≤ (k : Int) := by omega
      have i1 : (k : Int) < (m : Int) := by omega
      by_cases h3 : t.1 = 3
      · rw [if_pos h3] at HV2
        rw [h3] at c0
        have HV3 := Lib.hid HV2
        clear ht HV2 HV h3
        go_wp2
        go_roundw
        case rel => exact ⟨k + 1, v + 1, by omega, by omega, by go_num, by go_num, HV3, hbr⟩
        case measure => simp [intOf]; omega
      · rw [if_neg h3] at HV2
        have HV3 := Lib.hid HV2
        clear ht HV2 HV
        go_wp2
        go_roundw
        case rel => exact ⟨k + 1, v, by omega, by omega, by go_num, rfl, HV3, hbr⟩
        case measure => simp [intOf]; omega
    · have hge : ¬ (k : Int) < (m : Int) := by omega
      have hkm2 : k = m := by omega
      have hfin : v = 2 + p.nodes.length + p.links.length + p.dests.length + p.checks.length := by
        have h5 := HV.out
        rw [hkm2, ← HMM.out, List.take_length, HT2.out] at h5
        exact h5.symm
      have hb5 := hbl4.up hbr
      have q3 := hb5.cell 3
      have q4 := hb5.cell 4
      have q5 := hb5.cell 5
      have q6 := hb5.cell 6
      clear hb5 hbl4 hkm2
      go_wp2
      go_ret
      exact ⟨ret_bool (by first | (simp; omega) | simp), hbb.trans (hbr.mono hbb.size)⟩
end Go.Proofs.YtlfapmfhdagikaaDoor
