/-
  Package plan: destinations that may be.
-/
import Derived.Test.YtlfapmfhdagikaaDoorPlF
namespace Go.Proofs.YtlfapmfhdagikaaDoor
open Go.RowKit

theorem rightOrigins_is (l : List Int) (n : Nat) (hl : Hid (l.length = n)) (hn : n ≤ 4000) (m : Nat) (hm : m ≤ 4096) (b : Bool) (H : Hid (origB m l = b)) {A : Option Addr} {c : Nat} {w : World} (hA : RowAt w w.heap.size A (l.map (Value.int .i64))) :
    Calls Tryd.prog 63 #[.slice A n c, .int .i64 (m : Int)] w fun e w' => e = .returned (.bool b) ∧ w = w' := by
  have hl' := hl.out
  subst hl'
  exact (rightOrigins_any l A c m w hA (by omega) (by omega)).mono fun _ _ ⟨he, hw⟩ => ⟨by rw [he, H.out], hw⟩

def destOk (ns : List PNode) (ds : List PDest) (i : Nat) (d : PDest) : Bool := nameB d.name.data.toList && (decide (ixB (nameIs d.name) ns < 0) && (decide (ixB (destIs d.name) ds = i) && origB ns.length d.orig))
def destsB (ns : List PNode) (ds : List PDest) : Bool := decide (ds.length ≤ 4) && allF (destOk ns ds) ds 0

set_option maxRecDepth 100000 in
set_option maxHeartbeats 4000000 in
theorem rightDests_any (p : PPlan) (hs : PSmall p) {pr ca kk : Int} {An Al Ad Ac : Option Addr} {ln cn ll cl ld cd lc cc : Nat} {w : World} (hN : RowAt w w.heap.size An (p.nodes.flatMap nodeC)) (h : DestsAt w w.heap.size Ad p.dests) (hln : Hid (p.nodes.length = ln)) (hl : Hid (p.dests.length = ld)) (hn : ln ≤ 4096) (hm : ld ≤ 4096) :
    Calls Tryd.prog 39 #[.agg #[.int .i64 pr, .int .i64 ca, .int .i64 kk, .slice An ln cn, .slice Al ll cl, .slice Ad ld cd, .slice Ac lc cc]] w fun e w' => e = .returned (.bool (destsB p.nodes p.dests)) ∧ Below w.heap.size w w' := by
  have HBX := Lib.hid (fun c0 c1 c2 c3 c4 c5 c6 => Blk.new w 29 #[c0, c1, c2, c3, c4, c5, c6])
  have hbx := fun o => below_new w o
  have hds := hs.dests
  have HDS := Lib.hid hds
  clear hds hs
  by_cases h4 : 4 < ld
  · have HF : Hid (destsB p.nodes p.dests = false) := Lib.hid (by unfold destsB; rw [hl.out, decide_eq_false (by omega)]; rfl)
    go_enter Tryd.func39, Tryd.ntmps39
    go_wp2
    go_ret
    exact ⟨ret_bool HF.out.symm, hbx _⟩
  · have HT : Hid (destsB p.nodes p.dests = allF (destOk p.nodes p.dests) p.dests 0) := Lib.hid (by unfold destsB; rw [hl.out, decide_eq_true (by omega)]; rfl)
    go_enter Tryd.func39, Tryd.ntmps39
    go_wp2
    go_loopw [3, 4, 12] (fun _ _ i wr => ∃ k : Nat, k ≤ ld ∧ i = .int .i64 (k : Nat) ∧ AllAt (destOk p.nodes p.dests) p.dests k ∧ Below w.heap.size w wr ∧ Blk wr w.heap.size 29 #[.int .i64 pr, .int .i64 ca, .int .i64 kk, .slice An ln cn, .slice Al ll cl, .slice Ad ld cd, .slice Ac lc cc]) (fun _ _ i _ => ld - (intOf i).toNat)
    case atStart => exact ⟨0, Nat.zero_le _, rfl, AllAt.start _ _, hbx _, HBX.out _ _ _ _ _ _ _⟩
    case round =>
      clear hbx HBX
      obtain ⟨k, hk, rfl, hat, hbw, hbox⟩ := hrel
      obtain ⟨d0, d1, d2, d3, d4, d5, d6⟩ := box7a hbox
      by_cases hlt : k < ld
      · obtain ⟨⟨nm, og⟩, hd'⟩ : ∃ n, p.dests[k]? = some n := ⟨_, List.getElem?_eq_getElem (by rw [hl.out]; exact hlt)⟩
        have hdup := h.up hbw
        obtain ⟨g, Ao, co, hAg, hg, c0, c1, hOr⟩ := hdup.dest hd'
        obtain ⟨z1, z2⟩ := HDS.out _ (List.mem_of_getElem? hd')
        dsimp only at c0 c1 hOr z1 z2
        obtain ⟨lo, hlo⟩ : ∃ n, og.length = n := ⟨_, rfl⟩
        rw [hlo] at c1 z2
        have HLO := Lib.hid hlo
        clear hlo
        have hsz : nm.size ≤ 9223372036854775807 := Nat.le_trans z1 (by omega)
        have hAn' := fun o => (hN.up hbw).box o
        have hAd' := fun o => hdup.box o
        have hOr' := fun o => hOr.box o
        have hB4 := Lib.hid (Blk.new wr 50 #[.string nm, .slice Ao lo co])
        clear hdup h hN hOr
        obtain ⟨b1, e1⟩ : ∃ b, nameB nm.data.toList = b := ⟨_, rfl⟩
        have H1 := Lib.hid e1
        cases b1
        · have HF : Hid (destsB p.nodes p.dests = false) := Lib.hid (by rw [HT.out]; exact hat.stop hd' (by unfold destOk; dsimp only; rw [e1]; rfl))
          clear e1 hd' hat hAn' hAd' hOr'
          subst hAg
          go_wp2_with (go_at_call 59; refine (Name_is _ hsz _ H1 _).mono ?_; rintro e w2 ⟨rfl, rfl⟩)
          go_ret
          exact ⟨ret_bool HF.out.symm, hbw.alloc hbw.size _⟩
        obtain ⟨u, e2⟩ : ∃ v, ixB (nameIs nm) p.nodes = v := ⟨_, rfl⟩
        have H2 := Lib.hid e2
        by_cases hu : 0 ≤ u
        · have HF : Hid (destsB p.nodes p.dests = false) := Lib.hid (by rw [HT.out]; exact hat.stop hd' (by unfold destOk; dsimp only; rw [e1, e2, decide_eq_false (by omega)]; rfl))
          clear e1 e2 hd' hat hAd' hOr'
          subst hAg
          go_wp2_with (first
            | (go_at_call 59; refine (Name_is _ hsz _ H1 _).mono ?_; rintro e w2 ⟨rfl, rfl⟩)
            | (go_at_call 20; refine (Node_is p _ _ H2 (hAn' _) hln hn).mono ?_; rintro e w2 ⟨rfl, hb2⟩))
          go_ret
          exact ⟨ret_bool HF.out.symm, (hbw.alloc hbw.size _).trans (hb2.mono (by simp; have := hbw.size; omega))⟩
        obtain ⟨v, e3⟩ : ∃ v, ixB (destIs nm) p.dests = v := ⟨_, rfl⟩
        by_cases hv : v = (k : Int)
        · obtain ⟨b4, e4⟩ : ∃ b, origB ln og = b := ⟨_, rfl⟩
          have H4 := Lib.hid e4
          rw [hv] at e3
          have H3 := Lib.hid e3
          have hok : destOk p.nodes p.dests k ⟨nm, og⟩ = b4 := by unfold destOk; dsimp only; rw [e1, e2, e3, hln.out, e4, decide_eq_true (show u < 0 by omega)]; simp
          clear hv e1 e2 e3 e4
          cases b4
          · have HF : Hid (destsB p.nodes p.dests = false) := Lib.hid (by rw [HT.out]; exact hat.stop hd' hok)
            clear hd' hat hok
            subst hAg
            go_wp2_with (first
              | (go_at_call 59; refine (Name_is _ hsz _ H1 _).mono ?_; rintro e w2 ⟨rfl, rfl⟩)
              | (go_at_call 20; refine (Node_is p _ _ H2 (hAn' _) hln hn).mono ?_; rintro e w2 ⟨rfl, hb2⟩; obtain ⟨q0, q1, q2, q3, q4, q5, q6⟩ := box7 ((hbox.alloc _).up hb2); have f0 : w2.cell? ⟨wr.heap.size, 0, none⟩ = some (.string nm) := (hB4.out.up hb2).cell 0)
              | (go_at_call 22; refine (Dest_is p _ _ H3 ((hAd' _).up hb2) hl hm).mono ?_; rintro e w3 ⟨rfl, hb3⟩; clear q0 q1 q2 q3 q4 q5 q6 f0; have q3 := (((hbox.alloc _).up hb2).up hb3).cell 3; have f1 : w3.cell? ⟨wr.heap.size, 1, none⟩ = some (.slice Ao lo co) := ((hB4.out.up hb2).up hb3).cell 1)
              | (go_at_call 63; refine (rightOrigins_is og _ HLO z2 ln hn _ H4 (((hOr' _).up hb2).up hb3)).mono ?_; rintro e w4 ⟨rfl, rfl⟩))
            go_ret
            exact ⟨ret_bool HF.out.symm, ((hbw.alloc hbw.size _).trans (hb2.mono (by simp; have := hbw.size; omega))).trans (hb3.mono (by have := hbw.size; have := hb2.size; simp at this; omega))⟩
          · have hat' := hat.next hd' hok
            clear hd' hat hok
            subst hAg
            go_wp2_with (first
              | (go_at_call 59; refine (Name_is _ hsz _ H1 _).mono ?_; rintro e w2 ⟨rfl, rfl⟩)
              | (go_at_call 20; refine (Node_is p _ _ H2 (hAn' _) hln hn).mono ?_; rintro e w2 ⟨rfl, hb2⟩; obtain ⟨q0, q1, q2, q3, q4, q5, q6⟩ := box7 ((hbox.alloc _).up hb2); have f0 : w2.cell? ⟨wr.heap.size, 0, none⟩ = some (.string nm) := (hB4.out.up hb2).cell 0)
              | (go_at_call 22; refine (Dest_is p _ _ H3 ((hAd' _).up hb2) hl hm).mono ?_; rintro e w3 ⟨rfl, hb3⟩; clear q0 q1 q2 q3 q4 q5 q6 f0; have q3 := (((hbox.alloc _).up hb2).up hb3).cell 3; have f1 : w3.cell? ⟨wr.heap.size, 1, none⟩ = some (.slice Ao lo co) := ((hB4.out.up hb2).up hb3).cell 1)
              | (go_at_call 63; refine (rightOrigins_is og _ HLO z2 ln hn _ H4 (((hOr' _).up hb2).up hb3)).mono ?_; rintro e w4 ⟨rfl, rfl⟩))
            go_roundw
            case rel => exact ⟨k + 1, by omega, by go_num, hat', ((hbw.alloc hbw.size _).trans (hb2.mono (by simp; have := hbw.size; omega))).trans (hb3.mono (by have := hbw.size; have := hb2.size; simp at this; omega)), ((hbox.alloc _).up hb2).up hb3⟩
            case measure => simp [intOf]; omega
        · have H3 := Lib.hid e3
          have HF : Hid (destsB p.nodes p.dests = false) := Lib.hid (by rw [HT.out]; exact hat.stop hd' (by unfold destOk; dsimp only; rw [e1, e2, e3, decide_eq_false hv, Bool.false_and, Bool.and_false, Bool.and_false]))
          have v1 : (v == (k : Int)) = false := by simpa using hv
          have v2 : (v != (k : Int)) = true := by simpa using hv
          clear hd' hat hv e1 e2 e3 hOr'
          subst hAg
          go_wp2_with (first
            | (go_at_call 59; refine (Name_is _ hsz _ H1 _).mono ?_; rintro e w2 ⟨rfl, rfl⟩)
            | (go_at_call 20; refine (Node_is p _ _ H2 (hAn' _) hln hn).mono ?_; rintro e w2 ⟨rfl, hb2⟩; obtain ⟨q0, q1, q2, q3, q4, q5, q6⟩ := box7 ((hbox.alloc _).up hb2); have f0 : w2.cell? ⟨wr.heap.size, 0, none⟩ = some (.string nm) := (hB4.out.up hb2).cell 0)
            | (go_at_call 22; refine (Dest_is p _ _ H3 ((hAd' _).up hb2) hl hm).mono ?_; rintro e w3 ⟨rfl, hb3⟩))
          go_ret
          exact ⟨ret_bool HF.out.symm, ((hbw.alloc hbw.size _).trans (hb2.mono (by simp; have := hbw.size; omega))).trans (hb3.mono (by have := hbw.size; have := hb2.size; simp at this; omega))⟩
      · have HF : Hid (destsB p.nodes p.dests = true) := Lib.hid (by rw [HT.out]; exact hat.done (by rw [hl.out]; omega))
        go_wp2
        go_ret
        exact ⟨ret_bool HF.out.symm, hbw⟩

end Go.Proofs.YtlfapmfhdagikaaDoor
