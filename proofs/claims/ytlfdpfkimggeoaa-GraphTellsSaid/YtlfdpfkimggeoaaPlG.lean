/-
  Package plan: links, destinations and checks that may be.
-/
import Derived.Test.YtlfdpfkimggeoaaPlE
namespace Go.Proofs.Ytlfdpfkimggeoaa
open Go.RowKit

theorem isPlaceI_any (n m : Int) (h0 : 0 ≤ m) (hm : m ≤ 9223372036854775807) (w : World) :
    Calls Try.prog 69 #[.int .i64 n, .int .i64 m] w fun e w' => e = .returned (.bool (withinB n 0 (m - 1))) ∧ w = w' := by
  go_enter Try.func69, Try.ntmps69
  go_wp2_with (go_at_call 53; refine (isWithin_any _ _ _ _).mono ?_; rintro e w' ⟨rfl, rfl⟩)
  go_ret
  exact ⟨rfl, rfl⟩
theorem isPlaceI_is (n m : Int) (h0 : 0 ≤ m) (hm : m ≤ 9223372036854775807) (b : Bool) (H : Hid (withinB n 0 (m - 1) = b)) (w : World) :
    Calls Try.prog 69 #[.int .i64 n, .int .i64 m] w fun e w' => e = .returned (.bool b) ∧ w = w' :=
  (isPlaceI_any n m h0 hm w).mono fun _ _ ⟨he, hw⟩ => ⟨by rw [he, H.out], hw⟩
theorem IndexLinks_is (l : List PLink) (n : Nat) (hl : Hid (l.length = n)) (hm : n ≤ 4096) (a0 b0 : Int) (v : Int) (H : Hid (ixB (linkIs a0 b0) l = v)) {A : Option Addr} {c b : Nat} {w : World} (hA : RowAt w w.heap.size A (l.flatMap linkC)) (hx : w.cell? ⟨b, 0, none⟩ = some (.int .i64 a0)) (hy : w.cell? ⟨b, 1, none⟩ = some (.int .i64 b0)) (hb : b < w.heap.size) :
    Calls Try.prog 70 #[.slice A n c, .func (.func 71) #[] #[.pointer (some ⟨b, 0, none⟩)]] w fun e w' => e = .returned (.int .i64 v) ∧ Below w.heap.size w w' := by
  have hl' := hl.out
  subst hl'
  exact (IndexLinks_any l A c a0 b0 b w hA hx hy hb (by omega)).mono fun _ _ ⟨he, hw⟩ => ⟨by rw [he, H.out], hw⟩

def linkOk (ln : Nat) (ls : List PLink) (i : Nat) (l : PLink) : Bool := placeB l.b ln && (withinB l.a 0 (l.b - 1) && (withinB l.cost 1 15 && decide (ixB (linkIs l.a l.b) ls = i)))
def linksB (ln : Nat) (ls : List PLink) : Bool := decide (ls.length ≤ 16) && allF (linkOk ln ls) ls 0

set_option maxRecDepth 100000 in
set_option maxHeartbeats 2000000 in
theorem rightLinks_any (p : PPlan) {pr ca kk : Int} {An Al Ad Ac : Option Addr} {ln cn ll cl ld cd lc cc : Nat} {w : World} (h : RowAt w w.heap.size Al (p.links.flatMap linkC)) (hl : Hid (p.links.length = ll)) (hm : ll ≤ 4096) (hn : ln ≤ 4096) :
    Calls Try.prog 55 #[.agg #[.int .i64 pr, .int .i64 ca, .int .i64 kk, .slice An ln cn, .slice Al ll cl, .slice Ad ld cd, .slice Ac lc cc]] w fun e w' => e = .returned (.bool (linksB ln p.links)) ∧ Below w.heap.size w w' := by
  have HBX := Lib.hid (fun c0 c1 c2 c3 c4 c5 c6 => Blk.new w 29 #[c0, c1, c2, c3, c4, c5, c6])
  have hbx := fun o => below_new w o
  by_cases h16 : 16 < ll
  · have HF : Hid (linksB ln p.links = false) := Lib.hid (by unfold linksB; rw [hl.out, decide_eq_false (by omega)]; rfl)
    go_enter Try.func55, Try.ntmps55
    go_wp2
    go_ret
    exact ⟨ret_bool HF.out.symm, hbx _⟩
  · have HT : Hid (linksB ln p.links = allF (linkOk ln p.links) p.links 0) := Lib.hid (by unfold linksB; rw [hl.out, decide_eq_true (by omega)]; rfl)
    go_enter Try.func55, Try.ntmps55
    go_wp2
    go_loopw [3, 4, 5, 13] (fun _ _ _ i wr => ∃ k : Nat, k ≤ ll ∧ i = .int .i64 (k : Nat) ∧ AllAt (linkOk ln p.links) p.links k ∧ Below w.heap.size w wr ∧ Blk wr w.heap.size 29 #[.int .i64 pr, .int .i64 ca, .int .i64 kk, .slice An ln cn, .slice Al ll cl, .slice Ad ld cd, .slice Ac lc cc]) (fun _ _ _ i _ => ll - (intOf i).toNat)
    case atStart => exact ⟨0, Nat.zero_le _, rfl, AllAt.start _ _, hbx _, HBX.out _ _ _ _ _ _ _⟩
    case round =>
      clear hbx HBX
      obtain ⟨k, hk, rfl, hat, hbw, hbox⟩ := hrel
      obtain ⟨d0, d1, d2, d3, d4, d5, d6⟩ := box7a hbox
      by_cases hlt : k < ll
      · obtain ⟨⟨la, lb, lco⟩, hn'⟩ : ∃ n, p.links[k]? = some n := ⟨_, List.getElem?_eq_getElem (by rw [hl.out]; exact hlt)⟩
        have hup := h.up hbw
        obtain ⟨g, hAg, hg, c0, c1, c2⟩ := hup.link hn'
        dsimp only at c0 c1 c2
        have hAl' := fun o => hup.box o
        have hB4 := Blk.new wr 53 #[.int .i64 la, .int .i64 lb, .int .i64 lco]
        clear hup h
        obtain ⟨b1, e1⟩ : ∃ b, placeB lb ln = b := ⟨_, rfl⟩
        have H1 := Lib.hid e1
        cases b1
        · have HF : Hid (linksB ln p.links = false) := Lib.hid (by rw [HT.out]; exact hat.stop hn' (by unfold linkOk; dsimp only; rw [e1]; rfl))
          clear e1 hn' hat hAl' hB4
          subst hAg
          go_wp2_with (go_at_call 69; refine (isPlace_is _ _ (by omega) _ H1 _).mono ?_; rintro e w2 ⟨rfl, rfl⟩)
          go_ret
          exact ⟨ret_bool HF.out.symm, hbw.alloc hbw.size _⟩
        have hlb : 0 ≤ lb ∧ lb < ln := by unfold placeB at e1; simpa using e1
        obtain ⟨hlb0, hlb1⟩ := hlb
        obtain ⟨b2, e2⟩ : ∃ b, withinB la 0 (lb - 1) = b := ⟨_, rfl⟩
        have H2 := Lib.hid e2
        cases b2
        · have HF : Hid (linksB ln p.links = false) := Lib.hid (by rw [HT.out]; exact hat.stop hn' (by unfold linkOk; dsimp only; rw [e1, e2]; rfl))
          clear e1 e2 hn' hat hAl' hB4
          subst hAg
          go_wp2_with (go_at_call 69; (first | ((with_reducible refine (isPlace_is _ _ (by omega) _ H1 _).mono ?_)) | ((with_reducible refine (isPlaceI_is _ _ hlb0 (by omega) _ H2 _).mono ?_))); rintro e w2 ⟨rfl, rfl⟩)
          go_ret
          exact ⟨ret_bool HF.out.symm, hbw.alloc hbw.size _⟩
        obtain ⟨b3, e3⟩ : ∃ b, withinB lco 1 15 = b := ⟨_, rfl⟩
        have H3 := Lib.hid e3
        cases b3
        · have HF : Hid (linksB ln p.links = false) := Lib.hid (by rw [HT.out]; exact hat.stop hn' (by unfold linkOk; dsimp only; rw [e1, e2, e3]; rfl))
          clear e1 e2 e3 hn' hat hAl' hB4
          subst hAg
          go_wp2_with (first
            | (go_at_call 69; (first | ((with_reducible refine (isPlace_is _ _ (by omega) _ H1 _).mono ?_)) | ((with_reducible refine (isPlaceI_is _ _ hlb0 (by omega) _ H2 _).mono ?_))); rintro e w2 ⟨rfl, rfl⟩)
            | (go_at_call 53; refine (isWithin_is _ _ _ _ H3 _).mono ?_; rintro e w3 ⟨rfl, rfl⟩))
          go_ret
          exact ⟨ret_bool HF.out.symm, hbw.alloc hbw.size _⟩
        obtain ⟨v, e4⟩ : ∃ v, ixB (linkIs la lb) p.links = v := ⟨_, rfl⟩
        have q0 := hB4.cell 0
        have q1 := hB4.cell 1
        have Q0 := Lib.hid q0
        have Q1 := Lib.hid q1
        have HB4 := Lib.hid hB4
        clear q0 q1 hB4
        by_cases hv : v = (k : Int)
        · rw [hv] at e4
          have H4 := Lib.hid e4
          have hat' := hat.next hn' (by unfold linkOk; dsimp only; rw [e1, e2, e3, e4]; simp)
          clear hv e1 e2 e3 e4 hn' hat
          subst hAg
          go_wp2_with (first
            | (go_at_call 69; (first | ((with_reducible refine (isPlace_is _ _ (by omega) _ H1 _).mono ?_)) | ((with_reducible refine (isPlaceI_is _ _ hlb0 (by omega) _ H2 _).mono ?_))); rintro e w2 ⟨rfl, rfl⟩)
            | (go_at_call 53; refine (isWithin_is _ _ _ _ H3 _).mono ?_; rintro e w3 ⟨rfl, rfl⟩)
            | (go_at_call 70; refine (IndexLinks_is p.links _ hl hm la lb _ H4 (hAl' _) Q0.out Q1.out HB4.out.lt).mono ?_; rintro e w4 ⟨rfl, hb4⟩))
          go_roundw
          case rel => exact ⟨k + 1, by omega, by go_num, hat', (hbw.alloc hbw.size _).trans (hb4.mono (by simp; have := hbw.size; omega)), (hbox.alloc _).up hb4⟩
          case measure => simp [intOf]; omega
        · have H4 := Lib.hid e4
          have HF : Hid (linksB ln p.links = false) := Lib.hid (by rw [HT.out]; exact hat.stop hn' (by unfold linkOk; dsimp only; rw [e1, e2, e3, e4, decide_eq_false hv]; rfl))
          have v2 : (v != (k : Int)) = true := by simpa using hv
          have v1 : (v == (k : Int)) = false := by simpa using hv
          clear hv e1 e2 e3 e4 hn' hat
          subst hAg
          go_wp2_with (first
            | (go_at_call 69; (first | ((with_reducible refine (isPlace_is _ _ (by omega) _ H1 _).mono ?_)) | ((with_reducible refine (isPlaceI_is _ _ hlb0 (by omega) _ H2 _).mono ?_))); rintro e w2 ⟨rfl, rfl⟩)
            | (go_at_call 53; refine (isWithin_is _ _ _ _ H3 _).mono ?_; rintro e w3 ⟨rfl, rfl⟩)
            | (go_at_call 70; refine (IndexLinks_is p.links _ hl hm la lb _ H4 (hAl' _) Q0.out Q1.out HB4.out.lt).mono ?_; rintro e w4 ⟨rfl, hb4⟩))
          go_ret
          exact ⟨ret_bool HF.out.symm, (hbw.alloc hbw.size _).trans (hb4.mono (by simp; have := hbw.size; omega))⟩
      · have HF : Hid (linksB ln p.links = true) := Lib.hid (by rw [HT.out]; exact hat.done (by rw [hl.out]; omega))
        go_wp2
        go_ret
        exact ⟨ret_bool HF.out.symm, hbw⟩

/-! ### Checks -/
theorem rightCheck_is (c : PCheck) (ln ld : Nat) (b : Bool) (H : Hid (checkB ln ld c = b)) (hn : ln ≤ 4096) (hd : ld ≤ 4096) {pr ca kk : Int} {An Al Ad Ac : Option Addr} {cn ll cl cd lc cc : Nat} {w : World} :
    Calls Try.prog 74 #[.agg #[.int .i64 pr, .int .i64 ca, .int .i64 kk, .slice An ln cn, .slice Al ll cl, .slice Ad ld cd, .slice Ac lc cc], .agg #[.int .i64 c.kind, .int .i64 c.node, .int .i64 c.dest, .int .i64 c.limit, .int .i64 c.other]] w fun e w' => e = .returned (.bool b) ∧ Below w.heap.size w w' :=
  (rightCheck_any c pr ca kk An Al Ad Ac ln cn ll cl ld cd lc cc (by omega) (by omega) w).mono fun _ _ ⟨he, hw⟩ => ⟨by rw [he, H.out], hw⟩
def checksB (ln ld : Nat) (cs : List PCheck) : Bool := decide (cs.length ≤ 16) && allF (fun _ c => checkB ln ld c) cs 0

set_option maxRecDepth 100000 in
set_option maxHeartbeats 2000000 in
theorem rightChecks_any (p : PPlan) {pr ca kk : Int} {An Al Ad Ac : Option Addr} {ln cn ll cl ld cd lc cc : Nat} {w : World} (h : RowAt w w.heap.size Ac (p.checks.flatMap checkC)) (hl : Hid (p.checks.length = lc)) (hm : lc ≤ 4096) (hn : ln ≤ 4096) (hd : ld ≤ 4096) :
    Calls Try.prog 57 #[.agg #[.int .i64 pr, .int .i64 ca, .int .i64 kk, .slice An ln cn, .slice Al ll cl, .slice Ad ld cd, .slice Ac lc cc]] w fun e w' => e = .returned (.bool (checksB ln ld p.checks)) ∧ Below w.heap.size w w' := by
  have HBX := Lib.hid (fun c0 c1 c2 c3 c4 c5 c6 => Blk.new w 29 #[c0, c1, c2, c3, c4, c5, c6])
  have hbx := fun o => below_new w o
  by_cases h16 : 16 < lc
  · have HF : Hid (checksB ln ld p.checks = false) := Lib.hid (by unfold checksB; rw [hl.out, decide_eq_false (by omega)]; rfl)
    go_enter Try.func57, Try.ntmps57
    go_wp2
    go_ret
    exact ⟨ret_bool HF.out.symm, hbx _⟩
  · have HT : Hid (checksB ln ld p.checks = allF (fun _ c => checkB ln ld c) p.checks 0) := Lib.hid (by unfold checksB; rw [hl.out, decide_eq_true (by omega)]; rfl)
    go_enter Try.func57, Try.ntmps57
    go_wp2
    go_loopw [4, 12] (fun _ i wr => ∃ k : Nat, k ≤ lc ∧ i = .int .i64 (k : Nat) ∧ AllAt (fun _ c => checkB ln ld c) p.checks k ∧ Below w.heap.size w wr ∧ Blk wr w.heap.size 29 #[.int .i64 pr, .int .i64 ca, .int .i64 kk, .slice An ln cn, .slice Al ll cl, .slice Ad ld cd, .slice Ac lc cc]) (fun _ i _ => lc - (intOf i).toNat)
    case atStart => exact ⟨0, Nat.zero_le _, rfl, AllAt.start _ _, hbx _, HBX.out _ _ _ _ _ _ _⟩
    case round =>
      clear hbx HBX
      obtain ⟨k, hk, rfl, hat, hbw, hbox⟩ := hrel
      obtain ⟨d0, d1, d2, d3, d4, d5, d6⟩ := box7a hbox
      by_cases hlt : k < lc
      · obtain ⟨n, hn'⟩ : ∃ n, p.checks[k]? = some n := ⟨_, List.getElem?_eq_getElem (by rw [hl.out]; exact hlt)⟩
        obtain ⟨g, hAg, hg, c0, c1, c2, c3, c4⟩ := (h.up hbw).check hn'
        clear h
        obtain ⟨b1, e1⟩ : ∃ b, checkB ln ld n = b := ⟨_, rfl⟩
        have H1 := Lib.hid e1
        cases b1
        · have HF : Hid (checksB ln ld p.checks = false) := Lib.hid (by rw [HT.out]; exact hat.stop hn' e1)
          clear e1 hn' hat
          subst hAg
          go_wp2_with (go_at_call 74; refine (rightCheck_is n ln ld _ H1 hn hd).mono ?_; rintro e w2 ⟨rfl, hb2⟩)
          go_ret
          exact ⟨ret_bool HF.out.symm, (hbw.alloc hbw.size _).trans (hb2.mono (by simp; have := hbw.size; omega))⟩
        · have hat' := hat.next hn' e1
          clear e1 hn' hat
          subst hAg
          go_wp2_with (go_at_call 74; refine (rightCheck_is n ln ld _ H1 hn hd).mono ?_; rintro e w2 ⟨rfl, hb2⟩)
          go_roundw
          case rel => exact ⟨k + 1, by omega, by go_num, hat', (hbw.alloc hbw.size _).trans (hb2.mono (by simp; have := hbw.size; omega)), (hbox.alloc _).up hb2⟩
          case measure => simp [intOf]; omega
      · have HF : Hid (checksB ln ld p.checks = true) := Lib.hid (by rw [HT.out]; exact hat.done (by rw [hl.out]; omega))
        go_wp2
        go_ret
        exact ⟨ret_bool HF.out.symm, hbw⟩

end Go.Proofs.Ytlfdpfkimggeoaa

namespace Go.Proofs.Ytlfdpfkimggeoaa
open Go.RowKit

theorem rightOrigins_is (l : List Int) (n : Nat) (hl : Hid (l.length = n)) (hn : n ≤ 4000) (m : Nat) (hm : m ≤ 4096) (b : Bool) (H : Hid (origB m l = b)) {A : Option Addr} {c : Nat} {w : World} (hA : RowAt w w.heap.size A (l.map (Value.int .i64))) :
    Calls Try.prog 73 #[.slice A n c, .int .i64 (m : Int)] w fun e w' => e = .returned (.bool b) ∧ w = w' := by
  have hl' := hl.out
  subst hl'
  exact (rightOrigins_any l A c m w hA (by omega) (by omega)).mono fun _ _ ⟨he, hw⟩ => ⟨by rw [he, H.out], hw⟩

def destOk (ns : List PNode) (ds : List PDest) (i : Nat) (d : PDest) : Bool := nameB d.name.data.toList && (decide (ixB (nameIs d.name) ns < 0) && (decide (ixB (destIs d.name) ds = i) && origB ns.length d.orig))
def destsB (ns : List PNode) (ds : List PDest) : Bool := decide (ds.length ≤ 4) && allF (destOk ns ds) ds 0

set_option maxRecDepth 100000 in
set_option maxHeartbeats 4000000 in
theorem rightDests_any (p : PPlan) (hs : PSmall p) {pr ca kk : Int} {An Al Ad Ac : Option Addr} {ln cn ll cl ld cd lc cc : Nat} {w : World} (hN : RowAt w w.heap.size An (p.nodes.flatMap nodeC)) (h : DestsAt w w.heap.size Ad p.dests) (hln : Hid (p.nodes.length = ln)) (hl : Hid (p.dests.length = ld)) (hn : ln ≤ 4096) (hm : ld ≤ 4096) :
    Calls Try.prog 56 #[.agg #[.int .i64 pr, .int .i64 ca, .int .i64 kk, .slice An ln cn, .slice Al ll cl, .slice Ad ld cd, .slice Ac lc cc]] w fun e w' => e = .returned (.bool (destsB p.nodes p.dests)) ∧ Below w.heap.size w w' := by
  have HBX := Lib.hid (fun c0 c1 c2 c3 c4 c5 c6 => Blk.new w 29 #[c0, c1, c2, c3, c4, c5, c6])
  have hbx := fun o => below_new w o
  have hds := hs.dests
  have HDS := Lib.hid hds
  clear hds hs
  by_cases h4 : 4 < ld
  · have HF : Hid (destsB p.nodes p.dests = false) := Lib.hid (by unfold destsB; rw [hl.out, decide_eq_false (by omega)]; rfl)
    go_enter Try.func56, Try.ntmps56
    go_wp2
    go_ret
    exact ⟨ret_bool HF.out.symm, hbx _⟩
  · have HT : Hid (destsB p.nodes p.dests = allF (destOk p.nodes p.dests) p.dests 0) := Lib.hid (by unfold destsB; rw [hl.out, decide_eq_true (by omega)]; rfl)
    go_enter Try.func56, Try.ntmps56
    go_wp2
    go_loopw [3, 4, 12] (fun _ _ i wr => ∃ k : Nat, k ≤ ld ∧ i = .int .i64 (k : Nat) ∧ AllAt (destOk p.nodes p.dests) p.dests k ∧ Below w.heap.size w wr ∧ Blk wr w.heap.size 29 #[.int .i64 pr, .int .i64 ca, .int .i64 kk, .slice An ln cn, .slice Al ll cl, .slice Ad ld cd, .slice Ac lc cc]) (fun _ _ i _ => ld - (intOf i).toNat)
    case atStart => exact ⟨0, Nat.zero_le _, rfl, AllAt.start _ _, hbx _, HBX.out _ _ _ _ _ _ _⟩
    case round =>
      clear hbx HBX
      obtain ⟨k, hk, rfl, hat, hbw, hbox⟩ := hrel
      obtain ⟨d0, d1, d2, d3, d4, d5, d6⟩ := box7a hbox
      by_cases hlt : k < ld
      · obtain ⟨⟨nm, og⟩, hd'⟩ : ∃ n, p.dests[k]? = some n := ⟨_, List.getElem?_eq_getElem (by rw [hl.out]; exact hlt)⟩
        have hdup := h.up hbw
        obtain ⟨g, Ao, co, hAg, hg, c0, c1, hOr⟩ := hdup.dest hd'
        obtain ⟨z1, z2⟩ := HDS.out _ (List.mem_of_getElem? hd')
        dsimp only at c0 c1 hOr z1 z2
        obtain ⟨lo, hlo⟩ : ∃ n, og.length = n := ⟨_, rfl⟩
        rw [hlo] at c1 z2
        have HLO := Lib.hid hlo
        clear hlo
        have hsz : nm.size ≤ 9223372036854775807 := Nat.le_trans z1 (by omega)
        have hAn' := fun o => (hN.up hbw).box o
        have hAd' := fun o => hdup.box o
        have hOr' := fun o => hOr.box o
        have hB4 := Lib.hid (Blk.new wr 65 #[.string nm, .slice Ao lo co])
        clear hdup h hN hOr
        obtain ⟨b1, e1⟩ : ∃ b, nameB nm.data.toList = b := ⟨_, rfl⟩
        have H1 := Lib.hid e1
        cases b1
        · have HF : Hid (destsB p.nodes p.dests = false) := Lib.hid (by rw [HT.out]; exact hat.stop hd' (by unfold destOk; dsimp only; rw [e1]; rfl))
          clear e1 hd' hat hAn' hAd' hOr'
          subst hAg
          go_wp2_with (go_at_call 67; refine (Name_is _ hsz _ H1 _).mono ?_; rintro e w2 ⟨rfl, rfl⟩)
          go_ret
          exact ⟨ret_bool HF.out.symm, hbw.alloc hbw.size _⟩
        obtain ⟨u, e2⟩ : ∃ v, ixB (nameIs nm) p.nodes = v := ⟨_, rfl⟩
        have H2 := Lib.hid e2
        by_cases hu : 0 ≤ u
        · have HF : Hid (destsB p.nodes p.dests = false) := Lib.hid (by rw [HT.out]; exact hat.stop hd' (by unfold destOk; dsimp only; rw [e1, e2, decide_eq_false (by omega)]; rfl))
          clear e1 e2 hd' hat hAd' hOr'
          subst hAg
          go_wp2_with (first
            | (go_at_call 67; refine (Name_is _ hsz _ H1 _).mono ?_; rintro e w2 ⟨rfl, rfl⟩)
            | (go_at_call 68; refine (Node_is p _ _ H2 (hAn' _) hln hn).mono ?_; rintro e w2 ⟨rfl, hb2⟩))
          go_ret
          exact ⟨ret_bool HF.out.symm, (hbw.alloc hbw.size _).trans (hb2.mono (by simp; have := hbw.size; omega))⟩
        obtain ⟨v, e3⟩ : ∃ v, ixB (destIs nm) p.dests = v := ⟨_, rfl⟩
        by_cases hv : v = (k : Int)
        · obtain ⟨b4, e4⟩ : ∃ b, origB ln og = b := ⟨_, rfl⟩
          have H4 := Lib.hid e4
          rw [hv] at e3
          have H3 := Lib.hid e3
          have hok : destOk p.nodes p.dests k ⟨nm, og⟩ = b4 := by unfold destOk; dsimp only; rw [e1, e2, e3, hln.out, e4, decide_eq_true (show u < 0 by omega)]; simp
          clear hv e1 e2 e3 e4
          cases b4
          · have HF : Hid (destsB p.nodes p.dests = false) := Lib.hid (by rw [HT.out]; exact hat.stop hd' hok)
            clear hd' hat hok
            subst hAg
            go_wp2_with (first
              | (go_at_call 67; refine (Name_is _ hsz _ H1 _).mono ?_; rintro e w2 ⟨rfl, rfl⟩)
              | (go_at_call 68; refine (Node_is p _ _ H2 (hAn' _) hln hn).mono ?_; rintro e w2 ⟨rfl, hb2⟩; obtain ⟨q0, q1, q2, q3, q4, q5, q6⟩ := box7 ((hbox.alloc _).up hb2); have f0 : w2.cell? ⟨wr.heap.size, 0, none⟩ = some (.string nm) := (hB4.out.up hb2).cell 0)
              | (go_at_call 72; refine (Dest_is p _ _ H3 ((hAd' _).up hb2) hl hm).mono ?_; rintro e w3 ⟨rfl, hb3⟩; clear q0 q1 q2 q3 q4 q5 q6 f0; have q3 := (((hbox.alloc _).up hb2).up hb3).cell 3; have f1 : w3.cell? ⟨wr.heap.size, 1, none⟩ = some (.slice Ao lo co) := ((hB4.out.up hb2).up hb3).cell 1)
              | (go_at_call 73; refine (rightOrigins_is og _ HLO z2 ln hn _ H4 (((hOr' _).up hb2).up hb3)).mono ?_; rintro e w4 ⟨rfl, rfl⟩))
            go_ret
            exact ⟨ret_bool HF.out.symm, ((hbw.alloc hbw.size _).trans (hb2.mono (by simp; have := hbw.size; omega))).trans (hb3.mono (by have := hbw.size; have := hb2.size; simp at this; omega))⟩
          · have hat' := hat.next hd' hok
            clear hd' hat hok
            subst hAg
            go_wp2_with (first
              | (go_at_call 67; refine (Name_is _ hsz _ H1 _).mono ?_; rintro e w2 ⟨rfl, rfl⟩)
              | (go_at_call 68; refine (Node_is p _ _ H2 (hAn' _) hln hn).mono ?_; rintro e w2 ⟨rfl, hb2⟩; obtain ⟨q0, q1, q2, q3, q4, q5, q6⟩ := box7 ((hbox.alloc _).up hb2); have f0 : w2.cell? ⟨wr.heap.size, 0, none⟩ = some (.string nm) := (hB4.out.up hb2).cell 0)
              | (go_at_call 72; refine (Dest_is p _ _ H3 ((hAd' _).up hb2) hl hm).mono ?_; rintro e w3 ⟨rfl, hb3⟩; clear q0 q1 q2 q3 q4 q5 q6 f0; have q3 := (((hbox.alloc _).up hb2).up hb3).cell 3; have f1 : w3.cell? ⟨wr.heap.size, 1, none⟩ = some (.slice Ao lo co) := ((hB4.out.up hb2).up hb3).cell 1)
              | (go_at_call 73; refine (rightOrigins_is og _ HLO z2 ln hn _ H4 (((hOr' _).up hb2).up hb3)).mono ?_; rintro e w4 ⟨rfl, rfl⟩))
            go_roundw
            case rel => exact ⟨k + 1, by omega, by go_num, hat', ((hbw.alloc hbw.size _).trans (hb2.mono (by simp; have := hbw.size; omega))).trans (hb3.mono (by have := hbw.size; have := hb2.size; simp at this; omega)), ((hbox.alloc _).up hb2).up hb3⟩
            case measure => simp [intOf]; omega
        · have H3 := Lib.hid e3
          have HF : Hid (destsB p.nodes p.dests = false) := Lib.hid (by rw [HT.out]; exact hat.stop hd' (by unfold destOk; dsimp only; rw [e1, e2, e3, decide_eq_false hv, Bool.false_and, Bool.and_false, Bool.and_false]))
          have v1 : (v == (k : Int)) = false := by simpa using hv
          have v2 : (v != (k : Int)) = true := by simpa using hv
          clear hd' hat hv e1 e2 e3 hOr'
          subst hAg
          go_wp2_with (first
            | (go_at_call 67; refine (Name_is _ hsz _ H1 _).mono ?_; rintro e w2 ⟨rfl, rfl⟩)
            | (go_at_call 68; refine (Node_is p _ _ H2 (hAn' _) hln hn).mono ?_; rintro e w2 ⟨rfl, hb2⟩; obtain ⟨q0, q1, q2, q3, q4, q5, q6⟩ := box7 ((hbox.alloc _).up hb2); have f0 : w2.cell? ⟨wr.heap.size, 0, none⟩ = some (.string nm) := (hB4.out.up hb2).cell 0)
            | (go_at_call 72; refine (Dest_is p _ _ H3 ((hAd' _).up hb2) hl hm).mono ?_; rintro e w3 ⟨rfl, hb3⟩))
          go_ret
          exact ⟨ret_bool HF.out.symm, ((hbw.alloc hbw.size _).trans (hb2.mono (by simp; have := hbw.size; omega))).trans (hb3.mono (by have := hbw.size; have := hb2.size; simp at this; omega))⟩
      · have HF : Hid (destsB p.nodes p.dests = true) := Lib.hid (by rw [HT.out]; exact hat.done (by rw [hl.out]; omega))
        go_wp2
        go_ret
        exact ⟨ret_bool HF.out.symm, hbw⟩

end Go.Proofs.Ytlfdpfkimggeoaa

namespace Go.Proofs.Ytlfdpfkimggeoaa
open Go.RowKit

def rightB (p : PPlan) : Bool := protoB p.proto p.cap && (withinB p.k 0 (min 4 (p.links.length : Int)) && (nodesB p.nodes && (linksB p.nodes.length p.links && (destsB p.nodes p.dests && checksB p.nodes.length p.dests.length p.checks))))

section
variable {p : PPlan} {pr ca kk : Int} {An Al Ad Ac : Option Addr} {ln cn ll cl ld cd lc cc : Nat} {w : World}
theorem rightProto_is (b : Bool) (H : Hid (protoB pr ca = b)) :
    Calls Try.prog 52 #[.agg #[.int .i64 pr, .int .i64 ca, .int .i64 kk, .slice An ln cn, .slice Al ll cl, .slice Ad ld cd, .slice Ac lc cc]] w fun e w' => e = .returned (.bool b) ∧ Below w.heap.size w w' :=
  (rightProto_any pr ca kk An Al Ad Ac ln cn ll cl ld cd lc cc w).mono fun _ _ ⟨he, hw⟩ => ⟨by rw [he, H.out], hw⟩
theorem rightNodes_is (b : Bool) (H : Hid (nodesB p.nodes = b)) (hs : PSmall p) (h : PAt w p pr ca kk An ln Al ll Ad ld Ac lc) :
    Calls Try.prog 54 #[.agg #[.int .i64 pr, .int .i64 ca, .int .i64 kk, .slice An ln cn, .slice Al ll cl, .slice Ad ld cd, .slice Ac lc cc]] w fun e w' => e = .returned (.bool b) ∧ Below w.heap.size w w' :=
  (rightNodes_any p hs h.nodes (Lib.hid h.ln) (by rw [← h.ln]; exact hs.ln)).mono fun _ _ ⟨he, hw⟩ => ⟨by rw [he, H.out], hw⟩
theorem rightLinks_is (b : Bool) (H : Hid (linksB p.nodes.length p.links = b)) (hs : PSmall p) (h : PAt w p pr ca kk An ln Al ll Ad ld Ac lc) :
    Calls Try.prog 55 #[.agg #[.int .i64 pr, .int .i64 ca, .int .i64 kk, .slice An ln cn, .slice Al ll cl, .slice Ad ld cd, .slice Ac lc cc]] w fun e w' => e = .returned (.bool b) ∧ Below w.heap.size w w' :=
  (rightLinks_any p (ln := ln) h.links (Lib.hid h.ll) (by rw [← h.ll]; exact hs.ll) (by rw [← h.ln]; exact hs.ln)).mono fun _ _ ⟨he, hw⟩ => ⟨by rw [he, ← H.out, h.ln], hw⟩
theorem rightDests_is (b : Bool) (H : Hid (destsB p.nodes p.dests = b)) (hs : PSmall p) (h : PAt w p pr ca kk An ln Al ll Ad ld Ac lc) :
    Calls Try.prog 56 #[.agg #[.int .i64 pr, .int .i64 ca, .int .i64 kk, .slice An ln cn, .slice Al ll cl, .slice Ad ld cd, .slice Ac lc cc]] w fun e w' => e = .returned (.bool b) ∧ Below w.heap.size w w' :=
  (rightDests_any p hs h.nodes h.dests (Lib.hid h.ln) (Lib.hid h.ld) (by rw [← h.ln]; exact hs.ln) (by rw [← h.ld]; exact hs.ld)).mono fun _ _ ⟨he, hw⟩ => ⟨by rw [he, H.out], hw⟩
theorem rightChecks_is (b : Bool) (H : Hid (checksB p.nodes.length p.dests.length p.checks = b)) (hs : PSmall p) (h : PAt w p pr ca kk An ln Al ll Ad ld Ac lc) :
    Calls Try.prog 57 #[.agg #[.int .i64 pr, .int .i64 ca, .int .i64 kk, .slice An ln cn, .slice Al ll cl, .slice Ad ld cd, .slice Ac lc cc]] w fun e w' => e = .returned (.bool b) ∧ Below w.heap.size w w' :=
  (rightChecks_any p (ln := ln) (ld := ld) h.checks (Lib.hid h.lc) (by rw [← h.lc]; exact hs.lc) (by rw [← h.ln]; exact hs.ln) (by rw [← h.ld]; exact hs.ld)).mono fun _ _ ⟨he, hw⟩ => ⟨by rw [he, ← H.out, h.ln, h.ld], hw⟩

theorem PAt.box (h : PAt w p pr ca kk An ln Al ll Ad ld Ac lc) (o : Obj) : PAt (w.alloc o) p pr ca kk An ln Al ll Ad ld Ac lc := h.up (below_new w o)

set_option maxRecDepth 100000 in
set_option maxHeartbeats 4000000 in
theorem Right_any (hs : PSmall p) (h : PAt w p pr ca kk An ln Al ll Ad ld Ac lc) :
    Calls Try.prog 33 #[.agg #[.int .i64 pr, .int .i64 ca, .int .i64 kk, .slice An ln cn, .slice Al ll cl, .slice Ad ld cd, .slice Ac lc cc]] w fun e w' => e = .returned (.bool (rightB p)) ∧ Below w.heap.size w w' := by
  have HB := Lib.hid (fun o => below_new w o)
  have HBX := Lib.hid (Blk.new w 29 #[.int .i64 pr, .int .i64 ca, .int .i64 kk, .slice An ln cn, .slice Al ll cl, .slice Ad ld cd, .slice Ac lc cc])
  have hR : rightB p = (protoB pr ca && (withinB kk 0 (min 4 (ll : Int)) && (nodesB p.nodes && (linksB p.nodes.length p.links && (destsB p.nodes p.dests && checksB p.nodes.length p.dests.length p.checks))))) := by
    unfold rightB; rw [h.pr, h.ca, h.kk, h.ll]
  have hP := Lib.hid (h.box (.cells #[.int .i64 pr, .int .i64 ca, .int .i64 kk, .slice An ln cn, .slice Al ll cl, .slice Ad ld cd, .slice Ac lc cc] 29))
  have hll : ll ≤ 4096 := by rw [← h.ll]; exact hs.ll
  clear h
  obtain ⟨b1, e1⟩ : ∃ b, protoB pr ca = b := ⟨_, rfl⟩
  obtain ⟨b2, e2⟩ : ∃ b, withinB kk 0 (min 4 (ll : Int)) = b := ⟨_, rfl⟩
  obtain ⟨b3, e3⟩ : ∃ b, nodesB p.nodes = b := ⟨_, rfl⟩
  obtain ⟨b4, e4⟩ : ∃ b, linksB p.nodes.length p.links = b := ⟨_, rfl⟩
  obtain ⟨b5, e5⟩ : ∃ b, destsB p.nodes p.dests = b := ⟨_, rfl⟩
  obtain ⟨b6, e6⟩ : ∃ b, checksB p.nodes.length p.dests.length p.checks = b := ⟨_, rfl⟩
  rw [e1, e2, e3, e4, e5, e6] at hR
  have HR := Lib.hid hR
  have H1 := Lib.hid e1
  have H2 := Lib.hid e2
  have H3 := Lib.hid e3
  have H4 := Lib.hid e4
  have H5 := Lib.hid e5
  have H6 := Lib.hid e6
  clear hR e1 e2 e3 e4 e5 e6
  cases b1
  · go_enter Try.func33, Try.ntmps33
    go_wp2_with (go_at_call 52; refine (rightProto_is _ H1).mono ?_; rintro e w1 ⟨rfl, hb1⟩)
    go_ret
    exact ⟨ret_bool HR.out.symm, below_box hb1⟩
  cases b2
  · go_enter Try.func33, Try.ntmps33
    go_wp2_with (first
      | (go_at_call 52; refine (rightProto_is _ H1).mono ?_; rintro e w1 ⟨rfl, hb1⟩; obtain ⟨q0, q1, q2, q3, q4, q5, q6⟩ := box7 (HBX.out.up hb1))
      | (go_at_call 53; refine (isWithin_is _ _ _ _ H2 _).mono ?_; rintro e w2 ⟨rfl, rfl⟩))
    go_ret
    exact ⟨ret_bool HR.out.symm, below_box hb1⟩
  cases b3
  · go_enter Try.func33, Try.ntmps33
    go_wp2_with (first
      | (go_at_call 52; refine (rightProto_is _ H1).mono ?_; rintro e w1 ⟨rfl, hb1⟩; obtain ⟨q0, q1, q2, q3, q4, q5, q6⟩ := box7 (HBX.out.up hb1))
      | (go_at_call 53; refine (isWithin_is _ _ _ _ H2 _).mono ?_; rintro e w2 ⟨rfl, rfl⟩)
      | (go_at_call 54; refine (rightNodes_is _ H3 hs (hP.out.up hb1)).mono ?_; rintro e w3 ⟨rfl, hb3⟩; have hb := hb1.trans (hb3.mono hb1.size)))
    go_ret
    exact ⟨ret_bool HR.out.symm, below_box hb⟩
  cases b4
  · go_enter Try.func33, Try.ntmps33
    go_wp2_with (first
      | (go_at_call 52; refine (rightProto_is _ H1).mono ?_; rintro e w1 ⟨rfl, hb1⟩; obtain ⟨q0, q1, q2, q3, q4, q5, q6⟩ := box7 (HBX.out.up hb1))
      | (go_at_call 53; refine (isWithin_is _ _ _ _ H2 _).mono ?_; rintro e w2 ⟨rfl, rfl⟩)
      | (go_at_call 54; refine (rightNodes_is _ H3 hs (hP.out.up hb1)).mono ?_; rintro e w3 ⟨rfl, hb3⟩; have hb := hb1.trans (hb3.mono hb1.size); obtain ⟨r0, r1, r2, r3, r4, r5, r6⟩ := box7 (HBX.out.up hb))
      | (go_at_call 55; refine (rightLinks_is _ H4 hs (hP.out.up hb)).mono ?_; rintro e w4 ⟨rfl, hb4⟩; replace hb := hb.trans (hb4.mono hb.size)))
    go_ret
    exact ⟨ret_bool HR.out.symm, below_box hb⟩
  cases b5
  · go_enter Try.func33, Try.ntmps33
    go_wp2_with (first
      | (go_at_call 52; refine (rightProto_is _ H1).mono ?_; rintro e w1 ⟨rfl, hb1⟩; obtain ⟨q0, q1, q2, q3, q4, q5, q6⟩ := box7 (HBX.out.up hb1))
      | (go_at_call 53; refine (isWithin_is _ _ _ _ H2 _).mono ?_; rintro e w2 ⟨rfl, rfl⟩)
      | (go_at_call 54; refine (rightNodes_is _ H3 hs (hP.out.up hb1)).mono ?_; rintro e w3 ⟨rfl, hb3⟩; have hb := hb1.trans (hb3.mono hb1.size); obtain ⟨r0, r1, r2, r3, r4, r5, r6⟩ := box7 (HBX.out.up hb))
      | (go_at_call 55; refine (rightLinks_is _ H4 hs (hP.out.up hb)).mono ?_; rintro e w4 ⟨rfl, hb4⟩; replace hb := hb.trans (hb4.mono hb.size); obtain ⟨s0, s1, s2, s3, s4, s5, s6⟩ := box7 (HBX.out.up hb))
      | (go_at_call 56; refine (rightDests_is _ H5 hs (hP.out.up hb)).mono ?_; rintro e w5 ⟨rfl, hb5⟩; replace hb := hb.trans (hb5.mono hb.size)))
    go_ret
    exact ⟨ret_bool HR.out.symm, below_box hb⟩
  · go_enter Try.func33, Try.ntmps33
    go_wp2_with (first
      | (go_at_call 52; refine (rightProto_is _ H1).mono ?_; rintro e w1 ⟨rfl, hb1⟩; obtain ⟨q0, q1, q2, q3, q4, q5, q6⟩ := box7 (HBX.out.up hb1))
      | (go_at_call 53; refine (isWithin_is _ _ _ _ H2 _).mono ?_; rintro e w2 ⟨rfl, rfl⟩)
      | (go_at_call 54; refine (rightNodes_is _ H3 hs (hP.out.up hb1)).mono ?_; rintro e w3 ⟨rfl, hb3⟩; have hb := hb1.trans (hb3.mono hb1.size); obtain ⟨r0, r1, r2, r3, r4, r5, r6⟩ := box7 (HBX.out.up hb))
      | (go_at_call 55; refine (rightLinks_is _ H4 hs (hP.out.up hb)).mono ?_; rintro e w4 ⟨rfl, hb4⟩; replace hb := hb.trans (hb4.mono hb.size); obtain ⟨s0, s1, s2, s3, s4, s5, s6⟩ := box7 (HBX.out.up hb))
      | (go_at_call 56; refine (rightDests_is _ H5 hs (hP.out.up hb)).mono ?_; rintro e w5 ⟨rfl, hb5⟩; replace hb := hb.trans (hb5.mono hb.size); obtain ⟨t0, t1, t2, t3, t4, t5, t6⟩ := box7 (HBX.out.up hb))
      | (go_at_call 57; refine (rightChecks_is _ H6 hs (hP.out.up hb)).mono ?_; rintro e w6 ⟨rfl, hb6⟩; replace hb := hb.trans (hb6.mono hb.size)))
    go_ret
    exact ⟨ret_bool HR.out.symm, below_box hb⟩
theorem Right_is (b : Bool) (H : Hid (rightB p = b)) (hs : PSmall p) (h : PAt w p pr ca kk An ln Al ll Ad ld Ac lc) :
    Calls Try.prog 33 #[.agg #[.int .i64 pr, .int .i64 ca, .int .i64 kk, .slice An ln cn, .slice Al ll cl, .slice Ad ld cd, .slice Ac lc cc]] w fun e w' => e = .returned (.bool b) ∧ Below w.heap.size w w' :=
  (Right_any hs h).mono fun _ _ ⟨he, hw⟩ => ⟨by rw [he, H.out], hw⟩
end

end Go.Proofs.Ytlfdpfkimggeoaa
