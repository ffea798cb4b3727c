/-
  The document's own Print: its destinations' lines.
-/
import Derived.Test.YtdmilbfdiebjgaaDoorPlUl
namespace Go.Proofs.YtdmilbfdiebjgaaDoor
open Go.RowKit
set_option linter.unusedVariables false
set_option linter.unusedSimpArgs false

theorem dest_len (ns : List PNode) (nm : ByteArray) (og : List Int) : (lineS (destW ns ⟨nm, og⟩)).length = 5 + nm.size + 3 + (og.flatMap (origL ns)).length + 2 := by
  have hz : nm.data.size = nm.size := rfl
  rw [← dest_lineP]; simp only [List.length_append, List.length_cons, List.length_nil, Array.length_toList]; omega
theorem orig_lenP (ns : List PNode) (a : Nat) (x : PNode) (hx : ns[a]? = some x) : (origL ns (a : Int)).length = 1 + x.name.size := by
  have hz : x.name.data.size = x.name.size := rfl
  unfold origL; rw [nm_is hx, List.length_cons, Array.length_toList]; omega

set_option maxHeartbeats 8000000 in
set_option maxRecDepth 100000 in
theorem print_dests {p : PPlan} {pr ca kk : Int} {An Al Ad Ac : Option Addr} {ln cn ll cl ld cd lc cc : Nat} {w : World} (HP : Hid (PAt w p pr ca kk An ln Al ll Ad ld Ac lc)) (HS : Hid (PSmall p)) (HT : Hid (PTiny p)) (W : World) (hbw : Below w.heap.size w W) (g : Nat) (hbox : Blk W g 29 #[.int .i64 pr, .int .i64 ca, .int .i64 kk, .slice An ln cn, .slice Al ll cl, .slice Ad ld cd, .slice Ac lc cc]) (S : ByteArray) (T : List UInt8) (hS : StrIs S T) (HTX : Hid (textB p = T ++ (p.dests.flatMap (fun d => lineS (destW p.nodes d)) ++ p.checks.flatMap (fun c => lineS (checkW p.nodes p.dests c))))) (HTL : Hid ((textB p).length ≤ 140737488355328))
    (u0 u2 u3 u4 u6 u7 u8 u9 u10 u11 u12 u13 u14 u15 u16 u17 u18 u19 u20 u21 u22 u23 u24 u25 u26 u27 u28 u29 u30 u31 u32 u33 u34 u35 u36 u37 u38 u39 u40 u41 u42 u43 u44 u45 u46 u47 u48 u49 u50 u51 u52 u53 u54 u55 u56 u57 u58 u59 u60 u61 u62 u63 u64 u65 u66 u67 u68 u69 u70 u71 u72 u73 u74 u75 u76 u77 u78 u79 u80 u81 u82 u83 u84 u85 u86 u87 u88 u89 u90 u91 u92 u93 u94 u95 u96 u97 u98 u99 u100 u101 u102 u103 u104 u105 u106 u107 u108 u109 u110 u111 u112 u113 u114 u115 u116 u117 u118 u119 u120 u121 u122 u123 u124 u125 u126 u127 u128 u129 u130 u131 u132 u133 u134 u135 u136 u137 u138 u139 u140 u141 u142 u143 u144 u145 u146 u147 u148 u149 u150 u151 u152 u153 u154 u155 u156 u157 u158 : Value) :
    Code.wp Tryd.prog (refPrintC [true, true, true, true, true, true, true, true]) (bodyPost Tryd.prog Tryd.f8 (fun e w' => e = .returned (.tuple #[.string ⟨(textB p).toArray⟩, .int .i64 0]) ∧ Below w.heap.size w w')) ⟨List.toArray (u0 :: .pointer (some ⟨g, 0, none⟩) :: u2 :: u3 :: u4 :: .string S :: u6 :: u7 :: u8 :: u9 :: u10 :: u11 :: u12 :: u13 :: u14 :: u15 :: u16 :: u17 :: u18 :: u19 :: u20 :: u21 :: u22 :: u23 :: u24 :: u25 :: u26 :: u27 :: u28 :: u29 :: u30 :: u31 :: u32 :: u33 :: u34 :: u35 :: u36 :: u37 :: u38 :: u39 :: u40 :: u41 :: u42 :: u43 :: u44 :: u45 :: u46 :: u47 :: u48 :: u49 :: u50 :: u51 :: u52 :: u53 :: u54 :: u55 :: u56 :: u57 :: u58 :: u59 :: u60 :: u61 :: u62 :: u63 :: u64 :: u65 :: u66 :: u67 :: u68 :: u69 :: u70 :: u71 :: u72 :: u73 :: u74 :: u75 :: u76 :: u77 :: u78 :: u79 :: u80 :: u81 :: u82 :: u83 :: u84 :: u85 :: u86 :: u87 :: u88 :: u89 :: u90 :: u91 :: u92 :: u93 :: u94 :: u95 :: u96 :: u97 :: u98 :: u99 :: u100 :: u101 :: u102 :: u103 :: u104 :: u105 :: u106 :: u107 :: u108 :: u109 :: u110 :: u111 :: u112 :: u113 :: u114 :: u115 :: u116 :: u117 :: u118 :: u119 :: u120 :: u121 :: u122 :: u123 :: u124 :: u125 :: u126 :: u127 :: u128 :: u129 :: u130 :: u131 :: u132 :: u133 :: u134 :: u135 :: u136 :: u137 :: u138 :: u139 :: u140 :: u141 :: u142 :: u143 :: u144 :: u145 :: u146 :: u147 :: u148 :: u149 :: u150 :: u151 :: u152 :: u153 :: u154 :: u155 :: u156 :: u157 :: u158 :: []), []⟩ W := by
  conv => arg 2; whnf
  repeat (first | go_values | go_skip | go_guarded | go_step | go_upon)
  obtain ⟨d0, d1, d2, d3, d4, d5, d6⟩ := box7 hbox
  have s1 := HS.out.ln
  rw [HP.out.ln] at s1
  have s3 := HS.out.ld
  rw [HP.out.ld] at s3
  go_loopw [5, 9] (fun s5 s9 wr => ∃ (k : Nat) (S : ByteArray), k ≤ ld ∧ s9 = .int .i64 (k : Nat) ∧ s5 = .string S ∧ StrIs S (T ++ (p.dests.take k).flatMap (fun d => lineS (destW p.nodes d))) ∧ Below w.heap.size w wr ∧ Blk wr g 29 #[.int .i64 pr, .int .i64 ca, .int .i64 kk, .slice An ln cn, .slice Al ll cl, .slice Ad ld cd, .slice Ac lc cc]) (fun _ s9 _ => ld - (intOf s9).toNat)
  case atStart => exact ⟨0, S, Nat.zero_le _, rfl, rfl, hS.to (by simp), hbw, hbox⟩
  case round =>
    clear d0 d1 d2 d3 d4 d5 d6 hbw hbox hS
    obtain ⟨k, S, hk, rfl, rfl, hS, hbw, hbox⟩ := hrel
    by_cases hlt : k < ld
    · obtain ⟨⟨nm, og⟩, hn⟩ : ∃ n, p.dests[k]? = some n := ⟨_, List.getElem?_eq_getElem (by rw [HP.out.ld]; exact hlt)⟩
      have hog := HT.out.dests _ (List.mem_of_getElem? hn)
      rw [HP.out.ln] at hog
      obtain ⟨_, hol⟩ := HS.out.dests _ (List.mem_of_getElem? hn)
      have hx := HP.out.up hbw
      obtain ⟨gd, Ao, co, rfl, hgd, c0, c1, hO⟩ := hx.dests.dest hn
      try dsimp only at hog hol c0 c1 hO
      obtain ⟨lo, hlo⟩ : ∃ n, og.length = n := ⟨_, rfl⟩
      rw [hlo] at c1 hol
      have hfl := flat_le (fun d => lineS (destW p.nodes d)) p.dests k _ hn
      have hft := flat_take (fun d => lineS (destW p.nodes d)) p.dests k _ hn
      try dsimp only at hfl hft
      have hdl := dest_len p.nodes nm og
      have htl := HTL.out
      rw [HTX.out, List.length_append, List.length_append] at htl
      have hsz := hS.size
      rw [List.length_append] at hsz
      obtain ⟨Tk, hTk⟩ : ∃ X, T ++ (p.dests.take k).flatMap (fun d => lineS (destW p.nodes d)) = X := ⟨_, rfl⟩
      rw [hTk] at hS
      have hTl : Tk.length + (5 + nm.size + 3 + (og.flatMap (origL p.nodes)).length + 2) ≤ 140737488355328 := by rw [← hTk, List.length_append]; omega
      have HNX : Hid (T ++ (p.dests.take (k + 1)).flatMap (fun d => lineS (destW p.nodes d)) = Tk ++ ([100, 101, 115, 116, 32] ++ nm.data.toList ++ [32, 97, 116] ++ og.flatMap (origL p.nodes) ++ [59, 10])) := Lib.hid (by rw [hft, ← List.append_assoc, hTk, dest_lineP])
      have hs1 := dest_head hS nm
      have hss := hS.size
      have a1 : ¬ (9223372036854775807 < S.size + 5) := by omega
      have a2 : ¬ (9223372036854775807 < S.size + 5 + nm.size) := by omega
      have a3 : ¬ (9223372036854775807 < S.size + 5 + nm.size + 3) := by omega
      have HTLK := Lib.hid hTl
      have HS1 := Lib.hid hs1
      have HLO := Lib.hid hlo
      have HOG := Lib.hid hog
      have k0 : (0 : Int) ≤ (k : Int) := by omega
      have k1 : (k : Int) < (ld : Int) := by omega
      obtain ⟨d0, d1, d2, d3, d4, d5, d6⟩ := box7 hbox
      have HBW := Lib.hid hbw
      have HX := Lib.hid hx
      have HO := Lib.hid hO
      have HBX := Lib.hid hbox
      clear hn hfl hft hdl htl hsz hTk hTl hs1 hlo hog hx hbw hS hO hss hbox
      go_upto_region 21 with (fail)
      obtain ⟨S1, hS1⟩ : ∃ s, S ++ ⟨#[100, 101, 115, 116, 32]⟩ ++ nm ++ ⟨#[32, 97, 116]⟩ = s := ⟨_, rfl⟩
      have HS2 : Hid (StrIs S1 (Tk ++ ([100, 101, 115, 116, 32] ++ nm.data.toList ++ [32, 97, 116]))) := Lib.hid (hS1 ▸ HS1.out)
      simp only [hS1]
      clear hS1 HS1 a1 a2 a3
      repeat (first | go_values | go_skip | go_guarded | go_step | go_upon)
      obtain ⟨wq, hwq⟩ : ∃ wq : World, wq = wr := ⟨_, rfl⟩
      have HWQ := Lib.hid hwq
      rw [← hwq] at HBW HX HO HBX c0 c1 hgd
      go_loopw [5, 10] (fun s5 s10 wr => ∃ (q : Nat) (S : ByteArray), q ≤ lo ∧ s10 = .int .i64 (q : Nat) ∧ s5 = .string S ∧ StrIs S (Tk ++ ([100, 101, 115, 116, 32] ++ nm.data.toList ++ [32, 97, 116]) ++ (og.take q).flatMap (origL p.nodes)) ∧ Below wq.heap.size wq wr) (fun _ s10 _ => lo - (intOf s10).toNat)
      case atStart => exact ⟨0, S1, Nat.zero_le _, rfl, rfl, HS2.out.to (by simp), hwq ▸ Below.refl _ _⟩
      case round =>
        clear d0 d1 d2 d3 d4 d5 d6
        obtain ⟨q, S2, hq, rfl, rfl, hS2, hbq⟩ := hrel
        obtain ⟨d0, d1, d2, d3, d4, d5, d6⟩ := box7 (HBX.out.up hbq)
        have c1' := (hbq.cell (p := ⟨gd, k * 2 + 1, none⟩) hgd).trans c1
        have hl1 := HTLK.out
        have hz2 := hS2.size
        simp only [List.length_append, List.length_cons, List.length_nil] at hz2
        have hnz : nm.data.toList.length = nm.size := by rw [Array.length_toList]; rfl
        by_cases hlq : q < lo
        · obtain ⟨av, hav⟩ : ∃ n, og[q]? = some n := ⟨_, List.getElem?_eq_getElem (by rw [HLO.out]; exact hlq)⟩
          obtain ⟨a, ha, ha2⟩ := HOG.out _ (List.mem_of_getElem? hav)
          subst ha
          obtain ⟨x, hx0⟩ : ∃ n, p.nodes[a]? = some n := ⟨_, List.getElem?_eq_getElem (by rw [HP.out.ln]; exact ha2)⟩
          obtain ⟨go, rfl, hgo, o0⟩ := (HO.out.up hbq).num hav
          obtain ⟨gn, rfl, hgn, n0, _⟩ := (HX.out.nodes.up hbq).node hx0
          have hfo := flat_le (origL p.nodes) og q _ hav
          have hfk := flat_take (origL p.nodes) og q _ hav
          have hol2 := orig_lenP p.nodes a x hx0
          have hnx := dest_orig hS2 p.nodes a x hx0
          rw [List.append_assoc, ← hfk] at hnx
          obtain ⟨xn, hxn⟩ : ∃ s, x.name = s := ⟨_, rfl⟩
          rw [hxn] at hnx n0 hol2
          have a1 : ¬ (9223372036854775807 < S2.size + 1) := by omega
          have a2 : ¬ (9223372036854775807 < S2.size + 1 + xn.size) := by omega
          have HNX2 := Lib.hid hnx
          have q0 : (0 : Int) ≤ (q : Int) := by omega
          have q1 : (q : Int) < (lo : Int) := by omega
          have ka0 : (0 : Int) ≤ (a : Int) := by omega
          have ka1 : (a : Int) < (ln : Int) := by omega
          have HBQ := Lib.hid hbq
          clear hav hx0 hfo hfk hol2 hnx hxn hz2 hnz hl1 hbq hS2
          go_upto_region 24 with (fail)
          go_region_held3 (fun w' => w'.cell? ⟨g, 3, none⟩ = some (.slice (some ⟨gn, 0, none⟩) ln cn) ∧ w'.cell? ⟨g, 5, none⟩ = some (.slice (some ⟨gd, 0, none⟩) ld cd) ∧ w'.cell? ⟨gd, k * 2 + 1, none⟩ = some (.slice (some ⟨go, 0, none⟩) lo co) ∧ w'.cell? ⟨go, q, none⟩ = some (.int .i64 (a : Int)) ∧ w'.cell? ⟨gn, a * 2, none⟩ = some (.string xn)) (go_keep) (fail)
          go_step
          go_wp2_with fail
          exact ⟨⟨q + 1, _, by omega, by go_num, rfl, HNX2.out, HBQ.out.drew⟩, by simp [intOf]; omega⟩
        · obtain rfl : lo = q := by omega
          have hall : og.take lo = og := by rw [← HLO.out]; exact List.take_length
          rw [hall] at hS2 hz2
          have a1 : ¬ (9223372036854775807 < S2.size + 2) := by omega
          have hS3 := hS2.app ⟨#[59, 10]⟩
          have HS3 := Lib.hid hS3
          have HBQ := Lib.hid hbq
          clear hall hS2 hz2 hS3 hbq hl1
          go_wp2_with fail
          go_roundw
          case rel => exact ⟨k + 1, _, by omega, by go_num, rfl, HS3.out.to (by rw [HNX.out]; simp), HBW.out.trans (HBQ.out.mono HBW.out.size), HBX.out.up HBQ.out⟩
          case measure => simp [intOf]; omega
    · obtain rfl : ld = k := by omega
      have hall : (p.dests.take ld) = p.dests := by rw [← HP.out.ld]; exact List.take_length
      rw [hall] at hS
      have HTX2 : Hid (textB p = (T ++ p.dests.flatMap (fun d => lineS (destW p.nodes d))) ++ p.checks.flatMap (fun c => lineS (checkW p.nodes p.dests c))) := Lib.hid (by rw [HTX.out, List.append_assoc])
      obtain ⟨d0, d1, d2, d3, d4, d5, d6⟩ := box7 hbox
      clear hall
      repeat (first | exact print_checks HP HS HT _ hbw g hbox S _ hS HTX2 HTL _ _ _ _ _ _ _ _ _ _ _ _ _ _ _ _ _ _ _ _ _ _ _ _ _ _ _ _ _ _ _ _ _ _ _ _ _ _ _ _ _ _ _ _ _ _ _ _ _ _ _ _ _ _ _ _ _ _ _ _ _ _ _ _ _ _ _ _ _ _ _ _ _ _ _ _ _ _ _ _ _ _ _ _ _ _ _ _ _ _ _ _ _ _ _ _ _ _ _ _ _ _ _ _ _ _ _ _ _ _ _ _ _ _ _ _ _ _ _ _ _ _ _ _ _ _ _ _ _ _ _ _ _ _ _ _ _ _ _ _ _ _ _ _ _ _ _ _ _ _ _ _ _ _ _ _ _ | go_values | go_skip | go_guarded | go_step | go_upon)
      done
end Go.Proofs.YtdmilbfdiebjgaaDoor
