/-
  The document's own Print: its nodes' lines; the whole.
-/
import Derived.Test.YtdmilbfdiebjgaaDoorPlUn
namespace Go.Proofs.YtdmilbfdiebjgaaDoor
open Go.RowKit
set_option linter.unusedVariables false
set_option linter.unusedSimpArgs false

set_option maxHeartbeats 8000000 in
set_option maxRecDepth 100000 in
theorem print_nodes {p : PPlan} {pr ca kk : Int} {An Al Ad Ac : Option Addr} {ln cn ll cl ld cd lc cc : Nat} {w : World} (HP : Hid (PAt w p pr ca kk An ln Al ll Ad ld Ac lc)) (HS : Hid (PSmall p)) (HT : Hid (PTiny p)) (W : World) (hbw : Below w.heap.size w W) (g : Nat) (hbox : Blk W g 29 #[.int .i64 pr, .int .i64 ca, .int .i64 kk, .slice An ln cn, .slice Al ll cl, .slice Ad ld cd, .slice Ac lc cc]) (S : ByteArray) (T : List UInt8) (hS : StrIs S T) (HTX : Hid (textB p = T ++ (p.nodes.flatMap (fun n => lineS (nodeW n)) ++ (p.links.flatMap (fun l => lineS (linkW p.nodes l)) ++ (p.dests.flatMap (fun d => lineS (destW p.nodes d)) ++ p.checks.flatMap (fun c => lineS (checkW p.nodes p.dests c))))))) (HTL : Hid ((textB p).length ≤ 140737488355328))
    (u0 u2 u3 u4 u6 u7 u8 u9 u10 u11 u12 u13 u14 u15 u16 u17 u18 u19 u20 u21 u22 u23 u24 u25 u26 u27 u28 u29 u30 u31 u32 u33 u34 u35 u36 u37 u38 u39 u40 u41 u42 u43 u44 u45 u46 u47 u48 u49 u50 u51 u52 u53 u54 u55 u56 u57 u58 u59 u60 u61 u62 u63 u64 u65 u66 u67 u68 u69 u70 u71 u72 u73 u74 u75 u76 u77 u78 u79 u80 u81 u82 u83 u84 u85 u86 u87 u88 u89 u90 u91 u92 u93 u94 u95 u96 u97 u98 u99 u100 u101 u102 u103 u104 u105 u106 u107 u108 u109 u110 u111 u112 u113 u114 u115 u116 u117 u118 u119 u120 u121 u122 u123 u124 u125 u126 u127 u128 u129 u130 u131 u132 u133 u134 u135 u136 u137 u138 u139 u140 u141 u142 u143 u144 u145 u146 u147 u148 u149 u150 u151 u152 u153 u154 u155 u156 u157 u158 : Value) :
    Code.wp Tryd.prog (refPrintC [true, true, true, true, true, true]) (bodyPost Tryd.prog Tryd.f8 (fun e w' => e = .returned (.tuple #[.string ⟨(textB p).toArray⟩, .int .i64 0]) ∧ Below w.heap.size w w')) ⟨List.toArray (u0 :: .pointer (some ⟨g, 0, none⟩) :: u2 :: u3 :: u4 :: .string S :: u6 :: u7 :: u8 :: u9 :: u10 :: u11 :: u12 :: u13 :: u14 :: u15 :: u16 :: u17 :: u18 :: u19 :: u20 :: u21 :: u22 :: u23 :: u24 :: u25 :: u26 :: u27 :: u28 :: u29 :: u30 :: u31 :: u32 :: u33 :: u34 :: u35 :: u36 :: u37 :: u38 :: u39 :: u40 :: u41 :: u42 :: u43 :: u44 :: u45 :: u46 :: u47 :: u48 :: u49 :: u50 :: u51 :: u52 :: u53 :: u54 :: u55 :: u56 :: u57 :: u58 :: u59 :: u60 :: u61 :: u62 :: u63 :: u64 :: u65 :: u66 :: u67 :: u68 :: u69 :: u70 :: u71 :: u72 :: u73 :: u74 :: u75 :: u76 :: u77 :: u78 :: u79 :: u80 :: u81 :: u82 :: u83 :: u84 :: u85 :: u86 :: u87 :: u88 :: u89 :: u90 :: u91 :: u92 :: u93 :: u94 :: u95 :: u96 :: u97 :: u98 :: u99 :: u100 :: u101 :: u102 :: u103 :: u104 :: u105 :: u106 :: u107 :: u108 :: u109 :: u110 :: u111 :: u112 :: u113 :: u114 :: u115 :: u116 :: u117 :: u118 :: u119 :: u120 :: u121 :: u122 :: u123 :: u124 :: u125 :: u126 :: u127 :: u128 :: u129 :: u130 :: u131 :: u132 :: u133 :: u134 :: u135 :: u136 :: u137 :: u138 :: u139 :: u140 :: u141 :: u142 :: u143 :: u144 :: u145 :: u146 :: u147 :: u148 :: u149 :: u150 :: u151 :: u152 :: u153 :: u154 :: u155 :: u156 :: u157 :: u158 :: []), []⟩ W := by
  conv => arg 2; whnf
  repeat (first | go_values | go_skip | go_guarded | go_step | go_upon)
  obtain ⟨d0, d1, d2, d3, d4, d5, d6⟩ := box7 hbox
  have s1 := HS.out.ln
  rw [HP.out.ln] at s1
  go_loopw [5, 6] (fun s5 s6 wr => ∃ (k : Nat) (S : ByteArray), k ≤ ln ∧ s6 = .int .i64 (k : Nat) ∧ s5 = .string S ∧ StrIs S (T ++ (p.nodes.take k).flatMap (fun n => lineS (nodeW n))) ∧ Below w.heap.size w wr ∧ Blk wr g 29 #[.int .i64 pr, .int .i64 ca, .int .i64 kk, .slice An ln cn, .slice Al ll cl, .slice Ad ld cd, .slice Ac lc cc]) (fun _ s6 _ => ln - (intOf s6).toNat)
  case atStart => exact ⟨0, S, Nat.zero_le _, rfl, rfl, hS.to (by simp), hbw, hbox⟩
  case round =>
    clear d0 d1 d2 d3 d4 d5 d6 hbw hbox hS
    obtain ⟨k, S, hk, rfl, rfl, hS, hbw, hbox⟩ := hrel
    by_cases hlt : k < ln
    · obtain ⟨⟨nm, num⟩, hn⟩ : ∃ n, p.nodes[k]? = some n := ⟨_, List.getElem?_eq_getElem (by rw [HP.out.ln]; exact hlt)⟩
      obtain ⟨m, hm, hm2⟩ := HT.out.nodes _ (List.mem_of_getElem? hn)
      replace hm : num = (m : Int) := hm
      subst hm
      have hx := HP.out.up hbw
      obtain ⟨gn, rfl, hgn, c0, c1⟩ := hx.nodes.node hn
      try dsimp only at c0 c1
      have hfl := flat_le (fun n => lineS (nodeW n)) p.nodes k _ hn
      have hft := flat_take (fun n => lineS (nodeW n)) p.nodes k _ hn
      try dsimp only at hfl hft
      have hsz := node_size hS nm m (by omega)
      have hnx := node_next hS nm m (by omega)
      rw [List.append_assoc, ← hft] at hnx
      have htl := HTL.out
      rw [HTX.out, List.length_append, List.length_append] at htl
      rw [List.length_append] at hsz
      have a1 : ¬ (9223372036854775807 < S.size + 5) := by omega
      have a2 : ¬ (9223372036854775807 < S.size + 5 + nm.size) := by omega
      have a3 : ¬ (9223372036854775807 < S.size + 5 + nm.size + 1) := by omega
      have a4 : ¬ (9223372036854775807 < S.size + 5 + nm.size + 1 + (decS 20 m).size) := by omega
      have a5 : ¬ (9223372036854775807 < S.size + 5 + nm.size + 1 + (decS 20 m).size + 2) := by omega
      have HNX := Lib.hid hnx
      have k0 : (0 : Int) ≤ (k : Int) := by omega
      have k1 : (k : Int) < (ln : Int) := by omega
      have hbd := hbox.up ((Below.refl _ wr).drew)
      obtain ⟨d0, d1, d2, d3, d4, d5, d6⟩ := box7 hbox
      have HBW := Lib.hid hbw
      clear hn hfl hft hsz hnx htl hx hbw hS hbox
      go_upto_region 11 with (fail)
      go_region_held3 (fun w' => w'.cell? ⟨g, 3, none⟩ = some (.slice (some ⟨gn, 0, none⟩) ln cn) ∧ w'.cell? ⟨gn, k * 2, none⟩ = some (.string nm) ∧ w'.cell? ⟨gn, k * 2 + 1, none⟩ = some (.int .i64 (m : Int))) (go_keep) (first
        | (go_at_call 24; (with_reducible refine (RefDigits_is m (by omega) _).mono ?_); rintro e w4 ⟨rfl, hb4⟩; have hb5 := hbd.up hb4; obtain ⟨d0, d1, d2, d3, d4, d5, d6⟩ := box7 hb5; have n0b := (hb4.cell (p := ⟨gn, k * 2, none⟩) hgn).trans c0; have n1b := (hb4.cell (p := ⟨gn, k * 2 + 1, none⟩) hgn).trans c1))
      go_step
      go_wp2_with fail
      exact ⟨⟨k + 1, _, by omega, by go_num, rfl, HNX.out, HBW.out.drew.trans (hb4.mono HBW.out.drew.size), hb5⟩, by simp [intOf]; omega⟩
    · obtain rfl : ln = k := by omega
      have hall : (p.nodes.take ln) = p.nodes := by rw [← HP.out.ln]; exact List.take_length
      rw [hall] at hS
      have HTX2 : Hid (textB p = (T ++ p.nodes.flatMap (fun n => lineS (nodeW n))) ++ (p.links.flatMap (fun l => lineS (linkW p.nodes l)) ++ (p.dests.flatMap (fun d => lineS (destW p.nodes d)) ++ p.checks.flatMap (fun c => lineS (checkW p.nodes p.dests c))))) := Lib.hid (by rw [HTX.out, List.append_assoc])
      obtain ⟨d0, d1, d2, d3, d4, d5, d6⟩ := box7 hbox
      clear hall
      repeat (first | exact print_links HP HS HT _ hbw g hbox S _ hS HTX2 HTL _ _ _ _ _ _ _ _ _ _ _ _ _ _ _ _ _ _ _ _ _ _ _ _ _ _ _ _ _ _ _ _ _ _ _ _ _ _ _ _ _ _ _ _ _ _ _ _ _ _ _ _ _ _ _ _ _ _ _ _ _ _ _ _ _ _ _ _ _ _ _ _ _ _ _ _ _ _ _ _ _ _ _ _ _ _ _ _ _ _ _ _ _ _ _ _ _ _ _ _ _ _ _ _ _ _ _ _ _ _ _ _ _ _ _ _ _ _ _ _ _ _ _ _ _ _ _ _ _ _ _ _ _ _ _ _ _ _ _ _ _ _ _ _ _ _ _ _ _ _ _ _ _ _ _ _ _ | go_values | go_skip | go_guarded | go_step | go_upon)
      done
end Go.Proofs.YtdmilbfdiebjgaaDoor
