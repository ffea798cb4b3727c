/-
  Wild: a check with two numbers drawn.
-/
import Derived.Test.YtdmilbfdiebjgaaDoorPlXd
import Derived.Maps.AppendAt
namespace Go.Proofs.YtdmilbfdiebjgaaDoor
open Go.RowKit
set_option linter.unusedVariables false
set_option linter.unusedSimpArgs false

set_option maxHeartbeats 8000000 in
set_option maxRecDepth 100000 in
theorem wild_11 {w : World} {sb pb : Nat} {l : List Int} {vn vl vd vc : Value} {wr : World} {p : PPlan} (hst : NetSt w sb pb l p.proto p.cap p.k vn vl vd vc p.nodes p.links p.dests p.checks wr) (hok : SrcOk l) (hp : NetOk p) (kv : Int) (hkv : kv < 100 ∨ 65535 < kv) (iv : Nat) (hiv : iv < p.nodes.length) (nm : ByteArray) (hnm : nm.size ≤ 13)
    (u0 u1 u9 u10 u11 u12 u13 u14 u15 u16 u17 u18 u19 u20 u21 u22 u23 u24 u25 u26 u27 u28 u29 u30 u31 u32 u33 u34 u35 u36 u37 u38 u39 u40 u41 u42 u43 u44 u45 u46 u47 u48 u49 u50 u51 u52 u53 u54 u55 u56 u57 u58 u59 u60 u61 u62 u63 u64 u65 u66 u67 u68 u69 u70 u71 u72 u73 u74 u75 u76 u77 u78 u79 u80 u81 u82 u83 u84 u85 u86 u87 u88 u89 u90 u91 u92 u93 u94 u95 u96 u97 u98 u99 u100 u101 u102 u103 u104 u105 u106 u107 u108 u109 u110 u111 u112 u113 u114 u115 u116 u117 u118 u119 u120 u121 u122 u123 u124 u125 u126 u127 u128 u129 u130 u131 u132 u133 u134 u135 u136 u137 u138 u139 u140 u141 u142 u143 u144 u145 u146 u147 u148 u149 u150 u151 u152 u153 u154 u155 : Value) :
    Code.wp Tryd.prog (wildC [true, true, true, true, true, true, true, true]) (bodyPost Tryd.prog Tryd.f5 (WildAs w)) ⟨List.toArray (u0 :: u1 :: .pointer (some ⟨w.heap.size, 0, none⟩) :: .pointer (some ⟨pb, 0, none⟩) :: .pointer (some ⟨sb, 0, none⟩) :: .int .i64 11 :: .int .i64 kv :: .int .i64 (iv : Int) :: .string nm :: u9 :: u10 :: u11 :: u12 :: u13 :: u14 :: u15 :: u16 :: u17 :: u18 :: u19 :: u20 :: u21 :: u22 :: u23 :: u24 :: u25 :: u26 :: u27 :: u28 :: u29 :: u30 :: u31 :: u32 :: u33 :: u34 :: u35 :: u36 :: u37 :: u38 :: u39 :: u40 :: u41 :: u42 :: u43 :: u44 :: u45 :: u46 :: u47 :: u48 :: u49 :: u50 :: u51 :: u52 :: u53 :: u54 :: u55 :: u56 :: u57 :: u58 :: u59 :: u60 :: u61 :: u62 :: u63 :: u64 :: u65 :: u66 :: u67 :: u68 :: u69 :: u70 :: u71 :: u72 :: u73 :: u74 :: u75 :: u76 :: u77 :: u78 :: u79 :: u80 :: u81 :: u82 :: u83 :: u84 :: u85 :: u86 :: u87 :: u88 :: u89 :: u90 :: u91 :: u92 :: u93 :: u94 :: u95 :: u96 :: u97 :: u98 :: u99 :: u100 :: u101 :: u102 :: u103 :: u104 :: u105 :: u106 :: u107 :: u108 :: u109 :: u110 :: u111 :: u112 :: u113 :: u114 :: u115 :: u116 :: u117 :: u118 :: u119 :: u120 :: u121 :: u122 :: u123 :: u124 :: u125 :: u126 :: u127 :: u128 :: u129 :: u130 :: u131 :: u132 :: u133 :: u134 :: u135 :: u136 :: u137 :: u138 :: u139 :: u140 :: u141 :: u142 :: u143 :: u144 :: u145 :: u146 :: u147 :: u148 :: u149 :: u150 :: u151 :: u152 :: u153 :: u154 :: u155 :: []), []⟩ wr := by
  obtain ⟨q0, q1, q2, q3, q4, q5, q6⟩ := box7 hst.blk
  have f0 := hst.blk.frozen 0
  have f1 := hst.blk.frozen 1
  have f2 := hst.blk.frozen 2
  have f4 := hst.blk.frozen 4
  have f5 := hst.blk.frozen 5
  have f6 := hst.blk.frozen 6
  obtain ⟨Ac, cc, rfl, hcc⟩ := own_form hst.checks
  obtain ⟨iX, hiX, zX0, zX1, zX2⟩ := info_parts checkInfo
  have hl9 := hp.checks1
  obtain ⟨x1, HX1, bx1⟩ := ex_nx l 2 (by omega)
  obtain ⟨L1, HT1⟩ := ex_tail l
  obtain ⟨x2, HX2, bx2⟩ := ex_nx L1 2 (by omega)
  obtain ⟨L2, HT2⟩ := ex_tail L1
  obtain ⟨m, hm, hm4⟩ : ∃ m : Nat, (iv : Int) % 4 = (m : Int) ∧ m < 4 := ⟨iv % 4, by omega, by omega⟩
  have hn12 := hp.nodes1
  have tw : (iv : Int).tmod 4 = (m : Int) := by rw [Int.tmod_eq_emod_of_nonneg (by omega)]; exact hm
  have ww2 : IntKind.i64.wrap (m : Int) = (m : Int) := IntWalk.i64_in _ (by omega)
  have ww3 : IntKind.i64.wrap (1 + (m : Int)) = 1 + (m : Int) := IntWalk.i64_in _ (by omega)
  have hst0 := hst.up ((Below.refl _ wr).drew)
  have hok0 := hok
  have q60 := hst0.blk.cell 6
  have HONE : Hid (∀ u ∈ [Value.int .i64 (1 + (m : Int)), Value.int .i64 kv, Value.int .i64 0, Value.int .i64 (x1 : Int), Value.int .i64 (x2 : Int)], u.oneCell' = true) := Lib.hid (by simp [Value.oneCell'])
  have HMX : Hid (p.checks.length + 1 ≤ maxLen) := Lib.hid (by unfold maxLen; omega)
  have HBY : Hid ((p.checks.length + 1) * 40 ≤ 140737488355328) := Lib.hid (by omega)
  have hfc := fine_check hp ⟨1 + (m : Int), kv, 0, (x1 : Int), (x2 : Int)⟩ (by dsimp only; omega)
  clear hst q0 q1 q2 q3 q4 q5
  conv => arg 2; whnf
  go_upto_region 33 with (fail)
  go_region_law (first
    | ((go_simp; go_at_call 17; (with_reducible refine (next_st 2 2 x2 L2 HX2 HT2 hst1 hok1 rfl (by omega) (by omega)).mono ?_); rintro e wz2 ⟨rfl, hst2, hok2, -⟩; have q62 := hst2.blk.cell 6; have q6o2 := fun o => (hst2.blk.alloc o).cell 6))
    | ((go_simp; go_at_call 17; (with_reducible refine (next_st 2 2 x1 L1 HX1 HT1 hst0 hok0 rfl (by omega) (by omega)).mono ?_); rintro e wz1 ⟨rfl, hst1, hok1, -⟩; have q61 := hst1.blk.cell 6; have q6o1 := fun o => (hst1.blk.alloc o).cell 6))
    | (refine step_append_lies _ rfl (.tmp 128) (.tmp 138) 27 rfl w.heap.size 51 iX (.agg #[.int .i64 0, .int .i64 0, .int .i64 0, .int .i64 0, .int .i64 0]) 5 40 Tryd.underlying27 hiX zX0 zX1 zX2 rfl (by decide) (.slice Ac p.checks.length cc) p.checks.length _ (by first | rfl | (apply rfl)) (hst2.up (below_new _ (.cells #[.int .i64 (1 + (m : Int)), .int .i64 kv, .int .i64 0, .int .i64 (x1 : Int), .int .i64 (x2 : Int)] 51))).checks ⟨wz2.heap.size, 0, none⟩ 1 1 [.int .i64 (1 + (m : Int)), .int .i64 kv, .int .i64 0, .int .i64 (x1 : Int), .int .i64 (x2 : Int)] (by first | rfl | (apply rfl)) (by first | rfl | (apply rfl)) (World.news_of_block (cs := #[.int .i64 (1 + (m : Int)), .int .i64 kv, .int .i64 0, .int .i64 (x1 : Int), .int .i64 (x2 : Int)]) (t := 51) (fr := (0, 0)) (heap_alloc_new _ _)) HONE.out Nat.zero_lt_one HMX.out HBY.out (Nat.le_trans hst2.lt (below_new _ _).size) (wz2.heap.size + 1) (World.size_alloc _ _) ?_; intro gg cap w6 hown6 hgrow6 hat6 hlt6; have hb6 := (hst2.up (below_new wz2 (.cells #[.int .i64 (1 + (m : Int)), .int .i64 kv, .int .i64 0, .int .i64 (x1 : Int), .int .i64 (x2 : Int)] 51))).pbOf (hst2.up (below_new _ (.cells #[.int .i64 (1 + (m : Int)), .int .i64 kv, .int .i64 0, .int .i64 (x1 : Int), .int .i64 (x2 : Int)] 51))).checks (by decide) hgrow6; have q6 := hb6.cell 6; have f6 := hb6.frozen 6))
  all_goals
    have hN := (hst2.up (below_new wz2 (.cells #[.int .i64 (1 + (m : Int)), .int .i64 kv, .int .i64 0, .int .i64 (x1 : Int), .int .i64 (x2 : Int)] 51))).pushCheck (x := ⟨1 + (m : Int), kv, 0, (x1 : Int), (x2 : Int)⟩) hown6 hgrow6
    repeat (first | exact wild_end hN hfc _ _ _ _ _ _ _ _ _ _ _ _ _ _ _ _ _ _ _ _ _ _ _ _ _ _ _ _ _ _ _ _ _ _ _ _ _ _ _ _ _ _ _ _ _ _ _ _ _ _ _ _ _ _ _ _ _ _ _ _ _ _ _ _ _ _ _ _ _ _ _ _ _ _ _ _ _ _ _ _ _ _ _ _ _ _ _ _ _ _ _ _ _ _ _ _ _ _ _ _ _ _ _ _ _ _ _ _ _ _ _ _ _ _ _ _ _ _ _ _ _ _ _ _ _ _ _ _ _ _ _ _ _ _ _ _ _ _ _ _ _ _ _ _ _ _ _ _ _ _ _ _ _ _ | go_values | go_skip | go_guarded | go_step | go_upon)
    done
end Go.Proofs.YtdmilbfdiebjgaaDoor
