/-
  The law's Net: its fourth loop.
-/
import Derived.Test.YtdmilbfdiebjgaaDoorPlWa
import Derived.Test.YtdmilbfdiebjgaaDoorPlWb
namespace Go.Proofs.YtdmilbfdiebjgaaDoor
open Go.RowKit
set_option linter.unusedVariables false

set_option maxHeartbeats 4000000 in
set_option maxRecDepth 100000 in
theorem net_p46 (w wr : World) (L3 : List Int) (v4 kd nd dx b : Nat) (pr ca K0 : Int) (vn vl vd vc : Value) (ns : List PNode) (ls : List PLink) (ds : List PDest) (cs : List PCheck) (bk1 : kd < 4)
    (hst : ChkSt w (w.heap.size + 1) (w.heap.size + 1 + 1) L3 pr ca K0 vn vl vd vc ns ls ds cs b (1 + (kd : Int)) nd dx 0 0 wr)
    (K : Act → World → Prop) (c17 : Value) (u0 u1 u5 u7 u8 u9 u10 u11 u12 u13 u14 u15 u16 u19 u20 u21 u22 u23 u24 u25 u26 u27 u28 u29 u30 u31 u32 u33 u34 u35 u36 u37 u38 u39 u40 u41 u42 u43 u44 u45 u46 u47 u48 u49 u50 u51 u52 u53 u54 u55 u56 u57 u58 u59 u60 u61 u62 u63 u64 u65 u66 u67 u68 u69 u70 u71 u72 u73 u74 u75 u76 u77 u78 u79 u80 u81 u82 u83 u84 u85 u86 u87 u88 u89 u90 u91 u92 u93 u94 u95 u96 u97 u98 u99 u100 u101 u102 u103 u104 u105 u106 u107 u108 u109 u110 u111 u112 u113 u114 u115 u116 u117 u118 u119 u120 u121 u122 u123 u124 u125 u126 u127 u128 u129 u130 u131 u132 u133 u134 u135 u136 u137 u138 u139 u140 u141 u142 u143 u144 u145 u146 u147 u148 u149 u150 u151 u152 u153 u154 u155 u156 u157 u158 u159 u160 u161 u162 u163 u164 u165 u166 u167 u168 u169 u170 u171 u172 u173 u174 u175 u176 u177 u178 u179 u180 u181 u182 u183 u184 u185 u186 u187 u188 u189 u190 u191 u192 u193 u194 u195 u196 u197 u198 u199 u200 u201 u202 u203 u204 u205 u206 u207 u208 u209 u210 u211 u212 u213 u214 u215 u216 u217 u218 u219 u220 u221 u222 u223 u224 u225 u226 : Value)
    (hK : ∀ (wx : World) (u202 u203 u204 u205 u206 u207 : Value), (∃ (li : Int) (L4 : List Int), Hid (limG kd L3 = (li, L4)) ∧ ChkSt w (w.heap.size + 1) (w.heap.size + 1 + 1) L4 pr ca K0 vn vl vd vc ns ls ds cs b (1 + (kd : Int)) nd dx li 0 wx) → K ⟨List.toArray (u0 :: u1 :: .pointer (some ⟨w.heap.size, 0, none⟩) :: .pointer (some ⟨w.heap.size + 1, 0, none⟩) :: .pointer (some ⟨w.heap.size + 1 + 1, 0, none⟩) :: u5 :: .int .i64 (2 + (v4 : Int)) :: u7 :: u8 :: u9 :: u10 :: u11 :: u12 :: u13 :: u14 :: u15 :: u16 :: c17 :: .pointer (some ⟨b, 0, none⟩) :: u19 :: u20 :: u21 :: u22 :: u23 :: u24 :: u25 :: u26 :: u27 :: u28 :: u29 :: u30 :: u31 :: u32 :: u33 :: u34 :: u35 :: u36 :: u37 :: u38 :: u39 :: u40 :: u41 :: u42 :: u43 :: u44 :: u45 :: u46 :: u47 :: u48 :: u49 :: u50 :: u51 :: u52 :: u53 :: u54 :: u55 :: u56 :: u57 :: u58 :: u59 :: u60 :: u61 :: u62 :: u63 :: u64 :: u65 :: u66 :: u67 :: u68 :: u69 :: u70 :: u71 :: u72 :: u73 :: u74 :: u75 :: u76 :: u77 :: u78 :: u79 :: u80 :: u81 :: u82 :: u83 :: u84 :: u85 :: u86 :: u87 :: u88 :: u89 :: u90 :: u91 :: u92 :: u93 :: u94 :: u95 :: u96 :: u97 :: u98 :: u99 :: u100 :: u101 :: u102 :: u103 :: u104 :: u105 :: u106 :: u107 :: u108 :: u109 :: u110 :: u111 :: u112 :: u113 :: u114 :: u115 :: u116 :: u117 :: u118 :: u119 :: u120 :: u121 :: u122 :: u123 :: u124 :: u125 :: u126 :: u127 :: u128 :: u129 :: u130 :: u131 :: u132 :: u133 :: u134 :: u135 :: u136 :: u137 :: u138 :: u139 :: u140 :: u141 :: u142 :: u143 :: u144 :: u145 :: u146 :: u147 :: u148 :: u149 :: u150 :: u151 :: u152 :: u153 :: u154 :: u155 :: u156 :: u157 :: u158 :: u159 :: u160 :: u161 :: u162 :: u163 :: u164 :: u165 :: u166 :: u167 :: u168 :: u169 :: u170 :: u171 :: u172 :: u173 :: u174 :: u175 :: u176 :: u177 :: u178 :: u179 :: u180 :: u181 :: u182 :: u183 :: u184 :: u185 :: u186 :: u187 :: u188 :: u189 :: u190 :: u191 :: u192 :: u193 :: u194 :: u195 :: u196 :: u197 :: u198 :: u199 :: u200 :: u201 :: u202 :: u203 :: u204 :: u205 :: u206 :: u207 :: u208 :: u209 :: u210 :: u211 :: u212 :: u213 :: u214 :: u215 :: u216 :: u217 :: u218 :: u219 :: u220 :: u221 :: u222 :: u223 :: u224 :: u225 :: u226 :: []), []⟩ wx) :
    Code.wp Tryd.prog (netC [true, true, true, true, true, true, true, true, true, true, true, true, true, false, true, false, false, true, false, false, true, false]) (Exit.then K NoExit) ⟨List.toArray (u0 :: u1 :: .pointer (some ⟨w.heap.size, 0, none⟩) :: .pointer (some ⟨w.heap.size + 1, 0, none⟩) :: .pointer (some ⟨w.heap.size + 1 + 1, 0, none⟩) :: u5 :: .int .i64 (2 + (v4 : Int)) :: u7 :: u8 :: u9 :: u10 :: u11 :: u12 :: u13 :: u14 :: u15 :: u16 :: c17 :: .pointer (some ⟨b, 0, none⟩) :: u19 :: u20 :: u21 :: u22 :: u23 :: u24 :: u25 :: u26 :: u27 :: u28 :: u29 :: u30 :: u31 :: u32 :: u33 :: u34 :: u35 :: u36 :: u37 :: u38 :: u39 :: u40 :: u41 :: u42 :: u43 :: u44 :: u45 :: u46 :: u47 :: u48 :: u49 :: u50 :: u51 :: u52 :: u53 :: u54 :: u55 :: u56 :: u57 :: u58 :: u59 :: u60 :: u61 :: u62 :: u63 :: u64 :: u65 :: u66 :: u67 :: u68 :: u69 :: u70 :: u71 :: u72 :: u73 :: u74 :: u75 :: u76 :: u77 :: u78 :: u79 :: u80 :: u81 :: u82 :: u83 :: u84 :: u85 :: u86 :: u87 :: u88 :: u89 :: u90 :: u91 :: u92 :: u93 :: u94 :: u95 :: u96 :: u97 :: u98 :: u99 :: u100 :: u101 :: u102 :: u103 :: u104 :: u105 :: u106 :: u107 :: u108 :: u109 :: u110 :: u111 :: u112 :: u113 :: u114 :: u115 :: u116 :: u117 :: u118 :: u119 :: u120 :: u121 :: u122 :: u123 :: u124 :: u125 :: u126 :: u127 :: u128 :: u129 :: u130 :: u131 :: u132 :: u133 :: u134 :: u135 :: u136 :: u137 :: u138 :: u139 :: u140 :: u141 :: u142 :: u143 :: u144 :: u145 :: u146 :: u147 :: u148 :: u149 :: u150 :: u151 :: u152 :: u153 :: u154 :: u155 :: u156 :: u157 :: u158 :: u159 :: u160 :: u161 :: u162 :: u163 :: u164 :: u165 :: u166 :: u167 :: u168 :: u169 :: u170 :: u171 :: u172 :: u173 :: u174 :: u175 :: u176 :: u177 :: u178 :: u179 :: u180 :: u181 :: u182 :: u183 :: u184 :: u185 :: u186 :: u187 :: u188 :: u189 :: u190 :: u191 :: u192 :: u193 :: u194 :: u195 :: u196 :: u197 :: u198 :: u199 :: u200 :: u201 :: u202 :: u203 :: u204 :: u205 :: u206 :: u207 :: u208 :: u209 :: u210 :: u211 :: u212 :: u213 :: u214 :: u215 :: u216 :: u217 :: u218 :: u219 :: u220 :: u221 :: u222 :: u223 :: u224 :: u225 :: u226 :: []), []⟩ wr := by
  have s0 := hst.blk.cell 0
  conv => arg 2; whnf
  by_cases h1 : kd = 1
  · subst h1
    obtain ⟨li, HL, bl⟩ := ex_nx L3 20 (by omega)
    obtain ⟨L4, HT⟩ := ex_tail L3
    have HG : Hid (limG 1 L3 = ((li : Int), L4)) := Lib.hid (by unfold limG; rw [if_pos rfl, HL.out, HT.out])
    go_wp2_with ((go_at_call 17; (with_reducible refine (next_k 20 20 li L4 HL HT hst (by omega) (by omega) (by omega)).mono ?_); rintro e w1 ⟨rfl, hst1⟩; have s3 := hst1.blk.cell 3; have t3 := hst1.blk.frozen 3))
    exact ⟨_, _, HG, hst1.put 3 _ _ _ _ _ _ rfl⟩
  · have h2 : ¬ (1 + (kd : Int) = 2) := by omega
    have h3 : ((1 + (kd : Int)) == 2) = false := by simpa using h2
    have HG : Hid (limG kd L3 = (0, L3)) := Lib.hid (by unfold limG; rw [if_neg h1])
    clear h1
    go_wp2_with fail
    exact ⟨_, _, HG, hst⟩

set_option maxHeartbeats 4000000 in
set_option maxRecDepth 100000 in
theorem net_p48 (w wr : World) (L4 : List Int) (v4 kd nd dx b : Nat) (li : Int) (pr ca K0 : Int) (vn vl vd vc : Value) (ns : List PNode) (ls : List PLink) (ds : List PDest) (cs : List PCheck) (bk1 : kd < 4) (bv4 : v4 < 6)
    (hst : ChkSt w (w.heap.size + 1) (w.heap.size + 1 + 1) L4 pr ca K0 vn vl vd vc ns ls ds cs b (1 + (kd : Int)) nd dx li 0 wr)
    (K : Act → World → Prop) (c17 : Value) (u0 u1 u5 u7 u8 u9 u10 u11 u12 u13 u14 u15 u16 u19 u20 u21 u22 u23 u24 u25 u26 u27 u28 u29 u30 u31 u32 u33 u34 u35 u36 u37 u38 u39 u40 u41 u42 u43 u44 u45 u46 u47 u48 u49 u50 u51 u52 u53 u54 u55 u56 u57 u58 u59 u60 u61 u62 u63 u64 u65 u66 u67 u68 u69 u70 u71 u72 u73 u74 u75 u76 u77 u78 u79 u80 u81 u82 u83 u84 u85 u86 u87 u88 u89 u90 u91 u92 u93 u94 u95 u96 u97 u98 u99 u100 u101 u102 u103 u104 u105 u106 u107 u108 u109 u110 u111 u112 u113 u114 u115 u116 u117 u118 u119 u120 u121 u122 u123 u124 u125 u126 u127 u128 u129 u130 u131 u132 u133 u134 u135 u136 u137 u138 u139 u140 u141 u142 u143 u144 u145 u146 u147 u148 u149 u150 u151 u152 u153 u154 u155 u156 u157 u158 u159 u160 u161 u162 u163 u164 u165 u166 u167 u168 u169 u170 u171 u172 u173 u174 u175 u176 u177 u178 u179 u180 u181 u182 u183 u184 u185 u186 u187 u188 u189 u190 u191 u192 u193 u194 u195 u196 u197 u198 u199 u200 u201 u202 u203 u204 u205 u206 u207 u208 u209 u210 u211 u212 u213 u214 u215 u216 u217 u218 u219 u220 u221 u222 u223 u224 u225 u226 : Value)
    (hK : ∀ (wx : World) (u208 u209 u210 u211 u212 u213 u214 u215 u216 u217 u218 u219 : Value), (∃ (o : Int) (L5 : List Int), Hid (othG kd (2 + v4) L4 = (o, L5)) ∧ ChkSt w (w.heap.size + 1) (w.heap.size + 1 + 1) L5 pr ca K0 vn vl vd vc ns ls ds cs b (1 + (kd : Int)) nd dx li o wx) → K ⟨List.toArray (u0 :: u1 :: .pointer (some ⟨w.heap.size, 0, none⟩) :: .pointer (some ⟨w.heap.size + 1, 0, none⟩) :: .pointer (some ⟨w.heap.size + 1 + 1, 0, none⟩) :: u5 :: .int .i64 (2 + (v4 : Int)) :: u7 :: u8 :: u9 :: u10 :: u11 :: u12 :: u13 :: u14 :: u15 :: u16 :: c17 :: .pointer (some ⟨b, 0, none⟩) :: u19 :: u20 :: u21 :: u22 :: u23 :: u24 :: u25 :: u26 :: u27 :: u28 :: u29 :: u30 :: u31 :: u32 :: u33 :: u34 :: u35 :: u36 :: u37 :: u38 :: u39 :: u40 :: u41 :: u42 :: u43 :: u44 :: u45 :: u46 :: u47 :: u48 :: u49 :: u50 :: u51 :: u52 :: u53 :: u54 :: u55 :: u56 :: u57 :: u58 :: u59 :: u60 :: u61 :: u62 :: u63 :: u64 :: u65 :: u66 :: u67 :: u68 :: u69 :: u70 :: u71 :: u72 :: u73 :: u74 :: u75 :: u76 :: u77 :: u78 :: u79 :: u80 :: u81 :: u82 :: u83 :: u84 :: u85 :: u86 :: u87 :: u88 :: u89 :: u90 :: u91 :: u92 :: u93 :: u94 :: u95 :: u96 :: u97 :: u98 :: u99 :: u100 :: u101 :: u102 :: u103 :: u104 :: u105 :: u106 :: u107 :: u108 :: u109 :: u110 :: u111 :: u112 :: u113 :: u114 :: u115 :: u116 :: u117 :: u118 :: u119 :: u120 :: u121 :: u122 :: u123 :: u124 :: u125 :: u126 :: u127 :: u128 :: u129 :: u130 :: u131 :: u132 :: u133 :: u134 :: u135 :: u136 :: u137 :: u138 :: u139 :: u140 :: u141 :: u142 :: u143 :: u144 :: u145 :: u146 :: u147 :: u148 :: u149 :: u150 :: u151 :: u152 :: u153 :: u154 :: u155 :: u156 :: u157 :: u158 :: u159 :: u160 :: u161 :: u162 :: u163 :: u164 :: u165 :: u166 :: u167 :: u168 :: u169 :: u170 :: u171 :: u172 :: u173 :: u174 :: u175 :: u176 :: u177 :: u178 :: u179 :: u180 :: u181 :: u182 :: u183 :: u184 :: u185 :: u186 :: u187 :: u188 :: u189 :: u190 :: u191 :: u192 :: u193 :: u194 :: u195 :: u196 :: u197 :: u198 :: u199 :: u200 :: u201 :: u202 :: u203 :: u204 :: u205 :: u206 :: u207 :: u208 :: u209 :: u210 :: u211 :: u212 :: u213 :: u214 :: u215 :: u216 :: u217 :: u218 :: u219 :: u220 :: u221 :: u222 :: u223 :: u224 :: u225 :: u226 :: []), []⟩ wx) :
    Code.wp Tryd.prog (netC [true, true, true, true, true, true, true, true, true, true, true, true, true, false, true, false, false, true, false, false, true, true, false]) (Exit.then K NoExit) ⟨List.toArray (u0 :: u1 :: .pointer (some ⟨w.heap.size, 0, none⟩) :: .pointer (some ⟨w.heap.size + 1, 0, none⟩) :: .pointer (some ⟨w.heap.size + 1 + 1, 0, none⟩) :: u5 :: .int .i64 (2 + (v4 : Int)) :: u7 :: u8 :: u9 :: u10 :: u11 :: u12 :: u13 :: u14 :: u15 :: u16 :: c17 :: .pointer (some ⟨b, 0, none⟩) :: u19 :: u20 :: u21 :: u22 :: u23 :: u24 :: u25 :: u26 :: u27 :: u28 :: u29 :: u30 :: u31 :: u32 :: u33 :: u34 :: u35 :: u36 :: u37 :: u38 :: u39 :: u40 :: u41 :: u42 :: u43 :: u44 :: u45 :: u46 :: u47 :: u48 :: u49 :: u50 :: u51 :: u52 :: u53 :: u54 :: u55 :: u56 :: u57 :: u58 :: u59 :: u60 :: u61 :: u62 :: u63 :: u64 :: u65 :: u66 :: u67 :: u68 :: u69 :: u70 :: u71 :: u72 :: u73 :: u74 :: u75 :: u76 :: u77 :: u78 :: u79 :: u80 :: u81 :: u82 :: u83 :: u84 :: u85 :: u86 :: u87 :: u88 :: u89 :: u90 :: u91 :: u92 :: u93 :: u94 :: u95 :: u96 :: u97 :: u98 :: u99 :: u100 :: u101 :: u102 :: u103 :: u104 :: u105 :: u106 :: u107 :: u108 :: u109 :: u110 :: u111 :: u112 :: u113 :: u114 :: u115 :: u116 :: u117 :: u118 :: u119 :: u120 :: u121 :: u122 :: u123 :: u124 :: u125 :: u126 :: u127 :: u128 :: u129 :: u130 :: u131 :: u132 :: u133 :: u134 :: u135 :: u136 :: u137 :: u138 :: u139 :: u140 :: u141 :: u142 :: u143 :: u144 :: u145 :: u146 :: u147 :: u148 :: u149 :: u150 :: u151 :: u152 :: u153 :: u154 :: u155 :: u156 :: u157 :: u158 :: u159 :: u160 :: u161 :: u162 :: u163 :: u164 :: u165 :: u166 :: u167 :: u168 :: u169 :: u170 :: u171 :: u172 :: u173 :: u174 :: u175 :: u176 :: u177 :: u178 :: u179 :: u180 :: u181 :: u182 :: u183 :: u184 :: u185 :: u186 :: u187 :: u188 :: u189 :: u190 :: u191 :: u192 :: u193 :: u194 :: u195 :: u196 :: u197 :: u198 :: u199 :: u200 :: u201 :: u202 :: u203 :: u204 :: u205 :: u206 :: u207 :: u208 :: u209 :: u210 :: u211 :: u212 :: u213 :: u214 :: u215 :: u216 :: u217 :: u218 :: u219 :: u220 :: u221 :: u222 :: u223 :: u224 :: u225 :: u226 :: []), []⟩ wr := by
  have s0 := hst.blk.cell 0
  conv => arg 2; whnf
  by_cases h1 : 2 ≤ kd
  · obtain ⟨o, HL, bl⟩ := ex_nx L4 (2 + v4) (by omega)
    obtain ⟨L5, HT⟩ := ex_tail L4
    have HG : Hid (othG kd (2 + v4) L4 = ((o : Int), L5)) := Lib.hid (by unfold othG; rw [if_pos h1, HL.out, HT.out])
    have hk : kd = 2 ∨ kd = 3 := by omega
    clear h1
    rcases hk with h1 | h1
    all_goals
      subst h1
      go_wp2_with ((go_at_call 17; (with_reducible refine (next_k (2 + (v4 : Int)) (2 + v4) o L5 HL HT hst (by omega) (by omega) (by omega)).mono ?_); rintro e w1 ⟨rfl, hst1⟩; have s4 := hst1.blk.cell 4; have t4 := hst1.blk.frozen 4))
      exact ⟨_, _, HG, hst1.put 4 _ _ _ _ _ _ rfl⟩
  · have h2 : ¬ (1 + (kd : Int) = 3) := by omega
    have h3 : ((1 + (kd : Int)) == 3) = false := by simpa using h2
    have h4 : ¬ (1 + (kd : Int) = 4) := by omega
    have h5 : ((1 + (kd : Int)) == 4) = false := by simpa using h4
    have HG : Hid (othG kd (2 + v4) L4 = (0, L4)) := Lib.hid (by unfold othG; rw [if_neg h1])
    clear h1
    go_wp2_with fail
    exact ⟨_, _, HG, hst⟩
end Go.Proofs.YtdmilbfdiebjgaaDoor

namespace Go.Proofs.YtdmilbfdiebjgaaDoor
open Go.RowKit
set_option linter.unusedVariables false

set_option maxHeartbeats 4000000 in
set_option maxRecDepth 100000 in
theorem net_p50 (w wr : World) (L : List Int) (v4 b : Nat) (x0 x1 x2 x3 x4 : Int) (pr ca K0 : Int) (vn vl vd vc : Value) (ns : List PNode) (ls : List PLink) (ds : List PDest) (cs : List PCheck) (hcl : cs.length ≤ 6)
    (hst : ChkSt w (w.heap.size + 1) (w.heap.size + 1 + 1) L pr ca K0 vn vl vd vc ns ls ds cs b x0 x1 x2 x3 x4 wr)
    (Q : Exit → Act → World → Prop) (c17 : Value) (u0 u1 u5 u7 u8 u9 u10 u11 u12 u13 u14 u15 u16 u19 u20 u21 u22 u23 u24 u25 u26 u27 u28 u29 u30 u31 u32 u33 u34 u35 u36 u37 u38 u39 u40 u41 u42 u43 u44 u45 u46 u47 u48 u49 u50 u51 u52 u53 u54 u55 u56 u57 u58 u59 u60 u61 u62 u63 u64 u65 u66 u67 u68 u69 u70 u71 u72 u73 u74 u75 u76 u77 u78 u79 u80 u81 u82 u83 u84 u85 u86 u87 u88 u89 u90 u91 u92 u93 u94 u95 u96 u97 u98 u99 u100 u101 u102 u103 u104 u105 u106 u107 u108 u109 u110 u111 u112 u113 u114 u115 u116 u117 u118 u119 u120 u121 u122 u123 u124 u125 u126 u127 u128 u129 u130 u131 u132 u133 u134 u135 u136 u137 u138 u139 u140 u141 u142 u143 u144 u145 u146 u147 u148 u149 u150 u151 u152 u153 u154 u155 u156 u157 u158 u159 u160 u161 u162 u163 u164 u165 u166 u167 u168 u169 u170 u171 u172 u173 u174 u175 u176 u177 u178 u179 u180 u181 u182 u183 u184 u185 u186 u187 u188 u189 u190 u191 u192 u193 u194 u195 u196 u197 u198 u199 u200 u201 u202 u203 u204 u205 u206 u207 u208 u209 u210 u211 u212 u213 u214 u215 u216 u217 u218 u219 u220 u221 u222 u223 u224 u225 u226 : Value)
    (hK : ∀ (wx : World) (u220 u221 u222 u223 u224 u225 : Value), (∃ (vc' : Value), NetSt w (w.heap.size + 1) (w.heap.size + 1 + 1) L pr ca K0 vn vl vd vc' ns ls ds (cs ++ [⟨x0, x1, x2, x3, x4⟩]) wx ∧ SrcOk L) → Q .normal ⟨List.toArray (u0 :: u1 :: .pointer (some ⟨w.heap.size, 0, none⟩) :: .pointer (some ⟨w.heap.size + 1, 0, none⟩) :: .pointer (some ⟨w.heap.size + 1 + 1, 0, none⟩) :: u5 :: .int .i64 (2 + (v4 : Int)) :: u7 :: u8 :: u9 :: u10 :: u11 :: u12 :: u13 :: u14 :: u15 :: u16 :: c17 :: .pointer (some ⟨b, 0, none⟩) :: u19 :: u20 :: u21 :: u22 :: u23 :: u24 :: u25 :: u26 :: u27 :: u28 :: u29 :: u30 :: u31 :: u32 :: u33 :: u34 :: u35 :: u36 :: u37 :: u38 :: u39 :: u40 :: u41 :: u42 :: u43 :: u44 :: u45 :: u46 :: u47 :: u48 :: u49 :: u50 :: u51 :: u52 :: u53 :: u54 :: u55 :: u56 :: u57 :: u58 :: u59 :: u60 :: u61 :: u62 :: u63 :: u64 :: u65 :: u66 :: u67 :: u68 :: u69 :: u70 :: u71 :: u72 :: u73 :: u74 :: u75 :: u76 :: u77 :: u78 :: u79 :: u80 :: u81 :: u82 :: u83 :: u84 :: u85 :: u86 :: u87 :: u88 :: u89 :: u90 :: u91 :: u92 :: u93 :: u94 :: u95 :: u96 :: u97 :: u98 :: u99 :: u100 :: u101 :: u102 :: u103 :: u104 :: u105 :: u106 :: u107 :: u108 :: u109 :: u110 :: u111 :: u112 :: u113 :: u114 :: u115 :: u116 :: u117 :: u118 :: u119 :: u120 :: u121 :: u122 :: u123 :: u124 :: u125 :: u126 :: u127 :: u128 :: u129 :: u130 :: u131 :: u132 :: u133 :: u134 :: u135 :: u136 :: u137 :: u138 :: u139 :: u140 :: u141 :: u142 :: u143 :: u144 :: u145 :: u146 :: u147 :: u148 :: u149 :: u150 :: u151 :: u152 :: u153 :: u154 :: u155 :: u156 :: u157 :: u158 :: u159 :: u160 :: u161 :: u162 :: u163 :: u164 :: u165 :: u166 :: u167 :: u168 :: u169 :: u170 :: u171 :: u172 :: u173 :: u174 :: u175 :: u176 :: u177 :: u178 :: u179 :: u180 :: u181 :: u182 :: u183 :: u184 :: u185 :: u186 :: u187 :: u188 :: u189 :: u190 :: u191 :: u192 :: u193 :: u194 :: u195 :: u196 :: u197 :: u198 :: u199 :: u200 :: u201 :: u202 :: u203 :: u204 :: u205 :: u206 :: u207 :: u208 :: u209 :: u210 :: u211 :: u212 :: u213 :: u214 :: u215 :: u216 :: u217 :: u218 :: u219 :: u220 :: u221 :: u222 :: u223 :: u224 :: u225 :: u226 :: []), []⟩ wx) :
    Code.wp Tryd.prog (netC [true, true, true, true, true, true, true, true, true, true, true, true, true, false, true, false, false, true, false, false, true, true, true]) Q ⟨List.toArray (u0 :: u1 :: .pointer (some ⟨w.heap.size, 0, none⟩) :: .pointer (some ⟨w.heap.size + 1, 0, none⟩) :: .pointer (some ⟨w.heap.size + 1 + 1, 0, none⟩) :: u5 :: .int .i64 (2 + (v4 : Int)) :: u7 :: u8 :: u9 :: u10 :: u11 :: u12 :: u13 :: u14 :: u15 :: u16 :: c17 :: .pointer (some ⟨b, 0, none⟩) :: u19 :: u20 :: u21 :: u22 :: u23 :: u24 :: u25 :: u26 :: u27 :: u28 :: u29 :: u30 :: u31 :: u32 :: u33 :: u34 :: u35 :: u36 :: u37 :: u38 :: u39 :: u40 :: u41 :: u42 :: u43 :: u44 :: u45 :: u46 :: u47 :: u48 :: u49 :: u50 :: u51 :: u52 :: u53 :: u54 :: u55 :: u56 :: u57 :: u58 :: u59 :: u60 :: u61 :: u62 :: u63 :: u64 :: u65 :: u66 :: u67 :: u68 :: u69 :: u70 :: u71 :: u72 :: u73 :: u74 :: u75 :: u76 :: u77 :: u78 :: u79 :: u80 :: u81 :: u82 :: u83 :: u84 :: u85 :: u86 :: u87 :: u88 :: u89 :: u90 :: u91 :: u92 :: u93 :: u94 :: u95 :: u96 :: u97 :: u98 :: u99 :: u100 :: u101 :: u102 :: u103 :: u104 :: u105 :: u106 :: u107 :: u108 :: u109 :: u110 :: u111 :: u112 :: u113 :: u114 :: u115 :: u116 :: u117 :: u118 :: u119 :: u120 :: u121 :: u122 :: u123 :: u124 :: u125 :: u126 :: u127 :: u128 :: u129 :: u130 :: u131 :: u132 :: u133 :: u134 :: u135 :: u136 :: u137 :: u138 :: u139 :: u140 :: u141 :: u142 :: u143 :: u144 :: u145 :: u146 :: u147 :: u148 :: u149 :: u150 :: u151 :: u152 :: u153 :: u154 :: u155 :: u156 :: u157 :: u158 :: u159 :: u160 :: u161 :: u162 :: u163 :: u164 :: u165 :: u166 :: u167 :: u168 :: u169 :: u170 :: u171 :: u172 :: u173 :: u174 :: u175 :: u176 :: u177 :: u178 :: u179 :: u180 :: u181 :: u182 :: u183 :: u184 :: u185 :: u186 :: u187 :: u188 :: u189 :: u190 :: u191 :: u192 :: u193 :: u194 :: u195 :: u196 :: u197 :: u198 :: u199 :: u200 :: u201 :: u202 :: u203 :: u204 :: u205 :: u206 :: u207 :: u208 :: u209 :: u210 :: u211 :: u212 :: u213 :: u214 :: u215 :: u216 :: u217 :: u218 :: u219 :: u220 :: u221 :: u222 :: u223 :: u224 :: u225 :: u226 :: []), []⟩ wr := by
  obtain ⟨Ac, cc, rfl, hcc⟩ := own_form hst.st.checks
  obtain ⟨iC, hiC, zC0, zC1, zC2⟩ := info_parts checkInfo
  have s0 := hst.blk.cell 0
  have s1 := hst.blk.cell 1
  have s2 := hst.blk.cell 2
  have s3 := hst.blk.cell 3
  have s4 := hst.blk.cell 4
  have q6 := hst.st.blk.cell 6
  conv => arg 2; whnf
  go_wp2_with (at_builtin; refine wpList_append_lies _ rfl _ _ _ rfl w.heap.size 51 iC (.agg #[.int .i64 0, .int .i64 0, .int .i64 0, .int .i64 0, .int .i64 0]) 5 40 Tryd.underlying27 hiC zC0 zC1 zC2 rfl (by decide) (.slice Ac cs.length cc) cs.length _ rfl (own_alloc hst.st.checks _) ⟨wr.heap.size, 0, none⟩ 1 1 [.int .i64 x0, .int .i64 x1, .int .i64 x2, .int .i64 x3, .int .i64 x4] rfl rfl (cells_new wr [.int .i64 x0, .int .i64 x1, .int .i64 x2, .int .i64 x3, .int .i64 x4] 51) (by simp [Value.oneCell']) (by omega) (by unfold maxLen; omega) (by omega) (by have := hst.st.lt; simp; omega) (wr.heap.size + 1) (by simp) ?_; intro g6 cap6 w6 hown6 hgrow6 _ _; have hb6 := (hst.st.up (below_new _ _)).pbOf (own_alloc hst.st.checks _) (by decide) hgrow6; have q6 := hb6.cell 6; have f6 := hb6.frozen 6)
  exact ⟨_, (hst.st.up (below_new wr (.cells #[.int .i64 x0, .int .i64 x1, .int .i64 x2, .int .i64 x3, .int .i64 x4] 51))).pushCheck (x := ⟨x0, x1, x2, x3, x4⟩) hown6 hgrow6, hst.ok⟩
end Go.Proofs.YtdmilbfdiebjgaaDoor
namespace Go.Proofs.YtdmilbfdiebjgaaDoor
open Go.RowKit
set_option linter.unusedVariables false

theorem hstep_is {n nd i : Nat} {l : List Int} {cs : List PCheck} {L0 L1 L2 L3 L4 L5 : List Int} {kd no dx : Nat} {li o : Int} (H : Hid (checksG n nd l (i + 1) = checkG n nd (cs, L0))) (bk : kd < 4) (h1 : Hid (nx L0 4 = kd)) (t1 : Hid (L0.tail = L1)) (h2 : Hid (nx L1 n = no)) (t2 : Hid (L1.tail = L2)) (h3 : Hid (nx L2 nd = dx)) (t3 : Hid (L2.tail = L3))
    (h4 : Hid (limG kd L3 = (li, L4))) (h5 : Hid (othG kd n L4 = (o, L5))) : Hid (checksG n nd l (i + 1) = (cs ++ [⟨1 + (kd : Int), no, dx, li, o⟩], L5)) :=
  Lib.hid (H.out.trans (checkG_is bk h1.out t1.out h2.out t2.out h3.out t3.out h4.out h5.out))

set_option maxHeartbeats 16000000 in
set_option maxRecDepth 100000 in
theorem net_rest13 (l : List Int) (w wr : World) (L : List Int) (v4 : Nat) (bv4 : v4 < 6) (pr ca K0 : Int) (vn vl vd : Value) (ns : List PNode) (ls : List PLink) (ds : List PDest)
    (hdl1 : 0 < ds.length) (hdl2 : ds.length ≤ 2)
    (hst : NetSt w (w.heap.size + 1) (w.heap.size + 1 + 1) L pr ca K0 vn vl vd (.slice none 0 0) ns ls ds [] wr) (hok : SrcOk L)
    (HN : Hid (netOf l = ⟨pr, ca, K0, ns, ls, ds, (checksG (2 + v4) ds.length L.tail (nx L 7)).1⟩))
    (u0 u1 u5 u7 u8 u9 u10 u11 u12 u13 u14 u15 u16 u17 u18 u19 u20 u21 u22 u23 u24 u25 u26 u27 u28 u29 u30 u31 u32 u33 u34 u35 u36 u37 u38 u39 u40 u41 u42 u43 u44 u45 u46 u47 u48 u49 u50 u51 u52 u53 u54 u55 u56 u57 u58 u59 u60 u61 u62 u63 u64 u65 u66 u67 u68 u69 u70 u71 u72 u73 u74 u75 u76 u77 u78 u79 u80 u81 u82 u83 u84 u85 u86 u87 u88 u89 u90 u91 u92 u93 u94 u95 u96 u97 u98 u99 u100 u101 u102 u103 u104 u105 u106 u107 u108 u109 u110 u111 u112 u113 u114 u115 u116 u117 u118 u119 u120 u121 u122 u123 u124 u125 u126 u127 u128 u129 u130 u131 u132 u133 u134 u135 u136 u137 u138 u139 u140 u141 u142 u143 u144 u145 u146 u147 u148 u149 u150 u151 u152 u153 u154 u155 u156 u157 u158 u159 u160 u161 u162 u163 u164 u165 u166 u167 u168 u169 u170 u171 u172 u173 u174 u175 u176 u177 u178 u179 u180 u181 u182 u183 u184 u185 u186 u187 u188 u189 u190 u191 u192 u193 u194 u195 u196 u197 u198 u199 u200 u201 u202 u203 u204 u205 u206 u207 u208 u209 u210 u211 u212 u213 u214 u215 u216 u217 u218 u219 u220 u221 u222 u223 u224 u225 u226 : Value) :
    Code.wp Tryd.prog (netC [true, true, true, true, true, true, true, true, true, true, true, true, true]) (bodyPost Tryd.prog Tryd.f6 (NetAs (netOf l) w)) ⟨List.toArray (u0 :: u1 :: .pointer (some ⟨w.heap.size, 0, none⟩) :: .pointer (some ⟨w.heap.size + 1, 0, none⟩) :: .pointer (some ⟨w.heap.size + 1 + 1, 0, none⟩) :: u5 :: .int .i64 (2 + (v4 : Int)) :: u7 :: u8 :: u9 :: u10 :: u11 :: u12 :: u13 :: u14 :: u15 :: u16 :: u17 :: u18 :: u19 :: u20 :: u21 :: u22 :: u23 :: u24 :: u25 :: u26 :: u27 :: u28 :: u29 :: u30 :: u31 :: u32 :: u33 :: u34 :: u35 :: u36 :: u37 :: u38 :: u39 :: u40 :: u41 :: u42 :: u43 :: u44 :: u45 :: u46 :: u47 :: u48 :: u49 :: u50 :: u51 :: u52 :: u53 :: u54 :: u55 :: u56 :: u57 :: u58 :: u59 :: u60 :: u61 :: u62 :: u63 :: u64 :: u65 :: u66 :: u67 :: u68 :: u69 :: u70 :: u71 :: u72 :: u73 :: u74 :: u75 :: u76 :: u77 :: u78 :: u79 :: u80 :: u81 :: u82 :: u83 :: u84 :: u85 :: u86 :: u87 :: u88 :: u89 :: u90 :: u91 :: u92 :: u93 :: u94 :: u95 :: u96 :: u97 :: u98 :: u99 :: u100 :: u101 :: u102 :: u103 :: u104 :: u105 :: u106 :: u107 :: u108 :: u109 :: u110 :: u111 :: u112 :: u113 :: u114 :: u115 :: u116 :: u117 :: u118 :: u119 :: u120 :: u121 :: u122 :: u123 :: u124 :: u125 :: u126 :: u127 :: u128 :: u129 :: u130 :: u131 :: u132 :: u133 :: u134 :: u135 :: u136 :: u137 :: u138 :: u139 :: u140 :: u141 :: u142 :: u143 :: u144 :: u145 :: u146 :: u147 :: u148 :: u149 :: u150 :: u151 :: u152 :: u153 :: u154 :: u155 :: u156 :: u157 :: u158 :: u159 :: u160 :: u161 :: u162 :: u163 :: u164 :: u165 :: u166 :: u167 :: u168 :: u169 :: u170 :: u171 :: u172 :: u173 :: u174 :: u175 :: u176 :: u177 :: u178 :: u179 :: u180 :: u181 :: u182 :: u183 :: u184 :: u185 :: u186 :: u187 :: u188 :: u189 :: u190 :: u191 :: u192 :: u193 :: u194 :: u195 :: u196 :: u197 :: u198 :: u199 :: u200 :: u201 :: u202 :: u203 :: u204 :: u205 :: u206 :: u207 :: u208 :: u209 :: u210 :: u211 :: u212 :: u213 :: u214 :: u215 :: u216 :: u217 :: u218 :: u219 :: u220 :: u221 :: u222 :: u223 :: u224 :: u225 :: u226 :: []), []⟩ wr := by
  obtain ⟨v7, HV7, bv7⟩ := ex_nx L 7 (by omega)
  obtain ⟨l7, HL7⟩ := ex_tail L
  have HN2 : Hid (netOf l = ⟨pr, ca, K0, ns, ls, ds, (checksG (2 + v4) ds.length l7 v7).1⟩) := Lib.hid (by rw [HN.out, HV7.out, HL7.out])
  clear HN
  obtain ⟨_, _, ve2, _⟩ := hst.dests
  obtain ⟨Ad, cd, rfl, hcd⟩ := own_form ve2
  clear ve2
  conv => arg 2; whnf
  go_wp2_with (go_at_call 17; (with_reducible refine (next_st 7 7 v7 l7 HV7 HL7 hst hok rfl (by omega) (by omega)).mono ?_); clear hst hok; rintro e w7 ⟨rfl, hst, hok, -⟩)
  go_loopg [17, 18] v7 (fun gg s17 _ wr => ∃ (i : Nat) (vc : Value), i ≤ v7 ∧ v7 - i ≤ gg ∧ s17 = .int .i64 ((v7 : Int) - (i : Int)) ∧ NetSt w (w.heap.size + 1) (w.heap.size + 1 + 1) (checksG (2 + v4) ds.length l7 i).2 pr ca K0 vn vl (.slice Ad ds.length cd) vc ns ls ds (checksG (2 + v4) ds.length l7 i).1 wr ∧ SrcOk (checksG (2 + v4) ds.length l7 i).2)
  case atStart => exact ⟨0, _, Nat.zero_le _, by omega, congrArg (Value.int .i64) (by omega), hst, hok⟩
  case round =>
    clear hst hok
    obtain ⟨i, vc, hi, hgg, rfl, hst, hok⟩ := hrel
    by_cases hlt : i < v7
    · skip
      as_aux_lemma =>
      obtain ⟨S, hS⟩ : ∃ S, checksG (2 + v4) ds.length l7 i = S := ⟨_, rfl⟩
      obtain ⟨cs, L0⟩ := S
      have hcl : cs.length = i := by
        have := (checksG_ok (2 + v4) ds.length l7 (by omega) hdl1 i).2
        rw [hS] at this
        exact this
      have hstep : checksG (2 + v4) ds.length l7 (i + 1) = checkG (2 + v4) ds.length (cs, L0) := by rw [checksG, hS]
      rw [hS] at hst hok
      dsimp only at hst hok
      obtain ⟨kd, HK1, bk1⟩ := ex_nx L0 4 (by omega)
      obtain ⟨L1, HT1⟩ := ex_tail L0
      obtain ⟨nd, HK2, bk2⟩ := ex_nx L1 (2 + v4) (by omega)
      obtain ⟨L2, HT2⟩ := ex_tail L1
      obtain ⟨dx, HK3, bk3⟩ := ex_nx L2 ds.length hdl1
      obtain ⟨L3, HT3⟩ := ex_tail L2
      have hlt' : (0 : Int) < (v7 : Int) - (i : Int) := by omega
      have HSTEP := Lib.hid hstep
      have hcl2 : cs.length ≤ 6 := by omega
      clear hS hstep hcl
      go_upto_region 45 with fail
      refine wp_goes_on (net_p45 w wr L0 L1 L2 L3 v4 kd nd dx bv4 pr ca K0 vn vl vc Ad cd ns ls ds cs hdl1 hdl2 HK1 bk1 HT1 HK2 HT2 HK3 HT3 hst hok _ _ _ _ _ _ _ _ _ _ _ _ _ _ _ _ _ _ _ _ _ _ _ _ _ _ _ _ _ _ _ _ _ _ _ _ _ _ _ _ _ _ _ _ _ _ _ _ _ _ _ _ _ _ _ _ _ _ _ _ _ _ _ _ _ _ _ _ _ _ _ _ _ _ _ _ _ _ _ _ _ _ _ _ _ _ _ _ _ _ _ _ _ _ _ _ _ _ _ _ _ _ _ _ _ _ _ _ _ _ _ _ _ _ _ _ _ _ _ _ _ _ _ _ _ _ _ _ _ _ _ _ _ _ _ _ _ _ _ _ _ _ _ _ _ _ _ _ _ _ _ _ _ _ _ _ _ _ _ _ _ _ _ _ _ _ _ _ _ _ _ _ _ _ _ _ _ _ _ _ _ _ _ _ _ _ _ _ _ _ _ _ _ _ _ _ _ _ _ _ _ _ _ _ _ _ _ _ _ _ _ _ _ _ _ _ _ _ _ _ _ _ _ _ ?_)
      clear hst hok
      intro b wx
      intros
      rename_i hch
      go_step
      go_step
      refine wp_goes_on (net_p46 w wx L3 v4 kd nd dx b pr ca K0 vn vl _ vc ns ls ds cs bk1 hch _ _ _ _ _ _ _ _ _ _ _ _ _ _ _ _ _ _ _ _ _ _ _ _ _ _ _ _ _ _ _ _ _ _ _ _ _ _ _ _ _ _ _ _ _ _ _ _ _ _ _ _ _ _ _ _ _ _ _ _ _ _ _ _ _ _ _ _ _ _ _ _ _ _ _ _ _ _ _ _ _ _ _ _ _ _ _ _ _ _ _ _ _ _ _ _ _ _ _ _ _ _ _ _ _ _ _ _ _ _ _ _ _ _ _ _ _ _ _ _ _ _ _ _ _ _ _ _ _ _ _ _ _ _ _ _ _ _ _ _ _ _ _ _ _ _ _ _ _ _ _ _ _ _ _ _ _ _ _ _ _ _ _ _ _ _ _ _ _ _ _ _ _ _ _ _ _ _ _ _ _ _ _ _ _ _ _ _ _ _ _ _ _ _ _ _ _ _ _ _ _ _ _ _ _ _ _ _ _ _ _ _ _ _ _ _ _ _ _ _ _ _ _ ?_)
      clear hch
      intro wx
      intros
      rename_i hch
      obtain ⟨li, L4, HG4, hch⟩ := hch
      go_step
      go_step
      refine wp_goes_on (net_p48 w wx L4 v4 kd nd dx b li pr ca K0 vn vl _ vc ns ls ds cs bk1 bv4 hch _ _ _ _ _ _ _ _ _ _ _ _ _ _ _ _ _ _ _ _ _ _ _ _ _ _ _ _ _ _ _ _ _ _ _ _ _ _ _ _ _ _ _ _ _ _ _ _ _ _ _ _ _ _ _ _ _ _ _ _ _ _ _ _ _ _ _ _ _ _ _ _ _ _ _ _ _ _ _ _ _ _ _ _ _ _ _ _ _ _ _ _ _ _ _ _ _ _ _ _ _ _ _ _ _ _ _ _ _ _ _ _ _ _ _ _ _ _ _ _ _ _ _ _ _ _ _ _ _ _ _ _ _ _ _ _ _ _ _ _ _ _ _ _ _ _ _ _ _ _ _ _ _ _ _ _ _ _ _ _ _ _ _ _ _ _ _ _ _ _ _ _ _ _ _ _ _ _ _ _ _ _ _ _ _ _ _ _ _ _ _ _ _ _ _ _ _ _ _ _ _ _ _ _ _ _ _ _ _ _ _ _ _ _ _ _ _ _ _ _ _ _ _ ?_)
      clear hch
      intro wx
      intros
      rename_i hch
      obtain ⟨o, L5, HG5, hch⟩ := hch
      have hd := hstep_is HSTEP bk1 HK1 HT1 HK2 HT2 HK3 HT3 HG4 HG5
      go_step
      refine net_p50 w wx L5 v4 b _ _ _ _ _ pr ca K0 vn vl _ vc ns ls ds cs hcl2 hch _ _ _ _ _ _ _ _ _ _ _ _ _ _ _ _ _ _ _ _ _ _ _ _ _ _ _ _ _ _ _ _ _ _ _ _ _ _ _ _ _ _ _ _ _ _ _ _ _ _ _ _ _ _ _ _ _ _ _ _ _ _ _ _ _ _ _ _ _ _ _ _ _ _ _ _ _ _ _ _ _ _ _ _ _ _ _ _ _ _ _ _ _ _ _ _ _ _ _ _ _ _ _ _ _ _ _ _ _ _ _ _ _ _ _ _ _ _ _ _ _ _ _ _ _ _ _ _ _ _ _ _ _ _ _ _ _ _ _ _ _ _ _ _ _ _ _ _ _ _ _ _ _ _ _ _ _ _ _ _ _ _ _ _ _ _ _ _ _ _ _ _ _ _ _ _ _ _ _ _ _ _ _ _ _ _ _ _ _ _ _ _ _ _ _ _ _ _ _ _ _ _ _ _ _ _ _ _ _ _ _ _ _ _ _ _ _ _ _ _ _ _ _ ?_
      clear hch
      intro wx
      intros
      rename_i hch
      obtain ⟨vc', hst, hok⟩ := hch
      go_wp2_with fail
      go_roundg (v7 - (i + 1))
      case measure => omega
      case rel => exact ⟨i + 1, vc', by omega, by omega, congrArg (Value.int .i64) (by omega), by rw [hd.out]; exact hst, by rw [hd.out]; exact hok⟩
    · as_aux_lemma =>
      obtain rfl : i = v7 := by omega
      have hgt : ¬ (0 : Int) < (i : Int) - (i : Int) := by omega
      repeat (first | exact net_rest14 l w wr _ pr ca K0 vn vl _ vc ns ls ds _ hst HN2 _ _ _ _ _ _ _ _ _ _ _ _ _ _ _ _ _ _ _ _ _ _ _ _ _ _ _ _ _ _ _ _ _ _ _ _ _ _ _ _ _ _ _ _ _ _ _ _ _ _ _ _ _ _ _ _ _ _ _ _ _ _ _ _ _ _ _ _ _ _ _ _ _ _ _ _ _ _ _ _ _ _ _ _ _ _ _ _ _ _ _ _ _ _ _ _ _ _ _ _ _ _ _ _ _ _ _ _ _ _ _ _ _ _ _ _ _ _ _ _ _ _ _ _ _ _ _ _ _ _ _ _ _ _ _ _ _ _ _ _ _ _ _ _ _ _ _ _ _ _ _ _ _ _ _ _ _ _ _ _ _ _ _ _ _ _ _ _ _ _ _ _ _ _ _ _ _ _ _ _ _ _ _ _ _ _ _ _ _ _ _ _ _ _ _ _ _ _ _ _ _ _ _ _ _ _ _ _ _ _ _ _ _ _ _ _ _ _ _ _ _ _ _ _ | go_values | go_skip | go_guarded | go_step | go_upon)
end Go.Proofs.YtdmilbfdiebjgaaDoor
