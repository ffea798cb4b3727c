/-
  The law's Net: its third loop.
-/
import Derived.Test.YtlfdpfkimggeoaaPlWa
import Derived.Test.YtlfdpfkimggeoaaPlWb
namespace Go.Proofs.Ytlfdpfkimggeoaa
open Go.RowKit
set_option linter.unusedVariables false

set_option maxHeartbeats 4000000 in
set_option maxRecDepth 100000 in
theorem net_p46 (w wr : World) (L3 : List Int) (v4 kd nd dx b : Nat) (pr ca K0 : Int) (vn vl vd vc : Value) (ns : List PNode) (ls : List PLink) (ds : List PDest) (cs : List PCheck) (bk1 : kd < 4)
    (hst : ChkSt w (w.heap.size + 1) (w.heap.size + 1 + 1) L3 pr ca K0 vn vl vd vc ns ls ds cs b (1 + (kd : Int)) nd dx 0 0 wr)
    (K : Act → World → Prop) (c17 : Value) (u0 u1 u5 u7 u8 u9 u10 u11 u12 u13 u14 u15 u16 u19 u20 u21 u22 u23 u24 u25 u26 u27 u28 u29 u30 u31 u32 u33 u34 u35 u36 u37 u38 u39 u40 u41 u42 u43 u44 u45 u46 u47 u48 u49 u50 u51 u52 u53 u54 u55 u56 u57 u58 u59 u60 u61 u62 u63 u64 u65 u66 u67 u68 u69 u70 u71 u72 u73 u74 u75 u76 u77 u78 u79 u80 u81 u82 u83 u84 u85 u86 u87 u88 u89 u90 u91 u92 u93 u94 u95 u96 u97 u98 u99 u100 u101 u102 u103 u104 u105 u106 u107 u108 u109 u110 u111 u112 u113 u114 u115 u116 u117 u118 u119 u120 u121 u122 u123 u124 u125 u126 u127 u128 u129 u130 u131 u132 u133 u134 u135 u136 u137 u138 u139 u140 u141 u142 u143 u144 u145 u146 u147 u148 u149 u150 u151 u152 u153 u154 u155 u156 u157 u158 u159 u160 u161 u162 u163 u164 u165 u166 u167 u168 u169 u170 u171 u172 u173 u174 u175 u176 u177 u178 u179 u180 u181 u182 u183 u184 u185 u186 u187 u188 u189 u190 u191 u192 u193 u194 u195 u196 u197 u198 u199 u200 u201 u202 u203 u204 u205 u206 u207 u208 u209 u210 u211 u212 u213 u214 u215 u216 u217 u218 u219 u220 u221 u222 u223 u224 u225 u226 : Value)
    (hK : ∀ (wx : World) (u202 u203 u204 u205 u206 u207 : Value), (∃ (li : Int) (L4 : List Int), Hid (limG kd L3 = (li, L4)) ∧ ChkSt w (w.heap.size + 1) (w.heap.size + 1 + 1) L4 pr ca K0 vn vl vd vc ns ls ds cs b (1 + (kd : Int)) nd dx li 0 wx) → K ⟨List.toArray (u0 :: u1 :: .pointer (some ⟨w.heap.size, 0, none⟩) :: .pointer (some ⟨w.heap.size + 1, 0, none⟩) :: .pointer (some ⟨w.heap.size + 1 + 1, 0, none⟩) :: u5 :: .int .i64 (2 + (v4 : Int)) :: u7 :: u8 :: u9 :: u10 :: u11 :: u12 :: u13 :: u14 :: u15 :: u16 :: c17 :: .pointer (some ⟨b, 0, none⟩) :: u19 :: u20 :: u21 :: u22 :: u23 :: u24 :: u25 :: u26 :: u27 :: u28 :: u29 :: u30 :: u31 :: u32 :: u33 :: u34 :: u35 :: u36 :: u37 :: u38 :: u39 :: u40 :: u41 :: u42 :: u43 :: u44 :: u45 :: u46 :: u47 :: u48 :: u49 :: u50 :: u51 :: u52 :: u53 :: u54 :: u55 :: u56 :: u57 :: u58 :: u59 :: u60 :: u61 :: u62 :: u63 :: u64 :: u65 :: u66 :: u67 :: u68 :: u69 :: u70 :: u71 :: u72 :: u73 :: u74 :: u75 :: u76 :: u77 :: u78 :: u79 :: u80 :: u81 :: u82 :: u83 :: u84 :: u85 :: u86 :: u87 :: u88 :: u89 :: u90 :: u91 :: u92 :: u93 :: u94 :: u95 :: u96 :: u97 :: u98 :: u99 :: u100 :: u101 :: u102 :: u103 :: u104 :: u105 :: u106 :: u107 :: u108 :: u109 :: u110 :: u111 :: u112 :: u113 :: u114 :: u115 :: u116 :: u117 :: u118 :: u119 :: u120 :: u121 :: u122 :: u123 :: u124 :: u125 :: u126 :: u127 :: u128 :: u129 :: u130 :: u131 :: u132 :: u133 :: u134 :: u135 :: u136 :: u137 :: u138 :: u139 :: u140 :: u141 :: u142 :: u143 :: u144 :: u145 :: u146 :: u147 :: u148 :: u149 :: u150 :: u151 :: u152 :: u153 :: u154 :: u155 :: u156 :: u157 :: u158 :: u159 :: u160 :: u161 :: u162 :: u163 :: u164 :: u165 :: u166 :: u167 :: u168 :: u169 :: u170 :: u171 :: u172 :: u173 :: u174 :: u175 :: u176 :: u177 :: u178 :: u179 :: u180 :: u181 :: u182 :: u183 :: u184 :: u185 :: u186 :: u187 :: u188 :: u189 :: u190 :: u191 :: u192 :: u193 :: u194 :: u195 :: u196 :: u197 :: u198 :: u199 :: u200 :: u201 :: u202 :: u203 :: u204 :: u205 :: u206 :: u207 :: u208 :: u209 :: u210 :: u211 :: u212 :: u213 :: u214 :: u215 :: u216 :: u217 :: u218 :: u219 :: u220 :: u221 :: u222 :: u223 :: u224 :: u225 :: u226 :: []), []⟩ wx) :
    Code.wp Try.prog (netC [true, true, true, true, true, true, true, true, true, true, true, true, true, false, true, false, false, true, false, false, true, false]) (Exit.then K NoExit) ⟨List.toArray (u0 :: u1 :: .pointer (some ⟨w.heap.size, 0, none⟩) :: .pointer (some ⟨w.heap.size + 1, 0, none⟩) :: .pointer (some ⟨w.heap.size + 1 + 1, 0, none⟩) :: u5 :: .int .i64 (2 + (v4 : Int)) :: u7 :: u8 :: u9 :: u10 :: u11 :: u12 :: u13 :: u14 :: u15 :: u16 :: c17 :: .pointer (some ⟨b, 0, none⟩) :: u19 :: u20 :: u21 :: u22 :: u23 :: u24 :: u25 :: u26 :: u27 :: u28 :: u29 :: u30 :: u31 :: u32 :: u33 :: u34 :: u35 :: u36 :: u37 :: u38 :: u39 :: u40 :: u41 :: u42 :: u43 :: u44 :: u45 :: u46 :: u47 :: u48 :: u49 :: u50 :: u51 :: u52 :: u53 :: u54 :: u55 :: u56 :: u57 :: u58 :: u59 :: u60 :: u61 :: u62 :: u63 :: u64 :: u65 :: u66 :: u67 :: u68 :: u69 :: u70 :: u71 :: u72 :: u73 :: u74 :: u75 :: u76 :: u77 :: u78 :: u79 :: u80 :: u81 :: u82 :: u83 :: u84 :: u85 :: u86 :: u87 :: u88 :: u89 :: u90 :: u91 :: u92 :: u93 :: u94 :: u95 :: u96 :: u97 :: u98 :: u99 :: u100 :: u101 :: u102 :: u103 :: u104 :: u105 :: u106 :: u107 :: u108 :: u109 :: u110 :: u111 :: u112 :: u113 :: u114 :: u115 :: u116 :: u117 :: u118 :: u119 :: u120 :: u121 :: u122 :: u123 :: u124 :: u125 :: u126 :: u127 :: u128 :: u129 :: u130 :: u131 :: u132 :: u133 :: u134 :: u135 :: u136 :: u137 :: u138 :: u139 :: u140 :: u141 :: u142 :: u143 :: u144 :: u145 :: u146 :: u147 :: u148 :: u149 :: u150 :: u151 :: u152 :: u153 :: u154 :: u155 :: u156 :: u157 :: u158 :: u159 :: u160 :: u161 :: u162 :: u163 :: u164 :: u165 :: u166 :: u167 :: u168 :: u169 :: u170 :: u171 :: u172 :: u173 :: u174 :: u175 :: u176 :: u177 :: u178 :: u179 :: u180 :: u181 :: u182 :: u183 :: u184 :: u185 :: u186 :: u187 :: u188 :: u189 :: u190 :: u191 :: u192 :: u193 :: u194 :: u195 :: u196 :: u197 :: u198 :: u199 :: u200 :: u201 :: u202 :: u203 :: u204 :: u205 :: u206 :: u207 :: u208 :: u209 :: u210 :: u211 :: u212 :: u213 :: u214 :: u215 :: u216 :: u217 :: u218 :: u219 :: u220 :: u221 :: u222 :: u223 :: u224 :: u225 :: u226 :: []), []⟩ wr := by
  have s0 := hst.blk.cell 0
  conv => arg 2; whnf
  by_cases h1 : kd = 1
  · subst h1
    obtain ⟨li, HL, bl⟩ := ex_nx L3 20 (by omega)
    obtain ⟨L4, HT⟩ := ex_tail L3
    have HG : Hid (limG 1 L3 = ((li : Int), L4)) := Lib.hid (by unfold limG; rw [if_pos rfl, HL.out, HT.out])
    go_wp2_with ((go_at_call 32; (with_reducible refine (next_k 20 20 li L4 HL HT hst (by omega) (by omega) (by omega)).mono ?_); rintro e w1 ⟨rfl, hst1⟩; have s3 := hst1.blk.cell 3; have t3 := hst1.blk.frozen 3))
    exact ⟨_, _, HG, hst1.put 3 _ _ _ _ _ _ rfl⟩
  · have h2 : ¬ (1 + (kd : Int) = 2) := by omega
    have h3 : ((1 + (kd : Int)) == 2) = false := by simpa using h2
    have HG : Hid (limG kd L3 = (0, L3)) := Lib.hid (by unfold limG; rw [if_neg h1])
    clear h1
    go_wp2_with fail
    exact ⟨_, _, HG, hst⟩

set_option maxHeartbeats 4000000 in
set_option maxRecDepth 100000 in
theorem net_p48 (w wr : World) (L4 : List Int) (v4 kd nd dx b : Nat) (li : Int) (pr ca K0 : Int) (vn vl vd vc : Value) (ns : List PNode) (ls : List PLink) (ds : List PDest) (cs : List PCheck) (bk1 : kd < 4) (bv4 : v4 < 6)
    (hst : ChkSt w (w.heap.size + 1) (w.heap.size + 1 + 1) L4 pr ca K0 vn vl vd vc ns ls ds cs b (1 + (kd : Int)) nd dx li 0 wr)
    (K : Act → World → Prop) (c17 : Value) (u0 u1 u5 u7 u8 u9 u10 u11 u12 u13 u14 u15 u16 u19 u20 u21 u22 u23 u24 u25 u26 u27 u28 u29 u30 u31 u32 u33 u34 u35 u36 u37 u38 u39 u40 u41 u42 u43 u44 u45 u46 u47 u48 u49 u50 u51 u52 u53 u54 u55 u56 u57 u58 u59 u60 u61 u62 u63 u64 u65 u66 u67 u68 u69 u70 u71 u72 u73 u74 u75 u76 u77 u78 u79 u80 u81 u82 u83 u84 u85 u86 u87 u88 u89 u90 u91 u92 u93 u94 u95 u96 u97 u98 u99 u100 u101 u102 u103 u104 u105 u106 u107 u108 u109 u110 u111 u112 u113 u114 u115 u116 u117 u118 u119 u120 u121 u122 u123 u124 u125 u126 u127 u128 u129 u130 u131 u132 u133 u134 u135 u136 u137 u138 u139 u140 u141 u142 u143 u144 u145 u146 u147 u148 u149 u150 u151 u152 u153 u154 u155 u156 u157 u158 u159 u160 u161 u162 u163 u164 u165 u166 u167 u168 u169 u170 u171 u172 u173 u174 u175 u176 u177 u178 u179 u180 u181 u182 u183 u184 u185 u186 u187 u188 u189 u190 u191 u192 u193 u194 u195 u196 u197 u198 u199 u200 u201 u202 u203 u204 u205 u206 u207 u208 u209 u210 u211 u212 u213 u214 u215 u216 u217 u218 u219 u220 u221 u222 u223 u224 u225 u226 : Value)
    (hK : ∀ (wx : World) (u208 u209 u210 u211 u212 u213 u214 u215 u216 u217 u218 u219 : Value), (∃ (o : Int) (L5 : List Int), Hid (othG kd (2 + v4) L4 = (o, L5)) ∧ ChkSt w (w.heap.size + 1) (w.heap.size + 1 + 1) L5 pr ca K0 vn vl vd vc ns ls ds cs b (1 + (kd : Int)) nd dx li o wx) → K ⟨List.toArray (u0 :: u1 :: .pointer (some ⟨w.heap.size, 0, none⟩) :: .pointer (some ⟨w.heap.size + 1, 0, none⟩) :: .pointer (some ⟨w.heap.size + 1 + 1, 0, none⟩) :: u5 :: .int .i64 (2 + (v4 : Int)) :: u7 :: u8 :: u9 :: u10 :: u11 :: u12 :: u13 :: u14 :: u15 :: u16 :: c17 :: .pointer (some ⟨b, 0, none⟩) :: u19 :: u20 :: u21 :: u22 :: u23 :: u24 :: u25 :: u26 :: u27 :: u28 :: u29 :: u30 :: u31 :: u32 :: u33 :: u34 :: u35 :: u36 :: u37 :: u38 :: u39 :: u40 :: u41 :: u42 :: u43 :: u44 :: u45 :: u46 :: u47 :: u48 :: u49 :: u50 :: u51 :: u52 :: u53 :: u54 :: u55 :: u56 :: u57 :: u58 :: u59 :: u60 :: u61 :: u62 :: u63 :: u64 :: u65 :: u66 :: u67 :: u68 :: u69 :: u70 :: u71 :: u72 :: u73 :: u74 :: u75 :: u76 :: u77 :: u78 :: u79 :: u80 :: u81 :: u82 :: u83 :: u84 :: u85 :: u86 :: u87 :: u88 :: u89 :: u90 :: u91 :: u92 :: u93 :: u94 :: u95 :: u96 :: u97 :: u98 :: u99 :: u100 :: u101 :: u102 :: u103 :: u104 :: u105 :: u106 :: u107 :: u108 :: u109 :: u110 :: u111 :: u112 :: u113 :: u114 :: u115 :: u116 :: u117 :: u118 :: u119 :: u120 :: u121 :: u122 :: u123 :: u124 :: u125 :: u126 :: u127 :: u128 :: u129 :: u130 :: u131 :: u132 :: u133 :: u134 :: u135 :: u136 :: u137 :: u138 :: u139 :: u140 :: u141 :: u142 :: u143 :: u144 :: u145 :: u146 :: u147 :: u148 :: u149 :: u150 :: u151 :: u152 :: u153 :: u154 :: u155 :: u156 :: u157 :: u158 :: u159 :: u160 :: u161 :: u162 :: u163 :: u164 :: u165 :: u166 :: u167 :: u168 :: u169 :: u170 :: u171 :: u172 :: u173 :: u174 :: u175 :: u176 :: u177 :: u178 :: u179 :: u180 :: u181 :: u182 :: u183 :: u184 :: u185 :: u186 :: u187 :: u188 :: u189 :: u190 :: u191 :: u192 :: u193 :: u194 :: u195 :: u196 :: u197 :: u198 :: u199 :: u200 :: u201 :: u202 :: u203 :: u204 :: u205 :: u206 :: u207 :: u208 :: u209 :: u210 :: u211 :: u212 :: u213 :: u214 :: u215 :: u216 :: u217 :: u218 :: u219 :: u220 :: u221 :: u222 :: u223 :: u224 :: u225 :: u226 :: []), []⟩ wx) :
    Code.wp Try.prog (netC [true, true, true, true, true, true, true, true, true, true, true, true, true, false, true, false, false, true, false, false, true, true, false]) (Exit.then K NoExit) ⟨List.toArray (u0 :: u1 :: .pointer (some ⟨w.heap.size, 0, none⟩) :: .pointer (some ⟨w.heap.size + 1, 0, none⟩) :: .pointer (some ⟨w.heap.size + 1 + 1, 0, none⟩) :: u5 :: .int .i64 (2 + (v4 : Int)) :: u7 :: u8 :: u9 :: u10 :: u11 :: u12 :: u13 :: u14 :: u15 :: u16 :: c17 :: .pointer (some ⟨b, 0, none⟩) :: u19 :: u20 :: u21 :: u22 :: u23 :: u24 :: u25 :: u26 :: u27 :: u28 :: u29 :: u30 :: u31 :: u32 :: u33 :: u34 :: u35 :: u36 :: u37 :: u38 :: u39 :: u40 :: u41 :: u42 :: u43 :: u44 :: u45 :: u46 :: u47 :: u48 :: u49 :: u50 :: u51 :: u52 :: u53 :: u54 :: u55 :: u56 :: u57 :: u58 :: u59 :: u60 :: u61 :: u62 :: u63 :: u64 :: u65 :: u66 :: u67 :: u68 :: u69 :: u70 :: u71 :: u72 :: u73 :: u74 :: u75 :: u76 :: u77 :: u78 :: u79 :: u80 :: u81 :: u82 :: u83 :: u84 :: u85 :: u86 :: u87 :: u88 :: u89 :: u90 :: u91 :: u92 :: u93 :: u94 :: u95 :: u96 :: u97 :: u98 :: u99 :: u100 :: u101 :: u102 :: u103 :: u104 :: u105 :: u106 :: u107 :: u108 :: u109 :: u110 :: u111 :: u112 :: u113 :: u114 :: u115 :: u116 :: u117 :: u118 :: u119 :: u120 :: u121 :: u122 :: u123 :: u124 :: u125 :: u126 :: u127 :: u128 :: u129 :: u130 :: u131 :: u132 :: u133 :: u134 :: u135 :: u136 :: u137 :: u138 :: u139 :: u140 :: u141 :: u142 :: u143 :: u144 :: u145 :: u146 :: u147 :: u148 :: u149 :: u150 :: u151 :: u152 :: u153 :: u154 :: u155 :: u156 :: u157 :: u158 :: u159 :: u160 :: u161 :: u162 :: u163 :: u164 :: u165 :: u166 :: u167 :: u168 :: u169 :: u170 :: u171 :: u172 :: u173 :: u174 :: u175 :: u176 :: u177 :: u178 :: u179 :: u180 :: u181 :: u182 :: u183 :: u184 :: u185 :: u186 :: u187 :: u188 :: u189 :: u190 :: u191 :: u192 :: u193 :: u194 :: u195 :: u196 :: u197 :: u198 :: u199 :: u200 :: u201 :: u202 :: u203 :: u204 :: u205 :: u206 :: u207 :: u208 :: u209 :: u210 :: u211 :: u212 :: u213 :: u214 :: u215 :: u216 :: u217 :: u218 :: u219 :: u220 :: u221 :: u222 :: u223 :: u224 :: u225 :: u226 :: []), []⟩ wr := by
  have s0 := hst.blk.cell 0
  conv => arg 2; whnf
  by_cases h1 : 2 ≤ kd
  · obtain ⟨o, HL, bl⟩ := ex_nx L4 (2 + v4) (by omega)
    obtain ⟨L5, HT⟩ := ex_tail L4
    have HG : Hid (othG kd (2 + v4) L4 = ((o : Int), L5)) := Lib.hid (by unfold othG; rw [if_pos h1, HL.out, HT.out])
    have hk : kd = 2 ∨ kd = 3 := by omega
    clear h1
    rcases hk with h1 | h1
    all_goals
      subst h1
      go_wp2_with ((go_at_call 32; (with_reducible refine (next_k (2 + (v4 : Int)) (2 + v4) o L5 HL HT hst (by omega) (by omega) (by omega)).mono ?_); rintro e w1 ⟨rfl, hst1⟩; have s4 := hst1.blk.cell 4; have t4 := hst1.blk.frozen 4))
      exact ⟨_, _, HG, hst1.put 4 _ _ _ _ _ _ rfl⟩
  · have h2 : ¬ (1 + (kd : Int) = 3) := by omega
    have h3 : ((1 + (kd : Int)) == 3) = false := by simpa using h2
    have h4 : ¬ (1 + (kd : Int) = 4) := by omega
    have h5 : ((1 + (kd : Int)) == 4) = false := by simpa using h4
    have HG : Hid (othG kd (2 + v4) L4 = (0, L4)) := Lib.hid (by unfold othG; rw [if_neg h1])
    clear h1
    go_wp2_with fail
    exact ⟨_, _, HG, hst⟩
end Go.Proofs.Ytlfdpfkimggeoaa

namespace Go.Proofs.Ytlfdpfkimggeoaa
open Go.RowKit
set_option linter.unusedVariables false

set_option maxHeartbeats 4000000 in
set_option maxRecDepth 100000 in
theorem net_p50 (w wr : World) (L : List Int) (v4 b : Nat) (x0 x1 x2 x3 x4 : Int) (pr ca K0 : Int) (vn vl vd vc : Value) (ns : List PNode) (ls : List PLink) (ds : List PDest) (cs : List PCheck) (hcl : cs.length ≤ 6)
    (hst : ChkSt w (w.heap.size + 1) (w.heap.size + 1 + 1) L pr ca K0 vn vl vd vc ns ls ds cs b x0 x1 x2 x3 x4 wr)
    (Q : Exit → Act → World → Prop) (c17 : Value) (u0 u1 u5 u7 u8 u9 u10 u11 u12 u13 u14 u15 u16 u19 u20 u21 u22 u23 u24 u25 u26 u27 u28 u29 u30 u31 u32 u33 u34 u35 u36 u37 u38 u39 u40 u41 u42 u43 u44 u45 u46 u47 u48 u49 u50 u51 u52 u53 u54 u55 u56 u57 u58 u59 u60 u61 u62 u63 u64 u65 u66 u67 u68 u69 u70 u71 u72 u73 u74 u75 u76 u77 u78 u79 u80 u81 u82 u83 u84 u85 u86 u87 u88 u89 u90 u91 u92 u93 u94 u95 u96 u97 u98 u99 u100 u101 u102 u103 u104 u105 u106 u107 u108 u109 u110 u111 u112 u113 u114 u115 u116 u117 u118 u119 u120 u121 u122 u123 u124 u125 u126 u127 u128 u129 u130 u131 u132 u133 u134 u135 u136 u137 u138 u139 u140 u141 u142 u143 u144 u145 u146 u147 u148 u149 u150 u151 u152 u153 u154 u155 u156 u157 u158 u159 u160 u161 u162 u163 u164 u165 u166 u167 u168 u169 u170 u171 u172 u173 u174 u175 u176 u177 u178 u179 u180 u181 u182 u183 u184 u185 u186 u187 u188 u189 u190 u191 u192 u193 u194 u195 u196 u197 u198 u199 u200 u201 u202 u203 u204 u205 u206 u207 u208 u209 u210 u211 u212 u213 u214 u215 u216 u217 u218 u219 u220 u221 u222 u223 u224 u225 u226 : Value)
    (hK : ∀ (wx : World) (u220 u221 u222 u223 u224 u225 : Value), (∃ (vc' : Value), NetSt w (w.heap.size + 1) (w.heap.size + 1 + 1) L pr ca K0 vn vl vd vc' ns ls ds (cs ++ [⟨x0, x1, x2, x3, x4⟩]) wx ∧ SrcOk L) → Q .normal ⟨List.toArray (u0 :: u1 :: .pointer (some ⟨w.heap.size, 0, none⟩) :: .pointer (some ⟨w.heap.size + 1, 0, none⟩) :: .pointer (some ⟨w.heap.size + 1 + 1, 0, none⟩) :: u5 :: .int .i64 (2 + (v4 : Int)) :: u7 :: u8 :: u9 :: u10 :: u11 :: u12 :: u13 :: u14 :: u15 :: u16 :: c17 :: .pointer (some ⟨b, 0, none⟩) :: u19 :: u20 :: u21 :: u22 :: u23 :: u24 :: u25 :: u26 :: u27 :: u28 :: u29 :: u30 :: u31 :: u32 :: u33 :: u34 :: u35 :: u36 :: u37 :: u38 :: u39 :: u40 :: u41 :: u42 :: u43 :: u44 :: u45 :: u46 :: u47 :: u48 :: u49 :: u50 :: u51 :: u52 :: u53 :: u54 :: u55 :: u56 :: u57 :: u58 :: u59 :: u60 :: u61 :: u62 :: u63 :: u64 :: u65 :: u66 :: u67 :: u68 :: u69 :: u70 :: u71 :: u72 :: u73 :: u74 :: u75 :: u76 :: u77 :: u78 :: u79 :: u80 :: u81 :: u82 :: u83 :: u84 :: u85 :: u86 :: u87 :: u88 :: u89 :: u90 :: u91 :: u92 :: u93 :: u94 :: u95 :: u96 :: u97 :: u98 :: u99 :: u100 :: u101 :: u102 :: u103 :: u104 :: u105 :: u106 :: u107 :: u108 :: u109 :: u110 :: u111 :: u112 :: u113 :: u114 :: u115 :: u116 :: u117 :: u118 :: u119 :: u120 :: u121 :: u122 :: u123 :: u124 :: u125 :: u126 :: u127 :: u128 :: u129 :: u130 :: u131 :: u132 :: u133 :: u134 :: u135 :: u136 :: u137 :: u138 :: u139 :: u140 :: u141 :: u142 :: u143 :: u144 :: u145 :: u146 :: u147 :: u148 :: u149 :: u150 :: u151 :: u152 :: u153 :: u154 :: u155 :: u156 :: u157 :: u158 :: u159 :: u160 :: u161 :: u162 :: u163 :: u164 :: u165 :: u166 :: u167 :: u168 :: u169 :: u170 :: u171 :: u172 :: u173 :: u174 :: u175 :: u176 :: u177 :: u178 :: u179 :: u180 :: u181 :: u182 :: u183 :: u184 :: u185 :: u186 :: u187 :: u188 :: u189 :: u190 :: u191 :: u192 :: u193 :: u194 :: u195 :: u196 :: u197 :: u198 :: u199 :: u200 :: u201 :: u202 :: u203 :: u204 :: u205 :: u206 :: u207 :: u208 :: u209 :: u210 :: u211 :: u212 :: u213 :: u214 :: u215 :: u216 :: u217 :: u218 :: u219 :: u220 :: u221 :: u222 :: u223 :: u224 :: u225 :: u226 :: []), []⟩ wx) :
    Code.wp Try.prog (netC [true, true, true, true, true, true, true, true, true, true, true, true, true, false, true, false, false, true, false, false, true, true, true]) Q ⟨List.toArray (u0 :: u1 :: .pointer (some ⟨w.heap.size, 0, none⟩) :: .pointer (some ⟨w.heap.size + 1, 0, none⟩) :: .pointer (some ⟨w.heap.size + 1 + 1, 0, none⟩) :: u5 :: .int .i64 (2 + (v4 : Int)) :: u7 :: u8 :: u9 :: u10 :: u11 :: u12 :: u13 :: u14 :: u15 :: u16 :: c17 :: .pointer (some ⟨b, 0, none⟩) :: u19 :: u20 :: u21 :: u22 :: u23 :: u24 :: u25 :: u26 :: u27 :: u28 :: u29 :: u30 :: u31 :: u32 :: u33 :: u34 :: u35 :: u36 :: u37 :: u38 :: u39 :: u40 :: u41 :: u42 :: u43 :: u44 :: u45 :: u46 :: u47 :: u48 :: u49 :: u50 :: u51 :: u52 :: u53 :: u54 :: u55 :: u56 :: u57 :: u58 :: u59 :: u60 :: u61 :: u62 :: u63 :: u64 :: u65 :: u66 :: u67 :: u68 :: u69 :: u70 :: u71 :: u72 :: u73 :: u74 :: u75 :: u76 :: u77 :: u78 :: u79 :: u80 :: u81 :: u82 :: u83 :: u84 :: u85 :: u86 :: u87 :: u88 :: u89 :: u90 :: u91 :: u92 :: u93 :: u94 :: u95 :: u96 :: u97 :: u98 :: u99 :: u100 :: u101 :: u102 :: u103 :: u104 :: u105 :: u106 :: u107 :: u108 :: u109 :: u110 :: u111 :: u112 :: u113 :: u114 :: u115 :: u116 :: u117 :: u118 :: u119 :: u120 :: u121 :: u122 :: u123 :: u124 :: u125 :: u126 :: u127 :: u128 :: u129 :: u130 :: u131 :: u132 :: u133 :: u134 :: u135 :: u136 :: u137 :: u138 :: u139 :: u140 :: u141 :: u142 :: u143 :: u144 :: u145 :: u146 :: u147 :: u148 :: u149 :: u150 :: u151 :: u152 :: u153 :: u154 :: u155 :: u156 :: u157 :: u158 :: u159 :: u160 :: u161 :: u162 :: u163 :: u164 :: u165 :: u166 :: u167 :: u168 :: u169 :: u170 :: u171 :: u172 :: u173 :: u174 :: u175 :: u176 :: u177 :: u178 :: u179 :: u180 :: u181 :: u182 :: u183 :: u184 :: u185 :: u186 :: u187 :: u188 :: u189 :: u190 :: u191 :: u192 :: u193 :: u194 :: u195 :: u196 :: u197 :: u198 :: u199 :: u200 :: u201 :: u202 :: u203 :: u204 :: u205 :: u206 :: u207 :: u208 :: u209 :: u210 :: u211 :: u212 :: u213 :: u214 :: u215 :: u216 :: u217 :: u218 :: u219 :: u220 :: u221 :: u222 :: u223 :: u224 :: u225 :: u226 :: []), []⟩ wr := by
  obtain ⟨Ac, cc, rfl, hcc⟩ := own_form hst.st.checks
  obtain ⟨iC, hiC, zC0, zC1, zC2⟩ := info_parts checkInfo
  have s0 := hst.blk.cell 0
  have s1 := hst.blk.cell 1
  have s2 := hst.blk.cell 2
  have s3 := hst.blk.cell 3
  have s4 := hst.blk.cell 4
  have q6 := hst.st.blk.cell 6
  conv => arg 2; whnf
  go_wp2_with (at_builtin; refine wpList_append_lies _ rfl _ _ _ rfl w.heap.size 67 iC (.agg #[.int .i64 0, .int .i64 0, .int .i64 0, .int .i64 0, .int .i64 0]) 5 40 Try.underlying27 hiC zC0 zC1 zC2 rfl (by decide) (.slice Ac cs.length cc) cs.length _ rfl (own_alloc hst.st.checks _) ⟨wr.heap.size, 0, none⟩ 1 1 [.int .i64 x0, .int .i64 x1, .int .i64 x2, .int .i64 x3, .int .i64 x4] rfl rfl (cells_new wr [.int .i64 x0, .int .i64 x1, .int .i64 x2, .int .i64 x3, .int .i64 x4] 67) (by simp [Value.oneCell']) (by omega) (by unfold maxLen; omega) (by omega) (by have := hst.st.lt; simp; omega) (wr.heap.size + 1) (by simp) ?_; intro g6 cap6 w6 hown6 hgrow6 _ _; have hb6 := (hst.st.up (below_new _ _)).pbOf (own_alloc hst.st.checks _) (by decide) hgrow6; have q6 := hb6.cell 6; have f6 := hb6.frozen 6)
  exact ⟨_, (hst.st.up (below_new wr (.cells #[.int .i64 x0, .int .i64 x1, .int .i64 x2, .int .i64 x3, .int .i64 x4] 67))).pushCheck (x := ⟨x0, x1, x2, x3, x4⟩) hown6 hgrow6, hst.ok⟩
end Go.Proofs.Ytlfdpfkimggeoaa
namespace Go.Proofs.Ytlfdpfkimggeoaa
open Go.RowKit
set_option linter.unusedVariables false

theorem hstep_is {n nd i : Nat} {l : List Int} {cs : List PCheck} {L0 L1 L2 L3 L4 L5 : List Int} {kd no dx : Nat} {li o : Int} (H : Hid (checksG n nd l (i + 1) = checkG n nd (cs, L0))) (bk : kd < 4) (h1 : Hid (nx L0 4 = kd)) (t1 : Hid (L0.tail = L1)) (h2 : Hid (nx L1 n = no)) (t2 : Hid (L1.tail = L2)) (h3 : Hid (nx L2 nd = dx)) (t3 : Hid (L2.tail = L3))
    (h4 : Hid (limG kd L3 = (li, L4))) (h5 : Hid (othG kd n L4 = (o, L5))) : Hid (checksG n nd l (i + 1) = (cs ++ [⟨1 + (kd : Int), no, dx, li, o⟩], L5)) :=
  Lib.hid (H.out.trans (checkG_is bk h1.out t1.out h2.out t2.out h3.out t3.out h4.out h5.out))

set_option maxHeartbeats 16000000 in
set_option maxRecDepth 100000 in
theorem net_rest13 (l : List Int) (w wr : World) (L : List Int) (v4 : Nat) (bv4 : v4 < 6) (pr ca K0 : Int) (vn vl vd : Value) (ns : List PNode) (ls : List PLink) (ds : List PDest)
    (hdl1 : 0 < ds.length) (hdl2 : ds.length ≤ 2)
    (hst : NetSt w (w.heap.size + 1) (w.heap.size + 1 + 1) L pr ca K0 vn vl vd (.slice none 0 0) ns ls ds [] wr) (hok : SrcOk L)
    (HN : Hid (netOf l = ⟨pr, ca, K0, ns, ls, ds, (checksG (2 + v4) ds.length L.tail (nx L 7)).1⟩))
    (u0 u1 u5 u7 u8 u9 u10 u11 u12 u13 u14 u15 u16 u17 u18 u19 u20 u21 u22 u23 u24 u25 u26 u27 u28 u29 u30 u31 u32 u33 u34 u35 u36 u37 u38 u39 u40 u41 u42 u43 u44 u45 u46 u47 u48 u49 u50 u51 u52 u53 u54 u55 u56 u57 u58 u59 u60 u61 u62 u63 u64 u65 u66 u67 u68 u69 u70 u71 u72 u73 u74 u75 u76 u77 u78 u79 u80 u81 u82 u83 u84 u85 u86 u87 u88 u89 u90 u91 u92 u93 u94 u95 u96 u97 u98 u99 u100 u101 u102 u103 u104 u105 u106 u107 u108 u109 u110 u111 u112 u113 u114 u115 u116 u117 u118 u119 u120 u121 u122 u123 u124 u125 u126 u127 u128 u129 u130 u131 u132 u133 u134 u135 u136 u137 u138 u139 u140 u141 u142 u143 u144 u145 u146 u147 u148 u149 u150 u151 u152 u153 u154 u155 u156 u157 u158 u159 u160 u161 u162 u163 u164 u165 u166 u167 u168 u169 u170 u171 u172 u173 u174 u175 u176 u177 u178 u179 u180 u181 u182 u183 u184 u185 u186 u187 u188 u189 u190 u191 u192 u193 u194 u195 u196 u197 u198 u199 u200 u201 u202 u203 u204 u205 u206 u207 u208 u209 u210 u211 u212 u213 u214 u215 u216 u217 u218 u219 u220 u221 u222 u223 u224 u225 u226 : Value) :
    Code.wp Try.prog (netC [true, true, true, true, true, true, true, true, true, true, true, true, true]) (bodyPost Try.prog Try.f7 (NetAs (netOf l) w)) ⟨List.toArray (u0 :: u1 :: .pointer (some ⟨w.heap.size, 0, none⟩) :: .pointer (some ⟨w.heap.size + 1, 0, none⟩) :: .pointer (some ⟨w.heap.size + 1 + 1, 0, none⟩) :: u5 :: .int .i64 (2 + (v4 : Int)) :: u7 :: u8 :: u9 :: u10 :: u11 :: u12 :: u13 :: u14 :: u15 :: u16 :: u17 :: u18 :: u19 :: u20 :: u21 :: u22 :: u23 :: u24 :: u25 :: u26 :: u27 :: u28 :: u29 :: u30 :: u31 :: u32 :: u33 :: u34 :: u35 :: u36 :: u37 :: u38 :: u39 :: u40 :: u41 :: u42 :: u43 :: u44 :: u45 :: u46 :: u47 :: u48 :: u49 :: u50 :: u51 :: u52 :: u53 :: u54 :: u55 :: u56 :: u57 :: u58 :: u59 :: u60 :: u61 :: u62 :: u63 :: u64 :: u65 :: u66 :: u67 :: u68 :: u69 :: u70 :: u71 :: u72 :: u73 :: u74 :: u75 :: u76 :: u77 :: u78 :: u79 :: u80 :: u81 :: u82 :: u83 :: u84 :: u85 :: u86 :: u87 :: u88 :: u89 :: u90 :: u91 :: u92 :: u93 :: u94 :: u95 :: u96 :: u97 :: u98 :: u99 :: u100 :: u101 :: u102 :: u103 :: u104 :: u105 :: u106 :: u107 :: u108 :: u109 :: u110 :: u111 :: u112 :: u113 :: u114 :: u115 :: u116 :: u117 :: u118 :: u119 :: u120 :: u121 :: u122 :: u123 :: u124 :: u125 :: u126 :: u127 :: u128 :: u129 :: u130 :: u131 :: u132 :: u133 :: u134 :: u135 :: u136 :: u137 :: u138 :: u139 :: u140 :: u141 :: u142 :: u143 :: u144 :: u145 :: u146 :: u147 :: u148 :: u149 :: u150 :: u151 :: u152 :: u153 :: u154 :: u155 :: u156 :: u157 :: u158 :: u159 :: u160 :: u161 :: u162 :: u163 :: u164 :: u165 :: u166 :: u167 :: u168 :: u169 :: u170 :: u171 :: u172 :: u173 :: u174 :: u175 :: u176 :: u177 :: u178 :: u179 :: u180 :: u181 :: u182 :: u183 :: u184 :: u185 :: u186 :: u187 :: u188 :: u189 :: u190 :: u191 :: u192 :: u193 :: u194 :: u195 :: u196 :: u197 :: u198 :: u199 :: u200 :: u201 :: u202 :: u203 :: u204 :: u205 :: u206 :: u207 :: u208 :: u209 :: u210 :: u211 :: u212 :: u213 :: u214 :: u215 :: u216 :: u217 :: u218 :: u219 :: u220 :: u221 :: u222 :: u223 :: u224 :: u225 :: u226 :: []), []⟩ wr := by
  obtain ⟨v7, HV7, bv7⟩ := ex_nx L 7 (by omega)
  obtain ⟨l7, HL7⟩ := ex_tail L
  have HN2 : Hid (netOf l = ⟨pr, ca, K0, ns, ls, ds, (checksG (2 + v4) ds.length l7 v7).1⟩) := Lib.hid (by rw [HN.out, HV7.out, HL7.out])
  clear HN
  obtain ⟨_, _, ve2, _⟩ := hst.dests
  obtain ⟨Ad, cd, rfl, hcd⟩ := own_form ve2
  clear ve2
  conv => arg 2; whnf
  go_wp2_with (go_at_call 32; (with_reducible refine (next_st 7 7 v7 l7 HV7 HL7 hst hok rfl (by omega) (by omega)).mono ?_); clear hst hok; rintro e w7 ⟨rfl, hst, hok, -⟩)
  go_loopg [17, 18] v7 (fun gg s17 _ wr => ∃ (i : Nat) (vc : Value), i ≤ v7 ∧ v7 - i ≤ gg ∧ s17 = .int .i64 ((v7 : Int) - (i : Int)) ∧ NetSt w (w.heap.size + 1) (w.heap.size + 1 + 1) (checksG (2 + v4) ds.length l7 i).2 pr ca K0 vn vl (.slice Ad ds.length cd) vc ns ls ds (checksG (2 + v4) ds.length l7 i).1 wr ∧ SrcOk (checksG (2 + v4) ds.length l7 i).2)
  case atStart => exact ⟨0, _, Nat.zero_le _, by omega, congrArg (Value.int .i64) (by omega), hst, hok⟩
  case round =>
    clear hst hok
    obtain ⟨i, vc, hi, hgg, rfl, hst, hok⟩ := hrel
    by_cases hlt : i < v7
    · skip
      as_aux_lemma =>
      obtain ⟨S, hS⟩ : ∃ S, checksG (2 + v4) ds.length l7 i = S := ⟨_, rfl⟩
      obtain ⟨cs, L0⟩ := S
      have hcl : cs.length = i := by
        have := (checksG_ok (2 + v4) ds.length l7 (by omega) hdl1 i).2
        rw [hS] at this
        exact this
      have hstep : checksG (2 + v4) ds.length l7 (i + 1) = checkG (2 + v4) ds.length (cs, L0) := by rw [checksG, hS]
      rw [hS] at hst hok
      dsimp only at hst hok
      obtain ⟨kd, HK1, bk1⟩ := ex_nx L0 4 (by omega)
      obtain ⟨L1, HT1⟩ := ex_tail L0
      obtain ⟨nd, HK2, bk2⟩ := ex_nx L1 (2 + v4) (by omega)
      obtain ⟨L2, HT2⟩ := ex_tail L1
      obtain ⟨dx, HK3, bk3⟩ := ex_nx L2 ds.length hdl1
      obtain ⟨L3, HT3⟩ := ex_tail L2
      have hlt' : (0 : Int) < (v7 : Int) - (i : Int) := by omega
      have HSTEP := Lib.hid hstep
      have hcl2 : cs.length ≤ 6 := by omega
      clear hS hstep hcl
      go_upto_region 45 with fail
      refine wp_goes_on (net_p45 w wr L0 L1 L2 L3 v4 kd nd dx bv4 pr ca K0 vn vl vc Ad cd ns ls ds cs hdl1 hdl2 HK1 bk1 HT1 HK2 HT2 HK3 HT3 hst hok _ _ _ _ _ _ _ _ _ _ _ _ _ _ _ _ _ _ _ _ _ _ _ _ _ _ _ _ _ _ _ _ _ _ _ _ _ _ _ _ _ _ _ _ _ _ _ _ _ _ _ _ _ _ _ _ _ _ _ _ _ _ _ _ _ _ _ _ _ _ _ _ _ _ _ _ _ _ _ _ _ _ _ _ _ _ _ _ _ _ _ _ _ _ _ _ _ _ _ _ _ _ _ _ _ _ _ _ _ _ _ _ _ _ _ _ _ _ _ _ _ _ _ _ _ _ _ _ _ _ _ _ _ _ _ _ _ _ _ _ _ _ _ _ _ _ _ _ _ _ _ _ _ _ _ _ _ _ _ _ _ _ _ _ _ _ _ _ _ _ _ _ _ _ _ _ _ _ _ _ _ _ _ _ _ _ _ _ _ _ _ _ _ _ _ _ _ _ _ _ _ _ _ _ _ _ _ _ _ _ _ _ _ _ _ _ _ _ _ _ _ _ _ _ ?_)
      clear hst hok
      intro b wx
      intros
      rename_i hch
      go_step
      go_step
      refine wp_goes_on (net_p46 w wx L3 v4 kd nd dx b pr ca K0 vn vl _ vc ns ls ds cs bk1 hch _ _ _ _ _ _ _ _ _ _ _ _ _ _ _ _ _ _ _ _ _ _ _ _ _ _ _ _ _ _ _ _ _ _ _ _ _ _ _ _ _ _ _ _ _ _ _ _ _ _ _ _ _ _ _ _ _ _ _ _ _ _ _ _ _ _ _ _ _ _ _ _ _ _ _ _ _ _ _ _ _ _ _ _ _ _ _ _ _ _ _ _ _ _ _ _ _ _ _ _ _ _ _ _ _ _ _ _ _ _ _ _ _ _ _ _ _ _ _ _ _ _ _ _ _ _ _ _ _ _ _ _ _ _ _ _ _ _ _ _ _ _ _ _ _ _ _ _ _ _ _ _ _ _ _ _ _ _ _ _ _ _ _ _ _ _ _ _ _ _ _ _ _ _ _ _ _ _ _ _ _ _ _ _ _ _ _ _ _ _ _ _ _ _ _ _ _ _ _ _ _ _ _ _ _ _ _ _ _ _ _ _ _ _ _ _ _ _ _ _ _ _ _ ?_)
      clear hch
      intro wx
      intros
      rename_i hch
      obtain ⟨li, L4, HG4, hch⟩ := hch
      go_step
      go_step
      refine wp_goes_on (net_p48 w wx L4 v4 kd nd dx b li pr ca K0 vn vl _ vc ns ls ds cs bk1 bv4 hch _ _ _ _ _ _ _ _ _ _ _ _ _ _ _ _ _ _ _ _ _ _ _ _ _ _ _ _ _ _ _ _ _ _ _ _ _ _ _ _ _ _ _ _ _ _ _ _ _ _ _ _ _ _ _ _ _ _ _ _ _ _ _ _ _ _ _ _ _ _ _ _ _ _ _ _ _ _ _ _ _ _ _ _ _ _ _ _ _ _ _ _ _ _ _ _ _ _ _ _ _ _ _ _ _ _ _ _ _ _ _ _ _ _ _ _ _ _ _ _ _ _ _ _ _ _ _ _ _ _ _ _ _ _ _ _ _ _ _ _ _ _ _ _ _ _ _ _ _ _ _ _ _ _ _ _ _ _ _ _ _ _ _ _ _ _ _ _ _ _ _ _ _ _ _ _ _ _ _ _ _ _ _ _ _ _ _ _ _ _ _ _ _ _ _ _ _ _ _ _ _ _ _ _ _ _ _ _ _ _ _ _ _ _ _ _ _ _ _ _ _ _ _ ?_)
      clear hch
      intro wx
      intros
      rename_i hch
      obtain ⟨o, L5, HG5, hch⟩ := hch
      have hd := hstep_is HSTEP bk1 HK1 HT1 HK2 HT2 HK3 HT3 HG4 HG5
      go_step
      refine net_p50 w wx L5 v4 b _ _ _ _ _ pr ca K0 vn vl _ vc ns ls ds cs hcl2 hch _ _ _ _ _ _ _ _ _ _ _ _ _ _ _ _ _ _ _ _ _ _ _ _ _ _ _ _ _ _ _ _ _ _ _ _ _ _ _ _ _ _ _ _ _ _ _ _ _ _ _ _ _ _ _ _ _ _ _ _ _ _ _ _ _ _ _ _ _ _ _ _ _ _ _ _ _ _ _ _ _ _ _ _ _ _ _ _ _ _ _ _ _ _ _ _ _ _ _ _ _ _ _ _ _ _ _ _ _ _ _ _ _ _ _ _ _ _ _ _ _ _ _ _ _ _ _ _ _ _ _ _ _ _ _ _ _ _ _ _ _ _ _ _ _ _ _ _ _ _ _ _ _ _ _ _ _ _ _ _ _ _ _ _ _ _ _ _ _ _ _ _ _ _ _ _ _ _ _ _ _ _ _ _ _ _ _ _ _ _ _ _ _ _ _ _ _ _ _ _ _ _ _ _ _ _ _ _ _ _ _ _ _ _ _ _ _ _ _ _ _ _ _ ?_
      clear hch
      intro wx
      intros
      rename_i hch
      obtain ⟨vc', hst, hok⟩ := hch
      go_wp2_with fail
      go_roundg (v7 - (i + 1))
      case measure => omega
      case rel => exact ⟨i + 1, vc', by omega, by omega, congrArg (Value.int .i64) (by omega), by rw [hd.out]; exact hst, by rw [hd.out]; exact hok⟩
    · as_aux_lemma =>
      obtain rfl : i = v7 := by omega
      have hgt : ¬ (0 : Int) < (i : Int) - (i : Int) := by omega
      repeat (first | exact net_rest14 l w wr _ pr ca K0 vn vl _ vc ns ls ds _ hst HN2 _ _ _ _ _ _ _ _ _ _ _ _ _ _ _ _ _ _ _ _ _ _ _ _ _ _ _ _ _ _ _ _ _ _ _ _ _ _ _ _ _ _ _ _ _ _ _ _ _ _ _ _ _ _ _ _ _ _ _ _ _ _ _ _ _ _ _ _ _ _ _ _ _ _ _ _ _ _ _ _ _ _ _ _ _ _ _ _ _ _ _ _ _ _ _ _ _ _ _ _ _ _ _ _ _ _ _ _ _ _ _ _ _ _ _ _ _ _ _ _ _ _ _ _ _ _ _ _ _ _ _ _ _ _ _ _ _ _ _ _ _ _ _ _ _ _ _ _ _ _ _ _ _ _ _ _ _ _ _ _ _ _ _ _ _ _ _ _ _ _ _ _ _ _ _ _ _ _ _ _ _ _ _ _ _ _ _ _ _ _ _ _ _ _ _ _ _ _ _ _ _ _ _ _ _ _ _ _ _ _ _ _ _ _ _ _ _ _ _ _ _ _ _ _ | go_values | go_skip | go_guarded | go_step | go_upon)
end Go.Proofs.Ytlfdpfkimggeoaa
namespace Go.Proofs.Ytlfdpfkimggeoaa
open Go.RowKit
set_option linter.unusedVariables false

/-- The destination's block is there, with its numbers; all else is as it was, but for the source. -/
structure DSt (B : Nat) (L : List Int) (wr : World) (nm : ByteArray) (g m cap : Nat) (xs : List Int) (w : World) : Prop where
  src : SrcAt B (B + 1) L w
  turned : Turned (B + 1) wr w
  blk : Blk w (wr.heap.size + 1) 65 #[.string nm, .slice (some ⟨g, 0, none⟩) m cap]
  own : w.ownsRow wr.heap.size 3 1 (.slice (some ⟨g, 0, none⟩) m cap) m (xs.map (Value.int .i64))
  ok : SrcOk L
  lo : B + 1 < wr.heap.size

/-- A destination's numbers, and what is left. -/
def origG (n o : Nat) (L : List Int) : List Int × List Int := if nx L 3 = 0 ∧ o + 1 < n then ([(o : Int), (o : Int) + 1 + (nx L.tail (n - o - 1) : Int)], L.tail.tail) else ([(o : Int)], L.tail)
theorem destG_is (n : Nat) (ds : List PDest) (L : List Int) : destG n (ds, L) = (ds ++ [⟨dnG ds.length, (origG n (nx L n) L.tail).1⟩], (origG n (nx L n) L.tail).2) := by
  unfold destG origG
  dsimp only
  by_cases h : nx L.tail 3 = 0 ∧ nx L n + 1 < n
  · rw [if_pos h, if_pos h]; rfl
  · rw [if_neg h, if_neg h]

theorem next_d {B : Nat} {L : List Int} {wr : World} {nm : ByteArray} {g m cap : Nat} {xs : List Int} {w : World} (n : Int) (k v : Nat) (L' : List Int) (HV : Hid (nx L k = v)) (HT : Hid (L.tail = L')) (h : DSt B L wr nm g m cap xs w) (hn : n = (k : Int)) (h0 : 0 < k) (hm : k ≤ 4096) :
    Calls Try.prog 32 #[.pointer (some ⟨B + 1, 0, none⟩), .int .i64 n] w fun e w' => e = .returned (.int .i64 (v : Int)) ∧ DSt B L' wr nm g m cap xs w' :=
  (next_src n k v L' HV HT h.src h.ok.1 h.ok.2 (by omega) hn h0 hm).mono fun _ _ ⟨he, hs, ht⟩ => ⟨he, hs, h.turned.trans ht, ht.blk h.blk (by have := h.lo; omega), ht.own h.own (by have := own_ge h.own; have := h.lo; simp [Value.ownBlock]; omega), by rw [← HT.out]; exact h.ok.tail, h.lo⟩

theorem DSt.push {B : Nat} {L : List Int} {wr : World} {nm : ByteArray} {g m cap : Nat} {xs : List Int} {wz w6 : World} (h : DSt B L wr nm g m cap xs wz) (ob : Obj) {g2 m2 cap2 : Nat} {ys : List Int} (ho : w6.ownsRow wr.heap.size 3 1 (.slice (some ⟨g2, 0, none⟩) m2 cap2) m2 (ys.map (Value.int .i64))) (hg : (wz.alloc ob).grownBy w6 (Value.slice (some ⟨g, 0, none⟩) m cap).ownBlock) :
    DSt B L wr nm g2 m2 cap2 ys (w6.setCell ⟨wr.heap.size + 1, 1, none⟩ (.slice (some ⟨g2, 0, none⟩) m2 cap2)) := by
  have hge := own_ge h.own
  have hsz := h.turned.grown.size
  have hlo := h.lo
  have hdb6 := (h.blk.alloc ob).grown hg (fun e1 => own_blk_ne h.own h.blk (by decide) e1.symm)
  exact ⟨((h.src.up (by omega) (below_new wz ob)).far hg (by simp; omega) (fun g' hg' => by simp [Value.ownBlock] at hg'; omega)).setFar (p := ⟨wr.heap.size + 1, 1, none⟩) (by show B + 1 ≠ wr.heap.size + 1; omega) (by show B ≤ wr.heap.size + 1; omega) _,
    ((h.turned.up (below_new wz ob)).grownNew hg (fun g' hg' => by simp [Value.ownBlock] at hg'; omega)).setNew (p := ⟨wr.heap.size + 1, 1, none⟩) (by show wr.heap.size ≤ wr.heap.size + 1; omega) _, hdb6.set_ 1 _, own_set ho hdb6 (by decide) 1 _, h.ok, h.lo⟩

set_option maxHeartbeats 4000000 in
set_option maxRecDepth 100000 in
theorem net_p39 (w wr wy : World) (L1 : List Int) (v4 o : Nat) (bv4 : v4 < 6) (bo : o < 2 + v4) (nm : ByteArray) (g cap : Nat) (xs : List Int)
    (hst : DSt w.heap.size L1 wr nm g 1 cap xs wy)
    (K : Act → World → Prop) (c14 : Value) (u0 u1 u5 u7 u8 u9 u10 u11 u12 u13 u17 u18 u19 u20 u21 u22 u23 u24 u25 u26 u27 u28 u29 u30 u31 u32 u33 u34 u35 u36 u37 u38 u39 u40 u41 u42 u43 u44 u45 u46 u47 u48 u49 u50 u51 u52 u53 u54 u55 u56 u57 u58 u59 u60 u61 u62 u63 u64 u65 u66 u67 u68 u69 u70 u71 u72 u73 u74 u75 u76 u77 u78 u79 u80 u81 u82 u83 u84 u85 u86 u87 u88 u89 u90 u91 u92 u93 u94 u95 u96 u97 u98 u99 u100 u101 u102 u103 u104 u105 u106 u107 u108 u109 u110 u111 u112 u113 u114 u115 u116 u117 u118 u119 u120 u121 u122 u123 u124 u125 u126 u127 u128 u129 u130 u131 u132 u133 u134 u135 u136 u137 u138 u139 u140 u141 u142 u143 u144 u145 u146 u147 u148 u149 u150 u151 u152 u153 u154 u155 u156 u157 u158 u159 u160 u161 u162 u163 u164 u165 u166 u167 u168 u169 u170 u171 u172 u173 u174 u175 u176 u177 u178 u179 u180 u181 u182 u183 u184 u185 u186 u187 u188 u189 u190 u191 u192 u193 u194 u195 u196 u197 u198 u199 u200 u201 u202 u203 u204 u205 u206 u207 u208 u209 u210 u211 u212 u213 u214 u215 u216 u217 u218 u219 u220 u221 u222 u223 u224 u225 u226 : Value)
    (hK : ∀ (wx : World) (c163 : Value) (u155 u156 u157 u158 u159 u160 u161 u162 : Value), (∃ (t : Bool) (L2 : List Int), c163 = .bool t ∧ Hid (L1.tail = L2) ∧ Hid (t = decide (nx L1 3 = 0 ∧ o + 1 < 2 + v4)) ∧ DSt w.heap.size L2 wr nm g 1 cap xs wx) → K ⟨List.toArray (u0 :: u1 :: .pointer (some ⟨w.heap.size, 0, none⟩) :: .pointer (some ⟨w.heap.size + 1, 0, none⟩) :: .pointer (some ⟨w.heap.size + 1 + 1, 0, none⟩) :: u5 :: .int .i64 (2 + (v4 : Int)) :: u7 :: u8 :: u9 :: u10 :: u11 :: u12 :: u13 :: c14 :: .pointer (some ⟨wr.heap.size + 1, 0, none⟩) :: .int .i64 (o : Int) :: u17 :: u18 :: u19 :: u20 :: u21 :: u22 :: u23 :: u24 :: u25 :: u26 :: u27 :: u28 :: u29 :: u30 :: u31 :: u32 :: u33 :: u34 :: u35 :: u36 :: u37 :: u38 :: u39 :: u40 :: u41 :: u42 :: u43 :: u44 :: u45 :: u46 :: u47 :: u48 :: u49 :: u50 :: u51 :: u52 :: u53 :: u54 :: u55 :: u56 :: u57 :: u58 :: u59 :: u60 :: u61 :: u62 :: u63 :: u64 :: u65 :: u66 :: u67 :: u68 :: u69 :: u70 :: u71 :: u72 :: u73 :: u74 :: u75 :: u76 :: u77 :: u78 :: u79 :: u80 :: u81 :: u82 :: u83 :: u84 :: u85 :: u86 :: u87 :: u88 :: u89 :: u90 :: u91 :: u92 :: u93 :: u94 :: u95 :: u96 :: u97 :: u98 :: u99 :: u100 :: u101 :: u102 :: u103 :: u104 :: u105 :: u106 :: u107 :: u108 :: u109 :: u110 :: u111 :: u112 :: u113 :: u114 :: u115 :: u116 :: u117 :: u118 :: u119 :: u120 :: u121 :: u122 :: u123 :: u124 :: u125 :: u126 :: u127 :: u128 :: u129 :: u130 :: u131 :: u132 :: u133 :: u134 :: u135 :: u136 :: u137 :: u138 :: u139 :: u140 :: u141 :: u142 :: u143 :: u144 :: u145 :: u146 :: u147 :: u148 :: u149 :: u150 :: u151 :: u152 :: u153 :: u154 :: u155 :: u156 :: u157 :: u158 :: u159 :: u160 :: u161 :: u162 :: c163 :: u164 :: u165 :: u166 :: u167 :: u168 :: u169 :: u170 :: u171 :: u172 :: u173 :: u174 :: u175 :: u176 :: u177 :: u178 :: u179 :: u180 :: u181 :: u182 :: u183 :: u184 :: u185 :: u186 :: u187 :: u188 :: u189 :: u190 :: u191 :: u192 :: u193 :: u194 :: u195 :: u196 :: u197 :: u198 :: u199 :: u200 :: u201 :: u202 :: u203 :: u204 :: u205 :: u206 :: u207 :: u208 :: u209 :: u210 :: u211 :: u212 :: u213 :: u214 :: u215 :: u216 :: u217 :: u218 :: u219 :: u220 :: u221 :: u222 :: u223 :: u224 :: u225 :: u226 :: []), []⟩ wx) :
    Code.wp Try.prog (netC [true, true, true, true, true, true, true, true, true, true, true, true, false, true, false, false, true, false, false, true, true, true, false, false]) (Exit.then K NoExit) ⟨List.toArray (u0 :: u1 :: .pointer (some ⟨w.heap.size, 0, none⟩) :: .pointer (some ⟨w.heap.size + 1, 0, none⟩) :: .pointer (some ⟨w.heap.size + 1 + 1, 0, none⟩) :: u5 :: .int .i64 (2 + (v4 : Int)) :: u7 :: u8 :: u9 :: u10 :: u11 :: u12 :: u13 :: c14 :: .pointer (some ⟨wr.heap.size + 1, 0, none⟩) :: .int .i64 (o : Int) :: u17 :: u18 :: u19 :: u20 :: u21 :: u22 :: u23 :: u24 :: u25 :: u26 :: u27 :: u28 :: u29 :: u30 :: u31 :: u32 :: u33 :: u34 :: u35 :: u36 :: u37 :: u38 :: u39 :: u40 :: u41 :: u42 :: u43 :: u44 :: u45 :: u46 :: u47 :: u48 :: u49 :: u50 :: u51 :: u52 :: u53 :: u54 :: u55 :: u56 :: u57 :: u58 :: u59 :: u60 :: u61 :: u62 :: u63 :: u64 :: u65 :: u66 :: u67 :: u68 :: u69 :: u70 :: u71 :: u72 :: u73 :: u74 :: u75 :: u76 :: u77 :: u78 :: u79 :: u80 :: u81 :: u82 :: u83 :: u84 :: u85 :: u86 :: u87 :: u88 :: u89 :: u90 :: u91 :: u92 :: u93 :: u94 :: u95 :: u96 :: u97 :: u98 :: u99 :: u100 :: u101 :: u102 :: u103 :: u104 :: u105 :: u106 :: u107 :: u108 :: u109 :: u110 :: u111 :: u112 :: u113 :: u114 :: u115 :: u116 :: u117 :: u118 :: u119 :: u120 :: u121 :: u122 :: u123 :: u124 :: u125 :: u126 :: u127 :: u128 :: u129 :: u130 :: u131 :: u132 :: u133 :: u134 :: u135 :: u136 :: u137 :: u138 :: u139 :: u140 :: u141 :: u142 :: u143 :: u144 :: u145 :: u146 :: u147 :: u148 :: u149 :: u150 :: u151 :: u152 :: u153 :: u154 :: u155 :: u156 :: u157 :: u158 :: u159 :: u160 :: u161 :: u162 :: u163 :: u164 :: u165 :: u166 :: u167 :: u168 :: u169 :: u170 :: u171 :: u172 :: u173 :: u174 :: u175 :: u176 :: u177 :: u178 :: u179 :: u180 :: u181 :: u182 :: u183 :: u184 :: u185 :: u186 :: u187 :: u188 :: u189 :: u190 :: u191 :: u192 :: u193 :: u194 :: u195 :: u196 :: u197 :: u198 :: u199 :: u200 :: u201 :: u202 :: u203 :: u204 :: u205 :: u206 :: u207 :: u208 :: u209 :: u210 :: u211 :: u212 :: u213 :: u214 :: u215 :: u216 :: u217 :: u218 :: u219 :: u220 :: u221 :: u222 :: u223 :: u224 :: u225 :: u226 :: []), []⟩ wy := by
  obtain ⟨z, HZ, bz⟩ := ex_nx L1 3 (by omega)
  obtain ⟨L2, HT2⟩ := ex_tail L1
  conv => arg 2; whnf
  by_cases hz : z = 0
  · subst hz
    by_cases ho : o + 1 < 2 + v4
    · have ho1 : (o : Int) + 1 < 2 + (v4 : Int) := by omega
      have HD : Hid (true = decide (nx L1 3 = 0 ∧ o + 1 < 2 + v4)) := Lib.hid (by rw [HZ.out]; simp [ho])
      clear ho
      go_wp2_with ((go_at_call 32; (with_reducible refine (next_d 3 3 0 L2 HZ HT2 hst (by omega) (by omega) (by omega)).mono ?_); rintro e w1 ⟨rfl, hst1⟩))
      exact ⟨_, L2, rfl, HT2, HD, hst1⟩
    · have ho1 : ¬ (o : Int) + 1 < 2 + (v4 : Int) := by omega
      have ho2 : decide ((o : Int) + 1 < 2 + (v4 : Int)) = false := by simp; omega
      have HD : Hid (false = decide (nx L1 3 = 0 ∧ o + 1 < 2 + v4)) := Lib.hid (by rw [HZ.out]; simp [ho])
      clear ho
      go_wp2_with ((go_at_call 32; (with_reducible refine (next_d 3 3 0 L2 HZ HT2 hst (by omega) (by omega) (by omega)).mono ?_); rintro e w1 ⟨rfl, hst1⟩))
      exact ⟨_, L2, rfl, HT2, HD, hst1⟩
  · have hz1 : ((z : Int) == 0) = false := by simp; omega
    have HD : Hid (false = decide (nx L1 3 = 0 ∧ o + 1 < 2 + v4)) := Lib.hid (by rw [HZ.out]; simp [hz])
    clear hz
    go_wp2_with ((go_at_call 32; (with_reducible refine (next_d 3 3 z L2 HZ HT2 hst (by omega) (by omega) (by omega)).mono ?_); rintro e w1 ⟨rfl, hst1⟩))
    exact ⟨_, L2, rfl, HT2, HD, hst1⟩

set_option maxHeartbeats 4000000 in
set_option maxRecDepth 100000 in
theorem net_p40 (w wr wy : World) (L1 L2 : List Int) (v4 o : Nat) (bv4 : v4 < 6) (bo : o < 2 + v4) (nm : ByteArray) (g cap : Nat) (t : Bool) (HT2 : Hid (L1.tail = L2)) (HD : Hid (t = decide (nx L1 3 = 0 ∧ o + 1 < 2 + v4)))
    (hst : DSt w.heap.size L2 wr nm g 1 cap [(o : Int)] wy)
    (K : Act → World → Prop) (c14 : Value) (u0 u1 u5 u7 u8 u9 u10 u11 u12 u13 u17 u18 u19 u20 u21 u22 u23 u24 u25 u26 u27 u28 u29 u30 u31 u32 u33 u34 u35 u36 u37 u38 u39 u40 u41 u42 u43 u44 u45 u46 u47 u48 u49 u50 u51 u52 u53 u54 u55 u56 u57 u58 u59 u60 u61 u62 u63 u64 u65 u66 u67 u68 u69 u70 u71 u72 u73 u74 u75 u76 u77 u78 u79 u80 u81 u82 u83 u84 u85 u86 u87 u88 u89 u90 u91 u92 u93 u94 u95 u96 u97 u98 u99 u100 u101 u102 u103 u104 u105 u106 u107 u108 u109 u110 u111 u112 u113 u114 u115 u116 u117 u118 u119 u120 u121 u122 u123 u124 u125 u126 u127 u128 u129 u130 u131 u132 u133 u134 u135 u136 u137 u138 u139 u140 u141 u142 u143 u144 u145 u146 u147 u148 u149 u150 u151 u152 u153 u154 u155 u156 u157 u158 u159 u160 u161 u162 u164 u165 u166 u167 u168 u169 u170 u171 u172 u173 u174 u175 u176 u177 u178 u179 u180 u181 u182 u183 u184 u185 u186 u187 u188 u189 u190 u191 u192 u193 u194 u195 u196 u197 u198 u199 u200 u201 u202 u203 u204 u205 u206 u207 u208 u209 u210 u211 u212 u213 u214 u215 u216 u217 u218 u219 u220 u221 u222 u223 u224 u225 u226 : Value)
    (hK : ∀ (wx : World) (u163 u164 u165 u166 u167 u168 u169 u170 u171 u172 u173 u174 u175 u176 u177 : Value), (∃ (g' m' cap' : Nat), DSt w.heap.size (origG (2 + v4) o L1).2 wr nm g' m' cap' (origG (2 + v4) o L1).1 wx) → K ⟨List.toArray (u0 :: u1 :: .pointer (some ⟨w.heap.size, 0, none⟩) :: .pointer (some ⟨w.heap.size + 1, 0, none⟩) :: .pointer (some ⟨w.heap.size + 1 + 1, 0, none⟩) :: u5 :: .int .i64 (2 + (v4 : Int)) :: u7 :: u8 :: u9 :: u10 :: u11 :: u12 :: u13 :: c14 :: .pointer (some ⟨wr.heap.size + 1, 0, none⟩) :: .int .i64 (o : Int) :: u17 :: u18 :: u19 :: u20 :: u21 :: u22 :: u23 :: u24 :: u25 :: u26 :: u27 :: u28 :: u29 :: u30 :: u31 :: u32 :: u33 :: u34 :: u35 :: u36 :: u37 :: u38 :: u39 :: u40 :: u41 :: u42 :: u43 :: u44 :: u45 :: u46 :: u47 :: u48 :: u49 :: u50 :: u51 :: u52 :: u53 :: u54 :: u55 :: u56 :: u57 :: u58 :: u59 :: u60 :: u61 :: u62 :: u63 :: u64 :: u65 :: u66 :: u67 :: u68 :: u69 :: u70 :: u71 :: u72 :: u73 :: u74 :: u75 :: u76 :: u77 :: u78 :: u79 :: u80 :: u81 :: u82 :: u83 :: u84 :: u85 :: u86 :: u87 :: u88 :: u89 :: u90 :: u91 :: u92 :: u93 :: u94 :: u95 :: u96 :: u97 :: u98 :: u99 :: u100 :: u101 :: u102 :: u103 :: u104 :: u105 :: u106 :: u107 :: u108 :: u109 :: u110 :: u111 :: u112 :: u113 :: u114 :: u115 :: u116 :: u117 :: u118 :: u119 :: u120 :: u121 :: u122 :: u123 :: u124 :: u125 :: u126 :: u127 :: u128 :: u129 :: u130 :: u131 :: u132 :: u133 :: u134 :: u135 :: u136 :: u137 :: u138 :: u139 :: u140 :: u141 :: u142 :: u143 :: u144 :: u145 :: u146 :: u147 :: u148 :: u149 :: u150 :: u151 :: u152 :: u153 :: u154 :: u155 :: u156 :: u157 :: u158 :: u159 :: u160 :: u161 :: u162 :: u163 :: u164 :: u165 :: u166 :: u167 :: u168 :: u169 :: u170 :: u171 :: u172 :: u173 :: u174 :: u175 :: u176 :: u177 :: u178 :: u179 :: u180 :: u181 :: u182 :: u183 :: u184 :: u185 :: u186 :: u187 :: u188 :: u189 :: u190 :: u191 :: u192 :: u193 :: u194 :: u195 :: u196 :: u197 :: u198 :: u199 :: u200 :: u201 :: u202 :: u203 :: u204 :: u205 :: u206 :: u207 :: u208 :: u209 :: u210 :: u211 :: u212 :: u213 :: u214 :: u215 :: u216 :: u217 :: u218 :: u219 :: u220 :: u221 :: u222 :: u223 :: u224 :: u225 :: u226 :: []), []⟩ wx) :
    Code.wp Try.prog (netC [true, true, true, true, true, true, true, true, true, true, true, true, false, true, false, false, true, false, false, true, true, true, false, true]) (Exit.then K NoExit) ⟨List.toArray (u0 :: u1 :: .pointer (some ⟨w.heap.size, 0, none⟩) :: .pointer (some ⟨w.heap.size + 1, 0, none⟩) :: .pointer (some ⟨w.heap.size + 1 + 1, 0, none⟩) :: u5 :: .int .i64 (2 + (v4 : Int)) :: u7 :: u8 :: u9 :: u10 :: u11 :: u12 :: u13 :: c14 :: .pointer (some ⟨wr.heap.size + 1, 0, none⟩) :: .int .i64 (o : Int) :: u17 :: u18 :: u19 :: u20 :: u21 :: u22 :: u23 :: u24 :: u25 :: u26 :: u27 :: u28 :: u29 :: u30 :: u31 :: u32 :: u33 :: u34 :: u35 :: u36 :: u37 :: u38 :: u39 :: u40 :: u41 :: u42 :: u43 :: u44 :: u45 :: u46 :: u47 :: u48 :: u49 :: u50 :: u51 :: u52 :: u53 :: u54 :: u55 :: u56 :: u57 :: u58 :: u59 :: u60 :: u61 :: u62 :: u63 :: u64 :: u65 :: u66 :: u67 :: u68 :: u69 :: u70 :: u71 :: u72 :: u73 :: u74 :: u75 :: u76 :: u77 :: u78 :: u79 :: u80 :: u81 :: u82 :: u83 :: u84 :: u85 :: u86 :: u87 :: u88 :: u89 :: u90 :: u91 :: u92 :: u93 :: u94 :: u95 :: u96 :: u97 :: u98 :: u99 :: u100 :: u101 :: u102 :: u103 :: u104 :: u105 :: u106 :: u107 :: u108 :: u109 :: u110 :: u111 :: u112 :: u113 :: u114 :: u115 :: u116 :: u117 :: u118 :: u119 :: u120 :: u121 :: u122 :: u123 :: u124 :: u125 :: u126 :: u127 :: u128 :: u129 :: u130 :: u131 :: u132 :: u133 :: u134 :: u135 :: u136 :: u137 :: u138 :: u139 :: u140 :: u141 :: u142 :: u143 :: u144 :: u145 :: u146 :: u147 :: u148 :: u149 :: u150 :: u151 :: u152 :: u153 :: u154 :: u155 :: u156 :: u157 :: u158 :: u159 :: u160 :: u161 :: u162 :: .bool t :: u164 :: u165 :: u166 :: u167 :: u168 :: u169 :: u170 :: u171 :: u172 :: u173 :: u174 :: u175 :: u176 :: u177 :: u178 :: u179 :: u180 :: u181 :: u182 :: u183 :: u184 :: u185 :: u186 :: u187 :: u188 :: u189 :: u190 :: u191 :: u192 :: u193 :: u194 :: u195 :: u196 :: u197 :: u198 :: u199 :: u200 :: u201 :: u202 :: u203 :: u204 :: u205 :: u206 :: u207 :: u208 :: u209 :: u210 :: u211 :: u212 :: u213 :: u214 :: u215 :: u216 :: u217 :: u218 :: u219 :: u220 :: u221 :: u222 :: u223 :: u224 :: u225 :: u226 :: []), []⟩ wy := by
  cases t with
  | false =>
    have hno : ¬ (nx L1 3 = 0 ∧ o + 1 < 2 + v4) := by have := HD.out; simpa using this.symm
    have hg : origG (2 + v4) o L1 = ([(o : Int)], L2) := by unfold origG; rw [if_neg hno, HT2.out]
    rw [hg] at hK
    clear hg hno
    conv => arg 2; whnf
    go_wp2_with fail
    exact ⟨_, _, _, hst⟩
  | true =>
    have hyes : nx L1 3 = 0 ∧ o + 1 < 2 + v4 := by have := HD.out; simpa using this.symm
    obtain ⟨x2, HX2, bx2⟩ := ex_nx L2 (2 + v4 - o - 1) (by omega)
    obtain ⟨L3, HT3⟩ := ex_tail L2
    have hg : origG (2 + v4) o L1 = ([(o : Int), (o : Int) + 1 + (x2 : Int)], L3) := by unfold origG; rw [if_pos hyes, HT2.out, HT3.out, HX2.out]
    rw [hg] at hK
    have ho1 : (o : Int) + 1 < 2 + (v4 : Int) := by omega
    clear hg hyes HD
    obtain ⟨iI, hiI, zI0, zI1, zI2⟩ := info_parts numInfo
    have c4 := hst.blk.cell 1
    have hsz := hst.turned.grown.size
    have hlo := hst.lo
    have hD : DSt w.heap.size L2 wr nm g 1 cap [(o : Int)] wy.drew := ⟨hst.src.up (by omega) ((Below.refl _ wy).drew), hst.turned.up ((Below.refl _ wy).drew), hst.blk.up ((Below.refl _ wy).drew), own_below hst.own ((Below.refl _ wy).drew), hst.ok, hst.lo⟩
    have ww1 : IntKind.i64.wrap ((o : Int) + 1) = (o : Int) + 1 := IntWalk.i64_in _ (by omega)
    have ww2 : IntKind.i64.wrap (2 + (v4 : Int) - (o : Int)) = 2 + (v4 : Int) - (o : Int) := IntWalk.i64_in _ (by omega)
    have ww3 : IntKind.i64.wrap (2 + (v4 : Int) - (o : Int) - 1) = 2 + (v4 : Int) - (o : Int) - 1 := IntWalk.i64_in _ (by omega)
    have ww4 : IntKind.i64.wrap ((o : Int) + 1 + (x2 : Int)) = (o : Int) + 1 + (x2 : Int) := IntWalk.i64_in _ (by omega)
    have HONE : Hid (∀ u ∈ [Value.int .i64 ((o : Int) + 1 + (x2 : Int))], u.oneCell' = true) := Lib.hid (by simp [Value.oneCell'])
    have HMX : Hid (1 + 1 ≤ maxLen) := Lib.hid (by unfold maxLen; omega)
    have HBY : Hid ((1 + 1) * 8 ≤ 140737488355328) := Lib.hid (by omega)
    conv => arg 2; whnf
    go_upto_region 40 with fail
    go_region_law (first
      | (go_simp; go_at_call 32; (with_reducible refine (next_d (2 + (v4 : Int) - (o : Int) - 1) (2 + v4 - o - 1) x2 L3 HX2 HT3 hD (by omega) (by omega) (by omega)).mono ?_); rintro e wz ⟨rfl, hD5⟩; have c5 := hD5.blk.cell 1; have c5a := fun o1 => (hD5.blk.alloc o1).cell 1)
      | (refine step_append_lies _ rfl (.tmp 165) (.tmp 175) 22 rfl wr.heap.size 3 iI (.int .i64 0) 1 8 Try.underlying22 hiI zI0 zI1 zI2 rfl Nat.zero_lt_one (.slice (some ⟨g, 0, none⟩) 1 cap) 1 [.int .i64 (o : Int)] (by first | rfl | (apply rfl)) (own_alloc hD5.own _) ⟨wz.heap.size, 0, none⟩ 1 1 [.int .i64 ((o : Int) + 1 + (x2 : Int))] (by first | rfl | (apply rfl)) (by first | rfl | (apply rfl)) (World.news_of_block (cs := #[.int .i64 ((o : Int) + 1 + (x2 : Int))]) (t := 3) (fr := (0, 0)) (heap_alloc_new _ _)) HONE.out Nat.zero_lt_one HMX.out HBY.out (Nat.le_trans hD5.turned.grown.size (below_new _ _).size) (wz.heap.size + 1) (World.size_alloc _ _) ?_; intro g2 cap2 w6 hown6 hgrow6 _ _; have hdb6 := (hD5.blk.alloc (.cells #[.int .i64 ((o : Int) + 1 + (x2 : Int))] 3)).grown hgrow6 (fun e1 => own_blk_ne hD5.own hD5.blk (by decide) e1.symm); have c6 := hdb6.cell 1; have f6 := hdb6.frozen 1))
    all_goals go_step
    all_goals go_step
    all_goals exact ⟨_, _, _, hD5.push _ (ys := [(o : Int), (o : Int) + 1 + (x2 : Int)]) hown6 hgrow6⟩

set_option maxHeartbeats 4000000 in
set_option maxRecDepth 100000 in
theorem net_p41 (w wr wy : World) (L L' : List Int) (v4 o : Nat) (pr ca K0 : Int) (vn vl vd vc : Value) (ns : List PNode) (ls : List PLink) (ds : List PDest) (cs : List PCheck) (hdl : ds.length ≤ 2) (nm : ByteArray) (g m cap : Nat) (xs : List Int) (hxm : xs.length = m)
    (hst : NetSt w (w.heap.size + 1) (w.heap.size + 1 + 1) L pr ca K0 vn vl vd vc ns ls ds cs wr) (hD : DSt w.heap.size L' wr nm g m cap xs wy)
    (Q : Exit → Act → World → Prop) (c14 : Value) (u0 u1 u5 u7 u8 u9 u10 u11 u12 u13 u17 u18 u19 u20 u21 u22 u23 u24 u25 u26 u27 u28 u29 u30 u31 u32 u33 u34 u35 u36 u37 u38 u39 u40 u41 u42 u43 u44 u45 u46 u47 u48 u49 u50 u51 u52 u53 u54 u55 u56 u57 u58 u59 u60 u61 u62 u63 u64 u65 u66 u67 u68 u69 u70 u71 u72 u73 u74 u75 u76 u77 u78 u79 u80 u81 u82 u83 u84 u85 u86 u87 u88 u89 u90 u91 u92 u93 u94 u95 u96 u97 u98 u99 u100 u101 u102 u103 u104 u105 u106 u107 u108 u109 u110 u111 u112 u113 u114 u115 u116 u117 u118 u119 u120 u121 u122 u123 u124 u125 u126 u127 u128 u129 u130 u131 u132 u133 u134 u135 u136 u137 u138 u139 u140 u141 u142 u143 u144 u145 u146 u147 u148 u149 u150 u151 u152 u153 u154 u155 u156 u157 u158 u159 u160 u161 u162 u163 u164 u165 u166 u167 u168 u169 u170 u171 u172 u173 u174 u175 u176 u177 u178 u179 u180 u181 u182 u183 u184 u185 u186 u187 u188 u189 u190 u191 u192 u193 u194 u195 u196 u197 u198 u199 u200 u201 u202 u203 u204 u205 u206 u207 u208 u209 u210 u211 u212 u213 u214 u215 u216 u217 u218 u219 u220 u221 u222 u223 u224 u225 u226 : Value)
    (hK : ∀ (wx : World) (u178 u179 u180 u181 u182 u183 : Value), (∃ (vd' : Value), NetSt w (w.heap.size + 1) (w.heap.size + 1 + 1) L' pr ca K0 vn vl vd' vc ns ls (ds ++ [⟨nm, xs⟩]) cs wx ∧ SrcOk L') → Q .normal ⟨List.toArray (u0 :: u1 :: .pointer (some ⟨w.heap.size, 0, none⟩) :: .pointer (some ⟨w.heap.size + 1, 0, none⟩) :: .pointer (some ⟨w.heap.size + 1 + 1, 0, none⟩) :: u5 :: .int .i64 (2 + (v4 : Int)) :: u7 :: u8 :: u9 :: u10 :: u11 :: u12 :: u13 :: c14 :: .pointer (some ⟨wr.heap.size + 1, 0, none⟩) :: .int .i64 (o : Int) :: u17 :: u18 :: u19 :: u20 :: u21 :: u22 :: u23 :: u24 :: u25 :: u26 :: u27 :: u28 :: u29 :: u30 :: u31 :: u32 :: u33 :: u34 :: u35 :: u36 :: u37 :: u38 :: u39 :: u40 :: u41 :: u42 :: u43 :: u44 :: u45 :: u46 :: u47 :: u48 :: u49 :: u50 :: u51 :: u52 :: u53 :: u54 :: u55 :: u56 :: u57 :: u58 :: u59 :: u60 :: u61 :: u62 :: u63 :: u64 :: u65 :: u66 :: u67 :: u68 :: u69 :: u70 :: u71 :: u72 :: u73 :: u74 :: u75 :: u76 :: u77 :: u78 :: u79 :: u80 :: u81 :: u82 :: u83 :: u84 :: u85 :: u86 :: u87 :: u88 :: u89 :: u90 :: u91 :: u92 :: u93 :: u94 :: u95 :: u96 :: u97 :: u98 :: u99 :: u100 :: u101 :: u102 :: u103 :: u104 :: u105 :: u106 :: u107 :: u108 :: u109 :: u110 :: u111 :: u112 :: u113 :: u114 :: u115 :: u116 :: u117 :: u118 :: u119 :: u120 :: u121 :: u122 :: u123 :: u124 :: u125 :: u126 :: u127 :: u128 :: u129 :: u130 :: u131 :: u132 :: u133 :: u134 :: u135 :: u136 :: u137 :: u138 :: u139 :: u140 :: u141 :: u142 :: u143 :: u144 :: u145 :: u146 :: u147 :: u148 :: u149 :: u150 :: u151 :: u152 :: u153 :: u154 :: u155 :: u156 :: u157 :: u158 :: u159 :: u160 :: u161 :: u162 :: u163 :: u164 :: u165 :: u166 :: u167 :: u168 :: u169 :: u170 :: u171 :: u172 :: u173 :: u174 :: u175 :: u176 :: u177 :: u178 :: u179 :: u180 :: u181 :: u182 :: u183 :: u184 :: u185 :: u186 :: u187 :: u188 :: u189 :: u190 :: u191 :: u192 :: u193 :: u194 :: u195 :: u196 :: u197 :: u198 :: u199 :: u200 :: u201 :: u202 :: u203 :: u204 :: u205 :: u206 :: u207 :: u208 :: u209 :: u210 :: u211 :: u212 :: u213 :: u214 :: u215 :: u216 :: u217 :: u218 :: u219 :: u220 :: u221 :: u222 :: u223 :: u224 :: u225 :: u226 :: []), []⟩ wx) :
    Code.wp Try.prog (netC [true, true, true, true, true, true, true, true, true, true, true, true, false, true, false, false, true, false, false, true, true, true, true]) Q ⟨List.toArray (u0 :: u1 :: .pointer (some ⟨w.heap.size, 0, none⟩) :: .pointer (some ⟨w.heap.size + 1, 0, none⟩) :: .pointer (some ⟨w.heap.size + 1 + 1, 0, none⟩) :: u5 :: .int .i64 (2 + (v4 : Int)) :: u7 :: u8 :: u9 :: u10 :: u11 :: u12 :: u13 :: c14 :: .pointer (some ⟨wr.heap.size + 1, 0, none⟩) :: .int .i64 (o : Int) :: u17 :: u18 :: u19 :: u20 :: u21 :: u22 :: u23 :: u24 :: u25 :: u26 :: u27 :: u28 :: u29 :: u30 :: u31 :: u32 :: u33 :: u34 :: u35 :: u36 :: u37 :: u38 :: u39 :: u40 :: u41 :: u42 :: u43 :: u44 :: u45 :: u46 :: u47 :: u48 :: u49 :: u50 :: u51 :: u52 :: u53 :: u54 :: u55 :: u56 :: u57 :: u58 :: u59 :: u60 :: u61 :: u62 :: u63 :: u64 :: u65 :: u66 :: u67 :: u68 :: u69 :: u70 :: u71 :: u72 :: u73 :: u74 :: u75 :: u76 :: u77 :: u78 :: u79 :: u80 :: u81 :: u82 :: u83 :: u84 :: u85 :: u86 :: u87 :: u88 :: u89 :: u90 :: u91 :: u92 :: u93 :: u94 :: u95 :: u96 :: u97 :: u98 :: u99 :: u100 :: u101 :: u102 :: u103 :: u104 :: u105 :: u106 :: u107 :: u108 :: u109 :: u110 :: u111 :: u112 :: u113 :: u114 :: u115 :: u116 :: u117 :: u118 :: u119 :: u120 :: u121 :: u122 :: u123 :: u124 :: u125 :: u126 :: u127 :: u128 :: u129 :: u130 :: u131 :: u132 :: u133 :: u134 :: u135 :: u136 :: u137 :: u138 :: u139 :: u140 :: u141 :: u142 :: u143 :: u144 :: u145 :: u146 :: u147 :: u148 :: u149 :: u150 :: u151 :: u152 :: u153 :: u154 :: u155 :: u156 :: u157 :: u158 :: u159 :: u160 :: u161 :: u162 :: u163 :: u164 :: u165 :: u166 :: u167 :: u168 :: u169 :: u170 :: u171 :: u172 :: u173 :: u174 :: u175 :: u176 :: u177 :: u178 :: u179 :: u180 :: u181 :: u182 :: u183 :: u184 :: u185 :: u186 :: u187 :: u188 :: u189 :: u190 :: u191 :: u192 :: u193 :: u194 :: u195 :: u196 :: u197 :: u198 :: u199 :: u200 :: u201 :: u202 :: u203 :: u204 :: u205 :: u206 :: u207 :: u208 :: u209 :: u210 :: u211 :: u212 :: u213 :: u214 :: u215 :: u216 :: u217 :: u218 :: u219 :: u220 :: u221 :: u222 :: u223 :: u224 :: u225 :: u226 :: []), []⟩ wy := by
  have hstx := hst.turned hD.src hD.turned
  obtain ⟨hs, e1, e2, e3⟩ := hstx.dests
  obtain ⟨Ad, cd, rfl, hcd⟩ := own_form e2
  obtain ⟨iD, hiD, zD0, zD1, zD2⟩ := info_parts destInfo
  have q5x := hstx.blk.cell 5
  have c0x := hD.blk.cell 0
  have c1x := hD.blk.cell 1
  conv => arg 2; whnf
  go_wp2_with (at_builtin; refine wpList_append_lies _ rfl _ _ _ rfl w.heap.size 65 iD (.agg #[.string ⟨#[]⟩, .slice none 0 0]) 2 40 Try.underlying26 hiD zD0 zD1 zD2 rfl (by decide) (.slice Ad ds.length cd) ds.length _ rfl (own_alloc e2 _) ⟨wy.heap.size, 0, none⟩ 1 1 [.string nm, .slice (some ⟨g, 0, none⟩) m cap] rfl rfl (cells_new wy [.string nm, .slice (some ⟨g, 0, none⟩) m cap] 65) (by simp [Value.oneCell']) (by omega) (by unfold maxLen; omega) (by omega) (by have := hstx.lt; simp; omega) (wy.heap.size + 1) (by simp) ?_; intro g6 cap6 w6 hown6 hgrow6 _ _; have hb6 := (hstx.up (below_new _ _)).pbOf (own_alloc e2 _) (by decide) hgrow6; have q6 := hb6.cell 5; have f6 := hb6.frozen 5)
  subst hxm
  exact ⟨_, (hstx.up (below_new wy (.cells #[.string nm, .slice (some ⟨g, 0, none⟩) xs.length cap] 65))).pushDest hs e1 (own_alloc e2 _) (fun i d q h1 h2 => own_alloc (e3 i d q h1 h2) _) (x := ⟨nm, xs⟩) (own_alloc (own_base hD.own (by have := hD.lo; omega)) _) hown6 hgrow6, hD.ok⟩
end Go.Proofs.Ytlfdpfkimggeoaa
namespace Go.Proofs.Ytlfdpfkimggeoaa
open Go.RowKit
set_option linter.unusedVariables false

set_option maxHeartbeats 8000000 in
set_option maxRecDepth 100000 in
theorem net_b5 (w wr : World) (L : List Int) (v4 : Nat) (bv4 : v4 < 6) (pr ca K0 : Int) (vn vl vd vc : Value) (ns : List PNode) (ls : List PLink) (ds : List PDest) (cs : List PCheck) (hdl : ds.length < 2)
    (hst : NetSt w (w.heap.size + 1) (w.heap.size + 1 + 1) L pr ca K0 vn vl vd vc ns ls ds cs wr) (hok : SrcOk L)
    (Q : Exit → Act → World → Prop) (c14 : Value) (u0 u1 u5 u7 u8 u9 u10 u11 u12 u13 u15 u16 u17 u18 u19 u20 u21 u22 u23 u24 u25 u26 u27 u28 u29 u30 u31 u32 u33 u34 u35 u36 u37 u38 u39 u40 u41 u42 u43 u44 u45 u46 u47 u48 u49 u50 u51 u52 u53 u54 u55 u56 u57 u58 u59 u60 u61 u62 u63 u64 u65 u66 u67 u68 u69 u70 u71 u72 u73 u74 u75 u76 u77 u78 u79 u80 u81 u82 u83 u84 u85 u86 u87 u88 u89 u90 u91 u92 u93 u94 u95 u96 u97 u98 u99 u100 u101 u102 u103 u104 u105 u106 u107 u108 u109 u110 u111 u112 u113 u114 u115 u116 u117 u118 u119 u120 u121 u122 u123 u124 u125 u126 u127 u128 u129 u130 u131 u132 u133 u134 u135 u136 u137 u138 u139 u140 u141 u142 u143 u144 u145 u146 u147 u148 u149 u150 u151 u152 u153 u154 u155 u156 u157 u158 u159 u160 u161 u162 u163 u164 u165 u166 u167 u168 u169 u170 u171 u172 u173 u174 u175 u176 u177 u178 u179 u180 u181 u182 u183 u184 u185 u186 u187 u188 u189 u190 u191 u192 u193 u194 u195 u196 u197 u198 u199 u200 u201 u202 u203 u204 u205 u206 u207 u208 u209 u210 u211 u212 u213 u214 u215 u216 u217 u218 u219 u220 u221 u222 u223 u224 u225 u226 : Value)
    (hK : ∀ (wx : World) (c15 c16 : Value) (u139 u140 u141 u142 u143 u144 u145 u146 u147 u148 u149 u150 u151 u152 u153 u154 u155 u156 u157 u158 u159 u160 u161 u162 u163 u164 u165 u166 u167 u168 u169 u170 u171 u172 u173 u174 u175 u176 u177 u178 u179 u180 u181 u182 u183 : Value), (∃ (vd' : Value), NetSt w (w.heap.size + 1) (w.heap.size + 1 + 1) (destG (2 + v4) (ds, L)).2 pr ca K0 vn vl vd' vc ns ls (destG (2 + v4) (ds, L)).1 cs wx ∧ SrcOk (destG (2 + v4) (ds, L)).2) → Q .normal ⟨List.toArray (u0 :: u1 :: .pointer (some ⟨w.heap.size, 0, none⟩) :: .pointer (some ⟨w.heap.size + 1, 0, none⟩) :: .pointer (some ⟨w.heap.size + 1 + 1, 0, none⟩) :: u5 :: .int .i64 (2 + (v4 : Int)) :: u7 :: u8 :: u9 :: u10 :: u11 :: u12 :: u13 :: c14 :: c15 :: c16 :: u17 :: u18 :: u19 :: u20 :: u21 :: u22 :: u23 :: u24 :: u25 :: u26 :: u27 :: u28 :: u29 :: u30 :: u31 :: u32 :: u33 :: u34 :: u35 :: u36 :: u37 :: u38 :: u39 :: u40 :: u41 :: u42 :: u43 :: u44 :: u45 :: u46 :: u47 :: u48 :: u49 :: u50 :: u51 :: u52 :: u53 :: u54 :: u55 :: u56 :: u57 :: u58 :: u59 :: u60 :: u61 :: u62 :: u63 :: u64 :: u65 :: u66 :: u67 :: u68 :: u69 :: u70 :: u71 :: u72 :: u73 :: u74 :: u75 :: u76 :: u77 :: u78 :: u79 :: u80 :: u81 :: u82 :: u83 :: u84 :: u85 :: u86 :: u87 :: u88 :: u89 :: u90 :: u91 :: u92 :: u93 :: u94 :: u95 :: u96 :: u97 :: u98 :: u99 :: u100 :: u101 :: u102 :: u103 :: u104 :: u105 :: u106 :: u107 :: u108 :: u109 :: u110 :: u111 :: u112 :: u113 :: u114 :: u115 :: u116 :: u117 :: u118 :: u119 :: u120 :: u121 :: u122 :: u123 :: u124 :: u125 :: u126 :: u127 :: u128 :: u129 :: u130 :: u131 :: u132 :: u133 :: u134 :: u135 :: u136 :: u137 :: u138 :: u139 :: u140 :: u141 :: u142 :: u143 :: u144 :: u145 :: u146 :: u147 :: u148 :: u149 :: u150 :: u151 :: u152 :: u153 :: u154 :: u155 :: u156 :: u157 :: u158 :: u159 :: u160 :: u161 :: u162 :: u163 :: u164 :: u165 :: u166 :: u167 :: u168 :: u169 :: u170 :: u171 :: u172 :: u173 :: u174 :: u175 :: u176 :: u177 :: u178 :: u179 :: u180 :: u181 :: u182 :: u183 :: u184 :: u185 :: u186 :: u187 :: u188 :: u189 :: u190 :: u191 :: u192 :: u193 :: u194 :: u195 :: u196 :: u197 :: u198 :: u199 :: u200 :: u201 :: u202 :: u203 :: u204 :: u205 :: u206 :: u207 :: u208 :: u209 :: u210 :: u211 :: u212 :: u213 :: u214 :: u215 :: u216 :: u217 :: u218 :: u219 :: u220 :: u221 :: u222 :: u223 :: u224 :: u225 :: u226 :: []), []⟩ wx) :
    Code.wp Try.prog (netC [true, true, true, true, true, true, true, true, true, true, true, true, false, true, false, false, true, false, false]) Q ⟨List.toArray (u0 :: u1 :: .pointer (some ⟨w.heap.size, 0, none⟩) :: .pointer (some ⟨w.heap.size + 1, 0, none⟩) :: .pointer (some ⟨w.heap.size + 1 + 1, 0, none⟩) :: u5 :: .int .i64 (2 + (v4 : Int)) :: u7 :: u8 :: u9 :: u10 :: u11 :: u12 :: u13 :: c14 :: u15 :: u16 :: u17 :: u18 :: u19 :: u20 :: u21 :: u22 :: u23 :: u24 :: u25 :: u26 :: u27 :: u28 :: u29 :: u30 :: u31 :: u32 :: u33 :: u34 :: u35 :: u36 :: u37 :: u38 :: u39 :: u40 :: u41 :: u42 :: u43 :: u44 :: u45 :: u46 :: u47 :: u48 :: u49 :: u50 :: u51 :: u52 :: u53 :: u54 :: u55 :: u56 :: u57 :: u58 :: u59 :: u60 :: u61 :: u62 :: u63 :: u64 :: u65 :: u66 :: u67 :: u68 :: u69 :: u70 :: u71 :: u72 :: u73 :: u74 :: u75 :: u76 :: u77 :: u78 :: u79 :: u80 :: u81 :: u82 :: u83 :: u84 :: u85 :: u86 :: u87 :: u88 :: u89 :: u90 :: u91 :: u92 :: u93 :: u94 :: u95 :: u96 :: u97 :: u98 :: u99 :: u100 :: u101 :: u102 :: u103 :: u104 :: u105 :: u106 :: u107 :: u108 :: u109 :: u110 :: u111 :: u112 :: u113 :: u114 :: u115 :: u116 :: u117 :: u118 :: u119 :: u120 :: u121 :: u122 :: u123 :: u124 :: u125 :: u126 :: u127 :: u128 :: u129 :: u130 :: u131 :: u132 :: u133 :: u134 :: u135 :: u136 :: u137 :: u138 :: u139 :: u140 :: u141 :: u142 :: u143 :: u144 :: u145 :: u146 :: u147 :: u148 :: u149 :: u150 :: u151 :: u152 :: u153 :: u154 :: u155 :: u156 :: u157 :: u158 :: u159 :: u160 :: u161 :: u162 :: u163 :: u164 :: u165 :: u166 :: u167 :: u168 :: u169 :: u170 :: u171 :: u172 :: u173 :: u174 :: u175 :: u176 :: u177 :: u178 :: u179 :: u180 :: u181 :: u182 :: u183 :: u184 :: u185 :: u186 :: u187 :: u188 :: u189 :: u190 :: u191 :: u192 :: u193 :: u194 :: u195 :: u196 :: u197 :: u198 :: u199 :: u200 :: u201 :: u202 :: u203 :: u204 :: u205 :: u206 :: u207 :: u208 :: u209 :: u210 :: u211 :: u212 :: u213 :: u214 :: u215 :: u216 :: u217 :: u218 :: u219 :: u220 :: u221 :: u222 :: u223 :: u224 :: u225 :: u226 :: []), []⟩ wr := by
  obtain ⟨vhs, ve1, ve2, _⟩ := hst.dests
  obtain ⟨Ad, cd, rfl, hcd⟩ := own_form ve2
  obtain ⟨o, HO, bo⟩ := ex_nx L (2 + v4) (by omega)
  obtain ⟨L1, HT1⟩ := ex_tail L
  have hok1 : SrcOk L1 := by rw [← HT1.out]; exact hok.tail
  have hlw : w.heap.size + 1 + 1 < wr.heap.size := hst.blk.lt
  have q5 := hst.blk.cell 5
  have q5a : ∀ o1, (wr.alloc o1).cell? ⟨w.heap.size + 1 + 1, 5, none⟩ = some (.slice Ad ds.length cd) := fun o1 => (hst.blk.alloc o1).cell 5
  have hat := dnames_at ds.length hdl
  have i1 : (0 : Int) ≤ (ds.length : Int) := by omega
  have i2 : (ds.length : Int) < 2 := by omega
  have SR := Lib.hid (fun o1 o2 => hst.src.up hst.lt (below_2a wr o1 o2))
  have HST := Lib.hid hst
  have HOK := Lib.hid hok
  obtain ⟨iI, hiI, zI0, zI1, zI2⟩ := info_parts numInfo
  clear hst hok ve1 ve2
  conv => arg 2; whnf
  go_upto_region 39 with (first
    | (go_at_call 32; refine (next_src (2 + (v4 : Int)) (2 + v4) o L1 HO HT1 (SR.out _ _) HOK.out.1 HOK.out.2 (by omega) (by omega) (by omega) (by omega)).mono ?_; rintro e wy ⟨rfl, hs1, ht1⟩; have hT1 := ((Turned.refl (w.heap.size + 1) wr).up (below_2a wr _ _)).trans ht1; have hdb1 := ht1.blk (blk2_new wr _ #[.string (dnG ds.length), .slice none 0 0] 65) (by omega); have c10 := hdb1.cell 1; have hsy := hT1.grown.size)
    | (at_builtin; refine wpList_append_own _ rfl _ _ 22 rfl wr.heap.size 3 iI (.int .i64 0) 1 8 Try.underlying22 hiI zI0 zI1 zI2 rfl (by decide) (.slice none 0 0) 0 [] rfl (World.ownsRow_nil _ _ _ _) ⟨wy.heap.size, 0, none⟩ 1 1 [.int .i64 (o : Int)] rfl rfl (cells_new wy [.int .i64 (o : Int)] 3) (by simp [Value.oneCell']) (by unfold maxLen; omega) (by omega) (by simp; omega) ?_; intro v3' w3 hown3 hgrow3 _; obtain ⟨g1, cap1, rfl, _⟩ := own_slice hown3 (by omega); have hdb3 := (hdb1.alloc (.cells #[.int .i64 (o : Int)] 3)).grown hgrow3 (by simp [Value.ownBlock]); have c31 := hdb3.cell 1; have f31 := hdb3.frozen 1))
  have hgb := below_none hgrow3
  have hs3 := (hs1.up (by omega) (below_new wy _)).up (by simp; omega) hgb
  have hT3 := (hT1.up (below_new wy _)).up hgb
  have hD : DSt w.heap.size L1 wr (dnG ds.length) g1 1 cap1 [(o : Int)] (w3.setCell ⟨wr.heap.size + 1, 1, none⟩ (.slice (some ⟨g1, 0, none⟩) 1 cap1)) :=
    ⟨hs3.setFar (p := ⟨wr.heap.size + 1, 1, none⟩) (by show w.heap.size + 1 ≠ wr.heap.size + 1; omega) (by show w.heap.size ≤ wr.heap.size + 1; omega) _,
      hT3.setNew (p := ⟨wr.heap.size + 1, 1, none⟩) (by show wr.heap.size ≤ wr.heap.size + 1; omega) _, hdb3.set_ 1 _, own_set hown3 hdb3 (by decide) 1 _, hok1, by omega⟩
  clear hs3 hT3 hgb hdb3 hown3 hgrow3 c31 f31 hdb1 c10 hs1 hT1 ht1 q5 q5a hat SR
  refine wp_goes_on (net_p39 w wr _ L1 v4 o bv4 bo _ g1 cap1 _ hD _ _ _ _ _ _ _ _ _ _ _ _ _ _ _ _ _ _ _ _ _ _ _ _ _ _ _ _ _ _ _ _ _ _ _ _ _ _ _ _ _ _ _ _ _ _ _ _ _ _ _ _ _ _ _ _ _ _ _ _ _ _ _ _ _ _ _ _ _ _ _ _ _ _ _ _ _ _ _ _ _ _ _ _ _ _ _ _ _ _ _ _ _ _ _ _ _ _ _ _ _ _ _ _ _ _ _ _ _ _ _ _ _ _ _ _ _ _ _ _ _ _ _ _ _ _ _ _ _ _ _ _ _ _ _ _ _ _ _ _ _ _ _ _ _ _ _ _ _ _ _ _ _ _ _ _ _ _ _ _ _ _ _ _ _ _ _ _ _ _ _ _ _ _ _ _ _ _ _ _ _ _ _ _ _ _ _ _ _ _ _ _ _ _ _ _ _ _ _ _ _ _ _ _ _ _ _ _ _ _ _ _ _ _ _ _ _ _ _ _ _ _ ?_)
  clear hD
  intro wx c163
  intros
  rename_i hh
  obtain ⟨t, L2, rfl, HT2, HD, hD⟩ := hh
  go_step
  refine wp_goes_on (net_p40 w wr wx L1 L2 v4 o bv4 bo _ g1 cap1 t HT2 HD hD _ _ _ _ _ _ _ _ _ _ _ _ _ _ _ _ _ _ _ _ _ _ _ _ _ _ _ _ _ _ _ _ _ _ _ _ _ _ _ _ _ _ _ _ _ _ _ _ _ _ _ _ _ _ _ _ _ _ _ _ _ _ _ _ _ _ _ _ _ _ _ _ _ _ _ _ _ _ _ _ _ _ _ _ _ _ _ _ _ _ _ _ _ _ _ _ _ _ _ _ _ _ _ _ _ _ _ _ _ _ _ _ _ _ _ _ _ _ _ _ _ _ _ _ _ _ _ _ _ _ _ _ _ _ _ _ _ _ _ _ _ _ _ _ _ _ _ _ _ _ _ _ _ _ _ _ _ _ _ _ _ _ _ _ _ _ _ _ _ _ _ _ _ _ _ _ _ _ _ _ _ _ _ _ _ _ _ _ _ _ _ _ _ _ _ _ _ _ _ _ _ _ _ _ _ _ _ _ _ _ _ _ _ _ _ _ _ _ _ _ _ ?_)
  clear hD
  intro wx
  intros
  rename_i hh
  obtain ⟨g', m', cap', hD⟩ := hh
  go_step
  refine net_p41 w wr wx L _ v4 o pr ca K0 vn vl _ vc ns ls ds cs (by omega) _ g' m' cap' _ (by have := hD.own.1; simpa using this) HST.out hD _ _ _ _ _ _ _ _ _ _ _ _ _ _ _ _ _ _ _ _ _ _ _ _ _ _ _ _ _ _ _ _ _ _ _ _ _ _ _ _ _ _ _ _ _ _ _ _ _ _ _ _ _ _ _ _ _ _ _ _ _ _ _ _ _ _ _ _ _ _ _ _ _ _ _ _ _ _ _ _ _ _ _ _ _ _ _ _ _ _ _ _ _ _ _ _ _ _ _ _ _ _ _ _ _ _ _ _ _ _ _ _ _ _ _ _ _ _ _ _ _ _ _ _ _ _ _ _ _ _ _ _ _ _ _ _ _ _ _ _ _ _ _ _ _ _ _ _ _ _ _ _ _ _ _ _ _ _ _ _ _ _ _ _ _ _ _ _ _ _ _ _ _ _ _ _ _ _ _ _ _ _ _ _ _ _ _ _ _ _ _ _ _ _ _ _ _ _ _ _ _ _ _ _ _ _ _ _ _ _ _ _ _ _ _ _ _ _ _ _ _ _ ?_
  intro wx
  intros
  rename_i hh
  obtain ⟨vd', hst, hok⟩ := hh
  refine hK _ _ _ _ _ _ _ _ _ _ _ _ _ _ _ _ _ _ _ _ _ _ _ _ _ _ _ _ _ _ _ _ _ _ _ _ _ _ _ _ _ _ _ _ _ _ _ _ ⟨vd', ?_, ?_⟩
  · rw [destG_is, HO.out, HT1.out]; exact hst
  · rw [destG_is, HO.out, HT1.out]; exact hok

set_option maxHeartbeats 8000000 in
set_option maxRecDepth 100000 in
theorem net_rest12 (l : List Int) (w wr : World) (L : List Int) (v4 : Nat) (bv4 : v4 < 6) (pr ca K0 : Int) (vn vl : Value) (ns : List PNode) (ls : List PLink)
    (hst : NetSt w (w.heap.size + 1) (w.heap.size + 1 + 1) L pr ca K0 vn vl (.slice none 0 0) (.slice none 0 0) ns ls [] [] wr) (hok : SrcOk L)
    (HN : Hid (netOf l = ⟨pr, ca, K0, ns, ls, (destsG (2 + v4) L.tail (nx L 2 + 1)).1, (checksG (2 + v4) (destsG (2 + v4) L.tail (nx L 2 + 1)).1.length (destsG (2 + v4) L.tail (nx L 2 + 1)).2.tail (nx (destsG (2 + v4) L.tail (nx L 2 + 1)).2 7)).1⟩))
    (u0 u1 u5 u7 u8 u9 u10 u11 u12 u13 u14 u15 u16 u17 u18 u19 u20 u21 u22 u23 u24 u25 u26 u27 u28 u29 u30 u31 u32 u33 u34 u35 u36 u37 u38 u39 u40 u41 u42 u43 u44 u45 u46 u47 u48 u49 u50 u51 u52 u53 u54 u55 u56 u57 u58 u59 u60 u61 u62 u63 u64 u65 u66 u67 u68 u69 u70 u71 u72 u73 u74 u75 u76 u77 u78 u79 u80 u81 u82 u83 u84 u85 u86 u87 u88 u89 u90 u91 u92 u93 u94 u95 u96 u97 u98 u99 u100 u101 u102 u103 u104 u105 u106 u107 u108 u109 u110 u111 u112 u113 u114 u115 u116 u117 u118 u119 u120 u121 u122 u123 u124 u125 u126 u127 u128 u129 u130 u131 u132 u133 u134 u135 u136 u137 u138 u139 u140 u141 u142 u143 u144 u145 u146 u147 u148 u149 u150 u151 u152 u153 u154 u155 u156 u157 u158 u159 u160 u161 u162 u163 u164 u165 u166 u167 u168 u169 u170 u171 u172 u173 u174 u175 u176 u177 u178 u179 u180 u181 u182 u183 u184 u185 u186 u187 u188 u189 u190 u191 u192 u193 u194 u195 u196 u197 u198 u199 u200 u201 u202 u203 u204 u205 u206 u207 u208 u209 u210 u211 u212 u213 u214 u215 u216 u217 u218 u219 u220 u221 u222 u223 u224 u225 u226 : Value) :
    Code.wp Try.prog (netC [true, true, true, true, true, true, true, true, true, true, true, true]) (bodyPost Try.prog Try.f7 (NetAs (netOf l) w)) ⟨List.toArray (u0 :: u1 :: .pointer (some ⟨w.heap.size, 0, none⟩) :: .pointer (some ⟨w.heap.size + 1, 0, none⟩) :: .pointer (some ⟨w.heap.size + 1 + 1, 0, none⟩) :: u5 :: .int .i64 (2 + (v4 : Int)) :: u7 :: u8 :: u9 :: u10 :: u11 :: u12 :: u13 :: u14 :: u15 :: u16 :: u17 :: u18 :: u19 :: u20 :: u21 :: u22 :: u23 :: u24 :: u25 :: u26 :: u27 :: u28 :: u29 :: u30 :: u31 :: u32 :: u33 :: u34 :: u35 :: u36 :: u37 :: u38 :: u39 :: u40 :: u41 :: u42 :: u43 :: u44 :: u45 :: u46 :: u47 :: u48 :: u49 :: u50 :: u51 :: u52 :: u53 :: u54 :: u55 :: u56 :: u57 :: u58 :: u59 :: u60 :: u61 :: u62 :: u63 :: u64 :: u65 :: u66 :: u67 :: u68 :: u69 :: u70 :: u71 :: u72 :: u73 :: u74 :: u75 :: u76 :: u77 :: u78 :: u79 :: u80 :: u81 :: u82 :: u83 :: u84 :: u85 :: u86 :: u87 :: u88 :: u89 :: u90 :: u91 :: u92 :: u93 :: u94 :: u95 :: u96 :: u97 :: u98 :: u99 :: u100 :: u101 :: u102 :: u103 :: u104 :: u105 :: u106 :: u107 :: u108 :: u109 :: u110 :: u111 :: u112 :: u113 :: u114 :: u115 :: u116 :: u117 :: u118 :: u119 :: u120 :: u121 :: u122 :: u123 :: u124 :: u125 :: u126 :: u127 :: u128 :: u129 :: u130 :: u131 :: u132 :: u133 :: u134 :: u135 :: u136 :: u137 :: u138 :: u139 :: u140 :: u141 :: u142 :: u143 :: u144 :: u145 :: u146 :: u147 :: u148 :: u149 :: u150 :: u151 :: u152 :: u153 :: u154 :: u155 :: u156 :: u157 :: u158 :: u159 :: u160 :: u161 :: u162 :: u163 :: u164 :: u165 :: u166 :: u167 :: u168 :: u169 :: u170 :: u171 :: u172 :: u173 :: u174 :: u175 :: u176 :: u177 :: u178 :: u179 :: u180 :: u181 :: u182 :: u183 :: u184 :: u185 :: u186 :: u187 :: u188 :: u189 :: u190 :: u191 :: u192 :: u193 :: u194 :: u195 :: u196 :: u197 :: u198 :: u199 :: u200 :: u201 :: u202 :: u203 :: u204 :: u205 :: u206 :: u207 :: u208 :: u209 :: u210 :: u211 :: u212 :: u213 :: u214 :: u215 :: u216 :: u217 :: u218 :: u219 :: u220 :: u221 :: u222 :: u223 :: u224 :: u225 :: u226 :: []), []⟩ wr := by
  obtain ⟨v6, HV6, bv6⟩ := ex_nx L 2 (by omega)
  obtain ⟨l6, HL6⟩ := ex_tail L
  have HN2 : Hid (netOf l = ⟨pr, ca, K0, ns, ls, (destsG (2 + v4) l6 (v6 + 1)).1, (checksG (2 + v4) (destsG (2 + v4) l6 (v6 + 1)).1.length (destsG (2 + v4) l6 (v6 + 1)).2.tail (nx (destsG (2 + v4) l6 (v6 + 1)).2 7)).1⟩) := Lib.hid (by rw [HN.out, HV6.out, HL6.out])
  clear HN
  conv => arg 2; whnf
  go_wp2_with (go_at_call 32; (with_reducible refine (next_st 2 2 v6 l6 HV6 HL6 hst hok rfl (by omega) (by omega)).mono ?_); clear hst hok; rintro e w7 ⟨rfl, hst, hok, -⟩)
  go_loopg [14, 15, 16] (v6 + 1) (fun gg s14 _ _ wr => ∃ (j : Nat) (vd : Value), j ≤ v6 + 1 ∧ v6 + 1 - j ≤ gg ∧ s14 = .int .i64 ((v6 : Int) - (j : Int)) ∧ NetSt w (w.heap.size + 1) (w.heap.size + 1 + 1) (destsG (2 + v4) l6 j).2 pr ca K0 vn vl vd (.slice none 0 0) ns ls (destsG (2 + v4) l6 j).1 [] wr ∧ SrcOk (destsG (2 + v4) l6 j).2)
  case atStart => exact ⟨0, _, Nat.zero_le _, by omega, congrArg (Value.int .i64) (by omega), hst, hok⟩
  case round =>
    clear hst hok
    obtain ⟨j, vd, hj, hgg, rfl, hst, hok⟩ := hrel
    by_cases hlt : j ≤ v6
    · skip
      as_aux_lemma =>
      have hdl : (destsG (2 + v4) l6 j).1.length < 2 := by
        have := (destsG_ok (2 + v4) l6 (by omega) j).2
        omega
      have i0 : (0 : Int) ≤ (v6 : Int) - (j : Int) := by omega
      have hstep : destsG (2 + v4) l6 (j + 1) = destG (2 + v4) ((destsG (2 + v4) l6 j).1, (destsG (2 + v4) l6 j).2) := by rw [destsG]
      have HSTEP := Lib.hid hstep
      clear hstep
      repeat (first | refine net_b5 w wr _ v4 bv4 pr ca K0 vn vl vd _ ns ls _ [] hdl hst hok _ _ _ _ _ _ _ _ _ _ _ _ _ _ _ _ _ _ _ _ _ _ _ _ _ _ _ _ _ _ _ _ _ _ _ _ _ _ _ _ _ _ _ _ _ _ _ _ _ _ _ _ _ _ _ _ _ _ _ _ _ _ _ _ _ _ _ _ _ _ _ _ _ _ _ _ _ _ _ _ _ _ _ _ _ _ _ _ _ _ _ _ _ _ _ _ _ _ _ _ _ _ _ _ _ _ _ _ _ _ _ _ _ _ _ _ _ _ _ _ _ _ _ _ _ _ _ _ _ _ _ _ _ _ _ _ _ _ _ _ _ _ _ _ _ _ _ _ _ _ _ _ _ _ _ _ _ _ _ _ _ _ _ _ _ _ _ _ _ _ _ _ _ _ _ _ _ _ _ _ _ _ _ _ _ _ _ _ _ _ _ _ _ _ _ _ _ _ _ _ _ _ _ _ _ _ _ _ _ _ _ _ _ _ _ _ _ _ _ _ _ _ _ _ ?_ | go_values | go_skip | go_guarded | go_step | go_upon)
      clear hst hok
      intro wx c15 c16
      intros
      rename_i hh
      obtain ⟨vd', hst, hok⟩ := hh
      rw [← HSTEP.out] at hst hok
      go_wp2_with fail
      go_roundg (v6 + 1 - (j + 1))
      case measure => omega
      case rel => exact ⟨j + 1, vd', by omega, by omega, congrArg (Value.int .i64) (by omega), hst, hok⟩
    · as_aux_lemma =>
      obtain rfl : j = v6 + 1 := by omega
      have i0 : ¬ (0 : Int) ≤ (v6 : Int) - ((v6 + 1 : Nat) : Int) := by omega
      have hdl := (destsG_ok (2 + v4) l6 (by omega) (v6 + 1)).2
      repeat (first | exact net_rest13 l w wr _ v4 bv4 pr ca K0 vn vl _ ns ls _ (by rw [hdl]; omega) (by rw [hdl]; omega) hst hok HN2 _ _ _ _ _ _ _ _ _ _ _ _ _ _ _ _ _ _ _ _ _ _ _ _ _ _ _ _ _ _ _ _ _ _ _ _ _ _ _ _ _ _ _ _ _ _ _ _ _ _ _ _ _ _ _ _ _ _ _ _ _ _ _ _ _ _ _ _ _ _ _ _ _ _ _ _ _ _ _ _ _ _ _ _ _ _ _ _ _ _ _ _ _ _ _ _ _ _ _ _ _ _ _ _ _ _ _ _ _ _ _ _ _ _ _ _ _ _ _ _ _ _ _ _ _ _ _ _ _ _ _ _ _ _ _ _ _ _ _ _ _ _ _ _ _ _ _ _ _ _ _ _ _ _ _ _ _ _ _ _ _ _ _ _ _ _ _ _ _ _ _ _ _ _ _ _ _ _ _ _ _ _ _ _ _ _ _ _ _ _ _ _ _ _ _ _ _ _ _ _ _ _ _ _ _ _ _ _ _ _ _ _ _ _ _ _ _ _ _ _ _ _ _ | go_values | go_skip | go_guarded | go_step | go_upon)
end Go.Proofs.Ytlfdpfkimggeoaa
