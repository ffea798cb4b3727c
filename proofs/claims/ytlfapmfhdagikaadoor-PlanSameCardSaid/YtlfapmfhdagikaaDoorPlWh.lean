/-
  The law's Net: a link's ends.
-/
import Derived.Test.YtlfapmfhdagikaaDoorPlWa
namespace Go.Proofs.YtlfapmfhdagikaaDoor
open Go.RowKit
set_option linter.unusedVariables false

/-- The last statement of a sequence, that goes on. -/
theorem wp_last {P : Program} {c : Code} {Q : Exit → Act → World → Prop} {a : Act} {w : World} (h : c.wp P (Exit.then (fun a w => Q .normal a w) NoExit) a w) : c.wp P Q a w := by
  refine wp_mono h fun e a' w' q => ?_
  cases e with
  | normal => exact q
  | _ => exact q.elim

/-- The network, and the array of the links that there are. -/
structure LSt (w0 : World) (L : List Int) (pr ca : Int) (vn vl : Value) (ns : List PNode) (ls : List PLink) (ub : Nat) (w : World) : Prop where
  st : NetSt w0 (w0.heap.size + 1) (w0.heap.size + 1 + 1) L pr ca 0 vn vl (.slice none 0 0) (.slice none 0 0) ns ls [] [] w
  ok : SrcOk L
  used : UsedAt ub ls w
  lo : w0.heap.size ≤ ub
theorem next_l {w0 : World} {L : List Int} {pr ca : Int} {vn vl : Value} {ns : List PNode} {ls : List PLink} {ub : Nat} {w : World} (n : Int) (m v : Nat) (l' : List Int) (HV : Hid (nx L m = v)) (HT : Hid (L.tail = l')) (h : LSt w0 L pr ca vn vl ns ls ub w) (hn : n = (m : Int)) (h0 : 0 < m) (hm : m ≤ 4096) :
    Calls Tryd.prog 26 #[.pointer (some ⟨w0.heap.size + 1, 0, none⟩), .int .i64 n] w fun e w' => e = .returned (.int .i64 (v : Int)) ∧ LSt w0 l' pr ca vn vl ns ls ub w' :=
  (next_su n m v l' HV HT h.st h.ok h.used hn h0 hm).mono fun _ _ ⟨he, hs, hok, hu⟩ => ⟨he, hs, hok, hu, h.lo⟩

set_option maxHeartbeats 4000000 in
set_option maxRecDepth 100000 in
theorem net_p24 (w wr : World) (L : List Int) (v4 k ub : Nat) (bv4 : v4 < 6) (bk : k < 10) (pr ca : Int) (vn vl : Value) (ns : List PNode) (ls : List PLink)
    (hst : LSt w L pr ca vn vl ns ls ub wr)
    (K : Act → World → Prop) (c11 : Value) (u0 u1 u5 u7 u8 u9 u14 u15 u16 u17 u18 u19 u20 u21 u22 u23 u24 u25 u26 u27 u28 u29 u30 u31 u32 u33 u34 u35 u36 u37 u38 u39 u40 u41 u42 u43 u44 u45 u46 u47 u48 u49 u50 u51 u52 u53 u54 u55 u56 u57 u58 u59 u60 u61 u62 u63 u64 u65 u66 u67 u68 u69 u70 u71 u72 u73 u74 u75 u76 u77 u78 u79 u80 u81 u82 u83 u84 u85 u86 u87 u88 u89 u90 u91 u92 u93 u94 u95 u96 u97 u98 u99 u100 u101 u102 u103 u104 u105 u106 u107 u108 u109 u110 u111 u112 u113 u114 u115 u116 u117 u118 u119 u120 u121 u122 u123 u124 u125 u126 u127 u128 u129 u130 u131 u132 u133 u134 u135 u136 u137 u138 u139 u140 u141 u142 u143 u144 u145 u146 u147 u148 u149 u150 u151 u152 u153 u154 u155 u156 u157 u158 u159 u160 u161 u162 u163 u164 u165 u166 u167 u168 u169 u170 u171 u172 u173 u174 u175 u176 u177 u178 u179 u180 u181 u182 u183 u184 u185 u186 u187 u188 u189 u190 u191 u192 u193 u194 u195 u196 u197 u198 u199 u200 u201 u202 u203 u204 u205 u206 u207 u208 u209 u210 u211 u212 u213 u214 u215 u216 u217 u218 u219 u220 u221 u222 u223 u224 u225 u226 : Value)
    (hK : ∀ (wx : World) (c83 : Value) (u76 u77 u78 u79 u80 u81 u82 : Value), (∃ (t : Bool) (L' : List Int), c83 = .bool t ∧ Hid (endsG (2 + v4) k L = if t = true then ((nx L' (2 + v4), nx L'.tail (2 + v4)), L'.tail.tail) else ((k, k + 1), L')) ∧ LSt w L' pr ca vn vl ns ls ub wx) → K ⟨List.toArray (u0 :: u1 :: .pointer (some ⟨w.heap.size, 0, none⟩) :: .pointer (some ⟨w.heap.size + 1, 0, none⟩) :: .pointer (some ⟨w.heap.size + 1 + 1, 0, none⟩) :: u5 :: .int .i64 (2 + (v4 : Int)) :: u7 :: u8 :: u9 :: .pointer (some ⟨ub, 0, none⟩) :: c11 :: .int .i64 (k : Int) :: .int .i64 ((k : Int) + 1) :: u14 :: u15 :: u16 :: u17 :: u18 :: u19 :: u20 :: u21 :: u22 :: u23 :: u24 :: u25 :: u26 :: u27 :: u28 :: u29 :: u30 :: u31 :: u32 :: u33 :: u34 :: u35 :: u36 :: u37 :: u38 :: u39 :: u40 :: u41 :: u42 :: u43 :: u44 :: u45 :: u46 :: u47 :: u48 :: u49 :: u50 :: u51 :: u52 :: u53 :: u54 :: u55 :: u56 :: u57 :: u58 :: u59 :: u60 :: u61 :: u62 :: u63 :: u64 :: u65 :: u66 :: u67 :: u68 :: u69 :: u70 :: u71 :: u72 :: u73 :: u74 :: u75 :: u76 :: u77 :: u78 :: u79 :: u80 :: u81 :: u82 :: c83 :: u84 :: u85 :: u86 :: u87 :: u88 :: u89 :: u90 :: u91 :: u92 :: u93 :: u94 :: u95 :: u96 :: u97 :: u98 :: u99 :: u100 :: u101 :: u102 :: u103 :: u104 :: u105 :: u106 :: u107 :: u108 :: u109 :: u110 :: u111 :: u112 :: u113 :: u114 :: u115 :: u116 :: u117 :: u118 :: u119 :: u120 :: u121 :: u122 :: u123 :: u124 :: u125 :: u126 :: u127 :: u128 :: u129 :: u130 :: u131 :: u132 :: u133 :: u134 :: u135 :: u136 :: u137 :: u138 :: u139 :: u140 :: u141 :: u142 :: u143 :: u144 :: u145 :: u146 :: u147 :: u148 :: u149 :: u150 :: u151 :: u152 :: u153 :: u154 :: u155 :: u156 :: u157 :: u158 :: u159 :: u160 :: u161 :: u162 :: u163 :: u164 :: u165 :: u166 :: u167 :: u168 :: u169 :: u170 :: u171 :: u172 :: u173 :: u174 :: u175 :: u176 :: u177 :: u178 :: u179 :: u180 :: u181 :: u182 :: u183 :: u184 :: u185 :: u186 :: u187 :: u188 :: u189 :: u190 :: u191 :: u192 :: u193 :: u194 :: u195 :: u196 :: u197 :: u198 :: u199 :: u200 :: u201 :: u202 :: u203 :: u204 :: u205 :: u206 :: u207 :: u208 :: u209 :: u210 :: u211 :: u212 :: u213 :: u214 :: u215 :: u216 :: u217 :: u218 :: u219 :: u220 :: u221 :: u222 :: u223 :: u224 :: u225 :: u226 :: []), []⟩ wx) :
    Code.wp Tryd.prog (netC [true, true, true, true, true, true, true, true, true, true, false, true, false, false, true, false, false, true, true, false, false]) (Exit.then K NoExit) ⟨List.toArray (u0 :: u1 :: .pointer (some ⟨w.heap.size, 0, none⟩) :: .pointer (some ⟨w.heap.size + 1, 0, none⟩) :: .pointer (some ⟨w.heap.size + 1 + 1, 0, none⟩) :: u5 :: .int .i64 (2 + (v4 : Int)) :: u7 :: u8 :: u9 :: .pointer (some ⟨ub, 0, none⟩) :: c11 :: .int .i64 (k : Int) :: .int .i64 ((k : Int) + 1) :: u14 :: u15 :: u16 :: u17 :: u18 :: u19 :: u20 :: u21 :: u22 :: u23 :: u24 :: u25 :: u26 :: u27 :: u28 :: u29 :: u30 :: u31 :: u32 :: u33 :: u34 :: u35 :: u36 :: u37 :: u38 :: u39 :: u40 :: u41 :: u42 :: u43 :: u44 :: u45 :: u46 :: u47 :: u48 :: u49 :: u50 :: u51 :: u52 :: u53 :: u54 :: u55 :: u56 :: u57 :: u58 :: u59 :: u60 :: u61 :: u62 :: u63 :: u64 :: u65 :: u66 :: u67 :: u68 :: u69 :: u70 :: u71 :: u72 :: u73 :: u74 :: u75 :: u76 :: u77 :: u78 :: u79 :: u80 :: u81 :: u82 :: u83 :: u84 :: u85 :: u86 :: u87 :: u88 :: u89 :: u90 :: u91 :: u92 :: u93 :: u94 :: u95 :: u96 :: u97 :: u98 :: u99 :: u100 :: u101 :: u102 :: u103 :: u104 :: u105 :: u106 :: u107 :: u108 :: u109 :: u110 :: u111 :: u112 :: u113 :: u114 :: u115 :: u116 :: u117 :: u118 :: u119 :: u120 :: u121 :: u122 :: u123 :: u124 :: u125 :: u126 :: u127 :: u128 :: u129 :: u130 :: u131 :: u132 :: u133 :: u134 :: u135 :: u136 :: u137 :: u138 :: u139 :: u140 :: u141 :: u142 :: u143 :: u144 :: u145 :: u146 :: u147 :: u148 :: u149 :: u150 :: u151 :: u152 :: u153 :: u154 :: u155 :: u156 :: u157 :: u158 :: u159 :: u160 :: u161 :: u162 :: u163 :: u164 :: u165 :: u166 :: u167 :: u168 :: u169 :: u170 :: u171 :: u172 :: u173 :: u174 :: u175 :: u176 :: u177 :: u178 :: u179 :: u180 :: u181 :: u182 :: u183 :: u184 :: u185 :: u186 :: u187 :: u188 :: u189 :: u190 :: u191 :: u192 :: u193 :: u194 :: u195 :: u196 :: u197 :: u198 :: u199 :: u200 :: u201 :: u202 :: u203 :: u204 :: u205 :: u206 :: u207 :: u208 :: u209 :: u210 :: u211 :: u212 :: u213 :: u214 :: u215 :: u216 :: u217 :: u218 :: u219 :: u220 :: u221 :: u222 :: u223 :: u224 :: u225 :: u226 :: []), []⟩ wr := by
  by_cases hge : 2 + v4 ≤ k + 1
  · have hge' : (2 : Int) + (v4 : Int) ≤ (k : Int) + 1 := by omega
    have HE : Hid (endsG (2 + v4) k L = if true = true then ((nx L (2 + v4), nx L.tail (2 + v4)), L.tail.tail) else ((k, k + 1), L)) := Lib.hid (by unfold endsG; rw [if_pos hge, if_pos rfl])
    clear hge
    conv => arg 2; whnf
    go_wp2_with fail
    first | exact ⟨true, L, rfl, HE, hst⟩ | exact ⟨L, HE, hst⟩
  · have hge' : ¬ (2 : Int) + (v4 : Int) ≤ (k : Int) + 1 := by omega
    have hge2 : decide ((2 : Int) + (v4 : Int) ≤ (k : Int) + 1) = false := by simp; omega
    obtain ⟨v, HV, bv⟩ := ex_nx L 4 (by omega)
    obtain ⟨L', HT⟩ := ex_tail L
    by_cases h0 : v = 0
    · subst h0
      have HE : Hid (endsG (2 + v4) k L = if true = true then ((nx L' (2 + v4), nx L'.tail (2 + v4)), L'.tail.tail) else ((k, k + 1), L')) := Lib.hid (by unfold endsG; rw [if_neg hge, if_pos HV.out, if_pos rfl, HT.out])
      clear hge
      conv => arg 2; whnf
      go_wp2_with ((go_at_call 26; (with_reducible refine (next_l 4 4 _ L' HV HT hst rfl (by omega) (by omega)).mono ?_); rintro e wy ⟨rfl, hst1⟩))
      exact ⟨true, L', rfl, HE, hst1⟩
    · have h0' : ((v : Int) == 0) = false := by simp; omega
      have HE : Hid (endsG (2 + v4) k L = if false = true then ((nx L' (2 + v4), nx L'.tail (2 + v4)), L'.tail.tail) else ((k, k + 1), L')) := Lib.hid (by unfold endsG; rw [if_neg hge, if_neg (by rw [HV.out]; exact h0), if_neg (by simp), HT.out])
      clear hge h0
      conv => arg 2; whnf
      go_wp2_with ((go_at_call 26; (with_reducible refine (next_l 4 4 _ L' HV HT hst rfl (by omega) (by omega)).mono ?_); rintro e wy ⟨rfl, hst1⟩))
      exact ⟨false, L', rfl, HE, hst1⟩

set_option maxHeartbeats 4000000 in
set_option maxRecDepth 100000 in
theorem net_c83 (w wr : World) (L L' : List Int) (v4 k ub : Nat) (bv4 : v4 < 6) (bk : k < 10) (pr ca : Int) (vn vl : Value) (ns : List PNode) (ls : List PLink) (t : Bool)
    (HE : Hid (endsG (2 + v4) k L = if t = true then ((nx L' (2 + v4), nx L'.tail (2 + v4)), L'.tail.tail) else ((k, k + 1), L')))
    (hst : LSt w L' pr ca vn vl ns ls ub wr)
    (K : Act → World → Prop) (c11 : Value) (u0 u1 u5 u7 u8 u9 u14 u15 u16 u17 u18 u19 u20 u21 u22 u23 u24 u25 u26 u27 u28 u29 u30 u31 u32 u33 u34 u35 u36 u37 u38 u39 u40 u41 u42 u43 u44 u45 u46 u47 u48 u49 u50 u51 u52 u53 u54 u55 u56 u57 u58 u59 u60 u61 u62 u63 u64 u65 u66 u67 u68 u69 u70 u71 u72 u73 u74 u75 u76 u77 u78 u79 u80 u81 u82 u84 u85 u86 u87 u88 u89 u90 u91 u92 u93 u94 u95 u96 u97 u98 u99 u100 u101 u102 u103 u104 u105 u106 u107 u108 u109 u110 u111 u112 u113 u114 u115 u116 u117 u118 u119 u120 u121 u122 u123 u124 u125 u126 u127 u128 u129 u130 u131 u132 u133 u134 u135 u136 u137 u138 u139 u140 u141 u142 u143 u144 u145 u146 u147 u148 u149 u150 u151 u152 u153 u154 u155 u156 u157 u158 u159 u160 u161 u162 u163 u164 u165 u166 u167 u168 u169 u170 u171 u172 u173 u174 u175 u176 u177 u178 u179 u180 u181 u182 u183 u184 u185 u186 u187 u188 u189 u190 u191 u192 u193 u194 u195 u196 u197 u198 u199 u200 u201 u202 u203 u204 u205 u206 u207 u208 u209 u210 u211 u212 u213 u214 u215 u216 u217 u218 u219 u220 u221 u222 u223 u224 u225 u226 : Value)
    (hK : ∀ (wx : World) (c12 c13 : Value) (u84 u85 u86 u87 u88 u89 : Value), (∃ (a b : Nat) (L1 : List Int), c12 = .int .i64 (a : Int) ∧ c13 = .int .i64 (b : Int) ∧ a ≤ 4096 ∧ b ≤ 4096 ∧ Hid (endsG (2 + v4) k L = ((a, b), L1)) ∧ LSt w L1 pr ca vn vl ns ls ub wx) → K ⟨List.toArray (u0 :: u1 :: .pointer (some ⟨w.heap.size, 0, none⟩) :: .pointer (some ⟨w.heap.size + 1, 0, none⟩) :: .pointer (some ⟨w.heap.size + 1 + 1, 0, none⟩) :: u5 :: .int .i64 (2 + (v4 : Int)) :: u7 :: u8 :: u9 :: .pointer (some ⟨ub, 0, none⟩) :: c11 :: c12 :: c13 :: u14 :: u15 :: u16 :: u17 :: u18 :: u19 :: u20 :: u21 :: u22 :: u23 :: u24 :: u25 :: u26 :: u27 :: u28 :: u29 :: u30 :: u31 :: u32 :: u33 :: u34 :: u35 :: u36 :: u37 :: u38 :: u39 :: u40 :: u41 :: u42 :: u43 :: u44 :: u45 :: u46 :: u47 :: u48 :: u49 :: u50 :: u51 :: u52 :: u53 :: u54 :: u55 :: u56 :: u57 :: u58 :: u59 :: u60 :: u61 :: u62 :: u63 :: u64 :: u65 :: u66 :: u67 :: u68 :: u69 :: u70 :: u71 :: u72 :: u73 :: u74 :: u75 :: u76 :: u77 :: u78 :: u79 :: u80 :: u81 :: u82 :: .bool t :: u84 :: u85 :: u86 :: u87 :: u88 :: u89 :: u90 :: u91 :: u92 :: u93 :: u94 :: u95 :: u96 :: u97 :: u98 :: u99 :: u100 :: u101 :: u102 :: u103 :: u104 :: u105 :: u106 :: u107 :: u108 :: u109 :: u110 :: u111 :: u112 :: u113 :: u114 :: u115 :: u116 :: u117 :: u118 :: u119 :: u120 :: u121 :: u122 :: u123 :: u124 :: u125 :: u126 :: u127 :: u128 :: u129 :: u130 :: u131 :: u132 :: u133 :: u134 :: u135 :: u136 :: u137 :: u138 :: u139 :: u140 :: u141 :: u142 :: u143 :: u144 :: u145 :: u146 :: u147 :: u148 :: u149 :: u150 :: u151 :: u152 :: u153 :: u154 :: u155 :: u156 :: u157 :: u158 :: u159 :: u160 :: u161 :: u162 :: u163 :: u164 :: u165 :: u166 :: u167 :: u168 :: u169 :: u170 :: u171 :: u172 :: u173 :: u174 :: u175 :: u176 :: u177 :: u178 :: u179 :: u180 :: u181 :: u182 :: u183 :: u184 :: u185 :: u186 :: u187 :: u188 :: u189 :: u190 :: u191 :: u192 :: u193 :: u194 :: u195 :: u196 :: u197 :: u198 :: u199 :: u200 :: u201 :: u202 :: u203 :: u204 :: u205 :: u206 :: u207 :: u208 :: u209 :: u210 :: u211 :: u212 :: u213 :: u214 :: u215 :: u216 :: u217 :: u218 :: u219 :: u220 :: u221 :: u222 :: u223 :: u224 :: u225 :: u226 :: []), []⟩ wx) :
    Code.wp Tryd.prog (netC [true, true, true, true, true, true, true, true, true, true, false, true, false, false, true, false, false, true, true, false, true]) (Exit.then K NoExit) ⟨List.toArray (u0 :: u1 :: .pointer (some ⟨w.heap.size, 0, none⟩) :: .pointer (some ⟨w.heap.size + 1, 0, none⟩) :: .pointer (some ⟨w.heap.size + 1 + 1, 0, none⟩) :: u5 :: .int .i64 (2 + (v4 : Int)) :: u7 :: u8 :: u9 :: .pointer (some ⟨ub, 0, none⟩) :: c11 :: .int .i64 (k : Int) :: .int .i64 ((k : Int) + 1) :: u14 :: u15 :: u16 :: u17 :: u18 :: u19 :: u20 :: u21 :: u22 :: u23 :: u24 :: u25 :: u26 :: u27 :: u28 :: u29 :: u30 :: u31 :: u32 :: u33 :: u34 :: u35 :: u36 :: u37 :: u38 :: u39 :: u40 :: u41 :: u42 :: u43 :: u44 :: u45 :: u46 :: u47 :: u48 :: u49 :: u50 :: u51 :: u52 :: u53 :: u54 :: u55 :: u56 :: u57 :: u58 :: u59 :: u60 :: u61 :: u62 :: u63 :: u64 :: u65 :: u66 :: u67 :: u68 :: u69 :: u70 :: u71 :: u72 :: u73 :: u74 :: u75 :: u76 :: u77 :: u78 :: u79 :: u80 :: u81 :: u82 :: .bool t :: u84 :: u85 :: u86 :: u87 :: u88 :: u89 :: u90 :: u91 :: u92 :: u93 :: u94 :: u95 :: u96 :: u97 :: u98 :: u99 :: u100 :: u101 :: u102 :: u103 :: u104 :: u105 :: u106 :: u107 :: u108 :: u109 :: u110 :: u111 :: u112 :: u113 :: u114 :: u115 :: u116 :: u117 :: u118 :: u119 :: u120 :: u121 :: u122 :: u123 :: u124 :: u125 :: u126 :: u127 :: u128 :: u129 :: u130 :: u131 :: u132 :: u133 :: u134 :: u135 :: u136 :: u137 :: u138 :: u139 :: u140 :: u141 :: u142 :: u143 :: u144 :: u145 :: u146 :: u147 :: u148 :: u149 :: u150 :: u151 :: u152 :: u153 :: u154 :: u155 :: u156 :: u157 :: u158 :: u159 :: u160 :: u161 :: u162 :: u163 :: u164 :: u165 :: u166 :: u167 :: u168 :: u169 :: u170 :: u171 :: u172 :: u173 :: u174 :: u175 :: u176 :: u177 :: u178 :: u179 :: u180 :: u181 :: u182 :: u183 :: u184 :: u185 :: u186 :: u187 :: u188 :: u189 :: u190 :: u191 :: u192 :: u193 :: u194 :: u195 :: u196 :: u197 :: u198 :: u199 :: u200 :: u201 :: u202 :: u203 :: u204 :: u205 :: u206 :: u207 :: u208 :: u209 :: u210 :: u211 :: u212 :: u213 :: u214 :: u215 :: u216 :: u217 :: u218 :: u219 :: u220 :: u221 :: u222 :: u223 :: u224 :: u225 :: u226 :: []), []⟩ wr := by
  conv => arg 2; whnf
  cases t
  · have he := HE.out
    rw [if_neg (by simp)] at he
    have HE2 := Lib.hid he
    clear he
    go_wp2_with fail
    exact ⟨k, k + 1, L', rfl, by go_num, by omega, by omega, HE2, hst⟩
  · have he := HE.out
    rw [if_pos rfl] at he
    obtain ⟨a, HV, ba⟩ := ex_nx L' (2 + v4) (by omega)
    obtain ⟨L1, HT⟩ := ex_tail L'
    obtain ⟨b, HV2, bb⟩ := ex_nx L1 (2 + v4) (by omega)
    obtain ⟨L2, HT2⟩ := ex_tail L1
    rw [HV.out, HT.out, HV2.out, HT2.out] at he
    have HE2 := Lib.hid he
    clear he
    go_wp2_with (first | ((go_at_call 26; (with_reducible refine (next_l (2 + (v4 : Int)) (2 + v4) b L2 HV2 HT2 hst1 (by omega) (by omega) (by omega)).mono ?_); rintro e wy ⟨rfl, hst2⟩)) | ((go_at_call 26; (with_reducible refine (next_l (2 + (v4 : Int)) (2 + v4) a L1 HV HT hst (by omega) (by omega) (by omega)).mono ?_); rintro e wy ⟨rfl, hst1⟩)))
    exact ⟨a, b, L2, rfl, rfl, by omega, by omega, HE2, hst2⟩

set_option maxHeartbeats 4000000 in
set_option maxRecDepth 100000 in
theorem net_p27 (w wr : World) (v4 a0 b0 ub : Nat) (ha : a0 ≤ 4096) (hb : b0 ≤ 4096)
    (K : Act → World → Prop) (c11 : Value) (u0 u1 u5 u7 u8 u9 u14 u15 u16 u17 u18 u19 u20 u21 u22 u23 u24 u25 u26 u27 u28 u29 u30 u31 u32 u33 u34 u35 u36 u37 u38 u39 u40 u41 u42 u43 u44 u45 u46 u47 u48 u49 u50 u51 u52 u53 u54 u55 u56 u57 u58 u59 u60 u61 u62 u63 u64 u65 u66 u67 u68 u69 u70 u71 u72 u73 u74 u75 u76 u77 u78 u79 u80 u81 u82 u83 u84 u85 u86 u87 u88 u89 u90 u91 u92 u93 u94 u95 u96 u97 u98 u99 u100 u101 u102 u103 u104 u105 u106 u107 u108 u109 u110 u111 u112 u113 u114 u115 u116 u117 u118 u119 u120 u121 u122 u123 u124 u125 u126 u127 u128 u129 u130 u131 u132 u133 u134 u135 u136 u137 u138 u139 u140 u141 u142 u143 u144 u145 u146 u147 u148 u149 u150 u151 u152 u153 u154 u155 u156 u157 u158 u159 u160 u161 u162 u163 u164 u165 u166 u167 u168 u169 u170 u171 u172 u173 u174 u175 u176 u177 u178 u179 u180 u181 u182 u183 u184 u185 u186 u187 u188 u189 u190 u191 u192 u193 u194 u195 u196 u197 u198 u199 u200 u201 u202 u203 u204 u205 u206 u207 u208 u209 u210 u211 u212 u213 u214 u215 u216 u217 u218 u219 u220 u221 u222 u223 u224 u225 u226 : Value)
    (hK : ∀ (c12 c13 : Value) (u90 u91 u92 u93 u94 : Value), (c12 = .int .i64 ((min a0 b0 : Nat) : Int) ∧ c13 = .int .i64 ((max a0 b0 : Nat) : Int)) → K ⟨List.toArray (u0 :: u1 :: .pointer (some ⟨w.heap.size, 0, none⟩) :: .pointer (some ⟨w.heap.size + 1, 0, none⟩) :: .pointer (some ⟨w.heap.size + 1 + 1, 0, none⟩) :: u5 :: .int .i64 (2 + (v4 : Int)) :: u7 :: u8 :: u9 :: .pointer (some ⟨ub, 0, none⟩) :: c11 :: c12 :: c13 :: u14 :: u15 :: u16 :: u17 :: u18 :: u19 :: u20 :: u21 :: u22 :: u23 :: u24 :: u25 :: u26 :: u27 :: u28 :: u29 :: u30 :: u31 :: u32 :: u33 :: u34 :: u35 :: u36 :: u37 :: u38 :: u39 :: u40 :: u41 :: u42 :: u43 :: u44 :: u45 :: u46 :: u47 :: u48 :: u49 :: u50 :: u51 :: u52 :: u53 :: u54 :: u55 :: u56 :: u57 :: u58 :: u59 :: u60 :: u61 :: u62 :: u63 :: u64 :: u65 :: u66 :: u67 :: u68 :: u69 :: u70 :: u71 :: u72 :: u73 :: u74 :: u75 :: u76 :: u77 :: u78 :: u79 :: u80 :: u81 :: u82 :: u83 :: u84 :: u85 :: u86 :: u87 :: u88 :: u89 :: u90 :: u91 :: u92 :: u93 :: u94 :: u95 :: u96 :: u97 :: u98 :: u99 :: u100 :: u101 :: u102 :: u103 :: u104 :: u105 :: u106 :: u107 :: u108 :: u109 :: u110 :: u111 :: u112 :: u113 :: u114 :: u115 :: u116 :: u117 :: u118 :: u119 :: u120 :: u121 :: u122 :: u123 :: u124 :: u125 :: u126 :: u127 :: u128 :: u129 :: u130 :: u131 :: u132 :: u133 :: u134 :: u135 :: u136 :: u137 :: u138 :: u139 :: u140 :: u141 :: u142 :: u143 :: u144 :: u145 :: u146 :: u147 :: u148 :: u149 :: u150 :: u151 :: u152 :: u153 :: u154 :: u155 :: u156 :: u157 :: u158 :: u159 :: u160 :: u161 :: u162 :: u163 :: u164 :: u165 :: u166 :: u167 :: u168 :: u169 :: u170 :: u171 :: u172 :: u173 :: u174 :: u175 :: u176 :: u177 :: u178 :: u179 :: u180 :: u181 :: u182 :: u183 :: u184 :: u185 :: u186 :: u187 :: u188 :: u189 :: u190 :: u191 :: u192 :: u193 :: u194 :: u195 :: u196 :: u197 :: u198 :: u199 :: u200 :: u201 :: u202 :: u203 :: u204 :: u205 :: u206 :: u207 :: u208 :: u209 :: u210 :: u211 :: u212 :: u213 :: u214 :: u215 :: u216 :: u217 :: u218 :: u219 :: u220 :: u221 :: u222 :: u223 :: u224 :: u225 :: u226 :: []), []⟩ wr) :
    Code.wp Tryd.prog (netC [true, true, true, true, true, true, true, true, true, true, false, true, false, false, true, false, false, true, true, true, false]) (Exit.then K NoExit) ⟨List.toArray (u0 :: u1 :: .pointer (some ⟨w.heap.size, 0, none⟩) :: .pointer (some ⟨w.heap.size + 1, 0, none⟩) :: .pointer (some ⟨w.heap.size + 1 + 1, 0, none⟩) :: u5 :: .int .i64 (2 + (v4 : Int)) :: u7 :: u8 :: u9 :: .pointer (some ⟨ub, 0, none⟩) :: c11 :: .int .i64 (a0 : Int) :: .int .i64 (b0 : Int) :: u14 :: u15 :: u16 :: u17 :: u18 :: u19 :: u20 :: u21 :: u22 :: u23 :: u24 :: u25 :: u26 :: u27 :: u28 :: u29 :: u30 :: u31 :: u32 :: u33 :: u34 :: u35 :: u36 :: u37 :: u38 :: u39 :: u40 :: u41 :: u42 :: u43 :: u44 :: u45 :: u46 :: u47 :: u48 :: u49 :: u50 :: u51 :: u52 :: u53 :: u54 :: u55 :: u56 :: u57 :: u58 :: u59 :: u60 :: u61 :: u62 :: u63 :: u64 :: u65 :: u66 :: u67 :: u68 :: u69 :: u70 :: u71 :: u72 :: u73 :: u74 :: u75 :: u76 :: u77 :: u78 :: u79 :: u80 :: u81 :: u82 :: u83 :: u84 :: u85 :: u86 :: u87 :: u88 :: u89 :: u90 :: u91 :: u92 :: u93 :: u94 :: u95 :: u96 :: u97 :: u98 :: u99 :: u100 :: u101 :: u102 :: u103 :: u104 :: u105 :: u106 :: u107 :: u108 :: u109 :: u110 :: u111 :: u112 :: u113 :: u114 :: u115 :: u116 :: u117 :: u118 :: u119 :: u120 :: u121 :: u122 :: u123 :: u124 :: u125 :: u126 :: u127 :: u128 :: u129 :: u130 :: u131 :: u132 :: u133 :: u134 :: u135 :: u136 :: u137 :: u138 :: u139 :: u140 :: u141 :: u142 :: u143 :: u144 :: u145 :: u146 :: u147 :: u148 :: u149 :: u150 :: u151 :: u152 :: u153 :: u154 :: u155 :: u156 :: u157 :: u158 :: u159 :: u160 :: u161 :: u162 :: u163 :: u164 :: u165 :: u166 :: u167 :: u168 :: u169 :: u170 :: u171 :: u172 :: u173 :: u174 :: u175 :: u176 :: u177 :: u178 :: u179 :: u180 :: u181 :: u182 :: u183 :: u184 :: u185 :: u186 :: u187 :: u188 :: u189 :: u190 :: u191 :: u192 :: u193 :: u194 :: u195 :: u196 :: u197 :: u198 :: u199 :: u200 :: u201 :: u202 :: u203 :: u204 :: u205 :: u206 :: u207 :: u208 :: u209 :: u210 :: u211 :: u212 :: u213 :: u214 :: u215 :: u216 :: u217 :: u218 :: u219 :: u220 :: u221 :: u222 :: u223 :: u224 :: u225 :: u226 :: []), []⟩ wr := by
  by_cases hsw : b0 < a0
  · have hsw' : (b0 : Int) < (a0 : Int) := by omega
    have e1 : min a0 b0 = b0 := by omega
    have e2 : max a0 b0 = a0 := by omega
    rw [e1, e2] at hK
    clear e1 e2 hsw
    conv => arg 2; whnf
    go_wp2_with fail
    all_goals exact ⟨rfl, rfl⟩
  · have hsw' : ¬ (b0 : Int) < (a0 : Int) := by omega
    have e1 : min a0 b0 = a0 := by omega
    have e2 : max a0 b0 = b0 := by omega
    rw [e1, e2] at hK
    clear e1 e2 hsw
    conv => arg 2; whnf
    go_wp2_with fail
    all_goals exact ⟨rfl, rfl⟩
end Go.Proofs.YtlfapmfhdagikaaDoor
