/-
  The law's Net, whole.
-/
import Derived.Test.YtlfdpfkimggeoaaPlWa
import Derived.Test.YtlfdpfkimggeoaaPlWg
namespace Go.Proofs.Ytlfdpfkimggeoaa
open Go.RowKit
set_option linter.unusedVariables false

/-- The last statement of a sequence, that goes on. -/
theorem wp_last {P : Program} {c : Code} {Q : Exit → Act → World → Prop} {a : Act} {w : World} (h : c.wp P (Exit.then (fun a w => Q .normal a w) NoExit) a w) : c.wp P Q a w := by
  refine wp_mono h fun e a' w' q => ?_
  cases e with
  | normal => exact q
  | _ => exact q.elim

/-- The network, and the array of the links that there are. -/
structure LSt (w0 : World) (L : List Int) (pr ca : Int) (vn vl : Value) (ns : List PNode) (ls : List PLink) (ub : Nat) (w : World) : Prop where
  st : NetSt w0 (w0.heap.size + 1) (w0.heap.size + 1 + 1) L pr ca 0 vn vl (.slice none 0 0) (.slice none 0 0) ns ls [] [] w
  ok : SrcOk L
  used : UsedAt ub ls w
  lo : w0.heap.size ≤ ub
theorem next_l {w0 : World} {L : List Int} {pr ca : Int} {vn vl : Value} {ns : List PNode} {ls : List PLink} {ub : Nat} {w : World} (n : Int) (m v : Nat) (l' : List Int) (HV : Hid (nx L m = v)) (HT : Hid (L.tail = l')) (h : LSt w0 L pr ca vn vl ns ls ub w) (hn : n = (m : Int)) (h0 : 0 < m) (hm : m ≤ 4096) :
    Calls Try.prog 32 #[.pointer (some ⟨w0.heap.size + 1, 0, none⟩), .int .i64 n] w fun e w' => e = .returned (.int .i64 (v : Int)) ∧ LSt w0 l' pr ca vn vl ns ls ub w' :=
  (next_su n m v l' HV HT h.st h.ok h.used hn h0 hm).mono fun _ _ ⟨he, hs, hok, hu⟩ => ⟨he, hs, hok, hu, h.lo⟩

set_option maxHeartbeats 4000000 in
set_option maxRecDepth 100000 in
theorem net_p24 (w wr : World) (L : List Int) (v4 k ub : Nat) (bv4 : v4 < 6) (bk : k < 10) (pr ca : Int) (vn vl : Value) (ns : List PNode) (ls : List PLink)
    (hst : LSt w L pr ca vn vl ns ls ub wr)
    (K : Act → World → Prop) (c11 : Value) (u0 u1 u5 u7 u8 u9 u14 u15 u16 u17 u18 u19 u20 u21 u22 u23 u24 u25 u26 u27 u28 u29 u30 u31 u32 u33 u34 u35 u36 u37 u38 u39 u40 u41 u42 u43 u44 u45 u46 u47 u48 u49 u50 u51 u52 u53 u54 u55 u56 u57 u58 u59 u60 u61 u62 u63 u64 u65 u66 u67 u68 u69 u70 u71 u72 u73 u74 u75 u76 u77 u78 u79 u80 u81 u82 u83 u84 u85 u86 u87 u88 u89 u90 u91 u92 u93 u94 u95 u96 u97 u98 u99 u100 u101 u102 u103 u104 u105 u106 u107 u108 u109 u110 u111 u112 u113 u114 u115 u116 u117 u118 u119 u120 u121 u122 u123 u124 u125 u126 u127 u128 u129 u130 u131 u132 u133 u134 u135 u136 u137 u138 u139 u140 u141 u142 u143 u144 u145 u146 u147 u148 u149 u150 u151 u152 u153 u154 u155 u156 u157 u158 u159 u160 u161 u162 u163 u164 u165 u166 u167 u168 u169 u170 u171 u172 u173 u174 u175 u176 u177 u178 u179 u180 u181 u182 u183 u184 u185 u186 u187 u188 u189 u190 u191 u192 u193 u194 u195 u196 u197 u198 u199 u200 u201 u202 u203 u204 u205 u206 u207 u208 u209 u210 u211 u212 u213 u214 u215 u216 u217 u218 u219 u220 u221 u222 u223 u224 u225 u226 : Value)
    (hK : ∀ (wx : World) (c83 : Value) (u76 u77 u78 u79 u80 u81 u82 : Value), (∃ (t : Bool) (L' : List Int), c83 = .bool t ∧ Hid (endsG (2 + v4) k L = if t = true then ((nx L' (2 + v4), nx L'.tail (2 + v4)), L'.tail.tail) else ((k, k + 1), L')) ∧ LSt w L' pr ca vn vl ns ls ub wx) → K ⟨List.toArray (u0 :: u1 :: .pointer (some ⟨w.heap.size, 0, none⟩) :: .pointer (some ⟨w.heap.size + 1, 0, none⟩) :: .pointer (some ⟨w.heap.size + 1 + 1, 0, none⟩) :: u5 :: .int .i64 (2 + (v4 : Int)) :: u7 :: u8 :: u9 :: .pointer (some ⟨ub, 0, none⟩) :: c11 :: .int .i64 (k : Int) :: .int .i64 ((k : Int) + 1) :: u14 :: u15 :: u16 :: u17 :: u18 :: u19 :: u20 :: u21 :: u22 :: u23 :: u24 :: u25 :: u26 :: u27 :: u28 :: u29 :: u30 :: u31 :: u32 :: u33 :: u34 :: u35 :: u36 :: u37 :: u38 :: u39 :: u40 :: u41 :: u42 :: u43 :: u44 :: u45 :: u46 :: u47 :: u48 :: u49 :: u50 :: u51 :: u52 :: u53 :: u54 :: u55 :: u56 :: u57 :: u58 :: u59 :: u60 :: u61 :: u62 :: u63 :: u64 :: u65 :: u66 :: u67 :: u68 :: u69 :: u70 :: u71 :: u72 :: u73 :: u74 :: u75 :: u76 :: u77 :: u78 :: u79 :: u80 :: u81 :: u82 :: c83 :: u84 :: u85 :: u86 :: u87 :: u88 :: u89 :: u90 :: u91 :: u92 :: u93 :: u94 :: u95 :: u96 :: u97 :: u98 :: u99 :: u100 :: u101 :: u102 :: u103 :: u104 :: u105 :: u106 :: u107 :: u108 :: u109 :: u110 :: u111 :: u112 :: u113 :: u114 :: u115 :: u116 :: u117 :: u118 :: u119 :: u120 :: u121 :: u122 :: u123 :: u124 :: u125 :: u126 :: u127 :: u128 :: u129 :: u130 :: u131 :: u132 :: u133 :: u134 :: u135 :: u136 :: u137 :: u138 :: u139 :: u140 :: u141 :: u142 :: u143 :: u144 :: u145 :: u146 :: u147 :: u148 :: u149 :: u150 :: u151 :: u152 :: u153 :: u154 :: u155 :: u156 :: u157 :: u158 :: u159 :: u160 :: u161 :: u162 :: u163 :: u164 :: u165 :: u166 :: u167 :: u168 :: u169 :: u170 :: u171 :: u172 :: u173 :: u174 :: u175 :: u176 :: u177 :: u178 :: u179 :: u180 :: u181 :: u182 :: u183 :: u184 :: u185 :: u186 :: u187 :: u188 :: u189 :: u190 :: u191 :: u192 :: u193 :: u194 :: u195 :: u196 :: u197 :: u198 :: u199 :: u200 :: u201 :: u202 :: u203 :: u204 :: u205 :: u206 :: u207 :: u208 :: u209 :: u210 :: u211 :: u212 :: u213 :: u214 :: u215 :: u216 :: u217 :: u218 :: u219 :: u220 :: u221 :: u222 :: u223 :: u224 :: u225 :: u226 :: []), []⟩ wx) :
    Code.wp Try.prog (netC [true, true, true, true, true, true, true, true, true, true, false, true, false, false, true, false, false, true, true, false, false]) (Exit.then K NoExit) ⟨List.toArray (u0 :: u1 :: .pointer (some ⟨w.heap.size, 0, none⟩) :: .pointer (some ⟨w.heap.size + 1, 0, none⟩) :: .pointer (some ⟨w.heap.size + 1 + 1, 0, none⟩) :: u5 :: .int .i64 (2 + (v4 : Int)) :: u7 :: u8 :: u9 :: .pointer (some ⟨ub, 0, none⟩) :: c11 :: .int .i64 (k : Int) :: .int .i64 ((k : Int) + 1) :: u14 :: u15 :: u16 :: u17 :: u18 :: u19 :: u20 :: u21 :: u22 :: u23 :: u24 :: u25 :: u26 :: u27 :: u28 :: u29 :: u30 :: u31 :: u32 :: u33 :: u34 :: u35 :: u36 :: u37 :: u38 :: u39 :: u40 :: u41 :: u42 :: u43 :: u44 :: u45 :: u46 :: u47 :: u48 :: u49 :: u50 :: u51 :: u52 :: u53 :: u54 :: u55 :: u56 :: u57 :: u58 :: u59 :: u60 :: u61 :: u62 :: u63 :: u64 :: u65 :: u66 :: u67 :: u68 :: u69 :: u70 :: u71 :: u72 :: u73 :: u74 :: u75 :: u76 :: u77 :: u78 :: u79 :: u80 :: u81 :: u82 :: u83 :: u84 :: u85 :: u86 :: u87 :: u88 :: u89 :: u90 :: u91 :: u92 :: u93 :: u94 :: u95 :: u96 :: u97 :: u98 :: u99 :: u100 :: u101 :: u102 :: u103 :: u104 :: u105 :: u106 :: u107 :: u108 :: u109 :: u110 :: u111 :: u112 :: u113 :: u114 :: u115 :: u116 :: u117 :: u118 :: u119 :: u120 :: u121 :: u122 :: u123 :: u124 :: u125 :: u126 :: u127 :: u128 :: u129 :: u130 :: u131 :: u132 :: u133 :: u134 :: u135 :: u136 :: u137 :: u138 :: u139 :: u140 :: u141 :: u142 :: u143 :: u144 :: u145 :: u146 :: u147 :: u148 :: u149 :: u150 :: u151 :: u152 :: u153 :: u154 :: u155 :: u156 :: u157 :: u158 :: u159 :: u160 :: u161 :: u162 :: u163 :: u164 :: u165 :: u166 :: u167 :: u168 :: u169 :: u170 :: u171 :: u172 :: u173 :: u174 :: u175 :: u176 :: u177 :: u178 :: u179 :: u180 :: u181 :: u182 :: u183 :: u184 :: u185 :: u186 :: u187 :: u188 :: u189 :: u190 :: u191 :: u192 :: u193 :: u194 :: u195 :: u196 :: u197 :: u198 :: u199 :: u200 :: u201 :: u202 :: u203 :: u204 :: u205 :: u206 :: u207 :: u208 :: u209 :: u210 :: u211 :: u212 :: u213 :: u214 :: u215 :: u216 :: u217 :: u218 :: u219 :: u220 :: u221 :: u222 :: u223 :: u224 :: u225 :: u226 :: []), []⟩ wr := by
  by_cases hge : 2 + v4 ≤ k + 1
  · have hge' : (2 : Int) + (v4 : Int) ≤ (k : Int) + 1 := by omega
    have HE : Hid (endsG (2 + v4) k L = if true = true then ((nx L (2 + v4), nx L.tail (2 + v4)), L.tail.tail) else ((k, k + 1), L)) := Lib.hid (by unfold endsG; rw [if_pos hge, if_pos rfl])
    clear hge
    conv => arg 2; whnf
    go_wp2_with fail
    first | exact ⟨true, L, rfl, HE, hst⟩ | exact ⟨L, HE, hst⟩
  · have hge' : ¬ (2 : Int) + (v4 : Int) ≤ (k : Int) + 1 := by omega
    have hge2 : decide ((2 : Int) + (v4 : Int) ≤ (k : Int) + 1) = false := by simp; omega
    obtain ⟨v, HV, bv⟩ := ex_nx L 4 (by omega)
    obtain ⟨L', HT⟩ := ex_tail L
    by_cases h0 : v = 0
    · subst h0
      have HE : Hid (endsG (2 + v4) k L = if true = true then ((nx L' (2 + v4), nx L'.tail (2 + v4)), L'.tail.tail) else ((k, k + 1), L')) := Lib.hid (by unfold endsG; rw [if_neg hge, if_pos HV.out, if_pos rfl, HT.out])
      clear hge
      conv => arg 2; whnf
      go_wp2_with ((go_at_call 32; (with_reducible refine (next_l 4 4 _ L' HV HT hst rfl (by omega) (by omega)).mono ?_); rintro e wy ⟨rfl, hst1⟩))
      exact ⟨true, L', rfl, HE, hst1⟩
    · have h0' : ((v : Int) == 0) = false := by simp; omega
      have HE : Hid (endsG (2 + v4) k L = if false = true then ((nx L' (2 + v4), nx L'.tail (2 + v4)), L'.tail.tail) else ((k, k + 1), L')) := Lib.hid (by unfold endsG; rw [if_neg hge, if_neg (by rw [HV.out]; exact h0), if_neg (by simp), HT.out])
      clear hge h0
      conv => arg 2; whnf
      go_wp2_with ((go_at_call 32; (with_reducible refine (next_l 4 4 _ L' HV HT hst rfl (by omega) (by omega)).mono ?_); rintro e wy ⟨rfl, hst1⟩))
      exact ⟨false, L', rfl, HE, hst1⟩

set_option maxHeartbeats 4000000 in
set_option maxRecDepth 100000 in
theorem net_c83 (w wr : World) (L L' : List Int) (v4 k ub : Nat) (bv4 : v4 < 6) (bk : k < 10) (pr ca : Int) (vn vl : Value) (ns : List PNode) (ls : List PLink) (t : Bool)
    (HE : Hid (endsG (2 + v4) k L = if t = true then ((nx L' (2 + v4), nx L'.tail (2 + v4)), L'.tail.tail) else ((k, k + 1), L')))
    (hst : LSt w L' pr ca vn vl ns ls ub wr)
    (K : Act → World → Prop) (c11 : Value) (u0 u1 u5 u7 u8 u9 u14 u15 u16 u17 u18 u19 u20 u21 u22 u23 u24 u25 u26 u27 u28 u29 u30 u31 u32 u33 u34 u35 u36 u37 u38 u39 u40 u41 u42 u43 u44 u45 u46 u47 u48 u49 u50 u51 u52 u53 u54 u55 u56 u57 u58 u59 u60 u61 u62 u63 u64 u65 u66 u67 u68 u69 u70 u71 u72 u73 u74 u75 u76 u77 u78 u79 u80 u81 u82 u84 u85 u86 u87 u88 u89 u90 u91 u92 u93 u94 u95 u96 u97 u98 u99 u100 u101 u102 u103 u104 u105 u106 u107 u108 u109 u110 u111 u112 u113 u114 u115 u116 u117 u118 u119 u120 u121 u122 u123 u124 u125 u126 u127 u128 u129 u130 u131 u132 u133 u134 u135 u136 u137 u138 u139 u140 u141 u142 u143 u144 u145 u146 u147 u148 u149 u150 u151 u152 u153 u154 u155 u156 u157 u158 u159 u160 u161 u162 u163 u164 u165 u166 u167 u168 u169 u170 u171 u172 u173 u174 u175 u176 u177 u178 u179 u180 u181 u182 u183 u184 u185 u186 u187 u188 u189 u190 u191 u192 u193 u194 u195 u196 u197 u198 u199 u200 u201 u202 u203 u204 u205 u206 u207 u208 u209 u210 u211 u212 u213 u214 u215 u216 u217 u218 u219 u220 u221 u222 u223 u224 u225 u226 : Value)
    (hK : ∀ (wx : World) (c12 c13 : Value) (u84 u85 u86 u87 u88 u89 : Value), (∃ (a b : Nat) (L1 : List Int), c12 = .int .i64 (a : Int) ∧ c13 = .int .i64 (b : Int) ∧ a ≤ 4096 ∧ b ≤ 4096 ∧ Hid (endsG (2 + v4) k L = ((a, b), L1)) ∧ LSt w L1 pr ca vn vl ns ls ub wx) → K ⟨List.toArray (u0 :: u1 :: .pointer (some ⟨w.heap.size, 0, none⟩) :: .pointer (some ⟨w.heap.size + 1, 0, none⟩) :: .pointer (some ⟨w.heap.size + 1 + 1, 0, none⟩) :: u5 :: .int .i64 (2 + (v4 : Int)) :: u7 :: u8 :: u9 :: .pointer (some ⟨ub, 0, none⟩) :: c11 :: c12 :: c13 :: u14 :: u15 :: u16 :: u17 :: u18 :: u19 :: u20 :: u21 :: u22 :: u23 :: u24 :: u25 :: u26 :: u27 :: u28 :: u29 :: u30 :: u31 :: u32 :: u33 :: u34 :: u35 :: u36 :: u37 :: u38 :: u39 :: u40 :: u41 :: u42 :: u43 :: u44 :: u45 :: u46 :: u47 :: u48 :: u49 :: u50 :: u51 :: u52 :: u53 :: u54 :: u55 :: u56 :: u57 :: u58 :: u59 :: u60 :: u61 :: u62 :: u63 :: u64 :: u65 :: u66 :: u67 :: u68 :: u69 :: u70 :: u71 :: u72 :: u73 :: u74 :: u75 :: u76 :: u77 :: u78 :: u79 :: u80 :: u81 :: u82 :: .bool t :: u84 :: u85 :: u86 :: u87 :: u88 :: u89 :: u90 :: u91 :: u92 :: u93 :: u94 :: u95 :: u96 :: u97 :: u98 :: u99 :: u100 :: u101 :: u102 :: u103 :: u104 :: u105 :: u106 :: u107 :: u108 :: u109 :: u110 :: u111 :: u112 :: u113 :: u114 :: u115 :: u116 :: u117 :: u118 :: u119 :: u120 :: u121 :: u122 :: u123 :: u124 :: u125 :: u126 :: u127 :: u128 :: u129 :: u130 :: u131 :: u132 :: u133 :: u134 :: u135 :: u136 :: u137 :: u138 :: u139 :: u140 :: u141 :: u142 :: u143 :: u144 :: u145 :: u146 :: u147 :: u148 :: u149 :: u150 :: u151 :: u152 :: u153 :: u154 :: u155 :: u156 :: u157 :: u158 :: u159 :: u160 :: u161 :: u162 :: u163 :: u164 :: u165 :: u166 :: u167 :: u168 :: u169 :: u170 :: u171 :: u172 :: u173 :: u174 :: u175 :: u176 :: u177 :: u178 :: u179 :: u180 :: u181 :: u182 :: u183 :: u184 :: u185 :: u186 :: u187 :: u188 :: u189 :: u190 :: u191 :: u192 :: u193 :: u194 :: u195 :: u196 :: u197 :: u198 :: u199 :: u200 :: u201 :: u202 :: u203 :: u204 :: u205 :: u206 :: u207 :: u208 :: u209 :: u210 :: u211 :: u212 :: u213 :: u214 :: u215 :: u216 :: u217 :: u218 :: u219 :: u220 :: u221 :: u222 :: u223 :: u224 :: u225 :: u226 :: []), []⟩ wx) :
    Code.wp Try.prog (netC [true, true, true, true, true, true, true, true, true, true, false, true, false, false, true, false, false, true, true, false, true]) (Exit.then K NoExit) ⟨List.toArray (u0 :: u1 :: .pointer (some ⟨w.heap.size, 0, none⟩) :: .pointer (some ⟨w.heap.size + 1, 0, none⟩) :: .pointer (some ⟨w.heap.size + 1 + 1, 0, none⟩) :: u5 :: .int .i64 (2 + (v4 : Int)) :: u7 :: u8 :: u9 :: .pointer (some ⟨ub, 0, none⟩) :: c11 :: .int .i64 (k : Int) :: .int .i64 ((k : Int) + 1) :: u14 :: u15 :: u16 :: u17 :: u18 :: u19 :: u20 :: u21 :: u22 :: u23 :: u24 :: u25 :: u26 :: u27 :: u28 :: u29 :: u30 :: u31 :: u32 :: u33 :: u34 :: u35 :: u36 :: u37 :: u38 :: u39 :: u40 :: u41 :: u42 :: u43 :: u44 :: u45 :: u46 :: u47 :: u48 :: u49 :: u50 :: u51 :: u52 :: u53 :: u54 :: u55 :: u56 :: u57 :: u58 :: u59 :: u60 :: u61 :: u62 :: u63 :: u64 :: u65 :: u66 :: u67 :: u68 :: u69 :: u70 :: u71 :: u72 :: u73 :: u74 :: u75 :: u76 :: u77 :: u78 :: u79 :: u80 :: u81 :: u82 :: .bool t :: u84 :: u85 :: u86 :: u87 :: u88 :: u89 :: u90 :: u91 :: u92 :: u93 :: u94 :: u95 :: u96 :: u97 :: u98 :: u99 :: u100 :: u101 :: u102 :: u103 :: u104 :: u105 :: u106 :: u107 :: u108 :: u109 :: u110 :: u111 :: u112 :: u113 :: u114 :: u115 :: u116 :: u117 :: u118 :: u119 :: u120 :: u121 :: u122 :: u123 :: u124 :: u125 :: u126 :: u127 :: u128 :: u129 :: u130 :: u131 :: u132 :: u133 :: u134 :: u135 :: u136 :: u137 :: u138 :: u139 :: u140 :: u141 :: u142 :: u143 :: u144 :: u145 :: u146 :: u147 :: u148 :: u149 :: u150 :: u151 :: u152 :: u153 :: u154 :: u155 :: u156 :: u157 :: u158 :: u159 :: u160 :: u161 :: u162 :: u163 :: u164 :: u165 :: u166 :: u167 :: u168 :: u169 :: u170 :: u171 :: u172 :: u173 :: u174 :: u175 :: u176 :: u177 :: u178 :: u179 :: u180 :: u181 :: u182 :: u183 :: u184 :: u185 :: u186 :: u187 :: u188 :: u189 :: u190 :: u191 :: u192 :: u193 :: u194 :: u195 :: u196 :: u197 :: u198 :: u199 :: u200 :: u201 :: u202 :: u203 :: u204 :: u205 :: u206 :: u207 :: u208 :: u209 :: u210 :: u211 :: u212 :: u213 :: u214 :: u215 :: u216 :: u217 :: u218 :: u219 :: u220 :: u221 :: u222 :: u223 :: u224 :: u225 :: u226 :: []), []⟩ wr := by
  conv => arg 2; whnf
  cases t
  · have he := HE.out
    rw [if_neg (by simp)] at he
    have HE2 := Lib.hid he
    clear he
    go_wp2_with fail
    exact ⟨k, k + 1, L', rfl, by go_num, by omega, by omega, HE2, hst⟩
  · have he := HE.out
    rw [if_pos rfl] at he
    obtain ⟨a, HV, ba⟩ := ex_nx L' (2 + v4) (by omega)
    obtain ⟨L1, HT⟩ := ex_tail L'
    obtain ⟨b, HV2, bb⟩ := ex_nx L1 (2 + v4) (by omega)
    obtain ⟨L2, HT2⟩ := ex_tail L1
    rw [HV.out, HT.out, HV2.out, HT2.out] at he
    have HE2 := Lib.hid he
    clear he
    go_wp2_with (first | ((go_at_call 32; (with_reducible refine (next_l (2 + (v4 : Int)) (2 + v4) b L2 HV2 HT2 hst1 (by omega) (by omega) (by omega)).mono ?_); rintro e wy ⟨rfl, hst2⟩)) | ((go_at_call 32; (with_reducible refine (next_l (2 + (v4 : Int)) (2 + v4) a L1 HV HT hst (by omega) (by omega) (by omega)).mono ?_); rintro e wy ⟨rfl, hst1⟩)))
    exact ⟨a, b, L2, rfl, rfl, by omega, by omega, HE2, hst2⟩

set_option maxHeartbeats 4000000 in
set_option maxRecDepth 100000 in
theorem net_p27 (w wr : World) (v4 a0 b0 ub : Nat) (ha : a0 ≤ 4096) (hb : b0 ≤ 4096)
    (K : Act → World → Prop) (c11 : Value) (u0 u1 u5 u7 u8 u9 u14 u15 u16 u17 u18 u19 u20 u21 u22 u23 u24 u25 u26 u27 u28 u29 u30 u31 u32 u33 u34 u35 u36 u37 u38 u39 u40 u41 u42 u43 u44 u45 u46 u47 u48 u49 u50 u51 u52 u53 u54 u55 u56 u57 u58 u59 u60 u61 u62 u63 u64 u65 u66 u67 u68 u69 u70 u71 u72 u73 u74 u75 u76 u77 u78 u79 u80 u81 u82 u83 u84 u85 u86 u87 u88 u89 u90 u91 u92 u93 u94 u95 u96 u97 u98 u99 u100 u101 u102 u103 u104 u105 u106 u107 u108 u109 u110 u111 u112 u113 u114 u115 u116 u117 u118 u119 u120 u121 u122 u123 u124 u125 u126 u127 u128 u129 u130 u131 u132 u133 u134 u135 u136 u137 u138 u139 u140 u141 u142 u143 u144 u145 u146 u147 u148 u149 u150 u151 u152 u153 u154 u155 u156 u157 u158 u159 u160 u161 u162 u163 u164 u165 u166 u167 u168 u169 u170 u171 u172 u173 u174 u175 u176 u177 u178 u179 u180 u181 u182 u183 u184 u185 u186 u187 u188 u189 u190 u191 u192 u193 u194 u195 u196 u197 u198 u199 u200 u201 u202 u203 u204 u205 u206 u207 u208 u209 u210 u211 u212 u213 u214 u215 u216 u217 u218 u219 u220 u221 u222 u223 u224 u225 u226 : Value)
    (hK : ∀ (c12 c13 : Value) (u90 u91 u92 u93 u94 : Value), (c12 = .int .i64 ((min a0 b0 : Nat) : Int) ∧ c13 = .int .i64 ((max a0 b0 : Nat) : Int)) → K ⟨List.toArray (u0 :: u1 :: .pointer (some ⟨w.heap.size, 0, none⟩) :: .pointer (some ⟨w.heap.size + 1, 0, none⟩) :: .pointer (some ⟨w.heap.size + 1 + 1, 0, none⟩) :: u5 :: .int .i64 (2 + (v4 : Int)) :: u7 :: u8 :: u9 :: .pointer (some ⟨ub, 0, none⟩) :: c11 :: c12 :: c13 :: u14 :: u15 :: u16 :: u17 :: u18 :: u19 :: u20 :: u21 :: u22 :: u23 :: u24 :: u25 :: u26 :: u27 :: u28 :: u29 :: u30 :: u31 :: u32 :: u33 :: u34 :: u35 :: u36 :: u37 :: u38 :: u39 :: u40 :: u41 :: u42 :: u43 :: u44 :: u45 :: u46 :: u47 :: u48 :: u49 :: u50 :: u51 :: u52 :: u53 :: u54 :: u55 :: u56 :: u57 :: u58 :: u59 :: u60 :: u61 :: u62 :: u63 :: u64 :: u65 :: u66 :: u67 :: u68 :: u69 :: u70 :: u71 :: u72 :: u73 :: u74 :: u75 :: u76 :: u77 :: u78 :: u79 :: u80 :: u81 :: u82 :: u83 :: u84 :: u85 :: u86 :: u87 :: u88 :: u89 :: u90 :: u91 :: u92 :: u93 :: u94 :: u95 :: u96 :: u97 :: u98 :: u99 :: u100 :: u101 :: u102 :: u103 :: u104 :: u105 :: u106 :: u107 :: u108 :: u109 :: u110 :: u111 :: u112 :: u113 :: u114 :: u115 :: u116 :: u117 :: u118 :: u119 :: u120 :: u121 :: u122 :: u123 :: u124 :: u125 :: u126 :: u127 :: u128 :: u129 :: u130 :: u131 :: u132 :: u133 :: u134 :: u135 :: u136 :: u137 :: u138 :: u139 :: u140 :: u141 :: u142 :: u143 :: u144 :: u145 :: u146 :: u147 :: u148 :: u149 :: u150 :: u151 :: u152 :: u153 :: u154 :: u155 :: u156 :: u157 :: u158 :: u159 :: u160 :: u161 :: u162 :: u163 :: u164 :: u165 :: u166 :: u167 :: u168 :: u169 :: u170 :: u171 :: u172 :: u173 :: u174 :: u175 :: u176 :: u177 :: u178 :: u179 :: u180 :: u181 :: u182 :: u183 :: u184 :: u185 :: u186 :: u187 :: u188 :: u189 :: u190 :: u191 :: u192 :: u193 :: u194 :: u195 :: u196 :: u197 :: u198 :: u199 :: u200 :: u201 :: u202 :: u203 :: u204 :: u205 :: u206 :: u207 :: u208 :: u209 :: u210 :: u211 :: u212 :: u213 :: u214 :: u215 :: u216 :: u217 :: u218 :: u219 :: u220 :: u221 :: u222 :: u223 :: u224 :: u225 :: u226 :: []), []⟩ wr) :
    Code.wp Try.prog (netC [true, true, true, true, true, true, true, true, true, true, false, true, false, false, true, false, false, true, true, true, false]) (Exit.then K NoExit) ⟨List.toArray (u0 :: u1 :: .pointer (some ⟨w.heap.size, 0, none⟩) :: .pointer (some ⟨w.heap.size + 1, 0, none⟩) :: .pointer (some ⟨w.heap.size + 1 + 1, 0, none⟩) :: u5 :: .int .i64 (2 + (v4 : Int)) :: u7 :: u8 :: u9 :: .pointer (some ⟨ub, 0, none⟩) :: c11 :: .int .i64 (a0 : Int) :: .int .i64 (b0 : Int) :: u14 :: u15 :: u16 :: u17 :: u18 :: u19 :: u20 :: u21 :: u22 :: u23 :: u24 :: u25 :: u26 :: u27 :: u28 :: u29 :: u30 :: u31 :: u32 :: u33 :: u34 :: u35 :: u36 :: u37 :: u38 :: u39 :: u40 :: u41 :: u42 :: u43 :: u44 :: u45 :: u46 :: u47 :: u48 :: u49 :: u50 :: u51 :: u52 :: u53 :: u54 :: u55 :: u56 :: u57 :: u58 :: u59 :: u60 :: u61 :: u62 :: u63 :: u64 :: u65 :: u66 :: u67 :: u68 :: u69 :: u70 :: u71 :: u72 :: u73 :: u74 :: u75 :: u76 :: u77 :: u78 :: u79 :: u80 :: u81 :: u82 :: u83 :: u84 :: u85 :: u86 :: u87 :: u88 :: u89 :: u90 :: u91 :: u92 :: u93 :: u94 :: u95 :: u96 :: u97 :: u98 :: u99 :: u100 :: u101 :: u102 :: u103 :: u104 :: u105 :: u106 :: u107 :: u108 :: u109 :: u110 :: u111 :: u112 :: u113 :: u114 :: u115 :: u116 :: u117 :: u118 :: u119 :: u120 :: u121 :: u122 :: u123 :: u124 :: u125 :: u126 :: u127 :: u128 :: u129 :: u130 :: u131 :: u132 :: u133 :: u134 :: u135 :: u136 :: u137 :: u138 :: u139 :: u140 :: u141 :: u142 :: u143 :: u144 :: u145 :: u146 :: u147 :: u148 :: u149 :: u150 :: u151 :: u152 :: u153 :: u154 :: u155 :: u156 :: u157 :: u158 :: u159 :: u160 :: u161 :: u162 :: u163 :: u164 :: u165 :: u166 :: u167 :: u168 :: u169 :: u170 :: u171 :: u172 :: u173 :: u174 :: u175 :: u176 :: u177 :: u178 :: u179 :: u180 :: u181 :: u182 :: u183 :: u184 :: u185 :: u186 :: u187 :: u188 :: u189 :: u190 :: u191 :: u192 :: u193 :: u194 :: u195 :: u196 :: u197 :: u198 :: u199 :: u200 :: u201 :: u202 :: u203 :: u204 :: u205 :: u206 :: u207 :: u208 :: u209 :: u210 :: u211 :: u212 :: u213 :: u214 :: u215 :: u216 :: u217 :: u218 :: u219 :: u220 :: u221 :: u222 :: u223 :: u224 :: u225 :: u226 :: []), []⟩ wr := by
  by_cases hsw : b0 < a0
  · have hsw' : (b0 : Int) < (a0 : Int) := by omega
    have e1 : min a0 b0 = b0 := by omega
    have e2 : max a0 b0 = a0 := by omega
    rw [e1, e2] at hK
    clear e1 e2 hsw
    conv => arg 2; whnf
    go_wp2_with fail
    all_goals exact ⟨rfl, rfl⟩
  · have hsw' : ¬ (b0 : Int) < (a0 : Int) := by omega
    have e1 : min a0 b0 = a0 := by omega
    have e2 : max a0 b0 = b0 := by omega
    rw [e1, e2] at hK
    clear e1 e2 hsw
    conv => arg 2; whnf
    go_wp2_with fail
    all_goals exact ⟨rfl, rfl⟩
end Go.Proofs.Ytlfdpfkimggeoaa

namespace Go.Proofs.Ytlfdpfkimggeoaa
open Go.RowKit
set_option linter.unusedVariables false

set_option maxHeartbeats 8000000 in
set_option maxRecDepth 100000 in
theorem net_p31 (w wr : World) (L1 L2 L3 : List Int) (a b ub x1 x2 m : Nat) (ha : a < 7) (hb : b < 7) (pr ca : Int) (vn vl : Value) (ns : List PNode) (ls : List PLink) (hlsl : ls.length ≤ 9)
    (HX1 : Hid (nx L1 15 = x1)) (bx1 : x1 < 15) (HT1 : Hid (L1.tail = L2)) (HX2 : Hid (nx L2 15 = x2)) (bx2 : x2 < 15) (HT2 : Hid (L2.tail = L3)) (hm15 : m < 15) (HM : Hid ((x1 : Int) % (1 + (x2 : Int)) = (m : Int)))
    (us : List PLink) (hst : NetSt w (w.heap.size + 1) (w.heap.size + 1 + 1) L1 pr ca 0 vn vl (.slice none 0 0) (.slice none 0 0) ns ls [] [] wr) (hok : SrcOk L1) (hU : UsedAt ub us wr)
    (K : Act → World → Prop) (c6 c11 : Value) (u0 u1 u5 u7 u8 u9 u14 u15 u16 u17 u18 u19 u20 u21 u22 u23 u24 u25 u26 u27 u28 u29 u30 u31 u32 u33 u34 u35 u36 u37 u38 u39 u40 u41 u42 u43 u44 u45 u46 u47 u48 u49 u50 u51 u52 u53 u54 u55 u56 u57 u58 u59 u60 u61 u62 u63 u64 u65 u66 u67 u68 u69 u70 u71 u72 u73 u74 u75 u76 u77 u78 u79 u80 u81 u82 u83 u84 u85 u86 u87 u88 u89 u90 u91 u92 u93 u94 u95 u96 u97 u98 u99 u100 u101 u102 u103 u104 u105 u106 u107 u108 u109 u110 u111 u112 u113 u114 u115 u116 u117 u118 u119 u120 u121 u122 u123 u124 u125 u126 u127 u128 u129 u130 u131 u132 u133 u134 u135 u136 u137 u138 u139 u140 u141 u142 u143 u144 u145 u146 u147 u148 u149 u150 u151 u152 u153 u154 u155 u156 u157 u158 u159 u160 u161 u162 u163 u164 u165 u166 u167 u168 u169 u170 u171 u172 u173 u174 u175 u176 u177 u178 u179 u180 u181 u182 u183 u184 u185 u186 u187 u188 u189 u190 u191 u192 u193 u194 u195 u196 u197 u198 u199 u200 u201 u202 u203 u204 u205 u206 u207 u208 u209 u210 u211 u212 u213 u214 u215 u216 u217 u218 u219 u220 u221 u222 u223 u224 u225 u226 : Value)
    (hK : ∀ (wx : World) (u112 u113 u114 u115 u116 u117 u118 u119 u120 u121 u122 u123 u124 u125 u126 : Value), (∃ (vl' : Value), NetSt w (w.heap.size + 1) (w.heap.size + 1 + 1) L3 pr ca 0 vn vl' (.slice none 0 0) (.slice none 0 0) ns (ls ++ [⟨a, b, 1 + (m : Int)⟩]) [] [] wx ∧ SrcOk L3 ∧ UsedAt ub us wx) → K ⟨List.toArray (u0 :: u1 :: .pointer (some ⟨w.heap.size, 0, none⟩) :: .pointer (some ⟨w.heap.size + 1, 0, none⟩) :: .pointer (some ⟨w.heap.size + 1 + 1, 0, none⟩) :: u5 :: c6 :: u7 :: u8 :: u9 :: .pointer (some ⟨ub, 0, none⟩) :: c11 :: .int .i64 (a : Int) :: .int .i64 (b : Int) :: u14 :: u15 :: u16 :: u17 :: u18 :: u19 :: u20 :: u21 :: u22 :: u23 :: u24 :: u25 :: u26 :: u27 :: u28 :: u29 :: u30 :: u31 :: u32 :: u33 :: u34 :: u35 :: u36 :: u37 :: u38 :: u39 :: u40 :: u41 :: u42 :: u43 :: u44 :: u45 :: u46 :: u47 :: u48 :: u49 :: u50 :: u51 :: u52 :: u53 :: u54 :: u55 :: u56 :: u57 :: u58 :: u59 :: u60 :: u61 :: u62 :: u63 :: u64 :: u65 :: u66 :: u67 :: u68 :: u69 :: u70 :: u71 :: u72 :: u73 :: u74 :: u75 :: u76 :: u77 :: u78 :: u79 :: u80 :: u81 :: u82 :: u83 :: u84 :: u85 :: u86 :: u87 :: u88 :: u89 :: u90 :: u91 :: u92 :: u93 :: u94 :: u95 :: u96 :: u97 :: u98 :: u99 :: u100 :: u101 :: u102 :: u103 :: u104 :: u105 :: u106 :: u107 :: u108 :: u109 :: u110 :: u111 :: u112 :: u113 :: u114 :: u115 :: u116 :: u117 :: u118 :: u119 :: u120 :: u121 :: u122 :: u123 :: u124 :: u125 :: u126 :: u127 :: u128 :: u129 :: u130 :: u131 :: u132 :: u133 :: u134 :: u135 :: u136 :: u137 :: u138 :: u139 :: u140 :: u141 :: u142 :: u143 :: u144 :: u145 :: u146 :: u147 :: u148 :: u149 :: u150 :: u151 :: u152 :: u153 :: u154 :: u155 :: u156 :: u157 :: u158 :: u159 :: u160 :: u161 :: u162 :: u163 :: u164 :: u165 :: u166 :: u167 :: u168 :: u169 :: u170 :: u171 :: u172 :: u173 :: u174 :: u175 :: u176 :: u177 :: u178 :: u179 :: u180 :: u181 :: u182 :: u183 :: u184 :: u185 :: u186 :: u187 :: u188 :: u189 :: u190 :: u191 :: u192 :: u193 :: u194 :: u195 :: u196 :: u197 :: u198 :: u199 :: u200 :: u201 :: u202 :: u203 :: u204 :: u205 :: u206 :: u207 :: u208 :: u209 :: u210 :: u211 :: u212 :: u213 :: u214 :: u215 :: u216 :: u217 :: u218 :: u219 :: u220 :: u221 :: u222 :: u223 :: u224 :: u225 :: u226 :: []), []⟩ wx) :
    Code.wp Try.prog (netC [true, true, true, true, true, true, true, true, true, true, false, true, false, false, true, false, false, true, true, true, true, true, false, true]) (Exit.then K NoExit) ⟨List.toArray (u0 :: u1 :: .pointer (some ⟨w.heap.size, 0, none⟩) :: .pointer (some ⟨w.heap.size + 1, 0, none⟩) :: .pointer (some ⟨w.heap.size + 1 + 1, 0, none⟩) :: u5 :: c6 :: u7 :: u8 :: u9 :: .pointer (some ⟨ub, 0, none⟩) :: c11 :: .int .i64 (a : Int) :: .int .i64 (b : Int) :: u14 :: u15 :: u16 :: u17 :: u18 :: u19 :: u20 :: u21 :: u22 :: u23 :: u24 :: u25 :: u26 :: u27 :: u28 :: u29 :: u30 :: u31 :: u32 :: u33 :: u34 :: u35 :: u36 :: u37 :: u38 :: u39 :: u40 :: u41 :: u42 :: u43 :: u44 :: u45 :: u46 :: u47 :: u48 :: u49 :: u50 :: u51 :: u52 :: u53 :: u54 :: u55 :: u56 :: u57 :: u58 :: u59 :: u60 :: u61 :: u62 :: u63 :: u64 :: u65 :: u66 :: u67 :: u68 :: u69 :: u70 :: u71 :: u72 :: u73 :: u74 :: u75 :: u76 :: u77 :: u78 :: u79 :: u80 :: u81 :: u82 :: u83 :: u84 :: u85 :: u86 :: u87 :: u88 :: u89 :: u90 :: u91 :: u92 :: u93 :: u94 :: u95 :: u96 :: u97 :: u98 :: u99 :: u100 :: u101 :: u102 :: u103 :: u104 :: u105 :: u106 :: u107 :: u108 :: u109 :: u110 :: u111 :: u112 :: u113 :: u114 :: u115 :: u116 :: u117 :: u118 :: u119 :: u120 :: u121 :: u122 :: u123 :: u124 :: u125 :: u126 :: u127 :: u128 :: u129 :: u130 :: u131 :: u132 :: u133 :: u134 :: u135 :: u136 :: u137 :: u138 :: u139 :: u140 :: u141 :: u142 :: u143 :: u144 :: u145 :: u146 :: u147 :: u148 :: u149 :: u150 :: u151 :: u152 :: u153 :: u154 :: u155 :: u156 :: u157 :: u158 :: u159 :: u160 :: u161 :: u162 :: u163 :: u164 :: u165 :: u166 :: u167 :: u168 :: u169 :: u170 :: u171 :: u172 :: u173 :: u174 :: u175 :: u176 :: u177 :: u178 :: u179 :: u180 :: u181 :: u182 :: u183 :: u184 :: u185 :: u186 :: u187 :: u188 :: u189 :: u190 :: u191 :: u192 :: u193 :: u194 :: u195 :: u196 :: u197 :: u198 :: u199 :: u200 :: u201 :: u202 :: u203 :: u204 :: u205 :: u206 :: u207 :: u208 :: u209 :: u210 :: u211 :: u212 :: u213 :: u214 :: u215 :: u216 :: u217 :: u218 :: u219 :: u220 :: u221 :: u222 :: u223 :: u224 :: u225 :: u226 :: []), []⟩ wr := by
  obtain ⟨iL, hiL, zL0, zL1, zL2⟩ := info_parts linkInfo
  have hstD := hst.up ((Below.refl _ wr).drew)
  have hUD := hU.up ((Below.refl _ wr).drew)
  have q40 := hst.blk.cell 4
  have tw : (x1 : Int).tmod (1 + (x2 : Int)) = (m : Int) := by rw [Int.tmod_eq_emod_of_nonneg (by omega)]; exact HM.out
  have te := HM.out
  have nz : ¬ 1 + (x2 : Int) = 0 := by omega
  have nz2 : ((1 + (x2 : Int)) == 0) = false := by simp; omega
  have ww1 : IntKind.i64.wrap (1 + (x2 : Int)) = 1 + (x2 : Int) := IntWalk.i64_in _ (by omega)
  have ww2 : IntKind.i64.wrap (m : Int) = (m : Int) := IntWalk.i64_in _ (by omega)
  have ww3 : IntKind.i64.wrap (1 + (m : Int)) = 1 + (m : Int) := IntWalk.i64_in _ (by omega)
  have HONE : Hid (∀ u ∈ [Value.int .i64 (a : Int), Value.int .i64 (b : Int), Value.int .i64 (1 + (m : Int))], u.oneCell' = true) := Lib.hid (by simp [Value.oneCell'])
  have HMX : Hid (ls.length + 1 ≤ maxLen) := Lib.hid (by unfold maxLen; omega)
  have HBY : Hid ((ls.length + 1) * 24 ≤ 140737488355328) := Lib.hid (by omega)
  clear hst hU
  conv => arg 2; whnf
  go_region_law (first
    | ((go_simp; go_at_call 32; (with_reducible refine (next_su 15 15 x2 L3 HX2 HT2 hst1 hok1 hU1 rfl (by omega) (by omega)).mono ?_); rintro e wz ⟨rfl, hst2, hok2, hU2⟩; have q42 := hst2.blk.cell 4; have q43 := fun o => (hst2.blk.alloc o).cell 4))
    | ((go_simp; go_at_call 32; (with_reducible refine (next_su 15 15 x1 L2 HX1 HT1 hstD hok hUD rfl (by omega) (by omega)).mono ?_); rintro e wy ⟨rfl, hst1, hok1, hU1⟩; have q41 := hst1.blk.cell 4))
    | (refine step_append_lies _ rfl (.tmp 113) (.tmp 124) 25 rfl w.heap.size 53 iL (.agg #[.int .i64 0, .int .i64 0, .int .i64 0]) 3 24 Try.underlying25 hiL zL0 zL1 zL2 rfl (by decide) vl ls.length _ (by first | rfl | (apply rfl)) (hst2.up (below_new _ (.cells #[.int .i64 (a : Int), .int .i64 (b : Int), .int .i64 (1 + (m : Int))] 53))).links ⟨wz.heap.size, 0, none⟩ 1 1 [.int .i64 (a : Int), .int .i64 (b : Int), .int .i64 (1 + (m : Int))] (by first | rfl | (apply rfl)) (by first | rfl | (apply rfl)) (World.news_of_block (cs := #[.int .i64 (a : Int), .int .i64 (b : Int), .int .i64 (1 + (m : Int))]) (t := 53) (fr := (0, 0)) (heap_alloc_new _ _)) HONE.out Nat.zero_lt_one HMX.out HBY.out (Nat.le_trans hst2.lt (below_new _ _).size) (wz.heap.size + 1) (World.size_alloc _ _) ?_; intro gg cap w6 hown6 hgrow6 hat6 hlt6; have hb6 := (hst2.up (below_new wz (.cells #[.int .i64 (a : Int), .int .i64 (b : Int), .int .i64 (1 + (m : Int))] 53))).pbOf (hst2.up (below_new wz (.cells #[.int .i64 (a : Int), .int .i64 (b : Int), .int .i64 (1 + (m : Int))] 53))).links (by decide) hgrow6; have q6 := hb6.cell 4; have f6 := hb6.frozen 4))
  all_goals go_step
  all_goals go_step
  all_goals
    have hN := (hst2.up (below_new wz (.cells #[.int .i64 (a : Int), .int .i64 (b : Int), .int .i64 (1 + (m : Int))] 53))).pushLink (x := ⟨a, b, 1 + (m : Int)⟩) hown6 hgrow6
    have hU6 := (hU2.up (below_new wz (.cells #[.int .i64 (a : Int), .int .i64 (b : Int), .int .i64 (1 + (m : Int))] 53))).far (hst2.up (below_new wz (.cells #[.int .i64 (a : Int), .int .i64 (b : Int), .int .i64 (1 + (m : Int))] 53))).links (by decide) hgrow6
    exact ⟨_, hN, hok2, hU6.put (p := ⟨w.heap.size + 1 + 1, 4, none⟩) (hU6.ne2 hb6) _⟩
end Go.Proofs.Ytlfdpfkimggeoaa
namespace Go.Proofs.Ytlfdpfkimggeoaa
open Go.RowKit
set_option linter.unusedVariables false

set_option maxHeartbeats 8000000 in
set_option maxRecDepth 100000 in
theorem net_p16 (w wr : World) (L : List Int) (k : Nat) (hk : k < 7) (xm : Int) (pr ca : Int) (vn : Value) (ns : List PNode) (hnl : ns.length = k)
    (hst : NetSt w (w.heap.size + 1) (w.heap.size + 1 + 1) L pr ca 0 vn (.slice none 0 0) (.slice none 0 0) (.slice none 0 0) ns [] [] [] wr)
    (K : Act → World → Prop) (c6 : Value) (u0 u1 u5 u9 u10 u11 u12 u13 u14 u15 u16 u17 u18 u19 u20 u21 u22 u23 u24 u25 u26 u27 u28 u29 u30 u31 u32 u33 u34 u35 u36 u37 u38 u39 u40 u41 u42 u43 u44 u45 u46 u47 u48 u49 u50 u51 u52 u53 u54 u55 u56 u57 u58 u59 u60 u61 u62 u63 u64 u65 u66 u67 u68 u69 u70 u71 u72 u73 u74 u75 u76 u77 u78 u79 u80 u81 u82 u83 u84 u85 u86 u87 u88 u89 u90 u91 u92 u93 u94 u95 u96 u97 u98 u99 u100 u101 u102 u103 u104 u105 u106 u107 u108 u109 u110 u111 u112 u113 u114 u115 u116 u117 u118 u119 u120 u121 u122 u123 u124 u125 u126 u127 u128 u129 u130 u131 u132 u133 u134 u135 u136 u137 u138 u139 u140 u141 u142 u143 u144 u145 u146 u147 u148 u149 u150 u151 u152 u153 u154 u155 u156 u157 u158 u159 u160 u161 u162 u163 u164 u165 u166 u167 u168 u169 u170 u171 u172 u173 u174 u175 u176 u177 u178 u179 u180 u181 u182 u183 u184 u185 u186 u187 u188 u189 u190 u191 u192 u193 u194 u195 u196 u197 u198 u199 u200 u201 u202 u203 u204 u205 u206 u207 u208 u209 u210 u211 u212 u213 u214 u215 u216 u217 u218 u219 u220 u221 u222 u223 u224 u225 u226 : Value)
    (hK : ∀ (wx : World) (u54 u55 u56 u57 u58 u59 u60 u61 u62 u63 u64 : Value), (∃ (vn' : Value), NetSt w (w.heap.size + 1) (w.heap.size + 1 + 1) L pr ca 0 vn' (.slice none 0 0) (.slice none 0 0) (.slice none 0 0) (ns ++ [⟨nmG k, xm⟩]) [] [] [] wx) → K ⟨List.toArray (u0 :: u1 :: .pointer (some ⟨w.heap.size, 0, none⟩) :: .pointer (some ⟨w.heap.size + 1, 0, none⟩) :: .pointer (some ⟨w.heap.size + 1 + 1, 0, none⟩) :: u5 :: c6 :: .int .i64 (k : Int) :: .int .i64 xm :: u9 :: u10 :: u11 :: u12 :: u13 :: u14 :: u15 :: u16 :: u17 :: u18 :: u19 :: u20 :: u21 :: u22 :: u23 :: u24 :: u25 :: u26 :: u27 :: u28 :: u29 :: u30 :: u31 :: u32 :: u33 :: u34 :: u35 :: u36 :: u37 :: u38 :: u39 :: u40 :: u41 :: u42 :: u43 :: u44 :: u45 :: u46 :: u47 :: u48 :: u49 :: u50 :: u51 :: u52 :: u53 :: u54 :: u55 :: u56 :: u57 :: u58 :: u59 :: u60 :: u61 :: u62 :: u63 :: u64 :: u65 :: u66 :: u67 :: u68 :: u69 :: u70 :: u71 :: u72 :: u73 :: u74 :: u75 :: u76 :: u77 :: u78 :: u79 :: u80 :: u81 :: u82 :: u83 :: u84 :: u85 :: u86 :: u87 :: u88 :: u89 :: u90 :: u91 :: u92 :: u93 :: u94 :: u95 :: u96 :: u97 :: u98 :: u99 :: u100 :: u101 :: u102 :: u103 :: u104 :: u105 :: u106 :: u107 :: u108 :: u109 :: u110 :: u111 :: u112 :: u113 :: u114 :: u115 :: u116 :: u117 :: u118 :: u119 :: u120 :: u121 :: u122 :: u123 :: u124 :: u125 :: u126 :: u127 :: u128 :: u129 :: u130 :: u131 :: u132 :: u133 :: u134 :: u135 :: u136 :: u137 :: u138 :: u139 :: u140 :: u141 :: u142 :: u143 :: u144 :: u145 :: u146 :: u147 :: u148 :: u149 :: u150 :: u151 :: u152 :: u153 :: u154 :: u155 :: u156 :: u157 :: u158 :: u159 :: u160 :: u161 :: u162 :: u163 :: u164 :: u165 :: u166 :: u167 :: u168 :: u169 :: u170 :: u171 :: u172 :: u173 :: u174 :: u175 :: u176 :: u177 :: u178 :: u179 :: u180 :: u181 :: u182 :: u183 :: u184 :: u185 :: u186 :: u187 :: u188 :: u189 :: u190 :: u191 :: u192 :: u193 :: u194 :: u195 :: u196 :: u197 :: u198 :: u199 :: u200 :: u201 :: u202 :: u203 :: u204 :: u205 :: u206 :: u207 :: u208 :: u209 :: u210 :: u211 :: u212 :: u213 :: u214 :: u215 :: u216 :: u217 :: u218 :: u219 :: u220 :: u221 :: u222 :: u223 :: u224 :: u225 :: u226 :: []), []⟩ wx) :
    Code.wp Try.prog (netC [true, true, true, true, true, true, true, false, true, false, false, true, false, false, true, true]) (Exit.then K NoExit) ⟨List.toArray (u0 :: u1 :: .pointer (some ⟨w.heap.size, 0, none⟩) :: .pointer (some ⟨w.heap.size + 1, 0, none⟩) :: .pointer (some ⟨w.heap.size + 1 + 1, 0, none⟩) :: u5 :: c6 :: .int .i64 (k : Int) :: .int .i64 xm :: u9 :: u10 :: u11 :: u12 :: u13 :: u14 :: u15 :: u16 :: u17 :: u18 :: u19 :: u20 :: u21 :: u22 :: u23 :: u24 :: u25 :: u26 :: u27 :: u28 :: u29 :: u30 :: u31 :: u32 :: u33 :: u34 :: u35 :: u36 :: u37 :: u38 :: u39 :: u40 :: u41 :: u42 :: u43 :: u44 :: u45 :: u46 :: u47 :: u48 :: u49 :: u50 :: u51 :: u52 :: u53 :: u54 :: u55 :: u56 :: u57 :: u58 :: u59 :: u60 :: u61 :: u62 :: u63 :: u64 :: u65 :: u66 :: u67 :: u68 :: u69 :: u70 :: u71 :: u72 :: u73 :: u74 :: u75 :: u76 :: u77 :: u78 :: u79 :: u80 :: u81 :: u82 :: u83 :: u84 :: u85 :: u86 :: u87 :: u88 :: u89 :: u90 :: u91 :: u92 :: u93 :: u94 :: u95 :: u96 :: u97 :: u98 :: u99 :: u100 :: u101 :: u102 :: u103 :: u104 :: u105 :: u106 :: u107 :: u108 :: u109 :: u110 :: u111 :: u112 :: u113 :: u114 :: u115 :: u116 :: u117 :: u118 :: u119 :: u120 :: u121 :: u122 :: u123 :: u124 :: u125 :: u126 :: u127 :: u128 :: u129 :: u130 :: u131 :: u132 :: u133 :: u134 :: u135 :: u136 :: u137 :: u138 :: u139 :: u140 :: u141 :: u142 :: u143 :: u144 :: u145 :: u146 :: u147 :: u148 :: u149 :: u150 :: u151 :: u152 :: u153 :: u154 :: u155 :: u156 :: u157 :: u158 :: u159 :: u160 :: u161 :: u162 :: u163 :: u164 :: u165 :: u166 :: u167 :: u168 :: u169 :: u170 :: u171 :: u172 :: u173 :: u174 :: u175 :: u176 :: u177 :: u178 :: u179 :: u180 :: u181 :: u182 :: u183 :: u184 :: u185 :: u186 :: u187 :: u188 :: u189 :: u190 :: u191 :: u192 :: u193 :: u194 :: u195 :: u196 :: u197 :: u198 :: u199 :: u200 :: u201 :: u202 :: u203 :: u204 :: u205 :: u206 :: u207 :: u208 :: u209 :: u210 :: u211 :: u212 :: u213 :: u214 :: u215 :: u216 :: u217 :: u218 :: u219 :: u220 :: u221 :: u222 :: u223 :: u224 :: u225 :: u226 :: []), []⟩ wr := by
  obtain ⟨iN, hiN, zN0, zN1, zN2⟩ := info_parts nodeInfo
  have q3 : ∀ o, (wr.alloc o).cell? ⟨w.heap.size + 1 + 1, 3, none⟩ = some vn := fun o => (hst.blk.alloc o).cell 3
  have q3' := hst.blk.cell 3
  have q3'' : ∀ o1 o2, ((wr.alloc o1).alloc o2).cell? ⟨w.heap.size + 1 + 1, 3, none⟩ = some vn := fun o1 o2 => ((hst.blk.alloc o1).alloc o2).cell 3
  have hat := names_at k hk
  have i1 : (0 : Int) ≤ (k : Int) := by omega
  have i2 : (k : Int) < 7 := by omega
  have hnl2 : ns.length ≤ 7 := by omega
  have HW := Lib.hid (fun o1 o2 => hst.up (below_ad wr o1 o2))
  have HLT := Lib.hid hst.lt
  have HONE : Hid (∀ u ∈ [Value.string (nmG k), Value.int .i64 xm], u.oneCell' = true) := Lib.hid (by simp [Value.oneCell'])
  have HMX : Hid (ns.length + 1 ≤ maxLen) := Lib.hid (by unfold maxLen; omega)
  have HBY : Hid ((ns.length + 1) * 24 ≤ 140737488355328) := Lib.hid (by omega)
  clear hst hnl
  conv => arg 2; whnf
  go_region_law ((refine step_append_lies _ rfl (.tmp 55) (.tmp 62) 24 rfl w.heap.size 56 iN (.agg #[.string ⟨#[]⟩, .int .i64 0]) 2 24 Try.underlying24 hiN zN0 zN1 zN2 rfl (by decide) vn ns.length _ (by first | rfl | (apply rfl)) (HW.out _ _).nodes ⟨wr.heap.size + 1, 0, none⟩ 1 1 [.string (nmG k), .int .i64 xm] (by first | rfl | (apply rfl)) (by first | rfl | (apply rfl)) (World.news_of_block (cs := #[.string (nmG k), .int .i64 xm]) (t := 56) (fr := (0, 0)) (heap2_new _ _ _ _)) HONE.out Nat.zero_lt_one HMX.out HBY.out (by have := HLT.out; simp; omega) (wr.heap.size + 2) (by simp) ?_; intro gg cap w5 hown5 hgrow5 hat5 hlt5; have hb5 := (HW.out _ _).pbOf (HW.out _ _).nodes (by decide) hgrow5; have q5 := hb5.cell 3; have f5 := hb5.frozen 3))
  all_goals go_step
  all_goals go_step
  all_goals exact ⟨_, (HW.out _ _).pushNode (x := ⟨nmG k, xm⟩) hown5 hgrow5⟩

set_option maxHeartbeats 8000000 in
set_option maxRecDepth 100000 in
theorem net_b1 (w wr : World) (L : List Int) (k : Nat) (hk : k < 7) (pr ca : Int) (vn : Value) (ns : List PNode) (hnl : ns.length = k)
    (hst : NetSt w (w.heap.size + 1) (w.heap.size + 1 + 1) L pr ca 0 vn (.slice none 0 0) (.slice none 0 0) (.slice none 0 0) ns [] [] [] wr) (hok : SrcOk L)
    (Q : Exit → Act → World → Prop) (c6 : Value) (u0 u1 u5 u8 u9 u10 u11 u12 u13 u14 u15 u16 u17 u18 u19 u20 u21 u22 u23 u24 u25 u26 u27 u28 u29 u30 u31 u32 u33 u34 u35 u36 u37 u38 u39 u40 u41 u42 u43 u44 u45 u46 u47 u48 u49 u50 u51 u52 u53 u54 u55 u56 u57 u58 u59 u60 u61 u62 u63 u64 u65 u66 u67 u68 u69 u70 u71 u72 u73 u74 u75 u76 u77 u78 u79 u80 u81 u82 u83 u84 u85 u86 u87 u88 u89 u90 u91 u92 u93 u94 u95 u96 u97 u98 u99 u100 u101 u102 u103 u104 u105 u106 u107 u108 u109 u110 u111 u112 u113 u114 u115 u116 u117 u118 u119 u120 u121 u122 u123 u124 u125 u126 u127 u128 u129 u130 u131 u132 u133 u134 u135 u136 u137 u138 u139 u140 u141 u142 u143 u144 u145 u146 u147 u148 u149 u150 u151 u152 u153 u154 u155 u156 u157 u158 u159 u160 u161 u162 u163 u164 u165 u166 u167 u168 u169 u170 u171 u172 u173 u174 u175 u176 u177 u178 u179 u180 u181 u182 u183 u184 u185 u186 u187 u188 u189 u190 u191 u192 u193 u194 u195 u196 u197 u198 u199 u200 u201 u202 u203 u204 u205 u206 u207 u208 u209 u210 u211 u212 u213 u214 u215 u216 u217 u218 u219 u220 u221 u222 u223 u224 u225 u226 : Value)
    (hK : ∀ (wx : World) (c8 : Value) (u46 u47 u48 u49 u50 u51 u52 u53 u54 u55 u56 u57 u58 u59 u60 u61 u62 u63 u64 : Value), (∃ (vn' : Value), NetSt w (w.heap.size + 1) (w.heap.size + 1 + 1) L.tail.tail pr ca 0 vn' (.slice none 0 0) (.slice none 0 0) (.slice none 0 0) (ns ++ [nodeG k L]) [] [] [] wx ∧ SrcOk L.tail.tail) → Q .normal ⟨List.toArray (u0 :: u1 :: .pointer (some ⟨w.heap.size, 0, none⟩) :: .pointer (some ⟨w.heap.size + 1, 0, none⟩) :: .pointer (some ⟨w.heap.size + 1 + 1, 0, none⟩) :: u5 :: c6 :: .int .i64 (k : Int) :: c8 :: u9 :: u10 :: u11 :: u12 :: u13 :: u14 :: u15 :: u16 :: u17 :: u18 :: u19 :: u20 :: u21 :: u22 :: u23 :: u24 :: u25 :: u26 :: u27 :: u28 :: u29 :: u30 :: u31 :: u32 :: u33 :: u34 :: u35 :: u36 :: u37 :: u38 :: u39 :: u40 :: u41 :: u42 :: u43 :: u44 :: u45 :: u46 :: u47 :: u48 :: u49 :: u50 :: u51 :: u52 :: u53 :: u54 :: u55 :: u56 :: u57 :: u58 :: u59 :: u60 :: u61 :: u62 :: u63 :: u64 :: u65 :: u66 :: u67 :: u68 :: u69 :: u70 :: u71 :: u72 :: u73 :: u74 :: u75 :: u76 :: u77 :: u78 :: u79 :: u80 :: u81 :: u82 :: u83 :: u84 :: u85 :: u86 :: u87 :: u88 :: u89 :: u90 :: u91 :: u92 :: u93 :: u94 :: u95 :: u96 :: u97 :: u98 :: u99 :: u100 :: u101 :: u102 :: u103 :: u104 :: u105 :: u106 :: u107 :: u108 :: u109 :: u110 :: u111 :: u112 :: u113 :: u114 :: u115 :: u116 :: u117 :: u118 :: u119 :: u120 :: u121 :: u122 :: u123 :: u124 :: u125 :: u126 :: u127 :: u128 :: u129 :: u130 :: u131 :: u132 :: u133 :: u134 :: u135 :: u136 :: u137 :: u138 :: u139 :: u140 :: u141 :: u142 :: u143 :: u144 :: u145 :: u146 :: u147 :: u148 :: u149 :: u150 :: u151 :: u152 :: u153 :: u154 :: u155 :: u156 :: u157 :: u158 :: u159 :: u160 :: u161 :: u162 :: u163 :: u164 :: u165 :: u166 :: u167 :: u168 :: u169 :: u170 :: u171 :: u172 :: u173 :: u174 :: u175 :: u176 :: u177 :: u178 :: u179 :: u180 :: u181 :: u182 :: u183 :: u184 :: u185 :: u186 :: u187 :: u188 :: u189 :: u190 :: u191 :: u192 :: u193 :: u194 :: u195 :: u196 :: u197 :: u198 :: u199 :: u200 :: u201 :: u202 :: u203 :: u204 :: u205 :: u206 :: u207 :: u208 :: u209 :: u210 :: u211 :: u212 :: u213 :: u214 :: u215 :: u216 :: u217 :: u218 :: u219 :: u220 :: u221 :: u222 :: u223 :: u224 :: u225 :: u226 :: []), []⟩ wx) :
    Code.wp Try.prog (netC [true, true, true, true, true, true, true, false, true, false, false, true, false, false]) Q ⟨List.toArray (u0 :: u1 :: .pointer (some ⟨w.heap.size, 0, none⟩) :: .pointer (some ⟨w.heap.size + 1, 0, none⟩) :: .pointer (some ⟨w.heap.size + 1 + 1, 0, none⟩) :: u5 :: c6 :: .int .i64 (k : Int) :: u8 :: u9 :: u10 :: u11 :: u12 :: u13 :: u14 :: u15 :: u16 :: u17 :: u18 :: u19 :: u20 :: u21 :: u22 :: u23 :: u24 :: u25 :: u26 :: u27 :: u28 :: u29 :: u30 :: u31 :: u32 :: u33 :: u34 :: u35 :: u36 :: u37 :: u38 :: u39 :: u40 :: u41 :: u42 :: u43 :: u44 :: u45 :: u46 :: u47 :: u48 :: u49 :: u50 :: u51 :: u52 :: u53 :: u54 :: u55 :: u56 :: u57 :: u58 :: u59 :: u60 :: u61 :: u62 :: u63 :: u64 :: u65 :: u66 :: u67 :: u68 :: u69 :: u70 :: u71 :: u72 :: u73 :: u74 :: u75 :: u76 :: u77 :: u78 :: u79 :: u80 :: u81 :: u82 :: u83 :: u84 :: u85 :: u86 :: u87 :: u88 :: u89 :: u90 :: u91 :: u92 :: u93 :: u94 :: u95 :: u96 :: u97 :: u98 :: u99 :: u100 :: u101 :: u102 :: u103 :: u104 :: u105 :: u106 :: u107 :: u108 :: u109 :: u110 :: u111 :: u112 :: u113 :: u114 :: u115 :: u116 :: u117 :: u118 :: u119 :: u120 :: u121 :: u122 :: u123 :: u124 :: u125 :: u126 :: u127 :: u128 :: u129 :: u130 :: u131 :: u132 :: u133 :: u134 :: u135 :: u136 :: u137 :: u138 :: u139 :: u140 :: u141 :: u142 :: u143 :: u144 :: u145 :: u146 :: u147 :: u148 :: u149 :: u150 :: u151 :: u152 :: u153 :: u154 :: u155 :: u156 :: u157 :: u158 :: u159 :: u160 :: u161 :: u162 :: u163 :: u164 :: u165 :: u166 :: u167 :: u168 :: u169 :: u170 :: u171 :: u172 :: u173 :: u174 :: u175 :: u176 :: u177 :: u178 :: u179 :: u180 :: u181 :: u182 :: u183 :: u184 :: u185 :: u186 :: u187 :: u188 :: u189 :: u190 :: u191 :: u192 :: u193 :: u194 :: u195 :: u196 :: u197 :: u198 :: u199 :: u200 :: u201 :: u202 :: u203 :: u204 :: u205 :: u206 :: u207 :: u208 :: u209 :: u210 :: u211 :: u212 :: u213 :: u214 :: u215 :: u216 :: u217 :: u218 :: u219 :: u220 :: u221 :: u222 :: u223 :: u224 :: u225 :: u226 :: []), []⟩ wr := by
  obtain ⟨v1, HU1, bu1⟩ := ex_nx L 9 (by omega)
  obtain ⟨L1, HL1⟩ := ex_tail L
  obtain ⟨v2, HU2, bu2⟩ := ex_nx L1 3 (by omega)
  obtain ⟨L2, HL2⟩ := ex_tail L1
  have hxn : nodeG k L = ⟨nmG k, if 0 < v2 then 10 + (k : Int) else 1 + (v1 : Int)⟩ := by unfold nodeG; rw [HL1.out, HU2.out, HU1.out]
  rw [hxn, HL1.out, HL2.out] at hK
  clear hxn
  by_cases h2 : 0 < v2
  · have h2' : (0 : Int) < (v2 : Int) := by omega
    rw [if_pos h2] at hK
    clear h2
    conv => arg 2; whnf
    go_upto_region 16 with (first
      | ((go_at_call 32; (with_reducible refine (next_st 3 3 v2 L2 HU2 HL2 hst1 hok1 rfl (by omega) (by omega)).mono ?_); rintro e w4 ⟨rfl, hst2, hok2, -⟩))
      | ((go_at_call 32; (with_reducible refine (next_st 9 9 v1 L1 HU1 HL1 hst hok rfl (by omega) (by omega)).mono ?_); rintro e w3 ⟨rfl, hst1, hok1, -⟩)))
    refine wp_last (net_p16 w _ L2 k hk _ pr ca vn ns hnl hst2 _ _ _ _ _ _ _ _ _ _ _ _ _ _ _ _ _ _ _ _ _ _ _ _ _ _ _ _ _ _ _ _ _ _ _ _ _ _ _ _ _ _ _ _ _ _ _ _ _ _ _ _ _ _ _ _ _ _ _ _ _ _ _ _ _ _ _ _ _ _ _ _ _ _ _ _ _ _ _ _ _ _ _ _ _ _ _ _ _ _ _ _ _ _ _ _ _ _ _ _ _ _ _ _ _ _ _ _ _ _ _ _ _ _ _ _ _ _ _ _ _ _ _ _ _ _ _ _ _ _ _ _ _ _ _ _ _ _ _ _ _ _ _ _ _ _ _ _ _ _ _ _ _ _ _ _ _ _ _ _ _ _ _ _ _ _ _ _ _ _ _ _ _ _ _ _ _ _ _ _ _ _ _ _ _ _ _ _ _ _ _ _ _ _ _ _ _ _ _ _ _ _ _ _ _ _ _ _ _ _ _ _ _ _ _ _ _ _ _ _ _ _ _ ?_)
    intro wx
    intros
    rename_i hh
    obtain ⟨vn', hh⟩ := hh
    exact hK _ _ _ _ _ _ _ _ _ _ _ _ _ _ _ _ _ _ _ _ _ ⟨vn', hh, hok2⟩
  · have h2' : ¬ (0 : Int) < (v2 : Int) := by omega
    rw [if_neg h2] at hK
    clear h2
    conv => arg 2; whnf
    go_upto_region 16 with (first
      | ((go_at_call 32; (with_reducible refine (next_st 3 3 v2 L2 HU2 HL2 hst1 hok1 rfl (by omega) (by omega)).mono ?_); rintro e w4 ⟨rfl, hst2, hok2, -⟩))
      | ((go_at_call 32; (with_reducible refine (next_st 9 9 v1 L1 HU1 HL1 hst hok rfl (by omega) (by omega)).mono ?_); rintro e w3 ⟨rfl, hst1, hok1, -⟩)))
    refine wp_last (net_p16 w _ L2 k hk _ pr ca vn ns hnl hst2 _ _ _ _ _ _ _ _ _ _ _ _ _ _ _ _ _ _ _ _ _ _ _ _ _ _ _ _ _ _ _ _ _ _ _ _ _ _ _ _ _ _ _ _ _ _ _ _ _ _ _ _ _ _ _ _ _ _ _ _ _ _ _ _ _ _ _ _ _ _ _ _ _ _ _ _ _ _ _ _ _ _ _ _ _ _ _ _ _ _ _ _ _ _ _ _ _ _ _ _ _ _ _ _ _ _ _ _ _ _ _ _ _ _ _ _ _ _ _ _ _ _ _ _ _ _ _ _ _ _ _ _ _ _ _ _ _ _ _ _ _ _ _ _ _ _ _ _ _ _ _ _ _ _ _ _ _ _ _ _ _ _ _ _ _ _ _ _ _ _ _ _ _ _ _ _ _ _ _ _ _ _ _ _ _ _ _ _ _ _ _ _ _ _ _ _ _ _ _ _ _ _ _ _ _ _ _ _ _ _ _ _ _ _ _ _ _ _ _ _ _ _ _ ?_)
    intro wx
    intros
    rename_i hh
    obtain ⟨vn', hh⟩ := hh
    exact hK _ _ _ _ _ _ _ _ _ _ _ _ _ _ _ _ _ _ _ _ _ ⟨vn', hh, hok2⟩
end Go.Proofs.Ytlfdpfkimggeoaa
namespace Go.Proofs.Ytlfdpfkimggeoaa
open Go.RowKit
set_option linter.unusedVariables false

set_option maxHeartbeats 8000000 in
set_option maxRecDepth 100000 in
theorem net_p29 (w wr : World) (L1 : List Int) (v4 a b ub : Nat) (hab : a ≤ b) (hb : b < 2 + v4) (bv4 : v4 < 6) (pr ca : Int) (vn vl : Value) (ns : List PNode) (ls : List PLink) (hlsl : ls.length ≤ 9)
    (hst : LSt w L1 pr ca vn vl ns ls ub wr)
    (Q : Exit → Act → World → Prop) (c11 : Value) (u0 u1 u5 u7 u8 u9 u14 u15 u16 u17 u18 u19 u20 u21 u22 u23 u24 u25 u26 u27 u28 u29 u30 u31 u32 u33 u34 u35 u36 u37 u38 u39 u40 u41 u42 u43 u44 u45 u46 u47 u48 u49 u50 u51 u52 u53 u54 u55 u56 u57 u58 u59 u60 u61 u62 u63 u64 u65 u66 u67 u68 u69 u70 u71 u72 u73 u74 u75 u76 u77 u78 u79 u80 u81 u82 u83 u84 u85 u86 u87 u88 u89 u90 u91 u92 u93 u94 u95 u96 u97 u98 u99 u100 u101 u102 u103 u104 u105 u106 u107 u108 u109 u110 u111 u112 u113 u114 u115 u116 u117 u118 u119 u120 u121 u122 u123 u124 u125 u126 u127 u128 u129 u130 u131 u132 u133 u134 u135 u136 u137 u138 u139 u140 u141 u142 u143 u144 u145 u146 u147 u148 u149 u150 u151 u152 u153 u154 u155 u156 u157 u158 u159 u160 u161 u162 u163 u164 u165 u166 u167 u168 u169 u170 u171 u172 u173 u174 u175 u176 u177 u178 u179 u180 u181 u182 u183 u184 u185 u186 u187 u188 u189 u190 u191 u192 u193 u194 u195 u196 u197 u198 u199 u200 u201 u202 u203 u204 u205 u206 u207 u208 u209 u210 u211 u212 u213 u214 u215 u216 u217 u218 u219 u220 u221 u222 u223 u224 u225 u226 : Value)
    (hK : ∀ (wx : World) (u95 u96 u97 u98 u99 u100 u101 u102 u103 u104 u105 u106 u107 u108 u109 u110 u111 u112 u113 u114 u115 u116 u117 u118 u119 u120 u121 u122 u123 u124 u125 u126 : Value), (∃ (vl' : Value), LSt w (joinG a b ls L1).2 pr ca vn vl' ns (joinG a b ls L1).1 ub wx) → Q .normal ⟨List.toArray (u0 :: u1 :: .pointer (some ⟨w.heap.size, 0, none⟩) :: .pointer (some ⟨w.heap.size + 1, 0, none⟩) :: .pointer (some ⟨w.heap.size + 1 + 1, 0, none⟩) :: u5 :: .int .i64 (2 + (v4 : Int)) :: u7 :: u8 :: u9 :: .pointer (some ⟨ub, 0, none⟩) :: c11 :: .int .i64 (a : Int) :: .int .i64 (b : Int) :: u14 :: u15 :: u16 :: u17 :: u18 :: u19 :: u20 :: u21 :: u22 :: u23 :: u24 :: u25 :: u26 :: u27 :: u28 :: u29 :: u30 :: u31 :: u32 :: u33 :: u34 :: u35 :: u36 :: u37 :: u38 :: u39 :: u40 :: u41 :: u42 :: u43 :: u44 :: u45 :: u46 :: u47 :: u48 :: u49 :: u50 :: u51 :: u52 :: u53 :: u54 :: u55 :: u56 :: u57 :: u58 :: u59 :: u60 :: u61 :: u62 :: u63 :: u64 :: u65 :: u66 :: u67 :: u68 :: u69 :: u70 :: u71 :: u72 :: u73 :: u74 :: u75 :: u76 :: u77 :: u78 :: u79 :: u80 :: u81 :: u82 :: u83 :: u84 :: u85 :: u86 :: u87 :: u88 :: u89 :: u90 :: u91 :: u92 :: u93 :: u94 :: u95 :: u96 :: u97 :: u98 :: u99 :: u100 :: u101 :: u102 :: u103 :: u104 :: u105 :: u106 :: u107 :: u108 :: u109 :: u110 :: u111 :: u112 :: u113 :: u114 :: u115 :: u116 :: u117 :: u118 :: u119 :: u120 :: u121 :: u122 :: u123 :: u124 :: u125 :: u126 :: u127 :: u128 :: u129 :: u130 :: u131 :: u132 :: u133 :: u134 :: u135 :: u136 :: u137 :: u138 :: u139 :: u140 :: u141 :: u142 :: u143 :: u144 :: u145 :: u146 :: u147 :: u148 :: u149 :: u150 :: u151 :: u152 :: u153 :: u154 :: u155 :: u156 :: u157 :: u158 :: u159 :: u160 :: u161 :: u162 :: u163 :: u164 :: u165 :: u166 :: u167 :: u168 :: u169 :: u170 :: u171 :: u172 :: u173 :: u174 :: u175 :: u176 :: u177 :: u178 :: u179 :: u180 :: u181 :: u182 :: u183 :: u184 :: u185 :: u186 :: u187 :: u188 :: u189 :: u190 :: u191 :: u192 :: u193 :: u194 :: u195 :: u196 :: u197 :: u198 :: u199 :: u200 :: u201 :: u202 :: u203 :: u204 :: u205 :: u206 :: u207 :: u208 :: u209 :: u210 :: u211 :: u212 :: u213 :: u214 :: u215 :: u216 :: u217 :: u218 :: u219 :: u220 :: u221 :: u222 :: u223 :: u224 :: u225 :: u226 :: []), []⟩ wx) :
    Code.wp Try.prog (netC [true, true, true, true, true, true, true, true, true, true, false, true, false, false, true, false, false, true, true, true, true]) Q ⟨List.toArray (u0 :: u1 :: .pointer (some ⟨w.heap.size, 0, none⟩) :: .pointer (some ⟨w.heap.size + 1, 0, none⟩) :: .pointer (some ⟨w.heap.size + 1 + 1, 0, none⟩) :: u5 :: .int .i64 (2 + (v4 : Int)) :: u7 :: u8 :: u9 :: .pointer (some ⟨ub, 0, none⟩) :: c11 :: .int .i64 (a : Int) :: .int .i64 (b : Int) :: u14 :: u15 :: u16 :: u17 :: u18 :: u19 :: u20 :: u21 :: u22 :: u23 :: u24 :: u25 :: u26 :: u27 :: u28 :: u29 :: u30 :: u31 :: u32 :: u33 :: u34 :: u35 :: u36 :: u37 :: u38 :: u39 :: u40 :: u41 :: u42 :: u43 :: u44 :: u45 :: u46 :: u47 :: u48 :: u49 :: u50 :: u51 :: u52 :: u53 :: u54 :: u55 :: u56 :: u57 :: u58 :: u59 :: u60 :: u61 :: u62 :: u63 :: u64 :: u65 :: u66 :: u67 :: u68 :: u69 :: u70 :: u71 :: u72 :: u73 :: u74 :: u75 :: u76 :: u77 :: u78 :: u79 :: u80 :: u81 :: u82 :: u83 :: u84 :: u85 :: u86 :: u87 :: u88 :: u89 :: u90 :: u91 :: u92 :: u93 :: u94 :: u95 :: u96 :: u97 :: u98 :: u99 :: u100 :: u101 :: u102 :: u103 :: u104 :: u105 :: u106 :: u107 :: u108 :: u109 :: u110 :: u111 :: u112 :: u113 :: u114 :: u115 :: u116 :: u117 :: u118 :: u119 :: u120 :: u121 :: u122 :: u123 :: u124 :: u125 :: u126 :: u127 :: u128 :: u129 :: u130 :: u131 :: u132 :: u133 :: u134 :: u135 :: u136 :: u137 :: u138 :: u139 :: u140 :: u141 :: u142 :: u143 :: u144 :: u145 :: u146 :: u147 :: u148 :: u149 :: u150 :: u151 :: u152 :: u153 :: u154 :: u155 :: u156 :: u157 :: u158 :: u159 :: u160 :: u161 :: u162 :: u163 :: u164 :: u165 :: u166 :: u167 :: u168 :: u169 :: u170 :: u171 :: u172 :: u173 :: u174 :: u175 :: u176 :: u177 :: u178 :: u179 :: u180 :: u181 :: u182 :: u183 :: u184 :: u185 :: u186 :: u187 :: u188 :: u189 :: u190 :: u191 :: u192 :: u193 :: u194 :: u195 :: u196 :: u197 :: u198 :: u199 :: u200 :: u201 :: u202 :: u203 :: u204 :: u205 :: u206 :: u207 :: u208 :: u209 :: u210 :: u211 :: u212 :: u213 :: u214 :: u215 :: u216 :: u217 :: u218 :: u219 :: u220 :: u221 :: u222 :: u223 :: u224 :: u225 :: u226 :: []), []⟩ wr := by
  by_cases hne : a = b ∨ hasL ls a b = true
  · have hj2 : joinG a b ls L1 = (ls, L1) := by
      unfold joinG
      rw [if_neg]
      rintro ⟨h1, h2⟩
      rcases hne with h | h
      · exact h1 h
      · rw [h] at h2; cases h2
    rw [hj2] at hK
    clear hj2
    rcases hne with h | h
    · subst h
      conv => arg 2; whnf
      go_wp2_with fail
      exact ⟨vl, hst⟩
    · by_cases hab2 : a = b
      · subst hab2
        clear h
        conv => arg 2; whnf
        go_wp2_with fail
        exact ⟨vl, hst⟩
      · have hc := (hst.used.get a b (by omega) (by omega)).1
        rw [h] at hc
        have n1 : ((a : Int) != (b : Int)) = true := by simp; omega
        have i1 : (0 : Int) ≤ 7 * (a : Int) + (b : Int) := by omega
        have i2 : 7 * (a : Int) + (b : Int) < 49 := by omega
        clear h hab2
        conv => arg 2; whnf
        go_wp2_with fail
        exact ⟨vl, hst⟩
  · have hab2 : a < b := by
      have : ¬ a = b := fun h => hne (.inl h)
      omega
    have hno : hasL ls a b = false := by
      cases h : hasL ls a b
      · rfl
      · exact absurd (.inr h) hne
    obtain ⟨x1, HX1, bx1⟩ := ex_nx L1 15 (by omega)
    obtain ⟨L2, HT1⟩ := ex_tail L1
    obtain ⟨x2, HX2, bx2⟩ := ex_nx L2 15 (by omega)
    obtain ⟨L3, HT2⟩ := ex_tail L2
    obtain ⟨m, hm⟩ : ∃ m, x1 % (1 + x2) = m := ⟨_, rfl⟩
    have hm15 : m < 15 := by rw [← hm]; exact Nat.lt_of_le_of_lt (Nat.mod_le _ _) bx1
    have HM : Hid ((x1 : Int) % (1 + (x2 : Int)) = (m : Int)) := Lib.hid (by rw [← hm, Int.natCast_emod, Int.natCast_add]; rfl)
    have hj2 : joinG a b ls L1 = (ls ++ [⟨a, b, 1 + (m : Int)⟩], L3) := by
      unfold joinG
      rw [if_pos ⟨by omega, hno⟩, HX1.out, HT1.out, HX2.out, HT2.out, hm]
      rfl
    rw [hj2] at hK
    obtain ⟨hc, hcf⟩ := hst.used.get a b hab2 (by omega)
    rw [hno] at hc
    have n1 : ((a : Int) != (b : Int)) = true := by simp; omega
    have n2 : ¬ (a : Int) = (b : Int) := by omega
    have i1 : (0 : Int) ≤ 7 * (a : Int) + (b : Int) := by omega
    have i2 : 7 * (a : Int) + (b : Int) < 49 := by omega
    have HU2 := Lib.hid (hst.used.set_ a b (1 + (m : Int)) hab2 (by omega))
    have hst2 : NetSt w (w.heap.size + 1) (w.heap.size + 1 + 1) L1 pr ca 0 vn vl (.slice none 0 0) (.slice none 0 0) ns ls [] [] (wr.setCell ⟨ub, 7 * a + b, none⟩ (.bool true)) := by
      obtain ⟨ucs, hub1, _, _⟩ := hst.used
      exact hst.st.putFar hub1 hst.lo (by decide) (by decide) (by decide) (by decide) (by decide) (by decide) (by decide) (7 * a + b) (.bool true)
    have HST2 := Lib.hid hst2
    clear hj2 hno hne hst2 hm
    conv => arg 2; whnf
    go_upto_region 31 with fail
    refine wp_last (net_p31 w _ L1 L2 L3 a b ub x1 x2 m (by omega) (by omega) pr ca vn vl ns ls hlsl HX1 bx1 HT1 HX2 bx2 HT2 hm15 HM _ HST2.out hst.ok HU2.out _ _ _ _ _ _ _ _ _ _ _ _ _ _ _ _ _ _ _ _ _ _ _ _ _ _ _ _ _ _ _ _ _ _ _ _ _ _ _ _ _ _ _ _ _ _ _ _ _ _ _ _ _ _ _ _ _ _ _ _ _ _ _ _ _ _ _ _ _ _ _ _ _ _ _ _ _ _ _ _ _ _ _ _ _ _ _ _ _ _ _ _ _ _ _ _ _ _ _ _ _ _ _ _ _ _ _ _ _ _ _ _ _ _ _ _ _ _ _ _ _ _ _ _ _ _ _ _ _ _ _ _ _ _ _ _ _ _ _ _ _ _ _ _ _ _ _ _ _ _ _ _ _ _ _ _ _ _ _ _ _ _ _ _ _ _ _ _ _ _ _ _ _ _ _ _ _ _ _ _ _ _ _ _ _ _ _ _ _ _ _ _ _ _ _ _ _ _ _ _ _ _ _ _ _ _ _ _ _ _ _ _ _ _ _ _ _ _ _ _ _ _ ?_)
    intro wx
    intros
    rename_i hh
    obtain ⟨vl', h1, h2, h3⟩ := hh
    refine hK _ _ _ _ _ _ _ _ _ _ _ _ _ _ _ _ _ _ _ _ _ _ _ _ _ _ _ _ _ _ _ _ _ ⟨vl', h1, h2, h3, hst.lo⟩

set_option maxHeartbeats 8000000 in
set_option maxRecDepth 100000 in
theorem net_b3 (w wr : World) (L : List Int) (v4 k ub : Nat) (bv4 : v4 < 6) (bk : k < 10) (pr ca : Int) (vn vl : Value) (ns : List PNode) (ls : List PLink) (hlsl : ls.length ≤ 9)
    (hst : LSt w L pr ca vn vl ns ls ub wr)
    (Q : Exit → Act → World → Prop) (c11 : Value) (hc11 : c11 = .int .i64 (k : Int)) (u0 u1 u5 u7 u8 u9 u12 u13 u14 u15 u16 u17 u18 u19 u20 u21 u22 u23 u24 u25 u26 u27 u28 u29 u30 u31 u32 u33 u34 u35 u36 u37 u38 u39 u40 u41 u42 u43 u44 u45 u46 u47 u48 u49 u50 u51 u52 u53 u54 u55 u56 u57 u58 u59 u60 u61 u62 u63 u64 u65 u66 u67 u68 u69 u70 u71 u72 u73 u74 u75 u76 u77 u78 u79 u80 u81 u82 u83 u84 u85 u86 u87 u88 u89 u90 u91 u92 u93 u94 u95 u96 u97 u98 u99 u100 u101 u102 u103 u104 u105 u106 u107 u108 u109 u110 u111 u112 u113 u114 u115 u116 u117 u118 u119 u120 u121 u122 u123 u124 u125 u126 u127 u128 u129 u130 u131 u132 u133 u134 u135 u136 u137 u138 u139 u140 u141 u142 u143 u144 u145 u146 u147 u148 u149 u150 u151 u152 u153 u154 u155 u156 u157 u158 u159 u160 u161 u162 u163 u164 u165 u166 u167 u168 u169 u170 u171 u172 u173 u174 u175 u176 u177 u178 u179 u180 u181 u182 u183 u184 u185 u186 u187 u188 u189 u190 u191 u192 u193 u194 u195 u196 u197 u198 u199 u200 u201 u202 u203 u204 u205 u206 u207 u208 u209 u210 u211 u212 u213 u214 u215 u216 u217 u218 u219 u220 u221 u222 u223 u224 u225 u226 : Value)
    (hK : ∀ (wx : World) (c12 c13 : Value) (u73 u74 u75 u76 u77 u78 u79 u80 u81 u82 u83 u84 u85 u86 u87 u88 u89 u90 u91 u92 u93 u94 u95 u96 u97 u98 u99 u100 u101 u102 u103 u104 u105 u106 u107 u108 u109 u110 u111 u112 u113 u114 u115 u116 u117 u118 u119 u120 u121 u122 u123 u124 u125 u126 : Value), (∃ (vl' : Value), LSt w (linkG (2 + v4) k (ls, L)).2 pr ca vn vl' ns (linkG (2 + v4) k (ls, L)).1 ub wx) → Q .normal ⟨List.toArray (u0 :: u1 :: .pointer (some ⟨w.heap.size, 0, none⟩) :: .pointer (some ⟨w.heap.size + 1, 0, none⟩) :: .pointer (some ⟨w.heap.size + 1 + 1, 0, none⟩) :: u5 :: .int .i64 (2 + (v4 : Int)) :: u7 :: u8 :: u9 :: .pointer (some ⟨ub, 0, none⟩) :: c11 :: c12 :: c13 :: u14 :: u15 :: u16 :: u17 :: u18 :: u19 :: u20 :: u21 :: u22 :: u23 :: u24 :: u25 :: u26 :: u27 :: u28 :: u29 :: u30 :: u31 :: u32 :: u33 :: u34 :: u35 :: u36 :: u37 :: u38 :: u39 :: u40 :: u41 :: u42 :: u43 :: u44 :: u45 :: u46 :: u47 :: u48 :: u49 :: u50 :: u51 :: u52 :: u53 :: u54 :: u55 :: u56 :: u57 :: u58 :: u59 :: u60 :: u61 :: u62 :: u63 :: u64 :: u65 :: u66 :: u67 :: u68 :: u69 :: u70 :: u71 :: u72 :: u73 :: u74 :: u75 :: u76 :: u77 :: u78 :: u79 :: u80 :: u81 :: u82 :: u83 :: u84 :: u85 :: u86 :: u87 :: u88 :: u89 :: u90 :: u91 :: u92 :: u93 :: u94 :: u95 :: u96 :: u97 :: u98 :: u99 :: u100 :: u101 :: u102 :: u103 :: u104 :: u105 :: u106 :: u107 :: u108 :: u109 :: u110 :: u111 :: u112 :: u113 :: u114 :: u115 :: u116 :: u117 :: u118 :: u119 :: u120 :: u121 :: u122 :: u123 :: u124 :: u125 :: u126 :: u127 :: u128 :: u129 :: u130 :: u131 :: u132 :: u133 :: u134 :: u135 :: u136 :: u137 :: u138 :: u139 :: u140 :: u141 :: u142 :: u143 :: u144 :: u145 :: u146 :: u147 :: u148 :: u149 :: u150 :: u151 :: u152 :: u153 :: u154 :: u155 :: u156 :: u157 :: u158 :: u159 :: u160 :: u161 :: u162 :: u163 :: u164 :: u165 :: u166 :: u167 :: u168 :: u169 :: u170 :: u171 :: u172 :: u173 :: u174 :: u175 :: u176 :: u177 :: u178 :: u179 :: u180 :: u181 :: u182 :: u183 :: u184 :: u185 :: u186 :: u187 :: u188 :: u189 :: u190 :: u191 :: u192 :: u193 :: u194 :: u195 :: u196 :: u197 :: u198 :: u199 :: u200 :: u201 :: u202 :: u203 :: u204 :: u205 :: u206 :: u207 :: u208 :: u209 :: u210 :: u211 :: u212 :: u213 :: u214 :: u215 :: u216 :: u217 :: u218 :: u219 :: u220 :: u221 :: u222 :: u223 :: u224 :: u225 :: u226 :: []), []⟩ wx) :
    Code.wp Try.prog (netC [true, true, true, true, true, true, true, true, true, true, false, true, false, false, true, false, false]) Q ⟨List.toArray (u0 :: u1 :: .pointer (some ⟨w.heap.size, 0, none⟩) :: .pointer (some ⟨w.heap.size + 1, 0, none⟩) :: .pointer (some ⟨w.heap.size + 1 + 1, 0, none⟩) :: u5 :: .int .i64 (2 + (v4 : Int)) :: u7 :: u8 :: u9 :: .pointer (some ⟨ub, 0, none⟩) :: c11 :: u12 :: u13 :: u14 :: u15 :: u16 :: u17 :: u18 :: u19 :: u20 :: u21 :: u22 :: u23 :: u24 :: u25 :: u26 :: u27 :: u28 :: u29 :: u30 :: u31 :: u32 :: u33 :: u34 :: u35 :: u36 :: u37 :: u38 :: u39 :: u40 :: u41 :: u42 :: u43 :: u44 :: u45 :: u46 :: u47 :: u48 :: u49 :: u50 :: u51 :: u52 :: u53 :: u54 :: u55 :: u56 :: u57 :: u58 :: u59 :: u60 :: u61 :: u62 :: u63 :: u64 :: u65 :: u66 :: u67 :: u68 :: u69 :: u70 :: u71 :: u72 :: u73 :: u74 :: u75 :: u76 :: u77 :: u78 :: u79 :: u80 :: u81 :: u82 :: u83 :: u84 :: u85 :: u86 :: u87 :: u88 :: u89 :: u90 :: u91 :: u92 :: u93 :: u94 :: u95 :: u96 :: u97 :: u98 :: u99 :: u100 :: u101 :: u102 :: u103 :: u104 :: u105 :: u106 :: u107 :: u108 :: u109 :: u110 :: u111 :: u112 :: u113 :: u114 :: u115 :: u116 :: u117 :: u118 :: u119 :: u120 :: u121 :: u122 :: u123 :: u124 :: u125 :: u126 :: u127 :: u128 :: u129 :: u130 :: u131 :: u132 :: u133 :: u134 :: u135 :: u136 :: u137 :: u138 :: u139 :: u140 :: u141 :: u142 :: u143 :: u144 :: u145 :: u146 :: u147 :: u148 :: u149 :: u150 :: u151 :: u152 :: u153 :: u154 :: u155 :: u156 :: u157 :: u158 :: u159 :: u160 :: u161 :: u162 :: u163 :: u164 :: u165 :: u166 :: u167 :: u168 :: u169 :: u170 :: u171 :: u172 :: u173 :: u174 :: u175 :: u176 :: u177 :: u178 :: u179 :: u180 :: u181 :: u182 :: u183 :: u184 :: u185 :: u186 :: u187 :: u188 :: u189 :: u190 :: u191 :: u192 :: u193 :: u194 :: u195 :: u196 :: u197 :: u198 :: u199 :: u200 :: u201 :: u202 :: u203 :: u204 :: u205 :: u206 :: u207 :: u208 :: u209 :: u210 :: u211 :: u212 :: u213 :: u214 :: u215 :: u216 :: u217 :: u218 :: u219 :: u220 :: u221 :: u222 :: u223 :: u224 :: u225 :: u226 :: []), []⟩ wr := by
  subst hc11
  conv => arg 2; whnf
  go_upto_region 24 with fail
  refine wp_goes_on (net_p24 w wr L v4 k ub bv4 bk pr ca vn vl ns ls hst _ _ _ _ _ _ _ _ _ _ _ _ _ _ _ _ _ _ _ _ _ _ _ _ _ _ _ _ _ _ _ _ _ _ _ _ _ _ _ _ _ _ _ _ _ _ _ _ _ _ _ _ _ _ _ _ _ _ _ _ _ _ _ _ _ _ _ _ _ _ _ _ _ _ _ _ _ _ _ _ _ _ _ _ _ _ _ _ _ _ _ _ _ _ _ _ _ _ _ _ _ _ _ _ _ _ _ _ _ _ _ _ _ _ _ _ _ _ _ _ _ _ _ _ _ _ _ _ _ _ _ _ _ _ _ _ _ _ _ _ _ _ _ _ _ _ _ _ _ _ _ _ _ _ _ _ _ _ _ _ _ _ _ _ _ _ _ _ _ _ _ _ _ _ _ _ _ _ _ _ _ _ _ _ _ _ _ _ _ _ _ _ _ _ _ _ _ _ _ _ _ _ _ _ _ _ _ _ _ _ _ _ _ _ _ _ _ _ _ _ _ ?_)
  clear hst
  intro wx c83
  intros
  rename_i hh
  obtain ⟨t, L', rfl, HE, hst⟩ := hh
  go_step
  refine wp_goes_on (net_c83 w wx L L' v4 k ub bv4 bk pr ca vn vl ns ls t HE hst _ _ _ _ _ _ _ _ _ _ _ _ _ _ _ _ _ _ _ _ _ _ _ _ _ _ _ _ _ _ _ _ _ _ _ _ _ _ _ _ _ _ _ _ _ _ _ _ _ _ _ _ _ _ _ _ _ _ _ _ _ _ _ _ _ _ _ _ _ _ _ _ _ _ _ _ _ _ _ _ _ _ _ _ _ _ _ _ _ _ _ _ _ _ _ _ _ _ _ _ _ _ _ _ _ _ _ _ _ _ _ _ _ _ _ _ _ _ _ _ _ _ _ _ _ _ _ _ _ _ _ _ _ _ _ _ _ _ _ _ _ _ _ _ _ _ _ _ _ _ _ _ _ _ _ _ _ _ _ _ _ _ _ _ _ _ _ _ _ _ _ _ _ _ _ _ _ _ _ _ _ _ _ _ _ _ _ _ _ _ _ _ _ _ _ _ _ _ _ _ _ _ _ _ _ _ _ _ _ _ _ _ _ _ _ _ _ _ _ _ ?_)
  clear hst HE
  intro wx c12 c13
  intros
  rename_i hh
  obtain ⟨a0, b0, L1, rfl, rfl, ba0, bb0, HE, hst⟩ := hh
  go_step
  go_step
  refine wp_goes_on (net_p27 w wx v4 a0 b0 ub ba0 bb0 _ _ _ _ _ _ _ _ _ _ _ _ _ _ _ _ _ _ _ _ _ _ _ _ _ _ _ _ _ _ _ _ _ _ _ _ _ _ _ _ _ _ _ _ _ _ _ _ _ _ _ _ _ _ _ _ _ _ _ _ _ _ _ _ _ _ _ _ _ _ _ _ _ _ _ _ _ _ _ _ _ _ _ _ _ _ _ _ _ _ _ _ _ _ _ _ _ _ _ _ _ _ _ _ _ _ _ _ _ _ _ _ _ _ _ _ _ _ _ _ _ _ _ _ _ _ _ _ _ _ _ _ _ _ _ _ _ _ _ _ _ _ _ _ _ _ _ _ _ _ _ _ _ _ _ _ _ _ _ _ _ _ _ _ _ _ _ _ _ _ _ _ _ _ _ _ _ _ _ _ _ _ _ _ _ _ _ _ _ _ _ _ _ _ _ _ _ _ _ _ _ _ _ _ _ _ _ _ _ _ _ _ _ _ _ _ _ _ _ _ _ ?_)
  intro c12 c13
  intros
  rename_i hh
  obtain ⟨rfl, rfl⟩ := hh
  go_step
  have hin := endsG_in (2 + v4) k L (by omega)
  have hlk : linkG (2 + v4) k (ls, L) = joinG (min a0 b0) (max a0 b0) ls L1 := by
    unfold linkG
    dsimp only
    rw [HE.out]
  rw [HE.out] at hin
  dsimp only at hin
  rw [hlk] at hK
  refine net_p29 w wx L1 v4 (min a0 b0) (max a0 b0) ub (by omega) (by omega) bv4 pr ca vn vl ns ls hlsl hst _ _ _ _ _ _ _ _ _ _ _ _ _ _ _ _ _ _ _ _ _ _ _ _ _ _ _ _ _ _ _ _ _ _ _ _ _ _ _ _ _ _ _ _ _ _ _ _ _ _ _ _ _ _ _ _ _ _ _ _ _ _ _ _ _ _ _ _ _ _ _ _ _ _ _ _ _ _ _ _ _ _ _ _ _ _ _ _ _ _ _ _ _ _ _ _ _ _ _ _ _ _ _ _ _ _ _ _ _ _ _ _ _ _ _ _ _ _ _ _ _ _ _ _ _ _ _ _ _ _ _ _ _ _ _ _ _ _ _ _ _ _ _ _ _ _ _ _ _ _ _ _ _ _ _ _ _ _ _ _ _ _ _ _ _ _ _ _ _ _ _ _ _ _ _ _ _ _ _ _ _ _ _ _ _ _ _ _ _ _ _ _ _ _ _ _ _ _ _ _ _ _ _ _ _ _ _ _ _ _ _ _ _ _ _ _ _ _ _ _ _ ?_
  intro wx
  intros
  rename_i hh
  exact hK _ _ _ _ _ _ _ _ _ _ _ _ _ _ _ _ _ _ _ _ _ _ _ _ _ _ _ _ _ _ _ _ _ _ _ _ _ _ _ _ _ _ _ _ _ _ _ _ _ _ _ _ _ _ _ _ _ hh

set_option maxHeartbeats 8000000 in
set_option maxRecDepth 100000 in
theorem net_rest11 (l : List Int) (w wr : World) (L : List Int) (v3 v4 : Nat) (bv3 : v3 < 4) (bv4 : v4 < 6) (pr ca : Int) (vn vl : Value) (ns : List PNode) (ls : List PLink)
    (hst : NetSt w (w.heap.size + 1) (w.heap.size + 1 + 1) L pr ca 0 vn vl (.slice none 0 0) (.slice none 0 0) ns ls [] [] wr) (hok : SrcOk L)
    (HN : Hid (netOf l = ⟨pr, ca, min (v3 : Int) (ls.length : Int), ns, ls, (destsG (2 + v4) L.tail (nx L 2 + 1)).1, (checksG (2 + v4) (destsG (2 + v4) L.tail (nx L 2 + 1)).1.length (destsG (2 + v4) L.tail (nx L 2 + 1)).2.tail (nx (destsG (2 + v4) L.tail (nx L 2 + 1)).2 7)).1⟩))
    (u0 u1 u7 u8 u9 u10 u11 u12 u13 u14 u15 u16 u17 u18 u19 u20 u21 u22 u23 u24 u25 u26 u27 u28 u29 u30 u31 u32 u33 u34 u35 u36 u37 u38 u39 u40 u41 u42 u43 u44 u45 u46 u47 u48 u49 u50 u51 u52 u53 u54 u55 u56 u57 u58 u59 u60 u61 u62 u63 u64 u65 u66 u67 u68 u69 u70 u71 u72 u73 u74 u75 u76 u77 u78 u79 u80 u81 u82 u83 u84 u85 u86 u87 u88 u89 u90 u91 u92 u93 u94 u95 u96 u97 u98 u99 u100 u101 u102 u103 u104 u105 u106 u107 u108 u109 u110 u111 u112 u113 u114 u115 u116 u117 u118 u119 u120 u121 u122 u123 u124 u125 u126 u127 u128 u129 u130 u131 u132 u133 u134 u135 u136 u137 u138 u139 u140 u141 u142 u143 u144 u145 u146 u147 u148 u149 u150 u151 u152 u153 u154 u155 u156 u157 u158 u159 u160 u161 u162 u163 u164 u165 u166 u167 u168 u169 u170 u171 u172 u173 u174 u175 u176 u177 u178 u179 u180 u181 u182 u183 u184 u185 u186 u187 u188 u189 u190 u191 u192 u193 u194 u195 u196 u197 u198 u199 u200 u201 u202 u203 u204 u205 u206 u207 u208 u209 u210 u211 u212 u213 u214 u215 u216 u217 u218 u219 u220 u221 u222 u223 u224 u225 u226 : Value) :
    Code.wp Try.prog (netC [true, true, true, true, true, true, true, true, true, true, true]) (bodyPost Try.prog Try.f7 (NetAs (netOf l) w)) ⟨List.toArray (u0 :: u1 :: .pointer (some ⟨w.heap.size, 0, none⟩) :: .pointer (some ⟨w.heap.size + 1, 0, none⟩) :: .pointer (some ⟨w.heap.size + 1 + 1, 0, none⟩) :: .int .i64 (v3 : Int) :: .int .i64 (2 + (v4 : Int)) :: u7 :: u8 :: u9 :: u10 :: u11 :: u12 :: u13 :: u14 :: u15 :: u16 :: u17 :: u18 :: u19 :: u20 :: u21 :: u22 :: u23 :: u24 :: u25 :: u26 :: u27 :: u28 :: u29 :: u30 :: u31 :: u32 :: u33 :: u34 :: u35 :: u36 :: u37 :: u38 :: u39 :: u40 :: u41 :: u42 :: u43 :: u44 :: u45 :: u46 :: u47 :: u48 :: u49 :: u50 :: u51 :: u52 :: u53 :: u54 :: u55 :: u56 :: u57 :: u58 :: u59 :: u60 :: u61 :: u62 :: u63 :: u64 :: u65 :: u66 :: u67 :: u68 :: u69 :: u70 :: u71 :: u72 :: u73 :: u74 :: u75 :: u76 :: u77 :: u78 :: u79 :: u80 :: u81 :: u82 :: u83 :: u84 :: u85 :: u86 :: u87 :: u88 :: u89 :: u90 :: u91 :: u92 :: u93 :: u94 :: u95 :: u96 :: u97 :: u98 :: u99 :: u100 :: u101 :: u102 :: u103 :: u104 :: u105 :: u106 :: u107 :: u108 :: u109 :: u110 :: u111 :: u112 :: u113 :: u114 :: u115 :: u116 :: u117 :: u118 :: u119 :: u120 :: u121 :: u122 :: u123 :: u124 :: u125 :: u126 :: u127 :: u128 :: u129 :: u130 :: u131 :: u132 :: u133 :: u134 :: u135 :: u136 :: u137 :: u138 :: u139 :: u140 :: u141 :: u142 :: u143 :: u144 :: u145 :: u146 :: u147 :: u148 :: u149 :: u150 :: u151 :: u152 :: u153 :: u154 :: u155 :: u156 :: u157 :: u158 :: u159 :: u160 :: u161 :: u162 :: u163 :: u164 :: u165 :: u166 :: u167 :: u168 :: u169 :: u170 :: u171 :: u172 :: u173 :: u174 :: u175 :: u176 :: u177 :: u178 :: u179 :: u180 :: u181 :: u182 :: u183 :: u184 :: u185 :: u186 :: u187 :: u188 :: u189 :: u190 :: u191 :: u192 :: u193 :: u194 :: u195 :: u196 :: u197 :: u198 :: u199 :: u200 :: u201 :: u202 :: u203 :: u204 :: u205 :: u206 :: u207 :: u208 :: u209 :: u210 :: u211 :: u212 :: u213 :: u214 :: u215 :: u216 :: u217 :: u218 :: u219 :: u220 :: u221 :: u222 :: u223 :: u224 :: u225 :: u226 :: []), []⟩ wr := by
  obtain ⟨Al, cl, rfl, hcl⟩ := own_form hst.links
  have q4 := hst.blk.cell 4
  have q2 := hst.blk.cell 2
  have g2 := hst.blk.frozen 2
  have hst6 := Lib.hid (hst.put 2 (.int .i64 (min (v3 : Int) (ls.length : Int))) pr ca (min (v3 : Int) (ls.length : Int)) rfl)
  clear hst
  conv => arg 2; whnf
  repeat (first | exact net_rest12 l w _ L v4 bv4 pr ca _ vn _ ns ls hst6.out hok HN _ _ _ _ _ _ _ _ _ _ _ _ _ _ _ _ _ _ _ _ _ _ _ _ _ _ _ _ _ _ _ _ _ _ _ _ _ _ _ _ _ _ _ _ _ _ _ _ _ _ _ _ _ _ _ _ _ _ _ _ _ _ _ _ _ _ _ _ _ _ _ _ _ _ _ _ _ _ _ _ _ _ _ _ _ _ _ _ _ _ _ _ _ _ _ _ _ _ _ _ _ _ _ _ _ _ _ _ _ _ _ _ _ _ _ _ _ _ _ _ _ _ _ _ _ _ _ _ _ _ _ _ _ _ _ _ _ _ _ _ _ _ _ _ _ _ _ _ _ _ _ _ _ _ _ _ _ _ _ _ _ _ _ _ _ _ _ _ _ _ _ _ _ _ _ _ _ _ _ _ _ _ _ _ _ _ _ _ _ _ _ _ _ _ _ _ _ _ _ _ _ _ _ _ _ _ _ _ _ _ _ _ _ _ _ _ _ _ _ _ _ _ _ | go_values | go_skip | go_guarded | go_step | go_upon)
end Go.Proofs.Ytlfdpfkimggeoaa
namespace Go.Proofs.Ytlfdpfkimggeoaa
open Go.RowKit
set_option linter.unusedVariables false

set_option maxHeartbeats 8000000 in
set_option maxRecDepth 100000 in
theorem net_rest8 (l : List Int) (w wr : World) (L : List Int) (v3 v4 : Nat) (bv3 : v3 < 4) (bv4 : v4 < 6) (pr ca : Int) (vn : Value) (ns : List PNode)
    (hst : NetSt w (w.heap.size + 1) (w.heap.size + 1 + 1) L pr ca 0 vn (.slice none 0 0) (.slice none 0 0) (.slice none 0 0) ns [] [] [] wr) (hok : SrcOk L)
    (HN : Hid (∀ (ls : List PLink) (L2 : List Int), linksG (2 + v4) L.tail (nx L 10) = (ls, L2) → netOf l = ⟨pr, ca, min (v3 : Int) (ls.length : Int), ns, ls, (destsG (2 + v4) L2.tail (nx L2 2 + 1)).1, (checksG (2 + v4) (destsG (2 + v4) L2.tail (nx L2 2 + 1)).1.length (destsG (2 + v4) L2.tail (nx L2 2 + 1)).2.tail (nx (destsG (2 + v4) L2.tail (nx L2 2 + 1)).2 7)).1⟩))
    (u0 u1 u7 u8 u9 u10 u11 u12 u13 u14 u15 u16 u17 u18 u19 u20 u21 u22 u23 u24 u25 u26 u27 u28 u29 u30 u31 u32 u33 u34 u35 u36 u37 u38 u39 u40 u41 u42 u43 u44 u45 u46 u47 u48 u49 u50 u51 u52 u53 u54 u55 u56 u57 u58 u59 u60 u61 u62 u63 u64 u65 u66 u67 u68 u69 u70 u71 u72 u73 u74 u75 u76 u77 u78 u79 u80 u81 u82 u83 u84 u85 u86 u87 u88 u89 u90 u91 u92 u93 u94 u95 u96 u97 u98 u99 u100 u101 u102 u103 u104 u105 u106 u107 u108 u109 u110 u111 u112 u113 u114 u115 u116 u117 u118 u119 u120 u121 u122 u123 u124 u125 u126 u127 u128 u129 u130 u131 u132 u133 u134 u135 u136 u137 u138 u139 u140 u141 u142 u143 u144 u145 u146 u147 u148 u149 u150 u151 u152 u153 u154 u155 u156 u157 u158 u159 u160 u161 u162 u163 u164 u165 u166 u167 u168 u169 u170 u171 u172 u173 u174 u175 u176 u177 u178 u179 u180 u181 u182 u183 u184 u185 u186 u187 u188 u189 u190 u191 u192 u193 u194 u195 u196 u197 u198 u199 u200 u201 u202 u203 u204 u205 u206 u207 u208 u209 u210 u211 u212 u213 u214 u215 u216 u217 u218 u219 u220 u221 u222 u223 u224 u225 u226 : Value) :
    Code.wp Try.prog (netC [true, true, true, true, true, true, true, true]) (bodyPost Try.prog Try.f7 (NetAs (netOf l) w)) ⟨List.toArray (u0 :: u1 :: .pointer (some ⟨w.heap.size, 0, none⟩) :: .pointer (some ⟨w.heap.size + 1, 0, none⟩) :: .pointer (some ⟨w.heap.size + 1 + 1, 0, none⟩) :: .int .i64 (v3 : Int) :: .int .i64 (2 + (v4 : Int)) :: u7 :: u8 :: u9 :: u10 :: u11 :: u12 :: u13 :: u14 :: u15 :: u16 :: u17 :: u18 :: u19 :: u20 :: u21 :: u22 :: u23 :: u24 :: u25 :: u26 :: u27 :: u28 :: u29 :: u30 :: u31 :: u32 :: u33 :: u34 :: u35 :: u36 :: u37 :: u38 :: u39 :: u40 :: u41 :: u42 :: u43 :: u44 :: u45 :: u46 :: u47 :: u48 :: u49 :: u50 :: u51 :: u52 :: u53 :: u54 :: u55 :: u56 :: u57 :: u58 :: u59 :: u60 :: u61 :: u62 :: u63 :: u64 :: u65 :: u66 :: u67 :: u68 :: u69 :: u70 :: u71 :: u72 :: u73 :: u74 :: u75 :: u76 :: u77 :: u78 :: u79 :: u80 :: u81 :: u82 :: u83 :: u84 :: u85 :: u86 :: u87 :: u88 :: u89 :: u90 :: u91 :: u92 :: u93 :: u94 :: u95 :: u96 :: u97 :: u98 :: u99 :: u100 :: u101 :: u102 :: u103 :: u104 :: u105 :: u106 :: u107 :: u108 :: u109 :: u110 :: u111 :: u112 :: u113 :: u114 :: u115 :: u116 :: u117 :: u118 :: u119 :: u120 :: u121 :: u122 :: u123 :: u124 :: u125 :: u126 :: u127 :: u128 :: u129 :: u130 :: u131 :: u132 :: u133 :: u134 :: u135 :: u136 :: u137 :: u138 :: u139 :: u140 :: u141 :: u142 :: u143 :: u144 :: u145 :: u146 :: u147 :: u148 :: u149 :: u150 :: u151 :: u152 :: u153 :: u154 :: u155 :: u156 :: u157 :: u158 :: u159 :: u160 :: u161 :: u162 :: u163 :: u164 :: u165 :: u166 :: u167 :: u168 :: u169 :: u170 :: u171 :: u172 :: u173 :: u174 :: u175 :: u176 :: u177 :: u178 :: u179 :: u180 :: u181 :: u182 :: u183 :: u184 :: u185 :: u186 :: u187 :: u188 :: u189 :: u190 :: u191 :: u192 :: u193 :: u194 :: u195 :: u196 :: u197 :: u198 :: u199 :: u200 :: u201 :: u202 :: u203 :: u204 :: u205 :: u206 :: u207 :: u208 :: u209 :: u210 :: u211 :: u212 :: u213 :: u214 :: u215 :: u216 :: u217 :: u218 :: u219 :: u220 :: u221 :: u222 :: u223 :: u224 :: u225 :: u226 :: []), []⟩ wr := by
  obtain ⟨v5, HV5, bv5⟩ := ex_nx L 10 (by omega)
  obtain ⟨l5, HL5⟩ := ex_tail L
  have HN2 : Hid (∀ (ls : List PLink) (L2 : List Int), linksG (2 + v4) l5 v5 = (ls, L2) → netOf l = ⟨pr, ca, min (v3 : Int) (ls.length : Int), ns, ls, (destsG (2 + v4) L2.tail (nx L2 2 + 1)).1, (checksG (2 + v4) (destsG (2 + v4) L2.tail (nx L2 2 + 1)).1.length (destsG (2 + v4) L2.tail (nx L2 2 + 1)).2.tail (nx (destsG (2 + v4) L2.tail (nx L2 2 + 1)).2 7)).1⟩) :=
    Lib.hid (fun ls L2 h => HN.out ls L2 (by rw [HV5.out, HL5.out]; exact h))
  clear HN
  conv => arg 2; whnf
  go_upto_region 18 with (go_at_call 32; (with_reducible refine (next_st 10 10 v5 l5 HV5 HL5 hst hok rfl (by omega) (by omega)).mono ?_); clear hst hok; rintro e w5 ⟨rfl, hst, hok, -⟩)
  go_step
  go_step
  go_step
  go_step
  go_step
  go_step
  go_step
  refine wpList_store_mid rfl 63 _ _ rfl _ 0 _ rfl rfl (there_of_blk (Blk.new _ _ _)) (by kernel_rfl) (by simp [Value.oneCell']) ?_
  rw [setCells_self (Blk.new _ _ _) _ 0 (fun j v hj => by rw [Nat.zero_add]; simpa using hj)]
  obtain ⟨Z, hZ⟩ : ∃ Z : Array Value, #[.bool false, .bool false, .bool false, .bool false, .bool false, .bool false, .bool false, .bool false, .bool false, .bool false, .bool false, .bool false, .bool false, .bool false, .bool false, .bool false, .bool false, .bool false, .bool false, .bool false, .bool false, .bool false, .bool false, .bool false, .bool false, .bool false, .bool false, .bool false, .bool false, .bool false, .bool false, .bool false, .bool false, .bool false, .bool false, .bool false, .bool false, .bool false, .bool false, .bool false, .bool false, .bool false, .bool false, .bool false, .bool false, .bool false, .bool false, .bool false, .bool false] = Z := ⟨_, rfl⟩
  rw [hZ]
  have hZ' : Z = Array.replicate 49 (.bool false) := by rw [← hZ]; rfl
  have hU := UsedAt.start (Blk.new w5 63 Z) hZ'
  have hst' := hst.up (below_new w5 (.cells Z 63))
  have hub := hst.lt
  obtain ⟨W, hW⟩ : ∃ W, w5.alloc (.cells Z 63) = W := ⟨_, rfl⟩
  rw [hW] at hU hst' ⊢
  have hl0 : LSt w (linksG (2 + v4) l5 0).2 pr ca vn (.slice none 0 0) ns (linksG (2 + v4) l5 0).1 w5.heap.size W := ⟨hst', hok, hU, hub⟩
  clear hst hZ hZ' hW hst' hU hok
  go_wp2
  go_loopg [11, 12, 13] v5 (fun gg s11 _ _ wr => ∃ (k : Nat) (vl : Value), k ≤ v5 ∧ v5 - k ≤ gg ∧ s11 = .int .i64 (k : Nat) ∧ LSt w (linksG (2 + v4) l5 k).2 pr ca vn vl ns (linksG (2 + v4) l5 k).1 w5.heap.size wr)
  case atStart => exact ⟨0, _, Nat.zero_le _, by omega, rfl, hl0⟩
  case round =>
    clear hl0
    obtain ⟨k, vl, hk, hgg, rfl, hl⟩ := hrel
    by_cases hlt : k < v5
    · skip
      as_aux_lemma =>
      have hlsl : (linksG (2 + v4) l5 k).1.length ≤ 9 := by
        have := (linksG_ok (2 + v4) l5 (by omega) k).2
        omega
      have hlt' : (k : Int) < (v5 : Int) := by omega
      have hstep : linksG (2 + v4) l5 (k + 1) = linkG (2 + v4) k ((linksG (2 + v4) l5 k).1, (linksG (2 + v4) l5 k).2) := by rw [linksG]
      have HSTEP := Lib.hid hstep
      clear hstep
      repeat (first | refine net_b3 w wr _ v4 k w5.heap.size bv4 (by omega) pr ca vn vl ns _ hlsl hl _ _ rfl _ _ _ _ _ _ _ _ _ _ _ _ _ _ _ _ _ _ _ _ _ _ _ _ _ _ _ _ _ _ _ _ _ _ _ _ _ _ _ _ _ _ _ _ _ _ _ _ _ _ _ _ _ _ _ _ _ _ _ _ _ _ _ _ _ _ _ _ _ _ _ _ _ _ _ _ _ _ _ _ _ _ _ _ _ _ _ _ _ _ _ _ _ _ _ _ _ _ _ _ _ _ _ _ _ _ _ _ _ _ _ _ _ _ _ _ _ _ _ _ _ _ _ _ _ _ _ _ _ _ _ _ _ _ _ _ _ _ _ _ _ _ _ _ _ _ _ _ _ _ _ _ _ _ _ _ _ _ _ _ _ _ _ _ _ _ _ _ _ _ _ _ _ _ _ _ _ _ _ _ _ _ _ _ _ _ _ _ _ _ _ _ _ _ _ _ _ _ _ _ _ _ _ _ _ _ _ _ _ _ _ _ _ _ _ _ _ _ _ _ _ ?_ | go_values | go_skip | go_guarded | go_step | go_upon)
      clear hl
      intro wx c12 c13
      intros
      rename_i hh
      obtain ⟨vl', hl⟩ := hh
      rw [← HSTEP.out] at hl
      go_wp2_with fail
      go_roundg (v5 - (k + 1))
      case measure => omega
      case rel => exact ⟨k + 1, vl', by omega, by omega, by go_num, hl⟩
    · as_aux_lemma =>
      obtain rfl : k = v5 := by omega
      repeat (first | exact net_rest11 l w wr _ v3 v4 bv3 bv4 pr ca vn vl ns _ hl.st hl.ok (Lib.hid (HN2.out _ _ rfl)) _ _ _ _ _ _ _ _ _ _ _ _ _ _ _ _ _ _ _ _ _ _ _ _ _ _ _ _ _ _ _ _ _ _ _ _ _ _ _ _ _ _ _ _ _ _ _ _ _ _ _ _ _ _ _ _ _ _ _ _ _ _ _ _ _ _ _ _ _ _ _ _ _ _ _ _ _ _ _ _ _ _ _ _ _ _ _ _ _ _ _ _ _ _ _ _ _ _ _ _ _ _ _ _ _ _ _ _ _ _ _ _ _ _ _ _ _ _ _ _ _ _ _ _ _ _ _ _ _ _ _ _ _ _ _ _ _ _ _ _ _ _ _ _ _ _ _ _ _ _ _ _ _ _ _ _ _ _ _ _ _ _ _ _ _ _ _ _ _ _ _ _ _ _ _ _ _ _ _ _ _ _ _ _ _ _ _ _ _ _ _ _ _ _ _ _ _ _ _ _ _ _ _ _ _ _ _ _ _ _ _ _ _ _ _ _ _ _ _ _ _ _ | go_values | go_skip | go_guarded | go_step | go_upon)

set_option maxHeartbeats 8000000 in
set_option maxRecDepth 100000 in
theorem net_rest7 (l : List Int) (w wr : World) (L : List Int) (v3 v4 : Nat) (bv3 : v3 < 4) (bv4 : v4 < 6) (pr ca : Int)
    (hst : NetSt w (w.heap.size + 1) (w.heap.size + 1 + 1) L pr ca 0 (.slice none 0 0) (.slice none 0 0) (.slice none 0 0) (.slice none 0 0) [] [] [] [] wr) (hok : SrcOk L)
    (HN : Hid (∀ (ns : List PNode) (L1 : List Int) (ls : List PLink) (L2 : List Int), nodesG L (2 + v4) = (ns, L1) → linksG (2 + v4) L1.tail (nx L1 10) = (ls, L2) → netOf l = ⟨pr, ca, min (v3 : Int) (ls.length : Int), ns, ls, (destsG (2 + v4) L2.tail (nx L2 2 + 1)).1, (checksG (2 + v4) (destsG (2 + v4) L2.tail (nx L2 2 + 1)).1.length (destsG (2 + v4) L2.tail (nx L2 2 + 1)).2.tail (nx (destsG (2 + v4) L2.tail (nx L2 2 + 1)).2 7)).1⟩))
    (u0 u1 u7 u8 u9 u10 u11 u12 u13 u14 u15 u16 u17 u18 u19 u20 u21 u22 u23 u24 u25 u26 u27 u28 u29 u30 u31 u32 u33 u34 u35 u36 u37 u38 u39 u40 u41 u42 u43 u44 u45 u46 u47 u48 u49 u50 u51 u52 u53 u54 u55 u56 u57 u58 u59 u60 u61 u62 u63 u64 u65 u66 u67 u68 u69 u70 u71 u72 u73 u74 u75 u76 u77 u78 u79 u80 u81 u82 u83 u84 u85 u86 u87 u88 u89 u90 u91 u92 u93 u94 u95 u96 u97 u98 u99 u100 u101 u102 u103 u104 u105 u106 u107 u108 u109 u110 u111 u112 u113 u114 u115 u116 u117 u118 u119 u120 u121 u122 u123 u124 u125 u126 u127 u128 u129 u130 u131 u132 u133 u134 u135 u136 u137 u138 u139 u140 u141 u142 u143 u144 u145 u146 u147 u148 u149 u150 u151 u152 u153 u154 u155 u156 u157 u158 u159 u160 u161 u162 u163 u164 u165 u166 u167 u168 u169 u170 u171 u172 u173 u174 u175 u176 u177 u178 u179 u180 u181 u182 u183 u184 u185 u186 u187 u188 u189 u190 u191 u192 u193 u194 u195 u196 u197 u198 u199 u200 u201 u202 u203 u204 u205 u206 u207 u208 u209 u210 u211 u212 u213 u214 u215 u216 u217 u218 u219 u220 u221 u222 u223 u224 u225 u226 : Value) :
    Code.wp Try.prog (netC [true, true, true, true, true, true, true]) (bodyPost Try.prog Try.f7 (NetAs (netOf l) w)) ⟨List.toArray (u0 :: u1 :: .pointer (some ⟨w.heap.size, 0, none⟩) :: .pointer (some ⟨w.heap.size + 1, 0, none⟩) :: .pointer (some ⟨w.heap.size + 1 + 1, 0, none⟩) :: .int .i64 (v3 : Int) :: .int .i64 (2 + (v4 : Int)) :: u7 :: u8 :: u9 :: u10 :: u11 :: u12 :: u13 :: u14 :: u15 :: u16 :: u17 :: u18 :: u19 :: u20 :: u21 :: u22 :: u23 :: u24 :: u25 :: u26 :: u27 :: u28 :: u29 :: u30 :: u31 :: u32 :: u33 :: u34 :: u35 :: u36 :: u37 :: u38 :: u39 :: u40 :: u41 :: u42 :: u43 :: u44 :: u45 :: u46 :: u47 :: u48 :: u49 :: u50 :: u51 :: u52 :: u53 :: u54 :: u55 :: u56 :: u57 :: u58 :: u59 :: u60 :: u61 :: u62 :: u63 :: u64 :: u65 :: u66 :: u67 :: u68 :: u69 :: u70 :: u71 :: u72 :: u73 :: u74 :: u75 :: u76 :: u77 :: u78 :: u79 :: u80 :: u81 :: u82 :: u83 :: u84 :: u85 :: u86 :: u87 :: u88 :: u89 :: u90 :: u91 :: u92 :: u93 :: u94 :: u95 :: u96 :: u97 :: u98 :: u99 :: u100 :: u101 :: u102 :: u103 :: u104 :: u105 :: u106 :: u107 :: u108 :: u109 :: u110 :: u111 :: u112 :: u113 :: u114 :: u115 :: u116 :: u117 :: u118 :: u119 :: u120 :: u121 :: u122 :: u123 :: u124 :: u125 :: u126 :: u127 :: u128 :: u129 :: u130 :: u131 :: u132 :: u133 :: u134 :: u135 :: u136 :: u137 :: u138 :: u139 :: u140 :: u141 :: u142 :: u143 :: u144 :: u145 :: u146 :: u147 :: u148 :: u149 :: u150 :: u151 :: u152 :: u153 :: u154 :: u155 :: u156 :: u157 :: u158 :: u159 :: u160 :: u161 :: u162 :: u163 :: u164 :: u165 :: u166 :: u167 :: u168 :: u169 :: u170 :: u171 :: u172 :: u173 :: u174 :: u175 :: u176 :: u177 :: u178 :: u179 :: u180 :: u181 :: u182 :: u183 :: u184 :: u185 :: u186 :: u187 :: u188 :: u189 :: u190 :: u191 :: u192 :: u193 :: u194 :: u195 :: u196 :: u197 :: u198 :: u199 :: u200 :: u201 :: u202 :: u203 :: u204 :: u205 :: u206 :: u207 :: u208 :: u209 :: u210 :: u211 :: u212 :: u213 :: u214 :: u215 :: u216 :: u217 :: u218 :: u219 :: u220 :: u221 :: u222 :: u223 :: u224 :: u225 :: u226 :: []), []⟩ wr := by
  conv => arg 2; whnf
  go_wp2_with fail
  go_loopg [7, 8] (2 + v4) (fun gg s7 _ wr => ∃ (k : Nat) (vn : Value), k ≤ 2 + v4 ∧ 2 + v4 - k ≤ gg ∧ s7 = .int .i64 (k : Nat) ∧ NetSt w (w.heap.size + 1) (w.heap.size + 1 + 1) (nodesG L k).2 pr ca 0 vn (.slice none 0 0) (.slice none 0 0) (.slice none 0 0) (nodesG L k).1 [] [] [] wr ∧ SrcOk (nodesG L k).2)
  case atStart => exact ⟨0, _, Nat.zero_le _, by omega, rfl, hst, hok⟩
  case round =>
    clear hst hok
    obtain ⟨k, vn, hk, hgg, rfl, hst, hok⟩ := hrel
    by_cases hlt : k < 2 + v4
    · skip
      as_aux_lemma =>
      have hlt' : (k : Int) < 2 + (v4 : Int) := by omega
      have hstep : nodesG L (k + 1) = ((nodesG L k).1 ++ [nodeG k (nodesG L k).2], (nodesG L k).2.tail.tail) := by rw [nodesG]
      have HSTEP := Lib.hid hstep
      clear hstep
      repeat (first | refine net_b1 w wr _ k (by omega) pr ca vn _ (nodesG_len _ _) hst hok _ _ _ _ _ _ _ _ _ _ _ _ _ _ _ _ _ _ _ _ _ _ _ _ _ _ _ _ _ _ _ _ _ _ _ _ _ _ _ _ _ _ _ _ _ _ _ _ _ _ _ _ _ _ _ _ _ _ _ _ _ _ _ _ _ _ _ _ _ _ _ _ _ _ _ _ _ _ _ _ _ _ _ _ _ _ _ _ _ _ _ _ _ _ _ _ _ _ _ _ _ _ _ _ _ _ _ _ _ _ _ _ _ _ _ _ _ _ _ _ _ _ _ _ _ _ _ _ _ _ _ _ _ _ _ _ _ _ _ _ _ _ _ _ _ _ _ _ _ _ _ _ _ _ _ _ _ _ _ _ _ _ _ _ _ _ _ _ _ _ _ _ _ _ _ _ _ _ _ _ _ _ _ _ _ _ _ _ _ _ _ _ _ _ _ _ _ _ _ _ _ _ _ _ _ _ _ _ _ _ _ _ _ _ _ _ _ _ _ _ _ _ _ _ ?_ | go_values | go_skip | go_guarded | go_step | go_upon)
      clear hst hok
      intro wx c8
      intros
      rename_i hh
      obtain ⟨vn', hst, hok⟩ := hh
      go_wp2_with fail
      go_roundg (2 + v4 - (k + 1))
      case measure => omega
      case rel => exact ⟨k + 1, vn', by omega, by omega, by go_num, by rw [HSTEP.out]; exact hst, by rw [HSTEP.out]; exact hok⟩
    · as_aux_lemma =>
      obtain rfl : k = 2 + v4 := by omega
      have hge : ¬ ((2 + v4 : Nat) : Int) < 2 + (v4 : Int) := by omega
      repeat (first | exact net_rest8 l w wr _ v3 v4 bv3 bv4 pr ca vn _ hst hok (Lib.hid (fun ls L2 h => HN.out _ _ ls L2 rfl h)) _ _ _ _ _ _ _ _ _ _ _ _ _ _ _ _ _ _ _ _ _ _ _ _ _ _ _ _ _ _ _ _ _ _ _ _ _ _ _ _ _ _ _ _ _ _ _ _ _ _ _ _ _ _ _ _ _ _ _ _ _ _ _ _ _ _ _ _ _ _ _ _ _ _ _ _ _ _ _ _ _ _ _ _ _ _ _ _ _ _ _ _ _ _ _ _ _ _ _ _ _ _ _ _ _ _ _ _ _ _ _ _ _ _ _ _ _ _ _ _ _ _ _ _ _ _ _ _ _ _ _ _ _ _ _ _ _ _ _ _ _ _ _ _ _ _ _ _ _ _ _ _ _ _ _ _ _ _ _ _ _ _ _ _ _ _ _ _ _ _ _ _ _ _ _ _ _ _ _ _ _ _ _ _ _ _ _ _ _ _ _ _ _ _ _ _ _ _ _ _ _ _ _ _ _ _ _ _ _ _ _ _ _ _ _ _ _ _ _ _ _ _ | go_values | go_skip | go_guarded | go_step | go_upon)
end Go.Proofs.Ytlfdpfkimggeoaa

namespace Go.Proofs.Ytlfdpfkimggeoaa
open Go.RowKit
set_option linter.unusedVariables false

theorem net_seven {l0 l2 l3 l4 : List Int} {pr ca : Int} {v3 v4 : Nat} (hP : protoG l0 = ((pr, ca), l2)) (hv3 : nx l2 4 = v3) (hl3 : l2.tail = l3) (hv4 : nx l3 6 = v4) (hl4 : l3.tail = l4)
    (ns : List PNode) (L1 : List Int) (ls : List PLink) (L2 : List Int) (hN : nodesG l4 (2 + v4) = (ns, L1)) (hL : linksG (2 + v4) L1.tail (nx L1 10) = (ls, L2)) :
    netL l0 = ⟨pr, ca, min (v3 : Int) (ls.length : Int), ns, ls, (destsG (2 + v4) L2.tail (nx L2 2 + 1)).1, (checksG (2 + v4) (destsG (2 + v4) L2.tail (nx L2 2 + 1)).1.length (destsG (2 + v4) L2.tail (nx L2 2 + 1)).2.tail (nx (destsG (2 + v4) L2.tail (nx L2 2 + 1)).2 7)).1⟩ :=
  net_is hP hv3 hl3 hv4 hl4 hN rfl rfl hL rfl rfl rfl (destsG_ok (2 + v4) _ (by omega) _).2 rfl rfl rfl

set_option maxHeartbeats 8000000 in
set_option maxRecDepth 100000 in
theorem Net_any (l : List Int) (A : Option Addr) (n c : Nat) (hl : l.length = n) (hwf : ∀ v ∈ l, InI v) (hm : n ≤ 9223372036854775807) (hc : n ≤ c) (hcm : c ≤ 9223372036854775807) (w : World) (hA : CellsAt w w.heap.size A (l.map (Value.int .i64))) :
    Calls Try.prog 7 #[.slice A n c] w (NetAs (netOf l) w) := by
  have hok := src_ok l hwf
  have hA2 := hA.take 200
  have hnet : netOf l = netL (l.take 200) := rfl
  obtain ⟨l0, hl0⟩ : ∃ l0, l.take 200 = l0 := ⟨_, rfl⟩
  have hlen : l0.length = min n 200 := by rw [← hl0, List.length_take, hl]; omega
  rw [hl0] at hok hA2 hnet
  have HLEN := Lib.hid hlen
  have HNET := Lib.hid hnet
  have HOK := Lib.hid hok
  have HA2 := Lib.hid hA2
  clear hlen hnet hl0 hok hA2 hA hwf hl
  go_enter Try.func7, Try.ntmps7
  go_upto_if 21 with (fail)
  go_cut [0] (fun v wx => ∃ n' c', v = .slice A n' c' ∧ l0.length = n' ∧ n' ≤ c' ∧ wx = w.alloc (.cells #[.int .i64 0, .int .i64 0, .int .i64 0, .slice none 0 0, .slice none 0 0, .slice none 0 0, .slice none 0 0] 29))
  case first =>
    by_cases hbig : 200 < n
    · go_wp2_with fail
      go_meet
      exact ⟨200, c, rfl, by rw [HLEN.out]; omega, by omega, rfl⟩
    · go_wp2_with fail
      go_meet
      exact ⟨n, c, rfl, by rw [HLEN.out]; omega, by omega, rfl⟩
  case rest =>
    obtain ⟨n', c', rfl, hn', hc', rfl⟩ := hcut
    have hst := net_start w A n' c' l0 hn' hc' HA2.out
    have HST := Lib.hid hst
    clear hst hn'
    obtain ⟨v1, HV1, bv1⟩ := ex_nx l0 2 (by omega)
    obtain ⟨l1, HL1⟩ := ex_tail l0
    go_upto_if 30 with (go_at_call 32; refine (next_st 2 2 v1 l1 HV1 HL1 HST.out HOK.out rfl (by omega) (by omega)).mono ?_; rintro e w1 ⟨rfl, hst, hok, -⟩; have p0 := hst.blk.cell 0; have p1 := hst.blk.cell 1; have f0 := hst.blk.frozen 0; have f1 := hst.blk.frozen 1)
    go_cut [] (fun wx => ∃ (pr ca : Int) (l2 : List Int), Hid (protoG l0 = ((pr, ca), l2)) ∧ NetSt w (w.heap.size + 1) (w.heap.size + 1 + 1) l2 pr ca 0 (.slice none 0 0) (.slice none 0 0) (.slice none 0 0) (.slice none 0 0) [] [] [] [] wx ∧ SrcOk l2)
    case first =>
      as_aux_lemma =>
      by_cases h1 : v1 = 1
      · subst h1
        obtain ⟨v2, HV2, bv2⟩ := ex_nx l1 6 (by omega)
        obtain ⟨l2, HL2⟩ := ex_tail l1
        have hst' := hst.put 0 (.int .i64 2) 2 0 0 rfl
        go_wp2_with (go_at_call 32; refine (next_st 6 6 v2 l2 HV2 HL2 hst' hok rfl (by omega) (by omega)).mono ?_; rintro e w2 ⟨rfl, hst2, hok2, -⟩; have q1 := hst2.blk.cell 1; have g1 := hst2.blk.frozen 1; have hst3 := hst2.put 1 (.int .i64 (1 + (v2 : Int))) 2 (1 + (v2 : Int)) 0 rfl)
        go_meet
        exact ⟨2, 1 + (v2 : Int), l2, Lib.hid (by unfold protoG; rw [HL1.out, HV1.out, if_pos rfl, HV2.out, HL2.out]; rfl), hst3, hok2⟩
      · have h2 : ¬ (v1 : Int) = 1 := by omega
        have h3 : ((v1 : Int) == 1) = false := by simpa using h2
        go_wp2_with fail
        go_meet
        exact ⟨1, 0, l1, Lib.hid (by unfold protoG; rw [HV1.out, if_neg h1, HL1.out]), hst, hok⟩
    case rest =>
      as_aux_lemma =>
      clear p0 p1 f0 f1 hst hok
      obtain ⟨pr, ca, l2, HP, hst, hok⟩ := hcut
      obtain ⟨v3, HV3, bv3⟩ := ex_nx l2 4 (by omega)
      obtain ⟨l3, HL3⟩ := ex_tail l2
      obtain ⟨v4, HV4, bv4⟩ := ex_nx l3 6 (by omega)
      obtain ⟨l4, HL4⟩ := ex_tail l3
      have HN7 := Lib.hid (fun ns L1 ls L2 hN hL => HNET.out.trans (net_seven HP.out HV3.out HL3.out HV4.out HL4.out ns L1 ls L2 hN hL))
      clear HST
      repeat (first | exact net_rest7 l w _ l4 v3 v4 bv3 bv4 pr ca hst2 hok2 HN7 _ _ _ _ _ _ _ _ _ _ _ _ _ _ _ _ _ _ _ _ _ _ _ _ _ _ _ _ _ _ _ _ _ _ _ _ _ _ _ _ _ _ _ _ _ _ _ _ _ _ _ _ _ _ _ _ _ _ _ _ _ _ _ _ _ _ _ _ _ _ _ _ _ _ _ _ _ _ _ _ _ _ _ _ _ _ _ _ _ _ _ _ _ _ _ _ _ _ _ _ _ _ _ _ _ _ _ _ _ _ _ _ _ _ _ _ _ _ _ _ _ _ _ _ _ _ _ _ _ _ _ _ _ _ _ _ _ _ _ _ _ _ _ _ _ _ _ _ _ _ _ _ _ _ _ _ _ _ _ _ _ _ _ _ _ _ _ _ _ _ _ _ _ _ _ _ _ _ _ _ _ _ _ _ _ _ _ _ _ _ _ _ _ _ _ _ _ _ _ _ _ _ _ _ _ _ _ _ _ _ _ _ _ _ _ _ _ _ _ _ _ _ | (go_at_call 32; (with_reducible refine (next_st 6 6 v4 l4 HV4 HL4 hst1 hok1 rfl (by omega) (by omega)).mono ?_); rintro e w4 ⟨rfl, hst2, hok2, -⟩; dsimp only) | (go_at_call 32; (with_reducible refine (next_st 4 4 v3 l3 HV3 HL3 hst hok rfl (by omega) (by omega)).mono ?_); rintro e w3 ⟨rfl, hst1, hok1, -⟩; dsimp only) | go_values | go_skip | go_guarded | go_step | go_upon)
end Go.Proofs.Ytlfdpfkimggeoaa
