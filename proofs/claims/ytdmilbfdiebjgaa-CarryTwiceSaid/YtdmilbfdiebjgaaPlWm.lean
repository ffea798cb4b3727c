/-
  The law's Net, whole.
-/
import Derived.Test.YtdmilbfdiebjgaaPlWj
import Derived.Test.YtdmilbfdiebjgaaPlWl
namespace Go.Proofs.Ytdmilbfdiebjgaa
open Go.RowKit
set_option linter.unusedVariables false

set_option maxHeartbeats 8000000 in
set_option maxRecDepth 100000 in
theorem net_rest8 (l : List Int) (w wr : World) (L : List Int) (v3 v4 : Nat) (bv3 : v3 < 4) (bv4 : v4 < 6) (pr ca : Int) (vn : Value) (ns : List PNode)
    (hst : NetSt w (w.heap.size + 1) (w.heap.size + 1 + 1) L pr ca 0 vn (.slice none 0 0) (.slice none 0 0) (.slice none 0 0) ns [] [] [] wr) (hok : SrcOk L)
    (HN : Hid (∀ (ls : List PLink) (L2 : List Int), linksG (2 + v4) L.tail (nx L 10) = (ls, L2) → netOf l = ⟨pr, ca, min (v3 : Int) (ls.length : Int), ns, ls, (destsG (2 + v4) L2.tail (nx L2 2 + 1)).1, (checksG (2 + v4) (destsG (2 + v4) L2.tail (nx L2 2 + 1)).1.length (destsG (2 + v4) L2.tail (nx L2 2 + 1)).2.tail (nx (destsG (2 + v4) L2.tail (nx L2 2 + 1)).2 7)).1⟩))
    (u0 u1 u7 u8 u9 u10 u11 u12 u13 u14 u15 u16 u17 u18 u19 u20 u21 u22 u23 u24 u25 u26 u27 u28 u29 u30 u31 u32 u33 u34 u35 u36 u37 u38 u39 u40 u41 u42 u43 u44 u45 u46 u47 u48 u49 u50 u51 u52 u53 u54 u55 u56 u57 u58 u59 u60 u61 u62 u63 u64 u65 u66 u67 u68 u69 u70 u71 u72 u73 u74 u75 u76 u77 u78 u79 u80 u81 u82 u83 u84 u85 u86 u87 u88 u89 u90 u91 u92 u93 u94 u95 u96 u97 u98 u99 u100 u101 u102 u103 u104 u105 u106 u107 u108 u109 u110 u111 u112 u113 u114 u115 u116 u117 u118 u119 u120 u121 u122 u123 u124 u125 u126 u127 u128 u129 u130 u131 u132 u133 u134 u135 u136 u137 u138 u139 u140 u141 u142 u143 u144 u145 u146 u147 u148 u149 u150 u151 u152 u153 u154 u155 u156 u157 u158 u159 u160 u161 u162 u163 u164 u165 u166 u167 u168 u169 u170 u171 u172 u173 u174 u175 u176 u177 u178 u179 u180 u181 u182 u183 u184 u185 u186 u187 u188 u189 u190 u191 u192 u193 u194 u195 u196 u197 u198 u199 u200 u201 u202 u203 u204 u205 u206 u207 u208 u209 u210 u211 u212 u213 u214 u215 u216 u217 u218 u219 u220 u221 u222 u223 u224 u225 u226 : Value) :
    Code.wp Try.prog (netC [true, true, true, true, true, true, true, true]) (bodyPost Try.prog Try.f12 (NetAs (netOf l) w)) ⟨List.toArray (u0 :: u1 :: .pointer (some ⟨w.heap.size, 0, none⟩) :: .pointer (some ⟨w.heap.size + 1, 0, none⟩) :: .pointer (some ⟨w.heap.size + 1 + 1, 0, none⟩) :: .int .i64 (v3 : Int) :: .int .i64 (2 + (v4 : Int)) :: u7 :: u8 :: u9 :: u10 :: u11 :: u12 :: u13 :: u14 :: u15 :: u16 :: u17 :: u18 :: u19 :: u20 :: u21 :: u22 :: u23 :: u24 :: u25 :: u26 :: u27 :: u28 :: u29 :: u30 :: u31 :: u32 :: u33 :: u34 :: u35 :: u36 :: u37 :: u38 :: u39 :: u40 :: u41 :: u42 :: u43 :: u44 :: u45 :: u46 :: u47 :: u48 :: u49 :: u50 :: u51 :: u52 :: u53 :: u54 :: u55 :: u56 :: u57 :: u58 :: u59 :: u60 :: u61 :: u62 :: u63 :: u64 :: u65 :: u66 :: u67 :: u68 :: u69 :: u70 :: u71 :: u72 :: u73 :: u74 :: u75 :: u76 :: u77 :: u78 :: u79 :: u80 :: u81 :: u82 :: u83 :: u84 :: u85 :: u86 :: u87 :: u88 :: u89 :: u90 :: u91 :: u92 :: u93 :: u94 :: u95 :: u96 :: u97 :: u98 :: u99 :: u100 :: u101 :: u102 :: u103 :: u104 :: u105 :: u106 :: u107 :: u108 :: u109 :: u110 :: u111 :: u112 :: u113 :: u114 :: u115 :: u116 :: u117 :: u118 :: u119 :: u120 :: u121 :: u122 :: u123 :: u124 :: u125 :: u126 :: u127 :: u128 :: u129 :: u130 :: u131 :: u132 :: u133 :: u134 :: u135 :: u136 :: u137 :: u138 :: u139 :: u140 :: u141 :: u142 :: u143 :: u144 :: u145 :: u146 :: u147 :: u148 :: u149 :: u150 :: u151 :: u152 :: u153 :: u154 :: u155 :: u156 :: u157 :: u158 :: u159 :: u160 :: u161 :: u162 :: u163 :: u164 :: u165 :: u166 :: u167 :: u168 :: u169 :: u170 :: u171 :: u172 :: u173 :: u174 :: u175 :: u176 :: u177 :: u178 :: u179 :: u180 :: u181 :: u182 :: u183 :: u184 :: u185 :: u186 :: u187 :: u188 :: u189 :: u190 :: u191 :: u192 :: u193 :: u194 :: u195 :: u196 :: u197 :: u198 :: u199 :: u200 :: u201 :: u202 :: u203 :: u204 :: u205 :: u206 :: u207 :: u208 :: u209 :: u210 :: u211 :: u212 :: u213 :: u214 :: u215 :: u216 :: u217 :: u218 :: u219 :: u220 :: u221 :: u222 :: u223 :: u224 :: u225 :: u226 :: []), []⟩ wr := by
  obtain ⟨v5, HV5, bv5⟩ := ex_nx L 10 (by omega)
  obtain ⟨l5, HL5⟩ := ex_tail L
  have HN2 : Hid (∀ (ls : List PLink) (L2 : List Int), linksG (2 + v4) l5 v5 = (ls, L2) → netOf l = ⟨pr, ca, min (v3 : Int) (ls.length : Int), ns, ls, (destsG (2 + v4) L2.tail (nx L2 2 + 1)).1, (checksG (2 + v4) (destsG (2 + v4) L2.tail (nx L2 2 + 1)).1.length (destsG (2 + v4) L2.tail (nx L2 2 + 1)).2.tail (nx (destsG (2 + v4) L2.tail (nx L2 2 + 1)).2 7)).1⟩) :=
    Lib.hid (fun ls L2 h => HN.out ls L2 (by rw [HV5.out, HL5.out]; exact h))
  clear HN
  conv => arg 2; whnf
  go_upto_region 18 with (go_at_call 39; (with_reducible refine (next_st 10 10 v5 l5 HV5 HL5 hst hok rfl (by omega) (by omega)).mono ?_); clear hst hok; rintro e w5 ⟨rfl, hst, hok, -⟩)
  go_step
  go_step
  go_step
  go_step
  go_step
  go_step
  go_step
  refine wpList_store_mid rfl 70 _ _ rfl _ 0 _ rfl rfl (there_of_blk (Blk.new _ _ _)) (by kernel_rfl) (by simp [Value.oneCell']) ?_
  rw [setCells_self (Blk.new _ _ _) _ 0 (fun j v hj => by rw [Nat.zero_add]; simpa using hj)]
  obtain ⟨Z, hZ⟩ : ∃ Z : Array Value, #[.bool false, .bool false, .bool false, .bool false, .bool false, .bool false, .bool false, .bool false, .bool false, .bool false, .bool false, .bool false, .bool false, .bool false, .bool false, .bool false, .bool false, .bool false, .bool false, .bool false, .bool false, .bool false, .bool false, .bool false, .bool false, .bool false, .bool false, .bool false, .bool false, .bool false, .bool false, .bool false, .bool false, .bool false, .bool false, .bool false, .bool false, .bool false, .bool false, .bool false, .bool false, .bool false, .bool false, .bool false, .bool false, .bool false, .bool false, .bool false, .bool false] = Z := ⟨_, rfl⟩
  rw [hZ]
  have hZ' : Z = Array.replicate 49 (.bool false) := by rw [← hZ]; rfl
  have hU := UsedAt.start (Blk.new w5 70 Z) hZ'
  have hst' := hst.up (below_new w5 (.cells Z 70))
  have hub := hst.lt
  obtain ⟨W, hW⟩ : ∃ W, w5.alloc (.cells Z 70) = W := ⟨_, rfl⟩
  rw [hW] at hU hst' ⊢
  have hl0 : LSt w (linksG (2 + v4) l5 0).2 pr ca vn (.slice none 0 0) ns (linksG (2 + v4) l5 0).1 w5.heap.size W := ⟨hst', hok, hU, hub⟩
  clear hst hZ hZ' hW hst' hU hok
  go_wp2
  go_loopg [11, 12, 13] v5 (fun gg s11 _ _ wr => ∃ (k : Nat) (vl : Value), k ≤ v5 ∧ v5 - k ≤ gg ∧ s11 = .int .i64 (k : Nat) ∧ LSt w (linksG (2 + v4) l5 k).2 pr ca vn vl ns (linksG (2 + v4) l5 k).1 w5.heap.size wr)
  case atStart => exact ⟨0, _, Nat.zero_le _, by omega, rfl, hl0⟩
  case round =>
    clear hl0
    obtain ⟨k, vl, hk, hgg, rfl, hl⟩ := hrel
    by_cases hlt : k < v5
    · skip
      as_aux_lemma =>
      have hlsl : (linksG (2 + v4) l5 k).1.length ≤ 9 := by
        have := (linksG_ok (2 + v4) l5 (by omega) k).2
        omega
      have hlt' : (k : Int) < (v5 : Int) := by omega
      have hstep : linksG (2 + v4) l5 (k + 1) = linkG (2 + v4) k ((linksG (2 + v4) l5 k).1, (linksG (2 + v4) l5 k).2) := by rw [linksG]
      have HSTEP := Lib.hid hstep
      clear hstep
      repeat (first | refine net_b3 w wr _ v4 k w5.heap.size bv4 (by omega) pr ca vn vl ns _ hlsl hl _ _ rfl _ _ _ _ _ _ _ _ _ _ _ _ _ _ _ _ _ _ _ _ _ _ _ _ _ _ _ _ _ _ _ _ _ _ _ _ _ _ _ _ _ _ _ _ _ _ _ _ _ _ _ _ _ _ _ _ _ _ _ _ _ _ _ _ _ _ _ _ _ _ _ _ _ _ _ _ _ _ _ _ _ _ _ _ _ _ _ _ _ _ _ _ _ _ _ _ _ _ _ _ _ _ _ _ _ _ _ _ _ _ _ _ _ _ _ _ _ _ _ _ _ _ _ _ _ _ _ _ _ _ _ _ _ _ _ _ _ _ _ _ _ _ _ _ _ _ _ _ _ _ _ _ _ _ _ _ _ _ _ _ _ _ _ _ _ _ _ _ _ _ _ _ _ _ _ _ _ _ _ _ _ _ _ _ _ _ _ _ _ _ _ _ _ _ _ _ _ _ _ _ _ _ _ _ _ _ _ _ _ _ _ _ _ _ _ _ _ _ _ _ _ ?_ | go_values | go_skip | go_guarded | go_step | go_upon)
      clear hl
      intro wx c12 c13
      intros
      rename_i hh
      obtain ⟨vl', hl⟩ := hh
      rw [← HSTEP.out] at hl
      go_wp2_with fail
      go_roundg (v5 - (k + 1))
      case measure => omega
      case rel => exact ⟨k + 1, vl', by omega, by omega, by go_num, hl⟩
    · as_aux_lemma =>
      obtain rfl : k = v5 := by omega
      repeat (first | exact net_rest11 l w wr _ v3 v4 bv3 bv4 pr ca vn vl ns _ hl.st hl.ok (Lib.hid (HN2.out _ _ rfl)) _ _ _ _ _ _ _ _ _ _ _ _ _ _ _ _ _ _ _ _ _ _ _ _ _ _ _ _ _ _ _ _ _ _ _ _ _ _ _ _ _ _ _ _ _ _ _ _ _ _ _ _ _ _ _ _ _ _ _ _ _ _ _ _ _ _ _ _ _ _ _ _ _ _ _ _ _ _ _ _ _ _ _ _ _ _ _ _ _ _ _ _ _ _ _ _ _ _ _ _ _ _ _ _ _ _ _ _ _ _ _ _ _ _ _ _ _ _ _ _ _ _ _ _ _ _ _ _ _ _ _ _ _ _ _ _ _ _ _ _ _ _ _ _ _ _ _ _ _ _ _ _ _ _ _ _ _ _ _ _ _ _ _ _ _ _ _ _ _ _ _ _ _ _ _ _ _ _ _ _ _ _ _ _ _ _ _ _ _ _ _ _ _ _ _ _ _ _ _ _ _ _ _ _ _ _ _ _ _ _ _ _ _ _ _ _ _ _ _ _ _ _ | go_values | go_skip | go_guarded | go_step | go_upon)

set_option maxHeartbeats 8000000 in
set_option maxRecDepth 100000 in
theorem net_rest7 (l : List Int) (w wr : World) (L : List Int) (v3 v4 : Nat) (bv3 : v3 < 4) (bv4 : v4 < 6) (pr ca : Int)
    (hst : NetSt w (w.heap.size + 1) (w.heap.size + 1 + 1) L pr ca 0 (.slice none 0 0) (.slice none 0 0) (.slice none 0 0) (.slice none 0 0) [] [] [] [] wr) (hok : SrcOk L)
    (HN : Hid (∀ (ns : List PNode) (L1 : List Int) (ls : List PLink) (L2 : List Int), nodesG L (2 + v4) = (ns, L1) → linksG (2 + v4) L1.tail (nx L1 10) = (ls, L2) → netOf l = ⟨pr, ca, min (v3 : Int) (ls.length : Int), ns, ls, (destsG (2 + v4) L2.tail (nx L2 2 + 1)).1, (checksG (2 + v4) (destsG (2 + v4) L2.tail (nx L2 2 + 1)).1.length (destsG (2 + v4) L2.tail (nx L2 2 + 1)).2.tail (nx (destsG (2 + v4) L2.tail (nx L2 2 + 1)).2 7)).1⟩))
    (u0 u1 u7 u8 u9 u10 u11 u12 u13 u14 u15 u16 u17 u18 u19 u20 u21 u22 u23 u24 u25 u26 u27 u28 u29 u30 u31 u32 u33 u34 u35 u36 u37 u38 u39 u40 u41 u42 u43 u44 u45 u46 u47 u48 u49 u50 u51 u52 u53 u54 u55 u56 u57 u58 u59 u60 u61 u62 u63 u64 u65 u66 u67 u68 u69 u70 u71 u72 u73 u74 u75 u76 u77 u78 u79 u80 u81 u82 u83 u84 u85 u86 u87 u88 u89 u90 u91 u92 u93 u94 u95 u96 u97 u98 u99 u100 u101 u102 u103 u104 u105 u106 u107 u108 u109 u110 u111 u112 u113 u114 u115 u116 u117 u118 u119 u120 u121 u122 u123 u124 u125 u126 u127 u128 u129 u130 u131 u132 u133 u134 u135 u136 u137 u138 u139 u140 u141 u142 u143 u144 u145 u146 u147 u148 u149 u150 u151 u152 u153 u154 u155 u156 u157 u158 u159 u160 u161 u162 u163 u164 u165 u166 u167 u168 u169 u170 u171 u172 u173 u174 u175 u176 u177 u178 u179 u180 u181 u182 u183 u184 u185 u186 u187 u188 u189 u190 u191 u192 u193 u194 u195 u196 u197 u198 u199 u200 u201 u202 u203 u204 u205 u206 u207 u208 u209 u210 u211 u212 u213 u214 u215 u216 u217 u218 u219 u220 u221 u222 u223 u224 u225 u226 : Value) :
    Code.wp Try.prog (netC [true, true, true, true, true, true, true]) (bodyPost Try.prog Try.f12 (NetAs (netOf l) w)) ⟨List.toArray (u0 :: u1 :: .pointer (some ⟨w.heap.size, 0, none⟩) :: .pointer (some ⟨w.heap.size + 1, 0, none⟩) :: .pointer (some ⟨w.heap.size + 1 + 1, 0, none⟩) :: .int .i64 (v3 : Int) :: .int .i64 (2 + (v4 : Int)) :: u7 :: u8 :: u9 :: u10 :: u11 :: u12 :: u13 :: u14 :: u15 :: u16 :: u17 :: u18 :: u19 :: u20 :: u21 :: u22 :: u23 :: u24 :: u25 :: u26 :: u27 :: u28 :: u29 :: u30 :: u31 :: u32 :: u33 :: u34 :: u35 :: u36 :: u37 :: u38 :: u39 :: u40 :: u41 :: u42 :: u43 :: u44 :: u45 :: u46 :: u47 :: u48 :: u49 :: u50 :: u51 :: u52 :: u53 :: u54 :: u55 :: u56 :: u57 :: u58 :: u59 :: u60 :: u61 :: u62 :: u63 :: u64 :: u65 :: u66 :: u67 :: u68 :: u69 :: u70 :: u71 :: u72 :: u73 :: u74 :: u75 :: u76 :: u77 :: u78 :: u79 :: u80 :: u81 :: u82 :: u83 :: u84 :: u85 :: u86 :: u87 :: u88 :: u89 :: u90 :: u91 :: u92 :: u93 :: u94 :: u95 :: u96 :: u97 :: u98 :: u99 :: u100 :: u101 :: u102 :: u103 :: u104 :: u105 :: u106 :: u107 :: u108 :: u109 :: u110 :: u111 :: u112 :: u113 :: u114 :: u115 :: u116 :: u117 :: u118 :: u119 :: u120 :: u121 :: u122 :: u123 :: u124 :: u125 :: u126 :: u127 :: u128 :: u129 :: u130 :: u131 :: u132 :: u133 :: u134 :: u135 :: u136 :: u137 :: u138 :: u139 :: u140 :: u141 :: u142 :: u143 :: u144 :: u145 :: u146 :: u147 :: u148 :: u149 :: u150 :: u151 :: u152 :: u153 :: u154 :: u155 :: u156 :: u157 :: u158 :: u159 :: u160 :: u161 :: u162 :: u163 :: u164 :: u165 :: u166 :: u167 :: u168 :: u169 :: u170 :: u171 :: u172 :: u173 :: u174 :: u175 :: u176 :: u177 :: u178 :: u179 :: u180 :: u181 :: u182 :: u183 :: u184 :: u185 :: u186 :: u187 :: u188 :: u189 :: u190 :: u191 :: u192 :: u193 :: u194 :: u195 :: u196 :: u197 :: u198 :: u199 :: u200 :: u201 :: u202 :: u203 :: u204 :: u205 :: u206 :: u207 :: u208 :: u209 :: u210 :: u211 :: u212 :: u213 :: u214 :: u215 :: u216 :: u217 :: u218 :: u219 :: u220 :: u221 :: u222 :: u223 :: u224 :: u225 :: u226 :: []), []⟩ wr := by
  conv => arg 2; whnf
  go_wp2_with fail
  go_loopg [7, 8] (2 + v4) (fun gg s7 _ wr => ∃ (k : Nat) (vn : Value), k ≤ 2 + v4 ∧ 2 + v4 - k ≤ gg ∧ s7 = .int .i64 (k : Nat) ∧ NetSt w (w.heap.size + 1) (w.heap.size + 1 + 1) (nodesG L k).2 pr ca 0 vn (.slice none 0 0) (.slice none 0 0) (.slice none 0 0) (nodesG L k).1 [] [] [] wr ∧ SrcOk (nodesG L k).2)
  case atStart => exact ⟨0, _, Nat.zero_le _, by omega, rfl, hst, hok⟩
  case round =>
    clear hst hok
    obtain ⟨k, vn, hk, hgg, rfl, hst, hok⟩ := hrel
    by_cases hlt : k < 2 + v4
    · skip
      as_aux_lemma =>
      have hlt' : (k : Int) < 2 + (v4 : Int) := by omega
      have hstep : nodesG L (k + 1) = ((nodesG L k).1 ++ [nodeG k (nodesG L k).2], (nodesG L k).2.tail.tail) := by rw [nodesG]
      have HSTEP := Lib.hid hstep
      clear hstep
      repeat (first | refine net_b1 w wr _ k (by omega) pr ca vn _ (nodesG_len _ _) hst hok _ _ _ _ _ _ _ _ _ _ _ _ _ _ _ _ _ _ _ _ _ _ _ _ _ _ _ _ _ _ _ _ _ _ _ _ _ _ _ _ _ _ _ _ _ _ _ _ _ _ _ _ _ _ _ _ _ _ _ _ _ _ _ _ _ _ _ _ _ _ _ _ _ _ _ _ _ _ _ _ _ _ _ _ _ _ _ _ _ _ _ _ _ _ _ _ _ _ _ _ _ _ _ _ _ _ _ _ _ _ _ _ _ _ _ _ _ _ _ _ _ _ _ _ _ _ _ _ _ _ _ _ _ _ _ _ _ _ _ _ _ _ _ _ _ _ _ _ _ _ _ _ _ _ _ _ _ _ _ _ _ _ _ _ _ _ _ _ _ _ _ _ _ _ _ _ _ _ _ _ _ _ _ _ _ _ _ _ _ _ _ _ _ _ _ _ _ _ _ _ _ _ _ _ _ _ _ _ _ _ _ _ _ _ _ _ _ _ _ _ _ _ _ _ ?_ | go_values | go_skip | go_guarded | go_step | go_upon)
      clear hst hok
      intro wx c8
      intros
      rename_i hh
      obtain ⟨vn', hst, hok⟩ := hh
      go_wp2_with fail
      go_roundg (2 + v4 - (k + 1))
      case measure => omega
      case rel => exact ⟨k + 1, vn', by omega, by omega, by go_num, by rw [HSTEP.out]; exact hst, by rw [HSTEP.out]; exact hok⟩
    · as_aux_lemma =>
      obtain rfl : k = 2 + v4 := by omega
      have hge : ¬ ((2 + v4 : Nat) : Int) < 2 + (v4 : Int) := by omega
      repeat (first | exact net_rest8 l w wr _ v3 v4 bv3 bv4 pr ca vn _ hst hok (Lib.hid (fun ls L2 h => HN.out _ _ ls L2 rfl h)) _ _ _ _ _ _ _ _ _ _ _ _ _ _ _ _ _ _ _ _ _ _ _ _ _ _ _ _ _ _ _ _ _ _ _ _ _ _ _ _ _ _ _ _ _ _ _ _ _ _ _ _ _ _ _ _ _ _ _ _ _ _ _ _ _ _ _ _ _ _ _ _ _ _ _ _ _ _ _ _ _ _ _ _ _ _ _ _ _ _ _ _ _ _ _ _ _ _ _ _ _ _ _ _ _ _ _ _ _ _ _ _ _ _ _ _ _ _ _ _ _ _ _ _ _ _ _ _ _ _ _ _ _ _ _ _ _ _ _ _ _ _ _ _ _ _ _ _ _ _ _ _ _ _ _ _ _ _ _ _ _ _ _ _ _ _ _ _ _ _ _ _ _ _ _ _ _ _ _ _ _ _ _ _ _ _ _ _ _ _ _ _ _ _ _ _ _ _ _ _ _ _ _ _ _ _ _ _ _ _ _ _ _ _ _ _ _ _ _ _ _ _ | go_values | go_skip | go_guarded | go_step | go_upon)
end Go.Proofs.Ytdmilbfdiebjgaa

namespace Go.Proofs.Ytdmilbfdiebjgaa
open Go.RowKit
set_option linter.unusedVariables false

theorem net_seven {l0 l2 l3 l4 : List Int} {pr ca : Int} {v3 v4 : Nat} (hP : protoG l0 = ((pr, ca), l2)) (hv3 : nx l2 4 = v3) (hl3 : l2.tail = l3) (hv4 : nx l3 6 = v4) (hl4 : l3.tail = l4)
    (ns : List PNode) (L1 : List Int) (ls : List PLink) (L2 : List Int) (hN : nodesG l4 (2 + v4) = (ns, L1)) (hL : linksG (2 + v4) L1.tail (nx L1 10) = (ls, L2)) :
    netL l0 = ⟨pr, ca, min (v3 : Int) (ls.length : Int), ns, ls, (destsG (2 + v4) L2.tail (nx L2 2 + 1)).1, (checksG (2 + v4) (destsG (2 + v4) L2.tail (nx L2 2 + 1)).1.length (destsG (2 + v4) L2.tail (nx L2 2 + 1)).2.tail (nx (destsG (2 + v4) L2.tail (nx L2 2 + 1)).2 7)).1⟩ :=
  net_is hP hv3 hl3 hv4 hl4 hN rfl rfl hL rfl rfl rfl (destsG_ok (2 + v4) _ (by omega) _).2 rfl rfl rfl

set_option maxHeartbeats 8000000 in
set_option maxRecDepth 100000 in
theorem Net_any (l : List Int) (A : Option Addr) (n c : Nat) (hl : l.length = n) (hwf : ∀ v ∈ l, InI v) (hm : n ≤ 9223372036854775807) (hc : n ≤ c) (hcm : c ≤ 9223372036854775807) (w : World) (hA : CellsAt w w.heap.size A (l.map (Value.int .i64))) :
    Calls Try.prog 12 #[.slice A n c] w (NetAs (netOf l) w) := by
  have hok := src_ok l hwf
  have hA2 := hA.take 200
  have hnet : netOf l = netL (l.take 200) := rfl
  obtain ⟨l0, hl0⟩ : ∃ l0, l.take 200 = l0 := ⟨_, rfl⟩
  have hlen : l0.length = min n 200 := by rw [← hl0, List.length_take, hl]; omega
  rw [hl0] at hok hA2 hnet
  have HLEN := Lib.hid hlen
  have HNET := Lib.hid hnet
  have HOK := Lib.hid hok
  have HA2 := Lib.hid hA2
  clear hlen hnet hl0 hok hA2 hA hwf hl
  go_enter Try.func12, Try.ntmps12
  go_upto_if 21 with (fail)
  go_cut [0] (fun v wx => ∃ n' c', v = .slice A n' c' ∧ l0.length = n' ∧ n' ≤ c' ∧ wx = w.alloc (.cells #[.int .i64 0, .int .i64 0, .int .i64 0, .slice none 0 0, .slice none 0 0, .slice none 0 0, .slice none 0 0] 29))
  case first =>
    by_cases hbig : 200 < n
    · go_wp2_with fail
      go_meet
      exact ⟨200, c, rfl, by rw [HLEN.out]; omega, by omega, rfl⟩
    · go_wp2_with fail
      go_meet
      exact ⟨n, c, rfl, by rw [HLEN.out]; omega, by omega, rfl⟩
  case rest =>
    obtain ⟨n', c', rfl, hn', hc', rfl⟩ := hcut
    have hst := net_start w A n' c' l0 hn' hc' HA2.out
    have HST := Lib.hid hst
    clear hst hn'
    obtain ⟨v1, HV1, bv1⟩ := ex_nx l0 2 (by omega)
    obtain ⟨l1, HL1⟩ := ex_tail l0
    go_upto_if 30 with (go_at_call 39; refine (next_st 2 2 v1 l1 HV1 HL1 HST.out HOK.out rfl (by omega) (by omega)).mono ?_; rintro e w1 ⟨rfl, hst, hok, -⟩; have p0 := hst.blk.cell 0; have p1 := hst.blk.cell 1; have f0 := hst.blk.frozen 0; have f1 := hst.blk.frozen 1)
    go_cut [] (fun wx => ∃ (pr ca : Int) (l2 : List Int), Hid (protoG l0 = ((pr, ca), l2)) ∧ NetSt w (w.heap.size + 1) (w.heap.size + 1 + 1) l2 pr ca 0 (.slice none 0 0) (.slice none 0 0) (.slice none 0 0) (.slice none 0 0) [] [] [] [] wx ∧ SrcOk l2)
    case first =>
      as_aux_lemma =>
      by_cases h1 : v1 = 1
      · subst h1
        obtain ⟨v2, HV2, bv2⟩ := ex_nx l1 6 (by omega)
        obtain ⟨l2, HL2⟩ := ex_tail l1
        have hst' := hst.put 0 (.int .i64 2) 2 0 0 rfl
        go_wp2_with (go_at_call 39; refine (next_st 6 6 v2 l2 HV2 HL2 hst' hok rfl (by omega) (by omega)).mono ?_; rintro e w2 ⟨rfl, hst2, hok2, -⟩; have q1 := hst2.blk.cell 1; have g1 := hst2.blk.frozen 1; have hst3 := hst2.put 1 (.int .i64 (1 + (v2 : Int))) 2 (1 + (v2 : Int)) 0 rfl)
        go_meet
        exact ⟨2, 1 + (v2 : Int), l2, Lib.hid (by unfold protoG; rw [HL1.out, HV1.out, if_pos rfl, HV2.out, HL2.out]; rfl), hst3, hok2⟩
      · have h2 : ¬ (v1 : Int) = 1 := by omega
        have h3 : ((v1 : Int) == 1) = false := by simpa using h2
        go_wp2_with fail
        go_meet
        exact ⟨1, 0, l1, Lib.hid (by unfold protoG; rw [HV1.out, if_neg h1, HL1.out]), hst, hok⟩
    case rest =>
      as_aux_lemma =>
      clear p0 p1 f0 f1 hst hok
      obtain ⟨pr, ca, l2, HP, hst, hok⟩ := hcut
      obtain ⟨v3, HV3, bv3⟩ := ex_nx l2 4 (by omega)
      obtain ⟨l3, HL3⟩ := ex_tail l2
      obtain ⟨v4, HV4, bv4⟩ := ex_nx l3 6 (by omega)
      obtain ⟨l4, HL4⟩ := ex_tail l3
      have HN7 := Lib.hid (fun ns L1 ls L2 hN hL => HNET.out.trans (net_seven HP.out HV3.out HL3.out HV4.out HL4.out ns L1 ls L2 hN hL))
      clear HST
      repeat (first | exact net_rest7 l w _ l4 v3 v4 bv3 bv4 pr ca hst2 hok2 HN7 _ _ _ _ _ _ _ _ _ _ _ _ _ _ _ _ _ _ _ _ _ _ _ _ _ _ _ _ _ _ _ _ _ _ _ _ _ _ _ _ _ _ _ _ _ _ _ _ _ _ _ _ _ _ _ _ _ _ _ _ _ _ _ _ _ _ _ _ _ _ _ _ _ _ _ _ _ _ _ _ _ _ _ _ _ _ _ _ _ _ _ _ _ _ _ _ _ _ _ _ _ _ _ _ _ _ _ _ _ _ _ _ _ _ _ _ _ _ _ _ _ _ _ _ _ _ _ _ _ _ _ _ _ _ _ _ _ _ _ _ _ _ _ _ _ _ _ _ _ _ _ _ _ _ _ _ _ _ _ _ _ _ _ _ _ _ _ _ _ _ _ _ _ _ _ _ _ _ _ _ _ _ _ _ _ _ _ _ _ _ _ _ _ _ _ _ _ _ _ _ _ _ _ _ _ _ _ _ _ _ _ _ _ _ _ _ _ _ _ _ _ _ | (go_at_call 39; (with_reducible refine (next_st 6 6 v4 l4 HV4 HL4 hst1 hok1 rfl (by omega) (by omega)).mono ?_); rintro e w4 ⟨rfl, hst2, hok2, -⟩; dsimp only) | (go_at_call 39; (with_reducible refine (next_st 4 4 v3 l3 HV3 HL3 hst hok rfl (by omega) (by omega)).mono ?_); rintro e w3 ⟨rfl, hst1, hok1, -⟩; dsimp only) | go_values | go_skip | go_guarded | go_step | go_upon)
end Go.Proofs.Ytdmilbfdiebjgaa
