/-
  The law's Net: its third loop.
-/
import Derived.Test.YtdmilbfdiebjgaaPlWf
import Derived.Test.YtdmilbfdiebjgaaPlWe
namespace Go.Proofs.Ytdmilbfdiebjgaa
open Go.RowKit
set_option linter.unusedVariables false

set_option maxHeartbeats 8000000 in
set_option maxRecDepth 100000 in
theorem net_b5 (w wr : World) (L : List Int) (v4 : Nat) (bv4 : v4 < 6) (pr ca K0 : Int) (vn vl vd vc : Value) (ns : List PNode) (ls : List PLink) (ds : List PDest) (cs : List PCheck) (hdl : ds.length < 2)
    (hst : NetSt w (w.heap.size + 1) (w.heap.size + 1 + 1) L pr ca K0 vn vl vd vc ns ls ds cs wr) (hok : SrcOk L)
    (Q : Exit → Act → World → Prop) (c14 : Value) (u0 u1 u5 u7 u8 u9 u10 u11 u12 u13 u15 u16 u17 u18 u19 u20 u21 u22 u23 u24 u25 u26 u27 u28 u29 u30 u31 u32 u33 u34 u35 u36 u37 u38 u39 u40 u41 u42 u43 u44 u45 u46 u47 u48 u49 u50 u51 u52 u53 u54 u55 u56 u57 u58 u59 u60 u61 u62 u63 u64 u65 u66 u67 u68 u69 u70 u71 u72 u73 u74 u75 u76 u77 u78 u79 u80 u81 u82 u83 u84 u85 u86 u87 u88 u89 u90 u91 u92 u93 u94 u95 u96 u97 u98 u99 u100 u101 u102 u103 u104 u105 u106 u107 u108 u109 u110 u111 u112 u113 u114 u115 u116 u117 u118 u119 u120 u121 u122 u123 u124 u125 u126 u127 u128 u129 u130 u131 u132 u133 u134 u135 u136 u137 u138 u139 u140 u141 u142 u143 u144 u145 u146 u147 u148 u149 u150 u151 u152 u153 u154 u155 u156 u157 u158 u159 u160 u161 u162 u163 u164 u165 u166 u167 u168 u169 u170 u171 u172 u173 u174 u175 u176 u177 u178 u179 u180 u181 u182 u183 u184 u185 u186 u187 u188 u189 u190 u191 u192 u193 u194 u195 u196 u197 u198 u199 u200 u201 u202 u203 u204 u205 u206 u207 u208 u209 u210 u211 u212 u213 u214 u215 u216 u217 u218 u219 u220 u221 u222 u223 u224 u225 u226 : Value)
    (hK : ∀ (wx : World) (c15 c16 : Value) (u139 u140 u141 u142 u143 u144 u145 u146 u147 u148 u149 u150 u151 u152 u153 u154 u155 u156 u157 u158 u159 u160 u161 u162 u163 u164 u165 u166 u167 u168 u169 u170 u171 u172 u173 u174 u175 u176 u177 u178 u179 u180 u181 u182 u183 : Value), (∃ (vd' : Value), NetSt w (w.heap.size + 1) (w.heap.size + 1 + 1) (destG (2 + v4) (ds, L)).2 pr ca K0 vn vl vd' vc ns ls (destG (2 + v4) (ds, L)).1 cs wx ∧ SrcOk (destG (2 + v4) (ds, L)).2) → Q .normal ⟨List.toArray (u0 :: u1 :: .pointer (some ⟨w.heap.size, 0, none⟩) :: .pointer (some ⟨w.heap.size + 1, 0, none⟩) :: .pointer (some ⟨w.heap.size + 1 + 1, 0, none⟩) :: u5 :: .int .i64 (2 + (v4 : Int)) :: u7 :: u8 :: u9 :: u10 :: u11 :: u12 :: u13 :: c14 :: c15 :: c16 :: u17 :: u18 :: u19 :: u20 :: u21 :: u22 :: u23 :: u24 :: u25 :: u26 :: u27 :: u28 :: u29 :: u30 :: u31 :: u32 :: u33 :: u34 :: u35 :: u36 :: u37 :: u38 :: u39 :: u40 :: u41 :: u42 :: u43 :: u44 :: u45 :: u46 :: u47 :: u48 :: u49 :: u50 :: u51 :: u52 :: u53 :: u54 :: u55 :: u56 :: u57 :: u58 :: u59 :: u60 :: u61 :: u62 :: u63 :: u64 :: u65 :: u66 :: u67 :: u68 :: u69 :: u70 :: u71 :: u72 :: u73 :: u74 :: u75 :: u76 :: u77 :: u78 :: u79 :: u80 :: u81 :: u82 :: u83 :: u84 :: u85 :: u86 :: u87 :: u88 :: u89 :: u90 :: u91 :: u92 :: u93 :: u94 :: u95 :: u96 :: u97 :: u98 :: u99 :: u100 :: u101 :: u102 :: u103 :: u104 :: u105 :: u106 :: u107 :: u108 :: u109 :: u110 :: u111 :: u112 :: u113 :: u114 :: u115 :: u116 :: u117 :: u118 :: u119 :: u120 :: u121 :: u122 :: u123 :: u124 :: u125 :: u126 :: u127 :: u128 :: u129 :: u130 :: u131 :: u132 :: u133 :: u134 :: u135 :: u136 :: u137 :: u138 :: u139 :: u140 :: u141 :: u142 :: u143 :: u144 :: u145 :: u146 :: u147 :: u148 :: u149 :: u150 :: u151 :: u152 :: u153 :: u154 :: u155 :: u156 :: u157 :: u158 :: u159 :: u160 :: u161 :: u162 :: u163 :: u164 :: u165 :: u166 :: u167 :: u168 :: u169 :: u170 :: u171 :: u172 :: u173 :: u174 :: u175 :: u176 :: u177 :: u178 :: u179 :: u180 :: u181 :: u182 :: u183 :: u184 :: u185 :: u186 :: u187 :: u188 :: u189 :: u190 :: u191 :: u192 :: u193 :: u194 :: u195 :: u196 :: u197 :: u198 :: u199 :: u200 :: u201 :: u202 :: u203 :: u204 :: u205 :: u206 :: u207 :: u208 :: u209 :: u210 :: u211 :: u212 :: u213 :: u214 :: u215 :: u216 :: u217 :: u218 :: u219 :: u220 :: u221 :: u222 :: u223 :: u224 :: u225 :: u226 :: []), []⟩ wx) :
    Code.wp Try.prog (netC [true, true, true, true, true, true, true, true, true, true, true, true, false, true, false, false, true, false, false]) Q ⟨List.toArray (u0 :: u1 :: .pointer (some ⟨w.heap.size, 0, none⟩) :: .pointer (some ⟨w.heap.size + 1, 0, none⟩) :: .pointer (some ⟨w.heap.size + 1 + 1, 0, none⟩) :: u5 :: .int .i64 (2 + (v4 : Int)) :: u7 :: u8 :: u9 :: u10 :: u11 :: u12 :: u13 :: c14 :: u15 :: u16 :: u17 :: u18 :: u19 :: u20 :: u21 :: u22 :: u23 :: u24 :: u25 :: u26 :: u27 :: u28 :: u29 :: u30 :: u31 :: u32 :: u33 :: u34 :: u35 :: u36 :: u37 :: u38 :: u39 :: u40 :: u41 :: u42 :: u43 :: u44 :: u45 :: u46 :: u47 :: u48 :: u49 :: u50 :: u51 :: u52 :: u53 :: u54 :: u55 :: u56 :: u57 :: u58 :: u59 :: u60 :: u61 :: u62 :: u63 :: u64 :: u65 :: u66 :: u67 :: u68 :: u69 :: u70 :: u71 :: u72 :: u73 :: u74 :: u75 :: u76 :: u77 :: u78 :: u79 :: u80 :: u81 :: u82 :: u83 :: u84 :: u85 :: u86 :: u87 :: u88 :: u89 :: u90 :: u91 :: u92 :: u93 :: u94 :: u95 :: u96 :: u97 :: u98 :: u99 :: u100 :: u101 :: u102 :: u103 :: u104 :: u105 :: u106 :: u107 :: u108 :: u109 :: u110 :: u111 :: u112 :: u113 :: u114 :: u115 :: u116 :: u117 :: u118 :: u119 :: u120 :: u121 :: u122 :: u123 :: u124 :: u125 :: u126 :: u127 :: u128 :: u129 :: u130 :: u131 :: u132 :: u133 :: u134 :: u135 :: u136 :: u137 :: u138 :: u139 :: u140 :: u141 :: u142 :: u143 :: u144 :: u145 :: u146 :: u147 :: u148 :: u149 :: u150 :: u151 :: u152 :: u153 :: u154 :: u155 :: u156 :: u157 :: u158 :: u159 :: u160 :: u161 :: u162 :: u163 :: u164 :: u165 :: u166 :: u167 :: u168 :: u169 :: u170 :: u171 :: u172 :: u173 :: u174 :: u175 :: u176 :: u177 :: u178 :: u179 :: u180 :: u181 :: u182 :: u183 :: u184 :: u185 :: u186 :: u187 :: u188 :: u189 :: u190 :: u191 :: u192 :: u193 :: u194 :: u195 :: u196 :: u197 :: u198 :: u199 :: u200 :: u201 :: u202 :: u203 :: u204 :: u205 :: u206 :: u207 :: u208 :: u209 :: u210 :: u211 :: u212 :: u213 :: u214 :: u215 :: u216 :: u217 :: u218 :: u219 :: u220 :: u221 :: u222 :: u223 :: u224 :: u225 :: u226 :: []), []⟩ wr := by
  obtain ⟨vhs, ve1, ve2, _⟩ := hst.dests
  obtain ⟨Ad, cd, rfl, hcd⟩ := own_form ve2
  obtain ⟨o, HO, bo⟩ := ex_nx L (2 + v4) (by omega)
  obtain ⟨L1, HT1⟩ := ex_tail L
  have hok1 : SrcOk L1 := by rw [← HT1.out]; exact hok.tail
  have hlw : w.heap.size + 1 + 1 < wr.heap.size := hst.blk.lt
  have q5 := hst.blk.cell 5
  have q5a : ∀ o1, (wr.alloc o1).cell? ⟨w.heap.size + 1 + 1, 5, none⟩ = some (.slice Ad ds.length cd) := fun o1 => (hst.blk.alloc o1).cell 5
  have hat := dnames_at ds.length hdl
  have i1 : (0 : Int) ≤ (ds.length : Int) := by omega
  have i2 : (ds.length : Int) < 2 := by omega
  have SR := Lib.hid (fun o1 o2 => hst.src.up hst.lt (below_2a wr o1 o2))
  have HST := Lib.hid hst
  have HOK := Lib.hid hok
  obtain ⟨iI, hiI, zI0, zI1, zI2⟩ := info_parts numInfo
  clear hst hok ve1 ve2
  conv => arg 2; whnf
  go_upto_region 39 with (first
    | (go_at_call 39; refine (next_src (2 + (v4 : Int)) (2 + v4) o L1 HO HT1 (SR.out _ _) HOK.out.1 HOK.out.2 (by omega) (by omega) (by omega) (by omega)).mono ?_; rintro e wy ⟨rfl, hs1, ht1⟩; have hT1 := ((Turned.refl (w.heap.size + 1) wr).up (below_2a wr _ _)).trans ht1; have hdb1 := ht1.blk (blk2_new wr _ #[.string (dnG ds.length), .slice none 0 0] 62) (by omega); have c10 := hdb1.cell 1; have hsy := hT1.grown.size)
    | (at_builtin; refine wpList_append_own _ rfl _ _ 22 rfl wr.heap.size 3 iI (.int .i64 0) 1 8 Try.underlying22 hiI zI0 zI1 zI2 rfl (by decide) (.slice none 0 0) 0 [] rfl (World.ownsRow_nil _ _ _ _) ⟨wy.heap.size, 0, none⟩ 1 1 [.int .i64 (o : Int)] rfl rfl (cells_new wy [.int .i64 (o : Int)] 3) (by simp [Value.oneCell']) (by unfold maxLen; omega) (by omega) (by simp; omega) ?_; intro v3' w3 hown3 hgrow3 _; obtain ⟨g1, cap1, rfl, _⟩ := own_slice hown3 (by omega); have hdb3 := (hdb1.alloc (.cells #[.int .i64 (o : Int)] 3)).grown hgrow3 (by simp [Value.ownBlock]); have c31 := hdb3.cell 1; have f31 := hdb3.frozen 1))
  have hgb := below_none hgrow3
  have hs3 := (hs1.up (by omega) (below_new wy _)).up (by simp; omega) hgb
  have hT3 := (hT1.up (below_new wy _)).up hgb
  have hD : DSt w.heap.size L1 wr (dnG ds.length) g1 1 cap1 [(o : Int)] (w3.setCell ⟨wr.heap.size + 1, 1, none⟩ (.slice (some ⟨g1, 0, none⟩) 1 cap1)) :=
    ⟨hs3.setFar (p := ⟨wr.heap.size + 1, 1, none⟩) (by show w.heap.size + 1 ≠ wr.heap.size + 1; omega) (by show w.heap.size ≤ wr.heap.size + 1; omega) _,
      hT3.setNew (p := ⟨wr.heap.size + 1, 1, none⟩) (by show wr.heap.size ≤ wr.heap.size + 1; omega) _, hdb3.set_ 1 _, own_set hown3 hdb3 (by decide) 1 _, hok1, by omega⟩
  clear hs3 hT3 hgb hdb3 hown3 hgrow3 c31 f31 hdb1 c10 hs1 hT1 ht1 q5 q5a hat SR
  refine wp_goes_on (net_p39 w wr _ L1 v4 o bv4 bo _ g1 cap1 _ hD _ _ _ _ _ _ _ _ _ _ _ _ _ _ _ _ _ _ _ _ _ _ _ _ _ _ _ _ _ _ _ _ _ _ _ _ _ _ _ _ _ _ _ _ _ _ _ _ _ _ _ _ _ _ _ _ _ _ _ _ _ _ _ _ _ _ _ _ _ _ _ _ _ _ _ _ _ _ _ _ _ _ _ _ _ _ _ _ _ _ _ _ _ _ _ _ _ _ _ _ _ _ _ _ _ _ _ _ _ _ _ _ _ _ _ _ _ _ _ _ _ _ _ _ _ _ _ _ _ _ _ _ _ _ _ _ _ _ _ _ _ _ _ _ _ _ _ _ _ _ _ _ _ _ _ _ _ _ _ _ _ _ _ _ _ _ _ _ _ _ _ _ _ _ _ _ _ _ _ _ _ _ _ _ _ _ _ _ _ _ _ _ _ _ _ _ _ _ _ _ _ _ _ _ _ _ _ _ _ _ _ _ _ _ _ _ _ _ _ _ _ _ ?_)
  clear hD
  intro wx c163
  intros
  rename_i hh
  obtain ⟨t, L2, rfl, HT2, HD, hD⟩ := hh
  go_step
  refine wp_goes_on (net_p40 w wr wx L1 L2 v4 o bv4 bo _ g1 cap1 t HT2 HD hD _ _ _ _ _ _ _ _ _ _ _ _ _ _ _ _ _ _ _ _ _ _ _ _ _ _ _ _ _ _ _ _ _ _ _ _ _ _ _ _ _ _ _ _ _ _ _ _ _ _ _ _ _ _ _ _ _ _ _ _ _ _ _ _ _ _ _ _ _ _ _ _ _ _ _ _ _ _ _ _ _ _ _ _ _ _ _ _ _ _ _ _ _ _ _ _ _ _ _ _ _ _ _ _ _ _ _ _ _ _ _ _ _ _ _ _ _ _ _ _ _ _ _ _ _ _ _ _ _ _ _ _ _ _ _ _ _ _ _ _ _ _ _ _ _ _ _ _ _ _ _ _ _ _ _ _ _ _ _ _ _ _ _ _ _ _ _ _ _ _ _ _ _ _ _ _ _ _ _ _ _ _ _ _ _ _ _ _ _ _ _ _ _ _ _ _ _ _ _ _ _ _ _ _ _ _ _ _ _ _ _ _ _ _ _ _ _ _ _ _ _ ?_)
  clear hD
  intro wx
  intros
  rename_i hh
  obtain ⟨g', m', cap', hD⟩ := hh
  go_step
  refine net_p41 w wr wx L _ v4 o pr ca K0 vn vl _ vc ns ls ds cs (by omega) _ g' m' cap' _ (by have := hD.own.1; simpa using this) HST.out hD _ _ _ _ _ _ _ _ _ _ _ _ _ _ _ _ _ _ _ _ _ _ _ _ _ _ _ _ _ _ _ _ _ _ _ _ _ _ _ _ _ _ _ _ _ _ _ _ _ _ _ _ _ _ _ _ _ _ _ _ _ _ _ _ _ _ _ _ _ _ _ _ _ _ _ _ _ _ _ _ _ _ _ _ _ _ _ _ _ _ _ _ _ _ _ _ _ _ _ _ _ _ _ _ _ _ _ _ _ _ _ _ _ _ _ _ _ _ _ _ _ _ _ _ _ _ _ _ _ _ _ _ _ _ _ _ _ _ _ _ _ _ _ _ _ _ _ _ _ _ _ _ _ _ _ _ _ _ _ _ _ _ _ _ _ _ _ _ _ _ _ _ _ _ _ _ _ _ _ _ _ _ _ _ _ _ _ _ _ _ _ _ _ _ _ _ _ _ _ _ _ _ _ _ _ _ _ _ _ _ _ _ _ _ _ _ _ _ _ _ _ _ ?_
  intro wx
  intros
  rename_i hh
  obtain ⟨vd', hst, hok⟩ := hh
  refine hK _ _ _ _ _ _ _ _ _ _ _ _ _ _ _ _ _ _ _ _ _ _ _ _ _ _ _ _ _ _ _ _ _ _ _ _ _ _ _ _ _ _ _ _ _ _ _ _ ⟨vd', ?_, ?_⟩
  · rw [destG_is, HO.out, HT1.out]; exact hst
  · rw [destG_is, HO.out, HT1.out]; exact hok

set_option maxHeartbeats 8000000 in
set_option maxRecDepth 100000 in
theorem net_rest12 (l : List Int) (w wr : World) (L : List Int) (v4 : Nat) (bv4 : v4 < 6) (pr ca K0 : Int) (vn vl : Value) (ns : List PNode) (ls : List PLink)
    (hst : NetSt w (w.heap.size + 1) (w.heap.size + 1 + 1) L pr ca K0 vn vl (.slice none 0 0) (.slice none 0 0) ns ls [] [] wr) (hok : SrcOk L)
    (HN : Hid (netOf l = ⟨pr, ca, K0, ns, ls, (destsG (2 + v4) L.tail (nx L 2 + 1)).1, (checksG (2 + v4) (destsG (2 + v4) L.tail (nx L 2 + 1)).1.length (destsG (2 + v4) L.tail (nx L 2 + 1)).2.tail (nx (destsG (2 + v4) L.tail (nx L 2 + 1)).2 7)).1⟩))
    (u0 u1 u5 u7 u8 u9 u10 u11 u12 u13 u14 u15 u16 u17 u18 u19 u20 u21 u22 u23 u24 u25 u26 u27 u28 u29 u30 u31 u32 u33 u34 u35 u36 u37 u38 u39 u40 u41 u42 u43 u44 u45 u46 u47 u48 u49 u50 u51 u52 u53 u54 u55 u56 u57 u58 u59 u60 u61 u62 u63 u64 u65 u66 u67 u68 u69 u70 u71 u72 u73 u74 u75 u76 u77 u78 u79 u80 u81 u82 u83 u84 u85 u86 u87 u88 u89 u90 u91 u92 u93 u94 u95 u96 u97 u98 u99 u100 u101 u102 u103 u104 u105 u106 u107 u108 u109 u110 u111 u112 u113 u114 u115 u116 u117 u118 u119 u120 u121 u122 u123 u124 u125 u126 u127 u128 u129 u130 u131 u132 u133 u134 u135 u136 u137 u138 u139 u140 u141 u142 u143 u144 u145 u146 u147 u148 u149 u150 u151 u152 u153 u154 u155 u156 u157 u158 u159 u160 u161 u162 u163 u164 u165 u166 u167 u168 u169 u170 u171 u172 u173 u174 u175 u176 u177 u178 u179 u180 u181 u182 u183 u184 u185 u186 u187 u188 u189 u190 u191 u192 u193 u194 u195 u196 u197 u198 u199 u200 u201 u202 u203 u204 u205 u206 u207 u208 u209 u210 u211 u212 u213 u214 u215 u216 u217 u218 u219 u220 u221 u222 u223 u224 u225 u226 : Value) :
    Code.wp Try.prog (netC [true, true, true, true, true, true, true, true, true, true, true, true]) (bodyPost Try.prog Try.f12 (NetAs (netOf l) w)) ⟨List.toArray (u0 :: u1 :: .pointer (some ⟨w.heap.size, 0, none⟩) :: .pointer (some ⟨w.heap.size + 1, 0, none⟩) :: .pointer (some ⟨w.heap.size + 1 + 1, 0, none⟩) :: u5 :: .int .i64 (2 + (v4 : Int)) :: u7 :: u8 :: u9 :: u10 :: u11 :: u12 :: u13 :: u14 :: u15 :: u16 :: u17 :: u18 :: u19 :: u20 :: u21 :: u22 :: u23 :: u24 :: u25 :: u26 :: u27 :: u28 :: u29 :: u30 :: u31 :: u32 :: u33 :: u34 :: u35 :: u36 :: u37 :: u38 :: u39 :: u40 :: u41 :: u42 :: u43 :: u44 :: u45 :: u46 :: u47 :: u48 :: u49 :: u50 :: u51 :: u52 :: u53 :: u54 :: u55 :: u56 :: u57 :: u58 :: u59 :: u60 :: u61 :: u62 :: u63 :: u64 :: u65 :: u66 :: u67 :: u68 :: u69 :: u70 :: u71 :: u72 :: u73 :: u74 :: u75 :: u76 :: u77 :: u78 :: u79 :: u80 :: u81 :: u82 :: u83 :: u84 :: u85 :: u86 :: u87 :: u88 :: u89 :: u90 :: u91 :: u92 :: u93 :: u94 :: u95 :: u96 :: u97 :: u98 :: u99 :: u100 :: u101 :: u102 :: u103 :: u104 :: u105 :: u106 :: u107 :: u108 :: u109 :: u110 :: u111 :: u112 :: u113 :: u114 :: u115 :: u116 :: u117 :: u118 :: u119 :: u120 :: u121 :: u122 :: u123 :: u124 :: u125 :: u126 :: u127 :: u128 :: u129 :: u130 :: u131 :: u132 :: u133 :: u134 :: u135 :: u136 :: u137 :: u138 :: u139 :: u140 :: u141 :: u142 :: u143 :: u144 :: u145 :: u146 :: u147 :: u148 :: u149 :: u150 :: u151 :: u152 :: u153 :: u154 :: u155 :: u156 :: u157 :: u158 :: u159 :: u160 :: u161 :: u162 :: u163 :: u164 :: u165 :: u166 :: u167 :: u168 :: u169 :: u170 :: u171 :: u172 :: u173 :: u174 :: u175 :: u176 :: u177 :: u178 :: u179 :: u180 :: u181 :: u182 :: u183 :: u184 :: u185 :: u186 :: u187 :: u188 :: u189 :: u190 :: u191 :: u192 :: u193 :: u194 :: u195 :: u196 :: u197 :: u198 :: u199 :: u200 :: u201 :: u202 :: u203 :: u204 :: u205 :: u206 :: u207 :: u208 :: u209 :: u210 :: u211 :: u212 :: u213 :: u214 :: u215 :: u216 :: u217 :: u218 :: u219 :: u220 :: u221 :: u222 :: u223 :: u224 :: u225 :: u226 :: []), []⟩ wr := by
  obtain ⟨v6, HV6, bv6⟩ := ex_nx L 2 (by omega)
  obtain ⟨l6, HL6⟩ := ex_tail L
  have HN2 : Hid (netOf l = ⟨pr, ca, K0, ns, ls, (destsG (2 + v4) l6 (v6 + 1)).1, (checksG (2 + v4) (destsG (2 + v4) l6 (v6 + 1)).1.length (destsG (2 + v4) l6 (v6 + 1)).2.tail (nx (destsG (2 + v4) l6 (v6 + 1)).2 7)).1⟩) := Lib.hid (by rw [HN.out, HV6.out, HL6.out])
  clear HN
  conv => arg 2; whnf
  go_wp2_with (go_at_call 39; (with_reducible refine (next_st 2 2 v6 l6 HV6 HL6 hst hok rfl (by omega) (by omega)).mono ?_); clear hst hok; rintro e w7 ⟨rfl, hst, hok, -⟩)
  go_loopg [14, 15, 16] (v6 + 1) (fun gg s14 _ _ wr => ∃ (j : Nat) (vd : Value), j ≤ v6 + 1 ∧ v6 + 1 - j ≤ gg ∧ s14 = .int .i64 ((v6 : Int) - (j : Int)) ∧ NetSt w (w.heap.size + 1) (w.heap.size + 1 + 1) (destsG (2 + v4) l6 j).2 pr ca K0 vn vl vd (.slice none 0 0) ns ls (destsG (2 + v4) l6 j).1 [] wr ∧ SrcOk (destsG (2 + v4) l6 j).2)
  case atStart => exact ⟨0, _, Nat.zero_le _, by omega, congrArg (Value.int .i64) (by omega), hst, hok⟩
  case round =>
    clear hst hok
    obtain ⟨j, vd, hj, hgg, rfl, hst, hok⟩ := hrel
    by_cases hlt : j ≤ v6
    · skip
      as_aux_lemma =>
      have hdl : (destsG (2 + v4) l6 j).1.length < 2 := by
        have := (destsG_ok (2 + v4) l6 (by omega) j).2
        omega
      have i0 : (0 : Int) ≤ (v6 : Int) - (j : Int) := by omega
      have hstep : destsG (2 + v4) l6 (j + 1) = destG (2 + v4) ((destsG (2 + v4) l6 j).1, (destsG (2 + v4) l6 j).2) := by rw [destsG]
      have HSTEP := Lib.hid hstep
      clear hstep
      repeat (first | refine net_b5 w wr _ v4 bv4 pr ca K0 vn vl vd _ ns ls _ [] hdl hst hok _ _ _ _ _ _ _ _ _ _ _ _ _ _ _ _ _ _ _ _ _ _ _ _ _ _ _ _ _ _ _ _ _ _ _ _ _ _ _ _ _ _ _ _ _ _ _ _ _ _ _ _ _ _ _ _ _ _ _ _ _ _ _ _ _ _ _ _ _ _ _ _ _ _ _ _ _ _ _ _ _ _ _ _ _ _ _ _ _ _ _ _ _ _ _ _ _ _ _ _ _ _ _ _ _ _ _ _ _ _ _ _ _ _ _ _ _ _ _ _ _ _ _ _ _ _ _ _ _ _ _ _ _ _ _ _ _ _ _ _ _ _ _ _ _ _ _ _ _ _ _ _ _ _ _ _ _ _ _ _ _ _ _ _ _ _ _ _ _ _ _ _ _ _ _ _ _ _ _ _ _ _ _ _ _ _ _ _ _ _ _ _ _ _ _ _ _ _ _ _ _ _ _ _ _ _ _ _ _ _ _ _ _ _ _ _ _ _ _ _ _ _ _ _ ?_ | go_values | go_skip | go_guarded | go_step | go_upon)
      clear hst hok
      intro wx c15 c16
      intros
      rename_i hh
      obtain ⟨vd', hst, hok⟩ := hh
      rw [← HSTEP.out] at hst hok
      go_wp2_with fail
      go_roundg (v6 + 1 - (j + 1))
      case measure => omega
      case rel => exact ⟨j + 1, vd', by omega, by omega, congrArg (Value.int .i64) (by omega), hst, hok⟩
    · as_aux_lemma =>
      obtain rfl : j = v6 + 1 := by omega
      have i0 : ¬ (0 : Int) ≤ (v6 : Int) - ((v6 + 1 : Nat) : Int) := by omega
      have hdl := (destsG_ok (2 + v4) l6 (by omega) (v6 + 1)).2
      repeat (first | exact net_rest13 l w wr _ v4 bv4 pr ca K0 vn vl _ ns ls _ (by rw [hdl]; omega) (by rw [hdl]; omega) hst hok HN2 _ _ _ _ _ _ _ _ _ _ _ _ _ _ _ _ _ _ _ _ _ _ _ _ _ _ _ _ _ _ _ _ _ _ _ _ _ _ _ _ _ _ _ _ _ _ _ _ _ _ _ _ _ _ _ _ _ _ _ _ _ _ _ _ _ _ _ _ _ _ _ _ _ _ _ _ _ _ _ _ _ _ _ _ _ _ _ _ _ _ _ _ _ _ _ _ _ _ _ _ _ _ _ _ _ _ _ _ _ _ _ _ _ _ _ _ _ _ _ _ _ _ _ _ _ _ _ _ _ _ _ _ _ _ _ _ _ _ _ _ _ _ _ _ _ _ _ _ _ _ _ _ _ _ _ _ _ _ _ _ _ _ _ _ _ _ _ _ _ _ _ _ _ _ _ _ _ _ _ _ _ _ _ _ _ _ _ _ _ _ _ _ _ _ _ _ _ _ _ _ _ _ _ _ _ _ _ _ _ _ _ _ _ _ _ _ _ _ _ _ _ _ _ | go_values | go_skip | go_guarded | go_step | go_upon)
end Go.Proofs.Ytdmilbfdiebjgaa
