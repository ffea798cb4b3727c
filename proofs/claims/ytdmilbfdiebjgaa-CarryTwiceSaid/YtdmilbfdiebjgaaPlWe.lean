/-
  The law's Net: its fourth loop.
-/
import Derived.Test.YtdmilbfdiebjgaaPlWb
import Derived.Test.YtdmilbfdiebjgaaPlWc
namespace Go.Proofs.Ytdmilbfdiebjgaa
open Go.RowKit
set_option linter.unusedVariables false

theorem hstep_is {n nd i : Nat} {l : List Int} {cs : List PCheck} {L0 L1 L2 L3 L4 L5 : List Int} {kd no dx : Nat} {li o : Int} (H : Hid (checksG n nd l (i + 1) = checkG n nd (cs, L0))) (bk : kd < 4) (h1 : Hid (nx L0 4 = kd)) (t1 : Hid (L0.tail = L1)) (h2 : Hid (nx L1 n = no)) (t2 : Hid (L1.tail = L2)) (h3 : Hid (nx L2 nd = dx)) (t3 : Hid (L2.tail = L3))
    (h4 : Hid (limG kd L3 = (li, L4))) (h5 : Hid (othG kd n L4 = (o, L5))) : Hid (checksG n nd l (i + 1) = (cs ++ [⟨1 + (kd : Int), no, dx, li, o⟩], L5)) :=
  Lib.hid (H.out.trans (checkG_is bk h1.out t1.out h2.out t2.out h3.out t3.out h4.out h5.out))

set_option maxHeartbeats 16000000 in
set_option maxRecDepth 100000 in
theorem net_rest13 (l : List Int) (w wr : World) (L : List Int) (v4 : Nat) (bv4 : v4 < 6) (pr ca K0 : Int) (vn vl vd : Value) (ns : List PNode) (ls : List PLink) (ds : List PDest)
    (hdl1 : 0 < ds.length) (hdl2 : ds.length ≤ 2)
    (hst : NetSt w (w.heap.size + 1) (w.heap.size + 1 + 1) L pr ca K0 vn vl vd (.slice none 0 0) ns ls ds [] wr) (hok : SrcOk L)
    (HN : Hid (netOf l = ⟨pr, ca, K0, ns, ls, ds, (checksG (2 + v4) ds.length L.tail (nx L 7)).1⟩))
    (u0 u1 u5 u7 u8 u9 u10 u11 u12 u13 u14 u15 u16 u17 u18 u19 u20 u21 u22 u23 u24 u25 u26 u27 u28 u29 u30 u31 u32 u33 u34 u35 u36 u37 u38 u39 u40 u41 u42 u43 u44 u45 u46 u47 u48 u49 u50 u51 u52 u53 u54 u55 u56 u57 u58 u59 u60 u61 u62 u63 u64 u65 u66 u67 u68 u69 u70 u71 u72 u73 u74 u75 u76 u77 u78 u79 u80 u81 u82 u83 u84 u85 u86 u87 u88 u89 u90 u91 u92 u93 u94 u95 u96 u97 u98 u99 u100 u101 u102 u103 u104 u105 u106 u107 u108 u109 u110 u111 u112 u113 u114 u115 u116 u117 u118 u119 u120 u121 u122 u123 u124 u125 u126 u127 u128 u129 u130 u131 u132 u133 u134 u135 u136 u137 u138 u139 u140 u141 u142 u143 u144 u145 u146 u147 u148 u149 u150 u151 u152 u153 u154 u155 u156 u157 u158 u159 u160 u161 u162 u163 u164 u165 u166 u167 u168 u169 u170 u171 u172 u173 u174 u175 u176 u177 u178 u179 u180 u181 u182 u183 u184 u185 u186 u187 u188 u189 u190 u191 u192 u193 u194 u195 u196 u197 u198 u199 u200 u201 u202 u203 u204 u205 u206 u207 u208 u209 u210 u211 u212 u213 u214 u215 u216 u217 u218 u219 u220 u221 u222 u223 u224 u225 u226 : Value) :
    Code.wp Try.prog (netC [true, true, true, true, true, true, true, true, true, true, true, true, true]) (bodyPost Try.prog Try.f12 (NetAs (netOf l) w)) ⟨List.toArray (u0 :: u1 :: .pointer (some ⟨w.heap.size, 0, none⟩) :: .pointer (some ⟨w.heap.size + 1, 0, none⟩) :: .pointer (some ⟨w.heap.size + 1 + 1, 0, none⟩) :: u5 :: .int .i64 (2 + (v4 : Int)) :: u7 :: u8 :: u9 :: u10 :: u11 :: u12 :: u13 :: u14 :: u15 :: u16 :: u17 :: u18 :: u19 :: u20 :: u21 :: u22 :: u23 :: u24 :: u25 :: u26 :: u27 :: u28 :: u29 :: u30 :: u31 :: u32 :: u33 :: u34 :: u35 :: u36 :: u37 :: u38 :: u39 :: u40 :: u41 :: u42 :: u43 :: u44 :: u45 :: u46 :: u47 :: u48 :: u49 :: u50 :: u51 :: u52 :: u53 :: u54 :: u55 :: u56 :: u57 :: u58 :: u59 :: u60 :: u61 :: u62 :: u63 :: u64 :: u65 :: u66 :: u67 :: u68 :: u69 :: u70 :: u71 :: u72 :: u73 :: u74 :: u75 :: u76 :: u77 :: u78 :: u79 :: u80 :: u81 :: u82 :: u83 :: u84 :: u85 :: u86 :: u87 :: u88 :: u89 :: u90 :: u91 :: u92 :: u93 :: u94 :: u95 :: u96 :: u97 :: u98 :: u99 :: u100 :: u101 :: u102 :: u103 :: u104 :: u105 :: u106 :: u107 :: u108 :: u109 :: u110 :: u111 :: u112 :: u113 :: u114 :: u115 :: u116 :: u117 :: u118 :: u119 :: u120 :: u121 :: u122 :: u123 :: u124 :: u125 :: u126 :: u127 :: u128 :: u129 :: u130 :: u131 :: u132 :: u133 :: u134 :: u135 :: u136 :: u137 :: u138 :: u139 :: u140 :: u141 :: u142 :: u143 :: u144 :: u145 :: u146 :: u147 :: u148 :: u149 :: u150 :: u151 :: u152 :: u153 :: u154 :: u155 :: u156 :: u157 :: u158 :: u159 :: u160 :: u161 :: u162 :: u163 :: u164 :: u165 :: u166 :: u167 :: u168 :: u169 :: u170 :: u171 :: u172 :: u173 :: u174 :: u175 :: u176 :: u177 :: u178 :: u179 :: u180 :: u181 :: u182 :: u183 :: u184 :: u185 :: u186 :: u187 :: u188 :: u189 :: u190 :: u191 :: u192 :: u193 :: u194 :: u195 :: u196 :: u197 :: u198 :: u199 :: u200 :: u201 :: u202 :: u203 :: u204 :: u205 :: u206 :: u207 :: u208 :: u209 :: u210 :: u211 :: u212 :: u213 :: u214 :: u215 :: u216 :: u217 :: u218 :: u219 :: u220 :: u221 :: u222 :: u223 :: u224 :: u225 :: u226 :: []), []⟩ wr := by
  obtain ⟨v7, HV7, bv7⟩ := ex_nx L 7 (by omega)
  obtain ⟨l7, HL7⟩ := ex_tail L
  have HN2 : Hid (netOf l = ⟨pr, ca, K0, ns, ls, ds, (checksG (2 + v4) ds.length l7 v7).1⟩) := Lib.hid (by rw [HN.out, HV7.out, HL7.out])
  clear HN
  obtain ⟨_, _, ve2, _⟩ := hst.dests
  obtain ⟨Ad, cd, rfl, hcd⟩ := own_form ve2
  clear ve2
  conv => arg 2; whnf
  go_wp2_with (go_at_call 39; (with_reducible refine (next_st 7 7 v7 l7 HV7 HL7 hst hok rfl (by omega) (by omega)).mono ?_); clear hst hok; rintro e w7 ⟨rfl, hst, hok, -⟩)
  go_loopg [17, 18] v7 (fun gg s17 _ wr => ∃ (i : Nat) (vc : Value), i ≤ v7 ∧ v7 - i ≤ gg ∧ s17 = .int .i64 ((v7 : Int) - (i : Int)) ∧ NetSt w (w.heap.size + 1) (w.heap.size + 1 + 1) (checksG (2 + v4) ds.length l7 i).2 pr ca K0 vn vl (.slice Ad ds.length cd) vc ns ls ds (checksG (2 + v4) ds.length l7 i).1 wr ∧ SrcOk (checksG (2 + v4) ds.length l7 i).2)
  case atStart => exact ⟨0, _, Nat.zero_le _, by omega, congrArg (Value.int .i64) (by omega), hst, hok⟩
  case round =>
    clear hst hok
    obtain ⟨i, vc, hi, hgg, rfl, hst, hok⟩ := hrel
    by_cases hlt : i < v7
    · skip
      as_aux_lemma =>
      obtain ⟨S, hS⟩ : ∃ S, checksG (2 + v4) ds.length l7 i = S := ⟨_, rfl⟩
      obtain ⟨cs, L0⟩ := S
      have hcl : cs.length = i := by
        have := (checksG_ok (2 + v4) ds.length l7 (by omega) hdl1 i).2
        rw [hS] at this
        exact this
      have hstep : checksG (2 + v4) ds.length l7 (i + 1) = checkG (2 + v4) ds.length (cs, L0) := by rw [checksG, hS]
      rw [hS] at hst hok
      dsimp only at hst hok
      obtain ⟨kd, HK1, bk1⟩ := ex_nx L0 4 (by omega)
      obtain ⟨L1, HT1⟩ := ex_tail L0
      obtain ⟨nd, HK2, bk2⟩ := ex_nx L1 (2 + v4) (by omega)
      obtain ⟨L2, HT2⟩ := ex_tail L1
      obtain ⟨dx, HK3, bk3⟩ := ex_nx L2 ds.length hdl1
      obtain ⟨L3, HT3⟩ := ex_tail L2
      have hlt' : (0 : Int) < (v7 : Int) - (i : Int) := by omega
      have HSTEP := Lib.hid hstep
      have hcl2 : cs.length ≤ 6 := by omega
      clear hS hstep hcl
      go_upto_region 45 with fail
      refine wp_goes_on (net_p45 w wr L0 L1 L2 L3 v4 kd nd dx bv4 pr ca K0 vn vl vc Ad cd ns ls ds cs hdl1 hdl2 HK1 bk1 HT1 HK2 HT2 HK3 HT3 hst hok _ _ _ _ _ _ _ _ _ _ _ _ _ _ _ _ _ _ _ _ _ _ _ _ _ _ _ _ _ _ _ _ _ _ _ _ _ _ _ _ _ _ _ _ _ _ _ _ _ _ _ _ _ _ _ _ _ _ _ _ _ _ _ _ _ _ _ _ _ _ _ _ _ _ _ _ _ _ _ _ _ _ _ _ _ _ _ _ _ _ _ _ _ _ _ _ _ _ _ _ _ _ _ _ _ _ _ _ _ _ _ _ _ _ _ _ _ _ _ _ _ _ _ _ _ _ _ _ _ _ _ _ _ _ _ _ _ _ _ _ _ _ _ _ _ _ _ _ _ _ _ _ _ _ _ _ _ _ _ _ _ _ _ _ _ _ _ _ _ _ _ _ _ _ _ _ _ _ _ _ _ _ _ _ _ _ _ _ _ _ _ _ _ _ _ _ _ _ _ _ _ _ _ _ _ _ _ _ _ _ _ _ _ _ _ _ _ _ _ _ _ _ _ _ ?_)
      clear hst hok
      intro b wx
      intros
      rename_i hch
      go_step
      go_step
      refine wp_goes_on (net_p46 w wx L3 v4 kd nd dx b pr ca K0 vn vl _ vc ns ls ds cs bk1 hch _ _ _ _ _ _ _ _ _ _ _ _ _ _ _ _ _ _ _ _ _ _ _ _ _ _ _ _ _ _ _ _ _ _ _ _ _ _ _ _ _ _ _ _ _ _ _ _ _ _ _ _ _ _ _ _ _ _ _ _ _ _ _ _ _ _ _ _ _ _ _ _ _ _ _ _ _ _ _ _ _ _ _ _ _ _ _ _ _ _ _ _ _ _ _ _ _ _ _ _ _ _ _ _ _ _ _ _ _ _ _ _ _ _ _ _ _ _ _ _ _ _ _ _ _ _ _ _ _ _ _ _ _ _ _ _ _ _ _ _ _ _ _ _ _ _ _ _ _ _ _ _ _ _ _ _ _ _ _ _ _ _ _ _ _ _ _ _ _ _ _ _ _ _ _ _ _ _ _ _ _ _ _ _ _ _ _ _ _ _ _ _ _ _ _ _ _ _ _ _ _ _ _ _ _ _ _ _ _ _ _ _ _ _ _ _ _ _ _ _ _ _ _ ?_)
      clear hch
      intro wx
      intros
      rename_i hch
      obtain ⟨li, L4, HG4, hch⟩ := hch
      go_step
      go_step
      refine wp_goes_on (net_p48 w wx L4 v4 kd nd dx b li pr ca K0 vn vl _ vc ns ls ds cs bk1 bv4 hch _ _ _ _ _ _ _ _ _ _ _ _ _ _ _ _ _ _ _ _ _ _ _ _ _ _ _ _ _ _ _ _ _ _ _ _ _ _ _ _ _ _ _ _ _ _ _ _ _ _ _ _ _ _ _ _ _ _ _ _ _ _ _ _ _ _ _ _ _ _ _ _ _ _ _ _ _ _ _ _ _ _ _ _ _ _ _ _ _ _ _ _ _ _ _ _ _ _ _ _ _ _ _ _ _ _ _ _ _ _ _ _ _ _ _ _ _ _ _ _ _ _ _ _ _ _ _ _ _ _ _ _ _ _ _ _ _ _ _ _ _ _ _ _ _ _ _ _ _ _ _ _ _ _ _ _ _ _ _ _ _ _ _ _ _ _ _ _ _ _ _ _ _ _ _ _ _ _ _ _ _ _ _ _ _ _ _ _ _ _ _ _ _ _ _ _ _ _ _ _ _ _ _ _ _ _ _ _ _ _ _ _ _ _ _ _ _ _ _ _ _ _ _ ?_)
      clear hch
      intro wx
      intros
      rename_i hch
      obtain ⟨o, L5, HG5, hch⟩ := hch
      have hd := hstep_is HSTEP bk1 HK1 HT1 HK2 HT2 HK3 HT3 HG4 HG5
      go_step
      refine net_p50 w wx L5 v4 b _ _ _ _ _ pr ca K0 vn vl _ vc ns ls ds cs hcl2 hch _ _ _ _ _ _ _ _ _ _ _ _ _ _ _ _ _ _ _ _ _ _ _ _ _ _ _ _ _ _ _ _ _ _ _ _ _ _ _ _ _ _ _ _ _ _ _ _ _ _ _ _ _ _ _ _ _ _ _ _ _ _ _ _ _ _ _ _ _ _ _ _ _ _ _ _ _ _ _ _ _ _ _ _ _ _ _ _ _ _ _ _ _ _ _ _ _ _ _ _ _ _ _ _ _ _ _ _ _ _ _ _ _ _ _ _ _ _ _ _ _ _ _ _ _ _ _ _ _ _ _ _ _ _ _ _ _ _ _ _ _ _ _ _ _ _ _ _ _ _ _ _ _ _ _ _ _ _ _ _ _ _ _ _ _ _ _ _ _ _ _ _ _ _ _ _ _ _ _ _ _ _ _ _ _ _ _ _ _ _ _ _ _ _ _ _ _ _ _ _ _ _ _ _ _ _ _ _ _ _ _ _ _ _ _ _ _ _ _ _ _ _ _ ?_
      clear hch
      intro wx
      intros
      rename_i hch
      obtain ⟨vc', hst, hok⟩ := hch
      go_wp2_with fail
      go_roundg (v7 - (i + 1))
      case measure => omega
      case rel => exact ⟨i + 1, vc', by omega, by omega, congrArg (Value.int .i64) (by omega), by rw [hd.out]; exact hst, by rw [hd.out]; exact hok⟩
    · as_aux_lemma =>
      obtain rfl : i = v7 := by omega
      have hgt : ¬ (0 : Int) < (i : Int) - (i : Int) := by omega
      repeat (first | exact net_rest14 l w wr _ pr ca K0 vn vl _ vc ns ls ds _ hst HN2 _ _ _ _ _ _ _ _ _ _ _ _ _ _ _ _ _ _ _ _ _ _ _ _ _ _ _ _ _ _ _ _ _ _ _ _ _ _ _ _ _ _ _ _ _ _ _ _ _ _ _ _ _ _ _ _ _ _ _ _ _ _ _ _ _ _ _ _ _ _ _ _ _ _ _ _ _ _ _ _ _ _ _ _ _ _ _ _ _ _ _ _ _ _ _ _ _ _ _ _ _ _ _ _ _ _ _ _ _ _ _ _ _ _ _ _ _ _ _ _ _ _ _ _ _ _ _ _ _ _ _ _ _ _ _ _ _ _ _ _ _ _ _ _ _ _ _ _ _ _ _ _ _ _ _ _ _ _ _ _ _ _ _ _ _ _ _ _ _ _ _ _ _ _ _ _ _ _ _ _ _ _ _ _ _ _ _ _ _ _ _ _ _ _ _ _ _ _ _ _ _ _ _ _ _ _ _ _ _ _ _ _ _ _ _ _ _ _ _ _ _ _ _ _ | go_values | go_skip | go_guarded | go_step | go_upon)
end Go.Proofs.Ytdmilbfdiebjgaa
