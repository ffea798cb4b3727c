/-
  The law's Net, its last piece: the network is handed out.
-/
import Derived.Test.YtlfapmfhdagikaaDoorPlY
namespace Go.Proofs.YtlfapmfhdagikaaDoor
open Go.RowKit
set_option linter.unusedVariables false

/-- The piece of a text at a place. -/
def codeAt : List Bool → Code → Code
  | [], c => c
  | false :: p, .seq a _ => codeAt p a
  | true :: p, .seq _ b => codeAt p b
  | false :: p, .cond _ a _ => codeAt p a
  | true :: p, .cond _ _ b => codeAt p b
  | _ :: p, .block _ a => codeAt p a
  | _ :: p, .loop a => codeAt p a
  | _ :: p, .scope a => codeAt p a
  | _, _ => .skip
/-- A piece that ends in no other way than by going on. -/
def NoExit : Exit → Act → World → Prop := fun _ _ _ => False
theorem wp_goes_on {P : Program} {c : Code} {K : Act → World → Prop} {Q : Exit → Act → World → Prop} {a : Act} {w : World} (h : c.wp P (Exit.then K NoExit) a w) : c.wp P (Exit.then K Q) a w := by
  refine wp_mono h fun e a' w' q => ?_
  cases e with
  | normal => exact q
  | _ => exact q.elim
noncomputable def netC (p : List Bool) : Code := (Tryd.f13.body.map (codeAt p)).getD .skip

set_option maxHeartbeats 4000000 in
set_option maxRecDepth 100000 in
theorem net_rest14 (l : List Int) (w wr : World) (L : List Int) (pr ca K : Int) (vn vl vd vc : Value) (ns : List PNode) (ls : List PLink) (ds : List PDest) (cs : List PCheck)
    (hst : NetSt w (w.heap.size + 1) (w.heap.size + 1 + 1) L pr ca K vn vl vd vc ns ls ds cs wr) (HN : Hid (netOf l = ⟨pr, ca, K, ns, ls, ds, cs⟩))
    (u0 u1 u5 u6 u7 u8 u9 u10 u11 u12 u13 u14 u15 u16 u17 u18 u19 u20 u21 u22 u23 u24 u25 u26 u27 u28 u29 u30 u31 u32 u33 u34 u35 u36 u37 u38 u39 u40 u41 u42 u43 u44 u45 u46 u47 u48 u49 u50 u51 u52 u53 u54 u55 u56 u57 u58 u59 u60 u61 u62 u63 u64 u65 u66 u67 u68 u69 u70 u71 u72 u73 u74 u75 u76 u77 u78 u79 u80 u81 u82 u83 u84 u85 u86 u87 u88 u89 u90 u91 u92 u93 u94 u95 u96 u97 u98 u99 u100 u101 u102 u103 u104 u105 u106 u107 u108 u109 u110 u111 u112 u113 u114 u115 u116 u117 u118 u119 u120 u121 u122 u123 u124 u125 u126 u127 u128 u129 u130 u131 u132 u133 u134 u135 u136 u137 u138 u139 u140 u141 u142 u143 u144 u145 u146 u147 u148 u149 u150 u151 u152 u153 u154 u155 u156 u157 u158 u159 u160 u161 u162 u163 u164 u165 u166 u167 u168 u169 u170 u171 u172 u173 u174 u175 u176 u177 u178 u179 u180 u181 u182 u183 u184 u185 u186 u187 u188 u189 u190 u191 u192 u193 u194 u195 u196 u197 u198 u199 u200 u201 u202 u203 u204 u205 u206 u207 u208 u209 u210 u211 u212 u213 u214 u215 u216 u217 u218 u219 u220 u221 u222 u223 u224 u225 u226 : Value) :
    Code.wp Tryd.prog (netC [true, true, true, true, true, true, true, true, true, true, true, true, true, true]) (bodyPost Tryd.prog Tryd.f13 (NetAs (netOf l) w)) ⟨List.toArray (u0 :: u1 :: .pointer (some ⟨w.heap.size, 0, none⟩) :: .pointer (some ⟨w.heap.size + 1, 0, none⟩) :: .pointer (some ⟨w.heap.size + 1 + 1, 0, none⟩) :: u5 :: u6 :: u7 :: u8 :: u9 :: u10 :: u11 :: u12 :: u13 :: u14 :: u15 :: u16 :: u17 :: u18 :: u19 :: u20 :: u21 :: u22 :: u23 :: u24 :: u25 :: u26 :: u27 :: u28 :: u29 :: u30 :: u31 :: u32 :: u33 :: u34 :: u35 :: u36 :: u37 :: u38 :: u39 :: u40 :: u41 :: u42 :: u43 :: u44 :: u45 :: u46 :: u47 :: u48 :: u49 :: u50 :: u51 :: u52 :: u53 :: u54 :: u55 :: u56 :: u57 :: u58 :: u59 :: u60 :: u61 :: u62 :: u63 :: u64 :: u65 :: u66 :: u67 :: u68 :: u69 :: u70 :: u71 :: u72 :: u73 :: u74 :: u75 :: u76 :: u77 :: u78 :: u79 :: u80 :: u81 :: u82 :: u83 :: u84 :: u85 :: u86 :: u87 :: u88 :: u89 :: u90 :: u91 :: u92 :: u93 :: u94 :: u95 :: u96 :: u97 :: u98 :: u99 :: u100 :: u101 :: u102 :: u103 :: u104 :: u105 :: u106 :: u107 :: u108 :: u109 :: u110 :: u111 :: u112 :: u113 :: u114 :: u115 :: u116 :: u117 :: u118 :: u119 :: u120 :: u121 :: u122 :: u123 :: u124 :: u125 :: u126 :: u127 :: u128 :: u129 :: u130 :: u131 :: u132 :: u133 :: u134 :: u135 :: u136 :: u137 :: u138 :: u139 :: u140 :: u141 :: u142 :: u143 :: u144 :: u145 :: u146 :: u147 :: u148 :: u149 :: u150 :: u151 :: u152 :: u153 :: u154 :: u155 :: u156 :: u157 :: u158 :: u159 :: u160 :: u161 :: u162 :: u163 :: u164 :: u165 :: u166 :: u167 :: u168 :: u169 :: u170 :: u171 :: u172 :: u173 :: u174 :: u175 :: u176 :: u177 :: u178 :: u179 :: u180 :: u181 :: u182 :: u183 :: u184 :: u185 :: u186 :: u187 :: u188 :: u189 :: u190 :: u191 :: u192 :: u193 :: u194 :: u195 :: u196 :: u197 :: u198 :: u199 :: u200 :: u201 :: u202 :: u203 :: u204 :: u205 :: u206 :: u207 :: u208 :: u209 :: u210 :: u211 :: u212 :: u213 :: u214 :: u215 :: u216 :: u217 :: u218 :: u219 :: u220 :: u221 :: u222 :: u223 :: u224 :: u225 :: u226 :: []), []⟩ wr := by
  obtain ⟨An, cn, rfl, hcn⟩ := own_form hst.nodes
  obtain ⟨Al, cl, rfl, hcl⟩ := own_form hst.links
  obtain ⟨_, _, ve2, _⟩ := hst.dests
  obtain ⟨Ad, cd, rfl, hcd⟩ := own_form ve2
  obtain ⟨Ac, cc, rfl, hcc⟩ := own_form hst.checks
  have q0 := hst.blk.cell 0
  have q1 := hst.blk.cell 1
  have q2 := hst.blk.cell 2
  have q3 := hst.blk.cell 3
  have q4 := hst.blk.cell 4
  have q5 := hst.blk.cell 5
  have q6 := hst.blk.cell 6
  have hR := hst.result
  have hth := there_of_blk hst.res
  obtain ⟨W, hW⟩ : ∃ W, wr.setCells w.heap.size 0 [.int .i64 pr, .int .i64 ca, .int .i64 K, .slice An ns.length cn, .slice Al ls.length cl, .slice Ad ds.length cd, .slice Ac cs.length cc] = W := ⟨_, rfl⟩
  rw [hW] at hR
  have HR := Lib.hid hR
  have HW := Lib.hid hW
  have HTH := Lib.hid hth
  clear hR hW hth hst ve2
  conv => arg 2; whnf
  go_step
  go_step
  go_step
  go_step
  go_step
  refine wpList_store_mid rfl 29 (.tmp 2) (.tmp 226) rfl w.heap.size 0 #[.int .i64 pr, .int .i64 ca, .int .i64 K, .slice An ns.length cn, .slice Al ls.length cl, .slice Ad ds.length cd, .slice Ac cs.length cc] (by rfl) (by rfl) HTH.out (by kernel_rfl) (by simp [Value.oneCell']) ?_
  rw [HW.out]
  have r0 := HR.out.blk.cell 0
  have r1 := HR.out.blk.cell 1
  have r2 := HR.out.blk.cell 2
  have r3 := HR.out.blk.cell 3
  have r4 := HR.out.blk.cell 4
  have r5 := HR.out.blk.cell 5
  have r6 := HR.out.blk.cell 6
  clear q0 q1 q2 q3 q4 q5 q6
  go_wp2_with fail
  refine bodyPost_ret (v := .agg #[.int .i64 pr, .int .i64 ca, .int .i64 K, .slice An ns.length cn, .slice Al ls.length cl, .slice Ad ds.length cd, .slice Ac cs.length cc]) (by simp [results, Tryd.results13, go_sem, r0, r1, r2, r3, r4, r5, r6]) rfl ?_
  rw [HN.out]
  exact ⟨_, _, _, _, rfl, HR.out.own, HR.out.up⟩
end Go.Proofs.YtlfapmfhdagikaaDoor
