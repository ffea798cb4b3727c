/-
  Wild: its end; a network's head changed.
-/
import Derived.Test.YtdmilbfdiebjgaaDoorPlUq
import Derived.Maps.AppendAt
namespace Go.Proofs.YtdmilbfdiebjgaaDoor
open Go.RowKit
set_option linter.unusedVariables false
set_option linter.unusedSimpArgs false

noncomputable def wildC (p : List Bool) : Code := (Tryd.f5.body.map (codeAtP p)).getD .skip
/-- What Wild tells. -/
def WildAs (w : World) (e : Ending) (w' : World) : Prop :=
  ∃ p vn vl vd vc, PFine p ∧ e = .returned (.agg #[.int .i64 p.proto, .int .i64 p.cap, .int .i64 p.k, vn, vl, vd, vc]) ∧ POwn w.heap.size p vn vl vd vc w' ∧ Below w.heap.size w w'
set_option maxHeartbeats 8000000 in
set_option maxRecDepth 100000 in
theorem wild_end {w : World} {sb pb : Nat} {l : List Int} {vn vl vd vc : Value} {wr : World} {pr ca kk : Int} {ns : List PNode} {ls : List PLink} {ds : List PDest} {cs : List PCheck} (hst : NetSt w sb pb l pr ca kk vn vl vd vc ns ls ds cs wr) (hf : PFine ⟨pr, ca, kk, ns, ls, ds, cs⟩)
    (u0 u1 u4 u5 u6 u7 u8 u9 u10 u11 u12 u13 u14 u15 u16 u17 u18 u19 u20 u21 u22 u23 u24 u25 u26 u27 u28 u29 u30 u31 u32 u33 u34 u35 u36 u37 u38 u39 u40 u41 u42 u43 u44 u45 u46 u47 u48 u49 u50 u51 u52 u53 u54 u55 u56 u57 u58 u59 u60 u61 u62 u63 u64 u65 u66 u67 u68 u69 u70 u71 u72 u73 u74 u75 u76 u77 u78 u79 u80 u81 u82 u83 u84 u85 u86 u87 u88 u89 u90 u91 u92 u93 u94 u95 u96 u97 u98 u99 u100 u101 u102 u103 u104 u105 u106 u107 u108 u109 u110 u111 u112 u113 u114 u115 u116 u117 u118 u119 u120 u121 u122 u123 u124 u125 u126 u127 u128 u129 u130 u131 u132 u133 u134 u135 u136 u137 u138 u139 u140 u141 u142 u143 u144 u145 u146 u147 u148 u149 u150 u151 u152 u153 u154 u155 : Value) :
    Code.wp Tryd.prog (wildC [true, true, true, true, true, true, true, true, true]) (bodyPost Tryd.prog Tryd.f5 (WildAs w)) ⟨List.toArray (u0 :: u1 :: .pointer (some ⟨w.heap.size, 0, none⟩) :: .pointer (some ⟨pb, 0, none⟩) :: u4 :: u5 :: u6 :: u7 :: u8 :: u9 :: u10 :: u11 :: u12 :: u13 :: u14 :: u15 :: u16 :: u17 :: u18 :: u19 :: u20 :: u21 :: u22 :: u23 :: u24 :: u25 :: u26 :: u27 :: u28 :: u29 :: u30 :: u31 :: u32 :: u33 :: u34 :: u35 :: u36 :: u37 :: u38 :: u39 :: u40 :: u41 :: u42 :: u43 :: u44 :: u45 :: u46 :: u47 :: u48 :: u49 :: u50 :: u51 :: u52 :: u53 :: u54 :: u55 :: u56 :: u57 :: u58 :: u59 :: u60 :: u61 :: u62 :: u63 :: u64 :: u65 :: u66 :: u67 :: u68 :: u69 :: u70 :: u71 :: u72 :: u73 :: u74 :: u75 :: u76 :: u77 :: u78 :: u79 :: u80 :: u81 :: u82 :: u83 :: u84 :: u85 :: u86 :: u87 :: u88 :: u89 :: u90 :: u91 :: u92 :: u93 :: u94 :: u95 :: u96 :: u97 :: u98 :: u99 :: u100 :: u101 :: u102 :: u103 :: u104 :: u105 :: u106 :: u107 :: u108 :: u109 :: u110 :: u111 :: u112 :: u113 :: u114 :: u115 :: u116 :: u117 :: u118 :: u119 :: u120 :: u121 :: u122 :: u123 :: u124 :: u125 :: u126 :: u127 :: u128 :: u129 :: u130 :: u131 :: u132 :: u133 :: u134 :: u135 :: u136 :: u137 :: u138 :: u139 :: u140 :: u141 :: u142 :: u143 :: u144 :: u145 :: u146 :: u147 :: u148 :: u149 :: u150 :: u151 :: u152 :: u153 :: u154 :: u155 :: []), []⟩ wr := by
  obtain ⟨An, cn, rfl, hcn⟩ := own_form hst.nodes
  obtain ⟨Al, cl, rfl, hcl⟩ := own_form hst.links
  obtain ⟨_, _, ve2, _⟩ := hst.dests
  obtain ⟨Ad, cd, rfl, hcd⟩ := own_form ve2
  obtain ⟨Ac, cc, rfl, hcc⟩ := own_form hst.checks
  obtain ⟨q0, q1, q2, q3, q4, q5, q6⟩ := box7 hst.blk
  have hR := hst.result
  have hth := there_of_blk hst.res
  obtain ⟨W, hW⟩ : ∃ W, wr.setCells w.heap.size 0 [.int .i64 pr, .int .i64 ca, .int .i64 kk, .slice An ns.length cn, .slice Al ls.length cl, .slice Ad ds.length cd, .slice Ac cs.length cc] = W := ⟨_, rfl⟩
  rw [hW] at hR
  have HR := Lib.hid hR
  have HW := Lib.hid hW
  have HTH := Lib.hid hth
  clear hR hW hth hst ve2
  conv => arg 2; whnf
  go_step
  go_step
  go_step
  go_step
  go_step
  refine wpList_store_mid rfl 29 (.tmp 2) (.tmp 155) rfl w.heap.size 0 #[.int .i64 pr, .int .i64 ca, .int .i64 kk, .slice An ns.length cn, .slice Al ls.length cl, .slice Ad ds.length cd, .slice Ac cs.length cc] (by rfl) (by rfl) HTH.out (by kernel_rfl) (by simp [Value.oneCell']) ?_
  rw [HW.out]
  obtain ⟨r0, r1, r2, r3, r4, r5, r6⟩ := box7 HR.out.blk
  clear q0 q1 q2 q3 q4 q5 q6
  go_wp2_with fail
  refine bodyPost_ret (v := .agg #[.int .i64 pr, .int .i64 ca, .int .i64 kk, .slice An ns.length cn, .slice Al ls.length cl, .slice Ad ds.length cd, .slice Ac cs.length cc]) (by simp [results, Tryd.results5, go_sem, r0, r1, r2, r3, r4, r5, r6]) rfl ?_
  exact ⟨_, _, _, _, _, hf, rfl, HR.out.own, HR.out.up⟩
set_option maxHeartbeats 8000000 in
set_option maxRecDepth 100000 in
theorem wild_0 {w : World} {sb pb : Nat} {l : List Int} {vn vl vd vc : Value} {wr : World} {p : PPlan} (hst : NetSt w sb pb l p.proto p.cap p.k vn vl vd vc p.nodes p.links p.dests p.checks wr) (hok : SrcOk l) (hp : NetOk p) (kv : Int) (hkv : kv < 100 ∨ 65535 < kv) (iv : Nat) (hiv : iv < p.nodes.length) (nm : ByteArray) (hnm : nm.size ≤ 13)
    (u0 u1 u9 u10 u11 u12 u13 u14 u15 u16 u17 u18 u19 u20 u21 u22 u23 u24 u25 u26 u27 u28 u29 u30 u31 u32 u33 u34 u35 u36 u37 u38 u39 u40 u41 u42 u43 u44 u45 u46 u47 u48 u49 u50 u51 u52 u53 u54 u55 u56 u57 u58 u59 u60 u61 u62 u63 u64 u65 u66 u67 u68 u69 u70 u71 u72 u73 u74 u75 u76 u77 u78 u79 u80 u81 u82 u83 u84 u85 u86 u87 u88 u89 u90 u91 u92 u93 u94 u95 u96 u97 u98 u99 u100 u101 u102 u103 u104 u105 u106 u107 u108 u109 u110 u111 u112 u113 u114 u115 u116 u117 u118 u119 u120 u121 u122 u123 u124 u125 u126 u127 u128 u129 u130 u131 u132 u133 u134 u135 u136 u137 u138 u139 u140 u141 u142 u143 u144 u145 u146 u147 u148 u149 u150 u151 u152 u153 u154 u155 : Value) :
    Code.wp Tryd.prog (wildC [true, true, true, true, true, true, true, true]) (bodyPost Tryd.prog Tryd.f5 (WildAs w)) ⟨List.toArray (u0 :: u1 :: .pointer (some ⟨w.heap.size, 0, none⟩) :: .pointer (some ⟨pb, 0, none⟩) :: .pointer (some ⟨sb, 0, none⟩) :: .int .i64 0 :: .int .i64 kv :: .int .i64 (iv : Int) :: .string nm :: u9 :: u10 :: u11 :: u12 :: u13 :: u14 :: u15 :: u16 :: u17 :: u18 :: u19 :: u20 :: u21 :: u22 :: u23 :: u24 :: u25 :: u26 :: u27 :: u28 :: u29 :: u30 :: u31 :: u32 :: u33 :: u34 :: u35 :: u36 :: u37 :: u38 :: u39 :: u40 :: u41 :: u42 :: u43 :: u44 :: u45 :: u46 :: u47 :: u48 :: u49 :: u50 :: u51 :: u52 :: u53 :: u54 :: u55 :: u56 :: u57 :: u58 :: u59 :: u60 :: u61 :: u62 :: u63 :: u64 :: u65 :: u66 :: u67 :: u68 :: u69 :: u70 :: u71 :: u72 :: u73 :: u74 :: u75 :: u76 :: u77 :: u78 :: u79 :: u80 :: u81 :: u82 :: u83 :: u84 :: u85 :: u86 :: u87 :: u88 :: u89 :: u90 :: u91 :: u92 :: u93 :: u94 :: u95 :: u96 :: u97 :: u98 :: u99 :: u100 :: u101 :: u102 :: u103 :: u104 :: u105 :: u106 :: u107 :: u108 :: u109 :: u110 :: u111 :: u112 :: u113 :: u114 :: u115 :: u116 :: u117 :: u118 :: u119 :: u120 :: u121 :: u122 :: u123 :: u124 :: u125 :: u126 :: u127 :: u128 :: u129 :: u130 :: u131 :: u132 :: u133 :: u134 :: u135 :: u136 :: u137 :: u138 :: u139 :: u140 :: u141 :: u142 :: u143 :: u144 :: u145 :: u146 :: u147 :: u148 :: u149 :: u150 :: u151 :: u152 :: u153 :: u154 :: u155 :: []), []⟩ wr := by
  obtain ⟨q0, q1, q2, q3, q4, q5, q6⟩ := box7 hst.blk
  have f0 := hst.blk.frozen 0
  have f1 := hst.blk.frozen 1
  have f2 := hst.blk.frozen 2
  have f4 := hst.blk.frozen 4
  have f5 := hst.blk.frozen 5
  have f6 := hst.blk.frozen 6
  have h2 := hst.put 0 (.int .i64 kv) kv p.cap p.k rfl
  conv => arg 2; whnf
  repeat (first | exact wild_end h2 (fine_head hp kv p.cap p.k) _ _ _ _ _ _ _ _ _ _ _ _ _ _ _ _ _ _ _ _ _ _ _ _ _ _ _ _ _ _ _ _ _ _ _ _ _ _ _ _ _ _ _ _ _ _ _ _ _ _ _ _ _ _ _ _ _ _ _ _ _ _ _ _ _ _ _ _ _ _ _ _ _ _ _ _ _ _ _ _ _ _ _ _ _ _ _ _ _ _ _ _ _ _ _ _ _ _ _ _ _ _ _ _ _ _ _ _ _ _ _ _ _ _ _ _ _ _ _ _ _ _ _ _ _ _ _ _ _ _ _ _ _ _ _ _ _ _ _ _ _ _ _ _ _ _ _ _ _ _ _ _ _ _ | go_values | go_skip | go_guarded | go_step | go_upon)
  done
set_option maxHeartbeats 8000000 in
set_option maxRecDepth 100000 in
theorem wild_1 {w : World} {sb pb : Nat} {l : List Int} {vn vl vd vc : Value} {wr : World} {p : PPlan} (hst : NetSt w sb pb l p.proto p.cap p.k vn vl vd vc p.nodes p.links p.dests p.checks wr) (hok : SrcOk l) (hp : NetOk p) (kv : Int) (hkv : kv < 100 ∨ 65535 < kv) (iv : Nat) (hiv : iv < p.nodes.length) (nm : ByteArray) (hnm : nm.size ≤ 13)
    (u0 u1 u9 u10 u11 u12 u13 u14 u15 u16 u17 u18 u19 u20 u21 u22 u23 u24 u25 u26 u27 u28 u29 u30 u31 u32 u33 u34 u35 u36 u37 u38 u39 u40 u41 u42 u43 u44 u45 u46 u47 u48 u49 u50 u51 u52 u53 u54 u55 u56 u57 u58 u59 u60 u61 u62 u63 u64 u65 u66 u67 u68 u69 u70 u71 u72 u73 u74 u75 u76 u77 u78 u79 u80 u81 u82 u83 u84 u85 u86 u87 u88 u89 u90 u91 u92 u93 u94 u95 u96 u97 u98 u99 u100 u101 u102 u103 u104 u105 u106 u107 u108 u109 u110 u111 u112 u113 u114 u115 u116 u117 u118 u119 u120 u121 u122 u123 u124 u125 u126 u127 u128 u129 u130 u131 u132 u133 u134 u135 u136 u137 u138 u139 u140 u141 u142 u143 u144 u145 u146 u147 u148 u149 u150 u151 u152 u153 u154 u155 : Value) :
    Code.wp Tryd.prog (wildC [true, true, true, true, true, true, true, true]) (bodyPost Tryd.prog Tryd.f5 (WildAs w)) ⟨List.toArray (u0 :: u1 :: .pointer (some ⟨w.heap.size, 0, none⟩) :: .pointer (some ⟨pb, 0, none⟩) :: .pointer (some ⟨sb, 0, none⟩) :: .int .i64 1 :: .int .i64 kv :: .int .i64 (iv : Int) :: .string nm :: u9 :: u10 :: u11 :: u12 :: u13 :: u14 :: u15 :: u16 :: u17 :: u18 :: u19 :: u20 :: u21 :: u22 :: u23 :: u24 :: u25 :: u26 :: u27 :: u28 :: u29 :: u30 :: u31 :: u32 :: u33 :: u34 :: u35 :: u36 :: u37 :: u38 :: u39 :: u40 :: u41 :: u42 :: u43 :: u44 :: u45 :: u46 :: u47 :: u48 :: u49 :: u50 :: u51 :: u52 :: u53 :: u54 :: u55 :: u56 :: u57 :: u58 :: u59 :: u60 :: u61 :: u62 :: u63 :: u64 :: u65 :: u66 :: u67 :: u68 :: u69 :: u70 :: u71 :: u72 :: u73 :: u74 :: u75 :: u76 :: u77 :: u78 :: u79 :: u80 :: u81 :: u82 :: u83 :: u84 :: u85 :: u86 :: u87 :: u88 :: u89 :: u90 :: u91 :: u92 :: u93 :: u94 :: u95 :: u96 :: u97 :: u98 :: u99 :: u100 :: u101 :: u102 :: u103 :: u104 :: u105 :: u106 :: u107 :: u108 :: u109 :: u110 :: u111 :: u112 :: u113 :: u114 :: u115 :: u116 :: u117 :: u118 :: u119 :: u120 :: u121 :: u122 :: u123 :: u124 :: u125 :: u126 :: u127 :: u128 :: u129 :: u130 :: u131 :: u132 :: u133 :: u134 :: u135 :: u136 :: u137 :: u138 :: u139 :: u140 :: u141 :: u142 :: u143 :: u144 :: u145 :: u146 :: u147 :: u148 :: u149 :: u150 :: u151 :: u152 :: u153 :: u154 :: u155 :: []), []⟩ wr := by
  obtain ⟨q0, q1, q2, q3, q4, q5, q6⟩ := box7 hst.blk
  have f0 := hst.blk.frozen 0
  have f1 := hst.blk.frozen 1
  have f2 := hst.blk.frozen 2
  have f4 := hst.blk.frozen 4
  have f5 := hst.blk.frozen 5
  have f6 := hst.blk.frozen 6
  have h2 := hst.put 1 (.int .i64 kv) p.proto kv p.k rfl
  conv => arg 2; whnf
  repeat (first | exact wild_end h2 (fine_head hp p.proto kv p.k) _ _ _ _ _ _ _ _ _ _ _ _ _ _ _ _ _ _ _ _ _ _ _ _ _ _ _ _ _ _ _ _ _ _ _ _ _ _ _ _ _ _ _ _ _ _ _ _ _ _ _ _ _ _ _ _ _ _ _ _ _ _ _ _ _ _ _ _ _ _ _ _ _ _ _ _ _ _ _ _ _ _ _ _ _ _ _ _ _ _ _ _ _ _ _ _ _ _ _ _ _ _ _ _ _ _ _ _ _ _ _ _ _ _ _ _ _ _ _ _ _ _ _ _ _ _ _ _ _ _ _ _ _ _ _ _ _ _ _ _ _ _ _ _ _ _ _ _ _ _ _ _ _ _ | go_values | go_skip | go_guarded | go_step | go_upon)
  done
set_option maxHeartbeats 8000000 in
set_option maxRecDepth 100000 in
theorem wild_2 {w : World} {sb pb : Nat} {l : List Int} {vn vl vd vc : Value} {wr : World} {p : PPlan} (hst : NetSt w sb pb l p.proto p.cap p.k vn vl vd vc p.nodes p.links p.dests p.checks wr) (hok : SrcOk l) (hp : NetOk p) (kv : Int) (hkv : kv < 100 ∨ 65535 < kv) (iv : Nat) (hiv : iv < p.nodes.length) (nm : ByteArray) (hnm : nm.size ≤ 13)
    (u0 u1 u9 u10 u11 u12 u13 u14 u15 u16 u17 u18 u19 u20 u21 u22 u23 u24 u25 u26 u27 u28 u29 u30 u31 u32 u33 u34 u35 u36 u37 u38 u39 u40 u41 u42 u43 u44 u45 u46 u47 u48 u49 u50 u51 u52 u53 u54 u55 u56 u57 u58 u59 u60 u61 u62 u63 u64 u65 u66 u67 u68 u69 u70 u71 u72 u73 u74 u75 u76 u77 u78 u79 u80 u81 u82 u83 u84 u85 u86 u87 u88 u89 u90 u91 u92 u93 u94 u95 u96 u97 u98 u99 u100 u101 u102 u103 u104 u105 u106 u107 u108 u109 u110 u111 u112 u113 u114 u115 u116 u117 u118 u119 u120 u121 u122 u123 u124 u125 u126 u127 u128 u129 u130 u131 u132 u133 u134 u135 u136 u137 u138 u139 u140 u141 u142 u143 u144 u145 u146 u147 u148 u149 u150 u151 u152 u153 u154 u155 : Value) :
    Code.wp Tryd.prog (wildC [true, true, true, true, true, true, true, true]) (bodyPost Tryd.prog Tryd.f5 (WildAs w)) ⟨List.toArray (u0 :: u1 :: .pointer (some ⟨w.heap.size, 0, none⟩) :: .pointer (some ⟨pb, 0, none⟩) :: .pointer (some ⟨sb, 0, none⟩) :: .int .i64 2 :: .int .i64 kv :: .int .i64 (iv : Int) :: .string nm :: u9 :: u10 :: u11 :: u12 :: u13 :: u14 :: u15 :: u16 :: u17 :: u18 :: u19 :: u20 :: u21 :: u22 :: u23 :: u24 :: u25 :: u26 :: u27 :: u28 :: u29 :: u30 :: u31 :: u32 :: u33 :: u34 :: u35 :: u36 :: u37 :: u38 :: u39 :: u40 :: u41 :: u42 :: u43 :: u44 :: u45 :: u46 :: u47 :: u48 :: u49 :: u50 :: u51 :: u52 :: u53 :: u54 :: u55 :: u56 :: u57 :: u58 :: u59 :: u60 :: u61 :: u62 :: u63 :: u64 :: u65 :: u66 :: u67 :: u68 :: u69 :: u70 :: u71 :: u72 :: u73 :: u74 :: u75 :: u76 :: u77 :: u78 :: u79 :: u80 :: u81 :: u82 :: u83 :: u84 :: u85 :: u86 :: u87 :: u88 :: u89 :: u90 :: u91 :: u92 :: u93 :: u94 :: u95 :: u96 :: u97 :: u98 :: u99 :: u100 :: u101 :: u102 :: u103 :: u104 :: u105 :: u106 :: u107 :: u108 :: u109 :: u110 :: u111 :: u112 :: u113 :: u114 :: u115 :: u116 :: u117 :: u118 :: u119 :: u120 :: u121 :: u122 :: u123 :: u124 :: u125 :: u126 :: u127 :: u128 :: u129 :: u130 :: u131 :: u132 :: u133 :: u134 :: u135 :: u136 :: u137 :: u138 :: u139 :: u140 :: u141 :: u142 :: u143 :: u144 :: u145 :: u146 :: u147 :: u148 :: u149 :: u150 :: u151 :: u152 :: u153 :: u154 :: u155 :: []), []⟩ wr := by
  obtain ⟨q0, q1, q2, q3, q4, q5, q6⟩ := box7 hst.blk
  have f0 := hst.blk.frozen 0
  have f1 := hst.blk.frozen 1
  have f2 := hst.blk.frozen 2
  have f4 := hst.blk.frozen 4
  have f5 := hst.blk.frozen 5
  have f6 := hst.blk.frozen 6
  have h2 := hst.put 2 (.int .i64 kv) p.proto p.cap kv rfl
  conv => arg 2; whnf
  repeat (first | exact wild_end h2 (fine_head hp p.proto p.cap kv) _ _ _ _ _ _ _ _ _ _ _ _ _ _ _ _ _ _ _ _ _ _ _ _ _ _ _ _ _ _ _ _ _ _ _ _ _ _ _ _ _ _ _ _ _ _ _ _ _ _ _ _ _ _ _ _ _ _ _ _ _ _ _ _ _ _ _ _ _ _ _ _ _ _ _ _ _ _ _ _ _ _ _ _ _ _ _ _ _ _ _ _ _ _ _ _ _ _ _ _ _ _ _ _ _ _ _ _ _ _ _ _ _ _ _ _ _ _ _ _ _ _ _ _ _ _ _ _ _ _ _ _ _ _ _ _ _ _ _ _ _ _ _ _ _ _ _ _ _ _ _ _ _ _ | go_values | go_skip | go_guarded | go_step | go_upon)
  done
set_option maxHeartbeats 8000000 in
set_option maxRecDepth 100000 in
theorem wild_13 {w : World} {sb pb : Nat} {l : List Int} {vn vl vd vc : Value} {wr : World} {p : PPlan} (hst : NetSt w sb pb l p.proto p.cap p.k vn vl vd vc p.nodes p.links p.dests p.checks wr) (hok : SrcOk l) (hp : NetOk p) (kv : Int) (hkv : kv < 100 ∨ 65535 < kv) (iv : Nat) (hiv : iv < p.nodes.length) (nm : ByteArray) (hnm : nm.size ≤ 13)
    (u0 u1 u9 u10 u11 u12 u13 u14 u15 u16 u17 u18 u19 u20 u21 u22 u23 u24 u25 u26 u27 u28 u29 u30 u31 u32 u33 u34 u35 u36 u37 u38 u39 u40 u41 u42 u43 u44 u45 u46 u47 u48 u49 u50 u51 u52 u53 u54 u55 u56 u57 u58 u59 u60 u61 u62 u63 u64 u65 u66 u67 u68 u69 u70 u71 u72 u73 u74 u75 u76 u77 u78 u79 u80 u81 u82 u83 u84 u85 u86 u87 u88 u89 u90 u91 u92 u93 u94 u95 u96 u97 u98 u99 u100 u101 u102 u103 u104 u105 u106 u107 u108 u109 u110 u111 u112 u113 u114 u115 u116 u117 u118 u119 u120 u121 u122 u123 u124 u125 u126 u127 u128 u129 u130 u131 u132 u133 u134 u135 u136 u137 u138 u139 u140 u141 u142 u143 u144 u145 u146 u147 u148 u149 u150 u151 u152 u153 u154 u155 : Value) :
    Code.wp Tryd.prog (wildC [true, true, true, true, true, true, true, true]) (bodyPost Tryd.prog Tryd.f5 (WildAs w)) ⟨List.toArray (u0 :: u1 :: .pointer (some ⟨w.heap.size, 0, none⟩) :: .pointer (some ⟨pb, 0, none⟩) :: .pointer (some ⟨sb, 0, none⟩) :: .int .i64 13 :: .int .i64 kv :: .int .i64 (iv : Int) :: .string nm :: u9 :: u10 :: u11 :: u12 :: u13 :: u14 :: u15 :: u16 :: u17 :: u18 :: u19 :: u20 :: u21 :: u22 :: u23 :: u24 :: u25 :: u26 :: u27 :: u28 :: u29 :: u30 :: u31 :: u32 :: u33 :: u34 :: u35 :: u36 :: u37 :: u38 :: u39 :: u40 :: u41 :: u42 :: u43 :: u44 :: u45 :: u46 :: u47 :: u48 :: u49 :: u50 :: u51 :: u52 :: u53 :: u54 :: u55 :: u56 :: u57 :: u58 :: u59 :: u60 :: u61 :: u62 :: u63 :: u64 :: u65 :: u66 :: u67 :: u68 :: u69 :: u70 :: u71 :: u72 :: u73 :: u74 :: u75 :: u76 :: u77 :: u78 :: u79 :: u80 :: u81 :: u82 :: u83 :: u84 :: u85 :: u86 :: u87 :: u88 :: u89 :: u90 :: u91 :: u92 :: u93 :: u94 :: u95 :: u96 :: u97 :: u98 :: u99 :: u100 :: u101 :: u102 :: u103 :: u104 :: u105 :: u106 :: u107 :: u108 :: u109 :: u110 :: u111 :: u112 :: u113 :: u114 :: u115 :: u116 :: u117 :: u118 :: u119 :: u120 :: u121 :: u122 :: u123 :: u124 :: u125 :: u126 :: u127 :: u128 :: u129 :: u130 :: u131 :: u132 :: u133 :: u134 :: u135 :: u136 :: u137 :: u138 :: u139 :: u140 :: u141 :: u142 :: u143 :: u144 :: u145 :: u146 :: u147 :: u148 :: u149 :: u150 :: u151 :: u152 :: u153 :: u154 :: u155 :: []), []⟩ wr := by
  obtain ⟨q0, q1, q2, q3, q4, q5, q6⟩ := box7 hst.blk
  have f0 := hst.blk.frozen 0
  have f1 := hst.blk.frozen 1
  have f2 := hst.blk.frozen 2
  have f4 := hst.blk.frozen 4
  have f5 := hst.blk.frozen 5
  have f6 := hst.blk.frozen 6
  conv => arg 2; whnf
  repeat (first | exact wild_end hst hp.fine _ _ _ _ _ _ _ _ _ _ _ _ _ _ _ _ _ _ _ _ _ _ _ _ _ _ _ _ _ _ _ _ _ _ _ _ _ _ _ _ _ _ _ _ _ _ _ _ _ _ _ _ _ _ _ _ _ _ _ _ _ _ _ _ _ _ _ _ _ _ _ _ _ _ _ _ _ _ _ _ _ _ _ _ _ _ _ _ _ _ _ _ _ _ _ _ _ _ _ _ _ _ _ _ _ _ _ _ _ _ _ _ _ _ _ _ _ _ _ _ _ _ _ _ _ _ _ _ _ _ _ _ _ _ _ _ _ _ _ _ _ _ _ _ _ _ _ _ _ _ _ _ _ _ | go_values | go_skip | go_guarded | go_step | go_upon)
  done
end Go.Proofs.YtdmilbfdiebjgaaDoor
