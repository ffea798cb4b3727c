/-
  Wild: a check with two numbers drawn.
-/
import Derived.Test.YtlfdpfkimggeoaaPlXa
import Derived.Maps.AppendAt
namespace Go.Proofs.Ytlfdpfkimggeoaa
open Go.RowKit
set_option linter.unusedVariables false
set_option linter.unusedSimpArgs false

theorem NetSt.nodesIn {w0 : World} {sb pb : Nat} {l : List Int} {vl vd vc : Value} {w : World} {p : PPlan} {gn ln cn : Nat} {xs : List PNode} {j : Nat} {u : Value} (h : NetSt w0 sb pb l p.proto p.cap p.k (.slice (some ⟨gn, 0, none⟩) ln cn) vl vd vc p.nodes p.links p.dests p.checks w)
    (hh : HSt w0 pb { p with nodes := xs } (.slice (some ⟨gn, 0, none⟩) ln cn) vl vd vc (w.setCell ⟨gn, j, none⟩ u)) : NetSt w0 sb pb l p.proto p.cap p.k (.slice (some ⟨gn, 0, none⟩) ln cn) vl vd vc xs p.links p.dests p.checks (w.setCell ⟨gn, j, none⟩ u) := by
  have hlo := (h.nodes.lt gn rfl).1
  obtain ⟨A, c, s1, s2, s3⟩ := h.src
  have n1 : sb ≠ gn := fun e => own_blk_ne h.nodes s1 (by decide) (by rw [e]; rfl)
  have n2 : w0.heap.size ≠ gn := fun e => own_blk_ne h.nodes h.res (by decide) (by rw [e]; rfl)
  exact ⟨hh.below, SrcAt.setFar ⟨A, c, s1, s2, s3⟩ (p := ⟨gn, j, none⟩) n1 hlo _, hh.blk, hh.own.nodes, hh.own.links, hh.own.dests, hh.own.checks, h.sb, h.pb', h.res.far (p := ⟨gn, j, none⟩) n2 _⟩
theorem NetSt.hst {w0 : World} {sb pb : Nat} {l : List Int} {vn vl vd vc : Value} {w : World} {p : PPlan} (h : NetSt w0 sb pb l p.proto p.cap p.k vn vl vd vc p.nodes p.links p.dests p.checks w) : HSt w0 pb p vn vl vd vc w :=
  ⟨⟨h.nodes, h.links, h.dests, h.checks⟩, h.blk, h.pb, h.below⟩
theorem own_frozenW {w : World} {base gn ln cn : Nat} {e : TypeId} {size n : Nat} {xs : List Value} (h : w.ownsRow base e size (.slice (some ⟨gn, 0, none⟩) ln cn) n xs) (i : Nat) : w.frozen? ⟨gn, i, none⟩ = false := by
  rcases h.2 with ⟨hv, _⟩ | ⟨g, cap, cur, hv, _, hb, _⟩
  · cases hv
  · injection hv with hv _ _
    injection hv with hv
    injection hv with hv
    subst hv
    exact Blk.frozen hb i
set_option maxHeartbeats 8000000 in
set_option maxRecDepth 100000 in
theorem wild_3 {w : World} {sb pb : Nat} {l : List Int} {vn vl vd vc : Value} {wr : World} {p : PPlan} (hst : NetSt w sb pb l p.proto p.cap p.k vn vl vd vc p.nodes p.links p.dests p.checks wr) (hok : SrcOk l) (hp : NetOk p) (kv : Int) (hkv : kv < 100 ∨ 65535 < kv) (iv : Nat) (hiv : iv < p.nodes.length) (nm : ByteArray) (hnm : nm.size ≤ 13)
    (u0 u1 u9 u10 u11 u12 u13 u14 u15 u16 u17 u18 u19 u20 u21 u22 u23 u24 u25 u26 u27 u28 u29 u30 u31 u32 u33 u34 u35 u36 u37 u38 u39 u40 u41 u42 u43 u44 u45 u46 u47 u48 u49 u50 u51 u52 u53 u54 u55 u56 u57 u58 u59 u60 u61 u62 u63 u64 u65 u66 u67 u68 u69 u70 u71 u72 u73 u74 u75 u76 u77 u78 u79 u80 u81 u82 u83 u84 u85 u86 u87 u88 u89 u90 u91 u92 u93 u94 u95 u96 u97 u98 u99 u100 u101 u102 u103 u104 u105 u106 u107 u108 u109 u110 u111 u112 u113 u114 u115 u116 u117 u118 u119 u120 u121 u122 u123 u124 u125 u126 u127 u128 u129 u130 u131 u132 u133 u134 u135 u136 u137 u138 u139 u140 u141 u142 u143 u144 u145 u146 u147 u148 u149 u150 u151 u152 u153 u154 u155 : Value) :
    Code.wp Try.prog (wildC [true, true, true, true, true, true, true, true]) (bodyPost Try.prog Try.f8 (WildAs w)) ⟨List.toArray (u0 :: u1 :: .pointer (some ⟨w.heap.size, 0, none⟩) :: .pointer (some ⟨pb, 0, none⟩) :: .pointer (some ⟨sb, 0, none⟩) :: .int .i64 3 :: .int .i64 kv :: .int .i64 (iv : Int) :: .string nm :: u9 :: u10 :: u11 :: u12 :: u13 :: u14 :: u15 :: u16 :: u17 :: u18 :: u19 :: u20 :: u21 :: u22 :: u23 :: u24 :: u25 :: u26 :: u27 :: u28 :: u29 :: u30 :: u31 :: u32 :: u33 :: u34 :: u35 :: u36 :: u37 :: u38 :: u39 :: u40 :: u41 :: u42 :: u43 :: u44 :: u45 :: u46 :: u47 :: u48 :: u49 :: u50 :: u51 :: u52 :: u53 :: u54 :: u55 :: u56 :: u57 :: u58 :: u59 :: u60 :: u61 :: u62 :: u63 :: u64 :: u65 :: u66 :: u67 :: u68 :: u69 :: u70 :: u71 :: u72 :: u73 :: u74 :: u75 :: u76 :: u77 :: u78 :: u79 :: u80 :: u81 :: u82 :: u83 :: u84 :: u85 :: u86 :: u87 :: u88 :: u89 :: u90 :: u91 :: u92 :: u93 :: u94 :: u95 :: u96 :: u97 :: u98 :: u99 :: u100 :: u101 :: u102 :: u103 :: u104 :: u105 :: u106 :: u107 :: u108 :: u109 :: u110 :: u111 :: u112 :: u113 :: u114 :: u115 :: u116 :: u117 :: u118 :: u119 :: u120 :: u121 :: u122 :: u123 :: u124 :: u125 :: u126 :: u127 :: u128 :: u129 :: u130 :: u131 :: u132 :: u133 :: u134 :: u135 :: u136 :: u137 :: u138 :: u139 :: u140 :: u141 :: u142 :: u143 :: u144 :: u145 :: u146 :: u147 :: u148 :: u149 :: u150 :: u151 :: u152 :: u153 :: u154 :: u155 :: []), []⟩ wr := by
  obtain ⟨q0, q1, q2, q3, q4, q5, q6⟩ := box7 hst.blk
  have f0 := hst.blk.frozen 0
  have f1 := hst.blk.frozen 1
  have f2 := hst.blk.frozen 2
  have f4 := hst.blk.frozen 4
  have f5 := hst.blk.frozen 5
  have f6 := hst.blk.frozen 6
  obtain ⟨x, hx⟩ : ∃ x, p.nodes[iv]? = some x := ⟨_, List.getElem?_eq_getElem hiv⟩
  obtain ⟨An, cn, rfl, hcn⟩ := own_form hst.nodes
  obtain ⟨gn, rfl, hgn, c0, c1⟩ := (RowAt.of_own hst.nodes).node hx
  have hN := hst.nodesIn (hst.hst.nodeNum hx kv)
  have e1 := own_frozenW hst.nodes
  have k0 : (0 : Int) ≤ (iv : Int) := by omega
  have k1 : (iv : Int) < (p.nodes.length : Int) := by omega
  conv => arg 2; whnf
  repeat (first | exact wild_end hN (fine_node hp iv x.name kv (hp.small.nodes x (List.mem_of_getElem? hx)) hkv) _ _ _ _ _ _ _ _ _ _ _ _ _ _ _ _ _ _ _ _ _ _ _ _ _ _ _ _ _ _ _ _ _ _ _ _ _ _ _ _ _ _ _ _ _ _ _ _ _ _ _ _ _ _ _ _ _ _ _ _ _ _ _ _ _ _ _ _ _ _ _ _ _ _ _ _ _ _ _ _ _ _ _ _ _ _ _ _ _ _ _ _ _ _ _ _ _ _ _ _ _ _ _ _ _ _ _ _ _ _ _ _ _ _ _ _ _ _ _ _ _ _ _ _ _ _ _ _ _ _ _ _ _ _ _ _ _ _ _ _ _ _ _ _ _ _ _ _ _ _ _ _ _ _ | go_values | go_skip | go_guarded | go_step | go_upon)
  done
set_option maxHeartbeats 8000000 in
set_option maxRecDepth 100000 in
theorem wild_4 {w : World} {sb pb : Nat} {l : List Int} {vn vl vd vc : Value} {wr : World} {p : PPlan} (hst : NetSt w sb pb l p.proto p.cap p.k vn vl vd vc p.nodes p.links p.dests p.checks wr) (hok : SrcOk l) (hp : NetOk p) (kv : Int) (hkv : kv < 100 ∨ 65535 < kv) (iv : Nat) (hiv : iv < p.nodes.length) (nm : ByteArray) (hnm : nm.size ≤ 13)
    (u0 u1 u9 u10 u11 u12 u13 u14 u15 u16 u17 u18 u19 u20 u21 u22 u23 u24 u25 u26 u27 u28 u29 u30 u31 u32 u33 u34 u35 u36 u37 u38 u39 u40 u41 u42 u43 u44 u45 u46 u47 u48 u49 u50 u51 u52 u53 u54 u55 u56 u57 u58 u59 u60 u61 u62 u63 u64 u65 u66 u67 u68 u69 u70 u71 u72 u73 u74 u75 u76 u77 u78 u79 u80 u81 u82 u83 u84 u85 u86 u87 u88 u89 u90 u91 u92 u93 u94 u95 u96 u97 u98 u99 u100 u101 u102 u103 u104 u105 u106 u107 u108 u109 u110 u111 u112 u113 u114 u115 u116 u117 u118 u119 u120 u121 u122 u123 u124 u125 u126 u127 u128 u129 u130 u131 u132 u133 u134 u135 u136 u137 u138 u139 u140 u141 u142 u143 u144 u145 u146 u147 u148 u149 u150 u151 u152 u153 u154 u155 : Value) :
    Code.wp Try.prog (wildC [true, true, true, true, true, true, true, true]) (bodyPost Try.prog Try.f8 (WildAs w)) ⟨List.toArray (u0 :: u1 :: .pointer (some ⟨w.heap.size, 0, none⟩) :: .pointer (some ⟨pb, 0, none⟩) :: .pointer (some ⟨sb, 0, none⟩) :: .int .i64 4 :: .int .i64 kv :: .int .i64 (iv : Int) :: .string nm :: u9 :: u10 :: u11 :: u12 :: u13 :: u14 :: u15 :: u16 :: u17 :: u18 :: u19 :: u20 :: u21 :: u22 :: u23 :: u24 :: u25 :: u26 :: u27 :: u28 :: u29 :: u30 :: u31 :: u32 :: u33 :: u34 :: u35 :: u36 :: u37 :: u38 :: u39 :: u40 :: u41 :: u42 :: u43 :: u44 :: u45 :: u46 :: u47 :: u48 :: u49 :: u50 :: u51 :: u52 :: u53 :: u54 :: u55 :: u56 :: u57 :: u58 :: u59 :: u60 :: u61 :: u62 :: u63 :: u64 :: u65 :: u66 :: u67 :: u68 :: u69 :: u70 :: u71 :: u72 :: u73 :: u74 :: u75 :: u76 :: u77 :: u78 :: u79 :: u80 :: u81 :: u82 :: u83 :: u84 :: u85 :: u86 :: u87 :: u88 :: u89 :: u90 :: u91 :: u92 :: u93 :: u94 :: u95 :: u96 :: u97 :: u98 :: u99 :: u100 :: u101 :: u102 :: u103 :: u104 :: u105 :: u106 :: u107 :: u108 :: u109 :: u110 :: u111 :: u112 :: u113 :: u114 :: u115 :: u116 :: u117 :: u118 :: u119 :: u120 :: u121 :: u122 :: u123 :: u124 :: u125 :: u126 :: u127 :: u128 :: u129 :: u130 :: u131 :: u132 :: u133 :: u134 :: u135 :: u136 :: u137 :: u138 :: u139 :: u140 :: u141 :: u142 :: u143 :: u144 :: u145 :: u146 :: u147 :: u148 :: u149 :: u150 :: u151 :: u152 :: u153 :: u154 :: u155 :: []), []⟩ wr := by
  obtain ⟨q0, q1, q2, q3, q4, q5, q6⟩ := box7 hst.blk
  have f0 := hst.blk.frozen 0
  have f1 := hst.blk.frozen 1
  have f2 := hst.blk.frozen 2
  have f4 := hst.blk.frozen 4
  have f5 := hst.blk.frozen 5
  have f6 := hst.blk.frozen 6
  obtain ⟨x, hx⟩ : ∃ x, p.nodes[iv]? = some x := ⟨_, List.getElem?_eq_getElem hiv⟩
  obtain ⟨An, cn, rfl, hcn⟩ := own_form hst.nodes
  obtain ⟨gn, rfl, hgn, c0, c1⟩ := (RowAt.of_own hst.nodes).node hx
  have hN := hst.nodesIn (hst.hst.nodeName hx nm)
  have e1 := own_frozenW hst.nodes
  have k0 : (0 : Int) ≤ (iv : Int) := by omega
  have k1 : (iv : Int) < (p.nodes.length : Int) := by omega
  conv => arg 2; whnf
  repeat (first | exact wild_end hN (fine_node hp iv nm x.num (by omega) (tiny_nums hp.tiny x (List.mem_of_getElem? hx))) _ _ _ _ _ _ _ _ _ _ _ _ _ _ _ _ _ _ _ _ _ _ _ _ _ _ _ _ _ _ _ _ _ _ _ _ _ _ _ _ _ _ _ _ _ _ _ _ _ _ _ _ _ _ _ _ _ _ _ _ _ _ _ _ _ _ _ _ _ _ _ _ _ _ _ _ _ _ _ _ _ _ _ _ _ _ _ _ _ _ _ _ _ _ _ _ _ _ _ _ _ _ _ _ _ _ _ _ _ _ _ _ _ _ _ _ _ _ _ _ _ _ _ _ _ _ _ _ _ _ _ _ _ _ _ _ _ _ _ _ _ _ _ _ _ _ _ _ _ _ _ _ _ _ | go_values | go_skip | go_guarded | go_step | go_upon)
  done
set_option maxHeartbeats 8000000 in
set_option maxRecDepth 100000 in
theorem wild_5 {w : World} {sb pb : Nat} {l : List Int} {vn vl vd vc : Value} {wr : World} {p : PPlan} (hst : NetSt w sb pb l p.proto p.cap p.k vn vl vd vc p.nodes p.links p.dests p.checks wr) (hok : SrcOk l) (hp : NetOk p) (kv : Int) (hkv : kv < 100 ∨ 65535 < kv) (iv : Nat) (hiv : iv < p.nodes.length) (nm : ByteArray) (hnm : nm.size ≤ 13)
    (u0 u1 u9 u10 u11 u12 u13 u14 u15 u16 u17 u18 u19 u20 u21 u22 u23 u24 u25 u26 u27 u28 u29 u30 u31 u32 u33 u34 u35 u36 u37 u38 u39 u40 u41 u42 u43 u44 u45 u46 u47 u48 u49 u50 u51 u52 u53 u54 u55 u56 u57 u58 u59 u60 u61 u62 u63 u64 u65 u66 u67 u68 u69 u70 u71 u72 u73 u74 u75 u76 u77 u78 u79 u80 u81 u82 u83 u84 u85 u86 u87 u88 u89 u90 u91 u92 u93 u94 u95 u96 u97 u98 u99 u100 u101 u102 u103 u104 u105 u106 u107 u108 u109 u110 u111 u112 u113 u114 u115 u116 u117 u118 u119 u120 u121 u122 u123 u124 u125 u126 u127 u128 u129 u130 u131 u132 u133 u134 u135 u136 u137 u138 u139 u140 u141 u142 u143 u144 u145 u146 u147 u148 u149 u150 u151 u152 u153 u154 u155 : Value) :
    Code.wp Try.prog (wildC [true, true, true, true, true, true, true, true]) (bodyPost Try.prog Try.f8 (WildAs w)) ⟨List.toArray (u0 :: u1 :: .pointer (some ⟨w.heap.size, 0, none⟩) :: .pointer (some ⟨pb, 0, none⟩) :: .pointer (some ⟨sb, 0, none⟩) :: .int .i64 5 :: .int .i64 kv :: .int .i64 (iv : Int) :: .string nm :: u9 :: u10 :: u11 :: u12 :: u13 :: u14 :: u15 :: u16 :: u17 :: u18 :: u19 :: u20 :: u21 :: u22 :: u23 :: u24 :: u25 :: u26 :: u27 :: u28 :: u29 :: u30 :: u31 :: u32 :: u33 :: u34 :: u35 :: u36 :: u37 :: u38 :: u39 :: u40 :: u41 :: u42 :: u43 :: u44 :: u45 :: u46 :: u47 :: u48 :: u49 :: u50 :: u51 :: u52 :: u53 :: u54 :: u55 :: u56 :: u57 :: u58 :: u59 :: u60 :: u61 :: u62 :: u63 :: u64 :: u65 :: u66 :: u67 :: u68 :: u69 :: u70 :: u71 :: u72 :: u73 :: u74 :: u75 :: u76 :: u77 :: u78 :: u79 :: u80 :: u81 :: u82 :: u83 :: u84 :: u85 :: u86 :: u87 :: u88 :: u89 :: u90 :: u91 :: u92 :: u93 :: u94 :: u95 :: u96 :: u97 :: u98 :: u99 :: u100 :: u101 :: u102 :: u103 :: u104 :: u105 :: u106 :: u107 :: u108 :: u109 :: u110 :: u111 :: u112 :: u113 :: u114 :: u115 :: u116 :: u117 :: u118 :: u119 :: u120 :: u121 :: u122 :: u123 :: u124 :: u125 :: u126 :: u127 :: u128 :: u129 :: u130 :: u131 :: u132 :: u133 :: u134 :: u135 :: u136 :: u137 :: u138 :: u139 :: u140 :: u141 :: u142 :: u143 :: u144 :: u145 :: u146 :: u147 :: u148 :: u149 :: u150 :: u151 :: u152 :: u153 :: u154 :: u155 :: []), []⟩ wr := by
  obtain ⟨q0, q1, q2, q3, q4, q5, q6⟩ := box7 hst.blk
  have f0 := hst.blk.frozen 0
  have f1 := hst.blk.frozen 1
  have f2 := hst.blk.frozen 2
  have f4 := hst.blk.frozen 4
  have f5 := hst.blk.frozen 5
  have f6 := hst.blk.frozen 6
  obtain ⟨Al, cl, rfl, hcl⟩ := own_form hst.links
  obtain ⟨iX, hiX, zX0, zX1, zX2⟩ := info_parts linkInfo
  have hl9 := hp.links1
  conv => arg 2; whnf
  repeat (first | exact wild_end hN (fine_link hp ⟨kv, (iv : Int), 1⟩) _ _ _ _ _ _ _ _ _ _ _ _ _ _ _ _ _ _ _ _ _ _ _ _ _ _ _ _ _ _ _ _ _ _ _ _ _ _ _ _ _ _ _ _ _ _ _ _ _ _ _ _ _ _ _ _ _ _ _ _ _ _ _ _ _ _ _ _ _ _ _ _ _ _ _ _ _ _ _ _ _ _ _ _ _ _ _ _ _ _ _ _ _ _ _ _ _ _ _ _ _ _ _ _ _ _ _ _ _ _ _ _ _ _ _ _ _ _ _ _ _ _ _ _ _ _ _ _ _ _ _ _ _ _ _ _ _ _ _ _ _ _ _ _ _ _ _ _ _ _ _ _ _ _ | (at_builtin; refine wpList_append_lies _ rfl _ _ _ rfl w.heap.size 53 iX (.agg #[.int .i64 0, .int .i64 0, .int .i64 0]) 3 24 Try.underlying25 hiX zX0 zX1 zX2 rfl (by decide) (.slice Al p.links.length cl) p.links.length _ rfl (own_alloc hst.links _) ⟨wr.heap.size, 0, none⟩ 1 1 [.int .i64 kv, .int .i64 (iv : Int), .int .i64 1] rfl rfl (cells_new wr [.int .i64 kv, .int .i64 (iv : Int), .int .i64 1] 53) (by simp [Value.oneCell']) (by omega) (by unfold maxLen; omega) (by omega) (by have := hst.lt; simp; omega) (wr.heap.size + 1) (by simp) ?_; intro g6 cap6 w6 hown6 hgrow6 _ _; have hb6 := (hst.up (below_new _ _)).pbOf (own_alloc hst.links _) (by decide) hgrow6; have q6 := hb6.cell 4; have f6 := hb6.frozen 4; have hN := (hst.up (below_new wr (.cells #[.int .i64 kv, .int .i64 (iv : Int), .int .i64 1] 53))).pushLink (x := ⟨kv, (iv : Int), 1⟩) hown6 hgrow6) | go_values | go_skip | go_guarded | go_step | go_upon)
  done
set_option maxHeartbeats 8000000 in
set_option maxRecDepth 100000 in
theorem wild_6 {w : World} {sb pb : Nat} {l : List Int} {vn vl vd vc : Value} {wr : World} {p : PPlan} (hst : NetSt w sb pb l p.proto p.cap p.k vn vl vd vc p.nodes p.links p.dests p.checks wr) (hok : SrcOk l) (hp : NetOk p) (kv : Int) (hkv : kv < 100 ∨ 65535 < kv) (iv : Nat) (hiv : iv < p.nodes.length) (nm : ByteArray) (hnm : nm.size ≤ 13)
    (u0 u1 u9 u10 u11 u12 u13 u14 u15 u16 u17 u18 u19 u20 u21 u22 u23 u24 u25 u26 u27 u28 u29 u30 u31 u32 u33 u34 u35 u36 u37 u38 u39 u40 u41 u42 u43 u44 u45 u46 u47 u48 u49 u50 u51 u52 u53 u54 u55 u56 u57 u58 u59 u60 u61 u62 u63 u64 u65 u66 u67 u68 u69 u70 u71 u72 u73 u74 u75 u76 u77 u78 u79 u80 u81 u82 u83 u84 u85 u86 u87 u88 u89 u90 u91 u92 u93 u94 u95 u96 u97 u98 u99 u100 u101 u102 u103 u104 u105 u106 u107 u108 u109 u110 u111 u112 u113 u114 u115 u116 u117 u118 u119 u120 u121 u122 u123 u124 u125 u126 u127 u128 u129 u130 u131 u132 u133 u134 u135 u136 u137 u138 u139 u140 u141 u142 u143 u144 u145 u146 u147 u148 u149 u150 u151 u152 u153 u154 u155 : Value) :
    Code.wp Try.prog (wildC [true, true, true, true, true, true, true, true]) (bodyPost Try.prog Try.f8 (WildAs w)) ⟨List.toArray (u0 :: u1 :: .pointer (some ⟨w.heap.size, 0, none⟩) :: .pointer (some ⟨pb, 0, none⟩) :: .pointer (some ⟨sb, 0, none⟩) :: .int .i64 6 :: .int .i64 kv :: .int .i64 (iv : Int) :: .string nm :: u9 :: u10 :: u11 :: u12 :: u13 :: u14 :: u15 :: u16 :: u17 :: u18 :: u19 :: u20 :: u21 :: u22 :: u23 :: u24 :: u25 :: u26 :: u27 :: u28 :: u29 :: u30 :: u31 :: u32 :: u33 :: u34 :: u35 :: u36 :: u37 :: u38 :: u39 :: u40 :: u41 :: u42 :: u43 :: u44 :: u45 :: u46 :: u47 :: u48 :: u49 :: u50 :: u51 :: u52 :: u53 :: u54 :: u55 :: u56 :: u57 :: u58 :: u59 :: u60 :: u61 :: u62 :: u63 :: u64 :: u65 :: u66 :: u67 :: u68 :: u69 :: u70 :: u71 :: u72 :: u73 :: u74 :: u75 :: u76 :: u77 :: u78 :: u79 :: u80 :: u81 :: u82 :: u83 :: u84 :: u85 :: u86 :: u87 :: u88 :: u89 :: u90 :: u91 :: u92 :: u93 :: u94 :: u95 :: u96 :: u97 :: u98 :: u99 :: u100 :: u101 :: u102 :: u103 :: u104 :: u105 :: u106 :: u107 :: u108 :: u109 :: u110 :: u111 :: u112 :: u113 :: u114 :: u115 :: u116 :: u117 :: u118 :: u119 :: u120 :: u121 :: u122 :: u123 :: u124 :: u125 :: u126 :: u127 :: u128 :: u129 :: u130 :: u131 :: u132 :: u133 :: u134 :: u135 :: u136 :: u137 :: u138 :: u139 :: u140 :: u141 :: u142 :: u143 :: u144 :: u145 :: u146 :: u147 :: u148 :: u149 :: u150 :: u151 :: u152 :: u153 :: u154 :: u155 :: []), []⟩ wr := by
  obtain ⟨q0, q1, q2, q3, q4, q5, q6⟩ := box7 hst.blk
  have f0 := hst.blk.frozen 0
  have f1 := hst.blk.frozen 1
  have f2 := hst.blk.frozen 2
  have f4 := hst.blk.frozen 4
  have f5 := hst.blk.frozen 5
  have f6 := hst.blk.frozen 6
  obtain ⟨Al, cl, rfl, hcl⟩ := own_form hst.links
  obtain ⟨iX, hiX, zX0, zX1, zX2⟩ := info_parts linkInfo
  have hl9 := hp.links1
  conv => arg 2; whnf
  repeat (first | exact wild_end hN (fine_link hp ⟨0, (iv : Int), kv⟩) _ _ _ _ _ _ _ _ _ _ _ _ _ _ _ _ _ _ _ _ _ _ _ _ _ _ _ _ _ _ _ _ _ _ _ _ _ _ _ _ _ _ _ _ _ _ _ _ _ _ _ _ _ _ _ _ _ _ _ _ _ _ _ _ _ _ _ _ _ _ _ _ _ _ _ _ _ _ _ _ _ _ _ _ _ _ _ _ _ _ _ _ _ _ _ _ _ _ _ _ _ _ _ _ _ _ _ _ _ _ _ _ _ _ _ _ _ _ _ _ _ _ _ _ _ _ _ _ _ _ _ _ _ _ _ _ _ _ _ _ _ _ _ _ _ _ _ _ _ _ _ _ _ _ | (at_builtin; refine wpList_append_lies _ rfl _ _ _ rfl w.heap.size 53 iX (.agg #[.int .i64 0, .int .i64 0, .int .i64 0]) 3 24 Try.underlying25 hiX zX0 zX1 zX2 rfl (by decide) (.slice Al p.links.length cl) p.links.length _ rfl (own_alloc hst.links _) ⟨wr.heap.size, 0, none⟩ 1 1 [.int .i64 0, .int .i64 (iv : Int), .int .i64 kv] rfl rfl (cells_new wr [.int .i64 0, .int .i64 (iv : Int), .int .i64 kv] 53) (by simp [Value.oneCell']) (by omega) (by unfold maxLen; omega) (by omega) (by have := hst.lt; simp; omega) (wr.heap.size + 1) (by simp) ?_; intro g6 cap6 w6 hown6 hgrow6 _ _; have hb6 := (hst.up (below_new _ _)).pbOf (own_alloc hst.links _) (by decide) hgrow6; have q6 := hb6.cell 4; have f6 := hb6.frozen 4; have hN := (hst.up (below_new wr (.cells #[.int .i64 0, .int .i64 (iv : Int), .int .i64 kv] 53))).pushLink (x := ⟨0, (iv : Int), kv⟩) hown6 hgrow6) | go_values | go_skip | go_guarded | go_step | go_upon)
  done
set_option maxHeartbeats 8000000 in
set_option maxRecDepth 100000 in
theorem wild_10 {w : World} {sb pb : Nat} {l : List Int} {vn vl vd vc : Value} {wr : World} {p : PPlan} (hst : NetSt w sb pb l p.proto p.cap p.k vn vl vd vc p.nodes p.links p.dests p.checks wr) (hok : SrcOk l) (hp : NetOk p) (kv : Int) (hkv : kv < 100 ∨ 65535 < kv) (iv : Nat) (hiv : iv < p.nodes.length) (nm : ByteArray) (hnm : nm.size ≤ 13)
    (u0 u1 u9 u10 u11 u12 u13 u14 u15 u16 u17 u18 u19 u20 u21 u22 u23 u24 u25 u26 u27 u28 u29 u30 u31 u32 u33 u34 u35 u36 u37 u38 u39 u40 u41 u42 u43 u44 u45 u46 u47 u48 u49 u50 u51 u52 u53 u54 u55 u56 u57 u58 u59 u60 u61 u62 u63 u64 u65 u66 u67 u68 u69 u70 u71 u72 u73 u74 u75 u76 u77 u78 u79 u80 u81 u82 u83 u84 u85 u86 u87 u88 u89 u90 u91 u92 u93 u94 u95 u96 u97 u98 u99 u100 u101 u102 u103 u104 u105 u106 u107 u108 u109 u110 u111 u112 u113 u114 u115 u116 u117 u118 u119 u120 u121 u122 u123 u124 u125 u126 u127 u128 u129 u130 u131 u132 u133 u134 u135 u136 u137 u138 u139 u140 u141 u142 u143 u144 u145 u146 u147 u148 u149 u150 u151 u152 u153 u154 u155 : Value) :
    Code.wp Try.prog (wildC [true, true, true, true, true, true, true, true]) (bodyPost Try.prog Try.f8 (WildAs w)) ⟨List.toArray (u0 :: u1 :: .pointer (some ⟨w.heap.size, 0, none⟩) :: .pointer (some ⟨pb, 0, none⟩) :: .pointer (some ⟨sb, 0, none⟩) :: .int .i64 10 :: .int .i64 kv :: .int .i64 (iv : Int) :: .string nm :: u9 :: u10 :: u11 :: u12 :: u13 :: u14 :: u15 :: u16 :: u17 :: u18 :: u19 :: u20 :: u21 :: u22 :: u23 :: u24 :: u25 :: u26 :: u27 :: u28 :: u29 :: u30 :: u31 :: u32 :: u33 :: u34 :: u35 :: u36 :: u37 :: u38 :: u39 :: u40 :: u41 :: u42 :: u43 :: u44 :: u45 :: u46 :: u47 :: u48 :: u49 :: u50 :: u51 :: u52 :: u53 :: u54 :: u55 :: u56 :: u57 :: u58 :: u59 :: u60 :: u61 :: u62 :: u63 :: u64 :: u65 :: u66 :: u67 :: u68 :: u69 :: u70 :: u71 :: u72 :: u73 :: u74 :: u75 :: u76 :: u77 :: u78 :: u79 :: u80 :: u81 :: u82 :: u83 :: u84 :: u85 :: u86 :: u87 :: u88 :: u89 :: u90 :: u91 :: u92 :: u93 :: u94 :: u95 :: u96 :: u97 :: u98 :: u99 :: u100 :: u101 :: u102 :: u103 :: u104 :: u105 :: u106 :: u107 :: u108 :: u109 :: u110 :: u111 :: u112 :: u113 :: u114 :: u115 :: u116 :: u117 :: u118 :: u119 :: u120 :: u121 :: u122 :: u123 :: u124 :: u125 :: u126 :: u127 :: u128 :: u129 :: u130 :: u131 :: u132 :: u133 :: u134 :: u135 :: u136 :: u137 :: u138 :: u139 :: u140 :: u141 :: u142 :: u143 :: u144 :: u145 :: u146 :: u147 :: u148 :: u149 :: u150 :: u151 :: u152 :: u153 :: u154 :: u155 :: []), []⟩ wr := by
  obtain ⟨q0, q1, q2, q3, q4, q5, q6⟩ := box7 hst.blk
  have f0 := hst.blk.frozen 0
  have f1 := hst.blk.frozen 1
  have f2 := hst.blk.frozen 2
  have f4 := hst.blk.frozen 4
  have f5 := hst.blk.frozen 5
  have f6 := hst.blk.frozen 6
  obtain ⟨Ac, cc, rfl, hcc⟩ := own_form hst.checks
  obtain ⟨iX, hiX, zX0, zX1, zX2⟩ := info_parts checkInfo
  have hl9 := hp.checks1
  conv => arg 2; whnf
  repeat (first | exact wild_end hN (fine_check hp ⟨kv, (iv : Int), 0, 0, 0⟩ (by dsimp only; omega)) _ _ _ _ _ _ _ _ _ _ _ _ _ _ _ _ _ _ _ _ _ _ _ _ _ _ _ _ _ _ _ _ _ _ _ _ _ _ _ _ _ _ _ _ _ _ _ _ _ _ _ _ _ _ _ _ _ _ _ _ _ _ _ _ _ _ _ _ _ _ _ _ _ _ _ _ _ _ _ _ _ _ _ _ _ _ _ _ _ _ _ _ _ _ _ _ _ _ _ _ _ _ _ _ _ _ _ _ _ _ _ _ _ _ _ _ _ _ _ _ _ _ _ _ _ _ _ _ _ _ _ _ _ _ _ _ _ _ _ _ _ _ _ _ _ _ _ _ _ _ _ _ _ _ | (at_builtin; refine wpList_append_lies _ rfl _ _ _ rfl w.heap.size 67 iX (.agg #[.int .i64 0, .int .i64 0, .int .i64 0, .int .i64 0, .int .i64 0]) 5 40 Try.underlying27 hiX zX0 zX1 zX2 rfl (by decide) (.slice Ac p.checks.length cc) p.checks.length _ rfl (own_alloc hst.checks _) ⟨wr.heap.size, 0, none⟩ 1 1 [.int .i64 kv, .int .i64 (iv : Int), .int .i64 0, .int .i64 0, .int .i64 0] rfl rfl (cells_new wr [.int .i64 kv, .int .i64 (iv : Int), .int .i64 0, .int .i64 0, .int .i64 0] 67) (by simp [Value.oneCell']) (by omega) (by unfold maxLen; omega) (by omega) (by have := hst.lt; simp; omega) (wr.heap.size + 1) (by simp) ?_; intro g6 cap6 w6 hown6 hgrow6 _ _; have hb6 := (hst.up (below_new _ _)).pbOf (own_alloc hst.checks _) (by decide) hgrow6; have q6 := hb6.cell 6; have f6 := hb6.frozen 6; have hN := (hst.up (below_new wr (.cells #[.int .i64 kv, .int .i64 (iv : Int), .int .i64 0, .int .i64 0, .int .i64 0] 67))).pushCheck (x := ⟨kv, (iv : Int), 0, 0, 0⟩) hown6 hgrow6) | go_values | go_skip | go_guarded | go_step | go_upon)
  done
end Go.Proofs.Ytlfdpfkimggeoaa
namespace Go.Proofs.Ytlfdpfkimggeoaa
open Go.RowKit
set_option linter.unusedVariables false
set_option linter.unusedSimpArgs false

theorem own_newW (w : World) (base : Nat) (e : TypeId) (xs : List Value) (k : Nat) (hk : w.heap.size = k) (hb : base ≤ k) (n : Nat) (hn : xs.length = n) (hm : n ≤ 4096) : (w.alloc (.cells xs.toArray e)).ownsRow base e 1 (.slice (some ⟨k, 0, none⟩) n n) n xs := by
  subst hk hn
  exact ⟨by simp, .inr ⟨w.heap.size, xs.length, xs.toArray, rfl, hb, Blk.new w e _, Nat.le_refl _, by unfold maxLen; omega, by simp, by simp⟩⟩
theorem cells_newK (w : World) (xs : List Value) (t : TypeId) (k : Nat) (hk : w.heap.size = k) : ∀ j u, xs[j]? = some u → (w.alloc (.cells xs.toArray t)).cell? ((⟨k, 0, none⟩ : Addr).add j) = some u := by
  subst hk; exact cells_new w xs t
set_option maxHeartbeats 8000000 in
set_option maxRecDepth 100000 in
theorem wild_7 {w : World} {sb pb : Nat} {l : List Int} {vn vl vd vc : Value} {wr : World} {p : PPlan} (hst : NetSt w sb pb l p.proto p.cap p.k vn vl vd vc p.nodes p.links p.dests p.checks wr) (hok : SrcOk l) (hp : NetOk p) (kv : Int) (hkv : kv < 100 ∨ 65535 < kv) (iv : Nat) (hiv : iv < p.nodes.length) (nm : ByteArray) (hnm : nm.size ≤ 13)
    (u0 u1 u9 u10 u11 u12 u13 u14 u15 u16 u17 u18 u19 u20 u21 u22 u23 u24 u25 u26 u27 u28 u29 u30 u31 u32 u33 u34 u35 u36 u37 u38 u39 u40 u41 u42 u43 u44 u45 u46 u47 u48 u49 u50 u51 u52 u53 u54 u55 u56 u57 u58 u59 u60 u61 u62 u63 u64 u65 u66 u67 u68 u69 u70 u71 u72 u73 u74 u75 u76 u77 u78 u79 u80 u81 u82 u83 u84 u85 u86 u87 u88 u89 u90 u91 u92 u93 u94 u95 u96 u97 u98 u99 u100 u101 u102 u103 u104 u105 u106 u107 u108 u109 u110 u111 u112 u113 u114 u115 u116 u117 u118 u119 u120 u121 u122 u123 u124 u125 u126 u127 u128 u129 u130 u131 u132 u133 u134 u135 u136 u137 u138 u139 u140 u141 u142 u143 u144 u145 u146 u147 u148 u149 u150 u151 u152 u153 u154 u155 : Value) :
    Code.wp Try.prog (wildC [true, true, true, true, true, true, true, true]) (bodyPost Try.prog Try.f8 (WildAs w)) ⟨List.toArray (u0 :: u1 :: .pointer (some ⟨w.heap.size, 0, none⟩) :: .pointer (some ⟨pb, 0, none⟩) :: .pointer (some ⟨sb, 0, none⟩) :: .int .i64 7 :: .int .i64 kv :: .int .i64 (iv : Int) :: .string nm :: u9 :: u10 :: u11 :: u12 :: u13 :: u14 :: u15 :: u16 :: u17 :: u18 :: u19 :: u20 :: u21 :: u22 :: u23 :: u24 :: u25 :: u26 :: u27 :: u28 :: u29 :: u30 :: u31 :: u32 :: u33 :: u34 :: u35 :: u36 :: u37 :: u38 :: u39 :: u40 :: u41 :: u42 :: u43 :: u44 :: u45 :: u46 :: u47 :: u48 :: u49 :: u50 :: u51 :: u52 :: u53 :: u54 :: u55 :: u56 :: u57 :: u58 :: u59 :: u60 :: u61 :: u62 :: u63 :: u64 :: u65 :: u66 :: u67 :: u68 :: u69 :: u70 :: u71 :: u72 :: u73 :: u74 :: u75 :: u76 :: u77 :: u78 :: u79 :: u80 :: u81 :: u82 :: u83 :: u84 :: u85 :: u86 :: u87 :: u88 :: u89 :: u90 :: u91 :: u92 :: u93 :: u94 :: u95 :: u96 :: u97 :: u98 :: u99 :: u100 :: u101 :: u102 :: u103 :: u104 :: u105 :: u106 :: u107 :: u108 :: u109 :: u110 :: u111 :: u112 :: u113 :: u114 :: u115 :: u116 :: u117 :: u118 :: u119 :: u120 :: u121 :: u122 :: u123 :: u124 :: u125 :: u126 :: u127 :: u128 :: u129 :: u130 :: u131 :: u132 :: u133 :: u134 :: u135 :: u136 :: u137 :: u138 :: u139 :: u140 :: u141 :: u142 :: u143 :: u144 :: u145 :: u146 :: u147 :: u148 :: u149 :: u150 :: u151 :: u152 :: u153 :: u154 :: u155 :: []), []⟩ wr := by
  obtain ⟨q0, q1, q2, q3, q4, q5, q6⟩ := box7 hst.blk
  have f0 := hst.blk.frozen 0
  have f1 := hst.blk.frozen 1
  have f2 := hst.blk.frozen 2
  have f4 := hst.blk.frozen 4
  have f5 := hst.blk.frozen 5
  have f6 := hst.blk.frozen 6
  have hst1 := hst.up (below_new wr (.cells #[.int .i64 (iv : Int)] 3))
  obtain ⟨hs, e1, e2, e3⟩ := hst1.dests
  obtain ⟨Ad, cd, rfl, hcd⟩ := own_form e2
  obtain ⟨iX, hiX, zX0, zX1, zX2⟩ := info_parts destInfo
  have hl9 := hp.dests1
  have hzz := hst.lt
  have q5a := hst1.blk.cell 5
  have hfd := (fine_dest hp ⟨nm, [(iv : Int)]⟩ (by dsimp only; omega) (by simp))
  conv => arg 2; whnf
  repeat (first | exact wild_end hN hfd _ _ _ _ _ _ _ _ _ _ _ _ _ _ _ _ _ _ _ _ _ _ _ _ _ _ _ _ _ _ _ _ _ _ _ _ _ _ _ _ _ _ _ _ _ _ _ _ _ _ _ _ _ _ _ _ _ _ _ _ _ _ _ _ _ _ _ _ _ _ _ _ _ _ _ _ _ _ _ _ _ _ _ _ _ _ _ _ _ _ _ _ _ _ _ _ _ _ _ _ _ _ _ _ _ _ _ _ _ _ _ _ _ _ _ _ _ _ _ _ _ _ _ _ _ _ _ _ _ _ _ _ _ _ _ _ _ _ _ _ _ _ _ _ _ _ _ _ _ _ _ _ _ _ | (at_builtin; refine wpList_append_lies _ rfl _ _ _ rfl w.heap.size 65 iX (.agg #[.string ⟨#[]⟩, .slice none 0 0]) 2 40 Try.underlying26 hiX zX0 zX1 zX2 rfl (by decide) (.slice Ad p.dests.length cd) p.dests.length _ rfl (own_alloc e2 _) ⟨(wr.heap.size + 1), 0, none⟩ 1 1 [.string nm, .slice (some ⟨wr.heap.size, 0, none⟩) 1 1] rfl rfl (cells_newK (wr.alloc (.cells #[.int .i64 (iv : Int)] 3)) [.string nm, .slice (some ⟨wr.heap.size, 0, none⟩) 1 1] 65 _ (by simp)) (by simp [Value.oneCell']) (by omega) (by unfold maxLen; omega) (by omega) (by simp; omega) ((wr.heap.size + 1) + 1) (by simp) ?_; intro g6 cap6 w6 hown6 hgrow6 _ _; have hb6 := (hst1.up (below_new _ _)).pbOf (own_alloc e2 _) (by decide) hgrow6; have q6 := hb6.cell 5; have f6 := hb6.frozen 5; have hN := (hst1.up (below_new (wr.alloc (.cells #[.int .i64 (iv : Int)] 3)) (.cells #[.string nm, .slice (some ⟨wr.heap.size, 0, none⟩) 1 1] 65))).pushDest hs e1 (own_alloc e2 _) (fun i d q h1 h2 => own_alloc (e3 i d q h1 h2) _) (x := ⟨nm, [(iv : Int)]⟩) (own_alloc (own_newW wr w.heap.size 3 [.int .i64 (iv : Int)] wr.heap.size rfl hst.lt 1 rfl (by omega)) _) hown6 hgrow6) | go_values | go_skip | go_guarded | go_step | go_upon)
  done
set_option maxHeartbeats 8000000 in
set_option maxRecDepth 100000 in
theorem wild_8 {w : World} {sb pb : Nat} {l : List Int} {vn vl vd vc : Value} {wr : World} {p : PPlan} (hst : NetSt w sb pb l p.proto p.cap p.k vn vl vd vc p.nodes p.links p.dests p.checks wr) (hok : SrcOk l) (hp : NetOk p) (kv : Int) (hkv : kv < 100 ∨ 65535 < kv) (iv : Nat) (hiv : iv < p.nodes.length) (nm : ByteArray) (hnm : nm.size ≤ 13)
    (u0 u1 u9 u10 u11 u12 u13 u14 u15 u16 u17 u18 u19 u20 u21 u22 u23 u24 u25 u26 u27 u28 u29 u30 u31 u32 u33 u34 u35 u36 u37 u38 u39 u40 u41 u42 u43 u44 u45 u46 u47 u48 u49 u50 u51 u52 u53 u54 u55 u56 u57 u58 u59 u60 u61 u62 u63 u64 u65 u66 u67 u68 u69 u70 u71 u72 u73 u74 u75 u76 u77 u78 u79 u80 u81 u82 u83 u84 u85 u86 u87 u88 u89 u90 u91 u92 u93 u94 u95 u96 u97 u98 u99 u100 u101 u102 u103 u104 u105 u106 u107 u108 u109 u110 u111 u112 u113 u114 u115 u116 u117 u118 u119 u120 u121 u122 u123 u124 u125 u126 u127 u128 u129 u130 u131 u132 u133 u134 u135 u136 u137 u138 u139 u140 u141 u142 u143 u144 u145 u146 u147 u148 u149 u150 u151 u152 u153 u154 u155 : Value) :
    Code.wp Try.prog (wildC [true, true, true, true, true, true, true, true]) (bodyPost Try.prog Try.f8 (WildAs w)) ⟨List.toArray (u0 :: u1 :: .pointer (some ⟨w.heap.size, 0, none⟩) :: .pointer (some ⟨pb, 0, none⟩) :: .pointer (some ⟨sb, 0, none⟩) :: .int .i64 8 :: .int .i64 kv :: .int .i64 (iv : Int) :: .string nm :: u9 :: u10 :: u11 :: u12 :: u13 :: u14 :: u15 :: u16 :: u17 :: u18 :: u19 :: u20 :: u21 :: u22 :: u23 :: u24 :: u25 :: u26 :: u27 :: u28 :: u29 :: u30 :: u31 :: u32 :: u33 :: u34 :: u35 :: u36 :: u37 :: u38 :: u39 :: u40 :: u41 :: u42 :: u43 :: u44 :: u45 :: u46 :: u47 :: u48 :: u49 :: u50 :: u51 :: u52 :: u53 :: u54 :: u55 :: u56 :: u57 :: u58 :: u59 :: u60 :: u61 :: u62 :: u63 :: u64 :: u65 :: u66 :: u67 :: u68 :: u69 :: u70 :: u71 :: u72 :: u73 :: u74 :: u75 :: u76 :: u77 :: u78 :: u79 :: u80 :: u81 :: u82 :: u83 :: u84 :: u85 :: u86 :: u87 :: u88 :: u89 :: u90 :: u91 :: u92 :: u93 :: u94 :: u95 :: u96 :: u97 :: u98 :: u99 :: u100 :: u101 :: u102 :: u103 :: u104 :: u105 :: u106 :: u107 :: u108 :: u109 :: u110 :: u111 :: u112 :: u113 :: u114 :: u115 :: u116 :: u117 :: u118 :: u119 :: u120 :: u121 :: u122 :: u123 :: u124 :: u125 :: u126 :: u127 :: u128 :: u129 :: u130 :: u131 :: u132 :: u133 :: u134 :: u135 :: u136 :: u137 :: u138 :: u139 :: u140 :: u141 :: u142 :: u143 :: u144 :: u145 :: u146 :: u147 :: u148 :: u149 :: u150 :: u151 :: u152 :: u153 :: u154 :: u155 :: []), []⟩ wr := by
  obtain ⟨q0, q1, q2, q3, q4, q5, q6⟩ := box7 hst.blk
  have f0 := hst.blk.frozen 0
  have f1 := hst.blk.frozen 1
  have f2 := hst.blk.frozen 2
  have f4 := hst.blk.frozen 4
  have f5 := hst.blk.frozen 5
  have f6 := hst.blk.frozen 6
  have hst1 := hst.up (below_new wr (.cells #[.int .i64 (iv : Int), .int .i64 kv] 3))
  obtain ⟨hs, e1, e2, e3⟩ := hst1.dests
  obtain ⟨Ad, cd, rfl, hcd⟩ := own_form e2
  obtain ⟨iX, hiX, zX0, zX1, zX2⟩ := info_parts destInfo
  have hl9 := hp.dests1
  have hzz := hst.lt
  have q5a := hst1.blk.cell 5
  have hfd := fine_dest hp ⟨⟨#[122]⟩, [(iv : Int), kv]⟩ (show (⟨#[122]⟩ : ByteArray).size ≤ 4096 by decide) (by simp)
  conv => arg 2; whnf
  repeat (first | exact wild_end hN hfd _ _ _ _ _ _ _ _ _ _ _ _ _ _ _ _ _ _ _ _ _ _ _ _ _ _ _ _ _ _ _ _ _ _ _ _ _ _ _ _ _ _ _ _ _ _ _ _ _ _ _ _ _ _ _ _ _ _ _ _ _ _ _ _ _ _ _ _ _ _ _ _ _ _ _ _ _ _ _ _ _ _ _ _ _ _ _ _ _ _ _ _ _ _ _ _ _ _ _ _ _ _ _ _ _ _ _ _ _ _ _ _ _ _ _ _ _ _ _ _ _ _ _ _ _ _ _ _ _ _ _ _ _ _ _ _ _ _ _ _ _ _ _ _ _ _ _ _ _ _ _ _ _ _ | (at_builtin; refine wpList_append_lies _ rfl _ _ _ rfl w.heap.size 65 iX (.agg #[.string ⟨#[]⟩, .slice none 0 0]) 2 40 Try.underlying26 hiX zX0 zX1 zX2 rfl (by decide) (.slice Ad p.dests.length cd) p.dests.length _ rfl (own_alloc e2 _) ⟨(wr.heap.size + 1), 0, none⟩ 1 1 [.string ⟨#[122]⟩, .slice (some ⟨wr.heap.size, 0, none⟩) 2 2] rfl rfl (cells_newK (wr.alloc (.cells #[.int .i64 (iv : Int), .int .i64 kv] 3)) [.string ⟨#[122]⟩, .slice (some ⟨wr.heap.size, 0, none⟩) 2 2] 65 _ (by simp)) (by simp [Value.oneCell']) (by omega) (by unfold maxLen; omega) (by omega) (by simp; omega) ((wr.heap.size + 1) + 1) (by simp) ?_; intro g6 cap6 w6 hown6 hgrow6 _ _; have hb6 := (hst1.up (below_new _ _)).pbOf (own_alloc e2 _) (by decide) hgrow6; have q6 := hb6.cell 5; have f6 := hb6.frozen 5; have hN := (hst1.up (below_new (wr.alloc (.cells #[.int .i64 (iv : Int), .int .i64 kv] 3)) (.cells #[.string ⟨#[122]⟩, .slice (some ⟨wr.heap.size, 0, none⟩) 2 2] 65))).pushDest hs e1 (own_alloc e2 _) (fun i d q h1 h2 => own_alloc (e3 i d q h1 h2) _) (x := ⟨⟨#[122]⟩, [(iv : Int), kv]⟩) (own_alloc (own_newW wr w.heap.size 3 [.int .i64 (iv : Int), .int .i64 kv] wr.heap.size rfl hst.lt 2 rfl (by omega)) _) hown6 hgrow6) | go_values | go_skip | go_guarded | go_step | go_upon)
  done
set_option maxHeartbeats 8000000 in
set_option maxRecDepth 100000 in
theorem wild_9 {w : World} {sb pb : Nat} {l : List Int} {vn vl vd vc : Value} {wr : World} {p : PPlan} (hst : NetSt w sb pb l p.proto p.cap p.k vn vl vd vc p.nodes p.links p.dests p.checks wr) (hok : SrcOk l) (hp : NetOk p) (kv : Int) (hkv : kv < 100 ∨ 65535 < kv) (iv : Nat) (hiv : iv < p.nodes.length) (nm : ByteArray) (hnm : nm.size ≤ 13)
    (u0 u1 u9 u10 u11 u12 u13 u14 u15 u16 u17 u18 u19 u20 u21 u22 u23 u24 u25 u26 u27 u28 u29 u30 u31 u32 u33 u34 u35 u36 u37 u38 u39 u40 u41 u42 u43 u44 u45 u46 u47 u48 u49 u50 u51 u52 u53 u54 u55 u56 u57 u58 u59 u60 u61 u62 u63 u64 u65 u66 u67 u68 u69 u70 u71 u72 u73 u74 u75 u76 u77 u78 u79 u80 u81 u82 u83 u84 u85 u86 u87 u88 u89 u90 u91 u92 u93 u94 u95 u96 u97 u98 u99 u100 u101 u102 u103 u104 u105 u106 u107 u108 u109 u110 u111 u112 u113 u114 u115 u116 u117 u118 u119 u120 u121 u122 u123 u124 u125 u126 u127 u128 u129 u130 u131 u132 u133 u134 u135 u136 u137 u138 u139 u140 u141 u142 u143 u144 u145 u146 u147 u148 u149 u150 u151 u152 u153 u154 u155 : Value) :
    Code.wp Try.prog (wildC [true, true, true, true, true, true, true, true]) (bodyPost Try.prog Try.f8 (WildAs w)) ⟨List.toArray (u0 :: u1 :: .pointer (some ⟨w.heap.size, 0, none⟩) :: .pointer (some ⟨pb, 0, none⟩) :: .pointer (some ⟨sb, 0, none⟩) :: .int .i64 9 :: .int .i64 kv :: .int .i64 (iv : Int) :: .string nm :: u9 :: u10 :: u11 :: u12 :: u13 :: u14 :: u15 :: u16 :: u17 :: u18 :: u19 :: u20 :: u21 :: u22 :: u23 :: u24 :: u25 :: u26 :: u27 :: u28 :: u29 :: u30 :: u31 :: u32 :: u33 :: u34 :: u35 :: u36 :: u37 :: u38 :: u39 :: u40 :: u41 :: u42 :: u43 :: u44 :: u45 :: u46 :: u47 :: u48 :: u49 :: u50 :: u51 :: u52 :: u53 :: u54 :: u55 :: u56 :: u57 :: u58 :: u59 :: u60 :: u61 :: u62 :: u63 :: u64 :: u65 :: u66 :: u67 :: u68 :: u69 :: u70 :: u71 :: u72 :: u73 :: u74 :: u75 :: u76 :: u77 :: u78 :: u79 :: u80 :: u81 :: u82 :: u83 :: u84 :: u85 :: u86 :: u87 :: u88 :: u89 :: u90 :: u91 :: u92 :: u93 :: u94 :: u95 :: u96 :: u97 :: u98 :: u99 :: u100 :: u101 :: u102 :: u103 :: u104 :: u105 :: u106 :: u107 :: u108 :: u109 :: u110 :: u111 :: u112 :: u113 :: u114 :: u115 :: u116 :: u117 :: u118 :: u119 :: u120 :: u121 :: u122 :: u123 :: u124 :: u125 :: u126 :: u127 :: u128 :: u129 :: u130 :: u131 :: u132 :: u133 :: u134 :: u135 :: u136 :: u137 :: u138 :: u139 :: u140 :: u141 :: u142 :: u143 :: u144 :: u145 :: u146 :: u147 :: u148 :: u149 :: u150 :: u151 :: u152 :: u153 :: u154 :: u155 :: []), []⟩ wr := by
  obtain ⟨q0, q1, q2, q3, q4, q5, q6⟩ := box7 hst.blk
  have f0 := hst.blk.frozen 0
  have f1 := hst.blk.frozen 1
  have f2 := hst.blk.frozen 2
  have f4 := hst.blk.frozen 4
  have f5 := hst.blk.frozen 5
  have f6 := hst.blk.frozen 6
  obtain ⟨hs, e1, e2, e3⟩ := hst.dests
  obtain ⟨Ad, cd, rfl, hcd⟩ := own_form e2
  obtain ⟨iX, hiX, zX0, zX1, zX2⟩ := info_parts destInfo
  have hl9 := hp.dests1
  have hzz := hst.lt
  have q5a := hst.blk.cell 5
  have hfd := (fine_dest hp ⟨⟨#[122]⟩, []⟩ (by decide) (by simp))
  conv => arg 2; whnf
  repeat (first | exact wild_end hN hfd _ _ _ _ _ _ _ _ _ _ _ _ _ _ _ _ _ _ _ _ _ _ _ _ _ _ _ _ _ _ _ _ _ _ _ _ _ _ _ _ _ _ _ _ _ _ _ _ _ _ _ _ _ _ _ _ _ _ _ _ _ _ _ _ _ _ _ _ _ _ _ _ _ _ _ _ _ _ _ _ _ _ _ _ _ _ _ _ _ _ _ _ _ _ _ _ _ _ _ _ _ _ _ _ _ _ _ _ _ _ _ _ _ _ _ _ _ _ _ _ _ _ _ _ _ _ _ _ _ _ _ _ _ _ _ _ _ _ _ _ _ _ _ _ _ _ _ _ _ _ _ _ _ _ | (at_builtin; refine wpList_append_lies _ rfl _ _ _ rfl w.heap.size 65 iX (.agg #[.string ⟨#[]⟩, .slice none 0 0]) 2 40 Try.underlying26 hiX zX0 zX1 zX2 rfl (by decide) (.slice Ad p.dests.length cd) p.dests.length _ rfl (own_alloc e2 _) ⟨wr.heap.size, 0, none⟩ 1 1 [.string ⟨#[122]⟩, .slice none 0 0] rfl rfl (cells_newK wr [.string ⟨#[122]⟩, .slice none 0 0] 65 _ (by simp)) (by simp [Value.oneCell']) (by omega) (by unfold maxLen; omega) (by omega) (by simp; omega) (wr.heap.size + 1) (by simp) ?_; intro g6 cap6 w6 hown6 hgrow6 _ _; have hb6 := (hst.up (below_new _ _)).pbOf (own_alloc e2 _) (by decide) hgrow6; have q6 := hb6.cell 5; have f6 := hb6.frozen 5; have hN := (hst.up (below_new wr (.cells #[.string ⟨#[122]⟩, .slice none 0 0] 65))).pushDest hs e1 (own_alloc e2 _) (fun i d q h1 h2 => own_alloc (e3 i d q h1 h2) _) (x := ⟨⟨#[122]⟩, []⟩) (own_alloc (World.ownsRow_nil _ _ _ _) _) hown6 hgrow6) | go_values | go_skip | go_guarded | go_step | go_upon)
  done
end Go.Proofs.Ytlfdpfkimggeoaa
namespace Go.Proofs.Ytlfdpfkimggeoaa
open Go.RowKit
set_option linter.unusedVariables false
set_option linter.unusedSimpArgs false

set_option maxHeartbeats 8000000 in
set_option maxRecDepth 100000 in
theorem wild_12 {w : World} {sb pb : Nat} {l : List Int} {vn vl vd vc : Value} {wr : World} {p : PPlan} (hst : NetSt w sb pb l p.proto p.cap p.k vn vl vd vc p.nodes p.links p.dests p.checks wr) (hok : SrcOk l) (hp : NetOk p) (kv : Int) (hkv : kv < 100 ∨ 65535 < kv) (iv : Nat) (hiv : iv < p.nodes.length) (nm : ByteArray) (hnm : nm.size ≤ 13)
    (u0 u1 u9 u10 u11 u12 u13 u14 u15 u16 u17 u18 u19 u20 u21 u22 u23 u24 u25 u26 u27 u28 u29 u30 u31 u32 u33 u34 u35 u36 u37 u38 u39 u40 u41 u42 u43 u44 u45 u46 u47 u48 u49 u50 u51 u52 u53 u54 u55 u56 u57 u58 u59 u60 u61 u62 u63 u64 u65 u66 u67 u68 u69 u70 u71 u72 u73 u74 u75 u76 u77 u78 u79 u80 u81 u82 u83 u84 u85 u86 u87 u88 u89 u90 u91 u92 u93 u94 u95 u96 u97 u98 u99 u100 u101 u102 u103 u104 u105 u106 u107 u108 u109 u110 u111 u112 u113 u114 u115 u116 u117 u118 u119 u120 u121 u122 u123 u124 u125 u126 u127 u128 u129 u130 u131 u132 u133 u134 u135 u136 u137 u138 u139 u140 u141 u142 u143 u144 u145 u146 u147 u148 u149 u150 u151 u152 u153 u154 u155 : Value) :
    Code.wp Try.prog (wildC [true, true, true, true, true, true, true, true]) (bodyPost Try.prog Try.f8 (WildAs w)) ⟨List.toArray (u0 :: u1 :: .pointer (some ⟨w.heap.size, 0, none⟩) :: .pointer (some ⟨pb, 0, none⟩) :: .pointer (some ⟨sb, 0, none⟩) :: .int .i64 12 :: .int .i64 kv :: .int .i64 (iv : Int) :: .string nm :: u9 :: u10 :: u11 :: u12 :: u13 :: u14 :: u15 :: u16 :: u17 :: u18 :: u19 :: u20 :: u21 :: u22 :: u23 :: u24 :: u25 :: u26 :: u27 :: u28 :: u29 :: u30 :: u31 :: u32 :: u33 :: u34 :: u35 :: u36 :: u37 :: u38 :: u39 :: u40 :: u41 :: u42 :: u43 :: u44 :: u45 :: u46 :: u47 :: u48 :: u49 :: u50 :: u51 :: u52 :: u53 :: u54 :: u55 :: u56 :: u57 :: u58 :: u59 :: u60 :: u61 :: u62 :: u63 :: u64 :: u65 :: u66 :: u67 :: u68 :: u69 :: u70 :: u71 :: u72 :: u73 :: u74 :: u75 :: u76 :: u77 :: u78 :: u79 :: u80 :: u81 :: u82 :: u83 :: u84 :: u85 :: u86 :: u87 :: u88 :: u89 :: u90 :: u91 :: u92 :: u93 :: u94 :: u95 :: u96 :: u97 :: u98 :: u99 :: u100 :: u101 :: u102 :: u103 :: u104 :: u105 :: u106 :: u107 :: u108 :: u109 :: u110 :: u111 :: u112 :: u113 :: u114 :: u115 :: u116 :: u117 :: u118 :: u119 :: u120 :: u121 :: u122 :: u123 :: u124 :: u125 :: u126 :: u127 :: u128 :: u129 :: u130 :: u131 :: u132 :: u133 :: u134 :: u135 :: u136 :: u137 :: u138 :: u139 :: u140 :: u141 :: u142 :: u143 :: u144 :: u145 :: u146 :: u147 :: u148 :: u149 :: u150 :: u151 :: u152 :: u153 :: u154 :: u155 :: []), []⟩ wr := by
  obtain ⟨q0, q1, q2, q3, q4, q5, q6⟩ := box7 hst.blk
  have f0 := hst.blk.frozen 0
  have f1 := hst.blk.frozen 1
  have f2 := hst.blk.frozen 2
  have f4 := hst.blk.frozen 4
  have f5 := hst.blk.frozen 5
  have f6 := hst.blk.frozen 6
  obtain ⟨Ac, cc, rfl, hcc⟩ := own_form hst.checks
  obtain ⟨iX, hiX, zX0, zX1, zX2⟩ := info_parts checkInfo
  have hl9 := hp.checks1
  obtain ⟨x1, HX1, bx1⟩ := ex_nx l 4 (by omega)
  obtain ⟨L1, HT1⟩ := ex_tail l
  have ww3 : IntKind.i64.wrap (1 + (x1 : Int)) = 1 + (x1 : Int) := IntWalk.i64_in _ (by omega)
  have hst0 := hst.up ((Below.refl _ wr).drew)
  have hok0 := hok
  have q60 := hst0.blk.cell 6
  have HONE : Hid (∀ u ∈ [Value.int .i64 (1 + (x1 : Int)), Value.int .i64 0, Value.int .i64 kv, Value.int .i64 kv, Value.int .i64 (iv : Int)], u.oneCell' = true) := Lib.hid (by simp [Value.oneCell'])
  have HMX : Hid (p.checks.length + 1 ≤ maxLen) := Lib.hid (by unfold maxLen; omega)
  have HBY : Hid ((p.checks.length + 1) * 40 ≤ 140737488355328) := Lib.hid (by omega)
  have hfc := fine_check hp ⟨1 + (x1 : Int), 0, kv, kv, (iv : Int)⟩ (by dsimp only; omega)
  clear hst q0 q1 q2 q3 q4 q5
  conv => arg 2; whnf
  go_upto_region 35 with (fail)
  go_region_law (first
    | ((go_simp; go_at_call 32; (with_reducible refine (next_st 4 4 x1 L1 HX1 HT1 hst0 hok0 rfl (by omega) (by omega)).mono ?_); rintro e wz1 ⟨rfl, hst1, hok1, -⟩; have q61 := hst1.blk.cell 6; have q6o1 := fun o => (hst1.blk.alloc o).cell 6))
    | (refine step_append_lies _ rfl (.tmp 144) (.tmp 152) 27 rfl w.heap.size 67 iX (.agg #[.int .i64 0, .int .i64 0, .int .i64 0, .int .i64 0, .int .i64 0]) 5 40 Try.underlying27 hiX zX0 zX1 zX2 rfl (by decide) (.slice Ac p.checks.length cc) p.checks.length _ (by first | rfl | (apply rfl)) (hst1.up (below_new _ (.cells #[.int .i64 (1 + (x1 : Int)), .int .i64 0, .int .i64 kv, .int .i64 kv, .int .i64 (iv : Int)] 67))).checks ⟨wz1.heap.size, 0, none⟩ 1 1 [.int .i64 (1 + (x1 : Int)), .int .i64 0, .int .i64 kv, .int .i64 kv, .int .i64 (iv : Int)] (by first | rfl | (apply rfl)) (by first | rfl | (apply rfl)) (World.news_of_block (cs := #[.int .i64 (1 + (x1 : Int)), .int .i64 0, .int .i64 kv, .int .i64 kv, .int .i64 (iv : Int)]) (t := 67) (fr := (0, 0)) (heap_alloc_new _ _)) HONE.out Nat.zero_lt_one HMX.out HBY.out (Nat.le_trans hst1.lt (below_new _ _).size) (wz1.heap.size + 1) (World.size_alloc _ _) ?_; intro gg cap w6 hown6 hgrow6 hat6 hlt6; have hb6 := (hst1.up (below_new wz1 (.cells #[.int .i64 (1 + (x1 : Int)), .int .i64 0, .int .i64 kv, .int .i64 kv, .int .i64 (iv : Int)] 67))).pbOf (hst1.up (below_new _ (.cells #[.int .i64 (1 + (x1 : Int)), .int .i64 0, .int .i64 kv, .int .i64 kv, .int .i64 (iv : Int)] 67))).checks (by decide) hgrow6; have q6 := hb6.cell 6; have f6 := hb6.frozen 6))
  all_goals
    have hN := (hst1.up (below_new wz1 (.cells #[.int .i64 (1 + (x1 : Int)), .int .i64 0, .int .i64 kv, .int .i64 kv, .int .i64 (iv : Int)] 67))).pushCheck (x := ⟨1 + (x1 : Int), 0, kv, kv, (iv : Int)⟩) hown6 hgrow6
    repeat (first | exact wild_end hN hfc _ _ _ _ _ _ _ _ _ _ _ _ _ _ _ _ _ _ _ _ _ _ _ _ _ _ _ _ _ _ _ _ _ _ _ _ _ _ _ _ _ _ _ _ _ _ _ _ _ _ _ _ _ _ _ _ _ _ _ _ _ _ _ _ _ _ _ _ _ _ _ _ _ _ _ _ _ _ _ _ _ _ _ _ _ _ _ _ _ _ _ _ _ _ _ _ _ _ _ _ _ _ _ _ _ _ _ _ _ _ _ _ _ _ _ _ _ _ _ _ _ _ _ _ _ _ _ _ _ _ _ _ _ _ _ _ _ _ _ _ _ _ _ _ _ _ _ _ _ _ _ _ _ _ | go_values | go_skip | go_guarded | go_step | go_upon)
    done
end Go.Proofs.Ytlfdpfkimggeoaa
namespace Go.Proofs.Ytlfdpfkimggeoaa
open Go.RowKit
set_option linter.unusedVariables false
set_option linter.unusedSimpArgs false

set_option maxHeartbeats 8000000 in
set_option maxRecDepth 100000 in
theorem wild_11 {w : World} {sb pb : Nat} {l : List Int} {vn vl vd vc : Value} {wr : World} {p : PPlan} (hst : NetSt w sb pb l p.proto p.cap p.k vn vl vd vc p.nodes p.links p.dests p.checks wr) (hok : SrcOk l) (hp : NetOk p) (kv : Int) (hkv : kv < 100 ∨ 65535 < kv) (iv : Nat) (hiv : iv < p.nodes.length) (nm : ByteArray) (hnm : nm.size ≤ 13)
    (u0 u1 u9 u10 u11 u12 u13 u14 u15 u16 u17 u18 u19 u20 u21 u22 u23 u24 u25 u26 u27 u28 u29 u30 u31 u32 u33 u34 u35 u36 u37 u38 u39 u40 u41 u42 u43 u44 u45 u46 u47 u48 u49 u50 u51 u52 u53 u54 u55 u56 u57 u58 u59 u60 u61 u62 u63 u64 u65 u66 u67 u68 u69 u70 u71 u72 u73 u74 u75 u76 u77 u78 u79 u80 u81 u82 u83 u84 u85 u86 u87 u88 u89 u90 u91 u92 u93 u94 u95 u96 u97 u98 u99 u100 u101 u102 u103 u104 u105 u106 u107 u108 u109 u110 u111 u112 u113 u114 u115 u116 u117 u118 u119 u120 u121 u122 u123 u124 u125 u126 u127 u128 u129 u130 u131 u132 u133 u134 u135 u136 u137 u138 u139 u140 u141 u142 u143 u144 u145 u146 u147 u148 u149 u150 u151 u152 u153 u154 u155 : Value) :
    Code.wp Try.prog (wildC [true, true, true, true, true, true, true, true]) (bodyPost Try.prog Try.f8 (WildAs w)) ⟨List.toArray (u0 :: u1 :: .pointer (some ⟨w.heap.size, 0, none⟩) :: .pointer (some ⟨pb, 0, none⟩) :: .pointer (some ⟨sb, 0, none⟩) :: .int .i64 11 :: .int .i64 kv :: .int .i64 (iv : Int) :: .string nm :: u9 :: u10 :: u11 :: u12 :: u13 :: u14 :: u15 :: u16 :: u17 :: u18 :: u19 :: u20 :: u21 :: u22 :: u23 :: u24 :: u25 :: u26 :: u27 :: u28 :: u29 :: u30 :: u31 :: u32 :: u33 :: u34 :: u35 :: u36 :: u37 :: u38 :: u39 :: u40 :: u41 :: u42 :: u43 :: u44 :: u45 :: u46 :: u47 :: u48 :: u49 :: u50 :: u51 :: u52 :: u53 :: u54 :: u55 :: u56 :: u57 :: u58 :: u59 :: u60 :: u61 :: u62 :: u63 :: u64 :: u65 :: u66 :: u67 :: u68 :: u69 :: u70 :: u71 :: u72 :: u73 :: u74 :: u75 :: u76 :: u77 :: u78 :: u79 :: u80 :: u81 :: u82 :: u83 :: u84 :: u85 :: u86 :: u87 :: u88 :: u89 :: u90 :: u91 :: u92 :: u93 :: u94 :: u95 :: u96 :: u97 :: u98 :: u99 :: u100 :: u101 :: u102 :: u103 :: u104 :: u105 :: u106 :: u107 :: u108 :: u109 :: u110 :: u111 :: u112 :: u113 :: u114 :: u115 :: u116 :: u117 :: u118 :: u119 :: u120 :: u121 :: u122 :: u123 :: u124 :: u125 :: u126 :: u127 :: u128 :: u129 :: u130 :: u131 :: u132 :: u133 :: u134 :: u135 :: u136 :: u137 :: u138 :: u139 :: u140 :: u141 :: u142 :: u143 :: u144 :: u145 :: u146 :: u147 :: u148 :: u149 :: u150 :: u151 :: u152 :: u153 :: u154 :: u155 :: []), []⟩ wr := by
  obtain ⟨q0, q1, q2, q3, q4, q5, q6⟩ := box7 hst.blk
  have f0 := hst.blk.frozen 0
  have f1 := hst.blk.frozen 1
  have f2 := hst.blk.frozen 2
  have f4 := hst.blk.frozen 4
  have f5 := hst.blk.frozen 5
  have f6 := hst.blk.frozen 6
  obtain ⟨Ac, cc, rfl, hcc⟩ := own_form hst.checks
  obtain ⟨iX, hiX, zX0, zX1, zX2⟩ := info_parts checkInfo
  have hl9 := hp.checks1
  obtain ⟨x1, HX1, bx1⟩ := ex_nx l 2 (by omega)
  obtain ⟨L1, HT1⟩ := ex_tail l
  obtain ⟨x2, HX2, bx2⟩ := ex_nx L1 2 (by omega)
  obtain ⟨L2, HT2⟩ := ex_tail L1
  obtain ⟨m, hm, hm4⟩ : ∃ m : Nat, (iv : Int) % 4 = (m : Int) ∧ m < 4 := ⟨iv % 4, by omega, by omega⟩
  have hn12 := hp.nodes1
  have tw : (iv : Int).tmod 4 = (m : Int) := by rw [Int.tmod_eq_emod_of_nonneg (by omega)]; exact hm
  have ww2 : IntKind.i64.wrap (m : Int) = (m : Int) := IntWalk.i64_in _ (by omega)
  have ww3 : IntKind.i64.wrap (1 + (m : Int)) = 1 + (m : Int) := IntWalk.i64_in _ (by omega)
  have hst0 := hst.up ((Below.refl _ wr).drew)
  have hok0 := hok
  have q60 := hst0.blk.cell 6
  have HONE : Hid (∀ u ∈ [Value.int .i64 (1 + (m : Int)), Value.int .i64 kv, Value.int .i64 0, Value.int .i64 (x1 : Int), Value.int .i64 (x2 : Int)], u.oneCell' = true) := Lib.hid (by simp [Value.oneCell'])
  have HMX : Hid (p.checks.length + 1 ≤ maxLen) := Lib.hid (by unfold maxLen; omega)
  have HBY : Hid ((p.checks.length + 1) * 40 ≤ 140737488355328) := Lib.hid (by omega)
  have hfc := fine_check hp ⟨1 + (m : Int), kv, 0, (x1 : Int), (x2 : Int)⟩ (by dsimp only; omega)
  clear hst q0 q1 q2 q3 q4 q5
  conv => arg 2; whnf
  go_upto_region 33 with (fail)
  go_region_law (first
    | ((go_simp; go_at_call 32; (with_reducible refine (next_st 2 2 x2 L2 HX2 HT2 hst1 hok1 rfl (by omega) (by omega)).mono ?_); rintro e wz2 ⟨rfl, hst2, hok2, -⟩; have q62 := hst2.blk.cell 6; have q6o2 := fun o => (hst2.blk.alloc o).cell 6))
    | ((go_simp; go_at_call 32; (with_reducible refine (next_st 2 2 x1 L1 HX1 HT1 hst0 hok0 rfl (by omega) (by omega)).mono ?_); rintro e wz1 ⟨rfl, hst1, hok1, -⟩; have q61 := hst1.blk.cell 6; have q6o1 := fun o => (hst1.blk.alloc o).cell 6))
    | (refine step_append_lies _ rfl (.tmp 128) (.tmp 138) 27 rfl w.heap.size 67 iX (.agg #[.int .i64 0, .int .i64 0, .int .i64 0, .int .i64 0, .int .i64 0]) 5 40 Try.underlying27 hiX zX0 zX1 zX2 rfl (by decide) (.slice Ac p.checks.length cc) p.checks.length _ (by first | rfl | (apply rfl)) (hst2.up (below_new _ (.cells #[.int .i64 (1 + (m : Int)), .int .i64 kv, .int .i64 0, .int .i64 (x1 : Int), .int .i64 (x2 : Int)] 67))).checks ⟨wz2.heap.size, 0, none⟩ 1 1 [.int .i64 (1 + (m : Int)), .int .i64 kv, .int .i64 0, .int .i64 (x1 : Int), .int .i64 (x2 : Int)] (by first | rfl | (apply rfl)) (by first | rfl | (apply rfl)) (World.news_of_block (cs := #[.int .i64 (1 + (m : Int)), .int .i64 kv, .int .i64 0, .int .i64 (x1 : Int), .int .i64 (x2 : Int)]) (t := 67) (fr := (0, 0)) (heap_alloc_new _ _)) HONE.out Nat.zero_lt_one HMX.out HBY.out (Nat.le_trans hst2.lt (below_new _ _).size) (wz2.heap.size + 1) (World.size_alloc _ _) ?_; intro gg cap w6 hown6 hgrow6 hat6 hlt6; have hb6 := (hst2.up (below_new wz2 (.cells #[.int .i64 (1 + (m : Int)), .int .i64 kv, .int .i64 0, .int .i64 (x1 : Int), .int .i64 (x2 : Int)] 67))).pbOf (hst2.up (below_new _ (.cells #[.int .i64 (1 + (m : Int)), .int .i64 kv, .int .i64 0, .int .i64 (x1 : Int), .int .i64 (x2 : Int)] 67))).checks (by decide) hgrow6; have q6 := hb6.cell 6; have f6 := hb6.frozen 6))
  all_goals
    have hN := (hst2.up (below_new wz2 (.cells #[.int .i64 (1 + (m : Int)), .int .i64 kv, .int .i64 0, .int .i64 (x1 : Int), .int .i64 (x2 : Int)] 67))).pushCheck (x := ⟨1 + (m : Int), kv, 0, (x1 : Int), (x2 : Int)⟩) hown6 hgrow6
    repeat (first | exact wild_end hN hfc _ _ _ _ _ _ _ _ _ _ _ _ _ _ _ _ _ _ _ _ _ _ _ _ _ _ _ _ _ _ _ _ _ _ _ _ _ _ _ _ _ _ _ _ _ _ _ _ _ _ _ _ _ _ _ _ _ _ _ _ _ _ _ _ _ _ _ _ _ _ _ _ _ _ _ _ _ _ _ _ _ _ _ _ _ _ _ _ _ _ _ _ _ _ _ _ _ _ _ _ _ _ _ _ _ _ _ _ _ _ _ _ _ _ _ _ _ _ _ _ _ _ _ _ _ _ _ _ _ _ _ _ _ _ _ _ _ _ _ _ _ _ _ _ _ _ _ _ _ _ _ _ _ _ | go_values | go_skip | go_guarded | go_step | go_upon)
    done
end Go.Proofs.Ytlfdpfkimggeoaa
