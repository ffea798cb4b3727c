/-
  Wild: a destination more.
-/
import Derived.Test.YtdmilbfdiebjgaaDoorPlXb
import Derived.Maps.AppendAt
namespace Go.Proofs.YtdmilbfdiebjgaaDoor
open Go.RowKit
set_option linter.unusedVariables false
set_option linter.unusedSimpArgs false

theorem own_newW (w : World) (base : Nat) (e : TypeId) (xs : List Value) (k : Nat) (hk : w.heap.size = k) (hb : base ≤ k) (n : Nat) (hn : xs.length = n) (hm : n ≤ 4096) : (w.alloc (.cells xs.toArray e)).ownsRow base e 1 (.slice (some ⟨k, 0, none⟩) n n) n xs := by
  subst hk hn
  exact ⟨by simp, .inr ⟨w.heap.size, xs.length, xs.toArray, rfl, hb, Blk.new w e _, Nat.le_refl _, by unfold maxLen; omega, by simp, by simp⟩⟩
theorem cells_newK (w : World) (xs : List Value) (t : TypeId) (k : Nat) (hk : w.heap.size = k) : ∀ j u, xs[j]? = some u → (w.alloc (.cells xs.toArray t)).cell? ((⟨k, 0, none⟩ : Addr).add j) = some u := by
  subst hk; exact cells_new w xs t
set_option maxHeartbeats 8000000 in
set_option maxRecDepth 100000 in
theorem wild_7 {w : World} {sb pb : Nat} {l : List Int} {vn vl vd vc : Value} {wr : World} {p : PPlan} (hst : NetSt w sb pb l p.proto p.cap p.k vn vl vd vc p.nodes p.links p.dests p.checks wr) (hok : SrcOk l) (hp : NetOk p) (kv : Int) (hkv : kv < 100 ∨ 65535 < kv) (iv : Nat) (hiv : iv < p.nodes.length) (nm : ByteArray) (hnm : nm.size ≤ 13)
    (u0 u1 u9 u10 u11 u12 u13 u14 u15 u16 u17 u18 u19 u20 u21 u22 u23 u24 u25 u26 u27 u28 u29 u30 u31 u32 u33 u34 u35 u36 u37 u38 u39 u40 u41 u42 u43 u44 u45 u46 u47 u48 u49 u50 u51 u52 u53 u54 u55 u56 u57 u58 u59 u60 u61 u62 u63 u64 u65 u66 u67 u68 u69 u70 u71 u72 u73 u74 u75 u76 u77 u78 u79 u80 u81 u82 u83 u84 u85 u86 u87 u88 u89 u90 u91 u92 u93 u94 u95 u96 u97 u98 u99 u100 u101 u102 u103 u104 u105 u106 u107 u108 u109 u110 u111 u112 u113 u114 u115 u116 u117 u118 u119 u120 u121 u122 u123 u124 u125 u126 u127 u128 u129 u130 u131 u132 u133 u134 u135 u136 u137 u138 u139 u140 u141 u142 u143 u144 u145 u146 u147 u148 u149 u150 u151 u152 u153 u154 u155 : Value) :
    Code.wp Tryd.prog (wildC [true, true, true, true, true, true, true, true]) (bodyPost Tryd.prog Tryd.f5 (WildAs w)) ⟨List.toArray (u0 :: u1 :: .pointer (some ⟨w.heap.size, 0, none⟩) :: .pointer (some ⟨pb, 0, none⟩) :: .pointer (some ⟨sb, 0, none⟩) :: .int .i64 7 :: .int .i64 kv :: .int .i64 (iv : Int) :: .string nm :: u9 :: u10 :: u11 :: u12 :: u13 :: u14 :: u15 :: u16 :: u17 :: u18 :: u19 :: u20 :: u21 :: u22 :: u23 :: u24 :: u25 :: u26 :: u27 :: u28 :: u29 :: u30 :: u31 :: u32 :: u33 :: u34 :: u35 :: u36 :: u37 :: u38 :: u39 :: u40 :: u41 :: u42 :: u43 :: u44 :: u45 :: u46 :: u47 :: u48 :: u49 :: u50 :: u51 :: u52 :: u53 :: u54 :: u55 :: u56 :: u57 :: u58 :: u59 :: u60 :: u61 :: u62 :: u63 :: u64 :: u65 :: u66 :: u67 :: u68 :: u69 :: u70 :: u71 :: u72 :: u73 :: u74 :: u75 :: u76 :: u77 :: u78 :: u79 :: u80 :: u81 :: u82 :: u83 :: u84 :: u85 :: u86 :: u87 :: u88 :: u89 :: u90 :: u91 :: u92 :: u93 :: u94 :: u95 :: u96 :: u97 :: u98 :: u99 :: u100 :: u101 :: u102 :: u103 :: u104 :: u105 :: u106 :: u107 :: u108 :: u109 :: u110 :: u111 :: u112 :: u113 :: u114 :: u115 :: u116 :: u117 :: u118 :: u119 :: u120 :: u121 :: u122 :: u123 :: u124 :: u125 :: u126 :: u127 :: u128 :: u129 :: u130 :: u131 :: u132 :: u133 :: u134 :: u135 :: u136 :: u137 :: u138 :: u139 :: u140 :: u141 :: u142 :: u143 :: u144 :: u145 :: u146 :: u147 :: u148 :: u149 :: u150 :: u151 :: u152 :: u153 :: u154 :: u155 :: []), []⟩ wr := by
  obtain ⟨q0, q1, q2, q3, q4, q5, q6⟩ := box7 hst.blk
  have f0 := hst.blk.frozen 0
  have f1 := hst.blk.frozen 1
  have f2 := hst.blk.frozen 2
  have f4 := hst.blk.frozen 4
  have f5 := hst.blk.frozen 5
  have f6 := hst.blk.frozen 6
  have hst1 := hst.up (below_new wr (.cells #[.int .i64 (iv : Int)] 3))
  obtain ⟨hs, e1, e2, e3⟩ := hst1.dests
  obtain ⟨Ad, cd, rfl, hcd⟩ := own_form e2
  obtain ⟨iX, hiX, zX0, zX1, zX2⟩ := info_parts destInfo
  have hl9 := hp.dests1
  have hzz := hst.lt
  have q5a := hst1.blk.cell 5
  have hfd := (fine_dest hp ⟨nm, [(iv : Int)]⟩ (by dsimp only; omega) (by simp))
  conv => arg 2; whnf
  repeat (first | exact wild_end hN hfd _ _ _ _ _ _ _ _ _ _ _ _ _ _ _ _ _ _ _ _ _ _ _ _ _ _ _ _ _ _ _ _ _ _ _ _ _ _ _ _ _ _ _ _ _ _ _ _ _ _ _ _ _ _ _ _ _ _ _ _ _ _ _ _ _ _ _ _ _ _ _ _ _ _ _ _ _ _ _ _ _ _ _ _ _ _ _ _ _ _ _ _ _ _ _ _ _ _ _ _ _ _ _ _ _ _ _ _ _ _ _ _ _ _ _ _ _ _ _ _ _ _ _ _ _ _ _ _ _ _ _ _ _ _ _ _ _ _ _ _ _ _ _ _ _ _ _ _ _ _ _ _ _ _ | (at_builtin; refine wpList_append_lies _ rfl _ _ _ rfl w.heap.size 49 iX (.agg #[.string ⟨#[]⟩, .slice none 0 0]) 2 40 Tryd.underlying26 hiX zX0 zX1 zX2 rfl (by decide) (.slice Ad p.dests.length cd) p.dests.length _ rfl (own_alloc e2 _) ⟨(wr.heap.size + 1), 0, none⟩ 1 1 [.string nm, .slice (some ⟨wr.heap.size, 0, none⟩) 1 1] rfl rfl (cells_newK (wr.alloc (.cells #[.int .i64 (iv : Int)] 3)) [.string nm, .slice (some ⟨wr.heap.size, 0, none⟩) 1 1] 49 _ (by simp)) (by simp [Value.oneCell']) (by omega) (by unfold maxLen; omega) (by omega) (by simp; omega) ((wr.heap.size + 1) + 1) (by simp) ?_; intro g6 cap6 w6 hown6 hgrow6 _ _; have hb6 := (hst1.up (below_new _ _)).pbOf (own_alloc e2 _) (by decide) hgrow6; have q6 := hb6.cell 5; have f6 := hb6.frozen 5; have hN := (hst1.up (below_new (wr.alloc (.cells #[.int .i64 (iv : Int)] 3)) (.cells #[.string nm, .slice (some ⟨wr.heap.size, 0, none⟩) 1 1] 49))).pushDest hs e1 (own_alloc e2 _) (fun i d q h1 h2 => own_alloc (e3 i d q h1 h2) _) (x := ⟨nm, [(iv : Int)]⟩) (own_alloc (own_newW wr w.heap.size 3 [.int .i64 (iv : Int)] wr.heap.size rfl hst.lt 1 rfl (by omega)) _) hown6 hgrow6) | go_values | go_skip | go_guarded | go_step | go_upon)
  done
set_option maxHeartbeats 8000000 in
set_option maxRecDepth 100000 in
theorem wild_8 {w : World} {sb pb : Nat} {l : List Int} {vn vl vd vc : Value} {wr : World} {p : PPlan} (hst : NetSt w sb pb l p.proto p.cap p.k vn vl vd vc p.nodes p.links p.dests p.checks wr) (hok : SrcOk l) (hp : NetOk p) (kv : Int) (hkv : kv < 100 ∨ 65535 < kv) (iv : Nat) (hiv : iv < p.nodes.length) (nm : ByteArray) (hnm : nm.size ≤ 13)
    (u0 u1 u9 u10 u11 u12 u13 u14 u15 u16 u17 u18 u19 u20 u21 u22 u23 u24 u25 u26 u27 u28 u29 u30 u31 u32 u33 u34 u35 u36 u37 u38 u39 u40 u41 u42 u43 u44 u45 u46 u47 u48 u49 u50 u51 u52 u53 u54 u55 u56 u57 u58 u59 u60 u61 u62 u63 u64 u65 u66 u67 u68 u69 u70 u71 u72 u73 u74 u75 u76 u77 u78 u79 u80 u81 u82 u83 u84 u85 u86 u87 u88 u89 u90 u91 u92 u93 u94 u95 u96 u97 u98 u99 u100 u101 u102 u103 u104 u105 u106 u107 u108 u109 u110 u111 u112 u113 u114 u115 u116 u117 u118 u119 u120 u121 u122 u123 u124 u125 u126 u127 u128 u129 u130 u131 u132 u133 u134 u135 u136 u137 u138 u139 u140 u141 u142 u143 u144 u145 u146 u147 u148 u149 u150 u151 u152 u153 u154 u155 : Value) :
    Code.wp Tryd.prog (wildC [true, true, true, true, true, true, true, true]) (bodyPost Tryd.prog Tryd.f5 (WildAs w)) ⟨List.toArray (u0 :: u1 :: .pointer (some ⟨w.heap.size, 0, none⟩) :: .pointer (some ⟨pb, 0, none⟩) :: .pointer (some ⟨sb, 0, none⟩) :: .int .i64 8 :: .int .i64 kv :: .int .i64 (iv : Int) :: .string nm :: u9 :: u10 :: u11 :: u12 :: u13 :: u14 :: u15 :: u16 :: u17 :: u18 :: u19 :: u20 :: u21 :: u22 :: u23 :: u24 :: u25 :: u26 :: u27 :: u28 :: u29 :: u30 :: u31 :: u32 :: u33 :: u34 :: u35 :: u36 :: u37 :: u38 :: u39 :: u40 :: u41 :: u42 :: u43 :: u44 :: u45 :: u46 :: u47 :: u48 :: u49 :: u50 :: u51 :: u52 :: u53 :: u54 :: u55 :: u56 :: u57 :: u58 :: u59 :: u60 :: u61 :: u62 :: u63 :: u64 :: u65 :: u66 :: u67 :: u68 :: u69 :: u70 :: u71 :: u72 :: u73 :: u74 :: u75 :: u76 :: u77 :: u78 :: u79 :: u80 :: u81 :: u82 :: u83 :: u84 :: u85 :: u86 :: u87 :: u88 :: u89 :: u90 :: u91 :: u92 :: u93 :: u94 :: u95 :: u96 :: u97 :: u98 :: u99 :: u100 :: u101 :: u102 :: u103 :: u104 :: u105 :: u106 :: u107 :: u108 :: u109 :: u110 :: u111 :: u112 :: u113 :: u114 :: u115 :: u116 :: u117 :: u118 :: u119 :: u120 :: u121 :: u122 :: u123 :: u124 :: u125 :: u126 :: u127 :: u128 :: u129 :: u130 :: u131 :: u132 :: u133 :: u134 :: u135 :: u136 :: u137 :: u138 :: u139 :: u140 :: u141 :: u142 :: u143 :: u144 :: u145 :: u146 :: u147 :: u148 :: u149 :: u150 :: u151 :: u152 :: u153 :: u154 :: u155 :: []), []⟩ wr := by
  obtain ⟨q0, q1, q2, q3, q4, q5, q6⟩ := box7 hst.blk
  have f0 := hst.blk.frozen 0
  have f1 := hst.blk.frozen 1
  have f2 := hst.blk.frozen 2
  have f4 := hst.blk.frozen 4
  have f5 := hst.blk.frozen 5
  have f6 := hst.blk.frozen 6
  have hst1 := hst.up (below_new wr (.cells #[.int .i64 (iv : Int), .int .i64 kv] 3))
  obtain ⟨hs, e1, e2, e3⟩ := hst1.dests
  obtain ⟨Ad, cd, rfl, hcd⟩ := own_form e2
  obtain ⟨iX, hiX, zX0, zX1, zX2⟩ := info_parts destInfo
  have hl9 := hp.dests1
  have hzz := hst.lt
  have q5a := hst1.blk.cell 5
  have hfd := fine_dest hp ⟨⟨#[122]⟩, [(iv : Int), kv]⟩ (show (⟨#[122]⟩ : ByteArray).size ≤ 4096 by decide) (by simp)
  conv => arg 2; whnf
  repeat (first | exact wild_end hN hfd _ _ _ _ _ _ _ _ _ _ _ _ _ _ _ _ _ _ _ _ _ _ _ _ _ _ _ _ _ _ _ _ _ _ _ _ _ _ _ _ _ _ _ _ _ _ _ _ _ _ _ _ _ _ _ _ _ _ _ _ _ _ _ _ _ _ _ _ _ _ _ _ _ _ _ _ _ _ _ _ _ _ _ _ _ _ _ _ _ _ _ _ _ _ _ _ _ _ _ _ _ _ _ _ _ _ _ _ _ _ _ _ _ _ _ _ _ _ _ _ _ _ _ _ _ _ _ _ _ _ _ _ _ _ _ _ _ _ _ _ _ _ _ _ _ _ _ _ _ _ _ _ _ _ | (at_builtin; refine wpList_append_lies _ rfl _ _ _ rfl w.heap.size 49 iX (.agg #[.string ⟨#[]⟩, .slice none 0 0]) 2 40 Tryd.underlying26 hiX zX0 zX1 zX2 rfl (by decide) (.slice Ad p.dests.length cd) p.dests.length _ rfl (own_alloc e2 _) ⟨(wr.heap.size + 1), 0, none⟩ 1 1 [.string ⟨#[122]⟩, .slice (some ⟨wr.heap.size, 0, none⟩) 2 2] rfl rfl (cells_newK (wr.alloc (.cells #[.int .i64 (iv : Int), .int .i64 kv] 3)) [.string ⟨#[122]⟩, .slice (some ⟨wr.heap.size, 0, none⟩) 2 2] 49 _ (by simp)) (by simp [Value.oneCell']) (by omega) (by unfold maxLen; omega) (by omega) (by simp; omega) ((wr.heap.size + 1) + 1) (by simp) ?_; intro g6 cap6 w6 hown6 hgrow6 _ _; have hb6 := (hst1.up (below_new _ _)).pbOf (own_alloc e2 _) (by decide) hgrow6; have q6 := hb6.cell 5; have f6 := hb6.frozen 5; have hN := (hst1.up (below_new (wr.alloc (.cells #[.int .i64 (iv : Int), .int .i64 kv] 3)) (.cells #[.string ⟨#[122]⟩, .slice (some ⟨wr.heap.size, 0, none⟩) 2 2] 49))).pushDest hs e1 (own_alloc e2 _) (fun i d q h1 h2 => own_alloc (e3 i d q h1 h2) _) (x := ⟨⟨#[122]⟩, [(iv : Int), kv]⟩) (own_alloc (own_newW wr w.heap.size 3 [.int .i64 (iv : Int), .int .i64 kv] wr.heap.size rfl hst.lt 2 rfl (by omega)) _) hown6 hgrow6) | go_values | go_skip | go_guarded | go_step | go_upon)
  done
set_option maxHeartbeats 8000000 in
set_option maxRecDepth 100000 in
theorem wild_9 {w : World} {sb pb : Nat} {l : List Int} {vn vl vd vc : Value} {wr : World} {p : PPlan} (hst : NetSt w sb pb l p.proto p.cap p.k vn vl vd vc p.nodes p.links p.dests p.checks wr) (hok : SrcOk l) (hp : NetOk p) (kv : Int) (hkv : kv < 100 ∨ 65535 < kv) (iv : Nat) (hiv : iv < p.nodes.length) (nm : ByteArray) (hnm : nm.size ≤ 13)
    (u0 u1 u9 u10 u11 u12 u13 u14 u15 u16 u17 u18 u19 u20 u21 u22 u23 u24 u25 u26 u27 u28 u29 u30 u31 u32 u33 u34 u35 u36 u37 u38 u39 u40 u41 u42 u43 u44 u45 u46 u47 u48 u49 u50 u51 u52 u53 u54 u55 u56 u57 u58 u59 u60 u61 u62 u63 u64 u65 u66 u67 u68 u69 u70 u71 u72 u73 u74 u75 u76 u77 u78 u79 u80 u81 u82 u83 u84 u85 u86 u87 u88 u89 u90 u91 u92 u93 u94 u95 u96 u97 u98 u99 u100 u101 u102 u103 u104 u105 u106 u107 u108 u109 u110 u111 u112 u113 u114 u115 u116 u117 u118 u119 u120 u121 u122 u123 u124 u125 u126 u127 u128 u129 u130 u131 u132 u133 u134 u135 u136 u137 u138 u139 u140 u141 u142 u143 u144 u145 u146 u147 u148 u149 u150 u151 u152 u153 u154 u155 : Value) :
    Code.wp Tryd.prog (wildC [true, true, true, true, true, true, true, true]) (bodyPost Tryd.prog Tryd.f5 (WildAs w)) ⟨List.toArray (u0 :: u1 :: .pointer (some ⟨w.heap.size, 0, none⟩) :: .pointer (some ⟨pb, 0, none⟩) :: .pointer (some ⟨sb, 0, none⟩) :: .int .i64 9 :: .int .i64 kv :: .int .i64 (iv : Int) :: .string nm :: u9 :: u10 :: u11 :: u12 :: u13 :: u14 :: u15 :: u16 :: u17 :: u18 :: u19 :: u20 :: u21 :: u22 :: u23 :: u24 :: u25 :: u26 :: u27 :: u28 :: u29 :: u30 :: u31 :: u32 :: u33 :: u34 :: u35 :: u36 :: u37 :: u38 :: u39 :: u40 :: u41 :: u42 :: u43 :: u44 :: u45 :: u46 :: u47 :: u48 :: u49 :: u50 :: u51 :: u52 :: u53 :: u54 :: u55 :: u56 :: u57 :: u58 :: u59 :: u60 :: u61 :: u62 :: u63 :: u64 :: u65 :: u66 :: u67 :: u68 :: u69 :: u70 :: u71 :: u72 :: u73 :: u74 :: u75 :: u76 :: u77 :: u78 :: u79 :: u80 :: u81 :: u82 :: u83 :: u84 :: u85 :: u86 :: u87 :: u88 :: u89 :: u90 :: u91 :: u92 :: u93 :: u94 :: u95 :: u96 :: u97 :: u98 :: u99 :: u100 :: u101 :: u102 :: u103 :: u104 :: u105 :: u106 :: u107 :: u108 :: u109 :: u110 :: u111 :: u112 :: u113 :: u114 :: u115 :: u116 :: u117 :: u118 :: u119 :: u120 :: u121 :: u122 :: u123 :: u124 :: u125 :: u126 :: u127 :: u128 :: u129 :: u130 :: u131 :: u132 :: u133 :: u134 :: u135 :: u136 :: u137 :: u138 :: u139 :: u140 :: u141 :: u142 :: u143 :: u144 :: u145 :: u146 :: u147 :: u148 :: u149 :: u150 :: u151 :: u152 :: u153 :: u154 :: u155 :: []), []⟩ wr := by
  obtain ⟨q0, q1, q2, q3, q4, q5, q6⟩ := box7 hst.blk
  have f0 := hst.blk.frozen 0
  have f1 := hst.blk.frozen 1
  have f2 := hst.blk.frozen 2
  have f4 := hst.blk.frozen 4
  have f5 := hst.blk.frozen 5
  have f6 := hst.blk.frozen 6
  obtain ⟨hs, e1, e2, e3⟩ := hst.dests
  obtain ⟨Ad, cd, rfl, hcd⟩ := own_form e2
  obtain ⟨iX, hiX, zX0, zX1, zX2⟩ := info_parts destInfo
  have hl9 := hp.dests1
  have hzz := hst.lt
  have q5a := hst.blk.cell 5
  have hfd := (fine_dest hp ⟨⟨#[122]⟩, []⟩ (by decide) (by simp))
  conv => arg 2; whnf
  repeat (first | exact wild_end hN hfd _ _ _ _ _ _ _ _ _ _ _ _ _ _ _ _ _ _ _ _ _ _ _ _ _ _ _ _ _ _ _ _ _ _ _ _ _ _ _ _ _ _ _ _ _ _ _ _ _ _ _ _ _ _ _ _ _ _ _ _ _ _ _ _ _ _ _ _ _ _ _ _ _ _ _ _ _ _ _ _ _ _ _ _ _ _ _ _ _ _ _ _ _ _ _ _ _ _ _ _ _ _ _ _ _ _ _ _ _ _ _ _ _ _ _ _ _ _ _ _ _ _ _ _ _ _ _ _ _ _ _ _ _ _ _ _ _ _ _ _ _ _ _ _ _ _ _ _ _ _ _ _ _ _ | (at_builtin; refine wpList_append_lies _ rfl _ _ _ rfl w.heap.size 49 iX (.agg #[.string ⟨#[]⟩, .slice none 0 0]) 2 40 Tryd.underlying26 hiX zX0 zX1 zX2 rfl (by decide) (.slice Ad p.dests.length cd) p.dests.length _ rfl (own_alloc e2 _) ⟨wr.heap.size, 0, none⟩ 1 1 [.string ⟨#[122]⟩, .slice none 0 0] rfl rfl (cells_newK wr [.string ⟨#[122]⟩, .slice none 0 0] 49 _ (by simp)) (by simp [Value.oneCell']) (by omega) (by unfold maxLen; omega) (by omega) (by simp; omega) (wr.heap.size + 1) (by simp) ?_; intro g6 cap6 w6 hown6 hgrow6 _ _; have hb6 := (hst.up (below_new _ _)).pbOf (own_alloc e2 _) (by decide) hgrow6; have q6 := hb6.cell 5; have f6 := hb6.frozen 5; have hN := (hst.up (below_new wr (.cells #[.string ⟨#[122]⟩, .slice none 0 0] 49))).pushDest hs e1 (own_alloc e2 _) (fun i d q h1 h2 => own_alloc (e3 i d q h1 h2) _) (x := ⟨⟨#[122]⟩, []⟩) (own_alloc (World.ownsRow_nil _ _ _ _) _) hown6 hgrow6) | go_values | go_skip | go_guarded | go_step | go_upon)
  done
end Go.Proofs.YtdmilbfdiebjgaaDoor
