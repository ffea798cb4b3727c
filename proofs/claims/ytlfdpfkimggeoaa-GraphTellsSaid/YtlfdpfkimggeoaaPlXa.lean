/-
  Wild: its end; a network's head changed.
-/
import Derived.Test.YtlfdpfkimggeoaaPlUn
import Derived.Maps.AppendAt
namespace Go.Proofs.Ytlfdpfkimggeoaa
open Go.RowKit
set_option linter.unusedVariables false
set_option linter.unusedSimpArgs false

end Go.Proofs.Ytlfdpfkimggeoaa
namespace Go.Proofs.Ytlfdpfkimggeoaa
open Go.RowKit
set_option linter.unusedVariables false
set_option linter.unusedSimpArgs false

end Go.Proofs.Ytlfdpfkimggeoaa
namespace Go.Proofs.Ytlfdpfkimggeoaa
open Go.RowKit
set_option linter.unusedVariables false
set_option linter.unusedSimpArgs false

theorem within_is {n a b : Int} (h : withinB n a b = true) : a ≤ n ∧ n ≤ b := by
  unfold withinB at h; simpa using h
theorem place_is {n : Int} {m : Nat} (h : placeB n m = true) : 0 ≤ n ∧ n < m := by
  unfold placeB at h; simpa using h
theorem origF_in : ∀ (m : Nat) (l : List Int) (least : Int), 0 ≤ least → origF m l least = true → ∀ a ∈ l, 0 ≤ a ∧ a < m
  | _, [], _, _, _, a, h => by cases h
  | m, x :: r, least, h0, h, a, ha => by
    unfold origF at h
    rw [Bool.and_eq_true] at h
    obtain ⟨h1, h2⟩ := h
    have h3 := within_is h1
    rcases List.mem_cons.1 ha with e | e
    · rw [e]; omega
    · exact origF_in m r (x + 1) (by omega) h2 a e
theorem right_tiny {p : PPlan} (h : rightB p = true) (hn : ∀ n ∈ p.nodes, n.num < 100 ∨ 65535 < n.num) (hc : ∀ c ∈ p.checks, c.limit < 100 ∨ 65535 < c.limit) : PTiny p := by
  unfold rightB at h
  simp only [Bool.and_eq_true] at h
  obtain ⟨h1, h2, h3, h4, h5, h6⟩ := h
  unfold nodesB at h3
  unfold linksB at h4
  unfold destsB at h5
  unfold checksB at h6
  rw [Bool.and_eq_true] at h3 h4 h5 h6
  have n0 := within_is h3.1
  have k0 := within_is h2
  have l0 : p.links.length ≤ 16 := by simpa using h4.1
  refine ⟨?_, ⟨p.k.toNat, by omega, by omega⟩, fun n hm => ?_, fun l hm => ?_, fun d hm a ha => ?_, fun c hm => ?_⟩
  · unfold protoB at h1
    by_cases e1 : p.proto = 1
    · rw [if_pos e1] at h1
      exact ⟨0, by simpa using h1, by omega⟩
    · rw [if_neg e1] at h1
      by_cases e2 : p.proto = 2
      · rw [if_pos e2] at h1
        have := within_is h1
        exact ⟨p.cap.toNat, by omega, by omega⟩
      · rw [if_neg e2] at h1; cases h1
  · obtain ⟨i, hi⟩ := List.getElem?_of_mem hm
    have := (allF_iff _ _ _).1 h3.2 i n hi
    unfold nodeOk at this
    simp only [Bool.and_eq_true] at this
    have h9 := within_is this.2.2
    rcases hn n hm with h | h
    · exact ⟨n.num.toNat, by omega, by omega⟩
    · omega
  · obtain ⟨i, hi⟩ := List.getElem?_of_mem hm
    have := (allF_iff _ _ _).1 h4.2 i l hi
    unfold linkOk at this
    simp only [Bool.and_eq_true] at this
    have a1 := place_is this.1
    have a2 := within_is this.2.1
    have a3 := within_is this.2.2.1
    exact ⟨l.a.toNat, l.b.toNat, l.cost.toNat, by omega, by omega, by omega, by omega, by omega, by omega⟩
  · obtain ⟨i, hi⟩ := List.getElem?_of_mem hm
    have := (allF_iff _ _ _).1 h5.2 i d hi
    unfold destOk origB at this
    simp only [Bool.and_eq_true] at this
    have := origF_in _ _ 0 (by omega) this.2.2.2.1 a ha
    exact ⟨a.toNat, by omega, by omega⟩
  · obtain ⟨i, hi⟩ := List.getElem?_of_mem hm
    have := (allF_iff _ _ _).1 h6.2 i c hi
    unfold checkB at this
    by_cases hk : c.kind = 1 ∨ c.kind = 2 ∨ c.kind = 3 ∨ c.kind = 4
    · rw [if_pos hk] at this
      simp only [Bool.and_eq_true] at this
      have a1 := place_is this.1
      have a2 := place_is this.2.1
      have a3 := within_is this.2.2.1
      have a4 := within_is this.2.2.2
      have a5 : limB c.kind ≤ 65535 := by unfold limB; split <;> omega
      have a6 : othB c.kind p.nodes.length ≤ (p.nodes.length : Int) - 1 := by unfold othB; split <;> omega
      have a7 := hc c hm
      exact ⟨hk, c.node.toNat, c.dest.toNat, c.limit.toNat, c.other.toNat, by omega, by omega, by omega, by omega, by omega, by omega, by omega, by omega⟩
    · rw [if_neg hk] at this; cases this
/-- What Print tells of a network. -/
def printS (p : PPlan) : ByteArray := if rightB p = true then ⟨(textB p).toArray⟩ else ⟨#[]⟩
def printE (p : PPlan) : Int := if rightB p = true then 0 else 1
/-- A network at hand: small; of small numbers if it may be. -/
structure PFine (p : PPlan) : Prop where
  small : PSmall p
  tiny : rightB p = true → PTiny p
section
variable {p : PPlan} {pr ca kk : Int} {An Al Ad Ac : Option Addr} {ln cn ll cl ld cd lc cc : Nat} {w : World}
end
/-! ### Networks that Net makes, with one thing changed -/
theorem NetOk.fine {p : PPlan} (h : NetOk p) : PFine p := ⟨h.small, fun _ => h.tiny⟩
theorem tiny_nums {p : PPlan} (h : PTiny p) : ∀ n ∈ p.nodes, n.num < 100 ∨ 65535 < n.num := fun n hm => by
  obtain ⟨i, e, hi⟩ := h.nodes n hm; omega
theorem tiny_limits {p : PPlan} (h : PTiny p) : ∀ c ∈ p.checks, c.limit < 100 ∨ 65535 < c.limit := fun c hm => by
  obtain ⟨_, n, d, li, o, _, _, e, _, _, _, _, hl⟩ := h.checks c hm; omega
theorem fine_head {p : PPlan} (h : NetOk p) (pr ca k : Int) : PFine { p with proto := pr, cap := ca, k := k } :=
  ⟨⟨h.small.nodes, h.small.dests, h.small.ln, h.small.ll, h.small.ld, h.small.lc⟩, fun hr => right_tiny hr (tiny_nums (p := p) h.tiny) (tiny_limits (p := p) h.tiny)⟩
theorem fine_node {p : PPlan} (h : NetOk p) (i : Nat) (nm : ByteArray) (num : Int) (hm : nm.size ≤ 4096) (hn : num < 100 ∨ 65535 < num) : PFine { p with nodes := p.nodes.set i ⟨nm, num⟩ } :=
  ⟨⟨fun n hx => by rcases List.mem_or_eq_of_mem_set hx with h1 | h1; exact h.small.nodes n h1; rw [h1]; exact hm, h.small.dests, by show (p.nodes.set i _).length ≤ _; rw [List.length_set]; exact h.small.ln, h.small.ll, h.small.ld, h.small.lc⟩, fun hr => right_tiny hr (fun n hx => by rcases List.mem_or_eq_of_mem_set hx with h1 | h1; exact tiny_nums (p := p) h.tiny n h1; rw [h1]; exact hn) (tiny_limits (p := p) h.tiny)⟩
theorem fine_link {p : PPlan} (h : NetOk p) (x : PLink) : PFine { p with links := p.links ++ [x] } :=
  ⟨⟨h.small.nodes, h.small.dests, h.small.ln, by show (p.links ++ [x]).length ≤ _; rw [List.length_append]; have := h.links1; simp; omega, h.small.ld, h.small.lc⟩, fun hr => right_tiny hr (tiny_nums (p := p) h.tiny) (tiny_limits (p := p) h.tiny)⟩
theorem fine_dest {p : PPlan} (h : NetOk p) (x : PDest) (hm : x.name.size ≤ 4096) (ho : x.orig.length ≤ 4000) : PFine { p with dests := p.dests ++ [x] } :=
  ⟨⟨h.small.nodes, fun d hx => by rcases List.mem_append.1 hx with h1 | h1; exact h.small.dests d h1; rw [List.mem_singleton] at h1; rw [h1]; exact ⟨hm, ho⟩, h.small.ln, h.small.ll, by show (p.dests ++ [x]).length ≤ _; rw [List.length_append]; have := h.dests1; simp; omega, h.small.lc⟩, fun hr => right_tiny hr (tiny_nums (p := p) h.tiny) (tiny_limits (p := p) h.tiny)⟩
theorem fine_check {p : PPlan} (h : NetOk p) (x : PCheck) (hl : x.limit < 100 ∨ 65535 < x.limit) : PFine { p with checks := p.checks ++ [x] } :=
  ⟨⟨h.small.nodes, h.small.dests, h.small.ln, h.small.ll, h.small.ld, by show (p.checks ++ [x]).length ≤ _; rw [List.length_append]; have := h.checks1; simp; omega⟩, fun hr => right_tiny hr (tiny_nums (p := p) h.tiny) (fun c hx => by rcases List.mem_append.1 hx with h1 | h1; exact tiny_limits (p := p) h.tiny c h1; rw [List.mem_singleton] at h1; rw [h1]; exact hl)⟩
end Go.Proofs.Ytlfdpfkimggeoaa
namespace Go.Proofs.Ytlfdpfkimggeoaa
open Go.RowKit
set_option linter.unusedVariables false
set_option linter.unusedSimpArgs false

noncomputable def wildC (p : List Bool) : Code := (Try.f8.body.map (codeAtP p)).getD .skip
/-- What Wild tells. -/
def WildAs (w : World) (e : Ending) (w' : World) : Prop :=
  ∃ p vn vl vd vc, PFine p ∧ e = .returned (.agg #[.int .i64 p.proto, .int .i64 p.cap, .int .i64 p.k, vn, vl, vd, vc]) ∧ POwn w.heap.size p vn vl vd vc w' ∧ Below w.heap.size w w'
set_option maxHeartbeats 8000000 in
set_option maxRecDepth 100000 in
theorem wild_end {w : World} {sb pb : Nat} {l : List Int} {vn vl vd vc : Value} {wr : World} {pr ca kk : Int} {ns : List PNode} {ls : List PLink} {ds : List PDest} {cs : List PCheck} (hst : NetSt w sb pb l pr ca kk vn vl vd vc ns ls ds cs wr) (hf : PFine ⟨pr, ca, kk, ns, ls, ds, cs⟩)
    (u0 u1 u4 u5 u6 u7 u8 u9 u10 u11 u12 u13 u14 u15 u16 u17 u18 u19 u20 u21 u22 u23 u24 u25 u26 u27 u28 u29 u30 u31 u32 u33 u34 u35 u36 u37 u38 u39 u40 u41 u42 u43 u44 u45 u46 u47 u48 u49 u50 u51 u52 u53 u54 u55 u56 u57 u58 u59 u60 u61 u62 u63 u64 u65 u66 u67 u68 u69 u70 u71 u72 u73 u74 u75 u76 u77 u78 u79 u80 u81 u82 u83 u84 u85 u86 u87 u88 u89 u90 u91 u92 u93 u94 u95 u96 u97 u98 u99 u100 u101 u102 u103 u104 u105 u106 u107 u108 u109 u110 u111 u112 u113 u114 u115 u116 u117 u118 u119 u120 u121 u122 u123 u124 u125 u126 u127 u128 u129 u130 u131 u132 u133 u134 u135 u136 u137 u138 u139 u140 u141 u142 u143 u144 u145 u146 u147 u148 u149 u150 u151 u152 u153 u154 u155 : Value) :
    Code.wp Try.prog (wildC [true, true, true, true, true, true, true, true, true]) (bodyPost Try.prog Try.f8 (WildAs w)) ⟨List.toArray (u0 :: u1 :: .pointer (some ⟨w.heap.size, 0, none⟩) :: .pointer (some ⟨pb, 0, none⟩) :: u4 :: u5 :: u6 :: u7 :: u8 :: u9 :: u10 :: u11 :: u12 :: u13 :: u14 :: u15 :: u16 :: u17 :: u18 :: u19 :: u20 :: u21 :: u22 :: u23 :: u24 :: u25 :: u26 :: u27 :: u28 :: u29 :: u30 :: u31 :: u32 :: u33 :: u34 :: u35 :: u36 :: u37 :: u38 :: u39 :: u40 :: u41 :: u42 :: u43 :: u44 :: u45 :: u46 :: u47 :: u48 :: u49 :: u50 :: u51 :: u52 :: u53 :: u54 :: u55 :: u56 :: u57 :: u58 :: u59 :: u60 :: u61 :: u62 :: u63 :: u64 :: u65 :: u66 :: u67 :: u68 :: u69 :: u70 :: u71 :: u72 :: u73 :: u74 :: u75 :: u76 :: u77 :: u78 :: u79 :: u80 :: u81 :: u82 :: u83 :: u84 :: u85 :: u86 :: u87 :: u88 :: u89 :: u90 :: u91 :: u92 :: u93 :: u94 :: u95 :: u96 :: u97 :: u98 :: u99 :: u100 :: u101 :: u102 :: u103 :: u104 :: u105 :: u106 :: u107 :: u108 :: u109 :: u110 :: u111 :: u112 :: u113 :: u114 :: u115 :: u116 :: u117 :: u118 :: u119 :: u120 :: u121 :: u122 :: u123 :: u124 :: u125 :: u126 :: u127 :: u128 :: u129 :: u130 :: u131 :: u132 :: u133 :: u134 :: u135 :: u136 :: u137 :: u138 :: u139 :: u140 :: u141 :: u142 :: u143 :: u144 :: u145 :: u146 :: u147 :: u148 :: u149 :: u150 :: u151 :: u152 :: u153 :: u154 :: u155 :: []), []⟩ wr := by
  obtain ⟨An, cn, rfl, hcn⟩ := own_form hst.nodes
  obtain ⟨Al, cl, rfl, hcl⟩ := own_form hst.links
  obtain ⟨_, _, ve2, _⟩ := hst.dests
  obtain ⟨Ad, cd, rfl, hcd⟩ := own_form ve2
  obtain ⟨Ac, cc, rfl, hcc⟩ := own_form hst.checks
  obtain ⟨q0, q1, q2, q3, q4, q5, q6⟩ := box7 hst.blk
  have hR := hst.result
  have hth := there_of_blk hst.res
  obtain ⟨W, hW⟩ : ∃ W, wr.setCells w.heap.size 0 [.int .i64 pr, .int .i64 ca, .int .i64 kk, .slice An ns.length cn, .slice Al ls.length cl, .slice Ad ds.length cd, .slice Ac cs.length cc] = W := ⟨_, rfl⟩
  rw [hW] at hR
  have HR := Lib.hid hR
  have HW := Lib.hid hW
  have HTH := Lib.hid hth
  clear hR hW hth hst ve2
  conv => arg 2; whnf
  go_step
  go_step
  go_step
  go_step
  go_step
  refine wpList_store_mid rfl 29 (.tmp 2) (.tmp 155) rfl w.heap.size 0 #[.int .i64 pr, .int .i64 ca, .int .i64 kk, .slice An ns.length cn, .slice Al ls.length cl, .slice Ad ds.length cd, .slice Ac cs.length cc] (by rfl) (by rfl) HTH.out (by kernel_rfl) (by simp [Value.oneCell']) ?_
  rw [HW.out]
  obtain ⟨r0, r1, r2, r3, r4, r5, r6⟩ := box7 HR.out.blk
  clear q0 q1 q2 q3 q4 q5 q6
  go_wp2_with fail
  refine bodyPost_ret (v := .agg #[.int .i64 pr, .int .i64 ca, .int .i64 kk, .slice An ns.length cn, .slice Al ls.length cl, .slice Ad ds.length cd, .slice Ac cs.length cc]) (by simp [results, Try.results8, go_sem, r0, r1, r2, r3, r4, r5, r6]) rfl ?_
  exact ⟨_, _, _, _, _, hf, rfl, HR.out.own, HR.out.up⟩
set_option maxHeartbeats 8000000 in
set_option maxRecDepth 100000 in
theorem wild_0 {w : World} {sb pb : Nat} {l : List Int} {vn vl vd vc : Value} {wr : World} {p : PPlan} (hst : NetSt w sb pb l p.proto p.cap p.k vn vl vd vc p.nodes p.links p.dests p.checks wr) (hok : SrcOk l) (hp : NetOk p) (kv : Int) (hkv : kv < 100 ∨ 65535 < kv) (iv : Nat) (hiv : iv < p.nodes.length) (nm : ByteArray) (hnm : nm.size ≤ 13)
    (u0 u1 u9 u10 u11 u12 u13 u14 u15 u16 u17 u18 u19 u20 u21 u22 u23 u24 u25 u26 u27 u28 u29 u30 u31 u32 u33 u34 u35 u36 u37 u38 u39 u40 u41 u42 u43 u44 u45 u46 u47 u48 u49 u50 u51 u52 u53 u54 u55 u56 u57 u58 u59 u60 u61 u62 u63 u64 u65 u66 u67 u68 u69 u70 u71 u72 u73 u74 u75 u76 u77 u78 u79 u80 u81 u82 u83 u84 u85 u86 u87 u88 u89 u90 u91 u92 u93 u94 u95 u96 u97 u98 u99 u100 u101 u102 u103 u104 u105 u106 u107 u108 u109 u110 u111 u112 u113 u114 u115 u116 u117 u118 u119 u120 u121 u122 u123 u124 u125 u126 u127 u128 u129 u130 u131 u132 u133 u134 u135 u136 u137 u138 u139 u140 u141 u142 u143 u144 u145 u146 u147 u148 u149 u150 u151 u152 u153 u154 u155 : Value) :
    Code.wp Try.prog (wildC [true, true, true, true, true, true, true, true]) (bodyPost Try.prog Try.f8 (WildAs w)) ⟨List.toArray (u0 :: u1 :: .pointer (some ⟨w.heap.size, 0, none⟩) :: .pointer (some ⟨pb, 0, none⟩) :: .pointer (some ⟨sb, 0, none⟩) :: .int .i64 0 :: .int .i64 kv :: .int .i64 (iv : Int) :: .string nm :: u9 :: u10 :: u11 :: u12 :: u13 :: u14 :: u15 :: u16 :: u17 :: u18 :: u19 :: u20 :: u21 :: u22 :: u23 :: u24 :: u25 :: u26 :: u27 :: u28 :: u29 :: u30 :: u31 :: u32 :: u33 :: u34 :: u35 :: u36 :: u37 :: u38 :: u39 :: u40 :: u41 :: u42 :: u43 :: u44 :: u45 :: u46 :: u47 :: u48 :: u49 :: u50 :: u51 :: u52 :: u53 :: u54 :: u55 :: u56 :: u57 :: u58 :: u59 :: u60 :: u61 :: u62 :: u63 :: u64 :: u65 :: u66 :: u67 :: u68 :: u69 :: u70 :: u71 :: u72 :: u73 :: u74 :: u75 :: u76 :: u77 :: u78 :: u79 :: u80 :: u81 :: u82 :: u83 :: u84 :: u85 :: u86 :: u87 :: u88 :: u89 :: u90 :: u91 :: u92 :: u93 :: u94 :: u95 :: u96 :: u97 :: u98 :: u99 :: u100 :: u101 :: u102 :: u103 :: u104 :: u105 :: u106 :: u107 :: u108 :: u109 :: u110 :: u111 :: u112 :: u113 :: u114 :: u115 :: u116 :: u117 :: u118 :: u119 :: u120 :: u121 :: u122 :: u123 :: u124 :: u125 :: u126 :: u127 :: u128 :: u129 :: u130 :: u131 :: u132 :: u133 :: u134 :: u135 :: u136 :: u137 :: u138 :: u139 :: u140 :: u141 :: u142 :: u143 :: u144 :: u145 :: u146 :: u147 :: u148 :: u149 :: u150 :: u151 :: u152 :: u153 :: u154 :: u155 :: []), []⟩ wr := by
  obtain ⟨q0, q1, q2, q3, q4, q5, q6⟩ := box7 hst.blk
  have f0 := hst.blk.frozen 0
  have f1 := hst.blk.frozen 1
  have f2 := hst.blk.frozen 2
  have f4 := hst.blk.frozen 4
  have f5 := hst.blk.frozen 5
  have f6 := hst.blk.frozen 6
  have h2 := hst.put 0 (.int .i64 kv) kv p.cap p.k rfl
  conv => arg 2; whnf
  repeat (first | exact wild_end h2 (fine_head hp kv p.cap p.k) _ _ _ _ _ _ _ _ _ _ _ _ _ _ _ _ _ _ _ _ _ _ _ _ _ _ _ _ _ _ _ _ _ _ _ _ _ _ _ _ _ _ _ _ _ _ _ _ _ _ _ _ _ _ _ _ _ _ _ _ _ _ _ _ _ _ _ _ _ _ _ _ _ _ _ _ _ _ _ _ _ _ _ _ _ _ _ _ _ _ _ _ _ _ _ _ _ _ _ _ _ _ _ _ _ _ _ _ _ _ _ _ _ _ _ _ _ _ _ _ _ _ _ _ _ _ _ _ _ _ _ _ _ _ _ _ _ _ _ _ _ _ _ _ _ _ _ _ _ _ _ _ _ _ | go_values | go_skip | go_guarded | go_step | go_upon)
  done
set_option maxHeartbeats 8000000 in
set_option maxRecDepth 100000 in
theorem wild_1 {w : World} {sb pb : Nat} {l : List Int} {vn vl vd vc : Value} {wr : World} {p : PPlan} (hst : NetSt w sb pb l p.proto p.cap p.k vn vl vd vc p.nodes p.links p.dests p.checks wr) (hok : SrcOk l) (hp : NetOk p) (kv : Int) (hkv : kv < 100 ∨ 65535 < kv) (iv : Nat) (hiv : iv < p.nodes.length) (nm : ByteArray) (hnm : nm.size ≤ 13)
    (u0 u1 u9 u10 u11 u12 u13 u14 u15 u16 u17 u18 u19 u20 u21 u22 u23 u24 u25 u26 u27 u28 u29 u30 u31 u32 u33 u34 u35 u36 u37 u38 u39 u40 u41 u42 u43 u44 u45 u46 u47 u48 u49 u50 u51 u52 u53 u54 u55 u56 u57 u58 u59 u60 u61 u62 u63 u64 u65 u66 u67 u68 u69 u70 u71 u72 u73 u74 u75 u76 u77 u78 u79 u80 u81 u82 u83 u84 u85 u86 u87 u88 u89 u90 u91 u92 u93 u94 u95 u96 u97 u98 u99 u100 u101 u102 u103 u104 u105 u106 u107 u108 u109 u110 u111 u112 u113 u114 u115 u116 u117 u118 u119 u120 u121 u122 u123 u124 u125 u126 u127 u128 u129 u130 u131 u132 u133 u134 u135 u136 u137 u138 u139 u140 u141 u142 u143 u144 u145 u146 u147 u148 u149 u150 u151 u152 u153 u154 u155 : Value) :
    Code.wp Try.prog (wildC [true, true, true, true, true, true, true, true]) (bodyPost Try.prog Try.f8 (WildAs w)) ⟨List.toArray (u0 :: u1 :: .pointer (some ⟨w.heap.size, 0, none⟩) :: .pointer (some ⟨pb, 0, none⟩) :: .pointer (some ⟨sb, 0, none⟩) :: .int .i64 1 :: .int .i64 kv :: .int .i64 (iv : Int) :: .string nm :: u9 :: u10 :: u11 :: u12 :: u13 :: u14 :: u15 :: u16 :: u17 :: u18 :: u19 :: u20 :: u21 :: u22 :: u23 :: u24 :: u25 :: u26 :: u27 :: u28 :: u29 :: u30 :: u31 :: u32 :: u33 :: u34 :: u35 :: u36 :: u37 :: u38 :: u39 :: u40 :: u41 :: u42 :: u43 :: u44 :: u45 :: u46 :: u47 :: u48 :: u49 :: u50 :: u51 :: u52 :: u53 :: u54 :: u55 :: u56 :: u57 :: u58 :: u59 :: u60 :: u61 :: u62 :: u63 :: u64 :: u65 :: u66 :: u67 :: u68 :: u69 :: u70 :: u71 :: u72 :: u73 :: u74 :: u75 :: u76 :: u77 :: u78 :: u79 :: u80 :: u81 :: u82 :: u83 :: u84 :: u85 :: u86 :: u87 :: u88 :: u89 :: u90 :: u91 :: u92 :: u93 :: u94 :: u95 :: u96 :: u97 :: u98 :: u99 :: u100 :: u101 :: u102 :: u103 :: u104 :: u105 :: u106 :: u107 :: u108 :: u109 :: u110 :: u111 :: u112 :: u113 :: u114 :: u115 :: u116 :: u117 :: u118 :: u119 :: u120 :: u121 :: u122 :: u123 :: u124 :: u125 :: u126 :: u127 :: u128 :: u129 :: u130 :: u131 :: u132 :: u133 :: u134 :: u135 :: u136 :: u137 :: u138 :: u139 :: u140 :: u141 :: u142 :: u143 :: u144 :: u145 :: u146 :: u147 :: u148 :: u149 :: u150 :: u151 :: u152 :: u153 :: u154 :: u155 :: []), []⟩ wr := by
  obtain ⟨q0, q1, q2, q3, q4, q5, q6⟩ := box7 hst.blk
  have f0 := hst.blk.frozen 0
  have f1 := hst.blk.frozen 1
  have f2 := hst.blk.frozen 2
  have f4 := hst.blk.frozen 4
  have f5 := hst.blk.frozen 5
  have f6 := hst.blk.frozen 6
  have h2 := hst.put 1 (.int .i64 kv) p.proto kv p.k rfl
  conv => arg 2; whnf
  repeat (first | exact wild_end h2 (fine_head hp p.proto kv p.k) _ _ _ _ _ _ _ _ _ _ _ _ _ _ _ _ _ _ _ _ _ _ _ _ _ _ _ _ _ _ _ _ _ _ _ _ _ _ _ _ _ _ _ _ _ _ _ _ _ _ _ _ _ _ _ _ _ _ _ _ _ _ _ _ _ _ _ _ _ _ _ _ _ _ _ _ _ _ _ _ _ _ _ _ _ _ _ _ _ _ _ _ _ _ _ _ _ _ _ _ _ _ _ _ _ _ _ _ _ _ _ _ _ _ _ _ _ _ _ _ _ _ _ _ _ _ _ _ _ _ _ _ _ _ _ _ _ _ _ _ _ _ _ _ _ _ _ _ _ _ _ _ _ _ | go_values | go_skip | go_guarded | go_step | go_upon)
  done
set_option maxHeartbeats 8000000 in
set_option maxRecDepth 100000 in
theorem wild_2 {w : World} {sb pb : Nat} {l : List Int} {vn vl vd vc : Value} {wr : World} {p : PPlan} (hst : NetSt w sb pb l p.proto p.cap p.k vn vl vd vc p.nodes p.links p.dests p.checks wr) (hok : SrcOk l) (hp : NetOk p) (kv : Int) (hkv : kv < 100 ∨ 65535 < kv) (iv : Nat) (hiv : iv < p.nodes.length) (nm : ByteArray) (hnm : nm.size ≤ 13)
    (u0 u1 u9 u10 u11 u12 u13 u14 u15 u16 u17 u18 u19 u20 u21 u22 u23 u24 u25 u26 u27 u28 u29 u30 u31 u32 u33 u34 u35 u36 u37 u38 u39 u40 u41 u42 u43 u44 u45 u46 u47 u48 u49 u50 u51 u52 u53 u54 u55 u56 u57 u58 u59 u60 u61 u62 u63 u64 u65 u66 u67 u68 u69 u70 u71 u72 u73 u74 u75 u76 u77 u78 u79 u80 u81 u82 u83 u84 u85 u86 u87 u88 u89 u90 u91 u92 u93 u94 u95 u96 u97 u98 u99 u100 u101 u102 u103 u104 u105 u106 u107 u108 u109 u110 u111 u112 u113 u114 u115 u116 u117 u118 u119 u120 u121 u122 u123 u124 u125 u126 u127 u128 u129 u130 u131 u132 u133 u134 u135 u136 u137 u138 u139 u140 u141 u142 u143 u144 u145 u146 u147 u148 u149 u150 u151 u152 u153 u154 u155 : Value) :
    Code.wp Try.prog (wildC [true, true, true, true, true, true, true, true]) (bodyPost Try.prog Try.f8 (WildAs w)) ⟨List.toArray (u0 :: u1 :: .pointer (some ⟨w.heap.size, 0, none⟩) :: .pointer (some ⟨pb, 0, none⟩) :: .pointer (some ⟨sb, 0, none⟩) :: .int .i64 2 :: .int .i64 kv :: .int .i64 (iv : Int) :: .string nm :: u9 :: u10 :: u11 :: u12 :: u13 :: u14 :: u15 :: u16 :: u17 :: u18 :: u19 :: u20 :: u21 :: u22 :: u23 :: u24 :: u25 :: u26 :: u27 :: u28 :: u29 :: u30 :: u31 :: u32 :: u33 :: u34 :: u35 :: u36 :: u37 :: u38 :: u39 :: u40 :: u41 :: u42 :: u43 :: u44 :: u45 :: u46 :: u47 :: u48 :: u49 :: u50 :: u51 :: u52 :: u53 :: u54 :: u55 :: u56 :: u57 :: u58 :: u59 :: u60 :: u61 :: u62 :: u63 :: u64 :: u65 :: u66 :: u67 :: u68 :: u69 :: u70 :: u71 :: u72 :: u73 :: u74 :: u75 :: u76 :: u77 :: u78 :: u79 :: u80 :: u81 :: u82 :: u83 :: u84 :: u85 :: u86 :: u87 :: u88 :: u89 :: u90 :: u91 :: u92 :: u93 :: u94 :: u95 :: u96 :: u97 :: u98 :: u99 :: u100 :: u101 :: u102 :: u103 :: u104 :: u105 :: u106 :: u107 :: u108 :: u109 :: u110 :: u111 :: u112 :: u113 :: u114 :: u115 :: u116 :: u117 :: u118 :: u119 :: u120 :: u121 :: u122 :: u123 :: u124 :: u125 :: u126 :: u127 :: u128 :: u129 :: u130 :: u131 :: u132 :: u133 :: u134 :: u135 :: u136 :: u137 :: u138 :: u139 :: u140 :: u141 :: u142 :: u143 :: u144 :: u145 :: u146 :: u147 :: u148 :: u149 :: u150 :: u151 :: u152 :: u153 :: u154 :: u155 :: []), []⟩ wr := by
  obtain ⟨q0, q1, q2, q3, q4, q5, q6⟩ := box7 hst.blk
  have f0 := hst.blk.frozen 0
  have f1 := hst.blk.frozen 1
  have f2 := hst.blk.frozen 2
  have f4 := hst.blk.frozen 4
  have f5 := hst.blk.frozen 5
  have f6 := hst.blk.frozen 6
  have h2 := hst.put 2 (.int .i64 kv) p.proto p.cap kv rfl
  conv => arg 2; whnf
  repeat (first | exact wild_end h2 (fine_head hp p.proto p.cap kv) _ _ _ _ _ _ _ _ _ _ _ _ _ _ _ _ _ _ _ _ _ _ _ _ _ _ _ _ _ _ _ _ _ _ _ _ _ _ _ _ _ _ _ _ _ _ _ _ _ _ _ _ _ _ _ _ _ _ _ _ _ _ _ _ _ _ _ _ _ _ _ _ _ _ _ _ _ _ _ _ _ _ _ _ _ _ _ _ _ _ _ _ _ _ _ _ _ _ _ _ _ _ _ _ _ _ _ _ _ _ _ _ _ _ _ _ _ _ _ _ _ _ _ _ _ _ _ _ _ _ _ _ _ _ _ _ _ _ _ _ _ _ _ _ _ _ _ _ _ _ _ _ _ _ | go_values | go_skip | go_guarded | go_step | go_upon)
  done
set_option maxHeartbeats 8000000 in
set_option maxRecDepth 100000 in
theorem wild_13 {w : World} {sb pb : Nat} {l : List Int} {vn vl vd vc : Value} {wr : World} {p : PPlan} (hst : NetSt w sb pb l p.proto p.cap p.k vn vl vd vc p.nodes p.links p.dests p.checks wr) (hok : SrcOk l) (hp : NetOk p) (kv : Int) (hkv : kv < 100 ∨ 65535 < kv) (iv : Nat) (hiv : iv < p.nodes.length) (nm : ByteArray) (hnm : nm.size ≤ 13)
    (u0 u1 u9 u10 u11 u12 u13 u14 u15 u16 u17 u18 u19 u20 u21 u22 u23 u24 u25 u26 u27 u28 u29 u30 u31 u32 u33 u34 u35 u36 u37 u38 u39 u40 u41 u42 u43 u44 u45 u46 u47 u48 u49 u50 u51 u52 u53 u54 u55 u56 u57 u58 u59 u60 u61 u62 u63 u64 u65 u66 u67 u68 u69 u70 u71 u72 u73 u74 u75 u76 u77 u78 u79 u80 u81 u82 u83 u84 u85 u86 u87 u88 u89 u90 u91 u92 u93 u94 u95 u96 u97 u98 u99 u100 u101 u102 u103 u104 u105 u106 u107 u108 u109 u110 u111 u112 u113 u114 u115 u116 u117 u118 u119 u120 u121 u122 u123 u124 u125 u126 u127 u128 u129 u130 u131 u132 u133 u134 u135 u136 u137 u138 u139 u140 u141 u142 u143 u144 u145 u146 u147 u148 u149 u150 u151 u152 u153 u154 u155 : Value) :
    Code.wp Try.prog (wildC [true, true, true, true, true, true, true, true]) (bodyPost Try.prog Try.f8 (WildAs w)) ⟨List.toArray (u0 :: u1 :: .pointer (some ⟨w.heap.size, 0, none⟩) :: .pointer (some ⟨pb, 0, none⟩) :: .pointer (some ⟨sb, 0, none⟩) :: .int .i64 13 :: .int .i64 kv :: .int .i64 (iv : Int) :: .string nm :: u9 :: u10 :: u11 :: u12 :: u13 :: u14 :: u15 :: u16 :: u17 :: u18 :: u19 :: u20 :: u21 :: u22 :: u23 :: u24 :: u25 :: u26 :: u27 :: u28 :: u29 :: u30 :: u31 :: u32 :: u33 :: u34 :: u35 :: u36 :: u37 :: u38 :: u39 :: u40 :: u41 :: u42 :: u43 :: u44 :: u45 :: u46 :: u47 :: u48 :: u49 :: u50 :: u51 :: u52 :: u53 :: u54 :: u55 :: u56 :: u57 :: u58 :: u59 :: u60 :: u61 :: u62 :: u63 :: u64 :: u65 :: u66 :: u67 :: u68 :: u69 :: u70 :: u71 :: u72 :: u73 :: u74 :: u75 :: u76 :: u77 :: u78 :: u79 :: u80 :: u81 :: u82 :: u83 :: u84 :: u85 :: u86 :: u87 :: u88 :: u89 :: u90 :: u91 :: u92 :: u93 :: u94 :: u95 :: u96 :: u97 :: u98 :: u99 :: u100 :: u101 :: u102 :: u103 :: u104 :: u105 :: u106 :: u107 :: u108 :: u109 :: u110 :: u111 :: u112 :: u113 :: u114 :: u115 :: u116 :: u117 :: u118 :: u119 :: u120 :: u121 :: u122 :: u123 :: u124 :: u125 :: u126 :: u127 :: u128 :: u129 :: u130 :: u131 :: u132 :: u133 :: u134 :: u135 :: u136 :: u137 :: u138 :: u139 :: u140 :: u141 :: u142 :: u143 :: u144 :: u145 :: u146 :: u147 :: u148 :: u149 :: u150 :: u151 :: u152 :: u153 :: u154 :: u155 :: []), []⟩ wr := by
  obtain ⟨q0, q1, q2, q3, q4, q5, q6⟩ := box7 hst.blk
  have f0 := hst.blk.frozen 0
  have f1 := hst.blk.frozen 1
  have f2 := hst.blk.frozen 2
  have f4 := hst.blk.frozen 4
  have f5 := hst.blk.frozen 5
  have f6 := hst.blk.frozen 6
  conv => arg 2; whnf
  repeat (first | exact wild_end hst hp.fine _ _ _ _ _ _ _ _ _ _ _ _ _ _ _ _ _ _ _ _ _ _ _ _ _ _ _ _ _ _ _ _ _ _ _ _ _ _ _ _ _ _ _ _ _ _ _ _ _ _ _ _ _ _ _ _ _ _ _ _ _ _ _ _ _ _ _ _ _ _ _ _ _ _ _ _ _ _ _ _ _ _ _ _ _ _ _ _ _ _ _ _ _ _ _ _ _ _ _ _ _ _ _ _ _ _ _ _ _ _ _ _ _ _ _ _ _ _ _ _ _ _ _ _ _ _ _ _ _ _ _ _ _ _ _ _ _ _ _ _ _ _ _ _ _ _ _ _ _ _ _ _ _ _ | go_values | go_skip | go_guarded | go_step | go_upon)
  done
end Go.Proofs.Ytlfdpfkimggeoaa
