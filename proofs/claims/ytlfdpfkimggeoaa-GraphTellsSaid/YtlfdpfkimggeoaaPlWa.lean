/-
  The law's Net, its last piece: the network is handed out.
-/
import Derived.Test.YtlfdpfkimggeoaaPlX
namespace Go.Proofs.Ytlfdpfkimggeoaa
open Go.RowKit
set_option linter.unusedVariables false

/-- The piece of a text at a place. -/
def codeAt : List Bool → Code → Code
  | [], c => c
  | false :: p, .seq a _ => codeAt p a
  | true :: p, .seq _ b => codeAt p b
  | false :: p, .cond _ a _ => codeAt p a
  | true :: p, .cond _ _ b => codeAt p b
  | _ :: p, .block _ a => codeAt p a
  | _ :: p, .loop a => codeAt p a
  | _ :: p, .scope a => codeAt p a
  | _, _ => .skip
/-- A piece that ends in no other way than by going on. -/
def NoExit : Exit → Act → World → Prop := fun _ _ _ => False
theorem wp_goes_on {P : Program} {c : Code} {K : Act → World → Prop} {Q : Exit → Act → World → Prop} {a : Act} {w : World} (h : c.wp P (Exit.then K NoExit) a w) : c.wp P (Exit.then K Q) a w := by
  refine wp_mono h fun e a' w' q => ?_
  cases e with
  | normal => exact q
  | _ => exact q.elim
noncomputable def netC (p : List Bool) : Code := (Try.f7.body.map (codeAt p)).getD .skip

set_option maxHeartbeats 4000000 in
set_option maxRecDepth 100000 in
theorem net_rest14 (l : List Int) (w wr : World) (L : List Int) (pr ca K : Int) (vn vl vd vc : Value) (ns : List PNode) (ls : List PLink) (ds : List PDest) (cs : List PCheck)
    (hst : NetSt w (w.heap.size + 1) (w.heap.size + 1 + 1) L pr ca K vn vl vd vc ns ls ds cs wr) (HN : Hid (netOf l = ⟨pr, ca, K, ns, ls, ds, cs⟩))
    (u0 u1 u5 u6 u7 u8 u9 u10 u11 u12 u13 u14 u15 u16 u17 u18 u19 u20 u21 u22 u23 u24 u25 u26 u27 u28 u29 u30 u31 u32 u33 u34 u35 u36 u37 u38 u39 u40 u41 u42 u43 u44 u45 u46 u47 u48 u49 u50 u51 u52 u53 u54 u55 u56 u57 u58 u59 u60 u61 u62 u63 u64 u65 u66 u67 u68 u69 u70 u71 u72 u73 u74 u75 u76 u77 u78 u79 u80 u81 u82 u83 u84 u85 u86 u87 u88 u89 u90 u91 u92 u93 u94 u95 u96 u97 u98 u99 u100 u101 u102 u103 u104 u105 u106 u107 u108 u109 u110 u111 u112 u113 u114 u115 u116 u117 u118 u119 u120 u121 u122 u123 u124 u125 u126 u127 u128 u129 u130 u131 u132 u133 u134 u135 u136 u137 u138 u139 u140 u141 u142 u143 u144 u145 u146 u147 u148 u149 u150 u151 u152 u153 u154 u155 u156 u157 u158 u159 u160 u161 u162 u163 u164 u165 u166 u167 u168 u169 u170 u171 u172 u173 u174 u175 u176 u177 u178 u179 u180 u181 u182 u183 u184 u185 u186 u187 u188 u189 u190 u191 u192 u193 u194 u195 u196 u197 u198 u199 u200 u201 u202 u203 u204 u205 u206 u207 u208 u209 u210 u211 u212 u213 u214 u215 u216 u217 u218 u219 u220 u221 u222 u223 u224 u225 u226 : Value) :
    Code.wp Try.prog (netC [true, true, true, true, true, true, true, true, true, true, true, true, true, true]) (bodyPost Try.prog Try.f7 (NetAs (netOf l) w)) ⟨List.toArray (u0 :: u1 :: .pointer (some ⟨w.heap.size, 0, none⟩) :: .pointer (some ⟨w.heap.size + 1, 0, none⟩) :: .pointer (some ⟨w.heap.size + 1 + 1, 0, none⟩) :: u5 :: u6 :: u7 :: u8 :: u9 :: u10 :: u11 :: u12 :: u13 :: u14 :: u15 :: u16 :: u17 :: u18 :: u19 :: u20 :: u21 :: u22 :: u23 :: u24 :: u25 :: u26 :: u27 :: u28 :: u29 :: u30 :: u31 :: u32 :: u33 :: u34 :: u35 :: u36 :: u37 :: u38 :: u39 :: u40 :: u41 :: u42 :: u43 :: u44 :: u45 :: u46 :: u47 :: u48 :: u49 :: u50 :: u51 :: u52 :: u53 :: u54 :: u55 :: u56 :: u57 :: u58 :: u59 :: u60 :: u61 :: u62 :: u63 :: u64 :: u65 :: u66 :: u67 :: u68 :: u69 :: u70 :: u71 :: u72 :: u73 :: u74 :: u75 :: u76 :: u77 :: u78 :: u79 :: u80 :: u81 :: u82 :: u83 :: u84 :: u85 :: u86 :: u87 :: u88 :: u89 :: u90 :: u91 :: u92 :: u93 :: u94 :: u95 :: u96 :: u97 :: u98 :: u99 :: u100 :: u101 :: u102 :: u103 :: u104 :: u105 :: u106 :: u107 :: u108 :: u109 :: u110 :: u111 :: u112 :: u113 :: u114 :: u115 :: u116 :: u117 :: u118 :: u119 :: u120 :: u121 :: u122 :: u123 :: u124 :: u125 :: u126 :: u127 :: u128 :: u129 :: u130 :: u131 :: u132 :: u133 :: u134 :: u135 :: u136 :: u137 :: u138 :: u139 :: u140 :: u141 :: u142 :: u143 :: u144 :: u145 :: u146 :: u147 :: u148 :: u149 :: u150 :: u151 :: u152 :: u153 :: u154 :: u155 :: u156 :: u157 :: u158 :: u159 :: u160 :: u161 :: u162 :: u163 :: u164 :: u165 :: u166 :: u167 :: u168 :: u169 :: u170 :: u171 :: u172 :: u173 :: u174 :: u175 :: u176 :: u177 :: u178 :: u179 :: u180 :: u181 :: u182 :: u183 :: u184 :: u185 :: u186 :: u187 :: u188 :: u189 :: u190 :: u191 :: u192 :: u193 :: u194 :: u195 :: u196 :: u197 :: u198 :: u199 :: u200 :: u201 :: u202 :: u203 :: u204 :: u205 :: u206 :: u207 :: u208 :: u209 :: u210 :: u211 :: u212 :: u213 :: u214 :: u215 :: u216 :: u217 :: u218 :: u219 :: u220 :: u221 :: u222 :: u223 :: u224 :: u225 :: u226 :: []), []⟩ wr := by
  obtain ⟨An, cn, rfl, hcn⟩ := own_form hst.nodes
  obtain ⟨Al, cl, rfl, hcl⟩ := own_form hst.links
  obtain ⟨_, _, ve2, _⟩ := hst.dests
  obtain ⟨Ad, cd, rfl, hcd⟩ := own_form ve2
  obtain ⟨Ac, cc, rfl, hcc⟩ := own_form hst.checks
  have q0 := hst.blk.cell 0
  have q1 := hst.blk.cell 1
  have q2 := hst.blk.cell 2
  have q3 := hst.blk.cell 3
  have q4 := hst.blk.cell 4
  have q5 := hst.blk.cell 5
  have q6 := hst.blk.cell 6
  have hR := hst.result
  have hth := there_of_blk hst.res
  obtain ⟨W, hW⟩ : ∃ W, wr.setCells w.heap.size 0 [.int .i64 pr, .int .i64 ca, .int .i64 K, .slice An ns.length cn, .slice Al ls.length cl, .slice Ad ds.length cd, .slice Ac cs.length cc] = W := ⟨_, rfl⟩
  rw [hW] at hR
  have HR := Lib.hid hR
  have HW := Lib.hid hW
  have HTH := Lib.hid hth
  clear hR hW hth hst ve2
  conv => arg 2; whnf
  go_step
  go_step
  go_step
  go_step
  go_step
  refine wpList_store_mid rfl 29 (.tmp 2) (.tmp 226) rfl w.heap.size 0 #[.int .i64 pr, .int .i64 ca, .int .i64 K, .slice An ns.length cn, .slice Al ls.length cl, .slice Ad ds.length cd, .slice Ac cs.length cc] (by rfl) (by rfl) HTH.out (by kernel_rfl) (by simp [Value.oneCell']) ?_
  rw [HW.out]
  have r0 := HR.out.blk.cell 0
  have r1 := HR.out.blk.cell 1
  have r2 := HR.out.blk.cell 2
  have r3 := HR.out.blk.cell 3
  have r4 := HR.out.blk.cell 4
  have r5 := HR.out.blk.cell 5
  have r6 := HR.out.blk.cell 6
  clear q0 q1 q2 q3 q4 q5 q6
  go_wp2_with fail
  refine bodyPost_ret (v := .agg #[.int .i64 pr, .int .i64 ca, .int .i64 K, .slice An ns.length cn, .slice Al ls.length cl, .slice Ad ds.length cd, .slice Ac cs.length cc]) (by simp [results, Try.results7, go_sem, r0, r1, r2, r3, r4, r5, r6]) rfl ?_
  rw [HN.out]
  exact ⟨_, _, _, _, rfl, HR.out.own, HR.out.up⟩
end Go.Proofs.Ytlfdpfkimggeoaa

namespace Go.Proofs.Ytlfdpfkimggeoaa
open Go.RowKit
set_option linter.unusedVariables false

theorem own_set_ne {w : World} {base : Nat} {e : TypeId} {size : Nat} {v : Value} {n : Nat} {xs : List Value} (h : w.ownsRow base e size v n xs) {g : Nat} (hne : ∀ g', v.ownBlock = some g' → g' ≠ g) (i : Nat) (u : Value) : (w.setCell ⟨g, i, none⟩ u).ownsRow base e size v n xs := by
  refine h.kept (row := some g) ⟨rfl, rfl, rfl, by simp [World.setCell], fun k _ hk => Below.heap_setCell w ⟨g, i, none⟩ u k (fun e1 => hk (by rw [e1]))⟩ ?_
  cases hv : v.ownBlock with
  | none => exact .inl rfl
  | some g' =>
    refine .inr (fun e1 => ?_)
    injection e1 with e1
    exact hne g' hv e1

section
variable {w0 : World} {sb pb : Nat} {l : List Int} {pr ca kk : Int} {vn vl vd vc : Value} {ns : List PNode} {ls : List PLink} {ds : List PDest} {cs : List PCheck} {w w' : World} {b : Nat} {x0 x1 x2 x3 x4 : Int}

theorem NetSt.putC (h : NetSt w0 sb pb l pr ca kk vn vl vd vc ns ls ds cs w) {g : Nat} {xs : Array Value} (hb : Blk w g 67 xs) (hg : w0.heap.size ≤ g) (hvc : ∀ g', vc.ownBlock = some g' → g' ≠ g) (i : Nat) (u : Value) :
    NetSt w0 sb pb l pr ca kk vn vl vd vc ns ls ds cs (w.setCell ⟨g, i, none⟩ u) := by
  have hb2 : Below w0.heap.size w (w.setCell ⟨g, i, none⟩ u) := (Below.refl _ _).setCell (p := ⟨g, i, none⟩) hg _
  exact ⟨h.below.trans hb2, h.src.keep hb2 (fun _ hk => hk.far (p := ⟨g, i, none⟩) (hk.ne_ hb (by decide)) _), h.blk.far (p := ⟨g, i, none⟩) (h.blk.ne_ hb (by decide)) _, own_set h.nodes hb (by decide) i u, own_set h.links hb (by decide) i u,
    h.dests.map fun he ho => own_set ho hb (by rcases he with rfl | rfl <;> decide) i u, own_set_ne h.checks hvc i u, h.sb, h.pb', h.res.far (p := ⟨g, i, none⟩) (h.res.ne_ hb (by decide)) _⟩

/-- The check's own block is there, and the network. -/
structure ChkSt (w0 : World) (sb pb : Nat) (l : List Int) (pr ca kk : Int) (vn vl vd vc : Value) (ns : List PNode) (ls : List PLink) (ds : List PDest) (cs : List PCheck) (b : Nat) (x0 x1 x2 x3 x4 : Int) (w : World) : Prop where
  st : NetSt w0 sb pb l pr ca kk vn vl vd vc ns ls ds cs w
  blk : Blk w b 67 #[.int .i64 x0, .int .i64 x1, .int .i64 x2, .int .i64 x3, .int .i64 x4]
  lo : w0.heap.size ≤ b
  ne : ∀ g, vc.ownBlock = some g → g ≠ b
  ok : SrcOk l

theorem ChkSt.put (h : ChkSt w0 sb pb l pr ca kk vn vl vd vc ns ls ds cs b x0 x1 x2 x3 x4 w) (i : Nat) (u : Value) (y0 y1 y2 y3 y4 : Int) (hx : (#[.int .i64 x0, .int .i64 x1, .int .i64 x2, .int .i64 x3, .int .i64 x4] : Array Value).setIfInBounds i u = #[.int .i64 y0, .int .i64 y1, .int .i64 y2, .int .i64 y3, .int .i64 y4]) :
    ChkSt w0 sb pb l pr ca kk vn vl vd vc ns ls ds cs b y0 y1 y2 y3 y4 (w.setCell ⟨b, i, none⟩ u) :=
  ⟨h.st.putC h.blk h.lo h.ne i u, by have := h.blk.set_ i u; rwa [hx] at this, h.lo, h.ne, h.ok⟩
theorem ChkSt.fresh (h : NetSt w0 sb pb l pr ca kk vn vl vd vc ns ls ds cs w) (hok : SrcOk l) : ChkSt w0 sb pb l pr ca kk vn vl vd vc ns ls ds cs w.heap.size x0 x1 x2 x3 x4 (w.alloc (.cells #[.int .i64 x0, .int .i64 x1, .int .i64 x2, .int .i64 x3, .int .i64 x4] 67)) :=
  ⟨h.up (below_new _ _), Blk.new _ _ _, h.lt, fun g hg => Nat.ne_of_lt (h.checks.lt g hg).2, hok⟩
theorem CSt.done {B : Nat} (h : CSt w0 sb pb l pr ca kk vn vl vd vc ns ls ds cs B (some b) w) (hok : SrcOk l) (hvc : ∀ g, vc.ownBlock = some g → g < B) :
    ChkSt w0 sb pb l pr ca kk vn vl vd vc ns ls ds cs b x0 x1 x2 x3 x4 (((((w.setCell ⟨b, 0, none⟩ (.int .i64 x0)).setCell ⟨b, 1, none⟩ (.int .i64 x1)).setCell ⟨b, 2, none⟩ (.int .i64 x2)).setCell ⟨b, 3, none⟩ (.int .i64 x3)).setCell ⟨b, 4, none⟩ (.int .i64 x4)) := by
  obtain ⟨h1, h2⟩ := h.own b rfl
  have h0 : ChkSt w0 sb pb l pr ca kk vn vl vd vc ns ls ds cs b 0 0 0 0 0 w := ⟨h.st, h2, Nat.le_trans h.st.sb (Nat.le_trans (Nat.le_of_lt h.lo.1) h1), fun g hg => by have := hvc g hg; omega, hok⟩
  exact ((((h0.put 0 _ x0 0 0 0 0 rfl).put 1 _ x0 x1 0 0 0 rfl).put 2 _ x0 x1 x2 0 0 rfl).put 3 _ x0 x1 x2 x3 0 rfl).put 4 _ x0 x1 x2 x3 x4 rfl
theorem next_k (n : Int) (m v : Nat) (l' : List Int) (HV : Hid (nx l m = v)) (HT : Hid (l.tail = l')) (h : ChkSt w0 sb pb l pr ca kk vn vl vd vc ns ls ds cs b x0 x1 x2 x3 x4 w) (hn : n = (m : Int)) (h0 : 0 < m) (hm : m ≤ 4096) :
    Calls Try.prog 32 #[.pointer (some ⟨sb, 0, none⟩), .int .i64 n] w fun e w' => e = .returned (.int .i64 (v : Int)) ∧ ChkSt w0 sb pb l' pr ca kk vn vl vd vc ns ls ds cs b x0 x1 x2 x3 x4 w' :=
  (next_st n m v l' HV HT h.st h.ok hn h0 hm).mono fun _ _ ⟨he, hs, hok, ht⟩ => ⟨he, hs, ht.blk h.blk (by obtain ⟨v, hv⟩ := h.st.src.blk; exact h.blk.ne_ hv (by decide)), h.lo, h.ne, hok⟩
end

/-- What a check of a kind draws beside. -/
def limG (kd : Nat) (L : List Int) : Int × List Int := if kd = 1 then ((nx L 20 : Int), L.tail) else (0, L)
def othG (kd n : Nat) (L : List Int) : Int × List Int := if 2 ≤ kd then ((nx L n : Int), L.tail) else (0, L)
theorem checkG_is {n nd : Nat} {cs : List PCheck} {L0 L1 L2 L3 L4 L5 : List Int} {kd no dx : Nat} {li o : Int} (bk : kd < 4) (h1 : nx L0 4 = kd) (t1 : L0.tail = L1) (h2 : nx L1 n = no) (t2 : L1.tail = L2) (h3 : nx L2 nd = dx) (t3 : L2.tail = L3)
    (h4 : limG kd L3 = (li, L4)) (h5 : othG kd n L4 = (o, L5)) : checkG n nd (cs, L0) = (cs ++ [⟨1 + (kd : Int), no, dx, li, o⟩], L5) := by
  unfold checkG
  simp only [h1, t1, h2, t2, h3, t3]
  unfold limG at h4
  unfold othG at h5
  by_cases e1 : kd = 1
  · subst e1
    rw [if_pos rfl] at h4
    rw [if_neg (by omega)] at h5
    obtain ⟨rfl, rfl⟩ := Prod.mk.inj h4
    obtain ⟨rfl, rfl⟩ := Prod.mk.inj h5
    rw [if_pos rfl]; rfl
  · rw [if_neg e1] at h4
    obtain ⟨rfl, rfl⟩ := Prod.mk.inj h4
    rw [if_neg e1]
    by_cases e0 : kd = 0
    · subst e0
      rw [if_neg (by omega)] at h5
      obtain ⟨rfl, rfl⟩ := Prod.mk.inj h5
      rw [if_pos rfl]; rfl
    · rw [if_pos (by omega)] at h5
      obtain ⟨rfl, rfl⟩ := Prod.mk.inj h5
      rw [if_neg e0]
end Go.Proofs.Ytlfdpfkimggeoaa
