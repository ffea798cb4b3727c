/-
  Package carry: Fits, Own.
-/
import Derived.Test.YtlfdpfkimggeoaaPlG
import Derived.Deep.RegionHeld3
import Derived.Test.YtlfdpfkimggeoaaAtF
import Derived.Test.YtlfdpfkimggeoaaApp
import Derived.Test.YtlfdpfkimggeoaaPmA
import Derived.Deep.DeepCutAuto
namespace Go.Proofs.Ytlfdpfkimggeoaa
open Go.RowKit
set_option linter.unusedVariables false

/-- A link's other end; -1, if there is none. -/
def otherI (l : PLink) (node : Int) : Int := if node = l.a then l.b else if node = l.b then l.a else -1
theorem other_any (l : PLink) (node : Int) (w : World) :
    Calls Try.prog 37 #[.agg #[.int .i64 l.a, .int .i64 l.b, .int .i64 l.cost], .int .i64 node] w fun e w' => e = .returned (.int .i64 (otherI l node)) ∧ Below w.heap.size w w' := by
  have hbx := fun o => below_new w o
  obtain ⟨la, lb, lc⟩ := l
  by_cases h1 : node = la
  · have HR := Lib.hid (show otherI ⟨la, lb, lc⟩ node = lb by unfold otherI; rw [if_pos h1])
    have t1 : (node == la) = true := by simp [h1]
    clear h1
    go_enter Try.func37, Try.ntmps37
    go_wp2
    go_ret
    exact ⟨ret_int HR.out.symm, hbx _⟩
  · have t1 : (node == la) = false := by simp [h1]
    by_cases h2 : node = lb
    · have HR := Lib.hid (show otherI ⟨la, lb, lc⟩ node = la by unfold otherI; rw [if_neg h1, if_pos h2])
      have t2 : (node == lb) = true := by simp [h2]
      clear h1 h2
      go_enter Try.func37, Try.ntmps37
      go_wp2
      go_ret
      exact ⟨ret_int HR.out.symm, hbx _⟩
    · have HR := Lib.hid (show otherI ⟨la, lb, lc⟩ node = -1 by unfold otherI; rw [if_neg h1, if_neg h2])
      have t2 : (node == lb) = false := by simp [h2]
      clear h1 h2
      go_enter Try.func37, Try.ntmps37
      go_wp2
      go_ret
      exact ⟨ret_int HR.out.symm, hbx _⟩
theorem other_is (l : PLink) (node v : Int) (H : Hid (otherI l node = v)) (w : World) :
    Calls Try.prog 37 #[.agg #[.int .i64 l.a, .int .i64 l.b, .int .i64 l.cost], .int .i64 node] w fun e w' => e = .returned (.int .i64 v) ∧ Below w.heap.size w w' :=
  (other_any l node w).mono fun _ _ ⟨he, hw⟩ => ⟨by rw [he, H.out], hw⟩

/-- A link's other end, of a network. -/
def otherB (p : PPlan) (link node : Int) : Int := if 0 ≤ link then (match p.links[link.toNat]? with
  | some l => otherI l node
  | none => -1) else -1

theorem right_l16 {p : PPlan} (h : rightB p = true) : p.links.length ≤ 16 := by
  unfold rightB at h
  simp only [Bool.and_eq_true] at h
  obtain ⟨_, _, _, h2, _⟩ := h
  unfold linksB at h2
  simp only [Bool.and_eq_true, decide_eq_true_eq] at h2
  exact h2.1
section
variable {p : PPlan} {pr ca kk : Int} {An Al Ad Ac : Option Addr} {ln cn ll cl ld cd lc cc : Nat} {w : World}
theorem Other_no (link node : Int) (HR : Hid (rightB p = false)) (hs : PSmall p) (h : PAt w p pr ca kk An ln Al ll Ad ld Ac lc) :
    Calls Try.prog 13 #[.agg #[.int .i64 pr, .int .i64 ca, .int .i64 kk, .slice An ln cn, .slice Al ll cl, .slice Ad ld cd, .slice Ac lc cc], .int .i64 link, .int .i64 node] w fun e w' => e = .returned (.int .i64 (-1)) ∧ Below w.heap.size w w' := by
  have hbx := below_new w (.cells #[.int .i64 pr, .int .i64 ca, .int .i64 kk, .slice An ln cn, .slice Al ll cl, .slice Ad ld cd, .slice Ac lc cc] 29)
  have h0 := h.up hbx
  have k0 := Blk.new w 29 #[.int .i64 pr, .int .i64 ca, .int .i64 kk, .slice An ln cn, .slice Al ll cl, .slice Ad ld cd, .slice Ac lc cc]
  clear h
  go_enter Try.func13, Try.ntmps13
  go_wp2_with (go_at_call 33; (with_reducible refine (Right_is false HR hs h0).mono ?_); rintro e w1 ⟨rfl, hb1⟩)
  go_ret
  exact ⟨rfl, hbx.trans (hb1.mono hbx.size)⟩
theorem Other_ok (link node v : Int) (HV : Hid (otherB p link node = v)) (HR : Hid (rightB p = true)) (hs : PSmall p) (h : PAt w p pr ca kk An ln Al ll Ad ld Ac lc) :
    Calls Try.prog 13 #[.agg #[.int .i64 pr, .int .i64 ca, .int .i64 kk, .slice An ln cn, .slice Al ll cl, .slice Ad ld cd, .slice Ac lc cc], .int .i64 link, .int .i64 node] w fun e w' => e = .returned (.int .i64 v) ∧ Below w.heap.size w w' := by
  have hl16 := right_l16 HR.out
  rw [h.ll] at hl16
  have hbx := below_new w (.cells #[.int .i64 pr, .int .i64 ca, .int .i64 kk, .slice An ln cn, .slice Al ll cl, .slice Ad ld cd, .slice Ac lc cc] 29)
  have h0 := h.up hbx
  have k0 := Blk.new w 29 #[.int .i64 pr, .int .i64 ca, .int .i64 kk, .slice An ln cn, .slice Al ll cl, .slice Ad ld cd, .slice Ac lc cc]
  have hll := h.ll
  clear h
  have HV' := HV.out
  unfold otherB at HV'
  by_cases hl0 : link < 0
  · have HE : Hid ((-1 : Int) = v) := Lib.hid (by rw [if_neg (by omega)] at HV'; exact HV')
    clear HV' hll
    go_enter Try.func13, Try.ntmps13
    go_wp2_with (go_at_call 33; (with_reducible refine (Right_is true HR hs h0).mono ?_); rintro e w1 ⟨rfl, hb1⟩; have h1 := h0.up hb1; have k1 := k0.up hb1; obtain ⟨d0, d1, d2, d3, d4, d5, d6⟩ := box7 k1)
    go_ret
    exact ⟨ret_int HE.out, hbx.trans (hb1.mono hbx.size)⟩
  · obtain ⟨i, rfl⟩ := Int.eq_ofNat_of_zero_le (Int.not_lt.1 hl0)
    have n0 : (0 : Int) ≤ (i : Int) := by omega
    rw [if_pos n0, Int.toNat_natCast] at HV'
    by_cases hil : (i : Int) < (ll : Int)
    · obtain ⟨⟨la, lb, lco⟩, hl⟩ : ∃ l, p.links[i]? = some l := ⟨_, List.getElem?_eq_getElem (by omega)⟩
      have HE : Hid (otherI ⟨la, lb, lco⟩ node = v) := Lib.hid (by rw [hl] at HV'; exact HV')
      obtain ⟨g, hAl, hg, _⟩ := h0.links.link hl
      have HLK := Lib.hid hl
      clear HV' hll hl
      subst hAl
      go_enter Try.func13, Try.ntmps13
      go_wp2_with (first
        | (go_at_call 33; (with_reducible refine (Right_is true HR hs h0).mono ?_); rintro e w1 ⟨rfl, hb1⟩; have h1 := h0.up hb1; have k1 := k0.up hb1; obtain ⟨d0, d1, d2, d3, d4, d5, d6⟩ := box7 k1; obtain ⟨g', hAl', hg', c0, c1, c2⟩ := h1.links.link HLK.out; injection hAl' with hAl'; injection hAl' with hAl' _ _; subst hAl'; dsimp only at c0 c1 c2)
        | (go_at_call 37; (with_reducible refine (other_is ⟨la, lb, lco⟩ node v HE _).mono ?_); rintro e w2 ⟨rfl, hb2⟩))
      go_ret
      exact ⟨rfl, hbx.trans ((hb1.mono hbx.size).trans (hb2.mono (Nat.le_trans hbx.size hb1.size)))⟩
    · have HE : Hid ((-1 : Int) = v) := Lib.hid (by rw [List.getElem?_eq_none (by omega)] at HV'; exact HV')
      clear HV' hll
      go_enter Try.func13, Try.ntmps13
      go_wp2_with (go_at_call 33; (with_reducible refine (Right_is true HR hs h0).mono ?_); rintro e w1 ⟨rfl, hb1⟩; have h1 := h0.up hb1; have k1 := k0.up hb1; obtain ⟨d0, d1, d2, d3, d4, d5, d6⟩ := box7 k1)
      go_ret
      exact ⟨ret_int HE.out, hbx.trans (hb1.mono hbx.size)⟩
end
end Go.Proofs.Ytlfdpfkimggeoaa
namespace Go.Proofs.Ytlfdpfkimggeoaa
open Go.RowKit
set_option linter.unusedVariables false
set_option linter.unusedSimpArgs false

/-- Which of n things a raw number speaks of. -/
theorem pick7_any (c n : Int) (hc : InI c) (h0 : 0 < n) (hn : n ≤ 9223372036854775807) (w : World) :
    Calls Try.prog 22 #[.int .i64 c, .int .i64 n] w fun e w' => e = .returned (.int .i64 (pickN c n)) ∧ w = w' := by
  obtain ⟨h1, h2⟩ := hc
  have hz : ¬ n = 0 := by omega
  by_cases h : c < 0
  · have hp : pickN c n = (-(c + 1)) % n := by unfold pickN; rw [if_pos h]
    have H := Lib.hid hp
    have b1 : 0 ≤ -(c + 1) := by omega
    have b2 : -(c + 1) ≤ 9223372036854775807 := by omega
    clear hp
    go_enter Try.func22, Try.ntmps22
    go_wp2
    go_ret
    exact ⟨ret_int (by rw [H.out, ← Int.neg_tmod, Int.tmod_eq_emod_of_nonneg b1]), rfl⟩
  · have hp : pickN c n = c % n := by unfold pickN; rw [if_neg h]
    have H := Lib.hid hp
    have b1 : 0 ≤ c := by omega
    clear hp
    go_enter Try.func22, Try.ntmps22
    go_wp2
    go_ret
    exact ⟨ret_int H.out.symm, rfl⟩
theorem pick7_is (c n v : Int) (hc : InI c) (h0 : 0 < n) (hn : n ≤ 9223372036854775807) (H : Hid (pickN c n = v)) (w : World) :
    Calls Try.prog 22 #[.int .i64 c, .int .i64 n] w fun e w' => e = .returned (.int .i64 v) ∧ w = w' :=
  (pick7_any c n hc h0 hn w).mono fun _ _ ⟨he, hw⟩ => ⟨by rw [he, H.out], hw⟩

theorem below_3 (w : World) (a b c : Obj) : Below w.heap.size w (((w.alloc a).alloc b).alloc c) := below_on (below_2 w a b) (below_new _ c)
theorem below_4 (w : World) (a b c d : Obj) : Below w.heap.size w ((((w.alloc a).alloc b).alloc c).alloc d) := below_on (below_3 w a b c) (below_new _ d)
theorem below_5 (w : World) (a b c d e : Obj) : Below w.heap.size w (((((w.alloc a).alloc b).alloc c).alloc d).alloc e) := below_on (below_4 w a b c d) (below_new _ e)
theorem numInfoC : (Try.prog.info? 3).map (fun i => (i.zero, i.size, i.bytes)) = some (some (.int .i64 0), 1, 8) := by kernel_rfl
/-- May a node of the AS number 'num' hold a route that is right and not none? -/
def holdsB (p : PPlan) (num : Int) (r : Rt) : Bool := if p.proto = 2 then decide (r.kind = 2) && (decide ((r.path.length : Int) ≤ p.cap) && !memI num r.path) else decide (r.kind = 1)
def fitB (p : PPlan) (num : Int) (r : Rt) : Bool := rtRight r && (decide (r.kind = 0) || holdsB p num r)
def numAt (p : PPlan) (node : Int) : Int := ((p.nodes[node.toNat]?).map (·.num)).getD 0
def fitsB (p : PPlan) (node : Int) (r : Rt) : Bool := rightB p && (decide (0 ≤ node) && (decide (node < p.nodes.length) && fitB p (numAt p node) r))
def ownR (p : PPlan) : Rt := if p.proto = 2 then ⟨2, 0, []⟩ else ⟨1, 0, []⟩
def toldR (p : PPlan) (cost num : Int) (r : Rt) : Rt := if p.proto = 2 then ⟨2, 0, num :: r.path⟩ else ⟨1, r.cost + cost, []⟩
/-- A link's other end, of a network that may be or may not. -/
def oiB (p : PPlan) (link node : Int) : Int := if rightB p = true then otherB p link node else -1
theorem Other_w {p : PPlan} (link node v : Int) (HV : Hid (oiB p link node = v)) (hs : PSmall p) {pr ca kk : Int} {An Al Ad Ac : Option Addr} {ln cn ll cl ld cd lc cc : Nat} {w : World} (h : PAt w p pr ca kk An ln Al ll Ad ld Ac lc) :
    Calls Try.prog 13 #[.agg #[.int .i64 pr, .int .i64 ca, .int .i64 kk, .slice An ln cn, .slice Al ll cl, .slice Ad ld cd, .slice Ac lc cc], .int .i64 link, .int .i64 node] w fun e w' => e = .returned (.int .i64 v) ∧ Below w.heap.size w w' := by
  have hv := HV.out
  unfold oiB at hv
  cases hr : rightB p
  · rw [hr, if_neg (by simp)] at hv
    subst hv
    exact Other_no link node (Lib.hid hr) hs h
  · rw [hr, if_pos rfl] at hv
    exact Other_ok link node v (Lib.hid hv) (Lib.hid hr) hs h

/-! ### The two protocols' methods -/
theorem vec_own (w : World) :
    Calls Try.prog 112 #[.agg #[]] w fun e w' => e = .returned (.agg #[.int .i64 1, .int .i64 0, .slice none 0 0]) ∧ Below w.heap.size w w' := by
  go_enter Try.func112, Try.ntmps112
  go_wp2
  have kr := Blk.new (w.alloc (.cells #[] 95)) 42 #[.int .i64 1, .int .i64 0, .slice none 0 0]
  have x0 := kr.cell 0
  have x1 := kr.cell 1
  have x2 := kr.cell 2
  refine bodyPost_ret (v := .agg #[.int .i64 1, .int .i64 0, .slice none 0 0]) (by first | (simp [results, Try.results112, go_sem] at x0 x1 x2 ⊢; simp [x0, x1, x2]; done) | (simp [results, Try.results112, go_sem, x0, x1, x2]; done)) rfl ?_
  exact ⟨rfl, below_2 _ _ _⟩
theorem pth_own (ca : Int) (w : World) :
    Calls Try.prog 109 #[.agg #[.int .i64 ca]] w fun e w' => e = .returned (.agg #[.int .i64 2, .int .i64 0, .slice none 0 0]) ∧ Below w.heap.size w w' := by
  go_enter Try.func109, Try.ntmps109
  go_wp2
  have kr := Blk.new (w.alloc (.cells #[.int .i64 ca] 93)) 42 #[.int .i64 2, .int .i64 0, .slice none 0 0]
  have x0 := kr.cell 0
  have x1 := kr.cell 1
  have x2 := kr.cell 2
  refine bodyPost_ret (v := .agg #[.int .i64 2, .int .i64 0, .slice none 0 0]) (by first | (simp [results, Try.results109, go_sem] at x0 x1 x2 ⊢; simp [x0, x1, x2]; done) | (simp [results, Try.results109, go_sem, x0, x1, x2]; done)) rfl ?_
  exact ⟨rfl, below_2 _ _ _⟩
theorem vec_fits (nd : PNode) (r : Rt) {A : Option Addr} {n c : Nat} (w : World) (b : Bool) (HB : Hid (decide (r.kind = 1) = b)) :
    Calls Try.prog 110 #[.agg #[], .agg #[.string nd.name, .int .i64 nd.num], .agg #[.int .i64 r.kind, .int .i64 r.cost, .slice A n c]] w fun e w' => e = .returned (.bool b) ∧ Below w.heap.size w w' := by
  go_enter Try.func110, Try.ntmps110
  go_wp2
  go_ret
  exact ⟨ret_bool (by rw [← HB.out]; first | rfl | simp), below_3 _ _ _ _⟩
theorem vec_over (l : PLink) (nd : PNode) (r : Rt) {A : Option Addr} {n c : Nat} (w : World) (h0 : 0 ≤ r.cost) (h1 : r.cost ≤ 15) (h2 : 0 ≤ l.cost) (h3 : l.cost ≤ 15) :
    Calls Try.prog 111 #[.agg #[], .agg #[.int .i64 l.a, .int .i64 l.b, .int .i64 l.cost], .agg #[.string nd.name, .int .i64 nd.num], .agg #[.int .i64 r.kind, .int .i64 r.cost, .slice A n c]] w fun e w' => e = .returned (.agg #[.int .i64 1, .int .i64 (r.cost + l.cost), .slice none 0 0]) ∧ Below w.heap.size w w' := by
  go_enter Try.func111, Try.ntmps111
  go_wp2
  have kr := Blk.new ((((w.alloc (.cells #[] 95)).alloc (.cells #[.int .i64 l.a, .int .i64 l.b, .int .i64 l.cost] 53)).alloc (.cells #[.string nd.name, .int .i64 nd.num] 56)).alloc (.cells #[.int .i64 r.kind, .int .i64 r.cost, .slice A n c] 42)) 42 #[.int .i64 1, .int .i64 (r.cost + l.cost), .slice none 0 0]
  have x0 := kr.cell 0
  have x1 := kr.cell 1
  have x2 := kr.cell 2
  refine bodyPost_ret (v := .agg #[.int .i64 1, .int .i64 (r.cost + l.cost), .slice none 0 0]) (by first | (simp [results, Try.results111, go_sem] at x0 x1 x2 ⊢; simp [x0, x1, x2]; done) | (simp [results, Try.results111, go_sem, x0, x1, x2]; done)) rfl ?_
  exact ⟨rfl, below_5 _ _ _ _ _ _⟩
theorem protocolOf_vec {p : PPlan} {An Al Ad Ac : Option Addr} {cn cl cd cc : Nat} (hp : p.proto ≠ 2) (w : World) :
    Calls Try.prog 46 #[.agg #[.int .i64 p.proto, .int .i64 p.cap, .int .i64 p.k, .slice An p.nodes.length cn, .slice Al p.links.length cl, .slice Ad p.dests.length cd, .slice Ac p.checks.length cc]] w fun e w' => e = .returned (.iface 95 (.agg #[])) ∧ Below w.heap.size w w' := by
  have t0 : (p.proto == 2) = false := by simpa using hp
  go_enter Try.func46, Try.ntmps46
  go_wp2
  go_ret
  exact ⟨rfl, below_new _ _⟩
theorem protocolOf_pth {p : PPlan} {An Al Ad Ac : Option Addr} {cn cl cd cc : Nat} (hp : p.proto = 2) (w : World) :
    Calls Try.prog 46 #[.agg #[.int .i64 p.proto, .int .i64 p.cap, .int .i64 p.k, .slice An p.nodes.length cn, .slice Al p.links.length cl, .slice Ad p.dests.length cd, .slice Ac p.checks.length cc]] w fun e w' => e = .returned (.iface 93 (.agg #[.int .i64 p.cap])) ∧ Below w.heap.size w w' := by
  have t0 : (p.proto == 2) = true := by simpa using hp
  go_enter Try.func46, Try.ntmps46
  go_wp2
  go_ret
  exact ⟨rfl, below_new _ _⟩
theorem pth_fits (ca : Int) (nd : PNode) (r : Rt) {A : Option Addr} {n c : Nat} (w : World) (hr : RtAt w r A n) (b : Bool) (HB : Hid ((decide (r.kind = 2) && (decide ((r.path.length : Int) ≤ ca) && !memI nd.num r.path)) = b)) :
    Calls Try.prog 107 #[.agg #[.int .i64 ca], .agg #[.string nd.name, .int .i64 nd.num], .agg #[.int .i64 r.kind, .int .i64 r.cost, .slice A n c]] w fun e w' => e = .returned (.bool b) ∧ Below w.heap.size w w' := by
  obtain ⟨hn, hA, hm⟩ := hr
  have HN := Lib.hid hn
  have HBB := HB.out
  rw [hn] at HBB
  have hb3 := below_3 w (.cells #[.int .i64 ca] 93) (.cells #[.string nd.name, .int .i64 nd.num] 56) (.cells #[.int .i64 r.kind, .int .i64 r.cost, .slice A n c] 42)
  have hA3 := hA.on hb3
  have hn0 : (0 : Int) ≤ (n : Int) := by omega
  by_cases h1 : r.kind = 2
  · have t1 : (r.kind == 2) = true := by simpa using h1
    by_cases h2 : (n : Int) ≤ ca
    · obtain ⟨m, hmm⟩ : ∃ m, memI nd.num r.path = m := ⟨_, rfl⟩
      have HM := Lib.hid hmm
      have HV : Hid ((!m) = b) := Lib.hid (by rw [← HBB, hmm]; simp [h1, h2])
      clear HBB hmm hn h1 hA3 hb3
      go_enter Try.func107, Try.ntmps107
      go_wp2_with (go_at_call 45; (with_reducible refine (slContains_is r.path n m nd.num HM HN hm (hA.on (below_3 _ _ _ _))).mono ?_); rintro e w4 ⟨rfl, rfl⟩)
      go_ret
      exact ⟨ret_bool HV.out, below_3 _ _ _ _⟩
    · have HV : Hid (false = b) := Lib.hid (by rw [← HBB]; simp [h2])
      clear HBB h1
      go_enter Try.func107, Try.ntmps107
      go_wp2
      go_ret
      exact ⟨ret_bool HV.out, below_3 _ _ _ _⟩
  · have t1 : (r.kind == 2) = false := by simpa using h1
    have HV : Hid (false = b) := Lib.hid (by rw [← HBB]; simp [h1])
    clear HBB h1
    go_enter Try.func107, Try.ntmps107
    go_wp2
    go_ret
    exact ⟨ret_bool HV.out, below_3 _ _ _ _⟩
theorem own_formC {w : World} {base : Nat} {e : TypeId} {v : Value} {n : Nat} {xs : List Value} (h : w.ownsRow base e 1 v n xs) : ∃ A c, v = .slice A n c ∧ n ≤ c ∧ c ≤ 9223372036854775807 := by
  rcases h.2 with ⟨hv, hn⟩ | ⟨g, cap, cur, hv, hb, hg, hc, hrest⟩
  · subst hn
    exact ⟨none, 0, hv, Nat.le_refl _, by omega⟩
  · refine ⟨_, cap, hv, hc, ?_⟩
    have := hrest.1
    unfold maxLen at this
    omega
set_option maxHeartbeats 4000000 in
set_option maxRecDepth 100000 in
theorem pth_over (ca : Int) (l : PLink) (nd : PNode) (r : Rt) {A : Option Addr} {n c : Nat} (w : World) (hr : RtAt w r A n) (hm : n ≤ 12) :
    Calls Try.prog 108 #[.agg #[.int .i64 ca], .agg #[.int .i64 l.a, .int .i64 l.b, .int .i64 l.cost], .agg #[.string nd.name, .int .i64 nd.num], .agg #[.int .i64 r.kind, .int .i64 r.cost, .slice A n c]] w fun e w' => ∃ A' c', e = .returned (.agg #[.int .i64 2, .int .i64 0, .slice A' (n + 1) c']) ∧ w'.ownsRow w.heap.size 3 1 (.slice A' (n + 1) c') (n + 1) ((nd.num :: r.path).map (Value.int .i64)) ∧ n + 1 ≤ c' ∧ c' ≤ 9223372036854775807 ∧ Below w.heap.size w w' := by
  obtain ⟨hn, hA, _⟩ := hr
  have HN := Lib.hid hn
  obtain ⟨i0, hi, hz⟩ := Option.map_eq_some_iff.1 numInfoC
  simp only [Prod.mk.injEq] at hz
  obtain ⟨hz0, hz1, hz2⟩ := hz
  have hb4 := below_4 w (.cells #[.int .i64 ca] 93) (.cells #[.int .i64 l.a, .int .i64 l.b, .int .i64 l.cost] 53) (.cells #[.string nd.name, .int .i64 nd.num] 56) (.cells #[.int .i64 r.kind, .int .i64 r.cost, .slice A n c] 42)
  have hb6 := below_on hb4 (below_2 _ (.cells #[.int .i64 0, .int .i64 0, .slice none 0 0] 42) (.cells #[.int .i64 nd.num] 3))
  have hA6 := hA.on hb6
  have KR : Blk ((((((w.alloc (.cells #[.int .i64 ca] 93)).alloc (.cells #[.int .i64 l.a, .int .i64 l.b, .int .i64 l.cost] 53)).alloc (.cells #[.string nd.name, .int .i64 nd.num] 56)).alloc (.cells #[.int .i64 r.kind, .int .i64 r.cost, .slice A n c] 42)).alloc (.cells #[.int .i64 0, .int .i64 0, .slice none 0 0] 42)).alloc (.cells #[.int .i64 nd.num] 3)) (w.heap.size + 1 + 1 + 1 + 1) 42 #[.int .i64 0, .int .i64 0, .slice none 0 0] := by
    have h := (Blk.new ((((w.alloc (.cells #[.int .i64 ca] 93)).alloc (.cells #[.int .i64 l.a, .int .i64 l.b, .int .i64 l.cost] 53)).alloc (.cells #[.string nd.name, .int .i64 nd.num] 56)).alloc (.cells #[.int .i64 r.kind, .int .i64 r.cost, .slice A n c] 42)) 42 #[.int .i64 0, .int .i64 0, .slice none 0 0]).alloc (.cells #[.int .i64 nd.num] 3)
    simpa using h
  clear hn hA
  go_enter Try.func108, Try.ntmps108
  go_wp2_with (at_builtin; go_loud (refine wpList_append_cells _ rfl _ _ 22 rfl w.heap.size 3 i0 (.int .i64 0) 1 8 Try.underlying22 hi hz0 hz1 hz2 rfl (by decide) _ 1 [.int .i64 nd.num] rfl (own_new _ w.heap.size 3 [.int .i64 nd.num] _ (by first | rfl | simp) (by first | omega | (simp; done) | (simp; omega)) 1 rfl (by omega)) _ A n c (r.path.map (Value.int .i64)) rfl (by rw [List.length_map, HN.out, Nat.mul_one]) hA6 (fun u hu => by obtain ⟨y, _, rfl⟩ := List.mem_map.1 hu; rfl) (by omega) (by omega) (by first | (simp; done) | (simp; omega)) ?_; intro v9 u9 hown9 hgrow9; obtain ⟨A9, c9, rfl, hc9, hcm9⟩ := own_formC hown9; have k9 := KR.grown hgrow9 (fun e => absurd (Option.some.inj e) (by dsimp only; omega)); have d0 := k9.cell 0; have d1 := k9.cell 1; have d2 := k9.cell 2; have f0 := k9.frozen 0; have f1 := k9.frozen 1; have f2 := k9.frozen 2))
  have kf := ((k9.set_ 0 (.int .i64 2)).set_ 1 (.int .i64 0)).set_ 2 (.slice A9 (1 + n) c9)
  have x0 := kf.cell 0
  have x1 := kf.cell 1
  have x2 := kf.cell 2
  have ho1 := own_setA hown9 k9 (by decide) 0 (.int .i64 2)
  have ho2 := own_setA ho1 (k9.set_ 0 (.int .i64 2)) (by decide) 1 (.int .i64 0)
  have ho3 := own_setA ho2 ((k9.set_ 0 (.int .i64 2)).set_ 1 (.int .i64 0)) (by decide) 2 (.slice A9 (1 + n) c9)
  have hbf := (((hb6.grown hgrow9 hb6.size (fun k hk => by have hk := Option.some.inj hk; dsimp only at hk; omega)).setCell (p := ⟨w.heap.size + 1 + 1 + 1 + 1, 0, none⟩) (by simp; omega) (.int .i64 2)).setCell (p := ⟨w.heap.size + 1 + 1 + 1 + 1, 1, none⟩) (by simp; omega) (.int .i64 0)).setCell (p := ⟨w.heap.size + 1 + 1 + 1 + 1, 2, none⟩) (by simp; omega) (.slice A9 (1 + n) c9)
  obtain ⟨W4, hW4⟩ : ∃ W4, W4 = ((u9.setCell ⟨w.heap.size + 1 + 1 + 1 + 1, 0, none⟩ (.int .i64 2)).setCell ⟨w.heap.size + 1 + 1 + 1 + 1, 1, none⟩ (.int .i64 0)).setCell ⟨w.heap.size + 1 + 1 + 1 + 1, 2, none⟩ (.slice A9 (1 + n) c9) := ⟨_, rfl⟩
  rw [← hW4] at x0 x1 x2 ho3 hbf ⊢
  clear hW4 kf ho1 ho2 d0 d1 d2 f0 f1 f2
  refine bodyPost_ret (v := .agg #[.int .i64 2, .int .i64 0, .slice A9 (1 + n) c9]) (by first | (simp [results, Try.results108, go_sem] at x0 x1 x2 ⊢; simp [x0, x1, x2]; done) | (simp [results, Try.results108, go_sem, x0, x1, x2]; done)) rfl ?_
  exact ⟨A9, c9, by rw [Nat.add_comm n 1], by rw [Nat.add_comm n 1]; exact ho3, by omega, hcm9, hbf⟩
end Go.Proofs.Ytlfdpfkimggeoaa
namespace Go.Proofs.Ytlfdpfkimggeoaa
open Go.RowKit
set_option linter.unusedVariables false
set_option linter.unusedSimpArgs false

theorem RowAt.nodeAt {w : World} {B g : Nat} {l : List PNode} (h : RowAt w B (some ⟨g, 0, none⟩) (l.flatMap nodeC)) {k : Nat} {x : PNode} (hk : l[k]? = some x) : w.cell? ⟨g, k * 2, none⟩ = some (.string x.name) ∧ w.cell? ⟨g, k * 2 + 1, none⟩ = some (.int .i64 x.num) := by
  obtain ⟨g', e, _, h1, h2⟩ := h.node hk
  have e := Option.some.inj e
  injection e with e
  subst e
  exact ⟨h1, h2⟩
theorem RowAt.linkAt {w : World} {B g : Nat} {l : List PLink} (h : RowAt w B (some ⟨g, 0, none⟩) (l.flatMap linkC)) {k : Nat} {x : PLink} (hk : l[k]? = some x) : w.cell? ⟨g, k * 3, none⟩ = some (.int .i64 x.a) ∧ w.cell? ⟨g, k * 3 + 1, none⟩ = some (.int .i64 x.b) ∧ w.cell? ⟨g, k * 3 + 2, none⟩ = some (.int .i64 x.cost) := by
  obtain ⟨g', e, _, h1, h2, h3⟩ := h.link hk
  have e := Option.some.inj e
  injection e with e
  subst e
  exact ⟨h1, h2, h3⟩
/-- A network and a route, each in a box. -/
structure PR (w0 : World) (gp : Nat) (p : PPlan) (An : Option Addr) (cn : Nat) (Al : Option Addr) (cl : Nat) (Ad : Option Addr) (cd : Nat) (Ac : Option Addr) (cc : Nat) (gr : Nat) (r : Rt) (A : Option Addr) (n c : Nat) (w : World) : Prop where
  pb : Blk w gp 29 #[.int .i64 p.proto, .int .i64 p.cap, .int .i64 p.k, .slice An p.nodes.length cn, .slice Al p.links.length cl, .slice Ad p.dests.length cd, .slice Ac p.checks.length cc]
  rb : Blk w gr 42 #[.int .i64 r.kind, .int .i64 r.cost, .slice A n c]
  pat : PAt w p p.proto p.cap p.k An p.nodes.length Al p.links.length Ad p.dests.length Ac p.checks.length
  rat : RtAt w r A n
  up : Below w0.heap.size w0 w
section
variable {w0 w w' : World} {gp gr : Nat} {p : PPlan} {An Al Ad Ac A : Option Addr} {cn cl cd cc n c : Nat} {r : Rt}
theorem PR.go (h : PR w0 gp p An cn Al cl Ad cd Ac cc gr r A n c w) (hb : Below w.heap.size w w') : PR w0 gp p An cn Al cl Ad cd Ac cc gr r A n c w' := ⟨h.pb.up hb, h.rb.up hb, h.pat.up hb, h.rat.on hb, below_on h.up hb⟩
theorem PR.drew (h : PR w0 gp p An cn Al cl Ad cd Ac cc gr r A n c w) : PR w0 gp p An cn Al cl Ad cd Ac cc gr r A n c w.drew := h.go ((Below.refl _ _).drew)
theorem PR.alloc (h : PR w0 gp p An cn Al cl Ad cd Ac cc gr r A n c w) (o : Obj) : PR w0 gp p An cn Al cl Ad cd Ac cc gr r A n c (w.alloc o) := h.go (below_new _ _)
theorem PR.new (h : PAt w p p.proto p.cap p.k An p.nodes.length Al p.links.length Ad p.dests.length Ac p.checks.length) (hr : RtAt w r A n) : PR w w.heap.size p An cn Al cl Ad cd Ac cc (w.heap.size + 1) r A n c ((w.alloc (.cells #[.int .i64 p.proto, .int .i64 p.cap, .int .i64 p.k, .slice An p.nodes.length cn, .slice Al p.links.length cl, .slice Ad p.dests.length cd, .slice Ac p.checks.length cc] 29)).alloc (.cells #[.int .i64 r.kind, .int .i64 r.cost, .slice A n c] 42)) :=
  ⟨(Blk.new w _ _).alloc _, by simpa using Blk.new (w.alloc (.cells #[.int .i64 p.proto, .int .i64 p.cap, .int .i64 p.k, .slice An p.nodes.length cn, .slice Al p.links.length cl, .slice Ad p.dests.length cd, .slice Ac p.checks.length cc] 29)) 42 #[.int .i64 r.kind, .int .i64 r.cost, .slice A n c], h.up (below_2 w _ _), hr.on (below_2 w _ _), below_2 w _ _⟩
theorem PR.cells (h : PR w0 gp p An cn Al cl Ad cd Ac cc gr r A n c w) : (w.cell? ⟨gp, 0, none⟩ = some (.int .i64 p.proto) ∧ w.cell? ⟨gp, 1, none⟩ = some (.int .i64 p.cap) ∧ w.cell? ⟨gp, 2, none⟩ = some (.int .i64 p.k) ∧ w.cell? ⟨gp, 3, none⟩ = some (.slice An p.nodes.length cn) ∧ w.cell? ⟨gp, 4, none⟩ = some (.slice Al p.links.length cl) ∧ w.cell? ⟨gp, 5, none⟩ = some (.slice Ad p.dests.length cd) ∧ w.cell? ⟨gp, 6, none⟩ = some (.slice Ac p.checks.length cc)) ∧
    w.cell? ⟨gr, 0, none⟩ = some (.int .i64 r.kind) ∧ w.cell? ⟨gr, 1, none⟩ = some (.int .i64 r.cost) ∧ w.cell? ⟨gr, 2, none⟩ = some (.slice A n c) := ⟨box7 h.pb, h.rb.cell 0, h.rb.cell 1, h.rb.cell 2⟩
end
set_option maxHeartbeats 8000000 in
set_option maxRecDepth 100000 in
theorem caFits_any (p : PPlan) (i : Nat) (nd : PNode) (hnd : p.nodes[i]? = some nd) (r : Rt) {An Al Ad Ac A : Option Addr} {cn cl cd cc n c : Nat} {w : World} (h : PAt w p p.proto p.cap p.k An p.nodes.length Al p.links.length Ad p.dests.length Ac p.checks.length) (hs : PSmall p) (hr : RtAt w r A n) (hl : n ≤ c) (hc : c ≤ 9223372036854775807) :
    Calls Try.prog 49 #[.agg #[.int .i64 p.proto, .int .i64 p.cap, .int .i64 p.k, .slice An p.nodes.length cn, .slice Al p.links.length cl, .slice Ad p.dests.length cd, .slice Ac p.checks.length cc], .int .i64 (i : Nat), .agg #[.int .i64 r.kind, .int .i64 r.cost, .slice A n c]] w fun e w' => e = .returned (.bool (fitB p nd.num r)) ∧ Below w.heap.size w w' := by
  obtain ⟨g, rfl, _, _, _⟩ := h.nodes.node hnd
  have HND := Lib.hid hnd
  have hil := (List.getElem?_eq_some_iff.1 hnd).1
  have i0 : (0 : Int) ≤ (i : Int) := by omega
  have i1 : (i : Int) < (p.nodes.length : Int) := by omega
  have hn63 : p.nodes.length ≤ 9223372036854775807 := by have := hs.ln; omega
  have E0 := PR.new (c := c) (cn := cn) (cl := cl) (cd := cd) (cc := cc) h hr
  have E1 := E0.drew
  obtain ⟨⟨a0, a1, a2, a3, a4, a5, a6⟩, b0, b1, b2⟩ := E0.cells
  obtain ⟨n0, n1⟩ := RowAt.nodeAt E0.pat.nodes HND.out
  obtain ⟨b, hb⟩ : ∃ b, rtRight r = b := ⟨_, rfl⟩
  have HB := Lib.hid hb
  cases b
  · have HR : Hid (false = fitB p nd.num r) := Lib.hid (by unfold fitB; rw [hb]; rfl)
    clear hb hnd h hr
    go_enter Try.func49, Try.ntmps49
    go_upto_region 1 with fail
    refine wp_region_held_drew (S := (fun w' => (w'.cell? ⟨w.heap.size, 0, none⟩ = some (.int .i64 p.proto) ∧ w'.cell? ⟨w.heap.size, 1, none⟩ = some (.int .i64 p.cap) ∧ w'.cell? ⟨w.heap.size, 2, none⟩ = some (.int .i64 p.k) ∧ w'.cell? ⟨w.heap.size, 3, none⟩ = some (.slice (some ⟨g, 0, none⟩) p.nodes.length cn) ∧ w'.cell? ⟨w.heap.size, 4, none⟩ = some (.slice Al p.links.length cl) ∧ w'.cell? ⟨w.heap.size, 5, none⟩ = some (.slice Ad p.dests.length cd) ∧ w'.cell? ⟨w.heap.size, 6, none⟩ = some (.slice Ac p.checks.length cc)) ∧ (w'.cell? ⟨w.heap.size + 1, 0, none⟩ = some (.int .i64 r.kind) ∧ w'.cell? ⟨w.heap.size + 1, 1, none⟩ = some (.int .i64 r.cost) ∧ w'.cell? ⟨w.heap.size + 1, 2, none⟩ = some (.slice A n c)) ∧ w'.cell? ⟨g, i * 2, none⟩ = some (.string nd.name) ∧ w'.cell? ⟨g, i * 2 + 1, none⟩ = some (.int .i64 nd.num))) (by kernel_rfl) (by go_keep) (fun hHeld => ?_)
    refine wpAnyH_take (i := 0) (oi := ?o1) (v := ?v1) ?h1 ?s1 ?f1 ?c1 ?q1 ?y1 hHeld ?r1
    case h1 => (simp only [List.getElem?_toArray, List.getElem?_cons_succ, List.getElem?_cons_zero]; rfl)
    case s1 => kernel_rfl
    case f1 => kernel_rfl
    case c1 => kernel_rfl
    case y1 => (refine Or.inl ⟨by rfl, ?_⟩; intro w hSw; (try dsimp only at hSw); go_simp; (try with_reducible rfl))
    case q1 => exact fun _ _ _ h => h
    try simp only [Act.put, List.setIfInBounds_toArray, List.set_cons_zero, List.set_cons_succ]
    refine wpAnyH_ready (rs := [1]) (by kernel_rfl) (by simp) ?_
    refine AllReadyH.cons rfl (fun K hK => ?_) ?n2
    case n2 => exact AllReadyH.nil
    go_simp
    (go_at_call 66; (with_reducible refine (atRight_is r false HB E1.rat hl hc).mono ?_); rintro e y1 ⟨rfl, hy1⟩; replace E1 := E1.go hy1; obtain ⟨⟨a0, a1, a2, a3, a4, a5, a6⟩, b0, b1, b2⟩ := E1.cells; obtain ⟨n0, n1⟩ := RowAt.nodeAt E1.pat.nodes HND.out)
    go_wp2_with fail
    refine hK.out _ _ (by go_keep) (fun hHeld => ?_)
    clear hK
    try simp only [Act.put, List.setIfInBounds_toArray, List.set_cons_zero, List.set_cons_succ]
    refine wpAnyH_take (i := 2) (oi := ?o3) (v := ?v3) ?h3 ?s3 ?f3 ?c3 ?q3 ?y3 hHeld ?r3
    case h3 => (simp only [List.getElem?_toArray, List.getElem?_cons_succ, List.getElem?_cons_zero]; rfl)
    case s3 => kernel_rfl
    case f3 => kernel_rfl
    case c3 => kernel_rfl
    case y3 => (refine Or.inl ⟨by rfl, ?_⟩; intro w hSw; (try dsimp only at hSw); go_simp; (try with_reducible rfl))
    case q3 => exact fun _ _ _ h => h
    try simp only [Act.put, List.setIfInBounds_toArray, List.set_cons_zero, List.set_cons_succ]
    refine wpAnyH_take (i := 3) (oi := ?o4) (v := undef) ?h4 ?s4 ?f4 ?c4 ?q4 ?y4 hHeld ?r4
    case h4 => (simp only [List.getElem?_toArray, List.getElem?_cons_succ, List.getElem?_cons_zero]; rfl)
    case s4 => kernel_rfl
    case f4 => kernel_rfl
    case c4 => kernel_rfl
    case y4 => exact Or.inr ⟨by rfl, rfl⟩
    case q4 => exact fun _ _ _ h => h
    try simp only [Act.put, List.setIfInBounds_toArray, List.set_cons_zero, List.set_cons_succ]
    refine wpAnyH_take (i := 4) (oi := ?o5) (v := undef) ?h5 ?s5 ?f5 ?c5 ?q5 ?y5 hHeld ?r5
    case h5 => (simp only [List.getElem?_toArray, List.getElem?_cons_succ, List.getElem?_cons_zero]; rfl)
    case s5 => kernel_rfl
    case f5 => kernel_rfl
    case c5 => kernel_rfl
    case y5 => exact Or.inr ⟨by rfl, rfl⟩
    case q5 => exact fun _ _ _ h => h
    try simp only [Act.put, List.setIfInBounds_toArray, List.set_cons_zero, List.set_cons_succ]
    refine wpAnyH_take (i := 5) (oi := ?o6) (v := undef) ?h6 ?s6 ?f6 ?c6 ?q6 ?y6 hHeld ?r6
    case h6 => (simp only [List.getElem?_toArray, List.getElem?_cons_succ, List.getElem?_cons_zero]; rfl)
    case s6 => kernel_rfl
    case f6 => kernel_rfl
    case c6 => kernel_rfl
    case y6 => exact Or.inr ⟨by rfl, rfl⟩
    case q6 => exact fun _ _ _ h => h
    try simp only [Act.put, List.setIfInBounds_toArray, List.set_cons_zero, List.set_cons_succ]
    refine wpAnyH_take (i := 6) (oi := ?o7) (v := undef) ?h7 ?s7 ?f7 ?c7 ?q7 ?y7 hHeld ?r7
    case h7 => (simp only [List.getElem?_toArray, List.getElem?_cons_succ, List.getElem?_cons_zero]; rfl)
    case s7 => kernel_rfl
    case f7 => kernel_rfl
    case c7 => kernel_rfl
    case y7 => exact Or.inr ⟨by rfl, rfl⟩
    case q7 => exact fun _ _ _ h => h
    try simp only [Act.put, List.setIfInBounds_toArray, List.set_cons_zero, List.set_cons_succ]
    refine wpAnyH_take (i := 7) (oi := ?o8) (v := undef) ?h8 ?s8 ?f8 ?c8 ?q8 ?y8 hHeld ?r8
    case h8 => (simp only [List.getElem?_toArray, List.getElem?_cons_succ, List.getElem?_cons_zero]; rfl)
    case s8 => kernel_rfl
    case f8 => kernel_rfl
    case c8 => kernel_rfl
    case y8 => exact Or.inr ⟨by rfl, rfl⟩
    case q8 => exact fun _ _ _ h => h
    try simp only [Act.put, List.setIfInBounds_toArray, List.set_cons_zero, List.set_cons_succ]
    refine wpAnyH_take (i := 8) (oi := ?o9) (v := undef) ?h9 ?s9 ?f9 ?c9 ?q9 ?y9 hHeld ?r9
    case h9 => (simp only [List.getElem?_toArray, List.getElem?_cons_succ, List.getElem?_cons_zero]; rfl)
    case s9 => kernel_rfl
    case f9 => kernel_rfl
    case c9 => kernel_rfl
    case y9 => exact Or.inr ⟨by rfl, rfl⟩
    case q9 => exact fun _ _ _ h => h
    try simp only [Act.put, List.setIfInBounds_toArray, List.set_cons_zero, List.set_cons_succ]
    refine wpAnyH_take (i := 9) (oi := ?o10) (v := undef) ?h10 ?s10 ?f10 ?c10 ?q10 ?y10 hHeld ?r10
    case h10 => (simp only [List.getElem?_toArray, List.getElem?_cons_succ, List.getElem?_cons_zero]; rfl)
    case s10 => kernel_rfl
    case f10 => kernel_rfl
    case c10 => kernel_rfl
    case y10 => exact Or.inr ⟨by rfl, rfl⟩
    case q10 => exact fun _ _ _ h => h
    try simp only [Act.put, List.setIfInBounds_toArray, List.set_cons_zero, List.set_cons_succ]
    refine wpAnyH_take (i := 10) (oi := ?o11) (v := undef) ?h11 ?s11 ?f11 ?c11 ?q11 ?y11 hHeld ?r11
    case h11 => (simp only [List.getElem?_toArray, List.getElem?_cons_succ, List.getElem?_cons_zero]; rfl)
    case s11 => kernel_rfl
    case f11 => kernel_rfl
    case c11 => kernel_rfl
    case y11 => exact Or.inr ⟨by rfl, rfl⟩
    case q11 => exact fun _ _ _ h => h
    try simp only [Act.put, List.setIfInBounds_toArray, List.set_cons_zero, List.set_cons_succ]
    refine wpAnyH_take (i := 11) (oi := ?o12) (v := undef) ?h12 ?s12 ?f12 ?c12 ?q12 ?y12 hHeld ?r12
    case h12 => (simp only [List.getElem?_toArray, List.getElem?_cons_succ, List.getElem?_cons_zero]; rfl)
    case s12 => kernel_rfl
    case f12 => kernel_rfl
    case c12 => kernel_rfl
    case y12 => exact Or.inr ⟨by rfl, rfl⟩
    case q12 => exact fun _ _ _ h => h
    try simp only [Act.put, List.setIfInBounds_toArray, List.set_cons_zero, List.set_cons_succ]
    refine wpAnyH_take (i := 12) (oi := ?o13) (v := undef) ?h13 ?s13 ?f13 ?c13 ?q13 ?y13 hHeld ?r13
    case h13 => (simp only [List.getElem?_toArray, List.getElem?_cons_succ, List.getElem?_cons_zero]; rfl)
    case s13 => kernel_rfl
    case f13 => kernel_rfl
    case c13 => kernel_rfl
    case y13 => exact Or.inr ⟨by rfl, rfl⟩
    case q13 => exact fun _ _ _ h => h
    try simp only [Act.put, List.setIfInBounds_toArray, List.set_cons_zero, List.set_cons_succ]
    refine wpAnyH_take (i := 13) (oi := ?o14) (v := undef) ?h14 ?s14 ?f14 ?c14 ?q14 ?y14 hHeld ?r14
    case h14 => (simp only [List.getElem?_toArray, List.getElem?_cons_succ, List.getElem?_cons_zero]; rfl)
    case s14 => kernel_rfl
    case f14 => kernel_rfl
    case c14 => kernel_rfl
    case y14 => exact Or.inr ⟨by rfl, rfl⟩
    case q14 => exact fun _ _ _ h => h
    try simp only [Act.put, List.setIfInBounds_toArray, List.set_cons_zero, List.set_cons_succ]
    refine wpAnyH_take (i := 14) (oi := ?o15) (v := undef) ?h15 ?s15 ?f15 ?c15 ?q15 ?y15 hHeld ?r15
    case h15 => (simp only [List.getElem?_toArray, List.getElem?_cons_succ, List.getElem?_cons_zero]; rfl)
    case s15 => kernel_rfl
    case f15 => kernel_rfl
    case c15 => kernel_rfl
    case y15 => exact Or.inr ⟨by rfl, rfl⟩
    case q15 => exact fun _ _ _ h => h
    try simp only [Act.put, List.setIfInBounds_toArray, List.set_cons_zero, List.set_cons_succ]
    refine wpAnyH_take (i := 15) (oi := ?o16) (v := undef) ?h16 ?s16 ?f16 ?c16 ?q16 ?y16 hHeld ?r16
    case h16 => (simp only [List.getElem?_toArray, List.getElem?_cons_succ, List.getElem?_cons_zero]; rfl)
    case s16 => kernel_rfl
    case f16 => kernel_rfl
    case c16 => kernel_rfl
    case y16 => exact Or.inr ⟨by rfl, rfl⟩
    case q16 => exact fun _ _ _ h => h
    try simp only [Act.put, List.setIfInBounds_toArray, List.set_cons_zero, List.set_cons_succ]
    refine wpAnyH_take (i := 16) (oi := ?o17) (v := undef) ?h17 ?s17 ?f17 ?c17 ?q17 ?y17 hHeld ?r17
    case h17 => (simp only [List.getElem?_toArray, List.getElem?_cons_succ, List.getElem?_cons_zero]; rfl)
    case s17 => kernel_rfl
    case f17 => kernel_rfl
    case c17 => kernel_rfl
    case y17 => exact Or.inr ⟨by rfl, rfl⟩
    case q17 => exact fun _ _ _ h => h
    try simp only [Act.put, List.setIfInBounds_toArray, List.set_cons_zero, List.set_cons_succ]
    refine wpAnyH_take (i := 17) (oi := ?o18) (v := undef) ?h18 ?s18 ?f18 ?c18 ?q18 ?y18 hHeld ?r18
    case h18 => (simp only [List.getElem?_toArray, List.getElem?_cons_succ, List.getElem?_cons_zero]; rfl)
    case s18 => kernel_rfl
    case f18 => kernel_rfl
    case c18 => kernel_rfl
    case y18 => exact Or.inr ⟨by rfl, rfl⟩
    case q18 => exact fun _ _ _ h => h
    try simp only [Act.put, List.setIfInBounds_toArray, List.set_cons_zero, List.set_cons_succ]
    refine wpAnyH_take (i := 18) (oi := ?o19) (v := undef) ?h19 ?s19 ?f19 ?c19 ?q19 ?y19 hHeld ?r19
    case h19 => (simp only [List.getElem?_toArray, List.getElem?_cons_succ, List.getElem?_cons_zero]; rfl)
    case s19 => kernel_rfl
    case f19 => kernel_rfl
    case c19 => kernel_rfl
    case y19 => exact Or.inr ⟨by rfl, rfl⟩
    case q19 => exact fun _ _ _ h => h
    try simp only [Act.put, List.setIfInBounds_toArray, List.set_cons_zero, List.set_cons_succ]
    refine wpAnyH_take (i := 19) (oi := ?o20) (v := undef) ?h20 ?s20 ?f20 ?c20 ?q20 ?y20 hHeld ?r20
    case h20 => (simp only [List.getElem?_toArray, List.getElem?_cons_succ, List.getElem?_cons_zero]; rfl)
    case s20 => kernel_rfl
    case f20 => kernel_rfl
    case c20 => kernel_rfl
    case y20 => exact Or.inr ⟨by rfl, rfl⟩
    case q20 => exact fun _ _ _ h => h
    try simp only [Act.put, List.setIfInBounds_toArray, List.set_cons_zero, List.set_cons_succ]
    refine wpAnyH_take (i := 20) (oi := ?o21) (v := ?v21) ?h21 ?s21 ?f21 ?c21 ?q21 ?y21 hHeld ?r21
    case h21 => (simp only [List.getElem?_toArray, List.getElem?_cons_succ, List.getElem?_cons_zero]; rfl)
    case s21 => kernel_rfl
    case f21 => kernel_rfl
    case c21 => kernel_rfl
    case y21 => (refine Or.inl ⟨by rfl, ?_⟩; intro w hSw; (try dsimp only at hSw); go_simp; (try with_reducible rfl))
    case q21 => exact fun _ _ _ h => h
    try simp only [Act.put, List.setIfInBounds_toArray, List.set_cons_zero, List.set_cons_succ]
    refine wpAnyH_take (i := 21) (oi := ?o22) (v := ?v22) ?h22 ?s22 ?f22 ?c22 ?q22 ?y22 hHeld ?r22
    case h22 => (simp only [List.getElem?_toArray, List.getElem?_cons_succ, List.getElem?_cons_zero]; rfl)
    case s22 => kernel_rfl
    case f22 => kernel_rfl
    case c22 => kernel_rfl
    case y22 => (refine Or.inl ⟨by rfl, ?_⟩; intro w hSw; (try dsimp only at hSw); go_simp; (try with_reducible rfl))
    case q22 => exact fun _ _ _ h => h
    try simp only [Act.put, List.setIfInBounds_toArray, List.set_cons_zero, List.set_cons_succ]
    refine wpAnyH_done (by kernel_rfl) ?_ _
    repeat go_step
    go_ret
    exact ⟨ret_bool HR.out, E1.up⟩
  · by_cases hk : r.kind = 0
    · have t0 : (r.kind == 0) = true := by simpa using hk
      have HR : Hid (true = fitB p nd.num r) := Lib.hid (by unfold fitB; rw [hb, decide_eq_true hk]; rfl)
      clear hb hnd h hr hk
      go_enter Try.func49, Try.ntmps49
      go_upto_region 1 with fail
      refine wp_region_held_drew (S := (fun w' => (w'.cell? ⟨w.heap.size, 0, none⟩ = some (.int .i64 p.proto) ∧ w'.cell? ⟨w.heap.size, 1, none⟩ = some (.int .i64 p.cap) ∧ w'.cell? ⟨w.heap.size, 2, none⟩ = some (.int .i64 p.k) ∧ w'.cell? ⟨w.heap.size, 3, none⟩ = some (.slice (some ⟨g, 0, none⟩) p.nodes.length cn) ∧ w'.cell? ⟨w.heap.size, 4, none⟩ = some (.slice Al p.links.length cl) ∧ w'.cell? ⟨w.heap.size, 5, none⟩ = some (.slice Ad p.dests.length cd) ∧ w'.cell? ⟨w.heap.size, 6, none⟩ = some (.slice Ac p.checks.length cc)) ∧ (w'.cell? ⟨w.heap.size + 1, 0, none⟩ = some (.int .i64 r.kind) ∧ w'.cell? ⟨w.heap.size + 1, 1, none⟩ = some (.int .i64 r.cost) ∧ w'.cell? ⟨w.heap.size + 1, 2, none⟩ = some (.slice A n c)) ∧ w'.cell? ⟨g, i * 2, none⟩ = some (.string nd.name) ∧ w'.cell? ⟨g, i * 2 + 1, none⟩ = some (.int .i64 nd.num))) (by kernel_rfl) (by go_keep) (fun hHeld => ?_)
      refine wpAnyH_take (i := 0) (oi := ?o23) (v := ?v23) ?h23 ?s23 ?f23 ?c23 ?q23 ?y23 hHeld ?r23
      case h23 => (simp only [List.getElem?_toArray, List.getElem?_cons_succ, List.getElem?_cons_zero]; rfl)
      case s23 => kernel_rfl
      case f23 => kernel_rfl
      case c23 => kernel_rfl
      case y23 => (refine Or.inl ⟨by rfl, ?_⟩; intro w hSw; (try dsimp only at hSw); go_simp; (try with_reducible rfl))
      case q23 => exact fun _ _ _ h => h
      try simp only [Act.put, List.setIfInBounds_toArray, List.set_cons_zero, List.set_cons_succ]
      refine wpAnyH_ready (rs := [1]) (by kernel_rfl) (by simp) ?_
      refine AllReadyH.cons rfl (fun K hK => ?_) ?n24
      case n24 => exact AllReadyH.nil
      go_simp
      (go_at_call 66; (with_reducible refine (atRight_is r true HB E1.rat hl hc).mono ?_); rintro e y1 ⟨rfl, hy1⟩; replace E1 := E1.go hy1; obtain ⟨⟨a0, a1, a2, a3, a4, a5, a6⟩, b0, b1, b2⟩ := E1.cells; obtain ⟨n0, n1⟩ := RowAt.nodeAt E1.pat.nodes HND.out)
      go_wp2_with fail
      refine hK.out _ _ (by go_keep) (fun hHeld => ?_)
      clear hK
      try simp only [Act.put, List.setIfInBounds_toArray, List.set_cons_zero, List.set_cons_succ]
      refine wpAnyH_take (i := 2) (oi := ?o25) (v := ?v25) ?h25 ?s25 ?f25 ?c25 ?q25 ?y25 hHeld ?r25
      case h25 => (simp only [List.getElem?_toArray, List.getElem?_cons_succ, List.getElem?_cons_zero]; rfl)
      case s25 => kernel_rfl
      case f25 => kernel_rfl
      case c25 => kernel_rfl
      case y25 => (refine Or.inl ⟨by rfl, ?_⟩; intro w hSw; (try dsimp only at hSw); go_simp; (try with_reducible rfl))
      case q25 => exact fun _ _ _ h => h
      try simp only [Act.put, List.setIfInBounds_toArray, List.set_cons_zero, List.set_cons_succ]
      refine wpAnyH_take (i := 3) (oi := ?o26) (v := ?v26) ?h26 ?s26 ?f26 ?c26 ?q26 ?y26 hHeld ?r26
      case h26 => (simp only [List.getElem?_toArray, List.getElem?_cons_succ, List.getElem?_cons_zero]; rfl)
      case s26 => kernel_rfl
      case f26 => kernel_rfl
      case c26 => kernel_rfl
      case y26 => (refine Or.inl ⟨by rfl, ?_⟩; intro w hSw; (try dsimp only at hSw); go_simp; (try with_reducible rfl))
      case q26 => exact fun _ _ _ h => h
      try simp only [Act.put, List.setIfInBounds_toArray, List.set_cons_zero, List.set_cons_succ]
      refine wpAnyH_take (i := 4) (oi := ?o27) (v := ?v27) ?h27 ?s27 ?f27 ?c27 ?q27 ?y27 hHeld ?r27
      case h27 => (simp only [List.getElem?_toArray, List.getElem?_cons_succ, List.getElem?_cons_zero]; rfl)
      case s27 => kernel_rfl
      case f27 => kernel_rfl
      case c27 => kernel_rfl
      case y27 => (refine Or.inl ⟨by rfl, ?_⟩; intro w hSw; (try dsimp only at hSw); go_simp; (try with_reducible rfl))
      case q27 => exact fun _ _ _ h => h
      try simp only [Act.put, List.setIfInBounds_toArray, List.set_cons_zero, List.set_cons_succ]
      refine wpAnyH_take (i := 5) (oi := ?o28) (v := ?v28) ?h28 ?s28 ?f28 ?c28 ?q28 ?y28 hHeld ?r28
      case h28 => (simp only [List.getElem?_toArray, List.getElem?_cons_succ, List.getElem?_cons_zero]; rfl)
      case s28 => kernel_rfl
      case f28 => kernel_rfl
      case c28 => kernel_rfl
      case y28 => (refine Or.inl ⟨by rfl, ?_⟩; intro w hSw; (try dsimp only at hSw); go_simp; (try with_reducible rfl))
      case q28 => exact fun _ _ _ h => h
      try simp only [Act.put, List.setIfInBounds_toArray, List.set_cons_zero, List.set_cons_succ]
      refine wpAnyH_take (i := 6) (oi := ?o29) (v := ?v29) ?h29 ?s29 ?f29 ?c29 ?q29 ?y29 hHeld ?r29
      case h29 => (simp only [List.getElem?_toArray, List.getElem?_cons_succ, List.getElem?_cons_zero]; rfl)
      case s29 => kernel_rfl
      case f29 => kernel_rfl
      case c29 => kernel_rfl
      case y29 => (refine Or.inl ⟨by rfl, ?_⟩; intro w hSw; (try dsimp only at hSw); go_simp; (try with_reducible rfl))
      case q29 => exact fun _ _ _ h => h
      try simp only [Act.put, List.setIfInBounds_toArray, List.set_cons_zero, List.set_cons_succ]
      refine wpAnyH_take (i := 7) (oi := ?o30) (v := undef) ?h30 ?s30 ?f30 ?c30 ?q30 ?y30 hHeld ?r30
      case h30 => (simp only [List.getElem?_toArray, List.getElem?_cons_succ, List.getElem?_cons_zero]; rfl)
      case s30 => kernel_rfl
      case f30 => kernel_rfl
      case c30 => kernel_rfl
      case y30 => exact Or.inr ⟨by rfl, rfl⟩
      case q30 => exact fun _ _ _ h => h
      try simp only [Act.put, List.setIfInBounds_toArray, List.set_cons_zero, List.set_cons_succ]
      refine wpAnyH_take (i := 8) (oi := ?o31) (v := undef) ?h31 ?s31 ?f31 ?c31 ?q31 ?y31 hHeld ?r31
      case h31 => (simp only [List.getElem?_toArray, List.getElem?_cons_succ, List.getElem?_cons_zero]; rfl)
      case s31 => kernel_rfl
      case f31 => kernel_rfl
      case c31 => kernel_rfl
      case y31 => exact Or.inr ⟨by rfl, rfl⟩
      case q31 => exact fun _ _ _ h => h
      try simp only [Act.put, List.setIfInBounds_toArray, List.set_cons_zero, List.set_cons_succ]
      refine wpAnyH_take (i := 9) (oi := ?o32) (v := undef) ?h32 ?s32 ?f32 ?c32 ?q32 ?y32 hHeld ?r32
      case h32 => (simp only [List.getElem?_toArray, List.getElem?_cons_succ, List.getElem?_cons_zero]; rfl)
      case s32 => kernel_rfl
      case f32 => kernel_rfl
      case c32 => kernel_rfl
      case y32 => exact Or.inr ⟨by rfl, rfl⟩
      case q32 => exact fun _ _ _ h => h
      try simp only [Act.put, List.setIfInBounds_toArray, List.set_cons_zero, List.set_cons_succ]
      refine wpAnyH_take (i := 10) (oi := ?o33) (v := undef) ?h33 ?s33 ?f33 ?c33 ?q33 ?y33 hHeld ?r33
      case h33 => (simp only [List.getElem?_toArray, List.getElem?_cons_succ, List.getElem?_cons_zero]; rfl)
      case s33 => kernel_rfl
      case f33 => kernel_rfl
      case c33 => kernel_rfl
      case y33 => exact Or.inr ⟨by rfl, rfl⟩
      case q33 => exact fun _ _ _ h => h
      try simp only [Act.put, List.setIfInBounds_toArray, List.set_cons_zero, List.set_cons_succ]
      refine wpAnyH_take (i := 11) (oi := ?o34) (v := undef) ?h34 ?s34 ?f34 ?c34 ?q34 ?y34 hHeld ?r34
      case h34 => (simp only [List.getElem?_toArray, List.getElem?_cons_succ, List.getElem?_cons_zero]; rfl)
      case s34 => kernel_rfl
      case f34 => kernel_rfl
      case c34 => kernel_rfl
      case y34 => exact Or.inr ⟨by rfl, rfl⟩
      case q34 => exact fun _ _ _ h => h
      try simp only [Act.put, List.setIfInBounds_toArray, List.set_cons_zero, List.set_cons_succ]
      refine wpAnyH_take (i := 12) (oi := ?o35) (v := undef) ?h35 ?s35 ?f35 ?c35 ?q35 ?y35 hHeld ?r35
      case h35 => (simp only [List.getElem?_toArray, List.getElem?_cons_succ, List.getElem?_cons_zero]; rfl)
      case s35 => kernel_rfl
      case f35 => kernel_rfl
      case c35 => kernel_rfl
      case y35 => exact Or.inr ⟨by rfl, rfl⟩
      case q35 => exact fun _ _ _ h => h
      try simp only [Act.put, List.setIfInBounds_toArray, List.set_cons_zero, List.set_cons_succ]
      refine wpAnyH_take (i := 13) (oi := ?o36) (v := undef) ?h36 ?s36 ?f36 ?c36 ?q36 ?y36 hHeld ?r36
      case h36 => (simp only [List.getElem?_toArray, List.getElem?_cons_succ, List.getElem?_cons_zero]; rfl)
      case s36 => kernel_rfl
      case f36 => kernel_rfl
      case c36 => kernel_rfl
      case y36 => exact Or.inr ⟨by rfl, rfl⟩
      case q36 => exact fun _ _ _ h => h
      try simp only [Act.put, List.setIfInBounds_toArray, List.set_cons_zero, List.set_cons_succ]
      refine wpAnyH_take (i := 14) (oi := ?o37) (v := undef) ?h37 ?s37 ?f37 ?c37 ?q37 ?y37 hHeld ?r37
      case h37 => (simp only [List.getElem?_toArray, List.getElem?_cons_succ, List.getElem?_cons_zero]; rfl)
      case s37 => kernel_rfl
      case f37 => kernel_rfl
      case c37 => kernel_rfl
      case y37 => exact Or.inr ⟨by rfl, rfl⟩
      case q37 => exact fun _ _ _ h => h
      try simp only [Act.put, List.setIfInBounds_toArray, List.set_cons_zero, List.set_cons_succ]
      refine wpAnyH_take (i := 15) (oi := ?o38) (v := undef) ?h38 ?s38 ?f38 ?c38 ?q38 ?y38 hHeld ?r38
      case h38 => (simp only [List.getElem?_toArray, List.getElem?_cons_succ, List.getElem?_cons_zero]; rfl)
      case s38 => kernel_rfl
      case f38 => kernel_rfl
      case c38 => kernel_rfl
      case y38 => exact Or.inr ⟨by rfl, rfl⟩
      case q38 => exact fun _ _ _ h => h
      try simp only [Act.put, List.setIfInBounds_toArray, List.set_cons_zero, List.set_cons_succ]
      refine wpAnyH_take (i := 16) (oi := ?o39) (v := undef) ?h39 ?s39 ?f39 ?c39 ?q39 ?y39 hHeld ?r39
      case h39 => (simp only [List.getElem?_toArray, List.getElem?_cons_succ, List.getElem?_cons_zero]; rfl)
      case s39 => kernel_rfl
      case f39 => kernel_rfl
      case c39 => kernel_rfl
      case y39 => exact Or.inr ⟨by rfl, rfl⟩
      case q39 => exact fun _ _ _ h => h
      try simp only [Act.put, List.setIfInBounds_toArray, List.set_cons_zero, List.set_cons_succ]
      refine wpAnyH_take (i := 17) (oi := ?o40) (v := undef) ?h40 ?s40 ?f40 ?c40 ?q40 ?y40 hHeld ?r40
      case h40 => (simp only [List.getElem?_toArray, List.getElem?_cons_succ, List.getElem?_cons_zero]; rfl)
      case s40 => kernel_rfl
      case f40 => kernel_rfl
      case c40 => kernel_rfl
      case y40 => exact Or.inr ⟨by rfl, rfl⟩
      case q40 => exact fun _ _ _ h => h
      try simp only [Act.put, List.setIfInBounds_toArray, List.set_cons_zero, List.set_cons_succ]
      refine wpAnyH_take (i := 18) (oi := ?o41) (v := undef) ?h41 ?s41 ?f41 ?c41 ?q41 ?y41 hHeld ?r41
      case h41 => (simp only [List.getElem?_toArray, List.getElem?_cons_succ, List.getElem?_cons_zero]; rfl)
      case s41 => kernel_rfl
      case f41 => kernel_rfl
      case c41 => kernel_rfl
      case y41 => exact Or.inr ⟨by rfl, rfl⟩
      case q41 => exact fun _ _ _ h => h
      try simp only [Act.put, List.setIfInBounds_toArray, List.set_cons_zero, List.set_cons_succ]
      refine wpAnyH_take (i := 19) (oi := ?o42) (v := ?v42) ?h42 ?s42 ?f42 ?c42 ?q42 ?y42 hHeld ?r42
      case h42 => (simp only [List.getElem?_toArray, List.getElem?_cons_succ, List.getElem?_cons_zero]; rfl)
      case s42 => kernel_rfl
      case f42 => kernel_rfl
      case c42 => kernel_rfl
      case y42 => (refine Or.inl ⟨by rfl, ?_⟩; intro w hSw; (try dsimp only at hSw); go_simp; (try with_reducible rfl))
      case q42 => exact fun _ _ _ h => h
      try simp only [Act.put, List.setIfInBounds_toArray, List.set_cons_zero, List.set_cons_succ]
      refine wpAnyH_take (i := 20) (oi := ?o43) (v := ?v43) ?h43 ?s43 ?f43 ?c43 ?q43 ?y43 hHeld ?r43
      case h43 => (simp only [List.getElem?_toArray, List.getElem?_cons_succ, List.getElem?_cons_zero]; rfl)
      case s43 => kernel_rfl
      case f43 => kernel_rfl
      case c43 => kernel_rfl
      case y43 => (refine Or.inl ⟨by rfl, ?_⟩; intro w hSw; (try dsimp only at hSw); go_simp; (try with_reducible rfl))
      case q43 => exact fun _ _ _ h => h
      try simp only [Act.put, List.setIfInBounds_toArray, List.set_cons_zero, List.set_cons_succ]
      refine wpAnyH_take (i := 21) (oi := ?o44) (v := ?v44) ?h44 ?s44 ?f44 ?c44 ?q44 ?y44 hHeld ?r44
      case h44 => (simp only [List.getElem?_toArray, List.getElem?_cons_succ, List.getElem?_cons_zero]; rfl)
      case s44 => kernel_rfl
      case f44 => kernel_rfl
      case c44 => kernel_rfl
      case y44 => (refine Or.inl ⟨by rfl, ?_⟩; intro w hSw; (try dsimp only at hSw); go_simp; (try with_reducible rfl))
      case q44 => exact fun _ _ _ h => h
      try simp only [Act.put, List.setIfInBounds_toArray, List.set_cons_zero, List.set_cons_succ]
      refine wpAnyH_done (by kernel_rfl) ?_ _
      repeat go_step
      go_ret
      exact ⟨ret_bool HR.out, E1.up⟩
    · have t0 : (r.kind == 0) = false := by simpa using hk
      obtain ⟨v, hv⟩ : ∃ v, holdsB p nd.num r = v := ⟨_, rfl⟩
      have HR : Hid (v = fitB p nd.num r) := Lib.hid (by unfold fitB; rw [hb, decide_eq_false hk, hv]; rfl)
      unfold holdsB at hv
      by_cases hp : p.proto = 2
      · rw [if_pos hp] at hv
        have HV := Lib.hid hv
        have HP := Lib.hid hp
        clear hb hnd h hr hk hv hp
        have m1 : ∀ (k : Nat) (w : World), (method (k + 1) 93 (.agg #[.int .i64 p.cap]) "backstay/carry.fits").run Try.prog w = .ok (107, .agg #[.int .i64 p.cap]) w := fun _ _ => by kernel_rfl
        have m2 : ∀ (k : Nat) (w : World), (nilAhead (k + 1) 93 (.agg #[.int .i64 p.cap]) "backstay/carry.fits").run Try.prog w = .ok (some false) w := fun _ _ => by kernel_rfl
        go_enter Try.func49, Try.ntmps49
        go_upto_region 1 with fail
        go_region_held3 (fun w' => (w'.cell? ⟨w.heap.size, 0, none⟩ = some (.int .i64 p.proto) ∧ w'.cell? ⟨w.heap.size, 1, none⟩ = some (.int .i64 p.cap) ∧ w'.cell? ⟨w.heap.size, 2, none⟩ = some (.int .i64 p.k) ∧ w'.cell? ⟨w.heap.size, 3, none⟩ = some (.slice (some ⟨g, 0, none⟩) p.nodes.length cn) ∧ w'.cell? ⟨w.heap.size, 4, none⟩ = some (.slice Al p.links.length cl) ∧ w'.cell? ⟨w.heap.size, 5, none⟩ = some (.slice Ad p.dests.length cd) ∧ w'.cell? ⟨w.heap.size, 6, none⟩ = some (.slice Ac p.checks.length cc)) ∧ (w'.cell? ⟨w.heap.size + 1, 0, none⟩ = some (.int .i64 r.kind) ∧ w'.cell? ⟨w.heap.size + 1, 1, none⟩ = some (.int .i64 r.cost) ∧ w'.cell? ⟨w.heap.size + 1, 2, none⟩ = some (.slice A n c)) ∧ w'.cell? ⟨g, i * 2, none⟩ = some (.string nd.name) ∧ w'.cell? ⟨g, i * 2 + 1, none⟩ = some (.int .i64 nd.num)) (go_keep) (first
          | (go_at_call 66; (with_reducible refine (atRight_is r true HB E1.rat hl hc).mono ?_); rintro e y1 ⟨rfl, hy1⟩; replace E1 := E1.go hy1; obtain ⟨⟨a0, a1, a2, a3, a4, a5, a6⟩, b0, b1, b2⟩ := E1.cells; obtain ⟨n0, n1⟩ := RowAt.nodeAt E1.pat.nodes HND.out)
          | (go_at_call 46; (with_reducible refine (protocolOf_pth HP.out _).mono ?_); rintro e y2 ⟨rfl, hy2⟩; replace E1 := E1.go hy2; obtain ⟨⟨a0, a1, a2, a3, a4, a5, a6⟩, b0, b1, b2⟩ := E1.cells; obtain ⟨n0, n1⟩ := RowAt.nodeAt E1.pat.nodes HND.out)
          | (go_at_call 107; (with_reducible refine (pth_fits p.cap nd r _ E1.rat v HV).mono ?_); rintro e y3 ⟨rfl, hy3⟩; replace E1 := E1.go hy3; obtain ⟨⟨a0, a1, a2, a3, a4, a5, a6⟩, b0, b1, b2⟩ := E1.cells; obtain ⟨n0, n1⟩ := RowAt.nodeAt E1.pat.nodes HND.out))
        go_step
        go_wp2_with fail
        go_ret
        exact ⟨ret_bool HR.out, E1.up⟩
      · rw [if_neg hp] at hv
        have HV := Lib.hid hv
        have HP := Lib.hid hp
        clear hb hnd h hr hk hv hp
        have m1 : ∀ (k : Nat) (w : World), (method (k + 1) 95 (.agg #[]) "backstay/carry.fits").run Try.prog w = .ok (110, .agg #[]) w := fun _ _ => by kernel_rfl
        have m2 : ∀ (k : Nat) (w : World), (nilAhead (k + 1) 95 (.agg #[]) "backstay/carry.fits").run Try.prog w = .ok (some false) w := fun _ _ => by kernel_rfl
        go_enter Try.func49, Try.ntmps49
        go_upto_region 1 with fail
        go_region_held3 (fun w' => (w'.cell? ⟨w.heap.size, 0, none⟩ = some (.int .i64 p.proto) ∧ w'.cell? ⟨w.heap.size, 1, none⟩ = some (.int .i64 p.cap) ∧ w'.cell? ⟨w.heap.size, 2, none⟩ = some (.int .i64 p.k) ∧ w'.cell? ⟨w.heap.size, 3, none⟩ = some (.slice (some ⟨g, 0, none⟩) p.nodes.length cn) ∧ w'.cell? ⟨w.heap.size, 4, none⟩ = some (.slice Al p.links.length cl) ∧ w'.cell? ⟨w.heap.size, 5, none⟩ = some (.slice Ad p.dests.length cd) ∧ w'.cell? ⟨w.heap.size, 6, none⟩ = some (.slice Ac p.checks.length cc)) ∧ (w'.cell? ⟨w.heap.size + 1, 0, none⟩ = some (.int .i64 r.kind) ∧ w'.cell? ⟨w.heap.size + 1, 1, none⟩ = some (.int .i64 r.cost) ∧ w'.cell? ⟨w.heap.size + 1, 2, none⟩ = some (.slice A n c)) ∧ w'.cell? ⟨g, i * 2, none⟩ = some (.string nd.name) ∧ w'.cell? ⟨g, i * 2 + 1, none⟩ = some (.int .i64 nd.num)) (go_keep) (first
          | (go_at_call 66; (with_reducible refine (atRight_is r true HB E1.rat hl hc).mono ?_); rintro e y1 ⟨rfl, hy1⟩; replace E1 := E1.go hy1; obtain ⟨⟨a0, a1, a2, a3, a4, a5, a6⟩, b0, b1, b2⟩ := E1.cells; obtain ⟨n0, n1⟩ := RowAt.nodeAt E1.pat.nodes HND.out)
          | (go_at_call 46; (with_reducible refine (protocolOf_vec HP.out _).mono ?_); rintro e y2 ⟨rfl, hy2⟩; replace E1 := E1.go hy2; obtain ⟨⟨a0, a1, a2, a3, a4, a5, a6⟩, b0, b1, b2⟩ := E1.cells; obtain ⟨n0, n1⟩ := RowAt.nodeAt E1.pat.nodes HND.out)
          | (go_at_call 110; (with_reducible refine (vec_fits nd r _ v HV).mono ?_); rintro e y3 ⟨rfl, hy3⟩; replace E1 := E1.go hy3; obtain ⟨⟨a0, a1, a2, a3, a4, a5, a6⟩, b0, b1, b2⟩ := E1.cells; obtain ⟨n0, n1⟩ := RowAt.nodeAt E1.pat.nodes HND.out))
        go_step
        go_wp2_with fail
        go_ret
        exact ⟨ret_bool HR.out, E1.up⟩
end Go.Proofs.Ytlfdpfkimggeoaa
namespace Go.Proofs.Ytlfdpfkimggeoaa
open Go.RowKit
set_option linter.unusedVariables false
set_option linter.unusedSimpArgs false

set_option maxHeartbeats 8000000 in
set_option maxRecDepth 100000 in
theorem caFits_w (p : PPlan) (node : Int) (r : Rt) (b : Bool) (HB : Hid (fitsB p node r = b)) {An Al Ad Ac A : Option Addr} {cn cl cd cc n c : Nat} {w : World} (h : PAt w p p.proto p.cap p.k An p.nodes.length Al p.links.length Ad p.dests.length Ac p.checks.length) (hs : PSmall p) (hr : RtAt w r A n) (hl : n ≤ c) (hc : c ≤ 9223372036854775807) :
    Calls Try.prog 28 #[.agg #[.int .i64 p.proto, .int .i64 p.cap, .int .i64 p.k, .slice An p.nodes.length cn, .slice Al p.links.length cl, .slice Ad p.dests.length cd, .slice Ac p.checks.length cc], .int .i64 node, .agg #[.int .i64 r.kind, .int .i64 r.cost, .slice A n c]] w fun e w' => e = .returned (.bool b) ∧ Below w.heap.size w w' := by
  have hb := HB.out
  unfold fitsB at hb
  have E0 := PR.new (c := c) (cn := cn) (cl := cl) (cd := cd) (cc := cc) h hr
  obtain ⟨⟨a0, a1, a2, a3, a4, a5, a6⟩, b0, b1, b2⟩ := E0.cells
  have hln := hs.ln
  clear h hr
  cases hR : rightB p
  · have HR := Lib.hid hR
    have HV : Hid (false = b) := Lib.hid (by rw [← hb, hR]; rfl)
    clear hb hR
    go_enter Try.func28, Try.ntmps28
    go_wp2_with (first
      | (go_at_call 33; (with_reducible refine (Right_is false HR hs E0.pat).mono ?_); rintro e y1 ⟨rfl, hy1⟩; have E1 := E0.go hy1; obtain ⟨⟨a0, a1, a2, a3, a4, a5, a6⟩, b0, b1, b2⟩ := E1.cells))
    go_ret
    exact ⟨ret_bool HV.out, E1.up⟩
  · have HR := Lib.hid hR
    rw [hR, Bool.true_and] at hb
    clear hR
    by_cases h0 : node < 0
    · have HV : Hid (false = b) := Lib.hid (by rw [← hb, decide_eq_false (by omega)]; rfl)
      clear hb
      go_enter Try.func28, Try.ntmps28
      go_wp2_with (first
        | (go_at_call 33; (with_reducible refine (Right_is true HR hs E0.pat).mono ?_); rintro e y1 ⟨rfl, hy1⟩; have E1 := E0.go hy1; obtain ⟨⟨a0, a1, a2, a3, a4, a5, a6⟩, b0, b1, b2⟩ := E1.cells))
      go_ret
      exact ⟨ret_bool HV.out, E1.up⟩
    · obtain ⟨i, rfl⟩ := Int.eq_ofNat_of_zero_le (Int.not_lt.1 h0)
      have i0 : (0 : Int) ≤ (i : Int) := by omega
      rw [decide_eq_true i0, Bool.true_and] at hb
      by_cases h1 : (i : Int) < (p.nodes.length : Int)
      · obtain ⟨nd, hnd⟩ : ∃ nd, p.nodes[i]? = some nd := ⟨_, List.getElem?_eq_getElem (by omega)⟩
        have hnum : numAt p (i : Int) = nd.num := by unfold numAt; rw [Int.toNat_natCast, hnd]; rfl
        rw [decide_eq_true h1, Bool.true_and, hnum] at hb
        have HV := Lib.hid hb
        have HND := Lib.hid hnd
        clear hb hnum h0 hnd
        go_enter Try.func28, Try.ntmps28
        go_wp2_with (first
          | (go_at_call 33; (with_reducible refine (Right_is true HR hs E0.pat).mono ?_); rintro e y1 ⟨rfl, hy1⟩; have E1 := E0.go hy1; obtain ⟨⟨a0, a1, a2, a3, a4, a5, a6⟩, b0, b1, b2⟩ := E1.cells)
          | (go_at_call 49; (with_reducible refine (caFits_any p i nd HND.out r E1.pat hs E1.rat hl hc).mono ?_); rintro e y2 ⟨rfl, hy2⟩; have E2 := E1.go hy2))
        go_ret
        exact ⟨ret_bool HV.out, E2.up⟩
      · have HV : Hid (false = b) := Lib.hid (by rw [← hb, decide_eq_false h1]; rfl)
        clear hb h0
        go_enter Try.func28, Try.ntmps28
        go_wp2_with (first
          | (go_at_call 33; (with_reducible refine (Right_is true HR hs E0.pat).mono ?_); rintro e y1 ⟨rfl, hy1⟩; have E1 := E0.go hy1; obtain ⟨⟨a0, a1, a2, a3, a4, a5, a6⟩, b0, b1, b2⟩ := E1.cells))
        go_ret
        exact ⟨ret_bool HV.out, E1.up⟩

def origAt (p : PPlan) (dest : Int) : List Int := ((p.dests[dest.toNat]?).map (·.orig)).getD []
def ownB (p : PPlan) (dest node : Int) : Rt := if (rightB p && (decide (0 ≤ dest) && (decide (dest < p.dests.length) && memI node (origAt p dest)))) = true then ownR p else Rt.none
/-- A route that a call tells. -/
def RtOut (r : Rt) (w : World) (e : Ending) (w' : World) : Prop := ∃ A c, e = .returned (.agg #[.int .i64 r.kind, .int .i64 r.cost, .slice A r.path.length c]) ∧ RtAt w' r A r.path.length ∧ r.path.length ≤ c ∧ c ≤ 9223372036854775807 ∧ Below w.heap.size w w'
theorem RtOut.none {w w' : World} {e : Ending} (he : e = .returned (.agg #[.int .i64 0, .int .i64 0, .slice Option.none 0 0])) (hb : Below w.heap.size w w') : RtOut Rt.none w e w' := ⟨Option.none, 0, he, ⟨rfl, CellsAt.nil _ _ _, by show 0 ≤ _; omega⟩, Nat.le_refl _, by omega, hb⟩
theorem RtOut.flat {k c : Int} {w w' : World} {e : Ending} (he : e = .returned (.agg #[.int .i64 k, .int .i64 c, .slice Option.none 0 0])) (hb : Below w.heap.size w w') : RtOut ⟨k, c, []⟩ w e w' := ⟨Option.none, 0, he, ⟨rfl, CellsAt.nil _ _ _, by show 0 ≤ _; omega⟩, Nat.le_refl _, by omega, hb⟩
/-- A route's block, written whole. -/
theorem resC {W : World} {g : Nat} {t : TypeId} {x y z : Value} (k : Blk W g t #[x, y, z]) (a b c : Value) :
    Blk (((W.setCell ⟨g, 0, Option.none⟩ a).setCell ⟨g, 1, Option.none⟩ b).setCell ⟨g, 2, Option.none⟩ c) g t #[a, b, c] := ((k.set_ 0 a).set_ 1 b).set_ 2 c
theorem below_res {w W : World} {g : Nat} (h : Below w.heap.size w W) (hg : w.heap.size ≤ g) (a b c : Value) : Below w.heap.size w (((W.setCell ⟨g, 0, Option.none⟩ a).setCell ⟨g, 1, Option.none⟩ b).setCell ⟨g, 2, Option.none⟩ c) := ((h.setCell (p := ⟨g, 0, Option.none⟩) hg a).setCell (p := ⟨g, 1, Option.none⟩) hg b).setCell (p := ⟨g, 2, Option.none⟩) hg c
/-- Own's boxes. -/
structure OW (w0 : World) (p : PPlan) (An : Option Addr) (cn : Nat) (Al : Option Addr) (cl : Nat) (Ad : Option Addr) (cd : Nat) (Ac : Option Addr) (cc : Nat) (w : World) : Prop where
  pb : Blk w w0.heap.size 29 #[.int .i64 p.proto, .int .i64 p.cap, .int .i64 p.k, .slice An p.nodes.length cn, .slice Al p.links.length cl, .slice Ad p.dests.length cd, .slice Ac p.checks.length cc]
  res : Blk w (w0.heap.size + 1) 42 #[.int .i64 0, .int .i64 0, .slice Option.none 0 0]
  pat : PAt w p p.proto p.cap p.k An p.nodes.length Al p.links.length Ad p.dests.length Ac p.checks.length
  up : Below w0.heap.size w0 w
section
variable {w0 w w' : World} {p : PPlan} {An Al Ad Ac : Option Addr} {cn cl cd cc : Nat}
theorem OW.go (h : OW w0 p An cn Al cl Ad cd Ac cc w) (hb : Below w.heap.size w w') : OW w0 p An cn Al cl Ad cd Ac cc w' := ⟨h.pb.up hb, h.res.up hb, h.pat.up hb, below_on h.up hb⟩
theorem OW.new (h : PAt w p p.proto p.cap p.k An p.nodes.length Al p.links.length Ad p.dests.length Ac p.checks.length) : OW w p An cn Al cl Ad cd Ac cc ((w.alloc (.cells #[.int .i64 p.proto, .int .i64 p.cap, .int .i64 p.k, .slice An p.nodes.length cn, .slice Al p.links.length cl, .slice Ad p.dests.length cd, .slice Ac p.checks.length cc] 29)).alloc (.cells #[.int .i64 0, .int .i64 0, .slice Option.none 0 0] 42)) :=
  ⟨(Blk.new w _ _).alloc _, by simpa using Blk.new (w.alloc (.cells #[.int .i64 p.proto, .int .i64 p.cap, .int .i64 p.k, .slice An p.nodes.length cn, .slice Al p.links.length cl, .slice Ad p.dests.length cd, .slice Ac p.checks.length cc] 29)) 42 #[.int .i64 0, .int .i64 0, .slice Option.none 0 0], h.up (below_2 w _ _), below_2 w _ _⟩
theorem OW.cells (h : OW w0 p An cn Al cl Ad cd Ac cc w) : (w.cell? ⟨w0.heap.size, 0, none⟩ = some (.int .i64 p.proto) ∧ w.cell? ⟨w0.heap.size, 1, none⟩ = some (.int .i64 p.cap) ∧ w.cell? ⟨w0.heap.size, 2, none⟩ = some (.int .i64 p.k) ∧ w.cell? ⟨w0.heap.size, 3, none⟩ = some (.slice An p.nodes.length cn) ∧ w.cell? ⟨w0.heap.size, 4, none⟩ = some (.slice Al p.links.length cl) ∧ w.cell? ⟨w0.heap.size, 5, none⟩ = some (.slice Ad p.dests.length cd) ∧ w.cell? ⟨w0.heap.size, 6, none⟩ = some (.slice Ac p.checks.length cc)) ∧
    (w.cell? ⟨w0.heap.size + 1, 0, none⟩ = some (.int .i64 0) ∧ w.cell? ⟨w0.heap.size + 1, 1, none⟩ = some (.int .i64 0) ∧ w.cell? ⟨w0.heap.size + 1, 2, none⟩ = some (.slice none 0 0)) ∧ w.frozen? ⟨w0.heap.size + 1, 0, none⟩ = false ∧ w.frozen? ⟨w0.heap.size + 1, 1, none⟩ = false ∧ w.frozen? ⟨w0.heap.size + 1, 2, none⟩ = false := ⟨box7 h.pb, ⟨h.res.cell 0, h.res.cell 1, h.res.cell 2⟩, h.res.frozen 0, h.res.frozen 1, h.res.frozen 2⟩
end
set_option maxHeartbeats 8000000 in
set_option maxRecDepth 100000 in
theorem caOwn_w (p : PPlan) (dest node : Int) (r : Rt) (HB : Hid (ownB p dest node = r)) {An Al Ad Ac : Option Addr} {cn cl cd cc : Nat} {w : World} (h : PAt w p p.proto p.cap p.k An p.nodes.length Al p.links.length Ad p.dests.length Ac p.checks.length) (hs : PSmall p) :
    Calls Try.prog 23 #[.agg #[.int .i64 p.proto, .int .i64 p.cap, .int .i64 p.k, .slice An p.nodes.length cn, .slice Al p.links.length cl, .slice Ad p.dests.length cd, .slice Ac p.checks.length cc], .int .i64 dest, .int .i64 node] w (RtOut r w) := by
  have hb := HB.out
  unfold ownB at hb
  have E0 := OW.new (cn := cn) (cl := cl) (cd := cd) (cc := cc) h
  obtain ⟨⟨a0, a1, a2, a3, a4, a5, a6⟩, ⟨x0, x1, x2⟩, f0, f1, f2⟩ := E0.cells
  have hld := hs.ld
  cases hR : rightB p
  · have HR := Lib.hid hR
    have HV : Hid (Rt.none = r) := Lib.hid (by rw [← hb, hR, if_neg (by simp)])
    clear hb hR h
    go_enter Try.func23, Try.ntmps23
    go_wp2_with (first
      | (go_at_call 33; (with_reducible refine (Right_is false HR hs E0.pat).mono ?_); rintro e y1 ⟨rfl, hy1⟩; have E1 := E0.go hy1; obtain ⟨⟨a0, a1, a2, a3, a4, a5, a6⟩, ⟨x0, x1, x2⟩, f0, f1, f2⟩ := E1.cells))
    have kf := resC E1.res (.int .i64 0) (.int .i64 0) (.slice Option.none 0 0)
    have hbf := below_res (g := w.heap.size + 1) E1.up (by omega) (.int .i64 0) (.int .i64 0) (.slice Option.none 0 0)
    have z0 := kf.cell 0
    have z1 := kf.cell 1
    have z2 := kf.cell 2
    obtain ⟨W4, hW4⟩ : ∃ W4, W4 = ((y1.setCell ⟨w.heap.size + 1, 0, none⟩ (.int .i64 0)).setCell ⟨w.heap.size + 1, 1, none⟩ (.int .i64 0)).setCell ⟨w.heap.size + 1, 2, none⟩ (.slice Option.none 0 0) := ⟨_, rfl⟩
    rw [← hW4] at z0 z1 z2 hbf ⊢
    clear hW4 kf x0 x1 x2 f0 f1 f2
    refine bodyPost_ret (v := .agg #[.int .i64 0, .int .i64 0, .slice Option.none 0 0]) (by first | (simp [results, Try.results23, go_sem] at z0 z1 z2 ⊢; simp [z0, z1, z2]; done) | (simp [results, Try.results23, go_sem, z0, z1, z2]; done)) rfl ?_
    rw [← HV.out]; exact RtOut.none rfl hbf
  · have HR := Lib.hid hR
    rw [hR, Bool.true_and] at hb
    clear hR
    by_cases h0 : dest < 0
    · have HV : Hid (Rt.none = r) := Lib.hid (by rw [← hb, decide_eq_false (by omega), if_neg (by simp)])
      clear hb h
      go_enter Try.func23, Try.ntmps23
      go_wp2_with (first
        | (go_at_call 33; (with_reducible refine (Right_is true HR hs E0.pat).mono ?_); rintro e y1 ⟨rfl, hy1⟩; have E1 := E0.go hy1; obtain ⟨⟨a0, a1, a2, a3, a4, a5, a6⟩, ⟨x0, x1, x2⟩, f0, f1, f2⟩ := E1.cells))
      have kf := resC E1.res (.int .i64 0) (.int .i64 0) (.slice Option.none 0 0)
      have hbf := below_res (g := w.heap.size + 1) E1.up (by omega) (.int .i64 0) (.int .i64 0) (.slice Option.none 0 0)
      have z0 := kf.cell 0
      have z1 := kf.cell 1
      have z2 := kf.cell 2
      obtain ⟨W4, hW4⟩ : ∃ W4, W4 = ((y1.setCell ⟨w.heap.size + 1, 0, none⟩ (.int .i64 0)).setCell ⟨w.heap.size + 1, 1, none⟩ (.int .i64 0)).setCell ⟨w.heap.size + 1, 2, none⟩ (.slice Option.none 0 0) := ⟨_, rfl⟩
      rw [← hW4] at z0 z1 z2 hbf ⊢
      clear hW4 kf x0 x1 x2 f0 f1 f2
      refine bodyPost_ret (v := .agg #[.int .i64 0, .int .i64 0, .slice Option.none 0 0]) (by first | (simp [results, Try.results23, go_sem] at z0 z1 z2 ⊢; simp [z0, z1, z2]; done) | (simp [results, Try.results23, go_sem, z0, z1, z2]; done)) rfl ?_
      rw [← HV.out]; exact RtOut.none rfl hbf
    · obtain ⟨i, rfl⟩ := Int.eq_ofNat_of_zero_le (Int.not_lt.1 h0)
      have i0 : (0 : Int) ≤ (i : Int) := by omega
      rw [decide_eq_true i0, Bool.true_and] at hb
      by_cases h1 : (i : Int) < (p.dests.length : Int)
      · obtain ⟨d, hd⟩ : ∃ d, p.dests[i]? = some d := ⟨_, List.getElem?_eq_getElem (by omega)⟩
        have hor : origAt p (i : Int) = d.orig := by unfold origAt; rw [Int.toNat_natCast, hd]; rfl
        rw [decide_eq_true h1, Bool.true_and, hor] at hb
        have HD := Lib.hid hd
        have hol : d.orig.length ≤ 9223372036854775807 := by have := (hs.dests d (List.mem_of_getElem? hd)).2; omega
        obtain ⟨g, _, _, rfl, _⟩ := h.dests.dest hd
        clear hor h0 hd h
        obtain ⟨m, hm⟩ : ∃ m, memI node d.orig = m := ⟨_, rfl⟩
        have HM := Lib.hid hm
        rw [hm] at hb
        cases m
        · have HV : Hid (Rt.none = r) := Lib.hid (by rw [← hb, if_neg (by simp)])
          clear hb hm
          go_enter Try.func23, Try.ntmps23
          go_wp2_with (first
            | (go_at_call 33; (with_reducible refine (Right_is true HR hs E0.pat).mono ?_); rintro e y1 ⟨rfl, hy1⟩; have E1 := E0.go hy1; obtain ⟨⟨a0, a1, a2, a3, a4, a5, a6⟩, ⟨x0, x1, x2⟩, f0, f1, f2⟩ := E1.cells; obtain ⟨g', Ao, co, hAd', _, dn, ds, hro⟩ := E1.pat.dests.dest HD.out; have e := Option.some.inj hAd'; injection e with e; subst e)
            | (go_at_call 45; (with_reducible refine (slContains_is d.orig _ false node HM (Lib.hid rfl) hol hro.cells).mono ?_); rintro e y2 ⟨rfl, rfl⟩))
          have kf := resC E1.res (.int .i64 0) (.int .i64 0) (.slice Option.none 0 0)
          have hbf := below_res (g := w.heap.size + 1) E1.up (by omega) (.int .i64 0) (.int .i64 0) (.slice Option.none 0 0)
          have z0 := kf.cell 0
          have z1 := kf.cell 1
          have z2 := kf.cell 2
          obtain ⟨W4, hW4⟩ : ∃ W4, W4 = ((y1.setCell ⟨w.heap.size + 1, 0, none⟩ (.int .i64 0)).setCell ⟨w.heap.size + 1, 1, none⟩ (.int .i64 0)).setCell ⟨w.heap.size + 1, 2, none⟩ (.slice Option.none 0 0) := ⟨_, rfl⟩
          rw [← hW4] at z0 z1 z2 hbf ⊢
          clear hW4 kf x0 x1 x2 f0 f1 f2
          refine bodyPost_ret (v := .agg #[.int .i64 0, .int .i64 0, .slice Option.none 0 0]) (by first | (simp [results, Try.results23, go_sem] at z0 z1 z2 ⊢; simp [z0, z1, z2]; done) | (simp [results, Try.results23, go_sem, z0, z1, z2]; done)) rfl ?_
          rw [← HV.out]; exact RtOut.none rfl hbf
        · rw [if_pos rfl] at hb
          unfold ownR at hb
          by_cases hp : p.proto = 2
          · rw [if_pos hp] at hb
            have HV := Lib.hid hb
            have HP := Lib.hid hp
            clear hb hm hp
            have m1 : ∀ (k : Nat) (w : World), (method (k + 1) 93 (.agg #[.int .i64 p.cap]) "backstay/carry.own").run Try.prog w = .ok (109, .agg #[.int .i64 p.cap]) w := fun _ _ => by kernel_rfl
            have m2 : ∀ (k : Nat) (w : World), (nilAhead (k + 1) 93 (.agg #[.int .i64 p.cap]) "backstay/carry.own").run Try.prog w = .ok (some false) w := fun _ _ => by kernel_rfl
            go_enter Try.func23, Try.ntmps23
            go_wp2_with (first
              | (go_at_call 33; (with_reducible refine (Right_is true HR hs E0.pat).mono ?_); rintro e y1 ⟨rfl, hy1⟩; have E1 := E0.go hy1; obtain ⟨⟨a0, a1, a2, a3, a4, a5, a6⟩, ⟨x0, x1, x2⟩, f0, f1, f2⟩ := E1.cells; obtain ⟨g', Ao, co, hAd', _, dn, ds, hro⟩ := E1.pat.dests.dest HD.out; have e := Option.some.inj hAd'; injection e with e; subst e)
              | (go_at_call 45; (with_reducible refine (slContains_is d.orig _ true node HM (Lib.hid rfl) hol hro.cells).mono ?_); rintro e y2 ⟨rfl, rfl⟩)
              | (go_at_call 46; (with_reducible refine (protocolOf_pth HP.out _).mono ?_); rintro e y3 ⟨rfl, hy3⟩; have E3 := E1.go hy3; obtain ⟨⟨a0, a1, a2, a3, a4, a5, a6⟩, ⟨x0, x1, x2⟩, f0, f1, f2⟩ := E3.cells)
              | (go_at_call 109; (with_reducible refine (pth_own p.cap _).mono ?_); rintro e y4 ⟨rfl, hy4⟩; have E4 := E3.go hy4; obtain ⟨⟨a0, a1, a2, a3, a4, a5, a6⟩, ⟨x0, x1, x2⟩, f0, f1, f2⟩ := E4.cells))
            have kf := resC E4.res (.int .i64 2) (.int .i64 0) (.slice Option.none 0 0)
            have hbf := below_res (g := w.heap.size + 1) E4.up (by omega) (.int .i64 2) (.int .i64 0) (.slice Option.none 0 0)
            have z0 := kf.cell 0
            have z1 := kf.cell 1
            have z2 := kf.cell 2
            obtain ⟨W4, hW4⟩ : ∃ W4, W4 = ((y4.setCell ⟨w.heap.size + 1, 0, none⟩ (.int .i64 2)).setCell ⟨w.heap.size + 1, 1, none⟩ (.int .i64 0)).setCell ⟨w.heap.size + 1, 2, none⟩ (.slice Option.none 0 0) := ⟨_, rfl⟩
            rw [← hW4] at z0 z1 z2 hbf ⊢
            clear hW4 kf x0 x1 x2 f0 f1 f2
            refine bodyPost_ret (v := .agg #[.int .i64 2, .int .i64 0, .slice Option.none 0 0]) (by first | (simp [results, Try.results23, go_sem] at z0 z1 z2 ⊢; simp [z0, z1, z2]; done) | (simp [results, Try.results23, go_sem, z0, z1, z2]; done)) rfl ?_
            rw [← HV.out]; exact RtOut.flat rfl hbf
          · rw [if_neg hp] at hb
            have HV := Lib.hid hb
            have HP := Lib.hid hp
            clear hb hm hp
            have m1 : ∀ (k : Nat) (w : World), (method (k + 1) 95 (.agg #[]) "backstay/carry.own").run Try.prog w = .ok (112, .agg #[]) w := fun _ _ => by kernel_rfl
            have m2 : ∀ (k : Nat) (w : World), (nilAhead (k + 1) 95 (.agg #[]) "backstay/carry.own").run Try.prog w = .ok (some false) w := fun _ _ => by kernel_rfl
            go_enter Try.func23, Try.ntmps23
            go_wp2_with (first
              | (go_at_call 33; (with_reducible refine (Right_is true HR hs E0.pat).mono ?_); rintro e y1 ⟨rfl, hy1⟩; have E1 := E0.go hy1; obtain ⟨⟨a0, a1, a2, a3, a4, a5, a6⟩, ⟨x0, x1, x2⟩, f0, f1, f2⟩ := E1.cells; obtain ⟨g', Ao, co, hAd', _, dn, ds, hro⟩ := E1.pat.dests.dest HD.out; have e := Option.some.inj hAd'; injection e with e; subst e)
              | (go_at_call 45; (with_reducible refine (slContains_is d.orig _ true node HM (Lib.hid rfl) hol hro.cells).mono ?_); rintro e y2 ⟨rfl, rfl⟩)
              | (go_at_call 46; (with_reducible refine (protocolOf_vec HP.out _).mono ?_); rintro e y3 ⟨rfl, hy3⟩; have E3 := E1.go hy3; obtain ⟨⟨a0, a1, a2, a3, a4, a5, a6⟩, ⟨x0, x1, x2⟩, f0, f1, f2⟩ := E3.cells)
              | (go_at_call 112; (with_reducible refine (vec_own _).mono ?_); rintro e y4 ⟨rfl, hy4⟩; have E4 := E3.go hy4; obtain ⟨⟨a0, a1, a2, a3, a4, a5, a6⟩, ⟨x0, x1, x2⟩, f0, f1, f2⟩ := E4.cells))
            have kf := resC E4.res (.int .i64 1) (.int .i64 0) (.slice Option.none 0 0)
            have hbf := below_res (g := w.heap.size + 1) E4.up (by omega) (.int .i64 1) (.int .i64 0) (.slice Option.none 0 0)
            have z0 := kf.cell 0
            have z1 := kf.cell 1
            have z2 := kf.cell 2
            obtain ⟨W4, hW4⟩ : ∃ W4, W4 = ((y4.setCell ⟨w.heap.size + 1, 0, none⟩ (.int .i64 1)).setCell ⟨w.heap.size + 1, 1, none⟩ (.int .i64 0)).setCell ⟨w.heap.size + 1, 2, none⟩ (.slice Option.none 0 0) := ⟨_, rfl⟩
            rw [← hW4] at z0 z1 z2 hbf ⊢
            clear hW4 kf x0 x1 x2 f0 f1 f2
            refine bodyPost_ret (v := .agg #[.int .i64 1, .int .i64 0, .slice Option.none 0 0]) (by first | (simp [results, Try.results23, go_sem] at z0 z1 z2 ⊢; simp [z0, z1, z2]; done) | (simp [results, Try.results23, go_sem, z0, z1, z2]; done)) rfl ?_
            rw [← HV.out]; exact RtOut.flat rfl hbf
      · have HV : Hid (Rt.none = r) := Lib.hid (by rw [← hb, decide_eq_false h1, if_neg (by simp)])
        clear hb h0 h
        go_enter Try.func23, Try.ntmps23
        go_wp2_with (first
          | (go_at_call 33; (with_reducible refine (Right_is true HR hs E0.pat).mono ?_); rintro e y1 ⟨rfl, hy1⟩; have E1 := E0.go hy1; obtain ⟨⟨a0, a1, a2, a3, a4, a5, a6⟩, ⟨x0, x1, x2⟩, f0, f1, f2⟩ := E1.cells))
        have kf := resC E1.res (.int .i64 0) (.int .i64 0) (.slice Option.none 0 0)
        have hbf := below_res (g := w.heap.size + 1) E1.up (by omega) (.int .i64 0) (.int .i64 0) (.slice Option.none 0 0)
        have z0 := kf.cell 0
        have z1 := kf.cell 1
        have z2 := kf.cell 2
        obtain ⟨W4, hW4⟩ : ∃ W4, W4 = ((y1.setCell ⟨w.heap.size + 1, 0, none⟩ (.int .i64 0)).setCell ⟨w.heap.size + 1, 1, none⟩ (.int .i64 0)).setCell ⟨w.heap.size + 1, 2, none⟩ (.slice Option.none 0 0) := ⟨_, rfl⟩
        rw [← hW4] at z0 z1 z2 hbf ⊢
        clear hW4 kf x0 x1 x2 f0 f1 f2
        refine bodyPost_ret (v := .agg #[.int .i64 0, .int .i64 0, .slice Option.none 0 0]) (by first | (simp [results, Try.results23, go_sem] at z0 z1 z2 ⊢; simp [z0, z1, z2]; done) | (simp [results, Try.results23, go_sem, z0, z1, z2]; done)) rfl ?_
        rw [← HV.out]; exact RtOut.none rfl hbf
end Go.Proofs.Ytlfdpfkimggeoaa
