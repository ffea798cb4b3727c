/-
  Package carry: what a protocol does.
-/
import Derived.Deep.RegionHeld3
import Derived.Test.YtdmilbfdiebjgaaGrO
import Derived.Test.YtdmilbfdiebjgaaAtF
import Derived.Test.YtdmilbfdiebjgaaApp
import Derived.Test.YtdmilbfdiebjgaaPmA
namespace Go.Proofs.Ytdmilbfdiebjgaa
open Go.RowKit
set_option linter.unusedVariables false
set_option linter.unusedSimpArgs false

/-- Which of n things a raw number speaks of. -/
theorem pick7_any (c n : Int) (hc : InI c) (h0 : 0 < n) (hn : n ≤ 9223372036854775807) (w : World) :
    Calls Try.prog 27 #[.int .i64 c, .int .i64 n] w fun e w' => e = .returned (.int .i64 (pickN c n)) ∧ w = w' := by
  obtain ⟨h1, h2⟩ := hc
  have hz : ¬ n = 0 := by omega
  by_cases h : c < 0
  · have hp : pickN c n = (-(c + 1)) % n := by unfold pickN; rw [if_pos h]
    have H := Lib.hid hp
    have b1 : 0 ≤ -(c + 1) := by omega
    have b2 : -(c + 1) ≤ 9223372036854775807 := by omega
    clear hp
    go_enter Try.func27, Try.ntmps27
    go_wp2
    go_ret
    exact ⟨ret_int (by rw [H.out, ← Int.neg_tmod, Int.tmod_eq_emod_of_nonneg b1]), rfl⟩
  · have hp : pickN c n = c % n := by unfold pickN; rw [if_neg h]
    have H := Lib.hid hp
    have b1 : 0 ≤ c := by omega
    clear hp
    go_enter Try.func27, Try.ntmps27
    go_wp2
    go_ret
    exact ⟨ret_int H.out.symm, rfl⟩
theorem pick7_is (c n v : Int) (hc : InI c) (h0 : 0 < n) (hn : n ≤ 9223372036854775807) (H : Hid (pickN c n = v)) (w : World) :
    Calls Try.prog 27 #[.int .i64 c, .int .i64 n] w fun e w' => e = .returned (.int .i64 v) ∧ w = w' :=
  (pick7_any c n hc h0 hn w).mono fun _ _ ⟨he, hw⟩ => ⟨by rw [he, H.out], hw⟩

theorem below_3 (w : World) (a b c : Obj) : Below w.heap.size w (((w.alloc a).alloc b).alloc c) := below_on (below_2 w a b) (below_new _ c)
theorem below_4 (w : World) (a b c d : Obj) : Below w.heap.size w ((((w.alloc a).alloc b).alloc c).alloc d) := below_on (below_3 w a b c) (below_new _ d)
theorem below_5 (w : World) (a b c d e : Obj) : Below w.heap.size w (((((w.alloc a).alloc b).alloc c).alloc d).alloc e) := below_on (below_4 w a b c d) (below_new _ e)
theorem numInfoC : (Try.prog.info? 3).map (fun i => (i.zero, i.size, i.bytes)) = some (some (.int .i64 0), 1, 8) := by kernel_rfl
/-- May a node of the AS number 'num' hold a route that is right and not none? -/
def holdsB (p : PPlan) (num : Int) (r : Rt) : Bool := if p.proto = 2 then decide (r.kind = 2) && (decide ((r.path.length : Int) ≤ p.cap) && !memI num r.path) else decide (r.kind = 1)
def fitB (p : PPlan) (num : Int) (r : Rt) : Bool := rtRight r && (decide (r.kind = 0) || holdsB p num r)
def numAt (p : PPlan) (node : Int) : Int := ((p.nodes[node.toNat]?).map (·.num)).getD 0
def fitsB (p : PPlan) (node : Int) (r : Rt) : Bool := rightB p && (decide (0 ≤ node) && (decide (node < p.nodes.length) && fitB p (numAt p node) r))
def ownR (p : PPlan) : Rt := if p.proto = 2 then ⟨2, 0, []⟩ else ⟨1, 0, []⟩
def toldR (p : PPlan) (cost num : Int) (r : Rt) : Rt := if p.proto = 2 then ⟨2, 0, num :: r.path⟩ else ⟨1, r.cost + cost, []⟩
/-- A link's other end, of a network that may be or may not. -/
def oiB (p : PPlan) (link node : Int) : Int := if rightB p = true then otherB p link node else -1
theorem Other_w {p : PPlan} (link node v : Int) (HV : Hid (oiB p link node = v)) (hs : PSmall p) {pr ca kk : Int} {An Al Ad Ac : Option Addr} {ln cn ll cl ld cd lc cc : Nat} {w : World} (h : PAt w p pr ca kk An ln Al ll Ad ld Ac lc) :
    Calls Try.prog 18 #[.agg #[.int .i64 pr, .int .i64 ca, .int .i64 kk, .slice An ln cn, .slice Al ll cl, .slice Ad ld cd, .slice Ac lc cc], .int .i64 link, .int .i64 node] w fun e w' => e = .returned (.int .i64 v) ∧ Below w.heap.size w w' := by
  have hv := HV.out
  unfold oiB at hv
  cases hr : rightB p
  · rw [hr, if_neg (by simp)] at hv
    subst hv
    exact Other_no link node (Lib.hid hr) hs h
  · rw [hr, if_pos rfl] at hv
    exact Other_ok link node v (Lib.hid hv) (Lib.hid hr) hs h

/-! ### The two protocols' methods -/
theorem vec_own (w : World) :
    Calls Try.prog 123 #[.agg #[]] w fun e w' => e = .returned (.agg #[.int .i64 1, .int .i64 0, .slice none 0 0]) ∧ Below w.heap.size w w' := by
  go_enter Try.func123, Try.ntmps123
  go_wp2
  have kr := Blk.new (w.alloc (.cells #[] 101)) 42 #[.int .i64 1, .int .i64 0, .slice none 0 0]
  have x0 := kr.cell 0
  have x1 := kr.cell 1
  have x2 := kr.cell 2
  refine bodyPost_ret (v := .agg #[.int .i64 1, .int .i64 0, .slice none 0 0]) (by first | (simp [results, Try.results123, go_sem] at x0 x1 x2 ⊢; simp [x0, x1, x2]; done) | (simp [results, Try.results123, go_sem, x0, x1, x2]; done)) rfl ?_
  exact ⟨rfl, below_2 _ _ _⟩
theorem pth_own (ca : Int) (w : World) :
    Calls Try.prog 120 #[.agg #[.int .i64 ca]] w fun e w' => e = .returned (.agg #[.int .i64 2, .int .i64 0, .slice none 0 0]) ∧ Below w.heap.size w w' := by
  go_enter Try.func120, Try.ntmps120
  go_wp2
  have kr := Blk.new (w.alloc (.cells #[.int .i64 ca] 99)) 42 #[.int .i64 2, .int .i64 0, .slice none 0 0]
  have x0 := kr.cell 0
  have x1 := kr.cell 1
  have x2 := kr.cell 2
  refine bodyPost_ret (v := .agg #[.int .i64 2, .int .i64 0, .slice none 0 0]) (by first | (simp [results, Try.results120, go_sem] at x0 x1 x2 ⊢; simp [x0, x1, x2]; done) | (simp [results, Try.results120, go_sem, x0, x1, x2]; done)) rfl ?_
  exact ⟨rfl, below_2 _ _ _⟩
theorem vec_fits (nd : PNode) (r : Rt) {A : Option Addr} {n c : Nat} (w : World) (b : Bool) (HB : Hid (decide (r.kind = 1) = b)) :
    Calls Try.prog 121 #[.agg #[], .agg #[.string nd.name, .int .i64 nd.num], .agg #[.int .i64 r.kind, .int .i64 r.cost, .slice A n c]] w fun e w' => e = .returned (.bool b) ∧ Below w.heap.size w w' := by
  go_enter Try.func121, Try.ntmps121
  go_wp2
  go_ret
  exact ⟨ret_bool (by rw [← HB.out]; first | rfl | simp), below_3 _ _ _ _⟩
theorem vec_over (l : PLink) (nd : PNode) (r : Rt) {A : Option Addr} {n c : Nat} (w : World) (h0 : 0 ≤ r.cost) (h1 : r.cost ≤ 15) (h2 : 0 ≤ l.cost) (h3 : l.cost ≤ 15) :
    Calls Try.prog 122 #[.agg #[], .agg #[.int .i64 l.a, .int .i64 l.b, .int .i64 l.cost], .agg #[.string nd.name, .int .i64 nd.num], .agg #[.int .i64 r.kind, .int .i64 r.cost, .slice A n c]] w fun e w' => e = .returned (.agg #[.int .i64 1, .int .i64 (r.cost + l.cost), .slice none 0 0]) ∧ Below w.heap.size w w' := by
  go_enter Try.func122, Try.ntmps122
  go_wp2
  have kr := Blk.new ((((w.alloc (.cells #[] 101)).alloc (.cells #[.int .i64 l.a, .int .i64 l.b, .int .i64 l.cost] 53)).alloc (.cells #[.string nd.name, .int .i64 nd.num] 59)).alloc (.cells #[.int .i64 r.kind, .int .i64 r.cost, .slice A n c] 42)) 42 #[.int .i64 1, .int .i64 (r.cost + l.cost), .slice none 0 0]
  have x0 := kr.cell 0
  have x1 := kr.cell 1
  have x2 := kr.cell 2
  refine bodyPost_ret (v := .agg #[.int .i64 1, .int .i64 (r.cost + l.cost), .slice none 0 0]) (by first | (simp [results, Try.results122, go_sem] at x0 x1 x2 ⊢; simp [x0, x1, x2]; done) | (simp [results, Try.results122, go_sem, x0, x1, x2]; done)) rfl ?_
  exact ⟨rfl, below_5 _ _ _ _ _ _⟩
theorem protocolOf_vec {p : PPlan} {An Al Ad Ac : Option Addr} {cn cl cd cc : Nat} (hp : p.proto ≠ 2) (w : World) :
    Calls Try.prog 53 #[.agg #[.int .i64 p.proto, .int .i64 p.cap, .int .i64 p.k, .slice An p.nodes.length cn, .slice Al p.links.length cl, .slice Ad p.dests.length cd, .slice Ac p.checks.length cc]] w fun e w' => e = .returned (.iface 101 (.agg #[])) ∧ Below w.heap.size w w' := by
  have t0 : (p.proto == 2) = false := by simpa using hp
  go_enter Try.func53, Try.ntmps53
  go_wp2
  go_ret
  exact ⟨rfl, below_new _ _⟩
theorem protocolOf_pth {p : PPlan} {An Al Ad Ac : Option Addr} {cn cl cd cc : Nat} (hp : p.proto = 2) (w : World) :
    Calls Try.prog 53 #[.agg #[.int .i64 p.proto, .int .i64 p.cap, .int .i64 p.k, .slice An p.nodes.length cn, .slice Al p.links.length cl, .slice Ad p.dests.length cd, .slice Ac p.checks.length cc]] w fun e w' => e = .returned (.iface 99 (.agg #[.int .i64 p.cap])) ∧ Below w.heap.size w w' := by
  have t0 : (p.proto == 2) = true := by simpa using hp
  go_enter Try.func53, Try.ntmps53
  go_wp2
  go_ret
  exact ⟨rfl, below_new _ _⟩
theorem pth_fits (ca : Int) (nd : PNode) (r : Rt) {A : Option Addr} {n c : Nat} (w : World) (hr : RtAt w r A n) (b : Bool) (HB : Hid ((decide (r.kind = 2) && (decide ((r.path.length : Int) ≤ ca) && !memI nd.num r.path)) = b)) :
    Calls Try.prog 118 #[.agg #[.int .i64 ca], .agg #[.string nd.name, .int .i64 nd.num], .agg #[.int .i64 r.kind, .int .i64 r.cost, .slice A n c]] w fun e w' => e = .returned (.bool b) ∧ Below w.heap.size w w' := by
  obtain ⟨hn, hA, hm⟩ := hr
  have HN := Lib.hid hn
  have HBB := HB.out
  rw [hn] at HBB
  have hb3 := below_3 w (.cells #[.int .i64 ca] 99) (.cells #[.string nd.name, .int .i64 nd.num] 59) (.cells #[.int .i64 r.kind, .int .i64 r.cost, .slice A n c] 42)
  have hA3 := hA.on hb3
  have hn0 : (0 : Int) ≤ (n : Int) := by omega
  by_cases h1 : r.kind = 2
  · have t1 : (r.kind == 2) = true := by simpa using h1
    by_cases h2 : (n : Int) ≤ ca
    · obtain ⟨m, hmm⟩ : ∃ m, memI nd.num r.path = m := ⟨_, rfl⟩
      have HM := Lib.hid hmm
      have HV : Hid ((!m) = b) := Lib.hid (by rw [← HBB, hmm]; simp [h1, h2])
      clear HBB hmm hn h1 hA3 hb3
      go_enter Try.func118, Try.ntmps118
      go_wp2_with (go_at_call 52; (with_reducible refine (slContains_is r.path n m nd.num HM HN hm (hA.on (below_3 _ _ _ _))).mono ?_); rintro e w4 ⟨rfl, rfl⟩)
      go_ret
      exact ⟨ret_bool HV.out, below_3 _ _ _ _⟩
    · have HV : Hid (false = b) := Lib.hid (by rw [← HBB]; simp [h2])
      clear HBB h1
      go_enter Try.func118, Try.ntmps118
      go_wp2
      go_ret
      exact ⟨ret_bool HV.out, below_3 _ _ _ _⟩
  · have t1 : (r.kind == 2) = false := by simpa using h1
    have HV : Hid (false = b) := Lib.hid (by rw [← HBB]; simp [h1])
    clear HBB h1
    go_enter Try.func118, Try.ntmps118
    go_wp2
    go_ret
    exact ⟨ret_bool HV.out, below_3 _ _ _ _⟩
theorem own_formC {w : World} {base : Nat} {e : TypeId} {v : Value} {n : Nat} {xs : List Value} (h : w.ownsRow base e 1 v n xs) : ∃ A c, v = .slice A n c ∧ n ≤ c ∧ c ≤ 9223372036854775807 := by
  rcases h.2 with ⟨hv, hn⟩ | ⟨g, cap, cur, hv, hb, hg, hc, hrest⟩
  · subst hn
    exact ⟨none, 0, hv, Nat.le_refl _, by omega⟩
  · refine ⟨_, cap, hv, hc, ?_⟩
    have := hrest.1
    unfold maxLen at this
    omega
set_option maxHeartbeats 4000000 in
set_option maxRecDepth 100000 in
theorem pth_over (ca : Int) (l : PLink) (nd : PNode) (r : Rt) {A : Option Addr} {n c : Nat} (w : World) (hr : RtAt w r A n) (hm : n ≤ 12) :
    Calls Try.prog 119 #[.agg #[.int .i64 ca], .agg #[.int .i64 l.a, .int .i64 l.b, .int .i64 l.cost], .agg #[.string nd.name, .int .i64 nd.num], .agg #[.int .i64 r.kind, .int .i64 r.cost, .slice A n c]] w fun e w' => ∃ A' c', e = .returned (.agg #[.int .i64 2, .int .i64 0, .slice A' (n + 1) c']) ∧ w'.ownsRow w.heap.size 3 1 (.slice A' (n + 1) c') (n + 1) ((nd.num :: r.path).map (Value.int .i64)) ∧ n + 1 ≤ c' ∧ c' ≤ 9223372036854775807 ∧ Below w.heap.size w w' := by
  obtain ⟨hn, hA, _⟩ := hr
  have HN := Lib.hid hn
  obtain ⟨i0, hi, hz⟩ := Option.map_eq_some_iff.1 numInfoC
  simp only [Prod.mk.injEq] at hz
  obtain ⟨hz0, hz1, hz2⟩ := hz
  have hb4 := below_4 w (.cells #[.int .i64 ca] 99) (.cells #[.int .i64 l.a, .int .i64 l.b, .int .i64 l.cost] 53) (.cells #[.string nd.name, .int .i64 nd.num] 59) (.cells #[.int .i64 r.kind, .int .i64 r.cost, .slice A n c] 42)
  have hb6 := below_on hb4 (below_2 _ (.cells #[.int .i64 0, .int .i64 0, .slice none 0 0] 42) (.cells #[.int .i64 nd.num] 3))
  have hA6 := hA.on hb6
  have KR : Blk ((((((w.alloc (.cells #[.int .i64 ca] 99)).alloc (.cells #[.int .i64 l.a, .int .i64 l.b, .int .i64 l.cost] 53)).alloc (.cells #[.string nd.name, .int .i64 nd.num] 59)).alloc (.cells #[.int .i64 r.kind, .int .i64 r.cost, .slice A n c] 42)).alloc (.cells #[.int .i64 0, .int .i64 0, .slice none 0 0] 42)).alloc (.cells #[.int .i64 nd.num] 3)) (w.heap.size + 1 + 1 + 1 + 1) 42 #[.int .i64 0, .int .i64 0, .slice none 0 0] := by
    have h := (Blk.new ((((w.alloc (.cells #[.int .i64 ca] 99)).alloc (.cells #[.int .i64 l.a, .int .i64 l.b, .int .i64 l.cost] 53)).alloc (.cells #[.string nd.name, .int .i64 nd.num] 59)).alloc (.cells #[.int .i64 r.kind, .int .i64 r.cost, .slice A n c] 42)) 42 #[.int .i64 0, .int .i64 0, .slice none 0 0]).alloc (.cells #[.int .i64 nd.num] 3)
    simpa using h
  clear hn hA
  go_enter Try.func119, Try.ntmps119
  go_wp2_with (at_builtin; go_loud (refine wpList_append_cells _ rfl _ _ 22 rfl w.heap.size 3 i0 (.int .i64 0) 1 8 Try.underlying22 hi hz0 hz1 hz2 rfl (by decide) _ 1 [.int .i64 nd.num] rfl (own_new _ w.heap.size 3 [.int .i64 nd.num] _ (by first | rfl | simp) (by first | omega | (simp; done) | (simp; omega)) 1 rfl (by omega)) _ A n c (r.path.map (Value.int .i64)) rfl (by rw [List.length_map, HN.out, Nat.mul_one]) hA6 (fun u hu => by obtain ⟨y, _, rfl⟩ := List.mem_map.1 hu; rfl) (by omega) (by omega) (by first | (simp; done) | (simp; omega)) ?_; intro v9 u9 hown9 hgrow9; obtain ⟨A9, c9, rfl, hc9, hcm9⟩ := own_formC hown9; have k9 := KR.grown hgrow9 (fun e => absurd (Option.some.inj e) (by dsimp only; omega)); have d0 := k9.cell 0; have d1 := k9.cell 1; have d2 := k9.cell 2; have f0 := k9.frozen 0; have f1 := k9.frozen 1; have f2 := k9.frozen 2))
  have kf := ((k9.set_ 0 (.int .i64 2)).set_ 1 (.int .i64 0)).set_ 2 (.slice A9 (1 + n) c9)
  have x0 := kf.cell 0
  have x1 := kf.cell 1
  have x2 := kf.cell 2
  have ho1 := own_setA hown9 k9 (by decide) 0 (.int .i64 2)
  have ho2 := own_setA ho1 (k9.set_ 0 (.int .i64 2)) (by decide) 1 (.int .i64 0)
  have ho3 := own_setA ho2 ((k9.set_ 0 (.int .i64 2)).set_ 1 (.int .i64 0)) (by decide) 2 (.slice A9 (1 + n) c9)
  have hbf := (((hb6.grown hgrow9 hb6.size (fun k hk => by have hk := Option.some.inj hk; dsimp only at hk; omega)).setCell (p := ⟨w.heap.size + 1 + 1 + 1 + 1, 0, none⟩) (by simp; omega) (.int .i64 2)).setCell (p := ⟨w.heap.size + 1 + 1 + 1 + 1, 1, none⟩) (by simp; omega) (.int .i64 0)).setCell (p := ⟨w.heap.size + 1 + 1 + 1 + 1, 2, none⟩) (by simp; omega) (.slice A9 (1 + n) c9)
  obtain ⟨W4, hW4⟩ : ∃ W4, W4 = ((u9.setCell ⟨w.heap.size + 1 + 1 + 1 + 1, 0, none⟩ (.int .i64 2)).setCell ⟨w.heap.size + 1 + 1 + 1 + 1, 1, none⟩ (.int .i64 0)).setCell ⟨w.heap.size + 1 + 1 + 1 + 1, 2, none⟩ (.slice A9 (1 + n) c9) := ⟨_, rfl⟩
  rw [← hW4] at x0 x1 x2 ho3 hbf ⊢
  clear hW4 kf ho1 ho2 d0 d1 d2 f0 f1 f2
  refine bodyPost_ret (v := .agg #[.int .i64 2, .int .i64 0, .slice A9 (1 + n) c9]) (by first | (simp [results, Try.results119, go_sem] at x0 x1 x2 ⊢; simp [x0, x1, x2]; done) | (simp [results, Try.results119, go_sem, x0, x1, x2]; done)) rfl ?_
  exact ⟨A9, c9, by rw [Nat.add_comm n 1], by rw [Nat.add_comm n 1]; exact ho3, by omega, hcm9, hbf⟩
end Go.Proofs.Ytdmilbfdiebjgaa
