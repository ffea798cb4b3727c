/-
  Package plan: Same.
-/
import Derived.Test.YtlfapmfhdagikaaDoorPlF
import Derived.Test.YtlfapmfhdagikaaDoorPlJ
namespace Go.Proofs.YtlfapmfhdagikaaDoor
open Go.RowKit

def destEq (a b : PDest) : Bool := decide (a.name = b.name) && eqF numEq a.orig b.orig
theorem numEq_iff (x y : Int) : numEq x y = true ↔ x = y := by unfold numEq; simp
theorem nodeEq_iff (x y : PNode) : nodeEq x y = true ↔ x = y := by
  obtain ⟨a, b⟩ := x; obtain ⟨c, d⟩ := y
  unfold nodeEq; simp
theorem linkEq_iff (x y : PLink) : linkEq x y = true ↔ x = y := by
  obtain ⟨a, b, c⟩ := x; obtain ⟨d, e, f⟩ := y
  unfold linkEq; simp
theorem checkEq_iff (x y : PCheck) : checkEq x y = true ↔ x = y := by
  obtain ⟨a, b, c, d, e⟩ := x; obtain ⟨a', b', c', d', e'⟩ := y
  unfold checkEq; simp
theorem destEq_iff (x y : PDest) : destEq x y = true ↔ x = y := by
  obtain ⟨a, b⟩ := x; obtain ⟨c, d⟩ := y
  unfold destEq; simp [eqF_iff numEq_iff]

theorem EqualNums_is (l m : List Int) (r : Bool) (H : Hid (eqF numEq l m = r)) {A M : Option Addr} {n1 n2 c d : Nat} {w : World} (hl : Hid (l.length = n1)) (hm : Hid (m.length = n2)) (b1 : n1 ≤ 4096) (b2 : n2 ≤ 4096) (hA : RowAt w w.heap.size A (l.map (Value.int .i64))) (hM : RowAt w w.heap.size M (m.map (Value.int .i64))) :
    Calls Tryd.prog 67 #[.slice A n1 c, .slice M n2 d] w fun e w' => e = .returned (.bool r) ∧ Below w.heap.size w w' :=
  (EqualNums_any l m A M n1 n2 c d w hl hm b1 b2 hA hM).mono fun _ _ ⟨he, hw⟩ => ⟨by rw [he, H.out], hw⟩

theorem sameDest_any (x y : PDest) {A M : Option Addr} {n1 n2 c d : Nat} {w : World} (hl : Hid (x.orig.length = n1)) (hm : Hid (y.orig.length = n2)) (b1 : n1 ≤ 4096) (b2 : n2 ≤ 4096) (hA : RowAt w w.heap.size A (x.orig.map (Value.int .i64))) (hM : RowAt w w.heap.size M (y.orig.map (Value.int .i64))) :
    Calls Tryd.prog 48 #[.agg #[.string x.name, .slice A n1 c], .agg #[.string y.name, .slice M n2 d]] w fun e w' => e = .returned (.bool (destEq x y)) ∧ Below w.heap.size w w' := by
  obtain ⟨xn, xo⟩ := x
  obtain ⟨yn, yo⟩ := y
  dsimp only at hl hm hA hM ⊢
  have hA' := fun o1 o2 => (hA.box o1).box o2
  have hM' := fun o1 o2 => (hM.box o1).box o2
  clear hA hM
  have hbb := Lib.hid (fun (o1 o2 : Obj) => below_box (below_box (Below.refl ((w.alloc o1).alloc o2).heap.size ((w.alloc o1).alloc o2))))
  by_cases h : xn = yn
  · subst h
    obtain ⟨r, hr⟩ : ∃ r, eqF numEq xo yo = r := ⟨_, rfl⟩
    have HR := Lib.hid hr
    have HD : Hid (destEq ⟨xn, xo⟩ ⟨xn, yo⟩ = r) := Lib.hid (by unfold destEq; dsimp only; rw [hr]; simp)
    clear hr
    go_enter Tryd.func48, Tryd.ntmps48
    go_wp2_with (go_at_call 67; refine (EqualNums_is xo yo _ HR hl hm b1 b2 (hA' _ _) (hM' _ _)).mono ?_; rintro e w2 ⟨rfl, hb⟩)
    go_ret
    exact ⟨ret_bool HD.out.symm, below_box (below_box hb)⟩
  · have HD : Hid (destEq ⟨xn, xo⟩ ⟨yn, yo⟩ = false) := Lib.hid (by unfold destEq; dsimp only; rw [decide_eq_false h]; rfl)
    have h2 := str_ne h
    clear h
    go_enter Tryd.func48, Tryd.ntmps48
    go_wp2
    go_ret
    exact ⟨ret_bool HD.out.symm, hbb.out _ _⟩
theorem sameDest_is (x y : PDest) (r : Bool) (H : Hid (destEq x y = r)) {A M : Option Addr} {n1 n2 c d : Nat} {w : World} (hl : Hid (x.orig.length = n1)) (hm : Hid (y.orig.length = n2)) (b1 : n1 ≤ 4096) (b2 : n2 ≤ 4096) (hA : RowAt w w.heap.size A (x.orig.map (Value.int .i64))) (hM : RowAt w w.heap.size M (y.orig.map (Value.int .i64))) :
    Calls Tryd.prog 48 #[.agg #[.string x.name, .slice A n1 c], .agg #[.string y.name, .slice M n2 d]] w fun e w' => e = .returned (.bool r) ∧ Below w.heap.size w w' :=
  (sameDest_any x y hl hm b1 b2 hA hM).mono fun _ _ ⟨he, hw⟩ => ⟨by rw [he, H.out], hw⟩

set_option maxRecDepth 100000 in
set_option maxHeartbeats 1000000 in
theorem EqualDests_any (l m : List PDest) (A M : Option Addr) (n1 n2 c d : Nat) (w : World) (hl : Hid (l.length = n1)) (hm : Hid (m.length = n2)) (b1 : n1 ≤ 4096) (b2 : n2 ≤ 4096) (z1 : ∀ x ∈ l, x.name.size ≤ 4096 ∧ x.orig.length ≤ 4000) (z2 : ∀ x ∈ m, x.name.size ≤ 4096 ∧ x.orig.length ≤ 4000) (hA : DestsAt w w.heap.size A l) (hM : DestsAt w w.heap.size M m) :
    Calls Tryd.prog 47 #[.slice A n1 c, .slice M n2 d, .func (.func 48) #[] #[]] w fun e w' => e = .returned (.bool (eqF destEq l m)) ∧ Below w.heap.size w w' := by
  have Z1 := Lib.hid z1
  have Z2 := Lib.hid z2
  clear z1 z2
  by_cases hn : n1 = n2
  · subst hn
    go_enter Tryd.func47, Tryd.ntmps47
    go_wp2
    go_loopw [7, 8, 9, 17] (fun _ _ _ i wr => ∃ k : Nat, k ≤ n1 ∧ i = .int .i64 (k : Nat) ∧ EqAt destEq l m k ∧ Below w.heap.size w wr) (fun _ _ _ i _ => n1 - (intOf i).toNat)
    case atStart => exact ⟨0, Nat.zero_le _, rfl, rfl, Below.refl _ _⟩
    case round =>
      obtain ⟨k, hk, rfl, hat, hbw⟩ := hrel
      by_cases hlt : k < n1
      · obtain ⟨⟨xn, xo⟩, hx⟩ : ∃ x, l[k]? = some x := ⟨_, List.getElem?_eq_getElem (by rw [hl.out]; exact hlt)⟩
        obtain ⟨⟨yn, yo⟩, hy⟩ : ∃ y, m[k]? = some y := ⟨_, List.getElem?_eq_getElem (by rw [hm.out]; exact hlt)⟩
        obtain ⟨g, Ax, cx, rfl, hg, c0, c1, hx1⟩ := (hA.up hbw).dest hx
        obtain ⟨g', Ay, cy, rfl, hg', c0', c1', hy1⟩ := (hM.up hbw).dest hy
        obtain ⟨_, s1⟩ := Z1.out _ (List.mem_of_getElem? hx)
        obtain ⟨_, s2⟩ := Z2.out _ (List.mem_of_getElem? hy)
        dsimp only at c0 c1 hx1 c0' c1' hy1 s1 s2
        obtain ⟨nx, hnx⟩ : ∃ n, xo.length = n := ⟨_, rfl⟩
        obtain ⟨ny, hny⟩ : ∃ n, yo.length = n := ⟨_, rfl⟩
        rw [hnx] at c1 s1
        rw [hny] at c1' s2
        have HNX : Hid ((⟨xn, xo⟩ : PDest).orig.length = nx) := hnx
        have HNY : Hid ((⟨yn, yo⟩ : PDest).orig.length = ny) := hny
        have e0 := fun o => (World.cell?_alloc_lt wr o ⟨g', k * 2, none⟩ hg').trans c0'
        have e1 := fun o => (World.cell?_alloc_lt wr o ⟨g', k * 2 + 1, none⟩ hg').trans c1'
        have hx2 := fun o1 o2 => (hx1.box o1).box o2
        have hy2 := fun o1 o2 => (hy1.box o1).box o2
        obtain ⟨r, hr⟩ : ∃ r, destEq ⟨xn, xo⟩ ⟨yn, yo⟩ = r := ⟨_, rfl⟩
        have HR := Lib.hid hr
        clear hA hM hx1 hy1 hnx hny c0' c1'
        cases r
        · have HI := Lib.hid (hat.stop hx hy hr)
          clear hr hx hy hat
          go_wp2_with (go_at_call 48; refine (sameDest_is ⟨xn, xo⟩ ⟨yn, yo⟩ _ HR HNX HNY (by omega) (by omega) (hx2 _ _) (hy2 _ _)).mono ?_; rintro e w2 ⟨rfl, hb2⟩)
          go_ret
          exact ⟨ret_bool HI.out.symm, hbw.trans ((below_box (below_box hb2)).mono hbw.size)⟩
        · have hat' := hat.next hx hy hr
          clear hr hx hy hat
          go_wp2_with (go_at_call 48; refine (sameDest_is ⟨xn, xo⟩ ⟨yn, yo⟩ _ HR HNX HNY (by omega) (by omega) (hx2 _ _) (hy2 _ _)).mono ?_; rintro e w2 ⟨rfl, hb2⟩)
          go_roundw
          case rel => exact ⟨k + 1, by omega, by go_num, hat', hbw.trans ((below_box (below_box hb2)).mono hbw.size)⟩
          case measure => simp [intOf]; omega
      · have HI := Lib.hid (hat.done (by rw [hl.out]; omega) (by rw [hm.out]; omega))
        go_wp2
        go_ret
        exact ⟨ret_bool HI.out.symm, hbw⟩
  · have HI := Lib.hid (eqF_len (f := destEq) l m (by rw [hl.out, hm.out]; exact hn))
    have e1 : ((n1 : Int) != (n2 : Int)) = true := by simp; omega
    have HN := Lib.hid hn
    clear hn
    go_enter Tryd.func47, Tryd.ntmps47
    go_wp2
    go_ret
    exact ⟨ret_bool HI.out.symm, Below.refl _ _⟩

def sameB (p q : PPlan) : Bool := decide (p.proto = q.proto) && (decide (p.cap = q.cap) && (decide (p.k = q.k) && (eqF nodeEq p.nodes q.nodes && (eqF linkEq p.links q.links && (eqF destEq p.dests q.dests && eqF checkEq p.checks q.checks)))))
theorem sameB_iff (p q : PPlan) : sameB p q = true ↔ p = q := by
  obtain ⟨a, b, c, d, e, f, g⟩ := p
  obtain ⟨a', b', c', d', e', f', g'⟩ := q
  unfold sameB
  simp [eqF_iff nodeEq_iff, eqF_iff linkEq_iff, eqF_iff destEq_iff, eqF_iff checkEq_iff]
theorem sameB_false {p q : PPlan} (h : p ≠ q) : sameB p q = false := by
  cases hs : sameB p q
  · rfl
  · exact absurd ((sameB_iff p q).1 hs) h

end Go.Proofs.YtlfapmfhdagikaaDoor
