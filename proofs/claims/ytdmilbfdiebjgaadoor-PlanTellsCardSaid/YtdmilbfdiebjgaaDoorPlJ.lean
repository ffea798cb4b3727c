/-
  Package plan: slices of nodes, links, checks, numbers, destinations compared.
-/
import Derived.Deep.QuietTactic
import Derived.BigQuiet
import Derived.Test.YtdmilbfdiebjgaaDoorPlC
import Derived.Test.YtdmilbfdiebjgaaDoorPlE
namespace Go.Proofs.YtdmilbfdiebjgaaDoor
open Go.RowKit

/-- Are two lists the same, one by one? -/
def eqF {α : Type} (f : α → α → Bool) : List α → List α → Bool
  | [], [] => true
  | x :: r, y :: s => f x y && eqF f r s
  | _, _ => false
def EqAt {α : Type} (f : α → α → Bool) (l m : List α) (k : Nat) : Prop := eqF f l m = eqF f (l.drop k) (m.drop k)
section
variable {α : Type} {f : α → α → Bool} {l m : List α} {k : Nat} {x y : α}
theorem eqF_len : ∀ (l m : List α), l.length ≠ m.length → eqF f l m = false
  | [], [], h => absurd rfl h
  | [], _ :: _, _ => rfl
  | _ :: _, [], _ => rfl
  | x :: r, y :: s, h => by rw [eqF, eqF_len r s (by simpa using h), Bool.and_false]
theorem EqAt.stop (h : EqAt f l m k) (hx : l[k]? = some x) (hy : m[k]? = some y) (hf : f x y = false) : eqF f l m = false := by
  unfold EqAt at h
  rw [h, drop_cons hx, drop_cons hy, eqF, hf, Bool.false_and]
theorem EqAt.next (h : EqAt f l m k) (hx : l[k]? = some x) (hy : m[k]? = some y) (hf : f x y = true) : EqAt f l m (k + 1) := by
  unfold EqAt at h ⊢
  rw [h, drop_cons hx, drop_cons hy, eqF, hf, Bool.true_and]
theorem EqAt.done (h : EqAt f l m k) (hl : l.length ≤ k) (hm : m.length ≤ k) : eqF f l m = true := by
  unfold EqAt at h
  rw [h, List.drop_of_length_le hl, List.drop_of_length_le hm]; rfl
theorem eqF_iff (hf : ∀ x y, f x y = true ↔ x = y) : ∀ l m : List α, eqF f l m = true ↔ l = m
  | [], [] => by simp [eqF]
  | [], _ :: _ => by simp [eqF]
  | _ :: _, [] => by simp [eqF]
  | x :: r, y :: s => by rw [eqF, Bool.and_eq_true, hf, eqF_iff hf r s, List.cons.injEq]
end

def nodeEq (a b : PNode) : Bool := decide (a.name = b.name) && decide (a.num = b.num)
def linkEq (a b : PLink) : Bool := decide (a.a = b.a) && (decide (a.b = b.b) && decide (a.cost = b.cost))
def checkEq (a b : PCheck) : Bool := decide (a.kind = b.kind) && (decide (a.node = b.node) && (decide (a.dest = b.dest) && (decide (a.limit = b.limit) && decide (a.other = b.other))))
def numEq (a b : Int) : Bool := decide (a = b)

theorem str_nel {a b : ByteArray} (h : a ≠ b) : ¬ a.toList = b.toList := by
  have := str_ne h
  rw [beq_eq_false_iff_ne] at this
  exact this

theorem node_neq (a b : PNode) (r : Bool) (H : Hid (nodeEq a b = r)) (w : World) : (binOp .neq 41 (.agg #[.string a.name, .int .i64 a.num]) (.agg #[.string b.name, .int .i64 b.num])).run Tryd.prog w = .ok (.bool (!r)) w := by
  have u3 := Tryd.underlying3
  have u9 := Tryd.underlying9
  have hS : Tryd.prog.underlying 41 = some (.struct (Tryd.prog.fieldsOf 41)) := by kernel_rfl
  have hp : Tryd.prog.stoodInHeld 41 = false := by kernel_rfl
  rw [run_neq_struct, show (10000 : Nat) = 9999 + 1 from rfl, run_equalIn_agg w 9999 41 _ _ hS hp]
  simp only [Program.fieldsOf, Tryd.underlying41]
  rw [← H.out]
  unfold nodeEq
  go_simp
  by_cases h1 : a.name = b.name
  · by_cases h2 : a.num = b.num <;> simp [h1, h2]
  · have h1' := str_nel h1
    by_cases h2 : a.num = b.num <;> simp [h1, h1', h2]
theorem link_neq (a b : PLink) (r : Bool) (H : Hid (linkEq a b = r)) (w : World) : (binOp .neq 43 (.agg #[.int .i64 a.a, .int .i64 a.b, .int .i64 a.cost]) (.agg #[.int .i64 b.a, .int .i64 b.b, .int .i64 b.cost])).run Tryd.prog w = .ok (.bool (!r)) w := by
  have u3 := Tryd.underlying3
  have hS : Tryd.prog.underlying 43 = some (.struct (Tryd.prog.fieldsOf 43)) := by kernel_rfl
  have hp : Tryd.prog.stoodInHeld 43 = false := by kernel_rfl
  rw [run_neq_struct, show (10000 : Nat) = 9999 + 1 from rfl, run_equalIn_agg w 9999 43 _ _ hS hp]
  simp only [Program.fieldsOf, Tryd.underlying43]
  rw [← H.out]
  unfold linkEq
  go_simp
  by_cases h1 : a.a = b.a <;> by_cases h2 : a.b = b.b <;> by_cases h3 : a.cost = b.cost <;> simp [h1, h2, h3]
theorem check_neq (a b : PCheck) (r : Bool) (H : Hid (checkEq a b = r)) (w : World) : (binOp .neq 51 (.agg #[.int .i64 a.kind, .int .i64 a.node, .int .i64 a.dest, .int .i64 a.limit, .int .i64 a.other]) (.agg #[.int .i64 b.kind, .int .i64 b.node, .int .i64 b.dest, .int .i64 b.limit, .int .i64 b.other])).run Tryd.prog w = .ok (.bool (!r)) w := by
  have u3 := Tryd.underlying3
  have hS : Tryd.prog.underlying 51 = some (.struct (Tryd.prog.fieldsOf 51)) := by kernel_rfl
  have hp : Tryd.prog.stoodInHeld 51 = false := by kernel_rfl
  rw [run_neq_struct, show (10000 : Nat) = 9999 + 1 from rfl, run_equalIn_agg w 9999 51 _ _ hS hp]
  simp only [Program.fieldsOf, Tryd.underlying51]
  rw [← H.out]
  unfold checkEq
  go_simp
  by_cases h1 : a.kind = b.kind <;> by_cases h2 : a.node = b.node <;> by_cases h3 : a.dest = b.dest <;> by_cases h4 : a.limit = b.limit <;> by_cases h5 : a.other = b.other <;> simp [h1, h2, h3, h4, h5]

set_option maxRecDepth 100000 in
set_option maxHeartbeats 1000000 in
theorem EqualNodes_any (l m : List PNode) (A M : Option Addr) (n1 n2 c d : Nat) (w : World) (hl : Hid (l.length = n1)) (hm : Hid (m.length = n2)) (b1 : n1 ≤ 4096) (b2 : n2 ≤ 4096) (hA : RowAt w w.heap.size A (l.flatMap nodeC)) (hM : RowAt w w.heap.size M (m.flatMap nodeC)) :
    Calls Tryd.prog 36 #[.slice A n1 c, .slice M n2 d] w fun e w' => e = .returned (.bool (eqF nodeEq l m)) ∧ Below w.heap.size w w' := by
  have hgd : Tryd.prog.eqGuardType Tryd.prog.depth 41 = false := by kernel_rfl
  by_cases hn : n1 = n2
  · subst hn
    go_enter Tryd.func36, Tryd.ntmps36
    go_wp2
    go_loopw [5, 13] (fun _ i wr => ∃ k : Nat, k ≤ n1 ∧ i = .int .i64 (k : Nat) ∧ EqAt nodeEq l m k ∧ Below w.heap.size w wr) (fun _ i _ => n1 - (intOf i).toNat)
    case atStart => exact ⟨0, Nat.zero_le _, rfl, rfl, Below.refl _ _⟩
    case round =>
      obtain ⟨k, hk, rfl, hat, hbw⟩ := hrel
      by_cases hlt : k < n1
      · obtain ⟨x, hx⟩ : ∃ x, l[k]? = some x := ⟨_, List.getElem?_eq_getElem (by rw [hl.out]; exact hlt)⟩
        obtain ⟨y, hy⟩ : ∃ y, m[k]? = some y := ⟨_, List.getElem?_eq_getElem (by rw [hm.out]; exact hlt)⟩
        obtain ⟨g, rfl, hg, c0, c1⟩ := (hA.below hbw).node hx
        obtain ⟨g', rfl, hg', c0', c1'⟩ := (hM.below hbw).node hy
        have i1 : (0 : Int) ≤ (k : Int) := by omega
        have i2 : (k : Int) < (n1 : Int) := by omega
        obtain ⟨r, hr⟩ : ∃ r, nodeEq x y = r := ⟨_, rfl⟩
        have hneq := fun w => node_neq x y r (Lib.hid hr) w
        clear hA hM
        cases r
        · have HI := Lib.hid (hat.stop hx hy hr)
          clear hr hx hy hat
          go_wp2
          go_quiet (fail)
          go_wp2
          go_ret
          exact ⟨ret_bool HI.out.symm, below_draws hbw _⟩
        · have hat' := hat.next hx hy hr
          clear hr hx hy hat
          go_wp2
          go_quiet (fail)
          go_wp2
          go_roundw
          case rel => exact ⟨k + 1, by omega, by go_num, hat', below_draws hbw _⟩
          case measure => simp [intOf]; omega
      · have HI := Lib.hid (hat.done (by rw [hl.out]; omega) (by rw [hm.out]; omega))
        go_wp2
        go_ret
        exact ⟨ret_bool HI.out.symm, hbw⟩
  · have HI := Lib.hid (eqF_len (f := nodeEq) l m (by rw [hl.out, hm.out]; exact hn))
    have e1 : ((n1 : Int) != (n2 : Int)) = true := by simp; omega
    have HN := Lib.hid hn
    clear hn
    go_enter Tryd.func36, Tryd.ntmps36
    go_wp2
    go_ret
    exact ⟨ret_bool HI.out.symm, Below.refl _ _⟩

set_option maxRecDepth 100000 in
set_option maxHeartbeats 1000000 in
theorem EqualLinks_any (l m : List PLink) (A M : Option Addr) (n1 n2 c d : Nat) (w : World) (hl : Hid (l.length = n1)) (hm : Hid (m.length = n2)) (b1 : n1 ≤ 4096) (b2 : n2 ≤ 4096) (hA : RowAt w w.heap.size A (l.flatMap linkC)) (hM : RowAt w w.heap.size M (m.flatMap linkC)) :
    Calls Tryd.prog 37 #[.slice A n1 c, .slice M n2 d] w fun e w' => e = .returned (.bool (eqF linkEq l m)) ∧ Below w.heap.size w w' := by
  have hgd : Tryd.prog.eqGuardType Tryd.prog.depth 43 = false := by kernel_rfl
  by_cases hn : n1 = n2
  · subst hn
    go_enter Tryd.func37, Tryd.ntmps37
    go_wp2
    go_loopw [5, 13] (fun _ i wr => ∃ k : Nat, k ≤ n1 ∧ i = .int .i64 (k : Nat) ∧ EqAt linkEq l m k ∧ Below w.heap.size w wr) (fun _ i _ => n1 - (intOf i).toNat)
    case atStart => exact ⟨0, Nat.zero_le _, rfl, rfl, Below.refl _ _⟩
    case round =>
      obtain ⟨k, hk, rfl, hat, hbw⟩ := hrel
      by_cases hlt : k < n1
      · obtain ⟨x, hx⟩ : ∃ x, l[k]? = some x := ⟨_, List.getElem?_eq_getElem (by rw [hl.out]; exact hlt)⟩
        obtain ⟨y, hy⟩ : ∃ y, m[k]? = some y := ⟨_, List.getElem?_eq_getElem (by rw [hm.out]; exact hlt)⟩
        obtain ⟨g, rfl, hg, c0, c1, c2⟩ := (hA.below hbw).link hx
        obtain ⟨g', rfl, hg', c0', c1', c2'⟩ := (hM.below hbw).link hy
        have i1 : (0 : Int) ≤ (k : Int) := by omega
        have i2 : (k : Int) < (n1 : Int) := by omega
        obtain ⟨r, hr⟩ : ∃ r, linkEq x y = r := ⟨_, rfl⟩
        have hneq := fun w => link_neq x y r (Lib.hid hr) w
        clear hA hM
        cases r
        · have HI := Lib.hid (hat.stop hx hy hr)
          clear hr hx hy hat
          go_wp2
          go_quiet (fail)
          go_wp2
          go_ret
          exact ⟨ret_bool HI.out.symm, below_draws hbw _⟩
        · have hat' := hat.next hx hy hr
          clear hr hx hy hat
          go_wp2
          go_quiet (fail)
          go_wp2
          go_roundw
          case rel => exact ⟨k + 1, by omega, by go_num, hat', below_draws hbw _⟩
          case measure => simp [intOf]; omega
      · have HI := Lib.hid (hat.done (by rw [hl.out]; omega) (by rw [hm.out]; omega))
        go_wp2
        go_ret
        exact ⟨ret_bool HI.out.symm, hbw⟩
  · have HI := Lib.hid (eqF_len (f := linkEq) l m (by rw [hl.out, hm.out]; exact hn))
    have e1 : ((n1 : Int) != (n2 : Int)) = true := by simp; omega
    have HN := Lib.hid hn
    clear hn
    go_enter Tryd.func37, Tryd.ntmps37
    go_wp2
    go_ret
    exact ⟨ret_bool HI.out.symm, Below.refl _ _⟩

set_option maxRecDepth 100000 in
set_option maxHeartbeats 1000000 in
theorem EqualChecks_any (l m : List PCheck) (A M : Option Addr) (n1 n2 c d : Nat) (w : World) (hl : Hid (l.length = n1)) (hm : Hid (m.length = n2)) (b1 : n1 ≤ 4096) (b2 : n2 ≤ 4096) (hA : RowAt w w.heap.size A (l.flatMap checkC)) (hM : RowAt w w.heap.size M (m.flatMap checkC)) :
    Calls Tryd.prog 40 #[.slice A n1 c, .slice M n2 d] w fun e w' => e = .returned (.bool (eqF checkEq l m)) ∧ Below w.heap.size w w' := by
  have hgd : Tryd.prog.eqGuardType Tryd.prog.depth 51 = false := by kernel_rfl
  by_cases hn : n1 = n2
  · subst hn
    go_enter Tryd.func40, Tryd.ntmps40
    go_wp2
    go_loopw [5, 13] (fun _ i wr => ∃ k : Nat, k ≤ n1 ∧ i = .int .i64 (k : Nat) ∧ EqAt checkEq l m k ∧ Below w.heap.size w wr) (fun _ i _ => n1 - (intOf i).toNat)
    case atStart => exact ⟨0, Nat.zero_le _, rfl, rfl, Below.refl _ _⟩
    case round =>
      obtain ⟨k, hk, rfl, hat, hbw⟩ := hrel
      by_cases hlt : k < n1
      · obtain ⟨x, hx⟩ : ∃ x, l[k]? = some x := ⟨_, List.getElem?_eq_getElem (by rw [hl.out]; exact hlt)⟩
        obtain ⟨y, hy⟩ : ∃ y, m[k]? = some y := ⟨_, List.getElem?_eq_getElem (by rw [hm.out]; exact hlt)⟩
        obtain ⟨g, rfl, hg, c0, c1, c2, c3, c4⟩ := (hA.below hbw).check hx
        obtain ⟨g', rfl, hg', c0', c1', c2', c3', c4'⟩ := (hM.below hbw).check hy
        have i1 : (0 : Int) ≤ (k : Int) := by omega
        have i2 : (k : Int) < (n1 : Int) := by omega
        obtain ⟨r, hr⟩ : ∃ r, checkEq x y = r := ⟨_, rfl⟩
        have hneq := fun w => check_neq x y r (Lib.hid hr) w
        clear hA hM
        cases r
        · have HI := Lib.hid (hat.stop hx hy hr)
          clear hr hx hy hat
          go_wp2
          go_quiet (fail)
          go_wp2
          go_ret
          exact ⟨ret_bool HI.out.symm, below_draws hbw _⟩
        · have hat' := hat.next hx hy hr
          clear hr hx hy hat
          go_wp2
          go_quiet (fail)
          go_wp2
          go_roundw
          case rel => exact ⟨k + 1, by omega, by go_num, hat', below_draws hbw _⟩
          case measure => simp [intOf]; omega
      · have HI := Lib.hid (hat.done (by rw [hl.out]; omega) (by rw [hm.out]; omega))
        go_wp2
        go_ret
        exact ⟨ret_bool HI.out.symm, hbw⟩
  · have HI := Lib.hid (eqF_len (f := checkEq) l m (by rw [hl.out, hm.out]; exact hn))
    have e1 : ((n1 : Int) != (n2 : Int)) = true := by simp; omega
    have HN := Lib.hid hn
    clear hn
    go_enter Tryd.func40, Tryd.ntmps40
    go_wp2
    go_ret
    exact ⟨ret_bool HI.out.symm, Below.refl _ _⟩

set_option maxRecDepth 100000 in
set_option maxHeartbeats 1000000 in
theorem EqualNums_any (l m : List Int) (A M : Option Addr) (n1 n2 c d : Nat) (w : World) (hl : Hid (l.length = n1)) (hm : Hid (m.length = n2)) (b1 : n1 ≤ 4096) (b2 : n2 ≤ 4096) (hA : RowAt w w.heap.size A (l.map (Value.int .i64))) (hM : RowAt w w.heap.size M (m.map (Value.int .i64))) :
    Calls Tryd.prog 57 #[.slice A n1 c, .slice M n2 d] w fun e w' => e = .returned (.bool (eqF numEq l m)) ∧ Below w.heap.size w w' := by
  by_cases hn : n1 = n2
  · subst hn
    go_enter Tryd.func57, Tryd.ntmps57
    go_wp2
    go_loopw [5, 13] (fun _ i wr => ∃ k : Nat, k ≤ n1 ∧ i = .int .i64 (k : Nat) ∧ EqAt numEq l m k ∧ Below w.heap.size w wr) (fun _ i _ => n1 - (intOf i).toNat)
    case atStart => exact ⟨0, Nat.zero_le _, rfl, rfl, Below.refl _ _⟩
    case round =>
      obtain ⟨k, hk, rfl, hat, hbw⟩ := hrel
      by_cases hlt : k < n1
      · obtain ⟨x, hx⟩ : ∃ x, l[k]? = some x := ⟨_, List.getElem?_eq_getElem (by rw [hl.out]; exact hlt)⟩
        obtain ⟨y, hy⟩ : ∃ y, m[k]? = some y := ⟨_, List.getElem?_eq_getElem (by rw [hm.out]; exact hlt)⟩
        obtain ⟨g, rfl, hg, c0⟩ := (hA.below hbw).num hx
        obtain ⟨g', rfl, hg', c0'⟩ := (hM.below hbw).num hy
        have i1 : (0 : Int) ≤ (k : Int) := by omega
        have i2 : (k : Int) < (n1 : Int) := by omega
        obtain ⟨r, hr⟩ : ∃ r, numEq x y = r := ⟨_, rfl⟩
        clear hA hM
        cases r
        · have HI := Lib.hid (hat.stop hx hy hr)
          have n1' : (x != y) = true := by unfold numEq at hr; simpa using hr
          clear hr hx hy hat
          go_wp2
          go_quiet (fail)
          go_wp2
          go_ret
          exact ⟨ret_bool HI.out.symm, below_draws hbw _⟩
        · have hat' := hat.next hx hy hr
          have hxy : x = y := by unfold numEq at hr; simpa using hr
          clear hr hx hy hat
          subst hxy
          go_wp2
          go_quiet (fail)
          go_wp2
          go_roundw
          case rel => exact ⟨k + 1, by omega, by go_num, hat', below_draws hbw _⟩
          case measure => simp [intOf]; omega
      · have HI := Lib.hid (hat.done (by rw [hl.out]; omega) (by rw [hm.out]; omega))
        go_wp2
        go_ret
        exact ⟨ret_bool HI.out.symm, hbw⟩
  · have HI := Lib.hid (eqF_len (f := numEq) l m (by rw [hl.out, hm.out]; exact hn))
    have e1 : ((n1 : Int) != (n2 : Int)) = true := by simp; omega
    have HN := Lib.hid hn
    clear hn
    go_enter Tryd.func57, Tryd.ntmps57
    go_wp2
    go_ret
    exact ⟨ret_bool HI.out.symm, Below.refl _ _⟩

end Go.Proofs.YtdmilbfdiebjgaaDoor

namespace Go.Proofs.YtdmilbfdiebjgaaDoor
open Go.RowKit

def destEq (a b : PDest) : Bool := decide (a.name = b.name) && eqF numEq a.orig b.orig
theorem numEq_iff (x y : Int) : numEq x y = true ↔ x = y := by unfold numEq; simp
theorem nodeEq_iff (x y : PNode) : nodeEq x y = true ↔ x = y := by
  obtain ⟨a, b⟩ := x; obtain ⟨c, d⟩ := y
  unfold nodeEq; simp
theorem linkEq_iff (x y : PLink) : linkEq x y = true ↔ x = y := by
  obtain ⟨a, b, c⟩ := x; obtain ⟨d, e, f⟩ := y
  unfold linkEq; simp
theorem checkEq_iff (x y : PCheck) : checkEq x y = true ↔ x = y := by
  obtain ⟨a, b, c, d, e⟩ := x; obtain ⟨a', b', c', d', e'⟩ := y
  unfold checkEq; simp
theorem destEq_iff (x y : PDest) : destEq x y = true ↔ x = y := by
  obtain ⟨a, b⟩ := x; obtain ⟨c, d⟩ := y
  unfold destEq; simp [eqF_iff numEq_iff]

theorem EqualNums_is (l m : List Int) (r : Bool) (H : Hid (eqF numEq l m = r)) {A M : Option Addr} {n1 n2 c d : Nat} {w : World} (hl : Hid (l.length = n1)) (hm : Hid (m.length = n2)) (b1 : n1 ≤ 4096) (b2 : n2 ≤ 4096) (hA : RowAt w w.heap.size A (l.map (Value.int .i64))) (hM : RowAt w w.heap.size M (m.map (Value.int .i64))) :
    Calls Tryd.prog 57 #[.slice A n1 c, .slice M n2 d] w fun e w' => e = .returned (.bool r) ∧ Below w.heap.size w w' :=
  (EqualNums_any l m A M n1 n2 c d w hl hm b1 b2 hA hM).mono fun _ _ ⟨he, hw⟩ => ⟨by rw [he, H.out], hw⟩

theorem sameDest_any (x y : PDest) {A M : Option Addr} {n1 n2 c d : Nat} {w : World} (hl : Hid (x.orig.length = n1)) (hm : Hid (y.orig.length = n2)) (b1 : n1 ≤ 4096) (b2 : n2 ≤ 4096) (hA : RowAt w w.heap.size A (x.orig.map (Value.int .i64))) (hM : RowAt w w.heap.size M (y.orig.map (Value.int .i64))) :
    Calls Tryd.prog 39 #[.agg #[.string x.name, .slice A n1 c], .agg #[.string y.name, .slice M n2 d]] w fun e w' => e = .returned (.bool (destEq x y)) ∧ Below w.heap.size w w' := by
  obtain ⟨xn, xo⟩ := x
  obtain ⟨yn, yo⟩ := y
  dsimp only at hl hm hA hM ⊢
  have hA' := fun o1 o2 => (hA.box o1).box o2
  have hM' := fun o1 o2 => (hM.box o1).box o2
  clear hA hM
  have hbb := Lib.hid (fun (o1 o2 : Obj) => below_box (below_box (Below.refl ((w.alloc o1).alloc o2).heap.size ((w.alloc o1).alloc o2))))
  by_cases h : xn = yn
  · subst h
    obtain ⟨r, hr⟩ : ∃ r, eqF numEq xo yo = r := ⟨_, rfl⟩
    have HR := Lib.hid hr
    have HD : Hid (destEq ⟨xn, xo⟩ ⟨xn, yo⟩ = r) := Lib.hid (by unfold destEq; dsimp only; rw [hr]; simp)
    clear hr
    go_enter Tryd.func39, Tryd.ntmps39
    go_wp2_with (go_at_call 57; refine (EqualNums_is xo yo _ HR hl hm b1 b2 (hA' _ _) (hM' _ _)).mono ?_; rintro e w2 ⟨rfl, hb⟩)
    go_ret
    exact ⟨ret_bool HD.out.symm, below_box (below_box hb)⟩
  · have HD : Hid (destEq ⟨xn, xo⟩ ⟨yn, yo⟩ = false) := Lib.hid (by unfold destEq; dsimp only; rw [decide_eq_false h]; rfl)
    have h2 := str_ne h
    clear h
    go_enter Tryd.func39, Tryd.ntmps39
    go_wp2
    go_ret
    exact ⟨ret_bool HD.out.symm, hbb.out _ _⟩
theorem sameDest_is (x y : PDest) (r : Bool) (H : Hid (destEq x y = r)) {A M : Option Addr} {n1 n2 c d : Nat} {w : World} (hl : Hid (x.orig.length = n1)) (hm : Hid (y.orig.length = n2)) (b1 : n1 ≤ 4096) (b2 : n2 ≤ 4096) (hA : RowAt w w.heap.size A (x.orig.map (Value.int .i64))) (hM : RowAt w w.heap.size M (y.orig.map (Value.int .i64))) :
    Calls Tryd.prog 39 #[.agg #[.string x.name, .slice A n1 c], .agg #[.string y.name, .slice M n2 d]] w fun e w' => e = .returned (.bool r) ∧ Below w.heap.size w w' :=
  (sameDest_any x y hl hm b1 b2 hA hM).mono fun _ _ ⟨he, hw⟩ => ⟨by rw [he, H.out], hw⟩

set_option maxRecDepth 100000 in
set_option maxHeartbeats 1000000 in
theorem EqualDests_any (l m : List PDest) (A M : Option Addr) (n1 n2 c d : Nat) (w : World) (hl : Hid (l.length = n1)) (hm : Hid (m.length = n2)) (b1 : n1 ≤ 4096) (b2 : n2 ≤ 4096) (z1 : ∀ x ∈ l, x.name.size ≤ 4096 ∧ x.orig.length ≤ 4000) (z2 : ∀ x ∈ m, x.name.size ≤ 4096 ∧ x.orig.length ≤ 4000) (hA : DestsAt w w.heap.size A l) (hM : DestsAt w w.heap.size M m) :
    Calls Tryd.prog 38 #[.slice A n1 c, .slice M n2 d, .func (.func 39) #[] #[]] w fun e w' => e = .returned (.bool (eqF destEq l m)) ∧ Below w.heap.size w w' := by
  have Z1 := Lib.hid z1
  have Z2 := Lib.hid z2
  clear z1 z2
  by_cases hn : n1 = n2
  · subst hn
    go_enter Tryd.func38, Tryd.ntmps38
    go_wp2
    go_loopw [7, 8, 9, 17] (fun _ _ _ i wr => ∃ k : Nat, k ≤ n1 ∧ i = .int .i64 (k : Nat) ∧ EqAt destEq l m k ∧ Below w.heap.size w wr) (fun _ _ _ i _ => n1 - (intOf i).toNat)
    case atStart => exact ⟨0, Nat.zero_le _, rfl, rfl, Below.refl _ _⟩
    case round =>
      obtain ⟨k, hk, rfl, hat, hbw⟩ := hrel
      by_cases hlt : k < n1
      · obtain ⟨⟨xn, xo⟩, hx⟩ : ∃ x, l[k]? = some x := ⟨_, List.getElem?_eq_getElem (by rw [hl.out]; exact hlt)⟩
        obtain ⟨⟨yn, yo⟩, hy⟩ : ∃ y, m[k]? = some y := ⟨_, List.getElem?_eq_getElem (by rw [hm.out]; exact hlt)⟩
        obtain ⟨g, Ax, cx, rfl, hg, c0, c1, hx1⟩ := (hA.up hbw).dest hx
        obtain ⟨g', Ay, cy, rfl, hg', c0', c1', hy1⟩ := (hM.up hbw).dest hy
        obtain ⟨_, s1⟩ := Z1.out _ (List.mem_of_getElem? hx)
        obtain ⟨_, s2⟩ := Z2.out _ (List.mem_of_getElem? hy)
        dsimp only at c0 c1 hx1 c0' c1' hy1 s1 s2
        obtain ⟨nx, hnx⟩ : ∃ n, xo.length = n := ⟨_, rfl⟩
        obtain ⟨ny, hny⟩ : ∃ n, yo.length = n := ⟨_, rfl⟩
        rw [hnx] at c1 s1
        rw [hny] at c1' s2
        have HNX : Hid ((⟨xn, xo⟩ : PDest).orig.length = nx) := hnx
        have HNY : Hid ((⟨yn, yo⟩ : PDest).orig.length = ny) := hny
        have e0 := fun o => (World.cell?_alloc_lt wr o ⟨g', k * 2, none⟩ hg').trans c0'
        have e1 := fun o => (World.cell?_alloc_lt wr o ⟨g', k * 2 + 1, none⟩ hg').trans c1'
        have hx2 := fun o1 o2 => (hx1.box o1).box o2
        have hy2 := fun o1 o2 => (hy1.box o1).box o2
        obtain ⟨r, hr⟩ : ∃ r, destEq ⟨xn, xo⟩ ⟨yn, yo⟩ = r := ⟨_, rfl⟩
        have HR := Lib.hid hr
        clear hA hM hx1 hy1 hnx hny c0' c1'
        cases r
        · have HI := Lib.hid (hat.stop hx hy hr)
          clear hr hx hy hat
          go_wp2_with (go_at_call 39; refine (sameDest_is ⟨xn, xo⟩ ⟨yn, yo⟩ _ HR HNX HNY (by omega) (by omega) (hx2 _ _) (hy2 _ _)).mono ?_; rintro e w2 ⟨rfl, hb2⟩)
          go_ret
          exact ⟨ret_bool HI.out.symm, hbw.trans ((below_box (below_box hb2)).mono hbw.size)⟩
        · have hat' := hat.next hx hy hr
          clear hr hx hy hat
          go_wp2_with (go_at_call 39; refine (sameDest_is ⟨xn, xo⟩ ⟨yn, yo⟩ _ HR HNX HNY (by omega) (by omega) (hx2 _ _) (hy2 _ _)).mono ?_; rintro e w2 ⟨rfl, hb2⟩)
          go_roundw
          case rel => exact ⟨k + 1, by omega, by go_num, hat', hbw.trans ((below_box (below_box hb2)).mono hbw.size)⟩
          case measure => simp [intOf]; omega
      · have HI := Lib.hid (hat.done (by rw [hl.out]; omega) (by rw [hm.out]; omega))
        go_wp2
        go_ret
        exact ⟨ret_bool HI.out.symm, hbw⟩
  · have HI := Lib.hid (eqF_len (f := destEq) l m (by rw [hl.out, hm.out]; exact hn))
    have e1 : ((n1 : Int) != (n2 : Int)) = true := by simp; omega
    have HN := Lib.hid hn
    clear hn
    go_enter Tryd.func38, Tryd.ntmps38
    go_wp2
    go_ret
    exact ⟨ret_bool HI.out.symm, Below.refl _ _⟩

def sameB (p q : PPlan) : Bool := decide (p.proto = q.proto) && (decide (p.cap = q.cap) && (decide (p.k = q.k) && (eqF nodeEq p.nodes q.nodes && (eqF linkEq p.links q.links && (eqF destEq p.dests q.dests && eqF checkEq p.checks q.checks)))))
theorem sameB_iff (p q : PPlan) : sameB p q = true ↔ p = q := by
  obtain ⟨a, b, c, d, e, f, g⟩ := p
  obtain ⟨a', b', c', d', e', f', g'⟩ := q
  unfold sameB
  simp [eqF_iff nodeEq_iff, eqF_iff linkEq_iff, eqF_iff destEq_iff, eqF_iff checkEq_iff]
theorem sameB_false {p q : PPlan} (h : p ≠ q) : sameB p q = false := by
  cases hs : sameB p q
  · rfl
  · exact absurd ((sameB_iff p q).1 hs) h

end Go.Proofs.YtdmilbfdiebjgaaDoor
