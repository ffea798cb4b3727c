/-
  Package plan: slices of nodes, links, checks, numbers, destinations compared.
-/
import Derived.Deep.QuietTactic
import Derived.BigQuiet
import Derived.Test.YtlfapmfhdagikaaDoorPlC
namespace Go.Proofs.YtlfapmfhdagikaaDoor
open Go.RowKit

/-- Are two lists the same, one by one? -/
def eqF {α : Type} (f : α → α → Bool) : List α → List α → Bool
  | [], [] => true
  | x :: r, y :: s => f x y && eqF f r s
  | _, _ => false
def EqAt {α : Type} (f : α → α → Bool) (l m : List α) (k : Nat) : Prop := eqF f l m = eqF f (l.drop k) (m.drop k)
section
variable {α : Type} {f : α → α → Bool} {l m : List α} {k : Nat} {x y : α}
theorem eqF_len : ∀ (l m : List α), l.length ≠ m.length → eqF f l m = false
  | [], [], h => absurd rfl h
  | [], _ :: _, _ => rfl
  | _ :: _, [], _ => rfl
  | x :: r, y :: s, h => by rw [eqF, eqF_len r s (by simpa using h), Bool.and_false]
theorem EqAt.stop (h : EqAt f l m k) (hx : l[k]? = some x) (hy : m[k]? = some y) (hf : f x y = false) : eqF f l m = false := by
  unfold EqAt at h
  rw [h, drop_cons hx, drop_cons hy, eqF, hf, Bool.false_and]
theorem EqAt.next (h : EqAt f l m k) (hx : l[k]? = some x) (hy : m[k]? = some y) (hf : f x y = true) : EqAt f l m (k + 1) := by
  unfold EqAt at h ⊢
  rw [h, drop_cons hx, drop_cons hy, eqF, hf, Bool.true_and]
theorem EqAt.done (h : EqAt f l m k) (hl : l.length ≤ k) (hm : m.length ≤ k) : eqF f l m = true := by
  unfold EqAt at h
  rw [h, List.drop_of_length_le hl, List.drop_of_length_le hm]; rfl
theorem eqF_iff (hf : ∀ x y, f x y = true ↔ x = y) : ∀ l m : List α, eqF f l m = true ↔ l = m
  | [], [] => by simp [eqF]
  | [], _ :: _ => by simp [eqF]
  | _ :: _, [] => by simp [eqF]
  | x :: r, y :: s => by rw [eqF, Bool.and_eq_true, hf, eqF_iff hf r s, List.cons.injEq]
end

def nodeEq (a b : PNode) : Bool := decide (a.name = b.name) && decide (a.num = b.num)
def linkEq (a b : PLink) : Bool := decide (a.a = b.a) && (decide (a.b = b.b) && decide (a.cost = b.cost))
def checkEq (a b : PCheck) : Bool := decide (a.kind = b.kind) && (decide (a.node = b.node) && (decide (a.dest = b.dest) && (decide (a.limit = b.limit) && decide (a.other = b.other))))
def numEq (a b : Int) : Bool := decide (a = b)

theorem str_nel {a b : ByteArray} (h : a ≠ b) : ¬ a.toList = b.toList := by
  have := str_ne h
  rw [beq_eq_false_iff_ne] at this
  exact this

theorem node_neq (a b : PNode) (r : Bool) (H : Hid (nodeEq a b = r)) (w : World) : (binOp .neq 48 (.agg #[.string a.name, .int .i64 a.num]) (.agg #[.string b.name, .int .i64 b.num])).run Tryd.prog w = .ok (.bool (!r)) w := by
  have u3 := Tryd.underlying3
  have u9 := Tryd.underlying9
  have hS : Tryd.prog.underlying 48 = some (.struct (Tryd.prog.fieldsOf 48)) := by kernel_rfl
  have hp : Tryd.prog.stoodInHeld 48 = false := by kernel_rfl
  rw [run_neq_struct, show (10000 : Nat) = 9999 + 1 from rfl, run_equalIn_agg w 9999 48 _ _ hS hp]
  simp only [Program.fieldsOf, Tryd.underlying48]
  rw [← H.out]
  unfold nodeEq
  go_simp
  by_cases h1 : a.name = b.name
  · by_cases h2 : a.num = b.num <;> simp [h1, h2]
  · have h1' := str_nel h1
    by_cases h2 : a.num = b.num <;> simp [h1, h1', h2]
theorem link_neq (a b : PLink) (r : Bool) (H : Hid (linkEq a b = r)) (w : World) : (binOp .neq 53 (.agg #[.int .i64 a.a, .int .i64 a.b, .int .i64 a.cost]) (.agg #[.int .i64 b.a, .int .i64 b.b, .int .i64 b.cost])).run Tryd.prog w = .ok (.bool (!r)) w := by
  have u3 := Tryd.underlying3
  have hS : Tryd.prog.underlying 53 = some (.struct (Tryd.prog.fieldsOf 53)) := by kernel_rfl
  have hp : Tryd.prog.stoodInHeld 53 = false := by kernel_rfl
  rw [run_neq_struct, show (10000 : Nat) = 9999 + 1 from rfl, run_equalIn_agg w 9999 53 _ _ hS hp]
  simp only [Program.fieldsOf, Tryd.underlying53]
  rw [← H.out]
  unfold linkEq
  go_simp
  by_cases h1 : a.a = b.a <;> by_cases h2 : a.b = b.b <;> by_cases h3 : a.cost = b.cost <;> simp [h1, h2, h3]
theorem check_neq (a b : PCheck) (r : Bool) (H : Hid (checkEq a b = r)) (w : World) : (binOp .neq 55 (.agg #[.int .i64 a.kind, .int .i64 a.node, .int .i64 a.dest, .int .i64 a.limit, .int .i64 a.other]) (.agg #[.int .i64 b.kind, .int .i64 b.node, .int .i64 b.dest, .int .i64 b.limit, .int .i64 b.other])).run Tryd.prog w = .ok (.bool (!r)) w := by
  have u3 := Tryd.underlying3
  have hS : Tryd.prog.underlying 55 = some (.struct (Tryd.prog.fieldsOf 55)) := by kernel_rfl
  have hp : Tryd.prog.stoodInHeld 55 = false := by kernel_rfl
  rw [run_neq_struct, show (10000 : Nat) = 9999 + 1 from rfl, run_equalIn_agg w 9999 55 _ _ hS hp]
  simp only [Program.fieldsOf, Tryd.underlying55]
  rw [← H.out]
  unfold checkEq
  go_simp
  by_cases h1 : a.kind = b.kind <;> by_cases h2 : a.node = b.node <;> by_cases h3 : a.dest = b.dest <;> by_cases h4 : a.limit = b.limit <;> by_cases h5 : a.other = b.other <;> simp [h1, h2, h3, h4, h5]

set_option maxRecDepth 100000 in
set_option maxHeartbeats 1000000 in
theorem EqualNodes_any (l m : List PNode) (A M : Option Addr) (n1 n2 c d : Nat) (w : World) (hl : Hid (l.length = n1)) (hm : Hid (m.length = n2)) (b1 : n1 ≤ 4096) (b2 : n2 ≤ 4096) (hA : RowAt w w.heap.size A (l.flatMap nodeC)) (hM : RowAt w w.heap.size M (m.flatMap nodeC)) :
    Calls Tryd.prog 45 #[.slice A n1 c, .slice M n2 d] w fun e w' => e = .returned (.bool (eqF nodeEq l m)) ∧ Below w.heap.size w w' := by
  have hgd : Tryd.prog.eqGuardType Tryd.prog.depth 48 = false := by kernel_rfl
  by_cases hn : n1 = n2
  · subst hn
    go_enter Tryd.func45, Tryd.ntmps45
    go_wp2
    go_loopw [5, 13] (fun _ i wr => ∃ k : Nat, k ≤ n1 ∧ i = .int .i64 (k : Nat) ∧ EqAt nodeEq l m k ∧ Below w.heap.size w wr) (fun _ i _ => n1 - (intOf i).toNat)
    case atStart => exact ⟨0, Nat.zero_le _, rfl, rfl, Below.refl _ _⟩
    case round =>
      obtain ⟨k, hk, rfl, hat, hbw⟩ := hrel
      by_cases hlt : k < n1
      · obtain ⟨x, hx⟩ : ∃ x, l[k]? = some x := ⟨_, List.getElem?_eq_getElem (by rw [hl.out]; exact hlt)⟩
        obtain ⟨y, hy⟩ : ∃ y, m[k]? = some y := ⟨_, List.getElem?_eq_getElem (by rw [hm.out]; exact hlt)⟩
        obtain ⟨g, rfl, hg, c0, c1⟩ := (hA.below hbw).node hx
        obtain ⟨g', rfl, hg', c0', c1'⟩ := (hM.below hbw).node hy
        have i1 : (0 : Int) ≤ (k : Int) := by omega
        have i2 : (k : Int) < (n1 : Int) := by omega
        obtain ⟨r, hr⟩ : ∃ r, nodeEq x y = r := ⟨_, rfl⟩
        have hneq := fun w => node_neq x y r (Lib.hid hr) w
        clear hA hM
        cases r
        · have HI := Lib.hid (hat.stop hx hy hr)
          clear hr hx hy hat
          go_wp2
          go_quiet (fail)
          go_wp2
          go_ret
          exact ⟨ret_bool HI.out.symm, below_draws hbw _⟩
        · have hat' := hat.next hx hy hr
          clear hr hx hy hat
          go_wp2
          go_quiet (fail)
          go_wp2
          go_roundw
          case rel => exact ⟨k + 1, by omega, by go_num, hat', below_draws hbw _⟩
          case measure => simp [intOf]; omega
      · have HI := Lib.hid (hat.done (by rw [hl.out]; omega) (by rw [hm.out]; omega))
        go_wp2
        go_ret
        exact ⟨ret_bool HI.out.symm, hbw⟩
  · have HI := Lib.hid (eqF_len (f := nodeEq) l m (by rw [hl.out, hm.out]; exact hn))
    have e1 : ((n1 : Int) != (n2 : Int)) = true := by simp; omega
    have HN := Lib.hid hn
    clear hn
    go_enter Tryd.func45, Tryd.ntmps45
    go_wp2
    go_ret
    exact ⟨ret_bool HI.out.symm, Below.refl _ _⟩

set_option maxRecDepth 100000 in
set_option maxHeartbeats 1000000 in
theorem EqualLinks_any (l m : List PLink) (A M : Option Addr) (n1 n2 c d : Nat) (w : World) (hl : Hid (l.length = n1)) (hm : Hid (m.length = n2)) (b1 : n1 ≤ 4096) (b2 : n2 ≤ 4096) (hA : RowAt w w.heap.size A (l.flatMap linkC)) (hM : RowAt w w.heap.size M (m.flatMap linkC)) :
    Calls Tryd.prog 46 #[.slice A n1 c, .slice M n2 d] w fun e w' => e = .returned (.bool (eqF linkEq l m)) ∧ Below w.heap.size w w' := by
  have hgd : Tryd.prog.eqGuardType Tryd.prog.depth 53 = false := by kernel_rfl
  by_cases hn : n1 = n2
  · subst hn
    go_enter Tryd.func46, Tryd.ntmps46
    go_wp2
    go_loopw [5, 13] (fun _ i wr => ∃ k : Nat, k ≤ n1 ∧ i = .int .i64 (k : Nat) ∧ EqAt linkEq l m k ∧ Below w.heap.size w wr) (fun _ i _ => n1 - (intOf i).toNat)
    case atStart => exact ⟨0, Nat.zero_le _, rfl, rfl, Below.refl _ _⟩
    case round =>
      obtain ⟨k, hk, rfl, hat, hbw⟩ := hrel
      by_cases hlt : k < n1
      · obtain ⟨x, hx⟩ : ∃ x, l[k]? = some x := ⟨_, List.getElem?_eq_getElem (by rw [hl.out]; exact hlt)⟩
        obtain ⟨y, hy⟩ : ∃ y, m[k]? = some y := ⟨_, List.getElem?_eq_getElem (by rw [hm.out]; exact hlt)⟩
        obtain ⟨g, rfl, hg, c0, c1, c2⟩ := (hA.below hbw).link hx
        obtain ⟨g', rfl, hg', c0', c1', c2'⟩ := (hM.below hbw).link hy
        have i1 : (0 : Int) ≤ (k : Int) := by omega
        have i2 : (k : Int) < (n1 : Int) := by omega
        obtain ⟨r, hr⟩ : ∃ r, linkEq x y = r := ⟨_, rfl⟩
        have hneq := fun w => link_neq x y r (Lib.hid hr) w
        clear hA hM
        cases r
        · have HI := Lib.hid (hat.stop hx hy hr)
          clear hr hx hy hat
          go_wp2
          go_quiet (fail)
          go_wp2
          go_ret
          exact ⟨ret_bool HI.out.symm, below_draws hbw _⟩
        · have hat' := hat.next hx hy hr
          clear hr hx hy hat
          go_wp2
          go_quiet (fail)
          go_wp2
          go_roundw
          case rel => exact ⟨k + 1, by omega, by go_num, hat', below_draws hbw _⟩
          case measure => simp [intOf]; omega
      · have HI := Lib.hid (hat.done (by rw [hl.out]; omega) (by rw [hm.out]; omega))
        go_wp2
        go_ret
        exact ⟨ret_bool HI.out.symm, hbw⟩
  · have HI := Lib.hid (eqF_len (f := linkEq) l m (by rw [hl.out, hm.out]; exact hn))
    have e1 : ((n1 : Int) != (n2 : Int)) = true := by simp; omega
    have HN := Lib.hid hn
    clear hn
    go_enter Tryd.func46, Tryd.ntmps46
    go_wp2
    go_ret
    exact ⟨ret_bool HI.out.symm, Below.refl _ _⟩

set_option maxRecDepth 100000 in
set_option maxHeartbeats 1000000 in
theorem EqualChecks_any (l m : List PCheck) (A M : Option Addr) (n1 n2 c d : Nat) (w : World) (hl : Hid (l.length = n1)) (hm : Hid (m.length = n2)) (b1 : n1 ≤ 4096) (b2 : n2 ≤ 4096) (hA : RowAt w w.heap.size A (l.flatMap checkC)) (hM : RowAt w w.heap.size M (m.flatMap checkC)) :
    Calls Tryd.prog 49 #[.slice A n1 c, .slice M n2 d] w fun e w' => e = .returned (.bool (eqF checkEq l m)) ∧ Below w.heap.size w w' := by
  have hgd : Tryd.prog.eqGuardType Tryd.prog.depth 55 = false := by kernel_rfl
  by_cases hn : n1 = n2
  · subst hn
    go_enter Tryd.func49, Tryd.ntmps49
    go_wp2
    go_loopw [5, 13] (fun _ i wr => ∃ k : Nat, k ≤ n1 ∧ i = .int .i64 (k : Nat) ∧ EqAt checkEq l m k ∧ Below w.heap.size w wr) (fun _ i _ => n1 - (intOf i).toNat)
    case atStart => exact ⟨0, Nat.zero_le _, rfl, rfl, Below.refl _ _⟩
    case round =>
      obtain ⟨k, hk, rfl, hat, hbw⟩ := hrel
      by_cases hlt : k < n1
      · obtain ⟨x, hx⟩ : ∃ x, l[k]? = some x := ⟨_, List.getElem?_eq_getElem (by rw [hl.out]; exact hlt)⟩
        obtain ⟨y, hy⟩ : ∃ y, m[k]? = some y := ⟨_, List.getElem?_eq_getElem (by rw [hm.out]; exact hlt)⟩
        obtain ⟨g, rfl, hg, c0, c1, c2, c3, c4⟩ := (hA.below hbw).check hx
        obtain ⟨g', rfl, hg', c0', c1', c2', c3', c4'⟩ := (hM.below hbw).check hy
        have i1 : (0 : Int) ≤ (k : Int) := by omega
        have i2 : (k : Int) < (n1 : Int) := by omega
        obtain ⟨r, hr⟩ : ∃ r, checkEq x y = r := ⟨_, rfl⟩
        have hneq := fun w => check_neq x y r (Lib.hid hr) w
        clear hA hM
        cases r
        · have HI := Lib.hid (hat.stop hx hy hr)
          clear hr hx hy hat
          go_wp2
          go_quiet (fail)
          go_wp2
          go_ret
          exact ⟨ret_bool HI.out.symm, below_draws hbw _⟩
        · have hat' := hat.next hx hy hr
          clear hr hx hy hat
          go_wp2
          go_quiet (fail)
          go_wp2
          go_roundw
          case rel => exact ⟨k + 1, by omega, by go_num, hat', below_draws hbw _⟩
          case measure => simp [intOf]; omega
      · have HI := Lib.hid (hat.done (by rw [hl.out]; omega) (by rw [hm.out]; omega))
        go_wp2
        go_ret
        exact ⟨ret_bool HI.out.symm, hbw⟩
  · have HI := Lib.hid (eqF_len (f := checkEq) l m (by rw [hl.out, hm.out]; exact hn))
    have e1 : ((n1 : Int) != (n2 : Int)) = true := by simp; omega
    have HN := Lib.hid hn
    clear hn
    go_enter Tryd.func49, Tryd.ntmps49
    go_wp2
    go_ret
    exact ⟨ret_bool HI.out.symm, Below.refl _ _⟩

set_option maxRecDepth 100000 in
set_option maxHeartbeats 1000000 in
theorem EqualNums_any (l m : List Int) (A M : Option Addr) (n1 n2 c d : Nat) (w : World) (hl : Hid (l.length = n1)) (hm : Hid (m.length = n2)) (b1 : n1 ≤ 4096) (b2 : n2 ≤ 4096) (hA : RowAt w w.heap.size A (l.map (Value.int .i64))) (hM : RowAt w w.heap.size M (m.map (Value.int .i64))) :
    Calls Tryd.prog 67 #[.slice A n1 c, .slice M n2 d] w fun e w' => e = .returned (.bool (eqF numEq l m)) ∧ Below w.heap.size w w' := by
  by_cases hn : n1 = n2
  · subst hn
    go_enter Tryd.func67, Tryd.ntmps67
    go_wp2
    go_loopw [5, 13] (fun _ i wr => ∃ k : Nat, k ≤ n1 ∧ i = .int .i64 (k : Nat) ∧ EqAt numEq l m k ∧ Below w.heap.size w wr) (fun _ i _ => n1 - (intOf i).toNat)
    case atStart => exact ⟨0, Nat.zero_le _, rfl, rfl, Below.refl _ _⟩
    case round =>
      obtain ⟨k, hk, rfl, hat, hbw⟩ := hrel
      by_cases hlt : k < n1
      · obtain ⟨x, hx⟩ : ∃ x, l[k]? = some x := ⟨_, List.getElem?_eq_getElem (by rw [hl.out]; exact hlt)⟩
        obtain ⟨y, hy⟩ : ∃ y, m[k]? = some y := ⟨_, List.getElem?_eq_getElem (by rw [hm.out]; exact hlt)⟩
        obtain ⟨g, rfl, hg, c0⟩ := (hA.below hbw).num hx
        obtain ⟨g', rfl, hg', c0'⟩ := (hM.below hbw).num hy
        have i1 : (0 : Int) ≤ (k : Int) := by omega
        have i2 : (k : Int) < (n1 : Int) := by omega
        obtain ⟨r, hr⟩ : ∃ r, numEq x y = r := ⟨_, rfl⟩
        clear hA hM
        cases r
        · have HI := Lib.hid (hat.stop hx hy hr)
          have n1' : (x != y) = true := by unfold numEq at hr; simpa using hr
          clear hr hx hy hat
          go_wp2
          go_quiet (fail)
          go_wp2
          go_ret
          exact ⟨ret_bool HI.out.symm, below_draws hbw _⟩
        · have hat' := hat.next hx hy hr
          have hxy : x = y := by unfold numEq at hr; simpa using hr
          clear hr hx hy hat
          subst hxy
          go_wp2
          go_quiet (fail)
          go_wp2
          go_roundw
          case rel => exact ⟨k + 1, by omega, by go_num, hat', below_draws hbw _⟩
          case measure => simp [intOf]; omega
      · have HI := Lib.hid (hat.done (by rw [hl.out]; omega) (by rw [hm.out]; omega))
        go_wp2
        go_ret
        exact ⟨ret_bool HI.out.symm, hbw⟩
  · have HI := Lib.hid (eqF_len (f := numEq) l m (by rw [hl.out, hm.out]; exact hn))
    have e1 : ((n1 : Int) != (n2 : Int)) = true := by simp; omega
    have HN := Lib.hid hn
    clear hn
    go_enter Tryd.func67, Tryd.ntmps67
    go_wp2
    go_ret
    exact ⟨ret_bool HI.out.symm, Below.refl _ _⟩

end Go.Proofs.YtlfapmfhdagikaaDoor
