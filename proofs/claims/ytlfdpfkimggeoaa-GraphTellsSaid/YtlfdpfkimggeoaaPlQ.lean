/-
  Package plan: Same.
-/
import Derived.Deep.QuietTactic
import Derived.BigQuiet
import Derived.Test.YtlfdpfkimggeoaaPlC
import Derived.Test.YtlfdpfkimggeoaaPlE
import Derived.Test.YtlfdpfkimggeoaaPlG
namespace Go.Proofs.Ytlfdpfkimggeoaa
open Go.RowKit

/-- Are two lists the same, one by one? -/
def eqF {α : Type} (f : α → α → Bool) : List α → List α → Bool
  | [], [] => true
  | x :: r, y :: s => f x y && eqF f r s
  | _, _ => false
def EqAt {α : Type} (f : α → α → Bool) (l m : List α) (k : Nat) : Prop := eqF f l m = eqF f (l.drop k) (m.drop k)
section
variable {α : Type} {f : α → α → Bool} {l m : List α} {k : Nat} {x y : α}
theorem eqF_len : ∀ (l m : List α), l.length ≠ m.length → eqF f l m = false
  | [], [], h => absurd rfl h
  | [], _ :: _, _ => rfl
  | _ :: _, [], _ => rfl
  | x :: r, y :: s, h => by rw [eqF, eqF_len r s (by simpa using h), Bool.and_false]
theorem EqAt.stop (h : EqAt f l m k) (hx : l[k]? = some x) (hy : m[k]? = some y) (hf : f x y = false) : eqF f l m = false := by
  unfold EqAt at h
  rw [h, drop_cons hx, drop_cons hy, eqF, hf, Bool.false_and]
theorem EqAt.next (h : EqAt f l m k) (hx : l[k]? = some x) (hy : m[k]? = some y) (hf : f x y = true) : EqAt f l m (k + 1) := by
  unfold EqAt at h ⊢
  rw [h, drop_cons hx, drop_cons hy, eqF, hf, Bool.true_and]
theorem EqAt.done (h : EqAt f l m k) (hl : l.length ≤ k) (hm : m.length ≤ k) : eqF f l m = true := by
  unfold EqAt at h
  rw [h, List.drop_of_length_le hl, List.drop_of_length_le hm]; rfl
theorem eqF_iff (hf : ∀ x y, f x y = true ↔ x = y) : ∀ l m : List α, eqF f l m = true ↔ l = m
  | [], [] => by simp [eqF]
  | [], _ :: _ => by simp [eqF]
  | _ :: _, [] => by simp [eqF]
  | x :: r, y :: s => by rw [eqF, Bool.and_eq_true, hf, eqF_iff hf r s, List.cons.injEq]
end

def nodeEq (a b : PNode) : Bool := decide (a.name = b.name) && decide (a.num = b.num)
def linkEq (a b : PLink) : Bool := decide (a.a = b.a) && (decide (a.b = b.b) && decide (a.cost = b.cost))
def checkEq (a b : PCheck) : Bool := decide (a.kind = b.kind) && (decide (a.node = b.node) && (decide (a.dest = b.dest) && (decide (a.limit = b.limit) && decide (a.other = b.other))))
def numEq (a b : Int) : Bool := decide (a = b)

theorem str_nel {a b : ByteArray} (h : a ≠ b) : ¬ a.toList = b.toList := by
  have := str_ne h
  rw [beq_eq_false_iff_ne] at this
  exact this

theorem node_neq (a b : PNode) (r : Bool) (H : Hid (nodeEq a b = r)) (w : World) : (binOp .neq 56 (.agg #[.string a.name, .int .i64 a.num]) (.agg #[.string b.name, .int .i64 b.num])).run Try.prog w = .ok (.bool (!r)) w := by
  have u3 := Try.underlying3
  have u9 := Try.underlying9
  have hS : Try.prog.underlying 56 = some (.struct (Try.prog.fieldsOf 56)) := by kernel_rfl
  have hp : Try.prog.stoodInHeld 56 = false := by kernel_rfl
  rw [run_neq_struct, show (10000 : Nat) = 9999 + 1 from rfl, run_equalIn_agg w 9999 56 _ _ hS hp]
  simp only [Program.fieldsOf, Try.underlying56]
  rw [← H.out]
  unfold nodeEq
  go_simp
  by_cases h1 : a.name = b.name
  · by_cases h2 : a.num = b.num <;> simp [h1, h2]
  · have h1' := str_nel h1
    by_cases h2 : a.num = b.num <;> simp [h1, h1', h2]
theorem link_neq (a b : PLink) (r : Bool) (H : Hid (linkEq a b = r)) (w : World) : (binOp .neq 53 (.agg #[.int .i64 a.a, .int .i64 a.b, .int .i64 a.cost]) (.agg #[.int .i64 b.a, .int .i64 b.b, .int .i64 b.cost])).run Try.prog w = .ok (.bool (!r)) w := by
  have u3 := Try.underlying3
  have hS : Try.prog.underlying 53 = some (.struct (Try.prog.fieldsOf 53)) := by kernel_rfl
  have hp : Try.prog.stoodInHeld 53 = false := by kernel_rfl
  rw [run_neq_struct, show (10000 : Nat) = 9999 + 1 from rfl, run_equalIn_agg w 9999 53 _ _ hS hp]
  simp only [Program.fieldsOf, Try.underlying53]
  rw [← H.out]
  unfold linkEq
  go_simp
  by_cases h1 : a.a = b.a <;> by_cases h2 : a.b = b.b <;> by_cases h3 : a.cost = b.cost <;> simp [h1, h2, h3]
theorem check_neq (a b : PCheck) (r : Bool) (H : Hid (checkEq a b = r)) (w : World) : (binOp .neq 67 (.agg #[.int .i64 a.kind, .int .i64 a.node, .int .i64 a.dest, .int .i64 a.limit, .int .i64 a.other]) (.agg #[.int .i64 b.kind, .int .i64 b.node, .int .i64 b.dest, .int .i64 b.limit, .int .i64 b.other])).run Try.prog w = .ok (.bool (!r)) w := by
  have u3 := Try.underlying3
  have hS : Try.prog.underlying 67 = some (.struct (Try.prog.fieldsOf 67)) := by kernel_rfl
  have hp : Try.prog.stoodInHeld 67 = false := by kernel_rfl
  rw [run_neq_struct, show (10000 : Nat) = 9999 + 1 from rfl, run_equalIn_agg w 9999 67 _ _ hS hp]
  simp only [Program.fieldsOf, Try.underlying67]
  rw [← H.out]
  unfold checkEq
  go_simp
  by_cases h1 : a.kind = b.kind <;> by_cases h2 : a.node = b.node <;> by_cases h3 : a.dest = b.dest <;> by_cases h4 : a.limit = b.limit <;> by_cases h5 : a.other = b.other <;> simp [h1, h2, h3, h4, h5]

end Go.Proofs.Ytlfdpfkimggeoaa

namespace Go.Proofs.Ytlfdpfkimggeoaa
open Go.RowKit

def destEq (a b : PDest) : Bool := decide (a.name = b.name) && eqF numEq a.orig b.orig
theorem numEq_iff (x y : Int) : numEq x y = true ↔ x = y := by unfold numEq; simp
theorem nodeEq_iff (x y : PNode) : nodeEq x y = true ↔ x = y := by
  obtain ⟨a, b⟩ := x; obtain ⟨c, d⟩ := y
  unfold nodeEq; simp
theorem linkEq_iff (x y : PLink) : linkEq x y = true ↔ x = y := by
  obtain ⟨a, b, c⟩ := x; obtain ⟨d, e, f⟩ := y
  unfold linkEq; simp
theorem checkEq_iff (x y : PCheck) : checkEq x y = true ↔ x = y := by
  obtain ⟨a, b, c, d, e⟩ := x; obtain ⟨a', b', c', d', e'⟩ := y
  unfold checkEq; simp
theorem destEq_iff (x y : PDest) : destEq x y = true ↔ x = y := by
  obtain ⟨a, b⟩ := x; obtain ⟨c, d⟩ := y
  unfold destEq; simp [eqF_iff numEq_iff]

def sameB (p q : PPlan) : Bool := decide (p.proto = q.proto) && (decide (p.cap = q.cap) && (decide (p.k = q.k) && (eqF nodeEq p.nodes q.nodes && (eqF linkEq p.links q.links && (eqF destEq p.dests q.dests && eqF checkEq p.checks q.checks)))))
theorem sameB_iff (p q : PPlan) : sameB p q = true ↔ p = q := by
  obtain ⟨a, b, c, d, e, f, g⟩ := p
  obtain ⟨a', b', c', d', e', f', g'⟩ := q
  unfold sameB
  simp [eqF_iff nodeEq_iff, eqF_iff linkEq_iff, eqF_iff destEq_iff, eqF_iff checkEq_iff]
theorem sameB_false {p q : PPlan} (h : p ≠ q) : sameB p q = false := by
  cases hs : sameB p q
  · rfl
  · exact absurd ((sameB_iff p q).1 hs) h

end Go.Proofs.Ytlfdpfkimggeoaa
namespace Go.Proofs.Ytlfdpfkimggeoaa
open Go.RowKit

section
variable {n1 n2 c d : Nat} {A M : Option Addr} {w : World}
end

end Go.Proofs.Ytlfdpfkimggeoaa
