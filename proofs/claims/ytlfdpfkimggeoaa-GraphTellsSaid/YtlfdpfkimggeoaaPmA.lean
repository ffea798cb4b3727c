/-
  Rows that the call has just built; a network all of whose numbers are small ones.
-/
import Derived.Test.YtlfdpfkimggeoaaPlG
namespace Go.Proofs.Ytlfdpfkimggeoaa
open Go.RowKit

/-- A slice of texts that the call has just built. -/
theorem RowAt.new (w : World) (xs : List Value) (t : TypeId) : RowAt (w.alloc (.cells xs.toArray t)) (w.alloc (.cells xs.toArray t)).heap.size (some ⟨w.heap.size, 0, none⟩) xs := fun _ =>
  ⟨w.heap.size, rfl, by simp, fun j u hu => by rw [(Blk.new w t xs.toArray).cell j]; simpa using hu⟩
theorem RowAt.newAt (w : World) (xs : List Value) (t : TypeId) (k : Nat) (hk : w.heap.size = k) : RowAt (w.alloc (.cells xs.toArray t)) (w.alloc (.cells xs.toArray t)).heap.size (some ⟨k, 0, none⟩) xs := hk ▸ RowAt.new w xs t
theorem below_2dn (w : World) (o1 o2 o3 : Obj) (n : Nat) : Below w.heap.size w ((((w.alloc o1).alloc o2).drewN n).alloc o3) := (below_draws (((Below.refl _ w).alloc (Nat.le_refl _) _).alloc (by simp) _) n).alloc (by simp; omega) _

theorem RowAt.draws {w : World} {B : Nat} {A : Option Addr} {xs : List Value} (h : RowAt w B A xs) (n : Nat) : RowAt (w.drewN n) B A xs := h


theorem own_new (w : World) (base : Nat) (e : TypeId) (xs : List Value) (k : Nat) (hk : w.heap.size = k) (hb : base ≤ k) (n : Nat) (hn : xs.length = n) (hm : n ≤ 4096) : (w.alloc (.cells xs.toArray e)).ownsRow base e 1 (.slice (some ⟨k, 0, none⟩) n n) n xs := by
  subst hk hn
  exact ⟨by simp, .inr ⟨w.heap.size, xs.length, xs.toArray, rfl, hb, Blk.new w e _, Nat.le_refl _, by unfold maxLen; omega, by simp, by simp⟩⟩
theorem own_slice {w : World} {base : Nat} {e : TypeId} {size : Nat} {v : Value} {n : Nat} {xs : List Value} (h : w.ownsRow base e size v n xs) (h0 : 0 < n) : ∃ g cap, v = .slice (some ⟨g, 0, none⟩) n cap ∧ n ≤ cap := by
  rcases h.2 with ⟨_, hz⟩ | ⟨g, cap, cur, hv, _, _, hc, _⟩
  · omega
  · exact ⟨g, cap, hv, hc⟩
theorem strInfo : (Try.prog.info? 9).map (fun i => (i.zero, i.size, i.bytes)) = some (some (.string ⟨#[]⟩), 1, 16) := by kernel_rfl


/-- A network all of whose numbers are small ones, and all of whose places are places. -/
structure PTiny (p : PPlan) : Prop where
  cap : ∃ i : Nat, p.cap = i ∧ i < 100
  k : ∃ i : Nat, p.k = i ∧ i < 100
  nodes : ∀ n ∈ p.nodes, ∃ i : Nat, n.num = i ∧ i < 100
  links : ∀ l ∈ p.links, ∃ a b c : Nat, l.a = a ∧ l.b = b ∧ l.cost = c ∧ a < p.nodes.length ∧ b < p.nodes.length ∧ c < 100
  dests : ∀ d ∈ p.dests, ∀ a ∈ d.orig, ∃ i : Nat, a = i ∧ i < p.nodes.length
  checks : ∀ c ∈ p.checks, (c.kind = 1 ∨ c.kind = 2 ∨ c.kind = 3 ∨ c.kind = 4) ∧ ∃ n d li o : Nat, c.node = n ∧ c.dest = d ∧ c.limit = li ∧ c.other = o ∧ n < p.nodes.length ∧ d < p.dests.length ∧ o < p.nodes.length ∧ li < 100

theorem flat_take {α β : Type} (f : α → List β) (l : List α) (k : Nat) (x : α) (h : l[k]? = some x) : (l.take (k + 1)).flatMap f = (l.take k).flatMap f ++ f x := by
  rw [List.take_add_one, h, List.flatMap_append]; simp
theorem flat_le {α β : Type} (f : α → List β) (l : List α) (k : Nat) (x : α) (h : l[k]? = some x) : ((l.take k).flatMap f).length + (f x).length ≤ (l.flatMap f).length := by
  rw [← List.length_append, ← flat_take f l k x h]
  have : l.flatMap f = (l.take (k + 1)).flatMap f ++ (l.drop (k + 1)).flatMap f := by rw [← List.flatMap_append, List.take_append_drop]
  rw [this, List.length_append]; omega

theorem below_ad (w : World) (o1 o2 : Obj) : Below w.heap.size w (((w.alloc o1).alloc o2).drew) := (((Below.refl _ w).alloc (Nat.le_refl _) _).alloc (by simp) _).drew
theorem below_nd (w : World) (o : Obj) : Below w.heap.size w (w.alloc o).drew := (below_new w o).drew
theorem RowAt.newAtD (w : World) (xs : List Value) (t : TypeId) (k : Nat) (hk : w.heap.size = k) : RowAt (w.alloc (.cells xs.toArray t)).drew (w.alloc (.cells xs.toArray t)).drew.heap.size (some ⟨k, 0, none⟩) xs := RowAt.newAt w xs t k hk
end Go.Proofs.Ytlfdpfkimggeoaa
