/-
  The laws' awake.
-/
import Derived.Deep.RegionHeld3
import Derived.Deep.DrawnRows
import Derived.Test.YtlfdpfkimggeoaaPlN
import Derived.Test.YtlfdpfkimggeoaaPlQ
import Derived.Test.YtlfdpfkimggeoaaPlV
namespace Go.Proofs.Ytlfdpfkimggeoaa
open Go.RowKit

section
variable {p : PPlan} {pr ca kk : Int} {An Al Ad Ac : Option Addr} {ln cn ll cl ld cd lc cc : Nat} {w : World}

attribute [local go_sem ↓] Go.wp_at_zero Go.wp_at_succ

end

end Go.Proofs.Ytlfdpfkimggeoaa
namespace Go.Proofs.Ytlfdpfkimggeoaa
open Go.RowKit Go.WideShapes Go.ChangeShapes Go.Deep

/-! ### A text is not long -/
theorem flat_len {α β : Type} (f : α → List β) (c : Nat) : ∀ l : List α, (∀ x ∈ l, (f x).length ≤ c) → (l.flatMap f).length ≤ l.length * c
  | [], _ => by simp
  | x :: r, h => by
    have h1 := h x (by simp)
    have h2 := flat_len f c r fun y hy => h y (by simp [hy])
    rw [List.flatMap_cons, List.length_append, List.length_cons, Nat.succ_mul]
    omega
theorem lens_le (c : Nat) : ∀ l : List (List UInt8), (∀ x ∈ l, x.length ≤ c) → Lib.lens l ≤ l.length * c
  | [], _ => by simp [Lib.lens]
  | x :: r, h => by
    have h1 := h x (by simp)
    have h2 := lens_le c r fun y hy => h y (by simp [hy])
    have e : Lib.lens (x :: r) = x.length + Lib.lens r := by simp [Lib.lens]
    rw [e, List.length_cons, Nat.succ_mul]
    omega
theorem lineS_len (xs : List ByteArray) (c : Nat) (h : ∀ x ∈ xs, x.size ≤ c) : (lineS xs).length ≤ xs.length * c + xs.length + 2 := by
  unfold lineS lineB
  rw [List.length_append]
  cases xs with
  | nil => simp [Lib.join_nil]
  | cons x r =>
    rw [List.map_cons, Lib.join_length]
    have hl := lens_le c (x.data.toList :: r.map (·.data.toList)) (fun y hy => by
      rw [← List.map_cons (f := fun b : ByteArray => b.data.toList)] at hy
      obtain ⟨z, hz, rfl⟩ := List.mem_map.1 hy
      have := h z hz
      rw [Lib.size_eq] at this
      exact this)
    simp only [List.length_cons, List.length_nil, List.length_map] at hl ⊢
    omega
theorem dec_len : ∀ (b n : Nat), n ≤ b → (Lib.decDigits n).length ≤ n + 1
  | 0, n, h => by
    have : n = 0 := by omega
    subst this
    unfold Lib.decDigits; simp
  | b + 1, n, h => by
    unfold Lib.decDigits
    split
    · simp
    · have := dec_len b (n / 10) (by omega)
      rw [List.length_append]; simp; omega
theorem decW_len (i : Nat) (h : i < 100) : (decW (i : Int)).size ≤ 4096 := by
  have := dec_len i i (Nat.le_refl _)
  rw [decW_nat, Lib.size_eq]
  show (Lib.decDigits i).length ≤ 4096
  omega
theorem nmB_len {p : PPlan} (hs : PSmall p) (i : Int) : (nmB p.nodes i).size ≤ 4096 := by
  unfold nmB
  cases h : p.nodes[i.toNat]? with
  | none => exact Nat.zero_le _
  | some x => exact hs.nodes x (List.mem_of_getElem? h)
theorem dnB_len {p : PPlan} (hs : PSmall p) (i : Int) : (dnB p.dests i).size ≤ 4096 := by
  unfold dnB
  cases h : p.dests[i.toNat]? with
  | none => exact Nat.zero_le _
  | some x => exact (hs.dests x (List.mem_of_getElem? h)).1
theorem short_line (xs : List ByteArray) (h : ∀ x ∈ xs, x.size ≤ 4096) (hl : xs.length ≤ 4010) : (lineS xs).length ≤ 20000000 := by
  have h1 := lineS_len xs 4096 h
  have : xs.length * 4096 ≤ 4010 * 4096 := Nat.mul_le_mul_right _ hl
  omega
theorem text_le {p : PPlan} (hs : PSmall p) (ht : PTiny p) : (textB p).length ≤ 140737488355328 := by
  obtain ⟨ca, hca, hca2⟩ := ht.cap
  obtain ⟨k, hk, hk2⟩ := ht.k
  have z : ∀ (s : ByteArray), s.size = 4 ∨ s.size = 5 ∨ s.size = 2 ∨ s.size = 6 ∨ s.size = 8 → s.size ≤ 4096 := fun s h => by omega
  have h0 : (lineS (protoW p.proto p.cap)).length ≤ 20000000 := by
    unfold protoW
    split
    · exact short_line _ (by simp only [List.mem_cons, List.not_mem_nil, or_false]; rintro x (rfl | rfl) <;> decide) (by simp)
    · rw [hca]
      exact short_line _ (by simp only [List.mem_cons, List.not_mem_nil, or_false]; rintro x (rfl | rfl | rfl) <;> first | exact decW_len ca hca2 | decide) (by simp)
  have h1 : (lineS (failW p.k)).length ≤ 20000000 := by
    rw [hk]
    exact short_line _ (by unfold failW; simp only [List.mem_cons, List.not_mem_nil, or_false]; rintro x (rfl | rfl) <;> first | exact decW_len k hk2 | decide) (by simp [failW])
  have h2 := flat_len (fun n => lineS (nodeW n)) 20000000 p.nodes fun n hn => by
    obtain ⟨i, hi, hi2⟩ := ht.nodes n hn
    refine short_line _ ?_ (by simp [nodeW])
    unfold nodeW
    rw [hi]
    simp only [List.mem_cons, List.not_mem_nil, or_false]
    rintro x (rfl | rfl | rfl)
    · decide
    · exact hs.nodes n hn
    · exact decW_len i hi2
  have h3 := flat_len (fun l => lineS (linkW p.nodes l)) 20000000 p.links fun n hn => by
    obtain ⟨a, b, i, _, _, hi, _, _, hi2⟩ := ht.links n hn
    refine short_line _ ?_ (by simp [linkW])
    unfold linkW
    rw [hi]
    simp only [List.mem_cons, List.not_mem_nil, or_false]
    rintro x (rfl | rfl | rfl | rfl)
    · decide
    · exact nmB_len hs _
    · exact nmB_len hs _
    · exact decW_len i hi2
  have h4 := flat_len (fun d => lineS (destW p.nodes d)) 20000000 p.dests fun d hd => by
    obtain ⟨g1, g2⟩ := hs.dests d hd
    refine short_line _ ?_ (by unfold destW; rw [List.length_append, List.length_map]; simp; omega)
    unfold destW
    intro x hx
    rw [List.mem_append] at hx
    rcases hx with hx | hx
    · simp only [List.mem_cons, List.not_mem_nil, or_false] at hx
      rcases hx with rfl | rfl | rfl
      · decide
      · exact g1
      · decide
    · obtain ⟨i, _, rfl⟩ := List.mem_map.1 hx
      exact nmB_len hs _
  have h5 := flat_len (fun c => lineS (checkW p.nodes p.dests c)) 20000000 p.checks fun c hc => by
    obtain ⟨_, i, d, li, o, _, _, hli, _, _, _, _, hli2⟩ := ht.checks c hc
    have q1 := nmB_len hs c.node
    have q2 := dnB_len hs c.dest
    have q3 := nmB_len hs c.other
    have q4 := decW_len li hli2
    rw [← hli] at q4
    unfold checkW
    split
    · exact short_line _ (by simp only [List.mem_cons, List.not_mem_nil, or_false]; rintro x (rfl | rfl | rfl | rfl) <;> first | assumption | decide) (by simp)
    · split
      · exact short_line _ (by simp only [List.mem_cons, List.not_mem_nil, or_false]; rintro x (rfl | rfl | rfl | rfl | rfl) <;> first | assumption | decide) (by simp)
      · split
        · exact short_line _ (by simp only [List.mem_cons, List.not_mem_nil, or_false]; rintro x (rfl | rfl | rfl | rfl | rfl) <;> first | assumption | decide) (by simp)
        · exact short_line _ (by simp only [List.mem_cons, List.not_mem_nil, or_false]; rintro x (rfl | rfl | rfl | rfl | rfl) <;> first | assumption | decide) (by simp)
  have l1 := Nat.mul_le_mul_right 20000000 hs.ln
  have l2 := Nat.mul_le_mul_right 20000000 hs.ll
  have l3 := Nat.mul_le_mul_right 20000000 hs.ld
  have l4 := Nat.mul_le_mul_right 20000000 hs.lc
  unfold textB
  simp only [List.length_append]
  omega

end Go.Proofs.Ytlfdpfkimggeoaa
namespace Go.Proofs.Ytlfdpfkimggeoaa
open Go.RowKit
set_option linter.unusedVariables false

/-- The chapter's example, and the one that may not be. -/
def exP : PPlan := ⟨1, 0, 1, [⟨⟨#[97]⟩, 1⟩, ⟨⟨#[98]⟩, 2⟩], [⟨0, 1, 3⟩], [], []⟩
def exQ : PPlan := ⟨1, 0, 2, [⟨⟨#[97]⟩, 1⟩, ⟨⟨#[98]⟩, 2⟩], [⟨0, 1, 3⟩], [], []⟩
theorem exP_small : PSmall exP := ⟨by decide, by decide, by decide, by decide, by decide, by decide⟩
theorem exQ_small : PSmall exQ := ⟨by decide, by decide, by decide, by decide, by decide, by decide⟩
theorem exP_tiny : PTiny exP :=
  ⟨⟨0, rfl, by decide⟩, ⟨1, rfl, by decide⟩, by simp only [exP, List.mem_cons, List.not_mem_nil, or_false]; rintro n (rfl | rfl); exact ⟨1, rfl, by decide⟩; exact ⟨2, rfl, by decide⟩,
    by simp only [exP, List.mem_cons, List.not_mem_nil, or_false]; rintro n rfl; exact ⟨0, 1, 3, rfl, rfl, rfl, by decide, by decide, by decide⟩, by simp [exP], by simp [exP]⟩
theorem exP_right : Hid (rightB exP = true) := Lib.hid (by kernel_rfl)
theorem exQ_right : Hid (rightB exQ = false) := Lib.hid (by kernel_rfl)
theorem exPP_same : Hid (sameB exP exP = true) := Lib.hid (by kernel_rfl)
theorem exPQ_same : Hid (sameB exP exQ = false) := Lib.hid (by kernel_rfl)
theorem exP_node : Hid (ixB (nameIs ⟨#[98]⟩) exP.nodes = 1) := Lib.hid (by kernel_rfl)
theorem exP_dest : Hid (ixB (destIs ⟨#[98]⟩) exP.dests = -1) := Lib.hid (by kernel_rfl)
theorem exP_text : (textB exP).toArray = (List.toArray (112 :: 114 :: 111 :: 116 :: 111 :: 99 :: 111 :: 108 :: 32 :: 118 :: 101 :: 99 :: 116 :: 111 :: 114 :: 59 :: 10 :: 102 :: 97 :: 105 :: 108 :: 117 :: 114 :: 101 :: 115 :: 32 :: 49 :: 59 :: 10 :: 110 :: 111 :: 100 :: 101 :: 32 :: 97 :: 32 :: 49 :: 59 :: 10 :: 110 :: 111 :: 100 :: 101 :: 32 :: 98 :: 32 :: 50 :: 59 :: 10 :: 108 :: 105 :: 110 :: 107 :: 32 :: 97 :: 32 :: 98 :: 32 :: 51 :: 59 :: 10 :: [])) := by kernel_rfl

theorem RowAt.of_blk {w : World} {g : Nat} {t : TypeId} {cs : Array Value} (h : Blk w g t cs) : RowAt w w.heap.size (some ⟨g, 0, none⟩) cs.toList := fun _ => ⟨g, rfl, h.lt, fun j u hu => by rw [h.cell, ← hu]; simp⟩
/-- The example in memory. -/
structure ExSt (w0 : World) (gn gl gp : Nat) (w : World) : Prop where
  bn : Blk w gn 56 #[.string ⟨#[97]⟩, .int .i64 1, .string ⟨#[98]⟩, .int .i64 2]
  bl : Blk w gl 53 #[.int .i64 0, .int .i64 1, .int .i64 3]
  bp : Blk w gp 29 #[.int .i64 1, .int .i64 0, .int .i64 1, .slice (some ⟨gn, 0, none⟩) 2 2, .slice (some ⟨gl, 0, none⟩) 1 1, .slice none 0 0, .slice none 0 0]
  up : Below w0.heap.size w0 w
theorem ExSt.go {w0 : World} {gn gl gp : Nat} {w w' : World} (h : ExSt w0 gn gl gp w) (hb : Below w.heap.size w w') : ExSt w0 gn gl gp w' :=
  ⟨h.bn.up hb, h.bl.up hb, h.bp.up hb, h.up.trans (hb.mono h.up.size)⟩
theorem ExSt.p {w0 : World} {gn gl gp : Nat} {w : World} (h : ExSt w0 gn gl gp w) : PAt w exP 1 0 1 (some ⟨gn, 0, none⟩) 2 (some ⟨gl, 0, none⟩) 1 none 0 none 0 :=
  ⟨rfl, rfl, rfl, rfl, rfl, rfl, rfl, RowAt.of_blk h.bn, RowAt.of_blk h.bl, ⟨[], rfl, RowAt.nil _ _ _, fun i d q e1 => by simp [exP] at e1⟩, RowAt.nil _ _ _⟩
theorem ExSt.q {w0 : World} {gn gl gp : Nat} {w : World} (h : ExSt w0 gn gl gp w) : PAt w exQ 1 0 2 (some ⟨gn, 0, none⟩) 2 (some ⟨gl, 0, none⟩) 1 none 0 none 0 :=
  ⟨rfl, rfl, rfl, rfl, rfl, rfl, rfl, RowAt.of_blk h.bn, RowAt.of_blk h.bl, ⟨[], rfl, RowAt.nil _ _ _, fun i d q e1 => by simp [exQ] at e1⟩, RowAt.nil _ _ _⟩
theorem ExSt.start (w : World) : ExSt w w.heap.size (w.heap.size + 1) (w.heap.size + 1 + 1) (((w.alloc (.cells #[.string ⟨#[97]⟩, .int .i64 1, .string ⟨#[98]⟩, .int .i64 2] 56)).alloc (.cells #[.int .i64 0, .int .i64 1, .int .i64 3] 53)).alloc (.cells #[.int .i64 1, .int .i64 0, .int .i64 1, .slice (some ⟨w.heap.size, 0, none⟩) 2 2, .slice (some ⟨w.heap.size + 1, 0, none⟩) 1 1, .slice none 0 0, .slice none 0 0] 29)) := by
  refine ⟨((Blk.new w _ _).alloc _).alloc _, ?_, ?_, ((below_new w _).trans ((below_new _ _).mono (by simp))).trans ((below_new _ _).mono (by simp; omega))⟩
  · have := Blk.new (w.alloc (.cells #[.string ⟨#[97]⟩, .int .i64 1, .string ⟨#[98]⟩, .int .i64 2] 56)) 53 #[.int .i64 0, .int .i64 1, .int .i64 3]
    rw [World.size_alloc] at this
    exact this.alloc _
  · have := Blk.new ((w.alloc (.cells #[.string ⟨#[97]⟩, .int .i64 1, .string ⟨#[98]⟩, .int .i64 2] 56)).alloc (.cells #[.int .i64 0, .int .i64 1, .int .i64 3] 53)) 29 #[.int .i64 1, .int .i64 0, .int .i64 1, .slice (some ⟨w.heap.size, 0, none⟩) 2 2, .slice (some ⟨w.heap.size + 1, 0, none⟩) 1 1, .slice none 0 0, .slice none 0 0]
    rw [World.size_alloc, World.size_alloc] at this
    exact this
/-- The other one's block. -/
def ExQ (gn gl gq : Nat) (w : World) : Prop := Blk w gq 29 #[.int .i64 1, .int .i64 0, .int .i64 2, .slice (some ⟨gn, 0, none⟩) 2 2, .slice (some ⟨gl, 0, none⟩) 1 1, .slice none 0 0, .slice none 0 0]
theorem ExQ.cell {gn gl gq : Nat} {w : World} (h : ExQ gn gl gq w) (i : Nat) : w.cell? ⟨gq, i, none⟩ = (#[.int .i64 1, .int .i64 0, .int .i64 2, .slice (some ⟨gn, 0, none⟩) 2 2, .slice (some ⟨gl, 0, none⟩) 1 1, .slice none 0 0, .slice none 0 0] : Array Value)[i]? := Blk.cell h i
theorem ExQ.go {gn gl gq : Nat} {w w' : World} (h : ExQ gn gl gq w) (hb : Below w.heap.size w w') : ExQ gn gl gq w' := Blk.up h hb

end Go.Proofs.Ytlfdpfkimggeoaa
