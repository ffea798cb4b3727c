/-
  Tables in the laws: two of them.
-/
import Derived.Test.YtlfdpfkimggeoaaDoorTbF
namespace Go.Proofs.YtlfdpfkimggeoaaDoor
open Go.RowKit
set_option linter.unusedVariables false
set_option linter.unusedSimpArgs false


/-- Which of n things a raw number speaks of. -/
theorem pick8_any (c n : Int) (hc : InI c) (h0 : 0 < n) (hn : n ≤ 9223372036854775807) (w : World) :
    Calls Tryd.prog 9 #[.int .i64 c, .int .i64 n] w fun e w' => e = .returned (.int .i64 (pickN c n)) ∧ w = w' := by
  obtain ⟨h1, h2⟩ := hc
  have hz : ¬ n = 0 := by omega
  by_cases h : c < 0
  · have hp : pickN c n = (-(c + 1)) % n := by unfold pickN; rw [if_pos h]
    have H := Lib.hid hp
    have b1 : 0 ≤ -(c + 1) := by omega
    have b2 : -(c + 1) ≤ 9223372036854775807 := by omega
    clear hp
    go_enter Tryd.func9, Tryd.ntmps9
    go_wp2
    go_ret
    exact ⟨ret_int (by rw [H.out, ← Int.neg_tmod, Int.tmod_eq_emod_of_nonneg b1]), rfl⟩
  · have hp : pickN c n = c % n := by unfold pickN; rw [if_neg h]
    have H := Lib.hid hp
    have b1 : 0 ≤ c := by omega
    clear hp
    go_enter Tryd.func9, Tryd.ntmps9
    go_wp2
    go_ret
    exact ⟨ret_int H.out.symm, rfl⟩
theorem pick8_is (c n v : Int) (hc : InI c) (h0 : 0 < n) (hn : n ≤ 9223372036854775807) (H : Hid (pickN c n = v)) (w : World) :
    Calls Tryd.prog 9 #[.int .i64 c, .int .i64 n] w fun e w' => e = .returned (.int .i64 v) ∧ w = w' :=
  (pick8_any c n hc h0 hn w).mono fun _ _ ⟨he, hw⟩ => ⟨by rw [he, H.out], hw⟩


theorem LT.sep {w0 W W' : World} {F G : Nat → Prop} {tb : Nat} {most : Int} {l : List Rt} (h : LT w0 G tb most l W) (s : Sep F W W') (hd : ∀ k, F k → ¬ G k) (hb : ∀ k, F k → w0.heap.size ≤ k) : LT w0 G tb most l W' :=
  ⟨h.tab.sep s fun k hg hf => hd k hf hg, h.base, h.up.trans (s.below hb h.up.size)⟩
theorem BoxR.other {F G : Nat → Prop} {b : Nat} {r : Rt} {Ar : Option Addr} {n ca : Nat} {W W' : World} (h : BoxR F b r Ar n ca W) (g : BoxR G b r Ar n ca W) (s : Sep F W W') : BoxR G b r Ar n ca W' :=
  ⟨s.blk h.box h.nb, g.nb, h.at_.sep s (fun a ha => (h.na a ha).1), fun a ha => ⟨(g.na a ha).1, Nat.lt_of_lt_of_le (g.na a ha).2 s.size⟩⟩
/-- Two tables. -/
structure P2 (w0 : World) (F : Nat → Prop) (tb : Nat) (mt : Int) (lt : List Rt) (G : Nat → Prop) (ub : Nat) (mu : Int) (lu : List Rt) (W : World) : Prop where
  t : LT w0 F tb mt lt W
  u : LT w0 G ub mu lu W
  dis : ∀ k, F k → ¬ G k
section
variable {w0 W W' : World} {F G : Nat → Prop} {tb ub : Nat} {mt mu : Int} {lt lu l' : List Rt}
theorem P2.go (h : P2 w0 F tb mt lt G ub mu lu W) (hb : Below W.heap.size W W') : P2 w0 F tb mt lt G ub mu lu W' := ⟨h.t.go hb, h.u.go hb, h.dis⟩
theorem P2.drew (h : P2 w0 F tb mt lt G ub mu lu W) : P2 w0 F tb mt lt G ub mu lu W.drew := h.go ((Below.refl _ _).drew)
theorem P2.addT (h : P2 w0 F tb mt lt G ub mu lu W) {F' : Nat → Prop} (ht : LT w0 F' tb mt l' W') (e : F' = grewF F W W') (s : Sep F W W') : P2 w0 F' tb mt l' G ub mu lu W' :=
  ⟨ht, h.u.sep s h.dis h.t.base, fun k hk hg => by subst e; exact hk.elim (fun h1 => h.dis k h1 hg) (fun h1 => by have := h.u.tab.lt k hg; omega)⟩
theorem P2.addU (h : P2 w0 F tb mt lt G ub mu lu W) {G' : Nat → Prop} (hu : LT w0 G' ub mu l' W') (e : G' = grewF G W W') (s : Sep G W W') : P2 w0 F tb mt lt G' ub mu l' W' :=
  ⟨h.t.sep s (fun k hg hf => h.dis k hf hg) h.u.base, hu, fun k hk hg => by subst e; exact hg.elim (h.dis k hk) (fun h1 => by have := h.t.tab.lt k hk; omega)⟩
theorem P2.new {w1 : World} (ht : LT w0 F tb mt lt w1) (hu : LT w0 G ub mu lu W) (n : NewF G w1 W) (b : Below w1.heap.size w1 W) : P2 w0 F tb mt lt G ub mu lu W :=
  ⟨ht.go b, hu, fun k hk hg => by have := ht.tab.lt k hk; have := (n k hg).1; omega⟩
end
end Go.Proofs.YtlfdpfkimggeoaaDoor
