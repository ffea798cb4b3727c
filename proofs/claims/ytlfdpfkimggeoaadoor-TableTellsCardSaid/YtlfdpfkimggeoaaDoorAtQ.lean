/-
  The order of routes: of two unlike ones just one is better; what is better than a better one is better.
-/
import Derived.Test.YtlfdpfkimggeoaaDoorAtO
namespace Go.Proofs.YtlfdpfkimggeoaaDoor
open Go.RowKit
set_option linter.unusedVariables false
set_option linter.unusedSimpArgs false

theorem cmpI_cases (x y : Int) : (x < y ∧ cmpI x y = -1) ∨ (y < x ∧ cmpI x y = 1) ∨ (x = y ∧ cmpI x y = 0) := by
  unfold cmpI
  by_cases h1 : x < y
  · exact .inl ⟨h1, by rw [if_pos h1]⟩
  · by_cases h2 : y < x
    · exact .inr (.inl ⟨h2, by rw [if_neg h1, if_pos h2]⟩)
    · exact .inr (.inr ⟨by omega, by rw [if_neg h1, if_neg h2]⟩)
theorem cmpL_self : ∀ l : List Int, cmpL l l = 0
  | [] => rfl
  | x :: l => by rw [cmpL, if_pos rfl, cmpL_self l]
theorem cmpL_neg : ∀ l m : List Int, cmpL m l = - cmpL l m
  | [], [] => rfl
  | [], _ :: _ => rfl
  | _ :: _, [] => rfl
  | x :: l, y :: m => by
    rw [cmpL, cmpL]
    by_cases h : x = y
    · rw [if_pos h, if_pos h.symm, cmpL_neg l m]
    · rw [if_neg h, if_neg (fun e => h e.symm)]
      rcases cmpI_cases x y with ⟨h1, e1⟩ | ⟨h1, e1⟩ | ⟨h1, e1⟩
      · rcases cmpI_cases y x with ⟨h2, e2⟩ | ⟨h2, e2⟩ | ⟨h2, e2⟩ <;> omega
      · rcases cmpI_cases y x with ⟨h2, e2⟩ | ⟨h2, e2⟩ | ⟨h2, e2⟩ <;> omega
      · omega
theorem cmpL_zero : ∀ l m : List Int, cmpL l m = 0 → l = m
  | [], [], _ => rfl
  | [], _ :: _, h => by cases h
  | _ :: _, [], h => by cases h
  | x :: l, y :: m, h => by
    rw [cmpL] at h
    by_cases e : x = y
    · rw [if_pos e] at h; rw [e, cmpL_zero l m h]
    · rw [if_neg e] at h
      rcases cmpI_cases x y with ⟨h1, e1⟩ | ⟨h1, e1⟩ | ⟨h1, e1⟩ <;> omega
theorem cmpL_trans : ∀ l m n : List Int, cmpL l m < 0 → cmpL m n < 0 → cmpL l n < 0
  | l, [], n, h1, h2 => by
    cases l with
    | nil => simp [cmpL] at h1
    | cons x l => simp [cmpL] at h1
  | [], y :: m, n, h1, h2 => by
    cases n with
    | nil => simp [cmpL] at h2
    | cons z n => simp [cmpL]
  | x :: l, y :: m, [], h1, h2 => by simp [cmpL] at h2
  | x :: l, y :: m, z :: n, h1, h2 => by
    rw [cmpL] at h1 h2 ⊢
    by_cases e1 : x = y
    · by_cases e2 : y = z
      · rw [if_pos e1] at h1
        rw [if_pos e2] at h2
        rw [if_pos (e1.trans e2)]
        exact cmpL_trans l m n h1 h2
      · rw [if_neg e2] at h2
        rw [if_neg (by rw [e1]; exact e2), e1]; exact h2
    · by_cases e2 : y = z
      · rw [if_neg e1] at h1
        rw [if_neg (by rw [← e2]; exact e1), ← e2]; exact h1
      · rw [if_neg e1] at h1
        rw [if_neg e2] at h2
        have a1 : x < y := by rcases cmpI_cases x y with ⟨h, e⟩ | ⟨h, e⟩ | ⟨h, e⟩ <;> omega
        have a2 : y < z := by rcases cmpI_cases y z with ⟨h, e⟩ | ⟨h, e⟩ | ⟨h, e⟩ <;> omega
        rw [if_neg (by omega)]
        rcases cmpI_cases x z with ⟨h, e⟩ | ⟨h, e⟩ | ⟨h, e⟩ <;> omega

/-- Ahead by kind, or of one kind by length, or as long and ahead by numbers. -/
theorem better_iff {a b : Rt} : rtBetter a b = true ↔ (a.kind ≠ b.kind ∧ rtAhead a < rtAhead b) ∨ (a.kind = b.kind ∧ (rtLen a < rtLen b ∨ (rtLen a = rtLen b ∧ cmpL a.path b.path < 0))) := by
  unfold rtBetter
  by_cases hk : a.kind = b.kind
  · rw [if_pos hk]
    by_cases hl : rtLen a = rtLen b
    · rw [if_pos hl, decide_eq_true_eq]
      constructor
      · intro h; exact .inr ⟨hk, .inr ⟨hl, h⟩⟩
      · rintro (⟨h, _⟩ | ⟨_, h | ⟨_, h⟩⟩)
        · exact absurd hk h
        · omega
        · exact h
    · rw [if_neg hl, decide_eq_true_eq]
      constructor
      · intro h; exact .inr ⟨hk, .inl h⟩
      · rintro (⟨h, _⟩ | ⟨_, h | ⟨h, _⟩⟩)
        · exact absurd hk h
        · exact h
        · exact absurd h hl
  · rw [if_neg hk, decide_eq_true_eq]
    constructor
    · intro h; exact .inl ⟨hk, h⟩
    · rintro (⟨_, h⟩ | ⟨h, _⟩)
      · exact h
      · exact absurd h hk
theorem ahead_inj {a b : Rt} (ha : rtRight a = true) (hb : rtRight b = true) (h : rtAhead a = rtAhead b) : a.kind = b.kind := by
  have h1 := rtRight_kind ha
  have h2 := rtRight_kind hb
  unfold rtAhead aheadV at h
  by_cases a0 : a.kind = 0
  · rw [if_pos a0] at h
    by_cases b0 : b.kind = 0
    · omega
    · rw [if_neg b0] at h
      split at h <;> omega
  · rw [if_neg a0] at h
    by_cases a2 : a.kind = 2
    · rw [if_pos a2] at h
      by_cases b0 : b.kind = 0
      · rw [if_pos b0] at h; omega
      · rw [if_neg b0] at h
        by_cases b2 : b.kind = 2
        · omega
        · rw [if_neg b2] at h; omega
    · rw [if_neg a2] at h
      by_cases b0 : b.kind = 0
      · rw [if_pos b0] at h; omega
      · rw [if_neg b0] at h
        by_cases b2 : b.kind = 2
        · rw [if_pos b2] at h; omega
        · omega
theorem same_iff {a b : Rt} : rtSame a b = true ↔ a = b := by
  obtain ⟨k, c, l⟩ := a
  obtain ⟨k', c', l'⟩ := b
  unfold rtSame
  simp only [Bool.and_eq_true, decide_eq_true_eq, Rt.mk.injEq]
theorem same_len_same {a b : Rt} (ha : rtRight a = true) (hb : rtRight b = true) (hk : a.kind = b.kind) (hl : rtLen a = rtLen b) (hc : cmpL a.path b.path = 0) : a = b := by
  have hp := cmpL_zero _ _ hc
  obtain ⟨k, c, l⟩ := a
  obtain ⟨k', c', l'⟩ := b
  dsimp only at hk hp
  subst hk hp
  have : c = c' := by
    unfold rtRight at ha hb
    unfold rtLen lenV at hl
    dsimp only at ha hb hl
    by_cases h0 : k = 0
    · rw [if_pos h0] at ha hb
      simp only [Bool.and_eq_true, decide_eq_true_eq] at ha hb
      omega
    · rw [if_neg h0] at ha hb
      by_cases h1 : k = 1
      · rw [if_pos h1, if_pos h1] at hl; exact hl
      · rw [if_neg h1] at ha hb
        by_cases h2 : k = 2
        · rw [if_pos h2] at ha hb
          simp only [Bool.and_eq_true, decide_eq_true_eq] at ha hb
          omega
        · rw [if_neg h2] at ha; cases ha
  rw [this]
theorem better_irrefl (a : Rt) : rtBetter a a = false := by
  rw [← Bool.not_eq_true, better_iff]
  rintro (⟨h, _⟩ | ⟨_, h | ⟨_, h⟩⟩)
  · exact h rfl
  · omega
  · rw [cmpL_self] at h; omega
theorem better_asym {a b : Rt} (h1 : rtBetter a b = true) : rtBetter b a = false := by
  rw [← Bool.not_eq_true]
  rw [better_iff] at h1 ⊢
  have hn := cmpL_neg a.path b.path
  rcases h1 with ⟨h, h'⟩ | ⟨h, h' | ⟨h', h''⟩⟩
  · rintro (⟨g, g'⟩ | ⟨g, _⟩)
    · omega
    · exact h g.symm
  · rintro (⟨g, g'⟩ | ⟨g, g' | ⟨g', g''⟩⟩)
    · exact g h.symm
    · omega
    · omega
  · rintro (⟨g, g'⟩ | ⟨g, g' | ⟨g', g''⟩⟩)
    · exact g h.symm
    · omega
    · omega
theorem better_total {a b : Rt} (ha : rtRight a = true) (hb : rtRight b = true) (h : a ≠ b) : rtBetter a b = true ∨ rtBetter b a = true := by
  rw [better_iff, better_iff]
  by_cases hk : a.kind = b.kind
  · have hn := cmpL_neg a.path b.path
    by_cases hl : rtLen a = rtLen b
    · have hc : cmpL a.path b.path ≠ 0 := fun hc => h (same_len_same ha hb hk hl hc)
      by_cases hc1 : cmpL a.path b.path < 0
      · exact .inl (.inr ⟨hk, .inr ⟨hl, hc1⟩⟩)
      · exact .inr (.inr ⟨hk.symm, .inr ⟨hl.symm, by omega⟩⟩)
    · by_cases hl1 : rtLen a < rtLen b
      · exact .inl (.inr ⟨hk, .inl hl1⟩)
      · exact .inr (.inr ⟨hk.symm, .inl (by omega)⟩)
  · have : rtAhead a ≠ rtAhead b := fun e => hk (ahead_inj ha hb e)
    by_cases h1 : rtAhead a < rtAhead b
    · exact .inl (.inl ⟨hk, h1⟩)
    · exact .inr (.inl ⟨fun e => hk e.symm, by omega⟩)
theorem better_trans {a b c : Rt} (h1 : rtBetter a b = true) (h2 : rtBetter b c = true) : rtBetter a c = true := by
  rw [better_iff] at h1 h2 ⊢
  have heq : a.kind = b.kind → rtAhead a = rtAhead b := fun e => by unfold rtAhead; rw [e]
  have heq2 : b.kind = c.kind → rtAhead b = rtAhead c := fun e => by unfold rtAhead; rw [e]
  have heq3 : a.kind = c.kind → rtAhead a = rtAhead c := fun e => by unfold rtAhead; rw [e]
  rcases h1 with ⟨h, h'⟩ | ⟨h, h'⟩
  · rcases h2 with ⟨g, g'⟩ | ⟨g, g'⟩
    · refine .inl ⟨fun e => ?_, by omega⟩
      have := heq3 e; omega
    · have := heq2 g
      refine .inl ⟨fun e => h (e.trans g.symm), by omega⟩
  · rcases h2 with ⟨g, g'⟩ | ⟨g, g'⟩
    · have := heq h
      exact .inl ⟨fun e => g (h.symm.trans e), by omega⟩
    · refine .inr ⟨h.trans g, ?_⟩
      rcases h' with h' | ⟨h', h''⟩
      · rcases g' with g' | ⟨g', g''⟩
        · exact .inl (by omega)
        · exact .inl (by omega)
      · rcases g' with g' | ⟨g', g''⟩
        · exact .inl (by omega)
        · exact .inr ⟨by omega, cmpL_trans _ _ _ h'' g''⟩
theorem better_same {a b : Rt} (ha : rtRight a = true) (hb : rtRight b = true) : (rtBetter a b || rtBetter b a) = !rtSame a b := by
  by_cases h : a = b
  · subst h
    rw [better_irrefl, same_iff.2 rfl]; rfl
  · have hs : rtSame a b = false := by rw [← Bool.not_eq_true, same_iff]; exact h
    rw [hs]
    rcases better_total ha hb h with e | e <;> simp [e]

/-! ### A route that Route makes, in a box -/
structure RB (w : World) (g : Nat) (r : Rt) (A : Option Addr) (n c : Nat) (W : World) : Prop where
  blk : Blk W g 25 #[.int .i64 r.kind, .int .i64 r.cost, .slice A n c]
  at_ : RtAt W r A n
  up : Below w.heap.size w W
  tab : PowTab W
section
variable {w : World} {g : Nat} {r : Rt} {A : Option Addr} {n c : Nat} {W W' : World}
theorem RB.go (h : RB w g r A n c W) (hb : Below W.heap.size W W') : RB w g r A n c W' := ⟨h.blk.up hb, h.at_.on hb, below_on h.up hb, h.tab.on hb⟩
theorem RB.alloc (h : RB w g r A n c W) (o : Obj) : RB w g r A n c (W.alloc o) := h.go (below_new _ _)
theorem RB.drew (h : RB w g r A n c W) : RB w g r A n c W.drew := h.go ((Below.refl _ _).drew)
theorem RB.cells (h : RB w g r A n c W) : W.cell? ⟨g, 0, none⟩ = some (.int .i64 r.kind) ∧ W.cell? ⟨g, 1, none⟩ = some (.int .i64 r.cost) ∧ W.cell? ⟨g, 2, none⟩ = some (.slice A n c) := ⟨h.blk.cell 0, h.blk.cell 1, h.blk.cell 2⟩
/-- Route's answer in its box. -/
theorem RB.new {w1 : World} (hu : Below w.heap.size w w1) (hT : PowTab w) (hb : Below w1.heap.size w1 W) (h : RtAt W r A n) : RB w W.heap.size r A n c (W.alloc (.cells #[.int .i64 r.kind, .int .i64 r.cost, .slice A n c] 25)) :=
  ⟨Blk.new _ _ _, h.box _, below_on (below_on hu hb) (below_new _ _), hT.on (below_on (below_on hu hb) (below_new _ _))⟩
end
/-- Route's answer, as letters. -/
theorem Route_is (l : List Int) (r : Rt) (HR : Hid (rtOf l = r)) (n m : Nat) (HN : Hid (r.path.length = n)) (HL : Hid (l.length = m)) (hwf : ∀ v ∈ l, InI v) {A : Option Addr} {c : Nat} (hm : m ≤ 9223372036854775807) {w : World} (hA : CellsAt w w.heap.size A (l.map (Value.int .i64))) :
    Calls Tryd.prog 12 #[.slice A m c] w fun e w' => ∃ Ar cr, e = .returned (.agg #[.int .i64 r.kind, .int .i64 r.cost, .slice Ar n cr]) ∧ RtAt w' r Ar n ∧ n ≤ cr ∧ Below w.heap.size w w' := by
  have h1 := HR.out
  have h2 := HN.out
  have h3 := HL.out
  subst h1 h2 h3
  exact (Route_any l hwf A c hm w hA).mono fun e w' ⟨Ar, cr, he, ho, hle, hb⟩ => ⟨Ar, cr, he, ⟨rfl, (RowAt.of_own ho).cells, by have := rt_len (rtOf_right l); omega⟩, hle, hb⟩
end Go.Proofs.YtlfdpfkimggeoaaDoor
