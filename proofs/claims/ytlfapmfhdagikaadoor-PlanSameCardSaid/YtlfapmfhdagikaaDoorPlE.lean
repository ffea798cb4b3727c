/-
  Package plan: a check that may be.
-/
import Derived.Test.YtlfapmfhdagikaaDoorPlB
import Derived.Test.YtlfapmfhdagikaaDoorPlC
namespace Go.Proofs.YtlfapmfhdagikaaDoor
open Go.RowKit

def limB (k : Int) : Int := if k = 2 then 65535 else 0
def othB (k : Int) (ln : Nat) : Int := if k = 3 ∨ k = 4 then (ln : Int) - 1 else 0
def checkB (ln ld : Nat) (c : PCheck) : Bool :=
  if c.kind = 1 ∨ c.kind = 2 ∨ c.kind = 3 ∨ c.kind = 4 then placeB c.node ln && (placeB c.dest ld && (withinB c.limit 0 (limB c.kind) && withinB c.other 0 (othB c.kind ln))) else false

set_option maxHeartbeats 2000000 in
theorem rightCheck_any (c : PCheck) (pr ca kk : Int) (An Al Ad Ac : Option Addr) (ln cn ll cl ld cd lc cc : Nat) (hn : ln ≤ 9223372036854775807) (hd : ld ≤ 9223372036854775807) (w : World) :
    Calls Tryd.prog 64 #[.agg #[.int .i64 pr, .int .i64 ca, .int .i64 kk, .slice An ln cn, .slice Al ll cl, .slice Ad ld cd, .slice Ac lc cc], .agg #[.int .i64 c.kind, .int .i64 c.node, .int .i64 c.dest, .int .i64 c.limit, .int .i64 c.other]] w fun e w' => e = .returned (.bool (checkB ln ld c)) ∧ Below w.heap.size w w' := by
  obtain ⟨k, n, d, li, ot⟩ := c
  dsimp only
  have hbb := fun (o1 o2 : Obj) => below_box (below_box (Below.refl ((w.alloc o1).alloc o2).heap.size ((w.alloc o1).alloc o2)))
  by_cases hk : k = 1 ∨ k = 2 ∨ k = 3 ∨ k = 4
  · have hcB : checkB ln ld ⟨k, n, d, li, ot⟩ = (placeB n ln && (placeB d ld && (withinB li 0 (limB k) && withinB ot 0 (othB k ln)))) := by unfold checkB; rw [if_pos hk]
    obtain ⟨b1, h1⟩ : ∃ b, placeB n ln = b := ⟨_, rfl⟩
    obtain ⟨b2, h2⟩ : ∃ b, placeB d ld = b := ⟨_, rfl⟩
    obtain ⟨b3, h3⟩ : ∃ b, withinB li 0 (limB k) = b := ⟨_, rfl⟩
    obtain ⟨b4, h4⟩ : ∃ b, withinB ot 0 (othB k ln) = b := ⟨_, rfl⟩
    rw [h1, h2, h3, h4] at hcB
    have HC := Lib.hid hcB
    have H1 := Lib.hid h1
    have H2 := Lib.hid h2
    clear hcB h1 h2
    cases b1
    · have HR : Hid (checkB ln ld ⟨k, n, d, li, ot⟩ = false) := HC.out
      clear HC h3 h4
      rcases hk with rfl | rfl | rfl | rfl
      all_goals
        go_enter Tryd.func64, Tryd.ntmps64
        go_wp2_with (go_at_call 60; refine (isPlace_is _ _ hn _ H1 _).mono ?_; rintro e w2 ⟨rfl, rfl⟩)
        go_ret
        exact ⟨ret_bool HR.out.symm, hbb _ _⟩
    cases b2
    · have HR : Hid (checkB ln ld ⟨k, n, d, li, ot⟩ = false) := HC.out
      clear HC h3 h4
      rcases hk with rfl | rfl | rfl | rfl
      all_goals
        go_enter Tryd.func64, Tryd.ntmps64
        go_wp2_with (go_at_call 60; (first | ((with_reducible refine (isPlace_is _ _ hn _ H1 _).mono ?_)) | ((with_reducible refine (isPlace_is _ _ hd _ H2 _).mono ?_))); rintro e w2 ⟨rfl, rfl⟩)
        go_ret
        exact ⟨ret_bool HR.out.symm, hbb _ _⟩
    have HR : Hid (checkB ln ld ⟨k, n, d, li, ot⟩ = (b3 && b4)) := HC.out
    clear HC
    rcases hk with rfl | rfl | rfl | rfl
    all_goals
      have H3 := Lib.hid h3
      have H4 := Lib.hid h4
      clear h3 h4
      simp only [limB, othB, Int.reduceEq, or_self, or_true, or_false, if_true, if_false] at H3 H4
      cases b3
      · go_enter Tryd.func64, Tryd.ntmps64
        go_wp2_with (first
          | (go_at_call 60; (first | ((with_reducible refine (isPlace_is _ _ hn _ H1 _).mono ?_)) | ((with_reducible refine (isPlace_is _ _ hd _ H2 _).mono ?_))); rintro e w2 ⟨rfl, rfl⟩)
          | (go_at_call 36; ((with_reducible refine (isWithin_is _ _ _ _ H3 _).mono ?_)); rintro e w2 ⟨rfl, rfl⟩))
        go_ret
        exact ⟨ret_bool HR.out.symm, hbb _ _⟩
      · go_enter Tryd.func64, Tryd.ntmps64
        go_wp2_with (first
          | (go_at_call 60; (first | ((with_reducible refine (isPlace_is _ _ hn _ H1 _).mono ?_)) | ((with_reducible refine (isPlace_is _ _ hd _ H2 _).mono ?_))); rintro e w2 ⟨rfl, rfl⟩)
          | (go_at_call 36; (first | ((with_reducible refine (isWithin_is _ _ _ _ H3 _).mono ?_)) | ((with_reducible refine (isWithin_is _ _ _ _ H4 _).mono ?_))); rintro e w2 ⟨rfl, rfl⟩))
        go_ret
        exact ⟨ret_bool (by rw [HR.out]; rfl), hbb _ _⟩
  · have H : Hid (checkB ln ld ⟨k, n, d, li, ot⟩ = false) := Lib.hid (by unfold checkB; rw [if_neg hk])
    have e1 : (k == 1) = false := by simp; omega
    have e2 : (k == 2) = false := by simp; omega
    have e3 : (k == 3) = false := by simp; omega
    have e4 : (k == 4) = false := by simp; omega
    clear hk
    go_enter Tryd.func64, Tryd.ntmps64
    go_wp2
    go_ret
    exact ⟨ret_bool H.out.symm, hbb _ _⟩

end Go.Proofs.YtlfapmfhdagikaaDoor
