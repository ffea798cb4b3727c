/-
  Package plan: numbers within bounds, places; the protocol; who has a name.
-/
import Derived.Outline
import Derived.Test.YtlfapmfhdagikaaDoorPlA
namespace Go.Proofs.YtlfapmfhdagikaaDoor
open Go.RowKit

/-- Is a number within two bounds? -/
def withinB (n least most : Int) : Bool := decide (least ≤ n) && decide (n ≤ most)
theorem isWithin_any (n least most : Int) (w : World) :
    Calls Tryd.prog 36 #[.int .i64 n, .int .i64 least, .int .i64 most] w fun e w' => e = .returned (.bool (withinB n least most)) ∧ w = w' := by
  by_cases h1 : least ≤ n
  · by_cases h2 : n ≤ most
    · go_enter Tryd.func36, Tryd.ntmps36
      go_wp2
      go_ret
      exact ⟨ret_bool (by unfold withinB; simp [h1, h2]), rfl⟩
    · go_enter Tryd.func36, Tryd.ntmps36
      go_wp2
      go_ret
      exact ⟨ret_bool (by unfold withinB; simp [h1, h2]), rfl⟩
  · go_enter Tryd.func36, Tryd.ntmps36
    go_wp2
    go_ret
    exact ⟨ret_bool (by unfold withinB; rw [decide_eq_false (show ¬ least ≤ n by omega)]; rfl), rfl⟩
theorem isWithin_is (n least most : Int) (b : Bool) (H : Hid (withinB n least most = b)) (w : World) :
    Calls Tryd.prog 36 #[.int .i64 n, .int .i64 least, .int .i64 most] w fun e w' => e = .returned (.bool b) ∧ w = w' :=
  (isWithin_any n least most w).mono fun _ _ ⟨he, hw⟩ => ⟨by rw [he, H.out], hw⟩

/-- Is a number one of so many places? -/
def placeB (n : Int) (many : Nat) : Bool := decide (0 ≤ n) && decide (n < many)
theorem isPlace_any (n : Int) (many : Nat) (hm : many ≤ 9223372036854775807) (w : World) :
    Calls Tryd.prog 60 #[.int .i64 n, .int .i64 (many : Int)] w fun e w' => e = .returned (.bool (placeB n many)) ∧ w = w' := by
  go_enter Tryd.func60, Tryd.ntmps60
  go_wp2_with (go_at_call 36; refine (isWithin_any _ _ _ _).mono ?_; rintro e w' ⟨rfl, rfl⟩)
  go_ret
  refine ⟨ret_bool ?_, rfl⟩
  unfold withinB placeB
  congr 1
  rw [decide_eq_decide]; omega
theorem isPlace_is (n : Int) (many : Nat) (hm : many ≤ 9223372036854775807) (b : Bool) (H : Hid (placeB n many = b)) (w : World) :
    Calls Tryd.prog 60 #[.int .i64 n, .int .i64 (many : Int)] w fun e w' => e = .returned (.bool b) ∧ w = w' :=
  (isPlace_any n many hm w).mono fun _ _ ⟨he, hw⟩ => ⟨by rw [he, H.out], hw⟩

/-- Which protocol. -/
def protoB (pr ca : Int) : Bool := if pr = 1 then decide (ca = 0) else if pr = 2 then withinB ca 1 12 else false
theorem rightProto_any (pr ca kk : Int) (An Al Ad Ac : Option Addr) (ln cn ll cl ld cd lc cc : Nat) (w : World) :
    Calls Tryd.prog 35 #[.agg #[.int .i64 pr, .int .i64 ca, .int .i64 kk, .slice An ln cn, .slice Al ll cl, .slice Ad ld cd, .slice Ac lc cc]] w fun e w' => e = .returned (.bool (protoB pr ca)) ∧ Below w.heap.size w w' := by
  by_cases h1 : pr = 1
  · subst h1
    by_cases h2 : ca = 0
    · subst h2
      go_enter Tryd.func35, Tryd.ntmps35
      go_wp2
      go_ret
      exact ⟨rfl, (Below.refl _ _).alloc (Nat.le_refl _) _⟩
    · have h3 : ((ca : Int) == 0) = false := by simpa using h2
      go_enter Tryd.func35, Tryd.ntmps35
      go_wp2
      go_ret
      exact ⟨ret_bool (by unfold protoB; simp [h2]), (Below.refl _ _).alloc (Nat.le_refl _) _⟩
  · have h3 : ((pr : Int) == 1) = false := by simpa using h1
    by_cases h2 : pr = 2
    · subst h2
      clear h1 h3
      go_enter Tryd.func35, Tryd.ntmps35
      go_wp2_with (go_at_call 36; refine (isWithin_any _ _ _ _).mono ?_; rintro e w' ⟨rfl, rfl⟩)
      go_ret
      exact ⟨rfl, (Below.refl _ _).alloc (Nat.le_refl _) _⟩
    · have h4 : ((pr : Int) == 2) = false := by simpa using h2
      go_enter Tryd.func35, Tryd.ntmps35
      go_wp2
      go_ret
      exact ⟨ret_bool (by unfold protoB; rw [if_neg h1, if_neg h2]), (Below.refl _ _).alloc (Nat.le_refl _) _⟩

end Go.Proofs.YtlfapmfhdagikaaDoor
