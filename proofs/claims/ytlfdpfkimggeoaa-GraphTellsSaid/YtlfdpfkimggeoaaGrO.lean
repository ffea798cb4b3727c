/-
  Package graph: a link's other end.
-/
import Derived.Test.YtlfdpfkimggeoaaPlG
namespace Go.Proofs.Ytlfdpfkimggeoaa
open Go.RowKit
set_option linter.unusedVariables false

/-- A link's other end; -1, if there is none. -/
def otherI (l : PLink) (node : Int) : Int := if node = l.a then l.b else if node = l.b then l.a else -1
theorem other_any (l : PLink) (node : Int) (w : World) :
    Calls Try.prog 37 #[.agg #[.int .i64 l.a, .int .i64 l.b, .int .i64 l.cost], .int .i64 node] w fun e w' => e = .returned (.int .i64 (otherI l node)) ∧ Below w.heap.size w w' := by
  have hbx := fun o => below_new w o
  obtain ⟨la, lb, lc⟩ := l
  by_cases h1 : node = la
  · have HR := Lib.hid (show otherI ⟨la, lb, lc⟩ node = lb by unfold otherI; rw [if_pos h1])
    have t1 : (node == la) = true := by simp [h1]
    clear h1
    go_enter Try.func37, Try.ntmps37
    go_wp2
    go_ret
    exact ⟨ret_int HR.out.symm, hbx _⟩
  · have t1 : (node == la) = false := by simp [h1]
    by_cases h2 : node = lb
    · have HR := Lib.hid (show otherI ⟨la, lb, lc⟩ node = la by unfold otherI; rw [if_neg h1, if_pos h2])
      have t2 : (node == lb) = true := by simp [h2]
      clear h1 h2
      go_enter Try.func37, Try.ntmps37
      go_wp2
      go_ret
      exact ⟨ret_int HR.out.symm, hbx _⟩
    · have HR := Lib.hid (show otherI ⟨la, lb, lc⟩ node = -1 by unfold otherI; rw [if_neg h1, if_neg h2])
      have t2 : (node == lb) = false := by simp [h2]
      clear h1 h2
      go_enter Try.func37, Try.ntmps37
      go_wp2
      go_ret
      exact ⟨ret_int HR.out.symm, hbx _⟩
theorem other_is (l : PLink) (node v : Int) (H : Hid (otherI l node = v)) (w : World) :
    Calls Try.prog 37 #[.agg #[.int .i64 l.a, .int .i64 l.b, .int .i64 l.cost], .int .i64 node] w fun e w' => e = .returned (.int .i64 v) ∧ Below w.heap.size w w' :=
  (other_any l node w).mono fun _ _ ⟨he, hw⟩ => ⟨by rw [he, H.out], hw⟩

/-- A link's other end, of a network. -/
def otherB (p : PPlan) (link node : Int) : Int := if 0 ≤ link then (match p.links[link.toNat]? with
  | some l => otherI l node
  | none => -1) else -1

theorem right_l16 {p : PPlan} (h : rightB p = true) : p.links.length ≤ 16 := by
  unfold rightB at h
  simp only [Bool.and_eq_true] at h
  obtain ⟨_, _, _, h2, _⟩ := h
  unfold linksB at h2
  simp only [Bool.and_eq_true, decide_eq_true_eq] at h2
  exact h2.1
section
variable {p : PPlan} {pr ca kk : Int} {An Al Ad Ac : Option Addr} {ln cn ll cl ld cd lc cc : Nat} {w : World}
theorem Other_no (link node : Int) (HR : Hid (rightB p = false)) (hs : PSmall p) (h : PAt w p pr ca kk An ln Al ll Ad ld Ac lc) :
    Calls Try.prog 13 #[.agg #[.int .i64 pr, .int .i64 ca, .int .i64 kk, .slice An ln cn, .slice Al ll cl, .slice Ad ld cd, .slice Ac lc cc], .int .i64 link, .int .i64 node] w fun e w' => e = .returned (.int .i64 (-1)) ∧ Below w.heap.size w w' := by
  have hbx := below_new w (.cells #[.int .i64 pr, .int .i64 ca, .int .i64 kk, .slice An ln cn, .slice Al ll cl, .slice Ad ld cd, .slice Ac lc cc] 29)
  have h0 := h.up hbx
  have k0 := Blk.new w 29 #[.int .i64 pr, .int .i64 ca, .int .i64 kk, .slice An ln cn, .slice Al ll cl, .slice Ad ld cd, .slice Ac lc cc]
  clear h
  go_enter Try.func13, Try.ntmps13
  go_wp2_with (go_at_call 33; (with_reducible refine (Right_is false HR hs h0).mono ?_); rintro e w1 ⟨rfl, hb1⟩)
  go_ret
  exact ⟨rfl, hbx.trans (hb1.mono hbx.size)⟩
theorem Other_ok (link node v : Int) (HV : Hid (otherB p link node = v)) (HR : Hid (rightB p = true)) (hs : PSmall p) (h : PAt w p pr ca kk An ln Al ll Ad ld Ac lc) :
    Calls Try.prog 13 #[.agg #[.int .i64 pr, .int .i64 ca, .int .i64 kk, .slice An ln cn, .slice Al ll cl, .slice Ad ld cd, .slice Ac lc cc], .int .i64 link, .int .i64 node] w fun e w' => e = .returned (.int .i64 v) ∧ Below w.heap.size w w' := by
  have hl16 := right_l16 HR.out
  rw [h.ll] at hl16
  have hbx := below_new w (.cells #[.int .i64 pr, .int .i64 ca, .int .i64 kk, .slice An ln cn, .slice Al ll cl, .slice Ad ld cd, .slice Ac lc cc] 29)
  have h0 := h.up hbx
  have k0 := Blk.new w 29 #[.int .i64 pr, .int .i64 ca, .int .i64 kk, .slice An ln cn, .slice Al ll cl, .slice Ad ld cd, .slice Ac lc cc]
  have hll := h.ll
  clear h
  have HV' := HV.out
  unfold otherB at HV'
  by_cases hl0 : link < 0
  · have HE : Hid ((-1 : Int) = v) := Lib.hid (by rw [if_neg (by omega)] at HV'; exact HV')
    clear HV' hll
    go_enter Try.func13, Try.ntmps13
    go_wp2_with (go_at_call 33; (with_reducible refine (Right_is true HR hs h0).mono ?_); rintro e w1 ⟨rfl, hb1⟩; have h1 := h0.up hb1; have k1 := k0.up hb1; obtain ⟨d0, d1, d2, d3, d4, d5, d6⟩ := box7 k1)
    go_ret
    exact ⟨ret_int HE.out, hbx.trans (hb1.mono hbx.size)⟩
  · obtain ⟨i, rfl⟩ := Int.eq_ofNat_of_zero_le (Int.not_lt.1 hl0)
    have n0 : (0 : Int) ≤ (i : Int) := by omega
    rw [if_pos n0, Int.toNat_natCast] at HV'
    by_cases hil : (i : Int) < (ll : Int)
    · obtain ⟨⟨la, lb, lco⟩, hl⟩ : ∃ l, p.links[i]? = some l := ⟨_, List.getElem?_eq_getElem (by omega)⟩
      have HE : Hid (otherI ⟨la, lb, lco⟩ node = v) := Lib.hid (by rw [hl] at HV'; exact HV')
      obtain ⟨g, hAl, hg, _⟩ := h0.links.link hl
      have HLK := Lib.hid hl
      clear HV' hll hl
      subst hAl
      go_enter Try.func13, Try.ntmps13
      go_wp2_with (first
        | (go_at_call 33; (with_reducible refine (Right_is true HR hs h0).mono ?_); rintro e w1 ⟨rfl, hb1⟩; have h1 := h0.up hb1; have k1 := k0.up hb1; obtain ⟨d0, d1, d2, d3, d4, d5, d6⟩ := box7 k1; obtain ⟨g', hAl', hg', c0, c1, c2⟩ := h1.links.link HLK.out; injection hAl' with hAl'; injection hAl' with hAl' _ _; subst hAl'; dsimp only at c0 c1 c2)
        | (go_at_call 37; (with_reducible refine (other_is ⟨la, lb, lco⟩ node v HE _).mono ?_); rintro e w2 ⟨rfl, hb2⟩))
      go_ret
      exact ⟨rfl, hbx.trans ((hb1.mono hbx.size).trans (hb2.mono (Nat.le_trans hbx.size hb1.size)))⟩
    · have HE : Hid ((-1 : Int) = v) := Lib.hid (by rw [List.getElem?_eq_none (by omega)] at HV'; exact HV')
      clear HV' hll
      go_enter Try.func13, Try.ntmps13
      go_wp2_with (go_at_call 33; (with_reducible refine (Right_is true HR hs h0).mono ?_); rintro e w1 ⟨rfl, hb1⟩; have h1 := h0.up hb1; have k1 := k0.up hb1; obtain ⟨d0, d1, d2, d3, d4, d5, d6⟩ := box7 k1)
      go_ret
      exact ⟨ret_int HE.out, hbx.trans (hb1.mono hbx.size)⟩
end
end Go.Proofs.Ytlfdpfkimggeoaa
