/-
  The document's Same: are two lists of tokens the same?
-/
import Derived.Deep.QuietTactic
import Derived.Laws.StructEq
import Derived.Test.YtfphhcifchoggaaLxT
namespace Go.Proofs.Ytfphhcifchoggaa
open Go.RowKit Go.Shelf

set_option maxHeartbeats 800000 in
theorem same_any (A1 A2 : Option Addr) (c1 c2 : Nat) (T U : List Tok) (B : Nat) (w : World) (h1 : CellsAt w B A1 (toksCells T)) (h2 : CellsAt w B A2 (toksCells U)) (hm : T.length ≤ 9223372036854775807) :
    Calls Try.prog 15 #[.slice A1 T.length c1, .slice A2 U.length c2] w fun e w' => e = .returned (.bool (decide (T = U))) ∧ ∃ n, w.drewN n = w' := by
  by_cases hl : T.length = U.length
  · have HL := Lib.hid hl
    have ht : (T.length != U.length) = false := by simp [hl]
    have ht' : ((T.length : Int) != (U.length : Int)) = false := by simp [hl]
    clear hl
    go_enter Try.func15, Try.ntmps15
    go_wp2
    go_loopw [5] (fun i wr => ∃ k : Nat, k ≤ T.length ∧ i = .int .i64 k ∧ T.take k = U.take k ∧ ∃ n, wr = w.drewN n) (fun i _ => T.length - (intOf i).toNat)
    case atStart => exact ⟨0, by omega, rfl, by simp, 0, rfl⟩
    case round =>
      obtain ⟨k, hk, rfl, he, nq0, rfl⟩ := hrel
      have HE := Lib.hid he
      clear he
      by_cases hlt : k < T.length
      · have hl := HL.out
        have hlt2 : k < U.length := by omega
        obtain ⟨⟨tk, tx, tn, tp⟩, hx⟩ : ∃ x, T[k]? = some x := ⟨_, List.getElem?_eq_getElem hlt⟩
        obtain ⟨⟨uk, ux, un, up⟩, hy⟩ : ∃ x, U[k]? = some x := ⟨_, List.getElem?_eq_getElem hlt2⟩
        obtain ⟨ad1, rfl, a0, a1, a2, a3⟩ := h1.tok hx
        obtain ⟨ad2, rfl, b0, b1, b2, b3⟩ := h2.tok hy
        dsimp only at a0 a1 a2 a3 b0 b1 b2 b3
        have HX := Lib.hid hx
        have HY := Lib.hid hy
        clear hx hy hl h1 h2
        go_wp2
        by_cases e : tk = uk ∧ tx = ux ∧ tn = un ∧ tp = up
        · have H := Lib.hid e
          obtain ⟨rfl, rfl, rfl, rfl⟩ := e
          go_quiet (fail)
          go_wp2
          have hxt : T.take (k + 1) = U.take (k + 1) := by
            obtain ⟨h1, h2⟩ := List.getElem?_eq_some_iff.1 HX.out
            obtain ⟨h3, h4⟩ := List.getElem?_eq_some_iff.1 HY.out
            rw [List.take_succ_eq_append_getElem h1, List.take_succ_eq_append_getElem h3, HE.out, h2, h4]
          exact ⟨⟨k + 1, by omega, by go_num, hxt, _, rfl⟩, by simp only [intOf]; omega⟩
        · have hne : T ≠ U := by
            intro e'
            have h1 := HX.out
            have h2 := HY.out
            rw [e', h2] at h1
            injection h1 with h1
            simp only [Prod.mk.injEq] at h1
            exact e ⟨h1.1.symm, h1.2.1.symm, h1.2.2.1.symm, h1.2.2.2.symm⟩
          have HNE := Lib.hid hne
          have hcase : (tk == uk) = false ∨ (tk = uk ∧ (tx == ux) = false) ∨ (tk = uk ∧ tx = ux ∧ (tn == un) = false) ∨ (tk = uk ∧ tx = ux ∧ tn = un ∧ ((tp : Int) == (up : Int)) = false) := by
            simp only [beq_eq_false_iff_ne]
            by_cases e1 : tk = uk
            · by_cases e2 : tx = ux
              · by_cases e3 : tn = un
                · exact .inr (.inr (.inr ⟨e1, e2, e3, fun h => e ⟨e1, e2, e3, by omega⟩⟩))
                · exact .inr (.inr (.inl ⟨e1, e2, e3⟩))
              · exact .inr (.inl ⟨e1, e2⟩)
            · exact .inl e1
          clear e hne
          rcases hcase with h | ⟨rfl, h⟩ | ⟨rfl, rfl, h⟩ | ⟨rfl, rfl, rfl, h⟩
          all_goals
            go_quiet (fail)
            go_wp2
            go_ret
            exact ⟨ret_bool (decide_eq_false HNE.out).symm, _, by rw [World.drewN_drewN]⟩
      · have HK := Lib.hid (show k = T.length by omega)
        go_wp2
        go_ret
        refine ⟨ret_bool ?_, _, rfl⟩
        have he := HE.out
        rw [HK.out, List.take_length, HL.out, List.take_length] at he
        exact (decide_eq_true he).symm
  · have HL := Lib.hid hl
    have ht : (T.length != U.length) = true := by simp [hl]
    have ht' : ((T.length : Int) != (U.length : Int)) = true := by rw [bne_iff_ne]; omega
    clear hl
    go_enter Try.func15, Try.ntmps15
    go_wp2
    go_ret
    refine ⟨ret_bool ?_, 0, rfl⟩
    exact (decide_eq_false fun e => HL.out (by rw [e])).symm

end Go.Proofs.Ytfphhcifchoggaa
