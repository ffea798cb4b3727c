/-
  Are two lists the same? The document's word for layer 5.
-/
import Derived.Test.YtlfdpfkimggeoaaGrF
import Derived.Test.YtlfdpfkimggeoaaPmB
import Derived.Test.YtlfdpfkimggeoaaOf
import Derived.Test.YtlfdpfkimggeoaaList

namespace Go.Proofs.Ytlfdpfkimggeoaa
open Go.RowKit Go.Sort

/-- The links as ints. -/
def asInts (l : List Nat) : List Int := l.map fun x : Nat => (x : Int)

theorem intsAt_own {W : World} {base c : Nat} {A : Option Addr} {l : List Nat} (h : W.ownsRow base 3 1 (.slice A l.length c) l.length (intCells l)) : IntsAt W W.heap.size A (asInts l) := by
  intro hn
  have hl : 0 < l.length := by
    cases l with
    | nil => exact absurd rfl hn
    | cons x l => simp
  obtain ⟨g, cap, hv, _, hlt⟩ := h.form hl
  have hA : A = some ⟨g, 0, none⟩ := by injection hv
  subst hA
  refine ⟨_, rfl, hlt, fun j x hx => ?_⟩
  refine h.cells (g := g) rfl j _ ?_
  rw [asInts, List.getElem?_map] at hx
  rw [intCells, List.getElem?_map]
  cases hj : l[j]? with
  | none => rw [hj] at hx; cases hx
  | some y => rw [hj] at hx; simp at hx ⊢; exact hx

/-- List: a slice of a set's links. -/
def ListsAs (B : Nat) (w0 w : World) (l : List Nat) (e : Ending) (w' : World) : Prop :=
  ∃ A c, e = .returned (.slice A l.length c) ∧ IntsAt w' w'.heap.size A (asInts l) ∧ Below w.heap.size w w' ∧ Below B w0 w'
theorem asInts_len (l : List Nat) : (asInts l).length = l.length := by simp [asInts]
theorem asInts_inj {a b : List Nat} (h : asInts a = asInts b) : a = b := by
  have : ∀ x y : Nat, (x : Int) = (y : Int) → x = y := fun x y h => by omega
  exact List.map_inj_right (f := fun x : Nat => (x : Int)) (fun x y h => this x y h) |>.1 h

end Go.Proofs.Ytlfdpfkimggeoaa
namespace Go.Proofs.Ytlfdpfkimggeoaa
open Go.RowKit Go.Sort
set_option linter.unusedVariables false

theorem RowAt.ints {w : World} {B : Nat} {A : Option Addr} {L : List Nat} (h : RowAt w B A (intCells L)) : IntsAt w B A (asInts L) := fun hn => by
  obtain ⟨g, h1, h2, h3⟩ := h (fun e => hn (by
    have := congrArg List.length e
    rw [intCells, List.length_map] at this
    rw [List.eq_nil_of_length_eq_zero this]; rfl))
  refine ⟨⟨g, 0, none⟩, h1, h2, fun j x hx => ?_⟩
  rw [Addr.add_lit, Nat.zero_add]
  rw [asInts, List.getElem?_map] at hx
  cases hj : L[j]? with
  | none => rw [hj] at hx; cases hx
  | some y =>
    rw [hj] at hx
    simp at hx
    subst hx
    exact h3 j _ (by rw [intCells, List.getElem?_map, hj]; rfl)
theorem RowAt.nat {w : World} {B : Nat} {A : Option Addr} {L : List Nat} (h : RowAt w B A (intCells L)) {k i : Nat} (hi : L[k]? = some i) : ∃ g, A = some ⟨g, 0, none⟩ ∧ g < B ∧ (∀ j v, L[j]? = some v → w.cell? ⟨g, j, none⟩ = some (.int .i64 (v : Nat))) := by
  obtain ⟨g, h1, h2, h3⟩ := h (fun e => by
    have := congrArg List.length e
    rw [intCells, List.length_map] at this
    have h4 := (List.getElem?_eq_some_iff.1 hi).1
    simp at this; rw [this] at h4; simp at h4)
  exact ⟨g, h1, h2, fun j v hv => h3 j _ (by rw [intCells, List.getElem?_map, hv]; rfl)⟩

set_option maxHeartbeats 800000 in
theorem ints5_any (A1 A2 : Option Addr) (c1 c2 : Nat) (xs ys : List Int) (B : Nat) (w : World) (h1 : IntsAt w B A1 xs) (h2 : IntsAt w B A2 ys) (hm : xs.length ≤ 9223372036854775807) :
    Calls Try.prog 10 #[.slice A1 xs.length c1, .slice A2 ys.length c2] w fun e w' => e = .returned (.bool (decide (xs = ys))) ∧ ∃ n, w.drewN n = w' := by
  by_cases hl : xs.length = ys.length
  · have HL := Lib.hid hl
    have ht : (xs.length != ys.length) = false := by simp [hl]
    have ht' : ((xs.length : Int) != (ys.length : Int)) = false := by simp [hl]
    clear hl
    go_enter Try.func10, Try.ntmps10
    go_wp2
    go_loopw [5] (fun i wr => ∃ k : Nat, k ≤ xs.length ∧ i = .int .i64 k ∧ xs.take k = ys.take k ∧ ∃ n, wr = w.drewN n) (fun i _ => xs.length - (intOf i).toNat)
    case atStart => exact ⟨0, by omega, rfl, by simp, 0, rfl⟩
    case round =>
      obtain ⟨k, hk, rfl, he, nq0, rfl⟩ := hrel
      have HE := Lib.hid he
      clear he
      by_cases hlt : k < xs.length
      · have hl := HL.out
        obtain ⟨ad1, rfl, hc1⟩ := h1.at_ hlt
        obtain ⟨ad2, rfl, hc2⟩ := h2.at_ (k := k) (by omega)
        have hlt2 : k < ys.length := by omega
        obtain ⟨x, hx⟩ : ∃ x, xs[k] = x := ⟨_, rfl⟩
        obtain ⟨y, hy⟩ : ∃ y, ys[k] = y := ⟨_, rfl⟩
        rw [hx] at hc1
        rw [hy] at hc2
        have HX := Lib.hid hx
        have HY := Lib.hid hy
        clear hx hy hl h1 h2
        by_cases e : x = y
        · have hne : (x != y) = false := by simp [e]
          have HXY := Lib.hid e
          clear e
          go_wp2
          go_quiet (fail)
          go_wp2
          go_roundw
          case rel =>
            refine ⟨k + 1, by omega, by go_num, ?_, ?_⟩
            · rw [List.take_succ_eq_append_getElem hlt, List.take_succ_eq_append_getElem hlt2, HE.out, HX.out, HY.out, HXY.out]
            · exact ⟨_, rfl⟩
          case measure => simp [intOf]; omega
        · have hne : (x != y) = true := by simp [e]
          have HXY := Lib.hid e
          clear e
          go_wp2
          go_quiet (fail)
          go_wp2
          go_ret
          refine ⟨ret_bool ?_, nq0 + nq, by rw [World.drewN_drewN]⟩
          refine (decide_eq_false fun e => HXY.out ?_).symm
          rw [← HX.out, ← HY.out]
          simp only [e]
      · have HK := Lib.hid (show k = xs.length by omega)
        go_wp2
        go_ret
        refine ⟨ret_bool ?_, _, rfl⟩
        have he := HE.out
        rw [HK.out, List.take_length, HL.out, List.take_length] at he
        exact (decide_eq_true he).symm
  · have HL := Lib.hid hl
    have ht : (xs.length != ys.length) = true := by simp [hl]
    have ht' : ((xs.length : Int) != (ys.length : Int)) = true := by rw [bne_iff_ne]; omega
    clear hl
    go_enter Try.func10, Try.ntmps10
    go_wp2
    go_ret
    refine ⟨ret_bool ?_, 0, rfl⟩
    exact (decide_eq_false fun e => HL.out (by rw [e])).symm

/-- Are two lists of links the same? -/
theorem ints5_links (A1 A2 : Option Addr) (c1 c2 : Nat) (a b : List Nat) (B1 B2 : Nat) {B : Nat} {w0 w : World} (h1 : IntsAt w B1 A1 (asInts a)) (h2 : IntsAt w B2 A2 (asInts b)) (hm : a.length ≤ 1000000) (hb : Below B w0 w) :
    Calls Try.prog 10 #[.slice A1 a.length c1, .slice A2 b.length c2] w fun e w' => e = .returned (.bool (decide (a = b))) ∧ Below B w0 w' := by
  have h := ints5_any A1 A2 c1 c2 (asInts a) (asInts b) (max B1 B2) w (h1.more (Nat.le_max_left _ _)) (h2.more (Nat.le_max_right _ _)) (by rw [asInts_len]; omega)
  rw [asInts_len, asInts_len] at h
  refine h.mono fun e w' ⟨he, n, hw⟩ => ⟨?_, hw ▸ below_draws hb n⟩
  rw [he]
  congr 2
  exact decide_eq_decide.2 ⟨asInts_inj, fun h => by rw [h]⟩

theorem ints5_quiet (A1 A2 : Option Addr) (c1 c2 n1 n2 : Nat) (L M : List Nat) (r : Bool) (H : Hid (decide (L = M) = r)) (h1 : Hid (L.length = n1)) (h2 : Hid (M.length = n2)) (hm : n1 ≤ 1000000) {w : World} (r1 : RowAt w w.heap.size A1 (intCells L)) (r2 : RowAt w w.heap.size A2 (intCells M)) :
    Calls Try.prog 10 #[.slice A1 n1 c1, .slice A2 n2 c2] w fun e w' => e = .returned (.bool r) ∧ ∃ n, w' = w.drewN n := by
  have h := ints5_any A1 A2 c1 c2 (asInts L) (asInts M) w.heap.size w r1.ints r2.ints (by rw [asInts_len, h1.out]; omega)
  rw [asInts_len, asInts_len, h1.out, h2.out] at h
  refine h.mono fun e w' ⟨he, n, hw⟩ => ⟨?_, n, hw.symm⟩
  rw [he, ← H.out]
  congr 2
  exact decide_eq_decide.2 ⟨asInts_inj, fun h => by rw [h]⟩
end Go.Proofs.Ytlfdpfkimggeoaa
