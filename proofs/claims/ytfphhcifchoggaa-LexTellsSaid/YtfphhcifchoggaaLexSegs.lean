/-
  Raw words as a text's parts.
-/
import Derived.Lib.QuietBelow
import Derived.Test.YtfphhcifchoggaaLexKindsW
namespace Go.Proofs.Ytfphhcifchoggaa
open Go.RowKit Go.Shelf

/-- A raw word's token. -/
def ptok (kind n : Int) (p : Nat) : Tok :=
  if pickN kind 4 = 1 then (3, pieceB kind n, 0, p) else if pickN kind 4 = 2 then (2, pieceB kind n, pickN n 65536, p) else (1, pieceB kind n, 0, p)
theorem piece_tok (kind n : Int) : PieceTok (pieceB kind n) (ptok kind n) := by
  have hk := pickN_in kind 4 (by omega)
  have hcases : pickN kind 4 = 0 ∨ pickN kind 4 = 1 ∨ pickN kind 4 = 2 ∨ pickN kind 4 = 3 := by omega
  rcases hcases with h | h | h | h
  · have hp : pieceB kind n = kws.getD (pickN n 13).toNat [] := by unfold pieceB; rw [if_pos h]
    have ht : ptok kind n = fun p => (1, pieceB kind n, 0, p) := by funext p; unfold ptok; rw [if_neg (by omega), if_neg (by omega)]
    have h13 := pickN_in n 13 (by omega)
    have hall : ∀ j, j < 13 → (kws.getD j []).all parB = true ∧ kwB (kws.getD j []) = true := by decide +kernel
    obtain ⟨e1, e2⟩ := hall (pickN n 13).toNat (by omega)
    rw [ht, hp]
    exact piece_word _ e1 (.inl e2)
  · have hp : pieceB kind n = [59] := by unfold pieceB; rw [if_neg (by omega), if_pos h]
    have ht : ptok kind n = fun p => (3, pieceB kind n, 0, p) := by funext p; unfold ptok; rw [if_pos h]
    rw [ht, hp]
    exact piece_stop
  · have hp : pieceB kind n = decB (pickN n 65536).toNat := by unfold pieceB; rw [if_neg (by omega), if_neg (by omega), if_pos h]
    have ht : ptok kind n = fun p => (2, pieceB kind n, pickN n 65536, p) := by funext p; unfold ptok; rw [if_neg (by omega), if_pos h]
    have h64 := pickN_in n 65536 (by omega)
    obtain ⟨e1, e2, _⟩ := dec_num (pickN n 65536).toNat (by omega)
    rw [ht, hp]
    exact piece_num _ e2 _ (by rw [e1]; omega) (by omega)
  · have hp : pieceB kind n = varB (pickN n 300).toNat := by unfold pieceB; rw [if_neg (by omega), if_neg (by omega), if_neg (by omega)]
    have ht : ptok kind n = fun p => (1, pieceB kind n, 0, p) := by funext p; unfold ptok; rw [if_neg (by omega), if_neg (by omega)]
    have h300 := pickN_in n 300 (by omega)
    obtain ⟨g1, _⟩ := var_all (pickN n 300).toNat (by omega)
    rw [ht, hp]
    refine piece_word _ ?_ (.inr g1)
    cases hv : varB (pickN n 300).toNat with
    | nil => rfl
    | cons c r =>
      rw [hv, nameB] at g1
      simp only [Bool.and_eq_true] at g1
      exact g1.2

theorem blank_gap (l : List Int) (i : Nat) : GapB (blankB l i) ∧ (blankB l i).length ≤ 6 := by
  have h7 : ∀ j, j < 7 → (blks.getD j []) ∈ blks ∧ (blks.getD j []).length ≤ 6 := by decide
  unfold blankB
  cases l[i]? with
  | none => exact ⟨gap_all _ (by decide), by simp⟩
  | some v =>
    have hk := pickN_in v 7 (by omega)
    obtain ⟨h1, h2⟩ := h7 (pickN v 7).toNat (by omega)
    exact ⟨gap_all _ h1, h2⟩

/-- The first k raw words, with what stands behind each. -/
def segsK (l : List (Int × Int)) (bl : List Int) : Nat → List Seg
  | 0 => []
  | k + 1 => segsK l bl k ++ (match l[k]? with | none => [] | some r => [(pieceB r.1 r.2, ptok r.1 r.2, blankB bl k)])
theorem segsK_step (l : List (Int × Int)) (bl : List Int) (k : Nat) (r : Int × Int) (h : l[k]? = some r) : segsK l bl (k + 1) = segsK l bl k ++ [(pieceB r.1 r.2, ptok r.1 r.2, blankB bl k)] := by
  rw [segsK, h]
theorem segsK_ok (l : List (Int × Int)) (bl : List Int) : ∀ k, ∀ s ∈ segsK l bl k, segOk s
  | 0, s, h => by simp [segsK] at h
  | k + 1, s, h => by
    rw [segsK, List.mem_append] at h
    rcases h with h | h
    · exact segsK_ok l bl k s h
    · cases hr : l[k]? with
      | none => rw [hr] at h; simp at h
      | some r =>
        rw [hr] at h
        simp at h
        subst h
        exact ⟨piece_tok _ _, (blank_gap bl k).1⟩
theorem segsK_len (l : List (Int × Int)) (bl : List Int) : ∀ k, (segsB (segsK l bl k)).length ≤ k * 26
  | 0 => by simp [segsK, segsB]
  | k + 1 => by
    have ih := segsK_len l bl k
    rw [segsK]
    cases hr : l[k]? with
    | none => simp; omega
    | some r =>
      rw [segsB_snoc, List.length_append, List.length_append]
      have h1 := piece_len r.1 r.2
      have h2 := (blank_gap bl k).2
      dsimp only
      omega
theorem blank_nil (k : Nat) : blankB [] k = [32] := rfl

theorem Piece_named (kind n : Int) (wk : InI kind) (wn : InI n) (y : List UInt8) (H : Hid (pieceB kind n = y)) (w : World) :
    Calls Try.prog 10 #[.int .i64 kind, .int .i64 n] w fun e w' => e = .returned (.string ⟨y.toArray⟩) ∧ Below w.heap.size w w' :=
  (Piece_any kind n wk wn w).mono fun _ _ ⟨he, hb⟩ => ⟨by rw [he, H.out], hb⟩

end Go.Proofs.Ytfphhcifchoggaa
