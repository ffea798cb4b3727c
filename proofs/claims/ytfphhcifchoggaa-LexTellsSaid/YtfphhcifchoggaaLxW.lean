/-
  The statements' own words of layer 2: blank, awake.
-/
import Derived.Test.YtfphhcifchoggaaLxV
namespace Go.Proofs.Ytfphhcifchoggaa
open Go.RowKit Go.Shelf

theorem Piece_is (kind n : Int) (wk : InI kind) (wn : InI n) {B : Nat} {w0 w : World} (hb : Below B w0 w) (hB : B ≤ w0.heap.size) :
    Calls Try.prog 10 #[.int .i64 kind, .int .i64 n] w fun e w' => e = .returned (.string ⟨(pieceB kind n).toArray⟩) ∧ Below w.heap.size w w' ∧ Below B w0 w' :=
  (Piece_any kind n wk wn w).mono fun _ _ ⟨he, hw⟩ => ⟨he, hw, below_up hb hB hw⟩

/-- What may stand between. -/
def blankB (l : List Int) (i : Nat) : List UInt8 :=
  match l[i]? with
  | none => [32]
  | some v => blks.getD (pickN v 7).toNat []
theorem blks_get (k : Nat) (h : k < 7) : blks[k]? = some (blks.getD k []) := by
  have h' : k < blks.length := h
  rw [List.getElem?_eq_getElem h', List.getD_eq_getElem?_getD, List.getElem?_eq_getElem h']; rfl

set_option maxRecDepth 100000 in
set_option maxHeartbeats 1000000 in
theorem blank_any (A : Option Addr) (c : Nat) (l : List Int) (i : Nat) (hwf : ∀ v ∈ l, InI v) (w : World) (hl : CellsAt w w.heap.size A (l.map (Value.int .i64))) :
    Calls Try.prog 11 #[.slice A l.length c, .int .i64 (i : Int)] w fun e w' => e = .returned (.string ⟨(blankB l i).toArray⟩) ∧ Below w.heap.size w w' := by
  by_cases hlt : i < l.length
  · obtain ⟨v, hv⟩ : ∃ v, l[i]? = some v := ⟨_, List.getElem?_eq_getElem hlt⟩
    obtain ⟨ad, rfl, had, hc⟩ := hl.int hv
    have wv := hwf v (List.mem_of_getElem? hv)
    obtain ⟨k, hk, hk7⟩ : ∃ k : Nat, pickN v 7 = (k : Int) ∧ k < 7 := pickN_nat v 7 (by omega)
    have KN := Lib.hid (pick2_is v 7 k 7 wv rfl (by omega) (by omega) hk)
    have hp : blankB l i = blks.getD k [] := by unfold blankB; rw [hv]; dsimp only; rw [hk, Int.toNat_natCast]
    obtain ⟨x, hx⟩ : ∃ x, blks.getD k [] = x := ⟨_, rfl⟩
    have hg := blks_get k hk7
    rw [hx] at hp hg
    obtain ⟨W, hW⟩ : ∃ W, w.alloc (.cells (blks.map fun l => Value.string ⟨l.toArray⟩).toArray 9) = W := ⟨_, rfl⟩
    have hbW : Below w.heap.size w W := by rw [← hW]; exact (Below.refl _ _).alloc (Nat.le_refl _) _
    have hcell : W.cell? ⟨w.heap.size, k, none⟩ = some (.string ⟨x.toArray⟩) := by rw [← hW]; exact texts_new w blks 9 k x hg
    have HP := Lib.hid hp
    have HW := Lib.hid hW
    have hca : (w.alloc (.cells (blks.map fun l => Value.string ⟨l.toArray⟩).toArray 9)).cell? (ad.add i) = some (.int .i64 v) := by
      rw [← hc]; exact World.cell?_alloc_lt w _ _ (by unfold Addr.add; split <;> exact had)
    simp only [blks, List.map_cons, List.map_nil] at hca
    clear hv hk hp hW hx hg wv hl
    go_enter Try.func11, Try.ntmps11
    go_wp2_with (first
      | (go_at_call 12; have hW := HW.out; simp only [blks, List.map_cons, List.map_nil] at hW; rw [hW]; clear hW; ((with_reducible refine (KN.out _).mono ?_); rintro e w2 ⟨rfl, rfl⟩)))
    go_ret
    exact ⟨ret_string (by rw [HP.out]), hbW⟩
  · have hp : blankB l i = [32] := by unfold blankB; rw [List.getElem?_eq_none (by omega)]
    have HP := Lib.hid hp
    clear hp
    go_enter Try.func11, Try.ntmps11
    go_wp2
    go_ret
    exact ⟨ret_string (by rw [HP.out]), Below.refl _ _⟩

theorem Lex_acc (s : ByteArray) (hs : s.size ≤ 9223372036854775807) {B : Nat} {w0 w : World} (hb : Below B w0 w) (hB : B ≤ w0.heap.size) :
    Calls Try.prog 13 #[.string s] w fun e w' => ∃ A c, e = .returned (.tuple #[.slice A (lexT s.data.toList).length c, .int .i64 (lexE s.data.toList), .int .i64 (lexP s.data.toList : Nat)]) ∧ CellsAt w' w'.heap.size A (toksCells (lexT s.data.toList)) ∧ Below w.heap.size w w' ∧ Below B w0 w' :=
  (Lex_any s hs w).mono fun _ _ ⟨A, c, he, hc, hw⟩ => ⟨A, c, he, hc, hw, below_up hb hB hw⟩

theorem awk1 : lexT [108, 105, 110, 107, 32, 97, 32, 98, 32, 51, 59] = [(1, [108, 105, 110, 107], 0, 0), (1, [97], 0, 5), (1, [98], 0, 7), (2, [51], 3, 9), (3, [59], 0, 10), (4, [], 0, 11)] ∧ lexE [108, 105, 110, 107, 32, 97, 32, 98, 32, 51, 59] = 0 ∧ lexP [108, 105, 110, 107, 32, 97, 32, 98, 32, 51, 59] = 0 := by decide +kernel
theorem awk2 : lexT [97, 10, 32, 48, 49] = [] ∧ lexE [97, 10, 32, 48, 49] = 21 ∧ lexP [97, 10, 32, 48, 49] = 3 := by decide +kernel

theorem lexLink {B : Nat} {w0 w : World} (hb : Below B w0 w) (hB : B ≤ w0.heap.size) :
    Calls Try.prog 13 #[.string ⟨#[108, 105, 110, 107, 32, 97, 32, 98, 32, 51, 59]⟩] w fun e w' => ∃ ad c, e = .returned (.tuple #[.slice (some ad) 6 c, .int .i64 0, .int .i64 0]) ∧ CellsAt w' w'.heap.size (some ad) (toksCells [(1, [108, 105, 110, 107], 0, 0), (1, [97], 0, 5), (1, [98], 0, 7), (2, [51], 3, 9), (3, [59], 0, 10), (4, [], 0, 11)]) ∧ Below B w0 w' := by
  refine (Lex_acc ⟨#[108, 105, 110, 107, 32, 97, 32, 98, 32, 51, 59]⟩ (by decide) hb hB).mono ?_
  rintro e w' ⟨A, c, he, hc, _, hw⟩
  obtain ⟨h1, h2, h3⟩ := awk1
  have h1' : lexT (ByteArray.mk #[108, 105, 110, 107, 32, 97, 32, 98, 32, 51, 59]).data.toList = _ := h1
  have h2' : lexE (ByteArray.mk #[108, 105, 110, 107, 32, 97, 32, 98, 32, 51, 59]).data.toList = _ := h2
  have h3' : lexP (ByteArray.mk #[108, 105, 110, 107, 32, 97, 32, 98, 32, 51, 59]).data.toList = _ := h3
  rw [h1', h2', h3'] at he
  rw [h1'] at hc
  obtain ⟨ad, rfl, _⟩ := hc (by decide)
  exact ⟨ad, c, he, hc, hw⟩
theorem lexBad {B : Nat} {w0 w : World} (hb : Below B w0 w) (hB : B ≤ w0.heap.size) :
    Calls Try.prog 13 #[.string ⟨#[97, 10, 32, 48, 49]⟩] w fun e w' => ∃ A c, e = .returned (.tuple #[.slice A 0 c, .int .i64 21, .int .i64 3]) ∧ Below w.heap.size w w' ∧ Below B w0 w' := by
  refine (Lex_acc ⟨#[97, 10, 32, 48, 49]⟩ (by decide) hb hB).mono ?_
  rintro e w' ⟨A, c, he, hc, hw1, hw⟩
  obtain ⟨h1, h2, h3⟩ := awk2
  have h1' : lexT (ByteArray.mk #[97, 10, 32, 48, 49]).data.toList = _ := h1
  have h2' : lexE (ByteArray.mk #[97, 10, 32, 48, 49]).data.toList = _ := h2
  have h3' : lexP (ByteArray.mk #[97, 10, 32, 48, 49]).data.toList = _ := h3
  rw [h1', h2', h3'] at he
  exact ⟨A, c, he, hw1, hw⟩
theorem nameX (w : World) : Calls Try.prog 16 #[.string ⟨#[120, 45, 49]⟩] w fun e w' => e = .returned (.bool true) ∧ w = w' := Name_is _ (by decide) true (Lib.hid (by decide +kernel)) w
theorem nameAt (w : World) : Calls Try.prog 16 #[.string ⟨#[97, 116]⟩] w fun e w' => e = .returned (.bool false) ∧ w = w' := Name_is _ (by decide) false (Lib.hid (by decide +kernel)) w
theorem keyAt (w : World) : Calls Try.prog 20 #[.string ⟨#[97, 116]⟩] w fun e w' => e = .returned (.bool true) ∧ w = w' := Keyword_is _ true (Lib.hid (by decide +kernel)) w
theorem num35 {B : Nat} {w0 w : World} (hb : Below B w0 w) (hB : B ≤ w0.heap.size) : Calls Try.prog 18 #[.string ⟨#[54, 53, 53, 51, 53]⟩] w fun e w' => e = .returned (.int .i64 65535) ∧ Below B w0 w' :=
  (Number_is _ (by decide) 65535 (Lib.hid (by decide +kernel)) w).mono fun _ _ ⟨he, hw⟩ => ⟨he, below_up hb hB hw⟩
theorem num36 {B : Nat} {w0 w : World} (hb : Below B w0 w) (hB : B ≤ w0.heap.size) : Calls Try.prog 18 #[.string ⟨#[54, 53, 53, 51, 54]⟩] w fun e w' => e = .returned (.int .i64 (-1)) ∧ Below B w0 w' :=
  (Number_is _ (by decide) (-1) (Lib.hid (by decide +kernel)) w).mono fun _ _ ⟨he, hw⟩ => ⟨he, below_up hb hB hw⟩

theorem linkCells {w : World} {B : Nat} {ad : Addr} (h : CellsAt w B (some ad) (toksCells [(1, [108, 105, 110, 107], 0, 0), (1, [97], 0, 5), (1, [98], 0, 7), (2, [51], 3, 9), (3, [59], 0, 10), (4, [], 0, 11)])) :
    w.cell? ad = some (.int .i64 1) ∧ w.cell? ⟨ad.block, ad.off + 12 + 2, none⟩ = some (.int .i64 3) ∧ w.cell? ⟨ad.block, ad.off + 16, none⟩ = some (.int .i64 3) ∧ w.cell? ⟨ad.block, ad.off + 20 + 3, none⟩ = some (.int .i64 11) := by
  obtain ⟨_, hA, a0, _, _, _⟩ := h.tok (k := 0) (t := (1, [108, 105, 110, 107], 0, 0)) rfl
  cases hA
  obtain ⟨_, hA, _, _, a3, _⟩ := h.tok (k := 3) (t := (2, [51], 3, 9)) rfl
  cases hA
  obtain ⟨_, hA, a4, _, _, _⟩ := h.tok (k := 4) (t := (3, [59], 0, 10)) rfl
  cases hA
  obtain ⟨_, hA, _, _, _, a5⟩ := h.tok (k := 5) (t := (4, [], 0, 11)) rfl
  cases hA
  exact ⟨a0, a3, a4, a5⟩

set_option maxRecDepth 100000 in
set_option maxHeartbeats 1000000 in
theorem awake2_any (w : World) : Calls Try.prog 9 #[] w fun e w' => e = .returned (.bool true) ∧ Below w.heap.size w w' := by
  have hb := Below.refl w.heap.size w
  go_enter Try.func9, Try.ntmps9
  go_wp2_with (first
    | (go_at_call 13; ((with_reducible refine (lexLink hb (Nat.le_refl _)).mono ?_); clear hb; rintro e w1 ⟨ad, c, rfl, hc, hb⟩))
    | (go_at_call 13; ((with_reducible refine (lexBad hb (Nat.le_refl _)).mono ?_); clear hb; rintro e w2 ⟨A2, c2, rfl, hb1, hb⟩; obtain ⟨a0, a3, a4, a5⟩ := linkCells (hc.below hb1); clear hc hb1))
    | (go_at_call 16; ((with_reducible refine (nameX _).mono ?_); rintro e w3 ⟨rfl, rfl⟩))
    | (go_at_call 16; ((with_reducible refine (nameAt _).mono ?_); rintro e w3 ⟨rfl, rfl⟩))
    | (go_at_call 20; ((with_reducible refine (keyAt _).mono ?_); rintro e w3 ⟨rfl, rfl⟩))
    | (go_at_call 18; ((with_reducible refine (num35 hb (Nat.le_refl _)).mono ?_); clear hb; rintro e w3 ⟨rfl, hb⟩))
    | (go_at_call 18; ((with_reducible refine (num36 hb (Nat.le_refl _)).mono ?_); clear hb; rintro e w3 ⟨rfl, hb⟩)))
  go_ret
  exact ⟨rfl, hb⟩

end Go.Proofs.Ytfphhcifchoggaa
