/-
  LexKinds, its walk.
-/
import Derived.Test.YtfphhcifchoggaaLxW
namespace Go.Proofs.Ytfphhcifchoggaa
open Go.RowKit Go.Shelf

theorem awake2_acc {B : Nat} {w0 w : World} (h : Below B w0 w) (hB : B ≤ w0.heap.size) : Calls Try.prog 9 #[] w fun e w' => e = .returned (.bool true) ∧ Below B w0 w' :=
  (awake2_any w).mono fun _ _ ⟨he, hb⟩ => ⟨he, below_up h hB hb⟩
theorem Number_acc (s : ByteArray) (hs : s.size ≤ 9223372036854775807) (q : Int) (H : Hid (numB s.data.toList = q)) {B : Nat} {w0 w : World} (hb : Below B w0 w) (hB : B ≤ w0.heap.size) :
    Calls Try.prog 18 #[.string s] w fun e w' => e = .returned (.int .i64 q) ∧ Below B w0 w' :=
  (Number_is s hs q H w).mono fun _ _ ⟨he, hw⟩ => ⟨he, below_up hb hB hw⟩

/-- Strings that were just laid out. -/
theorem strs_new (w : World) (xs : List ByteArray) (t : TypeId) (k : Nat) (x : ByteArray) (h : xs[k]? = some x) : (w.alloc (.cells (xs.map Value.string).toArray t)).cell? ⟨w.heap.size, k, none⟩ = some (.string x) := by
  rw [cell_of_row _ _ _ _ _ _ (World.alloc_heap_new w _)]
  simp [h]

/-- What is known of every raw name. -/
theorem var_all : ∀ k, k < 300 → nameB (varB k) = true ∧ nameB (varB k ++ [48]) = true ∧ nameB (varB k ++ [45]) = true ∧ (varB k).length < 12 ∧ nameB ([48] ++ varB k) = false ∧ nameB (varB k ++ [32]) = false ∧
    nameB (varB k ++ varB k ++ varB k ++ varB k ++ varB k ++ varB k ++ varB k) = false ∧ numB (varB k) = -1 := by decide +kernel

theorem var_len (k : Nat) (h : k < 300) : (varB k).length ≤ 20 := by have := (var_all k h).2.2.2.1; omega
theorem piece_len (kind n : Int) : (pieceB kind n).length ≤ 20 := by
  unfold pieceB
  split
  · have h : ∀ j, j < 13 → (kws.getD j []).length ≤ 20 := by decide
    have := pickN_in n 13 (by omega)
    exact h _ (by omega)
  · split
    · simp
    · split
      · exact decF_len 20 _
      · have := pickN_in n 300 (by omega)
        exact var_len _ (by omega)

theorem data_mk (l : List UInt8) : (ByteArray.mk l.toArray).data.toList = l := rfl
theorem data_add (a b : ByteArray) : (a ++ b).data.toList = a.data.toList ++ b.data.toList := by rw [ByteArray.data_append, Array.toList_append]

set_option maxRecDepth 100000 in
set_option maxHeartbeats 2000000 in
theorem LexKinds_walk (s : ByteArray) (ws0 : s.size ≤ 140737488351232) (a1 : Int) (w1 : InI a1) (a2 : Int) (w2 : InI a2) (w : World) :
    Calls Try.prog 8 #[.string s, .int .i64 a1, .int .i64 a2] w fun e w' => e = .returned (.bool true) ∧ Below w.heap.size w w' := by
  have ws : s.size ≤ 9223372036854775807 := by omega
  clear ws0
  obtain ⟨k, hk, h300⟩ : ∃ k : Nat, pickN a2 300 = (k : Int) ∧ k < 300 := pickN_nat a2 300 (by omega)
  obtain ⟨g1, g2, g3, g4, g5, g6, g7, g8⟩ := var_all k h300
  obtain ⟨v, hv⟩ : ∃ v, varB k = v := ⟨_, rfl⟩
  obtain ⟨x, hx⟩ : ∃ x, pieceB a1 a2 = x := ⟨_, rfl⟩
  have hxl : x.length ≤ 20 := by rw [← hx]; exact piece_len _ _
  have hb := Below.refl w.heap.size w
  rw [hv] at g1 g2 g3 g4 g5 g6 g7 g8
  have G1 := Lib.hid (show nameB (ByteArray.mk v.toArray).data.toList = true from g1)
  have G2 := Lib.hid (show nameB (ByteArray.mk v.toArray ++ ByteArray.mk #[48]).data.toList = true by rw [data_add]; exact g2)
  have G3 := Lib.hid (show nameB (ByteArray.mk v.toArray ++ ByteArray.mk #[45]).data.toList = true by rw [data_add]; exact g3)
  have G5 := Lib.hid (show nameB (ByteArray.mk #[48] ++ ByteArray.mk v.toArray).data.toList = false by rw [data_add]; exact g5)
  have G6 := Lib.hid (show nameB (ByteArray.mk v.toArray ++ ByteArray.mk #[32]).data.toList = false by rw [data_add]; exact g6)
  have G7 := Lib.hid (show nameB (ByteArray.mk v.toArray ++ ByteArray.mk v.toArray ++ ByteArray.mk v.toArray ++ ByteArray.mk v.toArray ++ ByteArray.mk v.toArray ++ ByteArray.mk v.toArray ++ ByteArray.mk v.toArray).data.toList = false by
    rw [data_add, data_add, data_add, data_add, data_add, data_add]; exact g7)
  have G8 := Lib.hid (show numB (ByteArray.mk v.toArray).data.toList = -1 from g8)
  have hvs : (ByteArray.mk v.toArray).size ≤ 12 := by rw [Lib.size_eq]; exact Nat.le_of_lt g4
  have hszG1 : (ByteArray.mk v.toArray).size ≤ 9223372036854775807 := by omega
  have NG1 := Lib.hid (Name_is (ByteArray.mk v.toArray) hszG1 true G1)
  have hszG2 : (ByteArray.mk v.toArray ++ ByteArray.mk #[48]).size ≤ 9223372036854775807 := by rw [ByteArray.size_append]; have : (ByteArray.mk #[48]).size = 1 := rfl; omega
  have NG2 := Lib.hid (Name_is (ByteArray.mk v.toArray ++ ByteArray.mk #[48]) hszG2 true G2)
  have hszG3 : (ByteArray.mk v.toArray ++ ByteArray.mk #[45]).size ≤ 9223372036854775807 := by rw [ByteArray.size_append]; have : (ByteArray.mk #[45]).size = 1 := rfl; omega
  have NG3 := Lib.hid (Name_is (ByteArray.mk v.toArray ++ ByteArray.mk #[45]) hszG3 true G3)
  have hszG5 : (ByteArray.mk #[48] ++ ByteArray.mk v.toArray).size ≤ 9223372036854775807 := by rw [ByteArray.size_append]; have : (ByteArray.mk #[48]).size = 1 := rfl; omega
  have NG5 := Lib.hid (Name_is (ByteArray.mk #[48] ++ ByteArray.mk v.toArray) hszG5 false G5)
  have hszG6 : (ByteArray.mk v.toArray ++ ByteArray.mk #[32]).size ≤ 9223372036854775807 := by rw [ByteArray.size_append]; have : (ByteArray.mk #[32]).size = 1 := rfl; omega
  have NG6 := Lib.hid (Name_is (ByteArray.mk v.toArray ++ ByteArray.mk #[32]) hszG6 false G6)
  have hszG7 : (ByteArray.mk v.toArray ++ ByteArray.mk v.toArray ++ ByteArray.mk v.toArray ++ ByteArray.mk v.toArray ++ ByteArray.mk v.toArray ++ ByteArray.mk v.toArray ++ ByteArray.mk v.toArray).size ≤ 9223372036854775807 := by simp only [ByteArray.size_append]; omega
  have NG7 := Lib.hid (Name_is (ByteArray.mk v.toArray ++ ByteArray.mk v.toArray ++ ByteArray.mk v.toArray ++ ByteArray.mk v.toArray ++ ByteArray.mk v.toArray ++ ByteArray.mk v.toArray ++ ByteArray.mk v.toArray) hszG7 false G7)
  have hszG8 : (ByteArray.mk v.toArray).size ≤ 9223372036854775807 := by omega
  clear hszG1 hszG2 hszG3 hszG5 hszG6 hszG7
  clear hvs
  have HV := Lib.hid hv
  have HX := Lib.hid hx
  have HK := Lib.hid hk
  clear g1 g2 g3 g5 g6 g7 g8 hv hx hk
  go_enter Try.func8, Try.ntmps8
  go_wp2_with (first
    | (go_at_call 9; refine (awake2_acc hb (Nat.le_refl _)).mono ?_; clear hb; rintro e w3 ⟨rfl, hb⟩)
    | (go_at_call 10; refine (Piece_is _ _ w1 w2 hb (Nat.le_refl _)).mono ?_; clear hb; rw [HX.out]; rintro e w4 ⟨rfl, hj, hb⟩; clear hj)
    | (go_at_call 22; refine (Var_is _ _ w2 HK.out h300 hb (Nat.le_refl _)).mono ?_; clear hb; rw [HV.out]; rintro e w5 ⟨rfl, hj, hb⟩; clear hj))
  obtain ⟨W, hW⟩ : ∃ W, w5.alloc (.cells #[.string s, .string ⟨x.toArray⟩, .string ⟨v.toArray⟩] 9) = W := ⟨_, rfl⟩
  have hcs : ∀ (k : Nat) (y : ByteArray), [s, ⟨x.toArray⟩, ⟨v.toArray⟩][k]? = some y → W.cell? ⟨w5.heap.size, k, none⟩ = some (.string y) := fun k y h => by rw [← hW]; exact strs_new w5 [s, ⟨x.toArray⟩, ⟨v.toArray⟩] 9 k y h
  have hws : W.heap.size = w5.heap.size + 1 := by rw [← hW]; simp
  have hbW : Below w.heap.size w W := by rw [← hW]; exact hb.alloc hb.size _
  rw [hW]
  have HCS := Lib.hid hcs
  have hlt5 : w5.heap.size < W.heap.size := by omega
  clear hcs hb hW hws
  go_loopw [21] (fun i wr => ∃ j : Nat, j ≤ 3 ∧ i = .int .i64 j ∧ Below W.heap.size W wr) (fun i _ => 3 - (intOf i).toNat)
  case atStart => exact ⟨0, by omega, rfl, Below.refl _ _⟩
  case round =>
    obtain ⟨j, hj, rfl, hb⟩ := hrel
    by_cases hlt : j < 3
    · obtain ⟨y, hy⟩ : ∃ y, [s, ⟨x.toArray⟩, ⟨v.toArray⟩][j]? = some y := ⟨_, List.getElem?_eq_getElem (by simpa using hlt)⟩
      have hc := (hb.cell (p := ⟨w5.heap.size, j, none⟩) hlt5).trans (HCS.out j y hy)
      have hys : y.size ≤ 9223372036854775807 := by
        have hm := List.mem_of_getElem? hy
        simp only [List.mem_cons, List.not_mem_nil, or_false] at hm
        rcases hm with rfl | rfl | rfl
        · exact ws
        · show x.toArray.size ≤ _; simp; omega
        · show v.toArray.size ≤ _; simp; omega
      obtain ⟨ha1, ha2⟩ := kinds_apart y.data.toList
      have hcase : (nameB y.data.toList = true ∧ numB y.data.toList = -1 ∧ kwB y.data.toList = false) ∨ (nameB y.data.toList = false ∧ 0 ≤ numB y.data.toList ∧ kwB y.data.toList = false) ∨
          (nameB y.data.toList = false ∧ numB y.data.toList = -1 ∧ kwB y.data.toList = true) ∨ (nameB y.data.toList = false ∧ numB y.data.toList = -1 ∧ kwB y.data.toList = false) := by
        have hg := num_ge y.data.toList
        cases h1 : nameB y.data.toList with
        | true => exact .inl ⟨rfl, (ha1 h1).2, (ha1 h1).1⟩
        | false =>
          cases h2 : kwB y.data.toList with
          | true => exact .inr (.inr (.inl ⟨rfl, ha2 h2, rfl⟩))
          | false =>
            by_cases h3 : 0 ≤ numB y.data.toList
            · exact .inr (.inl ⟨rfl, h3, rfl⟩)
            · exact .inr (.inr (.inr ⟨rfl, by omega, rfl⟩))
      clear hy ha1 ha2
      obtain ⟨q, hq⟩ : ∃ q, numB y.data.toList = q := ⟨_, rfl⟩
      rw [hq] at hcase
      have HQ := Lib.hid hq
      clear hq
      rcases hcase with ⟨h1, rfl, h3⟩ | ⟨h1, h2, h3⟩ | ⟨h1, rfl, h3⟩ | ⟨h1, rfl, h3⟩
      all_goals
        have H1 := Lib.hid h1
        have H3 := Lib.hid h3
        clear h1 h3
        go_wp2_with (first
          | (go_at_call 16; refine (Name_is _ hys _ H1 _).mono ?_; rintro e w4 ⟨rfl, rfl⟩)
          | (go_at_call 20; refine (Keyword_is _ _ H3 _).mono ?_; rintro e w4 ⟨rfl, rfl⟩)
          | (go_at_call 18; refine (Number_acc _ hys _ HQ hb (Nat.le_refl _)).mono ?_; clear hb; rintro e w4 ⟨rfl, hb⟩))
        refine ⟨⟨j + 1, by omega, by go_num, hb⟩, by simp only [intOf]; omega⟩
    · have hb2 := hbW.trans (hb.mono hbW.size)
      clear hb
      go_wp2_with (first
        | (go_at_call 22; refine (Var_is _ _ w2 HK.out h300 hb2 (Nat.le_refl _)).mono ?_; clear hb2; rw [HV.out]; rintro e w5 ⟨rfl, _, hb2⟩)
        | (go_at_call 16; ((with_reducible refine (NG1.out _).mono ?_); rintro e w4 ⟨rfl, rfl⟩))
        | (go_at_call 16; ((with_reducible refine (NG2.out _).mono ?_); rintro e w4 ⟨rfl, rfl⟩))
        | (go_at_call 16; ((with_reducible refine (NG3.out _).mono ?_); rintro e w4 ⟨rfl, rfl⟩))
        | (go_at_call 16; ((with_reducible refine (NG5.out _).mono ?_); rintro e w4 ⟨rfl, rfl⟩))
        | (go_at_call 16; ((with_reducible refine (NG6.out _).mono ?_); rintro e w4 ⟨rfl, rfl⟩))
        | (go_at_call 16; ((with_reducible refine (NG7.out _).mono ?_); rintro e w4 ⟨rfl, rfl⟩))
        | (go_at_call 18; ((with_reducible refine (Number_acc (ByteArray.mk v.toArray) hszG8 _ G8 hb2 (Nat.le_refl _)).mono ?_); clear hb2; rintro e w4 ⟨rfl, hb2⟩)))
      go_ret
      exact ⟨rfl, hb2⟩

end Go.Proofs.Ytfphhcifchoggaa
