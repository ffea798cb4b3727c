/-
  Routes printed: by the package, by the document.
-/
import Derived.Lib.AppendIntMem
import Derived.IntWalk
import Derived.Maps.AppendAt
import Derived.Test.YtlfdpfkimggeoaaDoorShelf
import Derived.Test.YtlfdpfkimggeoaaDoorAtT
namespace Go.Proofs.YtlfdpfkimggeoaaDoor
open Go.RowKit
set_option linter.unusedVariables false
set_option linter.unusedSimpArgs false

/-- The library's table of powers of ten lies as its text lays it. -/
def PowTab (w : World) : Prop := Lib.TabIs Tryd.prog w "internal/strconv.uint64pow10" .u64 Lib.pow10Tab
theorem PowTab.on {w w' : World} (h : PowTab w) (hb : Below w.heap.size w w') : PowTab w' := Lib.tabBelow_of_tabIs h w' hb

theorem below_grow (w : World) (k : Nat) (os : Array Obj) : Below w.heap.size w (Go.Sort.grow (w.drewN k) os) :=
  ⟨rfl, rfl, rfl, by show w.heap.size ≤ (w.heap ++ os).size; rw [Array.size_append]; omega, fun j hj => by show (w.heap ++ os)[j]? = w.heap[j]?; rw [Array.getElem?_append_left hj]⟩
theorem Itoa_nat (n : Nat) (hn : n ≤ 9223372036854775807) (w : World) (h : PowTab w) :
    Calls Tryd.prog 29 #[.int .i64 (n : Int)] w fun e w' => e = .returned (.string ⟨(Lib.decDigits n).toArray⟩) ∧ Below w.heap.size w w' :=
  (Tryd.strconv_Itoa (n : Int) (by omega) (by omega) w h).mono fun e w' ⟨he, k, os, hw⟩ => ⟨by rw [he]; unfold Lib.itoa; rw [if_neg (by omega), Int.toNat_natCast], by rw [hw]; exact below_grow w k os⟩
theorem Itoa_int (n : Int) (s : ByteArray) (HS : Hid (s = ⟨(Lib.decDigits n.toNat).toArray⟩)) (h0 : 0 ≤ n) (hn : n ≤ 9223372036854775807) (w : World) (h : PowTab w) :
    Calls Tryd.prog 29 #[.int .i64 n] w fun e w' => e = .returned (.string s) ∧ Below w.heap.size w w' := by
  obtain ⟨k, rfl⟩ := Int.eq_ofNat_of_zero_le h0
  exact (Itoa_nat k (by omega) w h).mono fun _ _ ⟨he, hw⟩ => ⟨by rw [he, HS.out, Int.toNat_natCast], hw⟩

theorem conv_oneA (W : World) (d : Int) : (convert 64 9 (.slice (some ⟨W.heap.size, 0, none⟩) 1 1)).run Tryd.prog (W.alloc (.cells #[.int .u8 d] 5)) = .ok (.string ⟨#[UInt8.ofNat d.toNat]⟩) (W.alloc (.cells #[.int .u8 d] 5)) := by
  rw [run_convert_bytes_string _ _ _ _ _ _ _ Tryd.underlying64 Tryd.underlying5 Tryd.underlying9]
  rw [run_bytesToString _ _ 1 1 [d] (run_loadCells_list _ ⟨W.heap.size, 0, none⟩ [.int .u8 d] (cells_new W [.int .u8 d] 5))]
  rfl
def digS (n : Nat) : ByteArray := ⟨(Lib.decDigits n).toArray⟩
theorem digS_small {n : Nat} (h : n < 10) : digS n = ⟨#[48 + UInt8.ofNat (n % 10)]⟩ := by
  unfold digS; rw [dig_small h, UInt8.ofNat_add, Nat.mod_eq_of_lt h]; rfl
theorem digS_great {n : Nat} (h : ¬ n < 10) : digS n = digS (n / 10) ++ ⟨#[48 + UInt8.ofNat (n % 10)]⟩ := by
  unfold digS
  rw [dig_great h, UInt8.ofNat_add]
  apply ByteArray.ext
  simp [ByteArray.data_append]
theorem digS_size {f n : Nat} (hn : n < 10 ^ f) (h1 : 1 ≤ f) : (digS n).size ≤ f := by
  have := dig_len f n hn h1
  unfold digS
  simpa [ByteArray.size] using this
/-! ### The texts of the numbers, one after the other -/
def numsS (l : List Int) : List ByteArray := (numsW l).map fun b => ⟨b.toArray⟩
theorem numsS_take {l : List Int} {k : Nat} {x : Int} (hx : l[k]? = some x) : numsS (l.take (k + 1)) = numsS (l.take k) ++ [⟨(Lib.decDigits x.toNat).toArray⟩] := by
  unfold numsS numsW
  rw [List.take_add_one, hx]
  simp
theorem numsS_len (l : List Int) : (numsS l).length = l.length := by unfold numsS numsW; simp
theorem numsS_join (l : List Int) : Lib.join ((numsS l).map (·.data.toList)) [32] = numsJ l := by
  unfold numsJ numsS
  rw [List.map_map]
  congr 1
  exact (List.map_congr_left (g := id) (fun x _ => (rfl : _ = id x))).trans (List.map_id _)
theorem strInfoA : (Tryd.prog.info? 9).map (fun i => (i.zero, i.size, i.bytes)) = some (some (.string ⟨#[]⟩), 1, 16) := by kernel_rfl
theorem own_formA {w : World} {base : Nat} {e : TypeId} {size : Nat} {v : Value} {n : Nat} {xs : List Value} (h : w.ownsRow base e size v n xs) : ∃ A c, v = .slice A n c ∧ n ≤ c := by
  rcases h.2 with ⟨hv, hn⟩ | ⟨g, cap, cur, hv, hb, hg, hc, hrest⟩
  · have h1 := h.1
    subst hn
    exact ⟨none, 0, hv, Nat.le_refl _⟩
  · exact ⟨_, cap, hv, hc⟩
theorem JoinA_own (xs : List ByteArray) (J : List UInt8) (HJ : Hid (Lib.join (xs.map (·.data.toList)) [32] = J)) {B n c : Nat} {A : Option Addr} {w : World} (ho : w.ownsRow B 9 1 (.slice A n c) n (xs.map Value.string)) (hn : xs.length = n) (hlen : J.length ≤ 140737488355328) (hm : n ≤ 4096) :
    Calls Tryd.prog 33 #[.slice A n c, .string ⟨#[32]⟩] w fun e w' => e = .returned (.string ⟨J.toArray⟩) ∧ Below w.heap.size w w' := by
  subst hn
  cases xs with
  | nil => exact (Tryd.strings_Join_none A c ⟨#[32]⟩ w).mono fun _ _ ⟨he, hw⟩ => ⟨by rw [he, ← HJ.out]; rfl, by rw [hw]; exact Below.refl _ _⟩
  | cons x xs =>
    obtain ⟨A', c', e, hc⟩ := own_formA ho
    obtain ⟨g, hg, hgb, hcell⟩ := RowAt.of_own ho (by simp)
    subst hg
    have hcc : (x :: xs).length ≤ c := by injection e with _ _ e; omega
    have h := Tryd.strings_Join g 0 c (x :: xs) ⟨#[32]⟩ w (fun j y hy => by rw [Nat.zero_add]; exact hcell j _ (by rw [List.getElem?_map, hy]; rfl)) hgb (by omega) hcc (by rw [show (⟨#[32]⟩ : ByteArray).data.toList = [32] from rfl, HJ.out]; exact hlen)
    exact h.mono fun _ _ ⟨he, hw⟩ => ⟨by rw [he]; rw [show (⟨#[32]⟩ : ByteArray).data.toList = [32] from rfl, HJ.out], hw⟩

set_option maxHeartbeats 4000000 in
set_option maxRecDepth 100000 in
theorem printPath_any (l : List Int) (A : Option Addr) (c : Nat) (w : World) (hA : CellsAt w w.heap.size A (l.map (Value.int .i64))) (h12 : l.length ≤ 12) (hin : ∀ x ∈ l, 1 ≤ x ∧ x ≤ 65535) (PT : PowTab w) :
    Calls Tryd.prog 30 #[.slice A l.length c] w fun e w' => e = .returned (.string ⟨(91 :: (numsJ l ++ [93])).toArray⟩) ∧ Below w.heap.size w w' := by
  obtain ⟨i0, hi, hz0, hz1, hz2⟩ := info_parts strInfoA
  have hJl := numsJ_len l fun x hx => (hin x hx).2
  obtain ⟨n, hn⟩ : ∃ n, l.length = n := ⟨_, rfl⟩
  rw [hn] at h12 hJl ⊢
  have HA := Lib.hid hA
  have HIN := Lib.hid hin
  have HN := Lib.hid hn
  have HPT := Lib.hid PT
  clear hA hin hn PT
  go_enter Tryd.func30, Tryd.ntmps30
  go_wp2
  go_loopw [3, 8] (fun s3 i wr => ∃ k : Nat, k ≤ n ∧ i = .int .i64 (k : Nat) ∧ wr.ownsRow w.heap.size 9 1 s3 k ((numsS (l.take k)).map Value.string) ∧ Below w.heap.size w wr) (fun _ i _ => n - (intOf i).toNat)
  case atStart => exact ⟨0, Nat.zero_le _, rfl, World.ownsRow_nil _ _ _ _, Below.refl _ _⟩
  case round =>
    obtain ⟨k, hk, rfl, hown, hbw⟩ := hrel
    by_cases hlt : k < n
    · obtain ⟨x, hx⟩ : ∃ x, l[k]? = some x := ⟨_, List.getElem?_eq_getElem (by rw [HN.out]; exact hlt)⟩
      obtain ⟨ad, rfl, hg, c0⟩ := (HA.out.on hbw).int hx
      have hxi := HIN.out x (List.mem_of_getElem? hx)
      obtain ⟨x1, x2⟩ := hxi
      obtain ⟨s, hs⟩ : ∃ s : ByteArray, s = ⟨(Lib.decDigits x.toNat).toArray⟩ := ⟨_, rfl⟩
      have hnx := numsS_take hx
      rw [← hs] at hnx
      have HS := Lib.hid hs
      have HNX := Lib.hid hnx
      have HOWN := Lib.hid hown
      clear hx hs hnx hown
      go_wp2_with (first
        | (go_at_call 29; (with_reducible refine (Itoa_int x s HS (by omega) (by omega) _ (HPT.out.on hbw)).mono ?_); rintro e w2 ⟨rfl, hb2⟩; have hbw2 := below_on hbw hb2; have hz2' := hbw2.size)
        | (at_builtin; refine wpList_append_own _ rfl _ _ 59 rfl w.heap.size 9 i0 (.string ⟨#[]⟩) 1 16 Tryd.underlying59 hi hz0 hz1 hz2 rfl (by decide) _ _ _ rfl ((own_below HOWN.out hb2).alloc _) ⟨w2.heap.size, 0, none⟩ 1 1 [.string s] rfl rfl (cell_one_new _ _ _) (by simp [Value.oneCell']) (by unfold maxLen; omega) (by omega) (by simp; omega) ?_; intro v' w4 hown4 hgrow4 _; have hbw4 := (hbw2.trans ((below_new w2 _).mono hz2')).grown hgrow4 (by simp; omega) (fun g hg => (HOWN.out.lt g hg).1)))
      go_roundw
      case rel => exact ⟨k + 1, by omega, by go_num, by rw [HNX.out, List.map_append]; exact hown4, hbw4⟩
      case measure => simp [intOf]; omega
    · have hkn : k = n := by omega
      subst hkn
      rw [List.take_of_length_le (by rw [HN.out]; exact Nat.le_refl _)] at hown
      obtain ⟨A3, c3, rfl, hc3⟩ := own_formA hown
      obtain ⟨J, hJ⟩ : ∃ J, numsJ l = J := ⟨_, rfl⟩
      have HJ := Lib.hid ((numsS_join l).trans hJ)
      rw [hJ] at hJl
      have HJ2 := Lib.hid hJ
      have HOWN := Lib.hid hown
      have HSL := Lib.hid ((numsS_len l).trans HN.out)
      obtain ⟨S, hS⟩ : ∃ S : ByteArray, S = ⟨J.toArray⟩ := ⟨_, rfl⟩
      have hSs : S.size ≤ 6 * k := by rw [hS]; simpa [ByteArray.size] using hJl
      have HSS := Lib.hid hS
      have g1 : ¬ (9223372036854775807 < 1 + S.size) := by omega
      have g2 : ¬ (9223372036854775807 < 1 + S.size + 1) := by omega
      clear hJ hown hS
      go_wp2_with (go_at_call 33; refine (JoinA_own (numsS l) J HJ HOWN.out HSL.out (by omega) (by omega)).mono ?_; rintro e w2 ⟨rfl, hb2⟩; rw [← HSS.out])
      go_ret
      refine ⟨ret_string ?_, below_on hbw hb2⟩
      rw [HSS.out, HJ2.out]
      apply ByteArray.ext
      simp [ByteArray.data_append]
end Go.Proofs.YtlfdpfkimggeoaaDoor
