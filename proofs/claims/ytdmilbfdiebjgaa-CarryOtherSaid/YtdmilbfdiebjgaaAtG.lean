/-
  Routes printed: by the package, by the document.
-/
import Derived.Lib.AppendIntMem
import Derived.IntWalk
import Derived.Maps.AppendAt
import Derived.Test.YtdmilbfdiebjgaaShelf
import Derived.Test.YtdmilbfdiebjgaaAtT
namespace Go.Proofs.Ytdmilbfdiebjgaa
open Go.RowKit
set_option linter.unusedVariables false
set_option linter.unusedSimpArgs false

/-- The library's table of powers of ten lies as its text lays it. -/
def PowTab (w : World) : Prop := Lib.TabIs Try.prog w "internal/strconv.uint64pow10" .u64 Lib.pow10Tab
theorem PowTab.on {w w' : World} (h : PowTab w) (hb : Below w.heap.size w w') : PowTab w' := Lib.tabBelow_of_tabIs h w' hb

theorem below_grow (w : World) (k : Nat) (os : Array Obj) : Below w.heap.size w (Go.Sort.grow (w.drewN k) os) :=
  ⟨rfl, rfl, rfl, by show w.heap.size ≤ (w.heap ++ os).size; rw [Array.size_append]; omega, fun j hj => by show (w.heap ++ os)[j]? = w.heap[j]?; rw [Array.getElem?_append_left hj]⟩
theorem conv_oneA (W : World) (d : Int) : (convert 108 9 (.slice (some ⟨W.heap.size, 0, none⟩) 1 1)).run Try.prog (W.alloc (.cells #[.int .u8 d] 5)) = .ok (.string ⟨#[UInt8.ofNat d.toNat]⟩) (W.alloc (.cells #[.int .u8 d] 5)) := by
  rw [run_convert_bytes_string _ _ _ _ _ _ _ Try.underlying108 Try.underlying5 Try.underlying9]
  rw [run_bytesToString _ _ 1 1 [d] (run_loadCells_list _ ⟨W.heap.size, 0, none⟩ [.int .u8 d] (cells_new W [.int .u8 d] 5))]
  rfl
def digS (n : Nat) : ByteArray := ⟨(Lib.decDigits n).toArray⟩
theorem digS_small {n : Nat} (h : n < 10) : digS n = ⟨#[48 + UInt8.ofNat (n % 10)]⟩ := by
  unfold digS; rw [dig_small h, UInt8.ofNat_add, Nat.mod_eq_of_lt h]; rfl
theorem digS_great {n : Nat} (h : ¬ n < 10) : digS n = digS (n / 10) ++ ⟨#[48 + UInt8.ofNat (n % 10)]⟩ := by
  unfold digS
  rw [dig_great h, UInt8.ofNat_add]
  apply ByteArray.ext
  simp [ByteArray.data_append]
theorem digS_size {f n : Nat} (hn : n < 10 ^ f) (h1 : 1 ≤ f) : (digS n).size ≤ f := by
  have := dig_len f n hn h1
  unfold digS
  simpa [ByteArray.size] using this
set_option maxHeartbeats 4000000 in
set_option maxRecDepth 100000 in
theorem refDigits_go : ∀ (f n : Nat) (w : World), f ≤ 20 → n < 10 ^ (f + 1) → n ≤ 65535 →
    Calls Try.prog 73 #[.int .i64 (n : Int)] w fun e w' => e = .returned (.string (digS n)) ∧ Below w.heap.size w w'
  | f, n, w, hf, hn, hm => by
    have hcv1 := conv_oneA
    have hb1 := below_new w (.cells #[.int .u8 (48 + (n : Int) % 10)] 5)
    have e1 : (48 + (n : Int) % 10).toNat = 48 + n % 10 := by omega
    by_cases h : n < 10
    · have hS := digS_small h
      have HS := Lib.hid hS
      have hge : ¬ (10 : Int) ≤ (n : Int) := by omega
      clear hS
      go_enter Try.func73, Try.ntmps73
      go_wp2
      go_ret
      exact ⟨by rw [HS.out]; rfl, hb1⟩
    · match f, hf, hn with
      | 0, _, hn => exact absurd hn (by omega)
      | f + 1, hf, hn =>
        have ih := fun w' => refDigits_go f (n / 10) w' (by omega) (by rw [Nat.pow_succ] at hn; omega) (by omega)
        have hS := digS_great h
        have hz := digS_size (f := 5) (n := n / 10) (by omega) (by omega)
        obtain ⟨s, hs⟩ : ∃ s, digS (n / 10) = s := ⟨_, rfl⟩
        rw [hs] at hS hz ih
        have HS := Lib.hid hS
        have IH := Lib.hid ih
        have hge : (10 : Int) ≤ (n : Int) := by omega
        have g1 : ¬ (9223372036854775807 < s.size + 1) := by omega
        have g2 : ((n : Int).tdiv 10) = ((n / 10 : Nat) : Int) := by rw [Int.tdiv_eq_ediv_of_nonneg (by omega)]; omega
        have g3 : IntKind.i64.wrap ((n / 10 : Nat) : Int) = ((n / 10 : Nat) : Int) := IntWalk.i64_in _ (by omega)
        clear hS ih hs
        go_enter Try.func73, Try.ntmps73
        go_wp2_with (go_at_call 73; refine (IH.out _).mono ?_; rintro e w2 ⟨rfl, hb2⟩)
        go_ret
        exact ⟨by rw [HS.out]; rfl, hb1.trans (hb2.mono hb1.size)⟩
theorem refDigits_int (n : Int) (s : ByteArray) (HS : Hid (s = ⟨(Lib.decDigits n.toNat).toArray⟩)) (h0 : 0 ≤ n) (hn : n ≤ 65535) (w : World) :
    Calls Try.prog 73 #[.int .i64 n] w fun e w' => e = .returned (.string s) ∧ Below w.heap.size w w' := by
  obtain ⟨k, rfl⟩ := Int.eq_ofNat_of_zero_le h0
  exact (refDigits_go 19 k w (by omega) (by omega) (by omega)).mono fun _ _ ⟨he, hw⟩ => ⟨by rw [he, HS.out, Int.toNat_natCast]; rfl, hw⟩

/-! ### The texts of the numbers, one after the other -/
def numsS (l : List Int) : List ByteArray := (numsW l).map fun b => ⟨b.toArray⟩
theorem numsS_take {l : List Int} {k : Nat} {x : Int} (hx : l[k]? = some x) : numsS (l.take (k + 1)) = numsS (l.take k) ++ [⟨(Lib.decDigits x.toNat).toArray⟩] := by
  unfold numsS numsW
  rw [List.take_add_one, hx]
  simp
theorem numsS_len (l : List Int) : (numsS l).length = l.length := by unfold numsS numsW; simp
theorem numsS_join (l : List Int) : Lib.join ((numsS l).map (·.data.toList)) [32] = numsJ l := by
  unfold numsJ numsS
  rw [List.map_map]
  congr 1
  exact (List.map_congr_left (g := id) (fun x _ => (rfl : _ = id x))).trans (List.map_id _)
theorem strInfoA : (Try.prog.info? 9).map (fun i => (i.zero, i.size, i.bytes)) = some (some (.string ⟨#[]⟩), 1, 16) := by kernel_rfl
theorem own_formA {w : World} {base : Nat} {e : TypeId} {size : Nat} {v : Value} {n : Nat} {xs : List Value} (h : w.ownsRow base e size v n xs) : ∃ A c, v = .slice A n c ∧ n ≤ c := by
  rcases h.2 with ⟨hv, hn⟩ | ⟨g, cap, cur, hv, hb, hg, hc, hrest⟩
  · have h1 := h.1
    subst hn
    exact ⟨none, 0, hv, Nat.le_refl _⟩
  · exact ⟨_, cap, hv, hc⟩
end Go.Proofs.Ytdmilbfdiebjgaa
