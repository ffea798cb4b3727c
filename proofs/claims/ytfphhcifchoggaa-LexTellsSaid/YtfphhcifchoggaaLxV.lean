/-
  The statements' own words of layer 2: pick, decimal, Var, Piece, blank.
-/
import Derived.Deep.RegionWith
import Derived.IntWalk
import Derived.Test.YtfphhcifchoggaaLxE
import Derived.Test.YtfphhcifchoggaaLxMathC
namespace Go.Proofs.Ytfphhcifchoggaa
open Go.RowKit Go.Shelf

set_option maxHeartbeats 400000 in
theorem pick2_any (c n : Int) (w : World) (hn : 0 < n) (h1 : -9223372036854775808 ≤ c) (h2 : c ≤ 9223372036854775807) (h3 : n ≤ 9223372036854775807) :
    Calls Try.prog 12 #[.int .i64 c, .int .i64 n] w fun e w' => e = .returned (.int .i64 (pickN c n)) ∧ w = w' := by
  by_cases hc : c < 0
  · have e : pickN c n = (-(c + 1)) % n := by unfold pickN; rw [if_pos hc]
    rw [e]
    go_enter Try.func12, Try.ntmps12
    go_wp2
    go_ret
    exact ⟨ret_int (by rw [← Int.neg_tmod, Int.tmod_eq_emod_of_nonneg (by omega)]), rfl⟩
  · have e : pickN c n = c % n := by unfold pickN; rw [if_neg hc]
    rw [e]
    go_enter Try.func12, Try.ntmps12
    go_wp2
    go_ret
    exact ⟨rfl, rfl⟩
/-- pick, its answer named. -/
theorem pick2_is (c : Int) (n v : Nat) (b : Int) (w0 : -9223372036854775808 ≤ c ∧ c ≤ 9223372036854775807) (hb : b = (n : Int)) (hn : 0 < n) (h3 : n ≤ 1000000) (hv : pickN c n = (v : Int)) (w : World) :
    Calls Try.prog 12 #[.int .i64 c, .int .i64 b] w fun e w' => e = .returned (.int .i64 (v : Int)) ∧ w = w' := by
  subst hb
  exact hv ▸ pick2_any c n w (by omega) w0.1 w0.2 (by omega)

theorem pick2_at (c n v : Int) (w0 : -9223372036854775808 ≤ c ∧ c ≤ 9223372036854775807) (hn : 0 < n) (h3 : n ≤ 1000000) (hv : pickN c n = v) (w : World) :
    Calls Try.prog 12 #[.int .i64 c, .int .i64 n] w fun e w' => e = .returned (.int .i64 v) ∧ w = w' :=
  hv ▸ pick2_any c n w hn w0.1 w0.2 (by omega)

/-- One byte as a text. -/
theorem conv_one (W : World) (d : Int) : (convert 50 9 (.slice (some ⟨W.heap.size, 0, none⟩) 1 1)).run Try.prog (W.alloc (.cells #[.int .u8 d] 5)) = .ok (.string ⟨#[UInt8.ofNat d.toNat]⟩) (W.alloc (.cells #[.int .u8 d] 5)) := by
  rw [run_convert_bytes_string _ _ _ _ _ _ _ Try.underlying50 Try.underlying5 Try.underlying9]
  rw [run_bytesToString _ _ 1 1 [d] (run_loadCells_list _ ⟨W.heap.size, 0, none⟩ [.int .u8 d] (cells_new W [.int .u8 d] 5))]
  rfl

theorem dec_step (f n : Nat) (h : ¬ n < 10) : (⟨(decF f (n / 10)).toArray⟩ : ByteArray) ++ ⟨#[48 + UInt8.ofNat (n % 10)]⟩ = ⟨(decF (f + 1) n).toArray⟩ := by
  rw [decF, if_neg h, UInt8.ofNat_add]
  exact ByteArray.mk_append_mk _ [_]

set_option maxHeartbeats 800000 in
theorem decimal_aux : ∀ (f n : Nat) (w : World), n < 10 ^ f → n ≤ 1000000 → 1 ≤ f → f ≤ 1000 →
    Calls Try.prog 23 #[.int .i64 (n : Int)] w fun e w' => e = .returned (.string ⟨(decF f n).toArray⟩) ∧ Below w.heap.size w w'
  | 0, n, w, _, _, h, _ => absurd h (by omega)
  | f + 1, n, w, hf, hn, _, hf1 => by
    have hcv := conv_one
    by_cases h10 : n < 10
    · have e : decF (f + 1) n = [UInt8.ofNat (48 + n)] := by rw [decF, if_pos h10]
      have E := Lib.hid e
      have hmod : (n : Int) % 10 = n := by omega
      clear e
      go_enter Try.func23, Try.ntmps23
      go_wp2_with fail
      go_ret
      refine ⟨ret_string ?_, (Below.refl _ w).alloc (Nat.le_refl _) _⟩
      rw [E.out]
    · have ih := decimal_aux f (n / 10) (w.alloc (.cells #[.int .u8 (48 + (n : Int) % 10)] 5)) (by rw [Nat.pow_succ] at hf; omega) (by omega) (by
        rcases Nat.eq_zero_or_pos f with h | h
        · subst h; simp at hf; omega
        · exact h) (by omega)
      have hln := decF_len f (n / 10)
      have e := dec_step f n h10
      have IH := Lib.hid ih
      have E := Lib.hid e
      clear ih e
      go_enter Try.func23, Try.ntmps23
      go_wp2_with (go_at_call 23; refine IH.out.mono ?_; rintro e w' ⟨rfl, hb⟩)
      go_ret
      refine ⟨ret_string E.out, ?_⟩
      exact ((Below.refl _ w).alloc (Nat.le_refl _) _).trans (hb.mono (by simp))
theorem decimal_any (n : Nat) (hn : n ≤ 1000000) {B : Nat} {w0 w : World} (hb : Below B w0 w) (hB : B ≤ w0.heap.size) :
    Calls Try.prog 23 #[.int .i64 (n : Int)] w fun e w' => e = .returned (.string ⟨(decB n).toArray⟩) ∧ Below w.heap.size w w' ∧ Below B w0 w' :=
  (decimal_aux 20 n w (by omega) hn (by omega) (by omega)).mono fun _ _ ⟨he, hw⟩ => ⟨he, hw, below_up hb hB hw⟩

/-- Names' beginnings; a name. -/
def vars : List (List UInt8) := [[97], [66], [110, 111, 100, 101, 115], [65, 116], [120, 45, 49], [121, 95]]
def varB (k : Nat) : List UInt8 := vars.getD (k % 6) [] ++ decB (k / 6)

theorem vars_get (k : Nat) : vars[k % 6]? = some (vars.getD (k % 6) []) := by
  have h : k % 6 < vars.length := Nat.mod_lt _ (by decide)
  rw [List.getElem?_eq_getElem h, List.getD_eq_getElem?_getD, List.getElem?_eq_getElem h]; rfl
theorem dec_any (n : Nat) (hn : n ≤ 1000000) (w : World) :
    Calls Try.prog 23 #[.int .i64 (n : Int)] w fun e w' => e = .returned (.string ⟨(decB n).toArray⟩) ∧ Below w.heap.size w w' := decimal_aux 20 n w (by omega) hn (by omega) (by omega)

set_option maxRecDepth 100000 in
set_option maxHeartbeats 1000000 in
theorem Var_any (n : Int) (k : Nat) (w0' : -9223372036854775808 ≤ n ∧ n ≤ 9223372036854775807) (hk : pickN n 300 = (k : Int)) (h300 : k < 300) (w : World) :
    Calls Try.prog 22 #[.int .i64 n] w fun e w' => e = .returned (.string ⟨(varB k).toArray⟩) ∧ Below w.heap.size w w' := by
  have K := Lib.hid (pick2_is n 300 k 300 w0' rfl (by omega) (by omega) hk)
  have hdl : (decB (k / 6)).length ≤ 20 := decF_len 20 _
  obtain ⟨j, hj⟩ : ∃ j, k % 6 = j := ⟨_, rfl⟩
  have hj6 : j < 6 := by omega
  obtain ⟨x, hx⟩ : ∃ x, vars.getD j [] = x := ⟨_, rfl⟩
  have hg := vars_get k
  rw [hj, hx] at hg
  have hcell : ∀ W : World, (W.alloc (.cells #[.string ⟨#[97]⟩, .string ⟨#[66]⟩, .string ⟨#[110, 111, 100, 101, 115]⟩, .string ⟨#[65, 116]⟩, .string ⟨#[120, 45, 49]⟩, .string ⟨#[121, 95]⟩] 9)).cell? ⟨W.heap.size, j, none⟩ = some (.string ⟨x.toArray⟩) := fun W => texts_new W vars 9 j x hg
  have hlit : (#[Value.string ⟨#[97]⟩, .string ⟨#[66]⟩, .string ⟨#[110, 111, 100, 101, 115]⟩, .string ⟨#[65, 116]⟩, .string ⟨#[120, 45, 49]⟩, .string ⟨#[121, 95]⟩] : Array Value)[j]? = some (.string ⟨x.toArray⟩) := by
    have h := hcell default
    rw [cell_of_row _ _ _ _ _ _ (World.alloc_heap_new _ _)] at h
    exact h
  have hxl : x.length ≤ 5 := by
    have h : ∀ j, j < 6 → (vars.getD j []).length ≤ 5 := by decide
    rw [← hx]; exact h _ hj6
  have hv : varB k = x ++ decB (k / 6) := by unfold varB; rw [hj, hx]
  have HV := Lib.hid hv
  have hm : (k : Int).tmod 6 = (j : Int) := by rw [Int.tmod_eq_emod_of_nonneg (by omega)]; omega
  have hd : IntKind.i64.wrap ((k : Int) / 6) = (k : Int) / 6 := IntWalk.i64_in _ (by omega)
  have hB : ∀ W : World, Calls Try.prog 23 #[.int .i64 ((k : Int) / 6)] W fun e w' => e = .returned (.string ⟨(decB (k / 6)).toArray⟩) ∧ Below W.heap.size W w' := fun W => by
    have h := dec_any (k / 6) (by omega) W
    rw [show ((k / 6 : Nat) : Int) = (k : Int) / 6 by omega] at h
    exact h
  have hA : Calls Try.prog 23 #[.int .i64 ((k : Int) / 6)] (w.alloc (.cells #[.string ⟨#[97]⟩, .string ⟨#[66]⟩, .string ⟨#[110, 111, 100, 101, 115]⟩, .string ⟨#[65, 116]⟩, .string ⟨#[120, 45, 49]⟩, .string ⟨#[121, 95]⟩] 9)).drew fun e w' => e = .returned (.string ⟨(decB (k / 6)).toArray⟩) ∧ Below w.heap.size w w' ∧ w'.cell? ⟨w.heap.size, j, none⟩ = some (.string ⟨x.toArray⟩) :=
    (hB _).mono fun e w' h => ⟨h.1, ((Below.refl w.heap.size w).alloc (Nat.le_refl _) _).drew.trans (h.2.mono (by simp)), (h.2.cell (p := ⟨w.heap.size, j, none⟩) (by simp)).trans (hcell w)⟩
  have hC : Calls Try.prog 23 #[.int .i64 ((k : Int) / 6)] w.drew fun e w' => e = .returned (.string ⟨(decB (k / 6)).toArray⟩) ∧ Below w.heap.size w w' := (hB w.drew).mono fun e w' h => ⟨h.1, (Below.refl w.heap.size w).drew.trans h.2⟩
  have HA := Lib.hid hA
  have HC := Lib.hid hC
  clear hA hB hC
  clear hk hj hv hx hg
  go_enter Try.func22, Try.ntmps22
  go_wp2_with (go_at_call 12; ((with_reducible refine (K.out _).mono ?_); rintro e w2 ⟨rfl, rfl⟩))
  go_region_with (first
    | (go_at_call 23; ((with_reducible refine HA.out.mono ?_); rintro e w1 ⟨rfl, hb1, hc1⟩))
    | (go_at_call 23; ((with_reducible refine HC.out.mono ?_); rintro e w1 ⟨rfl, hb1⟩)))
  all_goals
    go_wp2
    go_ret
    refine ⟨ret_string ?_, ?_⟩
    · rw [HV.out]; exact ByteArray.mk_append_mk _ _
    · first
        | exact hb1
        | exact hb1.alloc hb1.size _

theorem Var_is (n : Int) (k : Nat) (w0' : -9223372036854775808 ≤ n ∧ n ≤ 9223372036854775807) (hk : pickN n 300 = (k : Int)) (h300 : k < 300) {B : Nat} {w0 w : World} (hb : Below B w0 w) (hB : B ≤ w0.heap.size) :
    Calls Try.prog 22 #[.int .i64 n] w fun e w' => e = .returned (.string ⟨(varB k).toArray⟩) ∧ Below w.heap.size w w' ∧ Below B w0 w' :=
  (Var_any n k w0' hk h300 w).mono fun _ _ ⟨he, hw⟩ => ⟨he, hw, below_up hb hB hw⟩

/-- A piece of a text, of raw numbers. -/
def pieceB (kind n : Int) : List UInt8 :=
  if pickN kind 4 = 0 then kws.getD (pickN n 13).toNat []
  else if pickN kind 4 = 1 then [59]
  else if pickN kind 4 = 2 then decB (pickN n 65536).toNat
  else varB (pickN n 300).toNat

theorem kws_get (k : Nat) (h : k < 13) : kws[k]? = some (kws.getD k []) := by
  have h' : k < kws.length := h
  rw [List.getElem?_eq_getElem h', List.getD_eq_getElem?_getD, List.getElem?_eq_getElem h']; rfl

set_option maxRecDepth 100000 in
set_option maxHeartbeats 1000000 in
theorem Piece_any (kind n : Int) (wk : InI kind) (wn : InI n) (w : World) :
    Calls Try.prog 10 #[.int .i64 kind, .int .i64 n] w fun e w' => e = .returned (.string ⟨(pieceB kind n).toArray⟩) ∧ Below w.heap.size w w' := by
  have hcases : pickN kind 4 = 0 ∨ pickN kind 4 = 1 ∨ pickN kind 4 = 2 ∨ pickN kind 4 = 3 := by have := pickN_in kind 4 (by omega); omega
  have hb := Below.refl w.heap.size w
  rcases hcases with hc | hc | hc | hc
  · have KC := Lib.hid (pick2_at kind 4 0 wk (by omega) (by omega) hc)
    obtain ⟨k, hk, hk13⟩ : ∃ k : Nat, pickN n 13 = (k : Int) ∧ k < 13 := pickN_nat n 13 (by omega)
    have KN := Lib.hid (pick2_is n 13 k 13 wn rfl (by omega) (by omega) hk)
    have hp : pieceB kind n = kws.getD k [] := by unfold pieceB; rw [hc, if_pos rfl, hk, Int.toNat_natCast]
    obtain ⟨W, hW⟩ : ∃ W, w.alloc (.cells (kws.map fun l => Value.string ⟨l.toArray⟩).toArray 9) = W := ⟨_, rfl⟩
    have hbW : Below w.heap.size w W := by rw [← hW]; exact hb.alloc (Nat.le_refl _) _
    have hcell : W.cell? ⟨w.heap.size, k, none⟩ = some (.string ⟨(kws.getD k []).toArray⟩) := by rw [← hW]; exact texts_new w kws 9 k _ (kws_get k hk13)
    have HP := Lib.hid hp
    have HW := Lib.hid hW
    clear hc hk hp hW
    go_enter Try.func10, Try.ntmps10
    go_wp2_with (first
      | (go_at_call 12; ((with_reducible refine (KC.out _).mono ?_); rintro e w2 ⟨rfl, rfl⟩))
      | (go_at_call 12; have hW := HW.out; simp only [kws, List.map_cons, List.map_nil] at hW; rw [hW]; clear hW; ((with_reducible refine (KN.out _).mono ?_); rintro e w2 ⟨rfl, rfl⟩)))
    go_ret
    exact ⟨ret_string (by rw [HP.out, List.getD_eq_getElem?_getD]), hbW⟩
  · have KC := Lib.hid (pick2_at kind 4 1 wk (by omega) (by omega) hc)
    have hp : pieceB kind n = [59] := by unfold pieceB; rw [hc, if_neg (by decide), if_pos rfl]
    have HP := Lib.hid hp
    clear hc hp
    go_enter Try.func10, Try.ntmps10
    go_wp2_with (go_at_call 12; ((with_reducible refine (KC.out _).mono ?_); rintro e w2 ⟨rfl, rfl⟩))
    go_ret
    exact ⟨ret_string (by rw [HP.out]), hb⟩
  · have KC := Lib.hid (pick2_at kind 4 2 wk (by omega) (by omega) hc)
    obtain ⟨k, hk, hkl⟩ : ∃ k : Nat, pickN n 65536 = (k : Int) ∧ k < 65536 := pickN_nat n 65536 (by omega)
    have KN := Lib.hid (pick2_is n 65536 k 65536 wn rfl (by omega) (by omega) hk)
    have hp : pieceB kind n = decB k := by unfold pieceB; rw [hc, if_neg (by decide), if_neg (by decide), if_pos rfl, hk, Int.toNat_natCast]
    have HP := Lib.hid hp
    clear hc hp hk
    go_enter Try.func10, Try.ntmps10
    go_wp2_with (first
      | (go_at_call 12; ((with_reducible refine (KC.out _).mono ?_); rintro e w2 ⟨rfl, rfl⟩))
      | (go_at_call 12; ((with_reducible refine (KN.out _).mono ?_); rintro e w2 ⟨rfl, rfl⟩))
      | (go_at_call 23; refine (decimal_any k (by omega) hb (Nat.le_refl _)).mono ?_; clear hb; rintro e w2 ⟨rfl, _, hb⟩))
    go_ret
    exact ⟨ret_string (by rw [HP.out]), hb⟩
  · have KC := Lib.hid (pick2_at kind 4 3 wk (by omega) (by omega) hc)
    obtain ⟨k, hk, hkl⟩ : ∃ k : Nat, pickN n 300 = (k : Int) ∧ k < 300 := pickN_nat n 300 (by omega)
    have hp : pieceB kind n = varB k := by unfold pieceB; rw [hc, if_neg (by decide), if_neg (by decide), if_neg (by decide), hk, Int.toNat_natCast]
    have HP := Lib.hid hp
    have HK := Lib.hid hk
    clear hc hp hk
    go_enter Try.func10, Try.ntmps10
    go_wp2_with (first
      | (go_at_call 12; ((with_reducible refine (KC.out _).mono ?_); rintro e w2 ⟨rfl, rfl⟩))
      | (go_at_call 22; refine (Var_is n k wn HK.out hkl hb (Nat.le_refl _)).mono ?_; clear hb; rintro e w2 ⟨rfl, _, hb⟩))
    go_ret
    exact ⟨ret_string (by rw [HP.out]), hb⟩

end Go.Proofs.Ytfphhcifchoggaa
