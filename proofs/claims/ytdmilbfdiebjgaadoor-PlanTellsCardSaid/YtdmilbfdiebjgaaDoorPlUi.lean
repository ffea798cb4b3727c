/-
  The document's own line of a check.
-/
import Derived.Test.YtdmilbfdiebjgaaDoorPlUa
import Derived.Test.YtdmilbfdiebjgaaDoorLxMathC
import Derived.Test.YtdmilbfdiebjgaaDoorPlN
namespace Go.Proofs.YtdmilbfdiebjgaaDoor
open Go.RowKit
set_option linter.unusedVariables false
set_option linter.unusedSimpArgs false
theorem conv_oneR (W : World) (d : Int) : (convert 54 9 (.slice (some ⟨W.heap.size, 0, none⟩) 1 1)).run Tryd.prog (W.alloc (.cells #[.int .u8 d] 5)) = .ok (.string ⟨#[UInt8.ofNat d.toNat]⟩) (W.alloc (.cells #[.int .u8 d] 5)) := by
  rw [run_convert_bytes_string _ _ _ _ _ _ _ Tryd.underlying54 Tryd.underlying5 Tryd.underlying9]
  rw [run_bytesToString _ _ 1 1 [d] (run_loadCells_list _ ⟨W.heap.size, 0, none⟩ [.int .u8 d] (cells_new W [.int .u8 d] 5))]
  rfl
def decS (f n : Nat) : ByteArray := ⟨(decF f n).toArray⟩
theorem decS_small {f n : Nat} (h : n < 10) : decS (f + 1) n = ⟨#[48 + UInt8.ofNat (n % 10)]⟩ := by
  unfold decS; rw [decF, if_pos h, UInt8.ofNat_add, Nat.mod_eq_of_lt h]; rfl
theorem decS_great {f n : Nat} (h : ¬ n < 10) : decS (f + 1) n = decS f (n / 10) ++ ⟨#[48 + UInt8.ofNat (n % 10)]⟩ := by
  unfold decS
  rw [decF, if_neg h, UInt8.ofNat_add]
  apply ByteArray.ext
  simp [ByteArray.data_append]
theorem decS_size (f n : Nat) : (decS f n).size ≤ f := by
  have := decF_len f n
  unfold decS
  simpa [ByteArray.size] using this
set_option maxHeartbeats 4000000 in
set_option maxRecDepth 100000 in
theorem Digits_any : ∀ (f n : Nat) (w : World), f ≤ 20 → n < 10 ^ (f + 1) → n ≤ 65535 →
    Calls Tryd.prog 24 #[.int .i64 (n : Int)] w fun e w' => e = .returned (.string (decS (f + 1) n)) ∧ Below w.heap.size w w'
  | f, n, w, hf, hn, hm => by
    have hcv1 := conv_oneR
    have hb1 := below_new w (.cells #[.int .u8 (48 + (n : Int) % 10)] 5)
    have e1 : (48 + (n : Int) % 10).toNat = 48 + n % 10 := by omega
    by_cases h : n < 10
    · have hS := decS_small (f := f) h
      have HS := Lib.hid hS
      have hge : ¬ (10 : Int) ≤ (n : Int) := by omega
      clear hS
      go_enter Tryd.func24, Tryd.ntmps24
      go_wp2
      go_ret
      exact ⟨by rw [HS.out]; rfl, hb1⟩
    · match f, hf, hn with
      | 0, _, hn => exact absurd hn (by omega)
      | f + 1, hf, hn =>
        have ih := fun w' => Digits_any f (n / 10) w' (by omega) (by rw [Nat.pow_succ] at hn; omega) (by omega)
        have hS := decS_great (f := f + 1) h
        have hz := decS_size (f + 1) (n / 10)
        obtain ⟨s, hs⟩ : ∃ s, decS (f + 1) (n / 10) = s := ⟨_, rfl⟩
        rw [hs] at hS hz ih
        have HS := Lib.hid hS
        have IH := Lib.hid ih
        have hge : (10 : Int) ≤ (n : Int) := by omega
        have g1 : ¬ (9223372036854775807 < s.size + 1) := by omega
        have g2 : ((n : Int).tdiv 10) = ((n / 10 : Nat) : Int) := by rw [Int.tdiv_eq_ediv_of_nonneg (by omega)]; omega
        have g3 : IntKind.i64.wrap ((n / 10 : Nat) : Int) = ((n / 10 : Nat) : Int) := IntWalk.i64_in _ (by omega)
        clear hS ih hs
        go_enter Tryd.func24, Tryd.ntmps24
        go_wp2_with (go_at_call 24; refine (IH.out _).mono ?_; rintro e w2 ⟨rfl, hb2⟩)
        go_ret
        exact ⟨by rw [HS.out]; rfl, hb1.trans (hb2.mono hb1.size)⟩
/-- A number's text is decB's. -/
theorem RefDigits_is (n : Nat) (hn : n ≤ 65535) (w : World) :
    Calls Tryd.prog 24 #[.int .i64 (n : Int)] w fun e w' => e = .returned (.string (decS 20 n)) ∧ Below w.heap.size w w' :=
  Digits_any 19 n w (by omega) (by omega) hn
theorem decS_list (n : Nat) : (decS 20 n).data.toList = decB n := rfl
end Go.Proofs.YtdmilbfdiebjgaaDoor
namespace Go.Proofs.YtdmilbfdiebjgaaDoor
open Go.RowKit
set_option linter.unusedVariables false
set_option linter.unusedSimpArgs false

def refCheckS (ns : List PNode) (ds : List PDest) (c : PCheck) : ByteArray :=
  if c.kind = 1 then (⟨#[99, 104, 101, 99, 107, 32, 114, 101, 97, 99, 104, 32]⟩ : ByteArray) ++ nmB ns c.node ++ (⟨#[32]⟩ : ByteArray) ++ dnB ds c.dest
  else if c.kind = 2 then (⟨#[99, 104, 101, 99, 107, 32, 119, 105, 116, 104, 105, 110, 32]⟩ : ByteArray) ++ nmB ns c.node ++ (⟨#[32]⟩ : ByteArray) ++ dnB ds c.dest ++ (⟨#[32]⟩ : ByteArray) ++ decS 20 c.limit.toNat
  else if c.kind = 3 then (⟨#[99, 104, 101, 99, 107, 32, 119, 97, 121, 112, 111, 105, 110, 116, 32]⟩ : ByteArray) ++ nmB ns c.node ++ (⟨#[32]⟩ : ByteArray) ++ dnB ds c.dest ++ (⟨#[32]⟩ : ByteArray) ++ nmB ns c.other
  else (⟨#[99, 104, 101, 99, 107, 32, 101, 113, 117, 97, 108, 32]⟩ : ByteArray) ++ nmB ns c.node ++ (⟨#[32]⟩ : ByteArray) ++ nmB ns c.other ++ (⟨#[32]⟩ : ByteArray) ++ dnB ds c.dest
set_option maxHeartbeats 4000000 in
set_option maxRecDepth 100000 in
theorem refCheck_is {p : PPlan} (hs : PSmall p) {pr ca kk : Int} {An Al Ad Ac : Option Addr} {ln cn ll cl ld cd lc cc : Nat} {w : World} (h : PAt w p pr ca kk An ln Al ll Ad ld Ac lc)
    (kd : Int) (i d o li : Nat) (hk : kd = 1 ∨ kd = 2 ∨ kd = 3 ∨ kd = 4) (hi : i < ln) (hd : d < ld) (ho : o < ln) (hli : li ≤ 65535) :
    Calls Tryd.prog 25 #[.agg #[.int .i64 pr, .int .i64 ca, .int .i64 kk, .slice An ln cn, .slice Al ll cl, .slice Ad ld cd, .slice Ac lc cc], .agg #[.int .i64 kd, .int .i64 (i : Int), .int .i64 (d : Int), .int .i64 (li : Int), .int .i64 (o : Int)]] w fun e w' => e = .returned (.string (refCheckS p.nodes p.dests ⟨kd, i, d, li, o⟩)) ∧ Below w.heap.size w w' := by
  have s1 := hs.ln
  have s3 := hs.ld
  rw [h.ln] at s1
  rw [h.ld] at s3
  obtain ⟨x, hx⟩ : ∃ x, p.nodes[i]? = some x := ⟨_, List.getElem?_eq_getElem (by rw [h.ln]; omega)⟩
  obtain ⟨y, hy⟩ : ∃ y, p.dests[d]? = some y := ⟨_, List.getElem?_eq_getElem (by rw [h.ld]; omega)⟩
  obtain ⟨z, hz⟩ : ∃ z, p.nodes[o]? = some z := ⟨_, List.getElem?_eq_getElem (by rw [h.ln]; omega)⟩
  have zx := hs.nodes x (List.mem_of_getElem? hx)
  have zy := (hs.dests y (List.mem_of_getElem? hy)).1
  have zz := hs.nodes z (List.mem_of_getElem? hz)
  have zd := decS_size 20 li
  have hN := h.nodes
  have hD := h.dests
  obtain ⟨g, rfl, hg, c0, _⟩ := hN.node hx
  obtain ⟨g1, he1, _, c1, _⟩ := hN.node hz
  obtain ⟨g2, Ao, co, rfl, hg2, c2, _, _⟩ := hD.dest hy
  obtain rfl : g = g1 := by injection he1 with he1; injection he1
  clear he1
  have d0 : ∀ o1 o2, ((w.alloc o1).alloc o2).cell? ⟨g, i * 2, none⟩ = some (.string x.name) := fun o1 o2 => (World.cell?_alloc_lt _ o2 ⟨g, i * 2, none⟩ (by simp; omega)).trans ((World.cell?_alloc_lt w o1 ⟨g, i * 2, none⟩ hg).trans c0)
  have d1 : ∀ o1 o2, ((w.alloc o1).alloc o2).cell? ⟨g, o * 2, none⟩ = some (.string z.name) := fun o1 o2 => (World.cell?_alloc_lt _ o2 ⟨g, o * 2, none⟩ (by simp; omega)).trans ((World.cell?_alloc_lt w o1 ⟨g, o * 2, none⟩ hg).trans c1)
  have d2 : ∀ o1 o2, ((w.alloc o1).alloc o2).cell? ⟨g2, d * 2, none⟩ = some (.string y.name) := fun o1 o2 => (World.cell?_alloc_lt _ o2 ⟨g2, d * 2, none⟩ (by simp; omega)).trans ((World.cell?_alloc_lt w o1 ⟨g2, d * 2, none⟩ hg2).trans c2)
  have hbb := fun o1 o2 => ((Below.refl w.heap.size w).alloc (Nat.le_refl _) o1).alloc (by simp) o2
  have i1 : (0 : Int) ≤ (i : Int) := by omega
  have i2 : (i : Int) < (ln : Int) := by omega
  have i3 : (0 : Int) ≤ (d : Int) := by omega
  have i4 : (d : Int) < (ld : Int) := by omega
  have i5 : (0 : Int) ≤ (o : Int) := by omega
  have i6 : (o : Int) < (ln : Int) := by omega
  have e1 := nm_is hx
  have e2 := dn_is hy
  have e3 := nm_is hz
  obtain ⟨nx, hnx⟩ : ∃ s, x.name = s := ⟨_, rfl⟩
  obtain ⟨ny, hny⟩ : ∃ s, y.name = s := ⟨_, rfl⟩
  obtain ⟨nz, hnz⟩ : ∃ s, z.name = s := ⟨_, rfl⟩
  rw [hnx] at d0 e1 zx
  rw [hny] at d2 e2 zy
  rw [hnz] at d1 e3 zz
  clear c0 c1 c2 hx hy hz h hN hD hs hnx hny hnz
  have E := Lib.hid (And.intro e1 (And.intro e2 e3))
  clear e1 e2 e3
  have f1 : ¬ (9223372036854775807 < 12 + nx.size) := by omega
  have f2 : ¬ (9223372036854775807 < 12 + nx.size + 1) := by omega
  have f3 : ¬ (9223372036854775807 < 12 + nx.size + 1 + ny.size) := by omega
  have f4 : ¬ (9223372036854775807 < 13 + nx.size) := by omega
  have f5 : ¬ (9223372036854775807 < 13 + nx.size + 1) := by omega
  have f6 : ¬ (9223372036854775807 < 13 + nx.size + 1 + ny.size) := by omega
  have f7 : ¬ (9223372036854775807 < 13 + nx.size + 1 + ny.size + 1) := by omega
  have f8 : ¬ (9223372036854775807 < 13 + nx.size + 1 + ny.size + 1 + (decS 20 li).size) := by omega
  have f9 : ¬ (9223372036854775807 < 15 + nx.size) := by omega
  have f10 : ¬ (9223372036854775807 < 15 + nx.size + 1) := by omega
  have f11 : ¬ (9223372036854775807 < 15 + nx.size + 1 + ny.size) := by omega
  have f12 : ¬ (9223372036854775807 < 15 + nx.size + 1 + ny.size + 1) := by omega
  have f13 : ¬ (9223372036854775807 < 15 + nx.size + 1 + ny.size + 1 + nz.size) := by omega
  have f14 : ¬ (9223372036854775807 < 12 + nx.size + 1 + nz.size) := by omega
  have f15 : ¬ (9223372036854775807 < 12 + nx.size + 1 + nz.size + 1) := by omega
  have f16 : ¬ (9223372036854775807 < 12 + nx.size + 1 + nz.size + 1 + ny.size) := by omega
  rcases hk with rfl | rfl | rfl | rfl
  · go_enter Tryd.func25, Tryd.ntmps25
    go_wp2_with (go_at_call 24; refine (RefDigits_is li hli _).mono ?_; rintro e w2 ⟨rfl, hb2⟩)
    go_ret
    obtain ⟨e1, e2, e3⟩ := E.out
    exact ⟨by unfold refCheckS; dsimp only; simp only [Int.reduceEq, if_false, if_true]; rw [e1, e2]; rfl, hbb _ _⟩
  · go_enter Tryd.func25, Tryd.ntmps25
    go_wp2_with (go_at_call 24; refine (RefDigits_is li hli _).mono ?_; rintro e w2 ⟨rfl, hb2⟩)
    go_ret
    obtain ⟨e1, e2, e3⟩ := E.out
    exact ⟨by unfold refCheckS; dsimp only; simp only [Int.reduceEq, if_false, if_true]; rw [e1, e2]; rfl, (hbb _ _).trans (hb2.mono (by simp; omega))⟩
  · go_enter Tryd.func25, Tryd.ntmps25
    go_wp2_with (go_at_call 24; refine (RefDigits_is li hli _).mono ?_; rintro e w2 ⟨rfl, hb2⟩)
    go_ret
    obtain ⟨e1, e2, e3⟩ := E.out
    exact ⟨by unfold refCheckS; dsimp only; simp only [Int.reduceEq, if_false, if_true]; rw [e1, e2, e3]; rfl, hbb _ _⟩
  · go_enter Tryd.func25, Tryd.ntmps25
    go_wp2_with (go_at_call 24; refine (RefDigits_is li hli _).mono ?_; rintro e w2 ⟨rfl, hb2⟩)
    go_ret
    obtain ⟨e1, e2, e3⟩ := E.out
    exact ⟨by unfold refCheckS; dsimp only; simp only [Int.reduceEq, if_false, if_true]; rw [e1, e2, e3]; rfl, hbb _ _⟩
end Go.Proofs.YtdmilbfdiebjgaaDoor
