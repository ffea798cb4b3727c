/-
  A printer's line.
-/
import Derived.Deep.RegionLaw
import Derived.Test.YtlfapmfhdagikaaDoorPlL
namespace Go.Proofs.YtlfapmfhdagikaaDoor
open Go.RowKit

/-- A line's text: words, a blank between, a stop, a line feed. -/
def lineB (xs : List (List UInt8)) : List UInt8 := Lib.join xs [32] ++ [59, 10]

theorem Join_any (xs : List ByteArray) {A : Option Addr} {n c : Nat} (w W : World) (hA : RowAt w w.heap.size A (xs.map Value.string)) (hn : Hid (xs.length = n)) (hc : n ≤ c) (h0 : xs ≠ []) (hlen : (Lib.join (xs.map (·.data.toList)) [32]).length ≤ 140737488355328) (hm : n ≤ 140737488355328)
    (hW : ∀ p, W.cell? p = w.cell? p) (hz : W.heap.size = w.heap.size) :
    Calls Tryd.prog 57 #[.slice A n c, .string ⟨#[32]⟩] W fun e w' => e = .returned (.string ⟨(Lib.join (xs.map (·.data.toList)) [32]).toArray⟩) ∧ Below W.heap.size W w' := by
  obtain ⟨g, rfl, hg, hc'⟩ := hA (by simpa using h0)
  have hn' := hn.out
  subst hn'
  exact Tryd.strings_Join g 0 c xs ⟨#[32]⟩ W (fun j x hx => by rw [hW, Nat.zero_add]; exact hc' j _ (by rw [List.getElem?_map, hx]; rfl)) (by omega) hm hc hlen

set_option maxHeartbeats 2000000 in
set_option maxRecDepth 100000 in
theorem line_any (B b : Nat) (l : List UInt8) (xs : List ByteArray) {A : Option Addr} {n c : Nat} (w : World) (h : PrAt B b l w) (hA : RowAt w w.heap.size A (xs.map Value.string)) (hn : Hid (xs.length = n)) (hc : n ≤ c) (h0 : xs ≠ []) (hm : n ≤ 140737488355328)
    (hlen : l.length + (lineB (xs.map (·.data.toList))).length ≤ 140737488355328) (hBw : B ≤ w.heap.size) :
    Calls Tryd.prog 28 #[.pointer (some ⟨b, 0, none⟩), .slice A n c] w fun e w' => e = .returned (.tuple #[]) ∧ PrAt B b (l ++ lineB (xs.map (·.data.toList))) w' ∧ Below B w w' ∧ Far b w w' := by
  obtain ⟨J, hJ⟩ : ∃ J, Lib.join (xs.map (·.data.toList)) [32] = J := ⟨_, rfl⟩
  have hlb : lineB (xs.map (·.data.toList)) = J ++ [59, 10] := by unfold lineB; rw [hJ]
  rw [hlb, List.length_append] at hlen
  simp only [List.length_cons, List.length_nil] at hlen
  have HJ := fun W hW hz => Join_any xs w W hA hn hc h0 (by rw [hJ]; omega) hm hW hz
  rw [hJ] at HJ
  have HJ' := Lib.hid HJ
  have HL := Lib.hid hlb
  have HH := Lib.hid h
  clear hJ HJ hlb hA h
  go_enter Tryd.func28, Tryd.ntmps28
  go_wp2
  go_region_with (first
    | (go_at_call 57; refine (HJ'.out _ (by intro _; rfl) (by rfl)).mono ?_; rintro e w1 ⟨rfl, hb1⟩; have hb1' : Below w.heap.size w w1 := ((Below.refl _ w).drew).trans hb1; have hs1 := hb1'.size)
    | (go_at_call 56; refine (Write_any B b l ⟨J.toArray⟩ _ (HH.out.up hb1') (by show l.length + J.length ≤ _; omega) (by omega)).mono ?_; rintro e w2 ⟨rfl, hp2, hb2, hf2⟩; have hs2 := hb2.size))
  all_goals
    go_wp2_with (go_at_call 56; refine (Write_any B b (l ++ J) ⟨#[59, 10]⟩ _ hp2 (by show (l ++ J).length + 2 ≤ _; rw [List.length_append]; omega) (by omega)).mono ?_; rintro e w3 ⟨rfl, hp3, hb3, hf3⟩)
    go_end0
    refine ⟨rfl, ?_, ((hb1'.mono hBw).trans hb2).trans hb3, ((Far.of_below hb1').trans hf2).trans hf3⟩
    rw [HL.out, ← List.append_assoc]
    exact hp3

end Go.Proofs.YtlfapmfhdagikaaDoor
