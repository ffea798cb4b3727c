/-
  BitsTells, its walk.
-/
import Derived.Test.YtfnjpgkoccefbaaRef2
namespace Go.Proofs.Ytfnjpgkoccefbaa
open Go.RowKit Go.Sort

/-- A block of ints that was just laid out, cell by cell. -/
theorem cell_list (w : World) (xs : List Int) (t : TypeId) (k : Nat) (x : Int) (h : xs[k]? = some x) : (w.alloc (.cells (xs.map (Value.int .i64)).toArray t)).cell? ⟨w.heap.size, k, none⟩ = some (.int .i64 x) := by
  rw [cell_of_row _ _ _ _ _ _ (World.alloc_heap_new w _)]
  simp [h]

theorem refHas_acc (f l : Int) {B : Nat} {w0 w : World} (hb : Below B w0 w) :
    Calls Try.prog 19 #[.int .i64 f, .int .i64 l] w fun e w' => e = .returned (.bool (hasB f l)) ∧ Below B w0 w' :=
  (refHas_any f l w).mono fun _ _ ⟨he, n, hw⟩ => ⟨he, hw ▸ below_draws hb n⟩
theorem Before_all (x y : Int) {B : Nat} {w0 w : World} (hb : Below B w0 w) (hB : B ≤ w0.heap.size) :
    Calls Try.prog 20 #[.int .i64 x, .int .i64 y] w fun e w' => e = .returned (.bool (beforeB x y)) ∧ Below B w0 w' :=
  (Before_any x y w).mono fun _ _ ⟨he, hb'⟩ => ⟨he, hb.trans (hb'.mono (Nat.le_trans hB hb.size))⟩

set_option maxRecDepth 100000 in
set_option maxHeartbeats 2000000 in
theorem BitsTells_walk (a0 a1 a2 : Int) (A : Option Addr) (c : Nat) (l : List Int) (w0 : (Lit.int .i64 a0).wf = true) (w1 : (Lit.int .i64 a1).wf = true) (w2 : (Lit.int .i64 a2).wf = true)
    (w : World) (hA : IntsAt w w.heap.size A l) (hm : l.length ≤ 9223372036854775807) :
    Calls Try.prog 3 #[.int .i64 a0, .int .i64 a1, .int .i64 a2, .slice A l.length c] w fun e w' => e = .returned (.bool true) ∧ Below w.heap.size w w' := by
  obtain ⟨x0, hx0, hx16⟩ := pickN_nat a0 65536 (by omega)
  obtain ⟨y0, hy0, hy16⟩ := pickN_nat a1 65536 (by omega)
  obtain ⟨i0, hi0, hi16⟩ := pickN_nat a2 16 (by omega)
  have K0 := Lib.hid (pick_is a0 65536 65536 x0 w0 rfl (by omega) (by omega) hx0)
  have K1 := Lib.hid (pick_is a1 65536 65536 y0 w1 rfl (by omega) (by omega) hy0)
  have K2 := Lib.hid (pick_is a2 16 16 i0 w2 rfl (by omega) (by omega) hi0)
  clear hx0 hy0 hi0
  have hb := Below.refl w.heap.size w
  go_enter Try.func3, Try.ntmps3
  go_wp2_with (first
    | (go_at_call 11; refine (awake_acc hb (Nat.le_refl _)).mono ?_; clear hb; rintro e w3 ⟨rfl, hb⟩)
    | (go_at_call 12; ((with_reducible refine (K0.out _).mono ?_); rintro e w2 ⟨rfl, rfl⟩)))
  obtain ⟨W, hW⟩ : ∃ W, w3.alloc (.cells #[.int .i64 a0, .int .i64 (x0 : Int)] 3) = W := ⟨_, rfl⟩
  have hcs : ∀ (k : Nat) (x : Int), [a0, (x0 : Int)][k]? = some x → W.cell? ⟨w3.heap.size, k, none⟩ = some (.int .i64 x) := fun k x h => by rw [← hW]; exact cell_list w3 [a0, (x0 : Int)] 3 k x h
  have hws : W.heap.size = w3.heap.size + 1 := by rw [← hW]; simp
  have hbW : Below w.heap.size w W := by rw [← hW]; exact hb.alloc hb.size _
  rw [hW]
  have HCS := Lib.hid hcs
  have HWS := Lib.hid hws
  have hlt3 : w3.heap.size < W.heap.size := by omega
  clear hcs hb hW hws
  go_loopw [20] (fun i wr => ∃ k : Nat, k ≤ 2 ∧ i = .int .i64 k ∧ Below W.heap.size W wr) (fun i _ => 2 - (intOf i).toNat)
  case atStart => exact ⟨0, by omega, rfl, Below.refl _ _⟩
  case round =>
    obtain ⟨k, hk, rfl, hb⟩ := hrel
    by_cases hlt : k < 2
    · obtain ⟨x, hx⟩ : ∃ x, [a0, (x0 : Int)][k]? = some x := ⟨_, List.getElem?_eq_getElem (by simpa using hlt)⟩
      have hc := (hb.cell (p := ⟨w3.heap.size, k, none⟩) hlt3).trans (HCS.out k x hx)
      clear hx
      have hl16 : (linksB x).length ≤ 16 := uptoB_len x 16
      go_wp2_with (first
        | (go_at_call 13; refine (Size_acc _ hb (Nat.le_refl _)).mono ?_; clear hb; rintro e w5 ⟨rfl, hb⟩)
        | (go_at_call 14; refine (refSize_acc _ hb (Nat.le_refl _)).mono ?_; clear hb; rintro e w5 ⟨rfl, hb⟩))
      refine (List_acc _ hb (Nat.le_refl _)).mono ?_
      clear hb hc
      rintro e w6 ⟨A1, c1, rfl, h1, _, hb⟩
      go_wp2_with (fail)
      refine (refList_acc _ hb (Nat.le_refl _)).mono ?_
      clear hb
      rintro e w7 ⟨A2, c2, rfl, h2, h3, hb⟩
      go_wp2_with (fail)
      refine (ints_links A1 A2 c1 c2 _ _ _ _ (h1.below h3) h2 (by omega) hb).mono ?_
      clear hb h1 h2 h3
      rw [show decide (linksB x = linksB x) = true from by simp]
      rintro e w8 ⟨rfl, hb⟩
      go_wp2_with (first
        | (go_at_call 18; refine (Has_any _ _ _).mono ?_; rintro e w10 ⟨rfl, rfl⟩)
        | (go_at_call 19; refine (refHas_acc _ _ hb).mono ?_; clear hb; rintro e w9 ⟨rfl, hb⟩)
        | (go_at_call 12; ((with_reducible refine (K1.out _).mono ?_); rintro e w2 ⟨rfl, rfl⟩))
        | (go_at_call 12; ((with_reducible refine (K2.out _).mono ?_); rintro e w2 ⟨rfl, rfl⟩)))
      obtain ⟨V, hV⟩ : ∃ V, w9.alloc (.cells #[.int .i64 a1, .int .i64 (y0 : Int), .int .i64 x] 3) = V := ⟨_, rfl⟩
      have hvs : ∀ (k : Nat) (y : Int), [a1, (y0 : Int), x][k]? = some y → V.cell? ⟨w9.heap.size, k, none⟩ = some (.int .i64 y) := fun k y h => by rw [← hV]; exact cell_list w9 [a1, (y0 : Int), x] 3 k y h
      have hvz : V.heap.size = w9.heap.size + 1 := by rw [← hV]; simp
      have hbV : Below W.heap.size W V := by rw [← hV]; exact hb.alloc hb.size _
      rw [hV]
      have HVS := Lib.hid hvs
      have hlt9 : w9.heap.size < V.heap.size := by omega
      clear hvs hb hV hvz
      go_loopw [63] (fun i wr => ∃ j : Nat, j ≤ 3 ∧ i = .int .i64 j ∧ Below V.heap.size V wr) (fun i _ => 3 - (intOf i).toNat)
      case atStart => exact ⟨0, by omega, rfl, Below.refl _ _⟩
      case round =>
        obtain ⟨j, hj, rfl, hb⟩ := hrel
        by_cases hltj : j < 3
        · obtain ⟨y, hy⟩ : ∃ y, [a1, (y0 : Int), x][j]? = some y := ⟨_, List.getElem?_eq_getElem (by simpa using hltj)⟩
          have hc := (hb.cell (p := ⟨w9.heap.size, j, none⟩) hlt9).trans (HVS.out j y hy)
          clear hy
          go_wp2_with (first
            | (go_at_call 20; refine (Before_all _ _ hb (Nat.le_refl _)).mono ?_; clear hb; rintro e w5 ⟨rfl, hb⟩)
            | (go_at_call 21; refine (refBefore_acc _ _ hb (Nat.le_refl _)).mono ?_; clear hb; rintro e w5 ⟨rfl, hb⟩))
          go_roundw
          case rel => exact ⟨j + 1, by omega, by go_num, hb⟩
          case measure => simp [intOf]; omega
        · go_wp2
          go_roundw
          case rel => exact ⟨k + 1, by omega, by go_num, hbV.trans (hb.mono hbV.size)⟩
          case measure => simp [intOf]; omega
    · have hA' := hA.below (hbW.trans (hb.mono hbW.size))
      go_wp2_with (first
        | (go_at_call 22; refine (Of_any A c l w.heap.size _ hA' hm).mono ?_; rintro e w5 ⟨rfl, rfl⟩)
        | (go_at_call 23; refine (refOf_any A c l w.heap.size _ hA' hm).mono ?_; rintro e w5 ⟨rfl, nq, rfl⟩))
      go_ret
      exact ⟨rfl, below_draws (hbW.trans (hb.mono hbW.size)) _⟩

end Go.Proofs.Ytfnjpgkoccefbaa
