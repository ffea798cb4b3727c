/-
  The laws' helpers pick and next.
-/
import Derived.Test.YtlfapmfhdagikaaDoorPlR
namespace Go.Proofs.YtlfapmfhdagikaaDoor
open Go.RowKit

theorem pick3_any (c n : Int) (hc : InI c) (h0 : 0 < n) (hn : n ≤ 9223372036854775807) (w : World) :
    Calls Tryd.prog 25 #[.int .i64 c, .int .i64 n] w fun e w' => e = .returned (.int .i64 (pickN c n)) ∧ w = w' := by
  obtain ⟨h1, h2⟩ := hc
  have hz : ¬ n = 0 := by omega
  by_cases h : c < 0
  · have hp : pickN c n = (-(c + 1)) % n := by unfold pickN; rw [if_pos h]
    have H := Lib.hid hp
    have b1 : 0 ≤ -(c + 1) := by omega
    have b2 : -(c + 1) ≤ 9223372036854775807 := by omega
    clear hp
    go_enter Tryd.func25, Tryd.ntmps25
    go_wp2
    go_ret
    exact ⟨ret_int (by rw [H.out, ← Int.neg_tmod, Int.tmod_eq_emod_of_nonneg b1]), rfl⟩
  · have hp : pickN c n = c % n := by unfold pickN; rw [if_neg h]
    have H := Lib.hid hp
    have b1 : 0 ≤ c := by omega
    clear hp
    go_enter Tryd.func25, Tryd.ntmps25
    go_wp2
    go_ret
    exact ⟨ret_int H.out.symm, rfl⟩
theorem pick3_is (c n v : Int) (hc : InI c) (h0 : 0 < n) (hn : n ≤ 9223372036854775807) (H : Hid (pickN c n = v)) (w : World) :
    Calls Tryd.prog 25 #[.int .i64 c, .int .i64 n] w fun e w' => e = .returned (.int .i64 v) ∧ w = w' :=
  (pick3_any c n hc h0 hn w).mono fun _ _ ⟨he, hw⟩ => ⟨by rw [he, H.out], hw⟩

/-- The source at block sb: these raw numbers are left, which lie below block B. -/
def SrcAt (B sb : Nat) (l : List Int) (w : World) : Prop :=
  ∃ A c, Blk w sb 62 #[.slice A l.length c] ∧ l.length ≤ c ∧ CellsAt w B A (l.map (Value.int .i64))
/-- Of all that lay in memory block sb alone has turned. -/
structure Turned (sb : Nat) (w w' : World) : Prop where
  grown : w.grownBy w' (some sb)
theorem Turned.refl (sb : Nat) (w : World) : Turned sb w w := ⟨World.grownBy.refl w _⟩
theorem Turned.set (sb : Nat) (w : World) (v : Value) : Turned sb w (w.setCell ⟨sb, 0, none⟩ v) :=
  ⟨⟨rfl, rfl, rfl, by simp [World.setCell], fun i _ hne => Below.heap_setCell w ⟨sb, 0, none⟩ v i (fun e => hne (by rw [e]))⟩⟩
theorem Turned.trans {sb : Nat} {a b c : World} (h : Turned sb a b) (k : Turned sb b c) : Turned sb a c :=
  ⟨⟨k.grown.os.trans h.grown.os, k.grown.tape.trans h.grown.tape, k.grown.output.trans h.grown.output, Nat.le_trans h.grown.size k.grown.size, fun i hi hne => (k.grown.block i (Nat.lt_of_lt_of_le hi h.grown.size) hne).trans (h.grown.block i hi hne)⟩⟩
theorem Turned.up {sb : Nat} {a b c : World} (h : Turned sb a b) (k : Below b.heap.size b c) : Turned sb a c :=
  h.trans ⟨⟨k.os, k.tape, k.output, k.size, fun i hi _ => k.block i hi⟩⟩
theorem Turned.setNew {sb : Nat} {a b : World} (h : Turned sb a b) {p : Addr} (hp : a.heap.size ≤ p.block) (u : Value) : Turned sb a (b.setCell p u) :=
  ⟨⟨h.grown.os, h.grown.tape, h.grown.output, by simpa [World.setCell] using h.grown.size, fun i hi hne => (Below.heap_setCell b p u i (by omega)).trans (h.grown.block i hi hne)⟩⟩
theorem Turned.grownNew {sb : Nat} {a b c : World} (h : Turned sb a b) {row : Option Nat} (k : b.grownBy c row) (hr : ∀ g, row = some g → a.heap.size ≤ g) : Turned sb a c :=
  ⟨⟨k.os.trans h.grown.os, k.tape.trans h.grown.tape, k.output.trans h.grown.output, Nat.le_trans h.grown.size k.size, fun i hi hne => (k.block i (Nat.lt_of_lt_of_le hi h.grown.size) (fun e => by have := hr i e.symm; omega)).trans (h.grown.block i hi hne)⟩⟩
theorem Turned.blk {sb g : Nat} {w w' : World} {t : TypeId} {cs : Array Value} (h : Turned sb w w') (hk : Blk w g t cs) (hne : g ≠ sb) : Blk w' g t cs := hk.grown h.grown (fun e => hne (by injection e))
theorem Turned.below {sb B : Nat} {a w w' : World} (h : Turned sb w w') (hb : Below B a w) (hB : B ≤ sb) (hs : B ≤ a.heap.size) : Below B a w' := hb.grown h.grown (Nat.le_trans hs hb.size) (fun g hg => by injection hg with hg; omega)
theorem Turned.own {sb base : Nat} {w w' : World} {e : TypeId} {size n : Nat} {v : Value} {xs : List Value} (h : Turned sb w w') (ho : w.ownsRow base e size v n xs) (hne : v.ownBlock ≠ some sb) : w'.ownsRow base e size v n xs := by
  refine ho.kept (row := some sb) ⟨h.grown.os, h.grown.tape, h.grown.output, h.grown.size, h.grown.block⟩ ?_
  cases hv : v.ownBlock with
  | none => exact .inl rfl
  | some g => exact .inr (fun e => hne (by rw [hv]; exact e))

theorem next_any (B sb : Nat) (l : List Int) (n : Nat) (h0 : 0 < n) (hn : n ≤ 4096) (hl : ∀ v ∈ l, InI v) (hm : l.length ≤ 4096) (hB : B ≤ sb) (w : World) (hS : SrcAt B sb l w) :
    Calls Tryd.prog 26 #[.pointer (some ⟨sb, 0, none⟩), .int .i64 (n : Int)] w fun e w' => e = .returned (.int .i64 (nx l n : Int)) ∧ SrcAt B sb l.tail w' ∧ Turned sb w w' := by
  obtain ⟨A, c, hb, hc, hA⟩ := hS
  have c0 := hb.cell 0
  have f0 := hb.frozen 0
  cases l with
  | nil =>
    have HS : Hid (SrcAt B sb [] w) := Lib.hid ⟨A, c, hb, hc, hA⟩
    clear hb hA
    go_enter Tryd.func26, Tryd.ntmps26
    go_wp2
    go_ret
    exact ⟨rfl, HS.out, Turned.refl _ _⟩
  | cons x r =>
    obtain ⟨ad, hAd, had, hcell⟩ := hA (by simp)
    subst hAd
    have hx0 : w.cell? ad = some (.int .i64 x) := by have := hcell 0 _ rfl; simpa [Addr.add] using this
    have hx := hl x (by simp)
    obtain ⟨hp1, hp2⟩ := pickN_in x n (by omega)
    have hnx : (pickN x n) = ((nx (x :: r) n : Nat) : Int) := by
      show pickN x n = ((pickN x n).toNat : Int)
      omega
    have HP := Lib.hid hnx
    obtain ⟨m, hmr⟩ : ∃ m, r.length = m := ⟨_, rfl⟩
    rw [List.length_cons, hmr] at c0 hb hc hm
    have HMR := Lib.hid hmr
    by_cases hc1 : c = 1
    · subst hc1
      have hm0 : m = 0 := by omega
      subst hm0
      have hr : r = [] := List.eq_nil_of_length_eq_zero hmr
      have HS : Hid (SrcAt B sb r (w.setCell ⟨sb, 0, none⟩ (.slice (some ad) 0 0))) := Lib.hid ⟨some ad, 0, by rw [hmr]; exact hb.set_ 0 _, by omega, by rw [hr]; exact CellsAt.nil _ _ _⟩
      clear hb hcell hl hnx hmr hr
      go_enter Tryd.func26, Tryd.ntmps26
      go_wp2_with (go_at_call 25; refine (pick3_is _ _ _ hx (by omega) (by omega) HP _).mono ?_; rintro e w2 ⟨rfl, rfl⟩)
      go_ret
      exact ⟨rfl, HS.out, Turned.set _ _ _⟩
    · have hc2 : (1 : Int) < (c : Int) := by omega
      have HS : Hid (SrcAt B sb r (w.setCell ⟨sb, 0, none⟩ (.slice (some (ad.add 1)) m (c - 1)))) := Lib.hid ⟨some (ad.add 1), c - 1, by rw [hmr]; exact hb.set_ 0 _, by omega, fun _ => ⟨ad.add 1, rfl, by rw [block_of_add]; exact had, fun j u hu => by
        rw [add_of_add, World.cell?_setCell_other _ _ _ _ (fun e => by
          have := congrArg Addr.block e
          rw [block_of_add] at this
          dsimp only at this
          omega)]
        exact hcell _ u (by rw [List.map_cons, Nat.add_comm, List.getElem?_cons_succ]; exact hu)⟩⟩
      clear hb hcell hl hnx hmr
      go_enter Tryd.func26, Tryd.ntmps26
      go_wp2_with (go_at_call 25; refine (pick3_is _ _ _ hx (by omega) (by omega) HP _).mono ?_; rintro e w2 ⟨rfl, rfl⟩)
      go_ret
      exact ⟨rfl, HS.out, Turned.set _ _ _⟩

/-- The same, with what it tells named. -/
theorem next_src {B sb : Nat} {l : List Int} {w : World} (n : Int) (m v : Nat) (l' : List Int) (HV : Hid (nx l m = v)) (HT : Hid (l.tail = l')) (hS : SrcAt B sb l w) (hl : ∀ v ∈ l, InI v) (hlen : l.length ≤ 4096) (hB : B ≤ sb) (hn : n = (m : Int)) (h0 : 0 < m) (hm : m ≤ 4096) :
    Calls Tryd.prog 26 #[.pointer (some ⟨sb, 0, none⟩), .int .i64 n] w fun e w' => e = .returned (.int .i64 (v : Int)) ∧ SrcAt B sb l' w' ∧ Turned sb w w' := by
  subst hn
  refine (next_any B sb l m h0 hm hl hlen hB w hS).mono fun e w' ⟨he, hs, ht⟩ => ?_
  rw [HV.out] at he
  rw [HT.out] at hs
  exact ⟨he, hs, ht⟩
theorem SrcAt.up {B sb : Nat} {l : List Int} {w w' : World} (h : SrcAt B sb l w) (hB : B ≤ w.heap.size) (hb : Below w.heap.size w w') : SrcAt B sb l w' := by
  obtain ⟨A, c, h1, h2, h3⟩ := h
  exact ⟨A, c, h1.up hb, h2, h3.below (hb.mono hB)⟩
theorem SrcAt.setFar {B sb : Nat} {l : List Int} {w : World} (h : SrcAt B sb l w) {p : Addr} (hp : sb ≠ p.block) (hB : B ≤ p.block) (u : Value) : SrcAt B sb l (w.setCell p u) := by
  obtain ⟨A, c, h1, h2, h3⟩ := h
  exact ⟨A, c, h1.far hp u, h2, h3.below ((Below.refl B w).setCell hB u)⟩
theorem SrcAt.far {B sb : Nat} {l : List Int} {w w' : World} (h : SrcAt B sb l w) {row : Option Nat} (hg : w.grownBy w' row) (hB : B ≤ w.heap.size) (hr : ∀ g, row = some g → B ≤ g ∧ g ≠ sb) : SrcAt B sb l w' := by
  obtain ⟨A, c, h1, h2, h3⟩ := h
  exact ⟨A, c, h1.grown hg (fun e => (hr sb e.symm).2 rfl), h2, h3.below ((Below.refl B w).grown hg hB (fun g e => (hr g e).1))⟩

end Go.Proofs.YtlfapmfhdagikaaDoor
