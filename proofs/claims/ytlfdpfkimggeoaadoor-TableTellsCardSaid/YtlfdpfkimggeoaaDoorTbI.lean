/-
  The document's table: in memory; New, Get, Find.
-/
import Derived.Test.YtlfdpfkimggeoaaDoorTbG
namespace Go.Proofs.YtlfdpfkimggeoaaDoor
open Go.RowKit
set_option linter.unusedVariables false
set_option linter.unusedSimpArgs false

structure RefIn (F : Nat → Prop) (w : World) (sb : Nat) (most : Int) (l : List Rt) (A : Option Addr) (c : Nat) (hs : List (Option Addr × Nat)) : Prop where
  lt : ∀ k, F k → k < w.heap.size
  fS : F sb
  fR : ∀ g, (Value.slice A l.length c).ownBlock = some g → F g ∧ g ≠ sb
  blk : Blk w sb 32 #[.int .i64 most, .slice A l.length c]
  rows : w.ownsRow 0 25 3 (.slice A l.length c) l.length ((l.zip hs).flatMap rtC)
  hl : hs.length = l.length
  paths : ∀ (i : Nat) (r : Rt) (q : Option Addr × Nat), l[i]? = some r → hs[i]? = some q → RtAt w r q.1 r.path.length ∧ ∀ a, q.1 = some a → F a.block ∧ a.block ≠ sb ∧ (Value.slice A l.length c).ownBlock ≠ some a.block
  len : l.length ≤ 4096
  zero : most = 0 → l = []
section
variable {F : Nat → Prop} {w w' : World} {sb : Nat} {most : Int} {l : List Rt} {A : Option Addr} {c : Nat} {hs : List (Option Addr × Nat)}
theorem RefIn.sep {G : Nat → Prop} (h : RefIn F w sb most l A c hs) (s : Sep G w w') (hd : ∀ k, F k → ¬ G k) : RefIn F w' sb most l A c hs :=
  { lt := fun k hk => Nat.lt_of_lt_of_le (h.lt k hk) s.size
    fS := h.fS, fR := h.fR
    blk := s.blk h.blk (hd _ h.fS)
    rows := own_sep h.rows s fun g hg => hd g (h.fR g hg).1
    hl := h.hl
    paths := fun i r q h1 h2 => ⟨(h.paths i r q h1 h2).1.sep s fun a ha => hd _ ((h.paths i r q h1 h2).2 a ha).1, (h.paths i r q h1 h2).2⟩
    len := h.len, zero := h.zero }
theorem RefIn.go (h : RefIn F w sb most l A c hs) (hb : Below w.heap.size w w') : RefIn F w' sb most l A c hs := h.sep (G := fun _ => False) (Sep.of_below hb) fun _ _ => id
theorem RefIn.rts (h : RefIn F w sb most l A c hs) : RtsAt w A l := ⟨hs, h.hl, CellsAt.of_own h.rows, fun i r q h1 h2 => (h.paths i r q h1 h2).1⟩
end
def RefAt (F : Nat → Prop) (w : World) (sb : Nat) (most : Int) (l : List Rt) : Prop := ∃ A c hs, RefIn F w sb most l A c hs
section
variable {F : Nat → Prop} {w w' : World} {sb : Nat} {most : Int} {l : List Rt}
theorem RefAt.sep {G : Nat → Prop} (h : RefAt F w sb most l) (s : Sep G w w') (hd : ∀ k, F k → ¬ G k) : RefAt F w' sb most l := by obtain ⟨A, c, hs, h⟩ := h; exact ⟨A, c, hs, h.sep s hd⟩
theorem RefAt.go (h : RefAt F w sb most l) (hb : Below w.heap.size w w') : RefAt F w' sb most l := by obtain ⟨A, c, hs, h⟩ := h; exact ⟨A, c, hs, h.go hb⟩
theorem RefAt.lt (h : RefAt F w sb most l) : ∀ k, F k → k < w.heap.size := by obtain ⟨A, c, hs, h⟩ := h; exact h.lt
/-- What the law itself reads of it. -/
theorem RefAt.cell (h : RefAt F w sb most l) : ∃ A c, w.cell? ⟨sb, 1, none⟩ = some (.slice A l.length c) ∧ F sb := by obtain ⟨A, c, hs, h⟩ := h; exact ⟨A, c, h.blk.cell 1, h.fS⟩
end

/-! ### New -/
def newH (most : Int) : List (Option Addr × Nat) := if newOk most = true then [(none, 0)] else []
def RefNew (most : Int) (w : World) (e : Ending) (w' : World) : Prop :=
  ∃ A c, e = .returned (.tuple #[.agg #[.int .i64 (newM most), .slice A (newL most).length c], .bool (newOk most)]) ∧ w'.ownsRow w.heap.size 25 3 (.slice A (newL most).length c) (newL most).length (((newL most).zip (newH most)).flatMap rtC) ∧ Below w.heap.size w w'
set_option maxHeartbeats 4000000 in
set_option maxRecDepth 100000 in
theorem refNew_any (most : Int) (w : World) : Calls Tryd.prog 11 #[.int .i64 most] w (RefNew most w) := by
  by_cases h : 1 ≤ most ∧ most ≤ 1073741824
  · have e1 : newOk most = true := decide_eq_true h
    have e2 : newM most = most := if_pos e1
    have e3 : newL most = [Rt.none] := if_pos e1
    have e4 : newH most = [(none, 0)] := if_pos e1
    have FIN : Hid (∀ w', Below w.heap.size w w' → Blk w' (w.heap.size + 1) 25 #[.int .i64 0, .int .i64 0, .slice none 0 0] → RefNew most w (.returned (.tuple #[.agg #[.int .i64 most, .slice (some ⟨w.heap.size + 1, 0, none⟩) 1 1], .bool true])) w') := Lib.hid (by
      intro w' hb hk
      refine ⟨some ⟨w.heap.size + 1, 0, none⟩, 1, by rw [e1, e2, e3]; rfl, ?_, hb⟩
      rw [e3, e4]
      exact ⟨rfl, .inr ⟨w.heap.size + 1, 1, _, rfl, by omega, hk, Nat.le_refl _, by unfold maxLen; omega, rfl, rfl⟩⟩)
    obtain ⟨h1, h2⟩ := h
    have h3 : ¬ most < 1 := by omega
    have h4 : ¬ (1073741824 < most) := by omega
    have k0 := Blk.new w 32 #[.int .i64 0, .slice none 0 0]
    have k1 := k0.alloc (.cells #[.int .i64 0, .int .i64 0, .slice none 0 0] 25)
    have j1 := Blk.new (w.alloc (.cells #[.int .i64 0, .slice none 0 0] 32)) 25 #[.int .i64 0, .int .i64 0, .slice none 0 0]
    rw [World.size_alloc] at j1
    have f0 := k1.frozen 0
    have f1 := k1.frozen 1
    have c0 := k1.cell 0
    have c1 := k1.cell 1
    have HU := Lib.hid (below_2 w (.cells #[.int .i64 0, .slice none 0 0] 32) (.cells #[.int .i64 0, .int .i64 0, .slice none 0 0] 25))
    clear e1 e2 e3 e4 k0
    go_enter Tryd.func11, Tryd.ntmps11
    go_wp2
    have j3 := Blk.new (w.alloc (.cells #[.int .i64 most, .slice (some ⟨w.heap.size + 1, 0, none⟩) 1 1] 32)) 25 #[.int .i64 0, .int .i64 0, .slice none 0 0]
    rw [World.size_alloc] at j3
    exact bodyPost_ret (v := .tuple #[.agg #[.int .i64 most, .slice (some ⟨w.heap.size + 1, 0, none⟩) 1 1], .bool true]) (by simp [results, Tryd.results11, go_sem]) rfl (FIN.out _ (below_2 w _ _) j3)
  · have e1 : newOk most = false := decide_eq_false h
    have e2 : newM most = 0 := if_neg (by rw [e1]; simp)
    have e3 : newL most = [] := if_neg (by rw [e1]; simp)
    have e4 : newH most = [] := if_neg (by rw [e1]; simp)
    have FIN : Hid (∀ w', Below w.heap.size w w' → RefNew most w (.returned (.tuple #[.agg #[.int .i64 0, .slice none 0 0], .bool false])) w') := Lib.hid (by
      intro w' hb
      refine ⟨none, 0, by rw [e1, e2, e3]; rfl, ?_, hb⟩
      rw [e3, e4]
      exact World.ownsRow_nil _ _ _ _)
    have k0 := Blk.new w 32 #[.int .i64 0, .slice none 0 0]
    have f0 := k0.frozen 0
    have f1 := k0.frozen 1
    have c0 := k0.cell 0
    have c1 := k0.cell 1
    clear e1 e2 e3 e4
    by_cases h1 : most < 1
    · clear h
      go_enter Tryd.func11, Tryd.ntmps11
      go_wp2
      exact bodyPost_ret (v := .tuple #[.agg #[.int .i64 0, .slice none 0 0], .bool false]) (by simp [results, Tryd.results11, go_sem]) rfl (FIN.out _ (below_new _ _))
    · have h2 : 1073741824 < most := by omega
      clear h
      go_enter Tryd.func11, Tryd.ntmps11
      go_wp2
      exact bodyPost_ret (v := .tuple #[.agg #[.int .i64 0, .slice none 0 0], .bool false]) (by simp [results, Tryd.results11, go_sem]) rfl (FIN.out _ (below_new _ _))
theorem ref_new {most : Int} {w w' : World} {A : Option Addr} {c : Nat} (ho : w'.ownsRow w.heap.size 25 3 (.slice A (newL most).length c) (newL most).length (((newL most).zip (newH most)).flatMap rtC)) (hb : Below w.heap.size w w') :
    RefAt (fun k => (Value.slice A (newL most).length c).ownBlock = some k ∨ k = w'.heap.size) (w'.alloc (.cells #[.int .i64 (newM most), .slice A (newL most).length c] 32)) w'.heap.size (newM most) (newL most) ∧
    NewF (fun k => (Value.slice A (newL most).length c).ownBlock = some k ∨ k = w'.heap.size) w (w'.alloc (.cells #[.int .i64 (newM most), .slice A (newL most).length c] 32)) := by
  have hlt : ∀ g, (Value.slice A (newL most).length c).ownBlock = some g → w.heap.size ≤ g ∧ g < w'.heap.size := ho.lt
  have z := hb.size
  refine ⟨⟨A, c, newH most, ?_⟩, fun k hk => ?_⟩
  · exact
      { lt := fun k hk => by rcases hk with hk | hk; · have := hlt k hk; simp; omega
                             · simp; omega
        fS := .inr rfl
        fR := fun g hg => ⟨.inl hg, by have := hlt g hg; omega⟩
        blk := Blk.new _ _ _
        rows := (own_base ho (Nat.zero_le _)).alloc _
        hl := by unfold newH newL; split <;> rfl
        paths := fun i r q e1 e2 => by
          unfold newL at e1
          unfold newH at e2
          split at e1
          · rename_i hk
            rw [if_pos hk] at e2
            have hi : i = 0 := by have := (List.getElem?_eq_some_iff.1 e1).1; simp at this; omega
            subst hi
            simp at e1 e2
            subst e1 e2
            exact ⟨⟨rfl, CellsAt.nil _ _ _, by simp [Rt.none]⟩, fun a ha => by cases ha⟩
          · simp at e1
        len := by unfold newL; split <;> simp
        zero := fun e => by
          unfold newM at e
          unfold newL
          split
          · rename_i hk
            rw [if_pos hk] at e
            unfold newOk at hk
            have := of_decide_eq_true hk
            omega
          · rfl }
  · rcases hk with hk | hk
    · have := hlt k hk; simp; omega
    · subst hk; simp; omega

/-! ### Get -/
def RefGets (r : Rt) (n : Nat) (w : World) (e : Ending) (w' : World) : Prop := ∃ A c, e = .returned (.agg #[.int .i64 r.kind, .int .i64 r.cost, .slice A n c]) ∧ RtAt w' r A n ∧ Below w.heap.size w w'
set_option maxHeartbeats 4000000 in
set_option maxRecDepth 100000 in
theorem refGet_any {F : Nat → Prop} {sb : Nat} {most : Int} {l : List Rt} {w : World} (h : RefAt F w sb most l) (id : Int) (hid : InI id) (r : Rt) (hg : Hid (getR l id = r)) (n : Nat) (hn : Hid (r.path.length = n)) :
    Calls Tryd.prog 20 #[.pointer (some ⟨sb, 0, none⟩), .int .i64 id] w (RefGets r n w) := by
  obtain ⟨hid1, hid2⟩ := hid
  have hk0 := Blk.new w 25 #[.int .i64 0, .int .i64 0, .slice none 0 0]
  have f0 := hk0.frozen 0
  have f1 := hk0.frozen 1
  have f2 := hk0.frozen 2
  have m0 := hk0.cell 0
  have m1 := hk0.cell 1
  have m2 := hk0.cell 2
  obtain ⟨A, c, hs, h⟩ := h
  have h1 := h.go (below_new w (.cells #[.int .i64 0, .int .i64 0, .slice none 0 0] 25))
  obtain ⟨ln, hln⟩ : ∃ n, l.length = n := ⟨_, rfl⟩
  have c1 := h1.blk.cell 1
  rw [show (#[Value.int .i64 most, .slice A l.length c] : Array Value)[1]? = some (.slice A l.length c) from rfl, hln] at c1
  by_cases h0 : id < 0
  · have HG : r = ⟨0, 0, []⟩ := by rw [← hg.out]; unfold getR; rw [if_pos h0]; rfl
    have e := hn.out
    subst HG
    subst e
    clear h h1 hln hg
    go_enter Tryd.func20, Tryd.ntmps20
    go_wp2
    exact bodyPost_ret (v := .agg #[.int .i64 0, .int .i64 0, .slice none 0 0]) (by simp [results, Tryd.results20, go_sem]) rfl ⟨none, 0, rfl, at_flat _ _ _, below_new w _⟩
  · by_cases h2 : id < ln
    · obtain ⟨i, rfl⟩ := Int.eq_ofNat_of_zero_le (show 0 ≤ id by omega)
      have hr : l[i]? = some r := by
        have := hg.out
        unfold getR at this
        rw [if_neg h0, Int.toNat_natCast, List.getElem?_eq_getElem (by omega)] at this
        rw [List.getElem?_eq_getElem (by omega)]
        simpa using this
      obtain ⟨ad, Ao, co, rfl, hadl, d0, d1, d2, hra⟩ := h1.rts.get hr
      rw [hn.out] at d2 hra
      have hi0 : (0 : Int) ≤ (i : Int) := by omega
      have hi1 : (i : Int) < (ln : Int) := by omega
      have hr0 := h.rts.get hr
      have HW : Hid (∀ W, Below w.heap.size w W → RtAt W r Ao n) := Lib.hid (by
        obtain ⟨ad2, Ao2, co2, hA2, hl2, f0, f1, f2, hra2⟩ := hr0
        injection hA2 with hA2
        subst hA2
        intro W hW
        have q := (below_new w (.cells #[.int .i64 0, .int .i64 0, .slice none 0 0] 25)).cell (p := ⟨(ad.add (i * 3)).block, (ad.add (i * 3)).off + 2, none⟩) (by show (ad.add (i * 3)).block < w.heap.size; rw [block_of_add]; exact hl2)
        rw [d2, f2] at q
        injection q with q
        injection q with g1 _ _
        subst g1
        rw [hn.out] at hra2
        exact hra2.on hW)
      clear h hln hr hg h1 hra hr0
      go_enter Tryd.func20, Tryd.ntmps20
      go_wp2
      exact bodyPost_ret (v := .agg #[.int .i64 r.kind, .int .i64 r.cost, .slice Ao n co]) (by simp [results, Tryd.results20, go_sem]) rfl ⟨Ao, co, rfl, HW.out _ (below_new _ _), below_new _ _⟩
    · have HG : r = ⟨0, 0, []⟩ := by rw [← hg.out]; unfold getR; rw [if_neg h0, List.getElem?_eq_none (by omega)]; rfl
      have e := hn.out
      subst HG
      subst e
      have h3 : (ln : Int) ≤ id := by omega
      clear h h1 hln hg
      go_enter Tryd.func20, Tryd.ntmps20
      go_wp2
      exact bodyPost_ret (v := .agg #[.int .i64 0, .int .i64 0, .slice none 0 0]) (by simp [results, Tryd.results20, go_sem]) rfl ⟨none, 0, rfl, at_flat _ _ _, below_new w _⟩
end Go.Proofs.YtlfdpfkimggeoaaDoor
