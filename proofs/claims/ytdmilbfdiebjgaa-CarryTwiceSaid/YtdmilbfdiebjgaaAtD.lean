/-
  Package attr: Better; the document's Same and Better.
-/
import Derived.Deep.RegionHeld3
import Derived.Test.YtdmilbfdiebjgaaAtC
namespace Go.Proofs.Ytdmilbfdiebjgaa
open Go.RowKit
set_option linter.unusedVariables false
set_option linter.unusedSimpArgs false

theorem below_2 (w : World) (o o' : Obj) : Below w.heap.size w ((w.alloc o).alloc o') := (below_new w o).trans ((below_new (w.alloc o) o').mono (below_new w o).size)
theorem below_on {w w1 w2 : World} (h : Below w.heap.size w w1) (h2 : Below w1.heap.size w1 w2) : Below w.heap.size w w2 := h.trans (h2.mono h.size)

/-- Two routes in boxes. -/
structure Rt2 (w : World) (k c : Int) (A : Option Addr) (n ca : Nat) (k' c' : Int) (B : Option Addr) (m cb : Nat) (W : World) : Prop where
  one : Blk W w.heap.size 42 #[.int .i64 k, .int .i64 c, .slice A n ca]
  two : Blk W (w.heap.size + 1) 42 #[.int .i64 k', .int .i64 c', .slice B m cb]
  up : Below w.heap.size w W
section
variable {w : World} {k c : Int} {A : Option Addr} {n ca : Nat} {k' c' : Int} {B : Option Addr} {m cb : Nat} {W W' : World}
theorem Rt2.new (w : World) (k c : Int) (A : Option Addr) (n ca : Nat) (k' c' : Int) (B : Option Addr) (m cb : Nat) : Rt2 w k c A n ca k' c' B m cb ((w.alloc (.cells #[.int .i64 k, .int .i64 c, .slice A n ca] 42)).alloc (.cells #[.int .i64 k', .int .i64 c', .slice B m cb] 42)) :=
  ⟨(Blk.new w _ _).alloc _, by have := Blk.new (w.alloc (.cells #[.int .i64 k, .int .i64 c, .slice A n ca] 42)) 42 #[.int .i64 k', .int .i64 c', .slice B m cb]; rwa [World.size_alloc] at this, below_2 w _ _⟩
theorem Rt2.go (h : Rt2 w k c A n ca k' c' B m cb W) (hb : Below W.heap.size W W') : Rt2 w k c A n ca k' c' B m cb W' := ⟨h.one.up hb, h.two.up hb, below_on h.up hb⟩
theorem Rt2.drew (h : Rt2 w k c A n ca k' c' B m cb W) : Rt2 w k c A n ca k' c' B m cb W.drew := h.go ((Below.refl _ _).drew)
theorem Rt2.cells (h : Rt2 w k c A n ca k' c' B m cb W) :
    W.cell? ⟨w.heap.size, 0, none⟩ = some (.int .i64 k) ∧ W.cell? ⟨w.heap.size, 1, none⟩ = some (.int .i64 c) ∧ W.cell? ⟨w.heap.size, 2, none⟩ = some (.slice A n ca) ∧ W.cell? ⟨w.heap.size + 1, 0, none⟩ = some (.int .i64 k') ∧ W.cell? ⟨w.heap.size + 1, 1, none⟩ = some (.int .i64 c') ∧ W.cell? ⟨w.heap.size + 1, 2, none⟩ = some (.slice B m cb) :=
  ⟨h.one.cell 0, h.one.cell 1, h.one.cell 2, h.two.cell 0, h.two.cell 1, h.two.cell 2⟩
end

set_option maxHeartbeats 4000000 in
set_option maxRecDepth 100000 in
theorem atBetter_any (a b : Rt) {A B : Option Addr} {n m : Nat} (ca cb : Nat) {w : World} (ha : RtAt w a A n) (hb : RtAt w b B m) :
    Calls Try.prog 38 #[.agg #[.int .i64 a.kind, .int .i64 a.cost, .slice A n ca], .agg #[.int .i64 b.kind, .int .i64 b.cost, .slice B m cb]] w fun e w' => e = .returned (.bool (rtBetter a b)) ∧ Below w.heap.size w w' := by
  have hn := ha.1
  have hm := hb.1
  have hnl := ha.2.2
  have hml := hb.2.2
  obtain ⟨v, hv⟩ : ∃ v, rtBetter a b = v := ⟨_, rfl⟩
  rw [hv]
  unfold rtBetter at hv
  obtain ⟨k, hk⟩ : ∃ k, a.kind = k := ⟨_, rfl⟩
  obtain ⟨k', hk'⟩ : ∃ k, b.kind = k := ⟨_, rfl⟩
  obtain ⟨c, hc⟩ : ∃ k, a.cost = k := ⟨_, rfl⟩
  obtain ⟨c', hc'⟩ : ∃ k, b.cost = k := ⟨_, rfl⟩
  obtain ⟨x, hx⟩ : ∃ k, rtAhead a = k := ⟨_, rfl⟩
  obtain ⟨x', hx'⟩ : ∃ k, rtAhead b = k := ⟨_, rfl⟩
  obtain ⟨y, hy⟩ : ∃ k, rtLen a = k := ⟨_, rfl⟩
  obtain ⟨y', hy'⟩ : ∃ k, rtLen b = k := ⟨_, rfl⟩
  obtain ⟨z, hz⟩ : ∃ z, cmpL a.path b.path = z := ⟨_, rfl⟩
  have HX := Lib.hid hx
  have HX' := Lib.hid hx'
  have HY := Lib.hid hy
  have HY' := Lib.hid hy'
  have HZ := Lib.hid hz
  have pa : ∀ W, Calls Try.prog 58 #[.agg #[.int .i64 k, .int .i64 c, .slice A n ca]] W fun e w' => e = .returned (.int .i64 x) ∧ Below W.heap.size W w' := fun W => by rw [← hk, ← hc]; exact atAhead_is a x HX ca
  have pb : ∀ W, Calls Try.prog 58 #[.agg #[.int .i64 k', .int .i64 c', .slice B m cb]] W fun e w' => e = .returned (.int .i64 x') ∧ Below W.heap.size W w' := fun W => by rw [← hk', ← hc']; exact atAhead_is b x' HX' cb
  have qa : ∀ W, Calls Try.prog 37 #[.agg #[.int .i64 k, .int .i64 c, .slice A n ca]] W fun e w' => e = .returned (.int .i64 y) ∧ Below W.heap.size W w' := fun W => by rw [← hk, ← hc]; exact atLength_is a y HY ca hn
  have qb : ∀ W, Calls Try.prog 37 #[.agg #[.int .i64 k', .int .i64 c', .slice B m cb]] W fun e w' => e = .returned (.int .i64 y') ∧ Below W.heap.size W w' := fun W => by rw [← hk', ← hc']; exact atLength_is b y' HY' cb hm
  have qc : ∀ W, Below w.heap.size w W → Calls Try.prog 59 #[.slice A n ca, .slice B m cb] W fun e w' => e = .returned (.int .i64 z) ∧ W = w' := fun W hW => slCompare_is a.path b.path z HZ hn hm (ha.on hW).2.1 (hb.on hW).2.1 hnl hml
  have PA := Lib.hid pa
  have PB := Lib.hid pb
  have QA := Lib.hid qa
  have QB := Lib.hid qb
  have QC := Lib.hid qc
  rw [hk, hk', hx, hx', hy, hy', hz] at hv
  rw [hk, hk', hc, hc']
  clear pa pb qa qb qc hx hx' hy hy' hk hk' hc hc' hn hm ha hb hz hnl hml
  have h2 := Rt2.new w k c A n ca k' c' B m cb
  obtain ⟨q0, q1, q2, q3, q4, q5⟩ := h2.cells
  have h2d := h2.drew
  by_cases h0 : k = k'
  · subst h0
    have t0 : (k != k) = false := by simp
    rw [if_pos rfl] at hv
    by_cases h1 : y = y'
    · subst h1
      have t1 : (y != y) = false := by simp
      rw [if_pos rfl] at hv
      have H := Lib.hid hv
      clear hv
      go_enter Try.func38, Try.ntmps38
      go_wp2
      go_region_held3 (fun w' => w'.cell? ⟨w.heap.size, 0, none⟩ = some (.int .i64 k) ∧ w'.cell? ⟨w.heap.size, 1, none⟩ = some (.int .i64 c) ∧ w'.cell? ⟨w.heap.size, 2, none⟩ = some (.slice A n ca) ∧ w'.cell? ⟨w.heap.size + 1, 0, none⟩ = some (.int .i64 k) ∧ w'.cell? ⟨w.heap.size + 1, 1, none⟩ = some (.int .i64 c') ∧ w'.cell? ⟨w.heap.size + 1, 2, none⟩ = some (.slice B m cb)) (go_keep) (first
        | (go_at_call 37; (with_reducible refine (QA.out _).mono ?_); rintro e w2 ⟨rfl, hb2⟩; have h3 := h2d.go hb2; obtain ⟨r0, r1, r2, r3, r4, r5⟩ := h3.cells)
        | (go_at_call 37; (with_reducible refine (QB.out _).mono ?_); rintro e w3 ⟨rfl, hb3⟩; have h4 := h3.go hb3; obtain ⟨s0, s1, s2, s3, s4, s5⟩ := h4.cells))
      go_step
      go_wp2_with (go_at_call 59; (with_reducible refine (QC.out _ h4.up).mono ?_); rintro e w5 ⟨rfl, rfl⟩)
      go_ret
      exact ⟨ret_bool H.out, h4.up⟩
    · have t1 : (y != y') = true := by simpa using h1
      rw [if_neg h1] at hv
      have H := Lib.hid hv
      clear hv h1
      go_enter Try.func38, Try.ntmps38
      go_wp2
      go_region_held3 (fun w' => w'.cell? ⟨w.heap.size, 0, none⟩ = some (.int .i64 k) ∧ w'.cell? ⟨w.heap.size, 1, none⟩ = some (.int .i64 c) ∧ w'.cell? ⟨w.heap.size, 2, none⟩ = some (.slice A n ca) ∧ w'.cell? ⟨w.heap.size + 1, 0, none⟩ = some (.int .i64 k) ∧ w'.cell? ⟨w.heap.size + 1, 1, none⟩ = some (.int .i64 c') ∧ w'.cell? ⟨w.heap.size + 1, 2, none⟩ = some (.slice B m cb)) (go_keep) (first
        | (go_at_call 37; (with_reducible refine (QA.out _).mono ?_); rintro e w2 ⟨rfl, hb2⟩; have h3 := h2d.go hb2; obtain ⟨r0, r1, r2, r3, r4, r5⟩ := h3.cells)
        | (go_at_call 37; (with_reducible refine (QB.out _).mono ?_); rintro e w3 ⟨rfl, hb3⟩; have h4 := h3.go hb3; obtain ⟨s0, s1, s2, s3, s4, s5⟩ := h4.cells))
      have h4d := h4.drew
      clear q0 q1 q2 q3 q4 q5 r0 r1 r2 r3 r4 r5 s0 s1 s2 s3 s4 s5 h2d h3
      obtain ⟨q0, q1, q2, q3, q4, q5⟩ := h4.cells
      clear h4
      go_step
      go_wp2_with fail
      go_region_held3 (fun w' => w'.cell? ⟨w.heap.size, 0, none⟩ = some (.int .i64 k) ∧ w'.cell? ⟨w.heap.size, 1, none⟩ = some (.int .i64 c) ∧ w'.cell? ⟨w.heap.size, 2, none⟩ = some (.slice A n ca) ∧ w'.cell? ⟨w.heap.size + 1, 0, none⟩ = some (.int .i64 k) ∧ w'.cell? ⟨w.heap.size + 1, 1, none⟩ = some (.int .i64 c') ∧ w'.cell? ⟨w.heap.size + 1, 2, none⟩ = some (.slice B m cb)) (go_keep) (first
        | (go_at_call 37; (with_reducible refine (QA.out _).mono ?_); rintro e w2 ⟨rfl, hb2⟩; have h3 := h4d.go hb2; obtain ⟨r0, r1, r2, r3, r4, r5⟩ := h3.cells)
        | (go_at_call 37; (with_reducible refine (QB.out _).mono ?_); rintro e w3 ⟨rfl, hb3⟩; have h4 := h3.go hb3; obtain ⟨s0, s1, s2, s3, s4, s5⟩ := h4.cells))
      go_step
      go_wp2
      go_ret
      exact ⟨ret_bool H.out, h4.up⟩
  · have t0 : (k != k') = true := by simpa using h0
    rw [if_neg h0] at hv
    have H := Lib.hid hv
    clear hv h0
    go_enter Try.func38, Try.ntmps38
    go_wp2
    go_region_held3 (fun w' => w'.cell? ⟨w.heap.size, 0, none⟩ = some (.int .i64 k) ∧ w'.cell? ⟨w.heap.size, 1, none⟩ = some (.int .i64 c) ∧ w'.cell? ⟨w.heap.size, 2, none⟩ = some (.slice A n ca) ∧ w'.cell? ⟨w.heap.size + 1, 0, none⟩ = some (.int .i64 k') ∧ w'.cell? ⟨w.heap.size + 1, 1, none⟩ = some (.int .i64 c') ∧ w'.cell? ⟨w.heap.size + 1, 2, none⟩ = some (.slice B m cb)) (go_keep) (first
      | (go_at_call 58; (with_reducible refine (PA.out _).mono ?_); rintro e w2 ⟨rfl, hb2⟩; have h3 := h2d.go hb2; obtain ⟨r0, r1, r2, r3, r4, r5⟩ := h3.cells)
      | (go_at_call 58; (with_reducible refine (PB.out _).mono ?_); rintro e w3 ⟨rfl, hb3⟩; have h4 := h3.go hb3; obtain ⟨s0, s1, s2, s3, s4, s5⟩ := h4.cells))
    go_step
    go_wp2
    go_ret
    exact ⟨ret_bool H.out, h4.up⟩
theorem atBetter_is (a b : Rt) (v : Bool) (H : Hid (rtBetter a b = v)) {A B : Option Addr} {n m ca cb : Nat} {w : World} (ha : RtAt w a A n) (hb : RtAt w b B m) :
    Calls Try.prog 38 #[.agg #[.int .i64 a.kind, .int .i64 a.cost, .slice A n ca], .agg #[.int .i64 b.kind, .int .i64 b.cost, .slice B m cb]] w fun e w' => e = .returned (.bool v) ∧ Below w.heap.size w w' :=
  (atBetter_any a b ca cb ha hb).mono fun _ _ ⟨he, hw⟩ => ⟨by rw [he, H.out], hw⟩
end Go.Proofs.Ytdmilbfdiebjgaa
