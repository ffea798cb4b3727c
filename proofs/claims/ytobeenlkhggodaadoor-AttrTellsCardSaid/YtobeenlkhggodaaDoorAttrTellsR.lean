/-
  AttrTells: lists of routes with their capacities; the walk behind the list.
-/
import Derived.Test.YtobeenlkhggodaaDoorAttrBestW
namespace Go.Proofs.YtobeenlkhggodaaDoor
open Go.RowKit
set_option linter.unusedVariables false
set_option linter.unusedSimpArgs false

noncomputable def tellsC (p : List Bool) : Code := (Tryd.f3.body.map (codeAtA p)).getD .skip
def CapsOk (l : List Rt) (hs : List (Option Addr × Nat)) : Prop := ∀ (i : Nat) (r : Rt) (q : Option Addr × Nat), l[i]? = some r → hs[i]? = some q → r.path.length ≤ q.2 ∧ q.2 ≤ 9223372036854775807
/-- Routes in memory, their slices with right capacities. -/
def RtsC (w : World) (A : Option Addr) (l : List Rt) : Prop := ∃ hs, RtsH w A l hs ∧ CapsOk l hs
theorem RtsC.on {w w' : World} {A : Option Addr} {l : List Rt} (h : RtsC w A l) (hb : Below w.heap.size w w') : RtsC w' A l := by
  obtain ⟨hs, h1, h2⟩ := h; exact ⟨hs, h1.on hb, h2⟩
theorem RtsC.at_ {w : World} {A : Option Addr} {l : List Rt} (h : RtsC w A l) : RtsAt w A l := by
  obtain ⟨hs, h1, h2⟩ := h; exact h1.at_
theorem RtsC.gets {w : World} {A : Option Addr} {l : List Rt} (h : RtsC w A l) {k : Nat} {r : Rt} (hk : l[k]? = some r) :
    ∃ ad Ao c, A = some ad ∧ RtAt w r Ao r.path.length ∧ r.path.length ≤ c ∧ c ≤ 9223372036854775807 ∧ w.cell? (ad.add (k * 3)) = some (.int .i64 r.kind) ∧ w.cell? ⟨(ad.add (k * 3)).block, (ad.add (k * 3)).off + 1, none⟩ = some (.int .i64 r.cost) ∧ w.cell? ⟨(ad.add (k * 3)).block, (ad.add (k * 3)).off + 2, none⟩ = some (.slice Ao r.path.length c) := by
  obtain ⟨hs, ⟨h1, h2, h3⟩, h4⟩ := h
  have hlt := (List.getElem?_eq_some_iff.1 hk).1
  obtain ⟨q, hq⟩ : ∃ q, hs[k]? = some q := ⟨_, List.getElem?_eq_getElem (by omega)⟩
  have hz : (l.zip hs)[k]? = some (r, q) := by rw [List.getElem?_zip_eq_some]; exact ⟨hk, hq⟩
  have hr := rows_at rtC 3 (fun _ => rfl) (l.zip hs) k (r, q) hz
  have hne : (l.zip hs).flatMap rtC ≠ [] := by
    intro e
    have := hr 0 _ rfl
    rw [e] at this
    simp at this
  obtain ⟨ad, hA, hb, hc⟩ := h2 hne
  have c0 := hc _ _ (hr 0 _ rfl)
  have c1 := hc _ _ (hr 1 _ rfl)
  have c2 := hc _ _ (hr 2 _ rfl)
  rw [Nat.add_zero] at c0
  rw [← add_of_add] at c1 c2
  obtain ⟨k1, k2⟩ := h4 k r q hk hq
  exact ⟨ad, q.1, q.2, hA, h3 k r q hk hq, k1, k2, c0, c1, c2⟩
def TOwn (B : Nat) (w : World) (A : Option Addr) (n c : Nat) (l : List Rt) : Prop :=
  ∃ hs : List (Option Addr × Nat), hs.length = l.length ∧ l.length = n ∧ w.ownsRow B 24 3 (.slice A n c) n ((l.zip hs).flatMap rtC) ∧ (∀ r ∈ l, rtRight r = true) ∧ B ≤ w.heap.size ∧ (∀ (i : Nat) (r : Rt) (h : Option Addr × Nat), l[i]? = some r → hs[i]? = some h → PathAt B w r h.1 h.2) ∧ CapsOk l hs
theorem TOwn.nil (B : Nat) (w : World) (hB : B ≤ w.heap.size) : TOwn B w none 0 0 [] := ⟨[], rfl, rfl, World.ownsRow_nil _ _ _ _, fun r h => by (cases h), hB, fun i r h e => by simp at e, fun i r h e => by simp at e⟩
theorem TOwn.c {B : Nat} {w : World} {A : Option Addr} {n c : Nat} {l : List Rt} (h : TOwn B w A n c l) : RtsC w A l := by
  obtain ⟨hs, h1, h2, h3, h4, h5, h6, h7⟩ := h
  exact ⟨hs, ⟨h1, (RowAt.of_own h3).cells, fun i r q e1 e2 => (h6 i r q e1 e2).at_ h5 (by have := rt_len (h4 r (List.mem_of_getElem? e1)); omega)⟩, h7⟩
theorem TOwn.next {B : Nat} {w w' : World} {hs : List (Option Addr × Nat)} {A A' : Option Addr} {n c c' : Nat} {l : List Rt} (h1 : hs.length = l.length) (h2 : l.length = n) (h3 : w.ownsRow B 24 3 (.slice A n c) n ((l.zip hs).flatMap rtC)) (h4 : ∀ r ∈ l, rtRight r = true) (h5 : B ≤ w.heap.size) (h6 : ∀ (i : Nat) (r : Rt) (h : Option Addr × Nat), l[i]? = some r → hs[i]? = some h → PathAt B w r h.1 h.2) (h7 : CapsOk l hs)
    {r : Rt} {Ar : Option Addr} {cr : Nat} (hr : PathAt B w r Ar cr) (hcap : r.path.length ≤ cr ∧ cr ≤ 9223372036854775807) (hrr : rtRight r = true) (ho : w'.ownsRow B 24 3 (.slice A' (n + 1) c') (n + 1) ((l.zip hs).flatMap rtC ++ rtC (r, (Ar, cr)))) (hg : w.grownBy w' (Value.slice A n c).ownBlock) : TOwn B w' A' (n + 1) c' (l ++ [r]) := by
  have key : ∀ (i : Nat) (x : Rt) (q : Option Addr × Nat), (l ++ [r])[i]? = some x → (hs ++ [(Ar, cr)])[i]? = some q → (l[i]? = some x ∧ hs[i]? = some q) ∨ (x = r ∧ q = (Ar, cr)) := by
    intro i x q e1 e2
    by_cases hi : i < l.length
    · rw [List.getElem?_append_left hi] at e1
      rw [List.getElem?_append_left (by omega)] at e2
      exact .inl ⟨e1, e2⟩
    · have hi2 : i = l.length := by
        have := (List.getElem?_eq_some_iff.1 e1).1
        simp at this; omega
      subst hi2
      rw [List.getElem?_append_right (Nat.le_refl _), Nat.sub_self] at e1
      rw [List.getElem?_append_right (by omega), h1, Nat.sub_self] at e2
      simp at e1 e2
      exact .inr ⟨e1.symm, e2.symm⟩
  refine ⟨hs ++ [(Ar, cr)], by simp [h1], by simp [h2], ?_, ?_, Nat.le_trans h5 hg.size, fun i x q e1 e2 => ?_, fun i x q e1 e2 => ?_⟩
  · rw [List.zip_append h1.symm, List.flatMap_append]
    simpa using ho
  · intro x hx
    rcases List.mem_append.1 hx with hx | hx
    · exact h4 x hx
    · rw [List.mem_singleton] at hx; rw [hx]; exact hrr
  · rcases key i x q e1 e2 with ⟨e3, e4⟩ | ⟨e3, e4⟩
    · exact (h6 i x q e3 e4).grown h5 h3 hg
    · subst e3 e4; exact hr.grown h5 h3 hg
  · rcases key i x q e1 e2 with ⟨e3, e4⟩ | ⟨e3, e4⟩
    · exact h7 i x q e3 e4
    · subst e3 e4; exact hcap
theorem refbest_call (R : List Rt) (b : Rt) (HB : Hid (rtBest R = b)) (n : Nat) (HN : Hid (R.length = n)) (hr : ∀ r ∈ R, rtRight r = true) {A : Option Addr} {c : Nat} {w : World} (h : RtsAt w A R) (hn : n ≤ 4096) :
    Calls Tryd.prog 24 #[.slice A n c] w (RtTells b w) := by
  have h1 := HB.out
  have h2 := HN.out
  subst h1 h2
  exact refBest6_any R hr A c w h hn
/-- Where a route of the list stands: its box's call of Right. -/
theorem RB.right {w : World} {g : Nat} {r : Rt} {A : Option Addr} {n c : Nat} {W : World} (h : RB w g r A n c W) (b : Bool) (H : Hid (rtRight r = b)) (hl : n ≤ c) (hc : c ≤ 9223372036854775807) :
    Calls Tryd.prog 12 #[.agg #[.int .i64 r.kind, .int .i64 r.cost, .slice A n c]] W fun e w' => e = .returned (.bool b) ∧ Below W.heap.size W w' := atRight_is r b H h.at_ hl hc

set_option maxHeartbeats 8000000 in
set_option maxRecDepth 100000 in
theorem tells_rest (w W : World) (R : List Rt) (b : Rt) (A : Option Addr) (j c : Nat) (hl : RtsC W A R) (hn : Hid (R.length = j)) (hj : j ≤ 7) (hr : Hid (∀ r ∈ R, rtRight r = true)) (hb : Hid (rtBest R = b)) (hu : Below w.heap.size w W) (hT : PowTab w)
    (u0 u1 u2 u3 u4 u7 u8 u9 u10 u11 u12 u13 u14 u15 u16 u17 u18 u19 u20 u21 u22 u23 u24 u25 u26 u27 u28 u29 u30 u31 u32 u33 u34 u35 u36 u37 u38 u39 u40 u41 u42 u43 u44 u45 u46 u47 u48 u49 u50 u51 u52 u53 u54 u55 u56 u57 u58 u59 u60 u61 u62 u63 u64 u65 u66 u67 u68 u69 u70 u71 u72 u73 u74 u75 u76 u77 u78 u79 u80 u81 u82 u83 u84 u85 u86 u87 u88 u89 u90 u91 u92 u93 u94 u95 u96 u97 u98 u99 u100 u101 u102 : Value) :
    Code.wp Tryd.prog (tellsC [true, true, true, true, true, true]) (bodyPost Tryd.prog Tryd.f3 (fun e w' => e = .returned (.bool true) ∧ Below w.heap.size w w')) ⟨List.toArray (u0 :: u1 :: u2 :: u3 :: u4 :: .bool true :: .slice A j c :: u7 :: u8 :: u9 :: u10 :: u11 :: u12 :: u13 :: u14 :: u15 :: u16 :: u17 :: u18 :: u19 :: u20 :: u21 :: u22 :: u23 :: u24 :: u25 :: u26 :: u27 :: u28 :: u29 :: u30 :: u31 :: u32 :: u33 :: u34 :: u35 :: u36 :: u37 :: u38 :: u39 :: u40 :: u41 :: u42 :: u43 :: u44 :: u45 :: u46 :: u47 :: u48 :: u49 :: u50 :: u51 :: u52 :: u53 :: u54 :: u55 :: u56 :: u57 :: u58 :: u59 :: u60 :: u61 :: u62 :: u63 :: u64 :: u65 :: u66 :: u67 :: u68 :: u69 :: u70 :: u71 :: u72 :: u73 :: u74 :: u75 :: u76 :: u77 :: u78 :: u79 :: u80 :: u81 :: u82 :: u83 :: u84 :: u85 :: u86 :: u87 :: u88 :: u89 :: u90 :: u91 :: u92 :: u93 :: u94 :: u95 :: u96 :: u97 :: u98 :: u99 :: u100 :: u101 :: u102 :: []), []⟩ W := by
  have HBL : Hid (b.path.length ≤ 9223372036854775807) := Lib.hid (by rw [← hb.out]; have := rt_len (best_right hr.out); omega)
  have HSB := Lib.hid (same_iff.2 (rfl : b = b))
  conv => arg 2; whnf
  repeat (first | go_values | go_skip | go_guarded | go_step | go_upon)
  go_loopw [8] (fun s8 wr => ∃ t : Nat, t ≤ j ∧ s8 = .int .i64 (t : Nat) ∧ RtsC wr A R ∧ Below w.heap.size w wr) (fun s8 _ => j - (intOf s8).toNat)
  case atStart => exact ⟨0, Nat.zero_le _, rfl, hl, hu⟩
  case round =>
    clear hl hu
    obtain ⟨t, ht, rfl, hl, hu⟩ := hrel
    by_cases hlt : t < j
    · obtain ⟨r, hrr⟩ : ∃ r, R[t]? = some r := ⟨_, List.getElem?_eq_getElem (by rw [hn.out]; exact hlt)⟩
      obtain ⟨ad, Ar, cr, rfl, hra, hcap, hcapm, d0, d1, d2⟩ := hl.gets hrr
      have HRT := Lib.hid (hr.out r (List.mem_of_getElem? hrr))
      obtain ⟨s, hs⟩ : ∃ s, rtS r = s := ⟨_, rfl⟩
      have HS := Lib.hid hs
      obtain ⟨v, hv⟩ : ∃ v, rtLen r = v := ⟨_, rfl⟩
      have HV := Lib.hid hv
      obtain ⟨nr, hnr⟩ : ∃ n, r.path.length = n := ⟨_, rfl⟩
      rw [hnr] at hra hcap d2
      have HNR := Lib.hid hnr
      have t0 : (0 : Int) ≤ (t : Int) := by omega
      have t1 : (t : Int) < (j : Int) := by omega
      have B1 := RB.new (c := cr) hu hT (Below.refl wr.heap.size wr) hra
      have hl1 := hl.on (below_new wr (.cells #[.int .i64 r.kind, .int .i64 r.cost, .slice Ar nr cr] 24))
      have E1 := B1.drew
      have hld := hl1.on ((Below.refl _ _).drew)
      obtain ⟨a0, a1, a2⟩ := B1.cells
      clear hrr hs hv hl hra hl1 hnr hu
      go_wp2_with fail
      go_region_held3 (fun w' => w'.cell? ⟨wr.heap.size, 0, none⟩ = some (.int .i64 r.kind) ∧ w'.cell? ⟨wr.heap.size, 1, none⟩ = some (.int .i64 r.cost) ∧ w'.cell? ⟨wr.heap.size, 2, none⟩ = some (.slice Ar nr cr)) (go_keep) (first
        | (go_at_call 12; (with_reducible refine (RB.right E1 true HRT hcap hcapm).mono ?_); rintro e y1 ⟨rfl, hy1⟩; replace E1 := E1.go hy1; replace hld := hld.on hy1; obtain ⟨a0, a1, a2⟩ := E1.cells)
        | (go_at_call 15; (with_reducible refine (atPrint_is r s HS HRT E1.at_ E1.tab).mono ?_); rintro e y2 ⟨rfl, hy2⟩; replace E1 := E1.go hy2; replace hld := hld.on hy2; obtain ⟨a0, a1, a2⟩ := E1.cells)
        | (go_at_call 16; (with_reducible refine (refPrint6_is r s HS HRT E1.at_).mono ?_); rintro e y3 ⟨rfl, hy3⟩; replace E1 := E1.go hy3; replace hld := hld.on hy3; obtain ⟨a0, a1, a2⟩ := E1.cells)
        | (go_at_call 17; (with_reducible refine (atLength_is r v HV cr HNR.out).mono ?_); rintro e y4 ⟨rfl, hy4⟩; replace E1 := E1.go hy4; replace hld := hld.on hy4; obtain ⟨a0, a1, a2⟩ := E1.cells)
        | (go_at_call 18; (with_reducible refine (refLength_is r v HV cr HNR.out).mono ?_); rintro e y5 ⟨rfl, hy5⟩; replace E1 := E1.go hy5; replace hld := hld.on hy5; have hld5 := hld; obtain ⟨a0, a1, a2⟩ := E1.cells))
      have hu2 := E1.up
      clear hld a0 a1 a2
      have hl2 : RtsC y5 (some ad) R := by assumption
      go_step
      go_wp2_with fail
      obtain ⟨g, hg⟩ : ∃ g, wr.heap.size = g := ⟨_, rfl⟩
      rw [hg] at E1 ⊢
      clear hg
      go_loopw [10] (fun s10 wr => ∃ k : Nat, k ≤ j ∧ s10 = .int .i64 (k : Nat) ∧ RB w g r Ar nr cr wr ∧ RtsC wr (some ad) R) (fun s10 _ => j - (intOf s10).toNat)
      case atStart => exact ⟨0, Nat.zero_le _, rfl, E1, hl2⟩
      case round =>
        clear E1 hl2 hld5 hu2
        obtain ⟨k, hk, rfl, B1, hl⟩ := hrel
        by_cases hlk : k < j
        · obtain ⟨x, hxx⟩ : ∃ x, R[k]? = some x := ⟨_, List.getElem?_eq_getElem (by rw [hn.out]; exact hlk)⟩
          obtain ⟨ad2, Ax, cx, hade, hxa, hxc, hxcm, d0, d1, d2⟩ := hl.gets hxx
          injection hade with hade
          subst hade
          have HXT := Lib.hid (hr.out x (List.mem_of_getElem? hxx))
          obtain ⟨sm, hsm⟩ : ∃ v, rtSame r x = v := ⟨_, rfl⟩
          have HSM := Lib.hid hsm
          obtain ⟨bt, hbt⟩ : ∃ v, rtBetter r x = v := ⟨_, rfl⟩
          have HBT := Lib.hid hbt
          obtain ⟨nx, hnx⟩ : ∃ n, x.path.length = n := ⟨_, rfl⟩
          rw [hnx] at hxa hxc d2
          have k0 : (0 : Int) ≤ (k : Int) := by omega
          have k1 : (k : Int) < (j : Int) := by omega
          have B2 := RB.new (c := cx) B1.up hT (Below.refl wr.heap.size wr) hxa
          have hl1 := hl.on (below_new wr (.cells #[.int .i64 x.kind, .int .i64 x.cost, .slice Ax nx cx] 24))
          have B1n := B1.alloc (.cells #[.int .i64 x.kind, .int .i64 x.cost, .slice Ax nx cx] 24)
          have F1 := B1n.drew
          have F2 := B2.drew
          have hkd := hl1.on ((Below.refl _ _).drew)
          obtain ⟨a0, a1, a2⟩ := B1n.cells
          obtain ⟨b0, b1, b2⟩ := B2.cells
          clear hxx hsm hbt hl hxa hl1 hnx B1
          go_wp2_with fail
          go_region_held3 (fun w' => w'.cell? ⟨g, 0, none⟩ = some (.int .i64 r.kind) ∧ w'.cell? ⟨g, 1, none⟩ = some (.int .i64 r.cost) ∧ w'.cell? ⟨g, 2, none⟩ = some (.slice Ar nr cr) ∧ w'.cell? ⟨wr.heap.size, 0, none⟩ = some (.int .i64 x.kind) ∧ w'.cell? ⟨wr.heap.size, 1, none⟩ = some (.int .i64 x.cost) ∧ w'.cell? ⟨wr.heap.size, 2, none⟩ = some (.slice Ax nx cx)) (go_keep) (first
            | (go_at_call 19; (with_reducible refine (atSame_is r x sm HSM F1.at_ F2.at_).mono ?_); rintro e z1 ⟨rfl, hz1⟩; replace F1 := F1.go hz1; replace F2 := F2.go hz1; replace hkd := hkd.on hz1; obtain ⟨a0, a1, a2⟩ := F1.cells; obtain ⟨b0, b1, b2⟩ := F2.cells)
            | (go_at_call 20; (with_reducible refine (refSame6_is r x sm HSM F1.at_ F2.at_).mono ?_); rintro e z2 ⟨rfl, hz2⟩; replace F1 := F1.go hz2; replace F2 := F2.go hz2; replace hkd := hkd.on hz2; obtain ⟨a0, a1, a2⟩ := F1.cells; obtain ⟨b0, b1, b2⟩ := F2.cells)
            | (go_at_call 21; (with_reducible refine (atBetter_is r x bt HBT F1.at_ F2.at_).mono ?_); rintro e z3 ⟨rfl, hz3⟩; replace F1 := F1.go hz3; replace F2 := F2.go hz3; replace hkd := hkd.on hz3; obtain ⟨a0, a1, a2⟩ := F1.cells; obtain ⟨b0, b1, b2⟩ := F2.cells)
            | (go_at_call 22; (with_reducible refine (refBetter6_is r x bt HBT HRT HXT F1.at_ F2.at_).mono ?_); rintro e z4 ⟨rfl, hz4⟩; replace F1 := F1.go hz4; replace F2 := F2.go hz4; replace hkd := hkd.on hz4; obtain ⟨a0, a1, a2⟩ := F1.cells; obtain ⟨b0, b1, b2⟩ := F2.cells))
          go_step
          go_wp2_with fail
          exact ⟨⟨k + 1, by omega, by go_num, F1, hkd⟩, by simp [intOf]; omega⟩
        · have hkj : k = j := by omega
          subst hkj
          go_wp2_with fail
          go_roundw
          case rel => exact ⟨t + 1, by omega, by go_num, hl, B1.up⟩
          case measure => simp [intOf]; omega
    · have htj : t = j := by omega
      subst htj
      go_wp2_with (first
        | (go_at_call 23; (with_reducible refine (best_call R b hb t hn hr.out hl.at_ (by omega)).mono ?_); rintro e y1 ⟨Ab, cb, rfl, ho, hle, hy1⟩; have h1 : RtAt y1 b Ab b.path.length := ⟨rfl, (RowAt.of_own ho).cells, HBL.out⟩; have hl1 := hl.at_.on hy1; have hu1 := below_on hu hy1)
        | (go_at_call 24; (with_reducible refine (refbest_call R b hb t hn hr.out hl1 (by omega)).mono ?_); rintro e y2 ⟨A2, c2, rfl, h2, hy2⟩; have h3 := h1.on hy2; have hu2 := below_on hu1 hy2)
        | (go_at_call 20; (with_reducible refine (refSame6_is b b true HSB h3 h2).mono ?_); rintro e y3 ⟨rfl, hy3⟩; have hu3 := below_on hu2 hy3))
      go_ret
      exact ⟨rfl, hu3⟩
end Go.Proofs.YtobeenlkhggodaaDoor
