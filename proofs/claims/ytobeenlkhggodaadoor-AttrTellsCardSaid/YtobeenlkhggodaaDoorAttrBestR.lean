/-
  AttrBest: the walk behind its three bests.
-/
import Derived.Test.YtobeenlkhggodaaDoorAtS
namespace Go.Proofs.YtobeenlkhggodaaDoor
open Go.RowKit
set_option linter.unusedVariables false
set_option linter.unusedSimpArgs false

/-- The piece of a text at a place. -/
def codeAtA : List Bool → Code → Code
  | [], c => c
  | false :: p, .seq a _ => codeAtA p a
  | true :: p, .seq _ b => codeAtA p b
  | false :: p, .cond _ a _ => codeAtA p a
  | true :: p, .cond _ _ b => codeAtA p b
  | _ :: p, .block _ a => codeAtA p a
  | _ :: p, .loop a => codeAtA p a
  | _ :: p, .scope a => codeAtA p a
  | _, _ => .skip
noncomputable def bestC (p : List Bool) : Code := (Tryd.f5.body.map (codeAtA p)).getD .skip
def hereB (R : List Rt) (b : Rt) (k : Nat) : Bool := decide (R.length = 0) || (R.take k).any fun r => rtSame r b
theorem hereB_next {R : List Rt} {b r : Rt} {k : Nat} (h : R[k]? = some r) : hereB R b (k + 1) = (hereB R b k || rtSame r b) := by
  unfold hereB; rw [List.take_add_one, h, List.any_append]; simp [Bool.or_assoc]
theorem hereB_all {R : List Rt} {b : Rt} (hb : rtBest R = b) {k : Nat} (hk : R.length ≤ k) : hereB R b k = true := by
  unfold hereB
  rw [List.take_of_length_le hk]
  by_cases h : R = []
  · subst h; rfl
  · have hm := rtBest_mem h
    rw [hb] at hm
    rw [Bool.or_eq_true]
    exact .inr (List.any_eq_true.2 ⟨b, hm, same_iff.2 rfl⟩)

set_option maxHeartbeats 8000000 in
set_option maxRecDepth 100000 in
theorem attrBest_rest (w W : World) (R : List Rt) (b b3 : Rt) (A A1 A2 A3 : Option Addr) (j c km g1 g2 g3 n3 c1 c2 c3 : Nat) (B1 : RB w g1 b A1 b.path.length c1 W) (B2 : RB w g2 b A2 b.path.length c2 W) (B3 : RB w g3 b3 A3 n3 c3 W) (hl : RtsAt W A R) (hn : Hid (R.length = j)) (hj : j ≤ 8) (hr : Hid (∀ r ∈ R, rtRight r = true)) (hb : Hid (rtBest R = b)) (hp : Hid (0 < km → km < j → b3 = b)) (hk : km ≤ j)
    (u0 u1 u2 u3 u4 u7 u12 u13 u14 u15 u16 u17 u18 u19 u20 u21 u22 u23 u24 u25 u26 u27 u28 u29 u30 u31 u32 u33 u34 u35 u36 u37 u38 u39 u40 u41 u42 u43 u44 u45 u46 u47 u48 u49 u50 u51 u52 u53 u54 u55 u56 u57 u58 u59 u60 u61 u62 u63 u64 u65 u66 u67 u68 u69 u70 u71 u72 u73 u74 u75 u76 u77 u78 u79 u80 u81 u82 u83 u84 u85 u86 u87 u88 u89 u90 u91 u92 u93 u94 u95 u96 u97 u98 u99 u100 u101 u102 u103 u104 : Value) :
    Code.wp Tryd.prog (bestC [true, true, true, true, true, true, true, true]) (bodyPost Tryd.prog Tryd.f5 (fun e w' => e = .returned (.bool true) ∧ Below w.heap.size w w')) ⟨List.toArray (u0 :: u1 :: u2 :: u3 :: u4 :: .bool true :: .slice A j c :: u7 :: .int .i64 (km : Int) :: .pointer (some ⟨g1, 0, none⟩) :: .pointer (some ⟨g2, 0, none⟩) :: .pointer (some ⟨g3, 0, none⟩) :: u12 :: u13 :: u14 :: u15 :: u16 :: u17 :: u18 :: u19 :: u20 :: u21 :: u22 :: u23 :: u24 :: u25 :: u26 :: u27 :: u28 :: u29 :: u30 :: u31 :: u32 :: u33 :: u34 :: u35 :: u36 :: u37 :: u38 :: u39 :: u40 :: u41 :: u42 :: u43 :: u44 :: u45 :: u46 :: u47 :: u48 :: u49 :: u50 :: u51 :: u52 :: u53 :: u54 :: u55 :: u56 :: u57 :: u58 :: u59 :: u60 :: u61 :: u62 :: u63 :: u64 :: u65 :: u66 :: u67 :: u68 :: u69 :: u70 :: u71 :: u72 :: u73 :: u74 :: u75 :: u76 :: u77 :: u78 :: u79 :: u80 :: u81 :: u82 :: u83 :: u84 :: u85 :: u86 :: u87 :: u88 :: u89 :: u90 :: u91 :: u92 :: u93 :: u94 :: u95 :: u96 :: u97 :: u98 :: u99 :: u100 :: u101 :: u102 :: u103 :: u104 :: []), []⟩ W := by
  conv => arg 2; whnf
  have hj0' : ((j : Int) == 0) = decide (j = 0) := by
    by_cases h : j = 0
    · subst h; rfl
    · rw [decide_eq_false h]; simp; omega
  have hj1' : (j == 0) = decide (j = 0) := by
    by_cases h : j = 0
    · subst h; rfl
    · rw [decide_eq_false h]; simp; omega
  have hh0 : decide (j = 0) = hereB R b 0 := by unfold hereB; rw [hn.out]; simp
  rw [hh0] at hj0' hj1'
  clear hh0
  obtain ⟨a0, a1, a2⟩ := B1.cells
  repeat (first | go_values | go_skip | go_guarded | go_step | go_upon)
  go_loopw [12, 13] (fun s12 s13 wr => ∃ t : Nat, t ≤ j ∧ s13 = .int .i64 (t : Nat) ∧ s12 = .bool (hereB R b t) ∧ RB w g1 b A1 b.path.length c1 wr ∧ RB w g2 b A2 b.path.length c2 wr ∧ RB w g3 b3 A3 n3 c3 wr ∧ RtsAt wr A R) (fun _ s13 _ => j - (intOf s13).toNat)
  case atStart => exact ⟨0, Nat.zero_le _, rfl, rfl, B1, B2, B3, hl⟩
  case round =>
    clear B1 B2 B3 hl a0 a1 a2 hj0' hj1'
    obtain ⟨t, ht, rfl, rfl, B1, B2, B3, hl⟩ := hrel
    obtain ⟨a0, a1, a2⟩ := B1.cells
    obtain ⟨here, hhe⟩ : ∃ v, hereB R b t = v := ⟨_, rfl⟩
    rw [hhe]
    by_cases hlt : t < j
    · obtain ⟨r, hrr⟩ : ∃ r, R[t]? = some r := ⟨_, List.getElem?_eq_getElem (by rw [hn.out]; exact hlt)⟩
      obtain ⟨ad, Ar, cr, rfl, hra, hcc⟩ := hl.gets hrr
      obtain ⟨d0, d1, d2⟩ := hcc wr (Below.refl _ _)
      have hnb := best_no hr.out r (List.mem_of_getElem? hrr)
      rw [hb.out] at hnb
      have HNB := Lib.hid hnb
      obtain ⟨sm, hsm⟩ : ∃ v, rtSame r b = v := ⟨_, rfl⟩
      have HSM := Lib.hid hsm
      have HNX : Hid (hereB R b (t + 1) = (here || sm)) := Lib.hid (by rw [hereB_next hrr, hhe, hsm])
      have HCC := Lib.hid hcc
      have HWR := Lib.hid (Below.refl wr.heap.size wr)
      have t0 : (0 : Int) ≤ (t : Int) := by omega
      have t1 : (t : Int) < (j : Int) := by omega
      have E1 := B1.drew
      have E2 := B2.drew
      have E3 := B3.drew
      have hld := hl.on ((Below.refl wr.heap.size wr).drew)
      have hrd := hra.on ((Below.refl wr.heap.size wr).drew)
      have hwd := (Below.refl wr.heap.size wr).drew
      clear hrr hnb hsm hcc hhe hl hra B2 B3
      go_wp2_with fail
      go_region_held3 (fun w' => w'.cell? (ad.add (t * 3)) = some (.int .i64 r.kind) ∧ w'.cell? ⟨(ad.add (t * 3)).block, (ad.add (t * 3)).off + 1, none⟩ = some (.int .i64 r.cost) ∧ w'.cell? ⟨(ad.add (t * 3)).block, (ad.add (t * 3)).off + 2, none⟩ = some (.slice Ar r.path.length cr) ∧ w'.cell? ⟨g1, 0, none⟩ = some (.int .i64 b.kind) ∧ w'.cell? ⟨g1, 1, none⟩ = some (.int .i64 b.cost) ∧ w'.cell? ⟨g1, 2, none⟩ = some (.slice A1 b.path.length c1)) (go_keep) (first
        | (go_at_call 21; (with_reducible refine (atBetter_is r b false HNB hrd E1.at_).mono ?_); rintro e y1 ⟨rfl, hy1⟩; replace E1 := E1.go hy1; replace E2 := E2.go hy1; replace E3 := E3.go hy1; have hl2 := hld.on hy1; have hr2 := hrd.on hy1; have hw2 := below_on hwd hy1; obtain ⟨a0, a1, a2⟩ := E1.cells; obtain ⟨d0, d1, d2⟩ := HCC.out _ hw2))
      have F1 := E1.drew
      have F2 := E2.drew
      have F3 := E3.drew
      have hw3 := hw2.drew
      have hl3 := hl2.on ((Below.refl y1.heap.size y1).drew)
      have hr3 := hr2.on ((Below.refl y1.heap.size y1).drew)
      clear hld hrd hwd B1
      go_step
      go_wp2_with fail
      cases here
      · go_region_held3 (fun w' => w'.cell? (ad.add (t * 3)) = some (.int .i64 r.kind) ∧ w'.cell? ⟨(ad.add (t * 3)).block, (ad.add (t * 3)).off + 1, none⟩ = some (.int .i64 r.cost) ∧ w'.cell? ⟨(ad.add (t * 3)).block, (ad.add (t * 3)).off + 2, none⟩ = some (.slice Ar r.path.length cr) ∧ w'.cell? ⟨g1, 0, none⟩ = some (.int .i64 b.kind) ∧ w'.cell? ⟨g1, 1, none⟩ = some (.int .i64 b.cost) ∧ w'.cell? ⟨g1, 2, none⟩ = some (.slice A1 b.path.length c1)) (go_keep) (first
          | (go_at_call 20; (with_reducible refine (refSame6_is r b sm HSM hr3 F1.at_).mono ?_); rintro e y2 ⟨rfl, hy2⟩; replace F1 := F1.go hy2; replace F2 := F2.go hy2; replace F3 := F3.go hy2; have hl4 := hl3.on hy2; obtain ⟨a0, a1, a2⟩ := F1.cells; obtain ⟨d0, d1, d2⟩ := HCC.out _ (below_on hw3 hy2)))
        go_step
        go_wp2_with fail
        go_roundw
        case rel => exact ⟨t + 1, by omega, by go_num, by rw [HNX.out]; rfl, F1, F2, F3, hl4⟩
        case measure => simp [intOf]; omega
      · go_quiet (fail)
        go_wp2_with fail
        go_roundw
        case rel => exact ⟨t + 1, by omega, by go_num, by rw [HNX.out]; rfl, E1.go (below_drewN _ _), E2.go (below_drewN _ _), E3.go (below_drewN _ _), hl2.on (below_drewN _ _)⟩
        case measure => simp [intOf]; omega
    · have htj : t = j := by omega
      subst htj
      rw [hereB_all hb.out (by rw [hn.out]; exact Nat.le_refl _)] at hhe
      subst hhe
      obtain ⟨b0, b1, b2⟩ := B2.cells
      obtain ⟨e0, e1, e2⟩ := B3.cells
      have HSB := Lib.hid (same_iff.2 (rfl : b = b))
      have hcase : (((km : Int) == 0) = true) ∨ (((km : Int) == 0) = false ∧ ((km : Int) == (t : Int)) = true ∧ (km == t) = true) ∨ (((km : Int) == 0) = false ∧ ((km : Int) == (t : Int)) = false ∧ (km == t) = false ∧ b3 = b) := by
        by_cases h0 : km = 0
        · exact .inl (by simp [h0])
        · by_cases h1 : km = t
          · exact .inr (.inl ⟨by simp; omega, by simp [h1], by simp [h1]⟩)
          · exact .inr (.inr ⟨by simp; omega, by simp; omega, by simp [h1], hp.out (by omega) (by omega)⟩)
      rcases hcase with c0 | ⟨c0, c1', c2'⟩ | ⟨c0, c1', c2', c3'⟩
      · go_wp2_with (go_at_call 20; (with_reducible refine (refSame6_is b b true HSB B1.at_ B2.at_).mono ?_); rintro e y1 ⟨rfl, hy1⟩; replace B1 := B1.go hy1)
        go_ret
        exact ⟨rfl, B1.up⟩
      · go_wp2_with (go_at_call 20; (with_reducible refine (refSame6_is b b true HSB B1.at_ B2.at_).mono ?_); rintro e y1 ⟨rfl, hy1⟩; replace B1 := B1.go hy1)
        go_ret
        exact ⟨rfl, B1.up⟩
      · subst c3'
        go_wp2_with (first
          | (go_at_call 20; (with_reducible refine (refSame6_is b3 b3 true HSB B1.at_ B2.at_).mono ?_); rintro e y1 ⟨rfl, hy1⟩; replace B1 := B1.go hy1; replace B3 := B3.go hy1; obtain ⟨a0, a1, a2⟩ := B1.cells; obtain ⟨e0, e1, e2⟩ := B3.cells; clear B2)
          | (go_at_call 20; (with_reducible refine (refSame6_is b3 b3 true HSB B1.at_ B3.at_).mono ?_); rintro e y2 ⟨rfl, hy2⟩; replace B1 := B1.go hy2))
        go_ret
        exact ⟨rfl, B1.up⟩

end Go.Proofs.YtobeenlkhggodaaDoor
