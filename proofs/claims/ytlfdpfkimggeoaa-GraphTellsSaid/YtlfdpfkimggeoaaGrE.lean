/-
  Package graph: Other, Cuts.
-/
import Derived.Deep.RegionHeld3
import Derived.Test.YtlfdpfkimggeoaaSets
import Derived.Test.YtlfdpfkimggeoaaGrD
namespace Go.Proofs.Ytlfdpfkimggeoaa
open Go.RowKit
set_option linter.unusedVariables false

section
variable {p : PPlan} {pr ca kk : Int} {An Al Ad Ac : Option Addr} {ln cn ll cl ld cd lc cc : Nat} {w : World}
/-- A set with a link more. -/
noncomputable def orI (f : Int) (k : Nat) : Int := bits .or .i64 f ((ofB [(k : Int)] : Nat) : Int)
theorem cleanB_wrap (x : Int) : cleanB (IntKind.i64.wrap x) = cleanB x := by
  unfold cleanB
  rw [IntKind.wrap_i64]
  omega
theorem cleanB_or (f : Int) (n : Nat) : cleanB (bits .or .i64 f (n : Int)) = cleanB f ||| cleanB (n : Int) := by
  have hk : ∀ z : Int, (((BitVec.ofInt 64 z).toNat : Nat) : Int) = z % 18446744073709551616 := fun z => by
    rw [BitVec.toNat_ofInt]
    simp
    omega
  show cleanB (IntKind.i64.wrap ((BitVec.ofInt 64 f ||| BitVec.ofInt 64 (n : Int)).toNat : Int)) = _
  rw [cleanB_wrap, BitVec.toNat_or]
  have h1 : ∀ z : Int, cleanB z = (BitVec.ofInt 64 z).toNat % 65536 := fun z => by
    have := hk z
    unfold cleanB
    omega
  rw [h1 f, h1 (n : Int)]
  show (((((BitVec.ofInt 64 f).toNat ||| (BitVec.ofInt 64 (n : Int)).toNat : Nat) : Int) % 65536).toNat) = _
  apply Nat.eq_of_testBit_eq
  intro i
  rw [Nat.testBit_or, show ∀ a : Nat, ((a : Int) % 65536).toNat = a % 2 ^ 16 from fun a => by omega, show (65536 : Nat) = 2 ^ 16 by rfl, Nat.testBit_mod_two_pow, Nat.testBit_mod_two_pow, Nat.testBit_mod_two_pow, Nat.testBit_or]
  cases decide (i < 16) <;> simp
theorem hasB_or (f : Int) (k i : Nat) (hk : k < 16) (hi : i < 16) : hasB (orI f k) (i : Int) = (hasB f (i : Int) || decide (i = k)) := by
  rw [hasB_clean _ _ hi, hasB_clean _ _ hi]
  unfold orI
  rw [cleanB_or, Nat.testBit_or, cleanB_nat _ (ofB_lt _), ofB_bits]
  congr 1
  simp [hi]
  omega
/-- Is the link one of the cuts? -/
noncomputable def cutB (p : PPlan) (f : Int) (i : Nat) : Bool := match p.links[i]? with
  | some l => !hasB f (i : Int) && decide (distB (adjB p (orI f i)) p.nodes.length l.a.toNat l.b.toNat = -1)
  | none => false
noncomputable def cutsK (p : PPlan) (f : Int) (k : Nat) : List Nat := (List.range k).filter (cutB p f)
noncomputable def cutsB (p : PPlan) (f : Int) : List Nat := cutsK p f p.links.length
theorem cutsK_yes {p : PPlan} {f : Int} {k : Nat} (h : cutB p f k = true) : cutsK p f (k + 1) = cutsK p f k ++ [k] := by
  simp [cutsK, List.range_succ, List.filter_append, h]
theorem cutsK_no {p : PPlan} {f : Int} {k : Nat} (h : cutB p f k = false) : cutsK p f (k + 1) = cutsK p f k := by
  simp [cutsK, List.range_succ, List.filter_append, h]
theorem cutsK_len (p : PPlan) (f : Int) (k : Nat) : (cutsK p f k).length ≤ k := by
  have := List.length_filter_le (cutB p f) (List.range k)
  simpa [cutsK] using this
theorem cutB_at {p : PPlan} {f : Int} {i : Nat} {l : PLink} (h : p.links[i]? = some l) : cutB p f i = (!hasB f (i : Int) && decide (distB (adjB p (orI f i)) p.nodes.length l.a.toNat l.b.toNat = -1)) := by
  unfold cutB; rw [h]
theorem cell2_new (w : World) (o : Obj) (u : Value) (t : TypeId) : ((w.alloc o).alloc (.cells #[u] t)).cell? ⟨w.heap.size + 1, 0, none⟩ = some u := by
  have h := Blk.cell (Blk.new (w.alloc o) t #[u]) 0
  rw [World.size_alloc] at h
  exact h
theorem Of_one (k : Nat) (A : Option Addr) (W w : World) (hA : ∃ g, A = some ⟨g, 0, none⟩ ∧ w.cell? ⟨g, 0, none⟩ = some (.int .i64 (k : Nat)) ∧ g < w.heap.size) :
    Calls Try.prog 40 #[.slice A 1 1] w fun e w' => e = .returned (.int .i64 (ofB [(k : Int)] : Nat)) ∧ w = w' := by
  obtain ⟨g, rfl, hc, hg⟩ := hA
  refine Of_any (some ⟨g, 0, none⟩) 1 [(k : Int)] w.heap.size w (fun _ => ⟨_, rfl, hg, fun j x hx => ?_⟩) (by simp)
  have hj : j = 0 := by
    have := (List.getElem?_eq_some_iff.1 hx).1
    simp at this; exact this
  subst hj
  simp at hx
  subst hx
  simpa [Addr.add] using hc
set_option maxRecDepth 100000 in
set_option maxHeartbeats 2000000 in
theorem Cuts_ok (f : Int) (L : List Nat) (n : Nat) (HL : Hid (cutsB p f = L)) (HN : Hid (L.length = n)) (HR : Hid (rightB p = true)) (hs : PSmall p) (h : PAt w p pr ca kk An ln Al ll Ad ld Ac lc) :
    Calls Try.prog 19 #[.agg #[.int .i64 pr, .int .i64 ca, .int .i64 kk, .slice An ln cn, .slice Al ll cl, .slice Ad ld cd, .slice Ac lc cc], .int .i64 f] w fun e w' => ∃ A c, e = .returned (.slice A n c) ∧ w'.ownsRow w.heap.size 3 1 (.slice A n c) n (intCells L) ∧ Below w.heap.size w w' := by
  have hgp := gplan_right HR.out
  have hn12 := hgp.n12
  have hl16 := hgp.l16
  rw [h.ln] at hn12
  rw [h.ll] at hl16
  obtain ⟨i0, hi, hz0, hz1, hz2⟩ := info_parts intInfo
  have hbx := below_new w (.cells #[.int .i64 pr, .int .i64 ca, .int .i64 kk, .slice An ln cn, .slice Al ll cl, .slice Ad ld cd, .slice Ac lc cc] 29)
  have h0 := h.up hbx
  have k0 := Blk.new w 29 #[.int .i64 pr, .int .i64 ca, .int .i64 kk, .slice An ln cn, .slice Al ll cl, .slice Ad ld cd, .slice Ac lc cc]
  have HLn := Lib.hid h.ln
  have HLl := Lib.hid h.ll
  have HP := Lib.hid h
  clear h
  go_enter Try.func19, Try.ntmps19
  go_wp2_with (go_at_call 33; (with_reducible refine (Right_is true HR hs h0).mono ?_); rintro e w1 ⟨rfl, hb1⟩; have h1 := h0.up hb1; have k1 := k0.up hb1; obtain ⟨d0, d1, d2, d3, d4, d5, d6⟩ := box7 k1)
  have hb2 : Below w.heap.size w w1 := hbx.trans (hb1.mono hbx.size)
  clear d0 d1 d2 d3 d4 d5 d6 k0 h0 hbx hb1
  go_loopw [5, 15] (fun s5 s15 wr => ∃ k : Nat, k ≤ ll ∧ s15 = .int .i64 (k : Nat) ∧ wr.ownsRow w.heap.size 3 1 s5 (cutsK p f k).length (intCells (cutsK p f k)) ∧ Below w.heap.size w wr ∧ Blk wr w.heap.size 29 #[.int .i64 pr, .int .i64 ca, .int .i64 kk, .slice An ln cn, .slice Al ll cl, .slice Ad ld cd, .slice Ac lc cc]) (fun _ s15 _ => ll - (intOf s15).toNat)
  case atStart => exact ⟨0, Nat.zero_le _, rfl, World.ownsRow_nil _ _ _ _, hb2, k1⟩
  case round =>
    clear hb2 h1 k1
    obtain ⟨k, hk, rfl, hown, hbw, hbk⟩ := hrel
    have hat := HP.out.up hbw
    have hkl := cutsK_len p f k
    by_cases hlt : k < ll
    · obtain ⟨⟨la, lb, lco⟩, hn'⟩ : ∃ n, p.links[k]? = some n := ⟨_, List.getElem?_eq_getElem (by rw [HLl.out]; exact hlt)⟩
      obtain ⟨a, b, ea, eb, hab, hbn⟩ := hgp.link k _ hn'
      dsimp only at ea eb
      subst ea eb
      obtain ⟨g, hAl, hg, c0, c1, c2⟩ := hat.links.link hn'
      dsimp only at c0 c1 c2
      have hct := cutB_at (f := f) hn'
      dsimp only at hct
      rw [HLn.out, Int.toNat_natCast, Int.toNat_natCast] at hct
      rw [HLn.out] at hbn
      obtain ⟨x8, hx8⟩ : ∃ x, orI f k = x := ⟨_, rfl⟩
      rw [hx8] at hct
      unfold orI at hx8
      obtain ⟨d0, d1, d2, d3, d4, d5, d6⟩ := box7 hbk
      have n0 : (0 : Int) ≤ (k : Int) := by omega
      have n1 : (k : Int) < (ll : Int) := by omega
      have hz := hbw.size
      have HX := Lib.hid hx8
      clear hn' hx8
      subst hAl
      obtain ⟨d, hd⟩ : ∃ d, distB (adjB p x8) ln a b = d := ⟨_, rfl⟩
      rw [hd] at hct
      have hix := index_far (distB (adjB p x8) ln a) b (by omega)
      rw [hd] at hix
      obtain ⟨F, hF⟩ : ∃ F, farC (distB (adjB p x8) ln a) = F := ⟨_, rfl⟩
      rw [hF] at hix
      have HF := Lib.hid hF
      have han : a < ln := by omega
      clear hd hF
      obtain ⟨hb, hhb⟩ : ∃ hb, hasB f (k : Int) = hb := ⟨_, rfl⟩
      rw [hhb] at hct
      have HB := Lib.hid hhb
      clear hhb
      go_upto_region 8 with (first
        | (go_at_call 40; (with_reducible refine (Of_one k _ w _ ⟨_, rfl, cell2_new _ _ _ _, by simp⟩).mono ?_); rintro e w3 ⟨rfl, rfl⟩))
      obtain ⟨W, hW⟩ : ∃ W, (wr.alloc (.cells #[.int .i64 (a : Nat), .int .i64 (b : Nat), .int .i64 lco] 53)).alloc (.cells #[.int .i64 (k : Nat)] 3) = W := ⟨_, rfl⟩
      have hbW : Below wr.heap.size wr W := by rw [← hW]; exact ((Below.refl _ wr).alloc (Nat.le_refl _) _).alloc (by simp) _
      have hkW : Blk W wr.heap.size 53 #[.int .i64 (a : Nat), .int .i64 (b : Nat), .int .i64 lco] := by rw [← hW]; exact (Blk.new wr _ _).alloc _
      rw [HX.out, hW]
      have hatW := hat.up hbW
      have hbkW := hbk.up hbW
      have hownW := own_below hown hbW
      have hbwW := hbw.trans (hbW.mono hz)
      clear hW d0 d1 d2 d3 d4 d5 d6 c0 c1 c2 hat hbk hown hbw hz
      obtain ⟨d0, d1, d2, d3, d4, d5, d6⟩ := box7 hbkW
      have l0 := hkW.cell 0
      have l1 := hkW.cell 1
      cases hb with
      | true =>
        have HN2 := Lib.hid (cutsK_no (p := p) (f := f) (k := k) (by rw [hct]; rfl))
        clear hct
        go_quiet ((go_at_call 41; exact Calls.quiet_of_same ((Has_is f (k : Int) true HB _).mono fun _ _ ⟨h1, h2⟩ => ⟨h1, h2.symm⟩)))
        go_wp2
        go_roundw
        case rel => exact ⟨k + 1, by omega, by go_num, by rw [HN2.out]; exact own_below hownW (below_draws (Below.refl _ _) _), hbwW.trans ((below_draws (Below.refl _ _) _).mono hbwW.size), hbkW.up (below_draws (Below.refl _ _) _)⟩
        case measure => simp [intOf]; omega
      | false =>
        by_cases hd1 : d = -1
        · have HY2 := Lib.hid (cutsK_yes (p := p) (f := f) (k := k) (by rw [hct, hd1]; rfl))
          have t1 : (d == -1) = true := by simp [hd1]
          have HAT := Lib.hid (hatW.up ((Below.refl _ W).drew))
          have HBK := Lib.hid (hbkW.up ((Below.refl _ W).drew))
          have HKW := Lib.hid (hkW.up ((Below.refl _ W).drew))
          clear hct hd1
          go_region_held3 (fun w' => w'.cell? ⟨w.heap.size, 0, none⟩ = some (.int .i64 pr) ∧ w'.cell? ⟨w.heap.size, 1, none⟩ = some (.int .i64 ca) ∧ w'.cell? ⟨w.heap.size, 2, none⟩ = some (.int .i64 kk) ∧ w'.cell? ⟨w.heap.size, 3, none⟩ = some (.slice An ln cn) ∧ w'.cell? ⟨w.heap.size, 4, none⟩ = some (.slice (some ⟨g, 0, none⟩) ll cl) ∧ w'.cell? ⟨w.heap.size, 5, none⟩ = some (.slice Ad ld cd) ∧ w'.cell? ⟨w.heap.size, 6, none⟩ = some (.slice Ac lc cc) ∧ w'.cell? ⟨wr.heap.size, 0, none⟩ = some (.int .i64 (a : Nat)) ∧ w'.cell? ⟨wr.heap.size, 1, none⟩ = some (.int .i64 (b : Nat))) (go_keep) (first
            | (go_at_call 41; (with_reducible refine (Has_is f (k : Int) false HB _).mono ?_); rintro e w3 ⟨rfl, rfl⟩)
            | (go_at_call 39; (with_reducible refine (dist_is x8 a F HF HAT.out hgp han).mono ?_); rintro e w4 ⟨rfl, hb4⟩; have ha4 := HAT.out.up hb4; have hl4 := HBK.out.up hb4; have hk4 := HKW.out.up hb4; obtain ⟨f0, f1, f2, f3, f4, f5, f6⟩ := box7 hl4; have m0 := hk4.cell 0; have m1 := hk4.cell 1))
          have hbd := ((Below.refl W.heap.size W).drew).trans (hb4.mono (Nat.le_refl _))
          have hown5 := own_below hownW hbd
          have hbw5 := hbwW.trans (hbd.mono hbwW.size)
          have hbk5 := hl4
          clear hownW hbwW hbkW hbd hbW hkW hatW
          go_step
          go_wp2_with (at_builtin; (refine wpList_append_own _ rfl _ _ 22 rfl w.heap.size 3 i0 (.int .i64 0) 1 8 Try.underlying22 hi hz0 hz1 hz2 rfl (by decide) _ _ _ rfl (own_alloc hown5 _) ⟨w4.heap.size, 0, none⟩ 1 1 [.int .i64 (k : Nat)] rfl rfl (cell_one_new _ _ _) (by simp [Value.oneCell']) (by unfold maxLen; omega) (by omega) (by have := hbw5.size; simp; omega) ?_; intro v' w6 hown6 hgrow6 _; have hbw6 := (hbw5.trans ((below_new w4 _).mono hbw5.size)).grown hgrow6 (by have := hbw5.size; simp; omega) (fun g hg => (hown5.lt g hg).1); have hbk6 := (hbk5.alloc _).grown hgrow6 (fun e1 => own_blk_ne hown5 hbk5 (by decide) e1.symm)))
          go_roundw
          case rel => exact ⟨k + 1, by omega, by go_num, by rw [HY2.out]; simpa [intCells] using hown6, hbw6, hbk6⟩
          case measure => simp [intOf]; omega
        · have HN2 := Lib.hid (cutsK_no (p := p) (f := f) (k := k) (by rw [hct]; simp [hd1]))
          have t1 : (d == -1) = false := by simp [hd1]
          have HAT := Lib.hid (hatW.up ((Below.refl _ W).drew))
          have HBK := Lib.hid (hbkW.up ((Below.refl _ W).drew))
          have HKW := Lib.hid (hkW.up ((Below.refl _ W).drew))
          clear hct hd1
          go_region_held3 (fun w' => w'.cell? ⟨w.heap.size, 0, none⟩ = some (.int .i64 pr) ∧ w'.cell? ⟨w.heap.size, 1, none⟩ = some (.int .i64 ca) ∧ w'.cell? ⟨w.heap.size, 2, none⟩ = some (.int .i64 kk) ∧ w'.cell? ⟨w.heap.size, 3, none⟩ = some (.slice An ln cn) ∧ w'.cell? ⟨w.heap.size, 4, none⟩ = some (.slice (some ⟨g, 0, none⟩) ll cl) ∧ w'.cell? ⟨w.heap.size, 5, none⟩ = some (.slice Ad ld cd) ∧ w'.cell? ⟨w.heap.size, 6, none⟩ = some (.slice Ac lc cc) ∧ w'.cell? ⟨wr.heap.size, 0, none⟩ = some (.int .i64 (a : Nat)) ∧ w'.cell? ⟨wr.heap.size, 1, none⟩ = some (.int .i64 (b : Nat))) (go_keep) (first
            | (go_at_call 41; (with_reducible refine (Has_is f (k : Int) false HB _).mono ?_); rintro e w3 ⟨rfl, rfl⟩)
            | (go_at_call 39; (with_reducible refine (dist_is x8 a F HF HAT.out hgp han).mono ?_); rintro e w4 ⟨rfl, hb4⟩; have ha4 := HAT.out.up hb4; have hl4 := HBK.out.up hb4; have hk4 := HKW.out.up hb4; obtain ⟨f0, f1, f2, f3, f4, f5, f6⟩ := box7 hl4; have m0 := hk4.cell 0; have m1 := hk4.cell 1))
          have hbd := ((Below.refl W.heap.size W).drew).trans (hb4.mono (Nat.le_refl _))
          have hown5 := own_below hownW hbd
          have hbw5 := hbwW.trans (hbd.mono hbwW.size)
          have hbk5 := hl4
          clear hownW hbwW hbkW hbd hbW hkW hatW
          repeat go_step
          go_roundw
          case rel => exact ⟨k + 1, by omega, by go_num, by rw [HN2.out]; exact hown5, hbw5, hbk5⟩
          case measure => simp [intOf]; omega
    · have hkk : k = ll := by omega
      have HK := Lib.hid (show cutsK p f k = L by rw [← HL.out]; unfold cutsB; rw [HLl.out, hkk])
      rw [HK.out, HN.out] at hown
      obtain ⟨A, c, rfl, _⟩ := own_form hown
      have hge : ¬ (k : Int) < (ll : Int) := by omega
      clear hkk
      go_wp2
      go_ret
      exact ⟨A, c, rfl, hown, hbw⟩
end
end Go.Proofs.Ytlfdpfkimggeoaa
