/-
  The document's own answers of layer 1: Clean, Has, List, Size.
-/
import Derived.Test.YtfnjpgkoccefbaaAppend
import Derived.Test.YtfnjpgkoccefbaaBitsWideW
namespace Go.Proofs.Ytfnjpgkoccefbaa
open Go.RowKit Go.Sort

theorem tmod_parts (f : Int) : -65536 < f.tmod 65536 ∧ f.tmod 65536 < 65536 ∧ (f.tmod 65536 + 65536) % 65536 = (cleanB f : Int) := by
  unfold cleanB
  by_cases h : 0 ≤ f
  · rw [Int.tmod_eq_emod_of_nonneg h]; omega
  · have e : f.tmod 65536 = -((-f) % 65536) := by
      rw [← Int.tmod_eq_emod_of_nonneg (a := -f) (by omega), Int.neg_tmod, Int.neg_neg]
    rw [e]; omega

theorem Clean_any (f : Int) (w : World) :
    Calls Try.prog 33 #[.int .i64 f] w fun e w' => e = .returned (.int .i64 (cleanB f : Int)) ∧ w' = w := by
  obtain ⟨h1, h2, h3⟩ := tmod_parts f
  have H3 := Lib.hid h3
  clear h3
  go_enter Try.func33, Try.ntmps33
  go_wp2
  go_ret
  exact ⟨ret_int H3.out, rfl⟩

set_option maxHeartbeats 800000 in
theorem refHas_yes (f : Int) (l : Nat) (w : World) (h : l < 16) :
    Calls Try.prog 19 #[.int .i64 f, .int .i64 (l : Int)] w fun e w' => e = .returned (.bool (hasB f l)) ∧ ∃ n, w' = w.drewN n := by
  have hp := pow16 l (by omega)
  have hp1 : 1 ≤ 2 ^ l := Nat.one_le_two_pow
  have hs := shl_one l (by omega)
  have hc := cleanB_lt f
  obtain ⟨c, hcc⟩ : ∃ c, cleanB f = c := ⟨_, rfl⟩
  obtain ⟨p, hpp⟩ : ∃ p, 2 ^ l = p := ⟨_, rfl⟩
  have hv : hasB f l = (((c : Int) / (p : Int)) % 2 == 1) := by
    rw [hasB_clean f l h, Nat.testBit_eq_decide_div_mod_eq, hcc, hpp]
    rw [Bool.eq_iff_iff]
    simp
    omega
  rw [hcc] at hc
  rw [hpp] at hp hp1 hs
  have HV := Lib.hid hv
  have HC := Lib.hid hcc
  clear hv hcc hpp
  go_enter Try.func19, Try.ntmps19
  go_wp2
  go_quiet ((go_at_call 33; exact Calls.quiet_of_same (HC.out ▸ Clean_any f _)))
  go_wp2
  go_ret
  refine ⟨ret_bool ?_, nq, rfl⟩
  rw [HV.out]
  have hq1 : 0 ≤ (c : Int) / (p : Int) := Int.ediv_nonneg (by omega) (by omega)
  have hq2 : (c : Int) / (p : Int) ≤ c := Int.ediv_le_self _ (by omega)
  rw [IntWalk.wrap64_in _ (by omega), Int.tmod_eq_emod_of_nonneg hq1]

set_option maxHeartbeats 400000 in
theorem refHas_no (f l : Int) (w : World) (h : ¬ (0 ≤ l ∧ l < 16)) :
    Calls Try.prog 19 #[.int .i64 f, .int .i64 l] w fun e w' => e = .returned (.bool (hasB f l)) ∧ ∃ n, w' = w.drewN n := by
  have hv : hasB f l = false := by
    have : (decide (0 ≤ l) && decide (l < 16)) = false := by simp; omega
    unfold hasB
    rw [this]; rfl
  rw [hv]
  by_cases h0 : l < 0
  · clear h
    go_enter Try.func19, Try.ntmps19
    go_wp2
    go_ret
    exact ⟨rfl, 0, rfl⟩
  · have h1 : 16 ≤ l := by omega
    clear h
    go_enter Try.func19, Try.ntmps19
    go_wp2
    go_ret
    exact ⟨rfl, 0, rfl⟩

theorem refHas_any (f l : Int) (w : World) :
    Calls Try.prog 19 #[.int .i64 f, .int .i64 l] w fun e w' => e = .returned (.bool (hasB f l)) ∧ ∃ n, w' = w.drewN n := by
  by_cases h : 0 ≤ l ∧ l < 16
  · obtain ⟨n, rfl⟩ := Int.eq_ofNat_of_zero_le h.1
    exact refHas_yes f n w (by omega)
  · exact refHas_no f l w h
/-- The document's Has, its answer named; nothing older turns. -/
theorem refHas_is (f l : Int) (b : Bool) (H : Hid (hasB f l = b)) {B : Nat} {w0 w : World} (hb : Below B w0 w) :
    Calls Try.prog 19 #[.int .i64 f, .int .i64 l] w fun e w' => e = .returned (.bool b) ∧ ∃ n, w' = w.drewN n ∧ Below B w0 w' :=
  (refHas_any f l w).mono fun _ _ ⟨he, n, hw⟩ => ⟨by rw [he, show hasB f l = b from H], n, hw, hw ▸ below_draws hb n⟩

theorem ownsRow_block {W : World} {base : Nat} {e : TypeId} {size : Nat} {v : Value} {k : Nat} {xs : List Value} (h : W.ownsRow base e size v k xs) {g : Nat} (hg : v.ownBlock = some g) : base ≤ g := by
  rcases h.2 with ⟨rfl, _⟩ | ⟨g', cap, cur, rfl, hb, _, _⟩
  · simp [Value.ownBlock] at hg
  · have : g' = g := by simpa [Value.ownBlock] using hg
    omega

/-- The document's List: a slice of the links, in memory of its own. -/
def RefLists (w : World) (l : List Nat) (e : Ending) (w' : World) : Prop :=
  ∃ v, e = .returned v ∧ w'.ownsRow w.heap.size 3 1 v l.length (intCells l) ∧ Below w.heap.size w w'

set_option maxRecDepth 100000 in
set_option maxHeartbeats 1000000 in
theorem refList_any (f : Int) (w : World) : Calls Try.prog 17 #[.int .i64 f] w (RefLists w (linksB f)) := by
  obtain ⟨i0, hi, hz0, hz1, hz2⟩ := info_parts intInfo
  go_enter Try.func17, Try.ntmps17
  go_wp2
  go_loopw [3, 4] (fun v i wr => ∃ j : Nat, j ≤ 16 ∧ i = .int .i64 j ∧ wr.ownsRow w.heap.size 3 1 v (uptoB f j).length (intCells (uptoB f j)) ∧ Below w.heap.size w wr) (fun _ i _ => 16 - (intOf i).toNat)
  case atStart => exact ⟨0, by omega, rfl, World.ownsRow_nil _ _ _ _, Below.refl _ _⟩
  case round =>
    obtain ⟨j, hj, rfl, hown, hb⟩ := hrel
    have hul := uptoB_len f j
    have hbs := hb.size
    by_cases hlt : j < 16
    · obtain ⟨p, hp⟩ : ∃ p, hasB f (j : Int) = p := ⟨_, rfl⟩
      have P := Lib.hid hp
      cases p
      · have HU := Lib.hid (uptoB_no f j hp)
        clear hp
        go_wp2_with (go_at_call 19; refine (refHas_is _ _ _ P hb).mono ?_; rintro e w2 ⟨rfl, nq, rfl, hb2⟩)
        go_roundw
        case rel => exact ⟨j + 1, by omega, by go_num, by rw [HU.out]; exact hown, hb2⟩
        case measure => simp [intOf]; omega
      · have HU := Lib.hid (uptoB_yes f j hp)
        clear hp
        go_wp2_with (first
          | (go_at_call 19; refine (refHas_is _ _ _ P hb).mono ?_; rintro e w2 ⟨rfl, nq, rfl, hb2⟩)
          | (at_builtin
             refine wpList_append_ints _ rfl (.tmp 12) (.tmp 14) _ rfl w.heap.size 3 i0 (.int .i64 0) Try.underlying22 hi hz0 hz1 hz2 rfl _ (uptoB f j).length _ rfl (World.ownsRow.alloc (w := wr.drewN nq) hown _) _ (some ⟨wr.heap.size, 0, none⟩) 1 1 [(j : Int)] rfl rfl (intsAt_new (wr.drewN nq) [(j : Int)] 3) (by omega) (by simp; omega) ?_
             intro v2 w5 hown2 hg2 hat2))
        go_roundw
        case rel =>
          refine ⟨j + 1, by omega, by go_num, ?_, ?_⟩
          · rw [HU.out]; simpa [intCells] using hown2
          · exact (hb2.alloc hb2.size _).grown hg2 (by have := hb2.size; simp at this ⊢; omega) (fun k hk => ownsRow_block hown hk)
        case measure => simp [intOf]; omega
    · have HJ := Lib.hid (show j = 16 by omega)
      go_wp2
      go_ret
      have hj := HJ.out
      subst hj
      exact ⟨_, rfl, hown, hb⟩

/-- The document's List over whatever lies. -/
theorem refList_acc (f : Int) {B : Nat} {w0 w : World} (hb : Below B w0 w) (hB : B ≤ w0.heap.size) :
    Calls Try.prog 17 #[.int .i64 f] w (ListsAs B w0 w (linksB f)) :=
  (refList_any f w).mono fun e w' ⟨v, he, ho, hb'⟩ => by
    rcases ho.2 with ⟨rfl, h0⟩ | ⟨g, cap, _, rfl, _⟩
    · have hl : linksB f = [] := List.eq_nil_of_length_eq_zero h0
      exact ⟨none, 0, by rw [he, hl]; rfl, by rw [hl]; exact IntsAt.nil _ _ _, hb', hb.trans (hb'.mono (Nat.le_trans hB hb.size))⟩
    · exact ⟨some ⟨g, 0, none⟩, cap, he, intsAt_own ho, hb', hb.trans (hb'.mono (Nat.le_trans hB hb.size))⟩
theorem refList_named (f : Int) (l : List Nat) (H : Hid (linksB f = l)) {B : Nat} {w0 w : World} (h : Below B w0 w) (hB : B ≤ w0.heap.size) :
    Calls Try.prog 17 #[.int .i64 f] w (ListsAs B w0 w l) := by
  have e : linksB f = l := H
  subst e
  exact refList_acc f h hB

theorem lexL_at : ∀ (k : Nat) (xs ys : List Nat) (h : k < xs.length) (h' : k < ys.length), xs.take k = ys.take k → xs[k] ≠ ys[k] → lexL xs ys = decide (xs[k] < ys[k])
  | _, [], _, h, _, _, _ => by simp at h
  | _, _ :: _, [], _, h', _, _ => by simp at h'
  | 0, x :: xs, y :: ys, _, _, _, hne => by
    simp only [List.getElem_cons_zero] at hne ⊢
    simp only [lexL]
    rw [if_pos hne]
  | k + 1, x :: xs, y :: ys, h, h', he, hne => by
    simp only [List.take_succ_cons, List.cons.injEq] at he
    simp only [List.getElem_cons_succ] at hne ⊢
    simp only [lexL]
    rw [if_neg (by simpa using he.1)]
    exact lexL_at k xs ys _ _ he.2 hne

/-- The document's Size. -/
theorem refSize_acc (f : Int) {B : Nat} {w0 w : World} (hb : Below B w0 w) (hB : B ≤ w0.heap.size) :
    Calls Try.prog 14 #[.int .i64 f] w fun e w' => e = .returned (.int .i64 ((linksB f).length : Nat)) ∧ Below B w0 w' := by
  go_enter Try.func14, Try.ntmps14
  go_wp2_with (go_at_call 17; refine (refList_acc f hb hB).mono ?_; rintro e w' ⟨A, c, rfl, _, _, hb'⟩)
  go_ret
  exact ⟨rfl, hb'⟩

set_option maxHeartbeats 800000 in
theorem refBefore_acc (a b : Int) {B : Nat} {w0 w : World} (hb : Below B w0 w) (hB : B ≤ w0.heap.size) :
    Calls Try.prog 21 #[.int .i64 a, .int .i64 b] w fun e w' => e = .returned (.bool (beforeB a b)) ∧ Below B w0 w' := by
  have hla : (linksB a).length ≤ 16 := uptoB_len a 16
  have hlb : (linksB b).length ≤ 16 := uptoB_len b 16
  obtain ⟨xs, hxs⟩ : ∃ xs, linksB a = xs := ⟨_, rfl⟩
  obtain ⟨ys, hys⟩ : ∃ ys, linksB b = ys := ⟨_, rfl⟩
  have X := Lib.hid hxs
  have Y := Lib.hid hys
  have HB := Lib.hid (show beforeB a b = if xs.length ≠ ys.length then decide (xs.length < ys.length) else lexL xs ys by unfold beforeB; rw [hxs, hys])
  rw [hxs] at hla
  rw [hys] at hlb
  clear hxs hys
  by_cases hne : xs.length = ys.length
  · have HN := Lib.hid hne
    have ht : (xs.length != ys.length) = false := by simp [hne]
    clear hne
    go_enter Try.func21, Try.ntmps21
    go_wp2_with (fail)
    refine (refList_named _ _ X hb hB).mono ?_
    clear hb
    rintro e w1 ⟨A1, c1, rfl, h1, _, hb⟩
    go_wp2_with (fail)
    refine (refList_named _ _ Y hb hB).mono ?_
    clear hb
    rintro e w2 ⟨A2, c2, rfl, h2, h3, hb⟩
    replace h1 := h1.below h3
    clear h3
    go_wp2
    go_loopw [7] (fun i wr => ∃ k : Nat, k ≤ xs.length ∧ i = .int .i64 k ∧ xs.take k = ys.take k ∧ ∃ n, wr = w2.drewN n) (fun i _ => xs.length - (intOf i).toNat)
    case atStart => exact ⟨0, by omega, rfl, by simp, 0, rfl⟩
    case round =>
      obtain ⟨k, hk, rfl, he, nq0, rfl⟩ := hrel
      have HE := Lib.hid he
      clear he
      by_cases hlt : k < xs.length
      · have hl := HN.out
        have hlt2 : k < ys.length := by omega
        obtain ⟨ad1, rfl, hc1⟩ := h1.at_ (k := k) (by rw [asInts_len]; exact hlt)
        obtain ⟨ad2, rfl, hc2⟩ := h2.at_ (k := k) (by rw [asInts_len]; exact hlt2)
        obtain ⟨x, hx⟩ : ∃ x, xs[k] = x := ⟨_, rfl⟩
        obtain ⟨y, hy⟩ : ∃ y, ys[k] = y := ⟨_, rfl⟩
        rw [show (asInts xs)[k]'(by rw [asInts_len]; exact hlt) = (x : Int) by rw [← hx]; simp [asInts]] at hc1
        rw [show (asInts ys)[k]'(by rw [asInts_len]; exact hlt2) = (y : Int) by rw [← hy]; simp [asInts]] at hc2
        have HX := Lib.hid hx
        have HY := Lib.hid hy
        clear hx hy hl h1 h2
        by_cases e : x = y
        · have hne : ((x : Int) != (y : Int)) = false := by simp [e]
          have hne' : (x != y) = false := by simp [e]
          have HXY := Lib.hid e
          clear e
          go_wp2
          go_quiet (fail)
          go_wp2
          go_roundw
          case rel =>
            refine ⟨k + 1, by omega, by go_num, ?_, ?_⟩
            · rw [List.take_succ_eq_append_getElem hlt, List.take_succ_eq_append_getElem hlt2, HE.out, HX.out, HY.out, HXY.out]
            · exact ⟨_, rfl⟩
          case measure => simp [intOf]; omega
        · have hne : ((x : Int) != (y : Int)) = true := by rw [bne_iff_ne]; omega
          have hne' : (x != y) = true := by simp [e]
          have HXY := Lib.hid e
          clear e
          go_wp2
          go_quiet (fail)
          go_wp2
          go_quiet (fail)
          go_wp2
          go_ret
          refine ⟨ret_bool ?_, below_draws (below_draws (below_draws hb _) _) _⟩
          rw [HB.out, if_neg (by simpa using HN.out), lexL_at k xs ys hlt hlt2 HE.out (by rw [HX.out, HY.out]; exact HXY.out), HX.out, HY.out]
      · have HK := Lib.hid (show k = xs.length by omega)
        clear h1 h2
        go_wp2
        go_ret
        refine ⟨ret_bool ?_, below_draws hb _⟩
        have he := HE.out
        rw [HK.out, List.take_length, HN.out, List.take_length] at he
        rw [HB.out, if_neg (by simpa using HN.out), he, lexL_irrefl]
  · have HN := Lib.hid hne
    have ht : (xs.length != ys.length) = true := by simp [hne]
    clear hne
    go_enter Try.func21, Try.ntmps21
    go_wp2_with (fail)
    refine (refList_named _ _ X hb hB).mono ?_
    clear hb
    rintro e w1 ⟨A1, c1, rfl, h1, _, hb⟩
    go_wp2_with (fail)
    refine (refList_named _ _ Y hb hB).mono ?_
    clear hb
    rintro e w2 ⟨A2, c2, rfl, h2, h3, hb⟩
    clear h1 h2 h3
    go_wp2
    go_ret
    refine ⟨ret_bool ?_, hb⟩
    rw [HB.out, if_pos HN.out]

end Go.Proofs.Ytfnjpgkoccefbaa
