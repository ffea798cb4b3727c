/-
  The document's Rank whatever it is asked; sized, Sets and At.
-/
import Derived.Test.YtfnjpgkoccefbaaRef3
namespace Go.Proofs.Ytfnjpgkoccefbaa
open Go.RowKit Go.Sort

set_option maxRecDepth 100000 in
set_option maxHeartbeats 800000 in
theorem refRank_no (links most f : Int) (h : ¬ (0 ≤ links ∧ links ≤ 16 ∧ 0 ≤ f ∧ f < ((2 ^ links.toNat : Nat) : Int) ∧ ((linksB f).length : Int) ≤ most)) {B : Nat} {w0 w : World} (hb : Below B w0 w) (hB : B ≤ w0.heap.size) :
    Calls Try.prog 29 #[.int .i64 links, .int .i64 most, .int .i64 f] w fun e w' => e = .returned (.int .i64 (-1)) ∧ Below B w0 w' := by
  by_cases h0 : links < 0
  · clear h
    go_enter Try.func29, Try.ntmps29
    go_wp2
    go_ret
    exact ⟨rfl, hb⟩
  · have h0' : 0 ≤ links := by omega
    by_cases h1 : 16 < links
    · clear h
      go_enter Try.func29, Try.ntmps29
      go_wp2
      go_ret
      exact ⟨rfl, hb⟩
    · have h1' : links ≤ 16 := by omega
      by_cases hm : most < 0
      · clear h
        go_enter Try.func29, Try.ntmps29
        go_wp2
        go_ret
        exact ⟨rfl, hb⟩
      · have hm' : 0 ≤ most := by omega
        by_cases h2 : f < 0
        · clear h
          go_enter Try.func29, Try.ntmps29
          go_wp2
          go_ret
          exact ⟨rfl, hb⟩
        · have h2' : 0 ≤ f := by omega
          obtain ⟨n, rfl⟩ := Int.eq_ofNat_of_zero_le h0'
          rw [Int.toNat_natCast] at h
          by_cases h3 : f < ((2 ^ n : Nat) : Int)
          · have h4 : most < ((linksB f).length : Int) := by omega
            have hd1 : decide (wrap64 ((2 : Int) ^ n) ≤ f) = false := by rw [shl_one n (by omega)]; exact decide_eq_false (Int.not_le.2 h3)
            clear h h3
            go_enter Try.func29, Try.ntmps29
            go_wp2_with (go_at_call 14; refine (refSize_acc _ hb hB).mono ?_; clear hb; rintro e w' ⟨rfl, hb⟩)
            go_ret
            exact ⟨rfl, hb⟩
          · have hd1 : decide (wrap64 ((2 : Int) ^ n) ≤ f) = true := by rw [shl_one n (by omega)]; exact decide_eq_true (Int.not_lt.1 h3)
            clear h h3
            go_enter Try.func29, Try.ntmps29
            go_wp2
            go_ret
            exact ⟨rfl, hb⟩

theorem refRank_any (links most f : Int) {B : Nat} {w0 w : World} (hb : Below B w0 w) (hB : B ≤ w0.heap.size) :
    Calls Try.prog 29 #[.int .i64 links, .int .i64 most, .int .i64 f] w fun e w' => e = .returned (.int .i64 (rankB links most f)) ∧ Below B w0 w' := by
  by_cases h : 0 ≤ links ∧ links ≤ 16 ∧ 0 ≤ f ∧ f < ((2 ^ links.toNat : Nat) : Int) ∧ ((linksB f).length : Int) ≤ most
  · obtain ⟨h0, h1, h2, h3, h4⟩ := h
    obtain ⟨n, rfl⟩ := Int.eq_ofNat_of_zero_le h0
    obtain ⟨f, rfl⟩ := Int.eq_ofNat_of_zero_le h2
    obtain ⟨m, rfl⟩ := Int.eq_ofNat_of_zero_le (show 0 ≤ most by omega)
    rw [Int.toNat_natCast] at h3
    exact refRank_yes n m f m (by omega) (by exact_mod_cast h3) rfl (by omega) hb hB
  · have e : rankB links most f = -1 := by unfold rankB; rw [if_neg h]
    rw [e]
    exact refRank_no links most f h hb hB

/-- A slice of these numbers, in memory of its own. -/
def Gives (B : Nat) (w0 w : World) (l : List Nat) (e : Ending) (w' : World) : Prop :=
  ∃ A c, e = .returned (.slice A l.length c) ∧ IntsAt w' w'.heap.size A (asInts l) ∧ Below w.heap.size w w' ∧ Below B w0 w'

theorem combos_small (rem s link g : Nat) (hr : rem ≤ 16) (hs : s ≤ 16) : (combos rem s link g).length ≤ 12870 := by
  rw [combos_len]; exact chN_le rem hr s (by omega)

/-- The sets that begin with a link from `from` on. -/
def fromS (n s : Nat) (f : Nat) : Nat → Nat → List Nat
  | _, 0 => []
  | i, d + 1 => combos (n - (i + 1)) s (i + 1) (f + 2 ^ i) ++ fromS n s f (i + 1) d
theorem fromS_combos (n s f : Nat) : ∀ d i, i + d = n → fromS n s f i d = combos d (s + 1) i f
  | 0, _, _ => rfl
  | d + 1, i, h => by
    show combos (n - (i + 1)) s (i + 1) (f + 2 ^ i) ++ fromS n s f (i + 1) d = combos d s (i + 1) (f + 2 ^ i) ++ combos d (s + 1) (i + 1) f
    rw [fromS_combos n s f d (i + 1) (by omega), show n - (i + 1) = d from by omega]

/-- What has come when the loop stands at i. -/
def doneS (n s f i0 : Nat) : Nat → List Nat
  | 0 => []
  | d + 1 => doneS n s f i0 d ++ combos (n - (i0 + d + 1)) s (i0 + d + 1) (f + 2 ^ (i0 + d))
theorem doneS_from (n s f : Nat) : ∀ d i0, doneS n s f i0 d = fromS n s f i0 d
  | 0, _ => rfl
  | d + 1, i0 => by
    have h : ∀ d i0, fromS n s f i0 (d + 1) = fromS n s f i0 d ++ combos (n - (i0 + d + 1)) s (i0 + d + 1) (f + 2 ^ (i0 + d)) := by
      intro d
      induction d with
      | zero => intro i0; simp [fromS]
      | succ d ih =>
        intro i0
        rw [fromS, ih (i0 + 1), ← List.append_assoc, show i0 + 1 + d = i0 + (d + 1) from by omega]
        rfl
    rw [doneS, doneS_from n s f d i0, h]

theorem doneS_combos (n s f i0 : Nat) (h : i0 ≤ n) : doneS n s f i0 (n - i0) = combos (n - i0) (s + 1) i0 f := by
  rw [doneS_from, fromS_combos n s f _ _ (by omega)]
theorem doneS_len (n s f i0 : Nat) (hn : n ≤ 16) (hs : s ≤ 16) : ∀ d, (doneS n s f i0 d).length ≤ d * 12870
  | 0 => Nat.le_refl _
  | d + 1 => by
    have h1 := doneS_len n s f i0 hn hs d
    have h2 := combos_small (n - (i0 + d + 1)) s (i0 + d + 1) (f + 2 ^ (i0 + d)) (by omega) hs
    rw [doneS, List.length_append]
    omega

theorem intCells_asInts (l : List Nat) : intCells l = (asInts l).map (Value.int .i64) := by simp [intCells, asInts]

theorem intCells_append (a b : List Nat) : intCells (a ++ b) = intCells a ++ (asInts b).map (Value.int .i64) := by simp [intCells, asInts]

theorem pow_next (f k : Nat) (hk : k ≤ 15) (hf : f < 2 ^ k) : wrap64 ((f : Int) + wrap64 ((2 : Int) ^ k)) = ((f + 2 ^ k : Nat) : Int) := by
  have hp := pow16 k (by omega)
  rw [shl_one k (by omega)]
  generalize 2 ^ k = p at hp hf ⊢
  rw [IntWalk.wrap64_in _ (by omega)]
  omega
theorem pow_grown (f k : Nat) (hf : f < 2 ^ k) : f + 2 ^ k < 2 ^ (k + 1) := by rw [Nat.pow_succ]; omega

/-- A row of the call's own stays where nothing older turns. -/
theorem ownsRow_below {W W' : World} {base : Nat} {e : TypeId} {size : Nat} {v : Value} {k : Nat} {xs : List Value} (h : W.ownsRow base e size v k xs) (hb : Below W.heap.size W W') : W'.ownsRow base e size v k xs :=
  h.kept (row := none) ⟨hb.os, hb.tape, hb.output, hb.size, fun i hi _ => hb.block i hi⟩ (by
    cases hv : v.ownBlock with
    | none => exact .inl rfl
    | some g => exact .inr (by simp))

set_option maxRecDepth 100000 in
set_option maxHeartbeats 1000000 in
theorem sized_any : ∀ (s : Nat), s ≤ 16 → ∀ (n i f : Nat) (L S I F : Int), L = (n : Int) → S = (s : Int) → I = (i : Int) → F = (f : Int) → n ≤ 16 → i ≤ n → f < 2 ^ i → ∀ (B : Nat) (w0 w : World), Below B w0 w → B ≤ w0.heap.size →
    Calls Try.prog 39 #[.int .i64 L, .int .i64 S, .int .i64 I, .int .i64 F] w (Gives B w0 w (combos (n - i) s i f)) := by
  intro s
  induction s with
  | zero =>
    intro _ n i f L S I F hL hS hI hF hn hi hf B w0 w hb hB
    subst hL hS hI hF
    go_enter Try.func39, Try.ntmps39
    go_wp2
    go_ret
    rw [combos_zero]
    exact ⟨_, _, rfl, (intsAt_new w [(f : Int)] 3).more (by simp), (Below.refl _ _).alloc (Nat.le_refl _) _, hb.alloc (Nat.le_trans hB hb.size) _⟩
  | succ s ih =>
    intro hs n i f L S I F hL hS hI hF hn hi hf B w0 w hb hB
    obtain ⟨t, ht⟩ : ∃ t : Nat, s + 1 = t := ⟨_, rfl⟩
    have HT := Lib.hid (show (t : Int) - 1 = (s : Int) by omega)
    have ht1 : 1 ≤ t := by omega
    have ht16 : t ≤ 16 := by omega
    have ht0 : ((t : Int) == 0) = false := beq_eq_false_iff_ne.2 (by omega)
    rw [ht] at hS ⊢
    have HT2 := Lib.hid ht
    subst hL hS hI hF
    clear ht
    obtain ⟨i0, hii, hz0, hz1, hz2⟩ := info_parts intInfo
    have IH := Lib.hid (ih (by omega))
    clear ih
    go_enter Try.func39, Try.ntmps39
    go_wp2
    go_loopw [9, 10] (fun v k wr => ∃ d : Nat, i + d ≤ n ∧ k = .int .i64 ((i + d : Nat) : Int) ∧ wr.ownsRow w.heap.size 3 1 v (doneS n s f i d).length (intCells (doneS n s f i d)) ∧ Below w.heap.size w wr) (fun _ k _ => n - (intOf k).toNat)
    case atStart => exact ⟨0, by omega, rfl, World.ownsRow_nil _ _ _ _, Below.refl _ _⟩
    case round =>
      obtain ⟨d, hd, rfl, hown, hb2⟩ := hrel
      have hdl := doneS_len n s f i hn (by omega) d
      have hbs := hb2.size
      by_cases hlt : i + d < n
      · have hf2 : f < 2 ^ (i + d) := Nat.lt_of_lt_of_le hf (Nat.pow_le_pow_right (by omega) (by omega))
        have HF2 := Lib.hid (pow_next f (i + d) (by omega) hf2)
        have HF3 := Lib.hid (pow_grown f (i + d) hf2)
        have HDS := Lib.hid (show doneS n s f i (d + 1) = doneS n s f i d ++ combos (n - (i + d + 1)) s (i + d + 1) (f + 2 ^ (i + d)) from rfl)
        have hcl := combos_small (n - (i + d + 1)) s (i + d + 1) (f + 2 ^ (i + d)) (by omega) (by omega)
        obtain ⟨l, hl⟩ : ∃ l, combos (n - (i + d + 1)) s (i + d + 1) (f + 2 ^ (i + d)) = l := ⟨_, rfl⟩
        rw [hl] at hcl
        have HL := Lib.hid hl
        have hdd : d * 12870 ≤ 16 * 12870 := Nat.mul_le_mul_right _ (by omega)
        clear hf2 hl
        go_wp2_with (fail)
        refine (IH.out n (i + d + 1) (f + 2 ^ (i + d)) _ _ _ _ rfl HT.out (by omega) HF2.out hn (by omega) HF3.out _ w wr hb2 (Nat.le_refl _)).mono ?_
        rw [HL.out]
        rintro e w5 ⟨A, c, rfl, hA, hA2, hA3⟩
        have hs5 := hA2.size
        have hown5 := ownsRow_below hown hA2
        go_wp2_with (at_builtin; refine wpList_append_ints _ rfl (.tmp 21) (.tmp 31) _ rfl w.heap.size 3 i0 (.int .i64 0) Try.underlying22 hii hz0 hz1 hz2 rfl _ (doneS n s f i d).length _ rfl hown5 _ A c l.length (asInts l) (asInts_len l) rfl hA (by omega) (by omega) ?_; intro v2 w6 hown2 hg2 hat2)
        have hb6 : Below w.heap.size w w6 := (hb2.trans (hA2.mono hbs)).grown hg2 (by omega) (fun k hk => ownsRow_block hown hk)
        go_roundw
        case rel =>
          refine ⟨d + 1, by omega, by go_num, ?_, hb6⟩
          rw [HDS.out, HL.out, List.length_append, intCells_append]
          exact hown2
        case measure => simp [intOf]; omega
      · have HD := Lib.hid (show d = n - i by omega)
        go_wp2
        go_ret
        have hd' := HD.out
        subst hd'
        rw [doneS_combos n s f i hi, HT2.out, intCells_asInts] at hown
        obtain ⟨A, c, rfl, hI⟩ := ownsRow_ints hown
        rw [asInts_len] at *
        exact ⟨A, c, rfl, hI, hb2, hb.trans (hb2.mono (Nat.le_trans hB hb.size))⟩

set_option maxRecDepth 100000 in
set_option maxHeartbeats 1000000 in
theorem Sets_yes (n : Nat) (most : Int) (hn : n ≤ 16) (hm : 0 ≤ most) (w : World) :
    Calls Try.prog 36 #[.int .i64 (n : Int), .int .i64 most] w (Gives w.heap.size w w (allS n ((min most (n : Int)).toNat + 1))) := by
  obtain ⟨i0, hii, hz0, hz1, hz2⟩ := info_parts intInfo
  obtain ⟨m, hmm⟩ : ∃ m : Nat, (min most (n : Int)).toNat = m := ⟨_, rfl⟩
  have hmn : m ≤ n := by omega
  have hmm1 : (m : Int) ≤ most := by omega
  have hmm2 : m = n ∨ most = (m : Int) := by omega
  rw [hmm]
  clear hmm
  go_enter Try.func36, Try.ntmps36
  go_wp2
  go_loopw [5, 6] (fun v k wr => ∃ s : Nat, s ≤ m + 1 ∧ k = .int .i64 (s : Int) ∧ wr.ownsRow w.heap.size 3 1 v (allS n s).length (intCells (allS n s)) ∧ Below w.heap.size w wr) (fun _ k _ => m + 1 - (intOf k).toNat)
  case atStart => exact ⟨0, by omega, rfl, World.ownsRow_nil _ _ _ _, Below.refl _ _⟩
  case round =>
    obtain ⟨s, hs, rfl, hown, hb2⟩ := hrel
    have hbs := hb2.size
    have hal : (allS n s).length ≤ 65536 := by rw [allS_len]; exact sumC_le n hn s (by omega)
    by_cases hlt : s ≤ m
    · have hcl := combos_small n s 0 0 hn (by omega)
      obtain ⟨l, hl⟩ : ∃ l, combos n s 0 0 = l := ⟨_, rfl⟩
      have HDS := Lib.hid (show allS n (s + 1) = allS n s ++ l by rw [← hl]; rfl)
      have HL := Lib.hid (show combos (n - 0) s 0 0 = l by rw [Nat.sub_zero]; exact hl)
      rw [hl] at hcl
      have h1 : (s : Int) ≤ most := by omega
      clear hl hmm2
      go_wp2_with (fail)
      refine (sized_any s (by omega) n 0 0 _ _ _ _ rfl rfl rfl rfl hn (by omega) (by simp) _ w wr hb2 (Nat.le_refl _)).mono ?_
      rw [HL.out]
      rintro e w5 ⟨A, c, rfl, hA, hA2, hA3⟩
      have hs5 := hA2.size
      have hown5 := ownsRow_below hown hA2
      go_wp2_with (at_builtin; refine wpList_append_ints _ rfl (.tmp 27) (.tmp 30) _ rfl w.heap.size 3 i0 (.int .i64 0) Try.underlying22 hii hz0 hz1 hz2 rfl _ (allS n s).length _ rfl hown5 _ A c l.length (asInts l) (asInts_len l) rfl hA (by omega) (by omega) ?_; intro v2 w6 hown2 hg2 hat2)
      have hb6 : Below w.heap.size w w6 := (hb2.trans (hA2.mono hbs)).grown hg2 (by omega) (fun k hk => ownsRow_block hown hk)
      go_roundw
      case rel =>
        refine ⟨s + 1, by omega, by go_num, ?_, hb6⟩
        rw [HDS.out, List.length_append, intCells_append]
        exact hown2
      case measure => simp [intOf]; omega
    · obtain rfl : s = m + 1 := by omega
      rw [intCells_asInts] at hown
      by_cases hmo : most = (m : Int)
      · have hd : decide (((m + 1 : Nat) : Int) ≤ most) = false := decide_eq_false (by omega)
        have hd' : decide ((m : Int) + 1 ≤ most) = false := decide_eq_false (by omega)
        have hlt2 : most < (m : Int) + 1 := by omega
        clear hmo hmm2
        go_wp2
        go_ret
        obtain ⟨A, c, rfl, hI⟩ := ownsRow_ints hown
        rw [asInts_len]
        exact ⟨A, c, rfl, hI, hb2, hb2⟩
      · have h1 : (m : Int) + 1 ≤ most := by omega
        have h2 : n < m + 1 := by omega
        clear hmo hmm2
        go_wp2
        go_ret
        obtain ⟨A, c, rfl, hI⟩ := ownsRow_ints hown
        rw [asInts_len]
        exact ⟨A, c, rfl, hI, hb2, hb2⟩

end Go.Proofs.Ytfnjpgkoccefbaa
