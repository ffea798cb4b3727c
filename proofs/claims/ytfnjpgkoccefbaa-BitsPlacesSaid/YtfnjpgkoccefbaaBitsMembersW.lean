/-
  BitsMembers, its walk.
-/
import Derived.Test.YtfnjpgkoccefbaaBitsWideW
import Derived.Test.YtfnjpgkoccefbaaAppend
import Derived.Test.YtfnjpgkoccefbaaSets
namespace Go.Proofs.Ytfnjpgkoccefbaa
open Go.RowKit Go.Sort

theorem Of_named (A : Option Addr) (c m : Nat) (xs : List Int) (r : Nat) (B : Nat) (w : World) (hr : IntsAt w B A xs) (hm : xs.length = m) (hl : m ≤ 1000000) (H : Hid (ofB xs = r)) :
    Calls Try.prog 22 #[.slice A m c] w fun e w' => e = .returned (.int .i64 (r : Int)) ∧ w = w' := by
  subst hm
  have e : ofB xs = r := H
  subst e
  exact Of_any A c xs B w hr (by omega)

/-- Size, its answer named. -/
theorem Size_is (f v : Int) (H : Hid (((linksB f).length : Int) = v)) {B : Nat} {w0 w : World} (h : Below B w0 w) (hB : B ≤ w0.heap.size) :
    Calls Try.prog 13 #[.int .i64 f] w fun e w' => e = .returned (.int .i64 v) ∧ Below B w0 w' := by
  have e : ((linksB f).length : Int) = v := H
  subst e
  exact Size_acc f h hB
theorem and64 (a b : Nat) (ha : a < 65536) (hb : b < 65536) : bits .and .i64 (a : Int) (b : Int) = ((a &&& b : Nat) : Int) := by
  have := and_lt16 a b ha
  rw [and_eq, BitVec.toNat_and, ofInt64 a (by omega), ofInt64 b (by omega)]
  exact IntWalk.wrap64_in _ (by omega)
theorem xor64 (a b : Nat) (ha : a < 65536) (hb : b < 65536) : bits .xor .i64 (a : Int) (b : Int) = ((a ^^^ b : Nat) : Int) := by
  have := xor_lt16 a b ha hb
  rw [xor_eq, BitVec.toNat_xor, ofInt64 a (by omega), ofInt64 b (by omega)]
  exact IntWalk.wrap64_in _ (by omega)

set_option maxRecDepth 100000 in
set_option maxHeartbeats 1000000 in
theorem BitsMembers_walk (a0 a1 a2 : Int) (w0 : (Lit.int .i64 a0).wf = true) (w1 : (Lit.int .i64 a1).wf = true) (w2 : (Lit.int .i64 a2).wf = true) (w : World) :
    Calls Try.prog 7 #[.int .i64 a0, .int .i64 a1, .int .i64 a2] w fun e w' => e = .returned (.bool true) ∧ Below w.heap.size w w' := by
  obtain ⟨i0, hi, hz0, hz1, hz2⟩ := info_parts intInfo
  obtain ⟨x, hx, hx16⟩ := pickN_nat a0 65536 (by omega)
  obtain ⟨y, hy, hy16⟩ := pickN_nat a1 65536 (by omega)
  obtain ⟨i, hi0, hi16⟩ := pickN_nat a2 16 (by omega)
  have K0 := Lib.hid (pick_is a0 65536 65536 x w0 rfl (by omega) (by omega) hx)
  have K1 := Lib.hid (pick_is a1 65536 65536 y w1 rfl (by omega) (by omega) hy)
  have K2 := Lib.hid (pick_is a2 16 16 i w2 rfl (by omega) (by omega) hi0)
  clear hx hy hi0
  obtain ⟨l, hl⟩ : ∃ l, linksB (x : Int) = l := ⟨_, rfl⟩
  have hl1 : l.length ≤ 16 := by rw [← hl]; exact uptoB_len _ 16
  have ho1 : ofB (asInts l) = x := by rw [← hl]; exact ofB_links x hx16
  have ho2 : ofB (asInts l ++ [(i : Int)]) = x ||| 2 ^ i := by rw [← hl]; exact ofB_more x i hx16 hi16
  have hsl : (asInts l ++ [(i : Int)]).length = l.length + 1 := by simp [asInts]
  have L1 := Lib.hid hl
  have O1 := Lib.hid ho1
  have O2 := Lib.hid ho2
  have SL := Lib.hid hsl
  have hb := Below.refl w.heap.size w
  clear hl ho1 ho2 hsl
  go_enter Try.func7, Try.ntmps7
  go_wp2_with (first
    | (go_at_call 11; refine (awake_acc hb (Nat.le_refl _)).mono ?_; clear hb; rintro e w1 ⟨rfl, hb⟩)
    | (go_at_call 12; ((with_reducible refine (K0.out _).mono ?_); rintro e w2 ⟨rfl, rfl⟩))
    | (go_at_call 12; ((with_reducible refine (K1.out _).mono ?_); rintro e w2 ⟨rfl, rfl⟩))
    | (go_at_call 12; ((with_reducible refine (K2.out _).mono ?_); rintro e w2 ⟨rfl, rfl⟩)))
  refine (List_named _ _ L1 hb (Nat.le_refl _)).mono ?_
  clear hb
  rintro e w3 ⟨A, c, rfl, h1, _, hb⟩
  have hbs := hb.size
  go_wp2_with (first
    | (at_builtin
       refine wpList_append_ints _ rfl (.const (.slice none 0 0)) (.tmp 25) _ rfl w3.heap.size 3 i0 (.int .i64 0) Try.underlying22 hi hz0 hz1 hz2 rfl (.slice none 0 0) 0 [] rfl (World.ownsRow_nil _ _ _ _) _ A c l.length (asInts l) (asInts_len l) rfl h1 (by omega) (Nat.le_refl _) ?_
       intro v1 w4 hown1 hg1 hat1
       have hk1 : Below w3.heap.size w3 w4 := (Below.refl _ _).grown hg1 (Nat.le_refl _) (by simp [Value.ownBlock]))
    | (at_builtin
       refine wpList_append_ints _ rfl (.tmp 26) (.tmp 28) _ rfl w3.heap.size 3 i0 (.int .i64 0) Try.underlying22 hi hz0 hz1 hz2 rfl v1 (0 + l.length) _ rfl (hown1.alloc _) _ (some ⟨w4.heap.size, 0, none⟩) 1 1 [(i : Int)] rfl rfl (intsAt_new w4 [(i : Int)] 3) (by omega) (by have := hk1.size; simp; omega) ?_
       intro v2 w5 hown2 hg2 hat2))
  have hk2 : Below w3.heap.size w3 w5 := (hk1.alloc hk1.size _).grown hg2 (by have := hk1.size; simp; omega) (fun k hk => by
    rcases hat1 with e | e <;> rw [e] at hk <;> simp [Value.ownBlock] at hk
    omega)
  obtain ⟨A2, c2, rfl, h2⟩ := ownsRow_ints (l := asInts l ++ [(i : Int)]) (by simpa using hown2)
  replace hb := hb.trans (hk2.mono hbs)
  replace h1 := h1.below hk2
  have hs35 := hk2.size
  clear hown1 hown2 hg1 hg2 hat1 hat2 hk1 hk2 hbs
  refine (Of_named A2 c2 _ _ _ _ _ h2 rfl (by rw [SL.out]; omega) O2).mono ?_
  rintro e w6 ⟨rfl, rfl⟩
  clear h2
  go_wp2
  go_loop [13, 14] (fun b k => ∃ j : Nat, j ≤ 16 ∧ k = .int .i64 j ∧ b = .int .i64 (bothB x y j : Nat)) (fun _ k => 16 - (intOf k).toNat)
  case atStart => exact ⟨0, by omega, rfl, rfl⟩
  case round =>
    obtain ⟨j, hj, rfl, rfl⟩ := hrel
    have hbl := bothB_le x y j
    by_cases hlt : j < 16
    · obtain ⟨p, hp⟩ : ∃ p, hasB (x : Int) (j : Int) = p := ⟨_, rfl⟩
      obtain ⟨q, hq⟩ : ∃ q, hasB (y : Int) (j : Int) = q := ⟨_, rfl⟩
      have P := Lib.hid hp
      have Q := Lib.hid hq
      rw [hasB_nat x j hx16 hlt] at hp
      rw [hasB_nat y j hy16 hlt] at hq
      have HB := Lib.hid (show bothB x y (j + 1) = bothB x y j + if p && q then 1 else 0 by rw [bothB, hp, hq])
      clear hp hq
      cases p <;> cases q
      all_goals
        go_wp2_with (first
          | (go_at_call 18; ((with_reducible refine (Has_is _ _ _ P _).mono ?_); rintro e w2 ⟨rfl, rfl⟩))
          | (go_at_call 18; ((with_reducible refine (Has_is _ _ _ Q _).mono ?_); rintro e w2 ⟨rfl, rfl⟩)))
        go_round
        case rel => exact ⟨j + 1, by omega, by go_num, by rw [HB.out]; simp⟩
        case measure => simp [intOf]; omega
    · obtain rfl : j = 16 := by omega
      have hlx : szB x = l.length := by unfold szB; rw [L1.out]
      obtain ⟨sy, hsy⟩ : ∃ sy, szB y = sy := ⟨_, rfl⟩
      obtain ⟨bb, hbb⟩ : ∃ bb, bothB x y 16 = bb := ⟨_, rfl⟩
      have hand : szB (x &&& y) = bb := by rw [szB_and x y hx16, ← hbb, bothB_count]
      have hor := szB_or x y hx16 hy16
      have hnot := szB_not x hx16
      have hmore := szB_more x i hx16 hi16
      rw [hlx, hsy, hand] at hor
      rw [hlx] at hnot hmore
      have hsy16 : sy ≤ 16 := by rw [← hsy]; exact sz_le y
      have hle : bb ≤ 16 := by omega
      have S1 := Lib.hid (show ((linksB (y : Int)).length : Int) = (sy : Int) by rw [← hsy]; rfl)
      have S2 := Lib.hid (show ((linksB (bits .and .i64 (x : Int) (y : Int))).length : Int) = (bb : Int) by rw [and64 x y hx16 hy16, ← hand]; rfl)
      have S3 := Lib.hid (show ((linksB (bits .or .i64 (x : Int) (y : Int))).length : Int) = (l.length : Int) + (sy : Int) - (bb : Int) by rw [or64 x y (by omega) (by omega)]; show (szB (x ||| y) : Int) = _; omega)
      have S4 := Lib.hid (show ((linksB (bits .xor .i64 (x : Int) 65535)).length : Int) = 16 - (l.length : Int) by rw [show (65535 : Int) = ((65535 : Nat) : Int) from rfl, xor64 x 65535 hx16 (by omega)]; show (szB (x ^^^ 65535) : Int) = _; omega)
      have S5 := Lib.hid (show ((linksB (x : Int)).length : Int) = (l.length : Int) by rw [L1.out])
      obtain ⟨mo, hmo⟩ : ∃ mo, x ||| 2 ^ i = mo := ⟨_, rfl⟩
      have hmo16 : mo < 65536 := by
        rw [← hmo]; exact or_lt16 x (2 ^ i) hx16 (by have := Nat.pow_lt_pow_right (a := 2) (by omega) hi16; omega)
      have hmi : mo.testBit i = true := by rw [← hmo, Nat.testBit_or, Nat.testBit_two_pow]; simp
      have M := Lib.hid (show hasB (mo : Int) (i : Int) = true by rw [hasB_nat mo i hmo16 hi16]; exact hmi)
      rw [hmo] at hmore ⊢
      rw [hbb]
      obtain ⟨p, hp⟩ : ∃ p, x.testBit i = p := ⟨_, rfl⟩
      have P := Lib.hid (show hasB (x : Int) (i : Int) = p by rw [hasB_nat x i hx16 hi16]; exact hp)
      rw [hp] at hmore
      have SM := Lib.hid (show ((linksB (mo : Int)).length : Int) = (l.length : Int) + if p then 0 else 1 by show (szB mo : Int) = _; rw [hmore]; cases p <;> simp)
      clear hlx hsy hbb hand hor hnot hmore hmo hmi hp hbl
      obtain ⟨w5', hw5⟩ : ∃ w5', w5' = w5 := ⟨_, rfl⟩
      have hb5 := Below.refl w5.heap.size w5
      cases p
      · have SM' := Lib.hid (show ((linksB (mo : Int)).length : Int) = (l.length : Int) + 1 by have := SM.out; simpa using this)
        clear SM hw5
        go_wp2_with (first
          | (go_at_call 13; ((with_reducible refine (Size_is _ _ S5 hb5 (Nat.le_refl _)).mono ?_); clear hb5; rintro e w7 ⟨rfl, hb5⟩))
          | (go_at_call 18; ((with_reducible refine (Has_is _ _ _ P _).mono ?_); rintro e w7 ⟨rfl, rfl⟩)))
        refine (Of_named A c _ (asInts l) x _ _ (h1.below (hb5.mono hs35)) (asInts_len l) (by omega) O1).mono ?_
        rintro e w8 ⟨rfl, rfl⟩
        go_wp2_with (first
          | (go_at_call 13; ((with_reducible refine (Size_is _ _ S5 hb5 (Nat.le_refl _)).mono ?_); clear hb5; rintro e w7 ⟨rfl, hb5⟩))
          | (go_at_call 13; ((with_reducible refine (Size_is _ _ S1 hb5 (Nat.le_refl _)).mono ?_); clear hb5; rintro e w7 ⟨rfl, hb5⟩))
          | (go_at_call 13; ((with_reducible refine (Size_is _ _ S2 hb5 (Nat.le_refl _)).mono ?_); clear hb5; rintro e w7 ⟨rfl, hb5⟩))
          | (go_at_call 13; ((with_reducible refine (Size_is _ _ S3 hb5 (Nat.le_refl _)).mono ?_); clear hb5; rintro e w7 ⟨rfl, hb5⟩))
          | (go_at_call 13; ((with_reducible refine (Size_is _ _ S4 hb5 (Nat.le_refl _)).mono ?_); clear hb5; rintro e w7 ⟨rfl, hb5⟩))
          | (go_at_call 13; ((with_reducible refine (Size_is _ _ SM' hb5 (Nat.le_refl _)).mono ?_); clear hb5; rintro e w7 ⟨rfl, hb5⟩))
          | (go_at_call 18; ((with_reducible refine (Has_is _ _ _ M _).mono ?_); rintro e w7 ⟨rfl, rfl⟩)))
        go_ret
        exact ⟨rfl, hb.trans (hb5.mono hb.size)⟩
      · have SM' := Lib.hid (show ((linksB (mo : Int)).length : Int) = (l.length : Int) by have := SM.out; simpa using this)
        clear SM hw5
        go_wp2_with (first
          | (go_at_call 13; ((with_reducible refine (Size_is _ _ S5 hb5 (Nat.le_refl _)).mono ?_); clear hb5; rintro e w7 ⟨rfl, hb5⟩))
          | (go_at_call 18; ((with_reducible refine (Has_is _ _ _ P _).mono ?_); rintro e w7 ⟨rfl, rfl⟩)))
        refine (Of_named A c _ (asInts l) x _ _ (h1.below (hb5.mono hs35)) (asInts_len l) (by omega) O1).mono ?_
        rintro e w8 ⟨rfl, rfl⟩
        go_wp2_with (first
          | (go_at_call 13; ((with_reducible refine (Size_is _ _ S5 hb5 (Nat.le_refl _)).mono ?_); clear hb5; rintro e w7 ⟨rfl, hb5⟩))
          | (go_at_call 13; ((with_reducible refine (Size_is _ _ S1 hb5 (Nat.le_refl _)).mono ?_); clear hb5; rintro e w7 ⟨rfl, hb5⟩))
          | (go_at_call 13; ((with_reducible refine (Size_is _ _ S2 hb5 (Nat.le_refl _)).mono ?_); clear hb5; rintro e w7 ⟨rfl, hb5⟩))
          | (go_at_call 13; ((with_reducible refine (Size_is _ _ S3 hb5 (Nat.le_refl _)).mono ?_); clear hb5; rintro e w7 ⟨rfl, hb5⟩))
          | (go_at_call 13; ((with_reducible refine (Size_is _ _ S4 hb5 (Nat.le_refl _)).mono ?_); clear hb5; rintro e w7 ⟨rfl, hb5⟩))
          | (go_at_call 13; ((with_reducible refine (Size_is _ _ SM' hb5 (Nat.le_refl _)).mono ?_); clear hb5; rintro e w7 ⟨rfl, hb5⟩))
          | (go_at_call 18; ((with_reducible refine (Has_is _ _ _ M _).mono ?_); rintro e w7 ⟨rfl, rfl⟩)))
        go_ret
        exact ⟨rfl, hb.trans (hb5.mono hb.size)⟩

end Go.Proofs.Ytfnjpgkoccefbaa
