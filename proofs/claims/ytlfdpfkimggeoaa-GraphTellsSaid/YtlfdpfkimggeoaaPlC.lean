/-
  Package plan: who has a name (Node, Dest); which link joins two.
-/
import Derived.Laws.StructEq
import Derived.Test.YtlfdpfkimggeoaaPlA
namespace Go.Proofs.Ytlfdpfkimggeoaa
open Go.RowKit

theorem below_box {w w' : World} {o : Obj} (hb : Below (w.alloc o).heap.size (w.alloc o) w') : Below w.heap.size w w' := ((Below.refl _ _).alloc (Nat.le_refl _) _).trans (hb.mono (by simp))
theorem below_new (w : World) (o : Obj) : Below w.heap.size w (w.alloc o) := (Below.refl _ _).alloc (Nat.le_refl _) _
theorem RowAt.box {w : World} {A : Option Addr} {xs : List Value} (h : RowAt w w.heap.size A xs) (o : Obj) : RowAt (w.alloc o) (w.alloc o).heap.size A xs := h.up (below_new w o)
theorem DestsAt.box {w : World} {A : Option Addr} {ds : List PDest} (h : DestsAt w w.heap.size A ds) (o : Obj) : DestsAt (w.alloc o) (w.alloc o).heap.size A ds := h.up (below_new w o)

theorem str_ne {a b : ByteArray} (h : a ≠ b) : (a.toList == b.toList) = false := by
  rw [beq_eq_false_iff_ne]
  intro e
  apply h
  rw [ByteArray.toList_eq, ByteArray.toList_eq] at e
  obtain ⟨⟨x⟩⟩ := a
  obtain ⟨⟨y⟩⟩ := b
  exact congrArg (fun l : List UInt8 => (⟨⟨l⟩⟩ : ByteArray)) e

/-- The place of the first one of which p is so; -1, if there is none. -/
def ixF {α : Type} (p : α → Bool) : List α → Nat → Int
  | [], _ => -1
  | x :: r, i => if p x = true then (i : Int) else ixF p r (i + 1)
def ixB {α : Type} (p : α → Bool) (l : List α) : Int := ixF p l 0
def IxAt {α : Type} (p : α → Bool) (l : List α) (k : Nat) : Prop := ixB p l = ixF p (l.drop k) k
section
variable {α : Type} {p : α → Bool} {l : List α}
theorem IxAt.start (p : α → Bool) (l : List α) : IxAt p l 0 := rfl
theorem drop_cons {k : Nat} {x : α} (hx : l[k]? = some x) : l.drop k = x :: l.drop (k + 1) := by
  have h := (List.getElem?_eq_some_iff.1 hx)
  obtain ⟨hl, he⟩ := h
  rw [List.drop_eq_getElem_cons hl, he]
theorem IxAt.hit {k : Nat} {x : α} (h : IxAt p l k) (hx : l[k]? = some x) (hp : p x = true) : ixB p l = k := by
  unfold IxAt at h
  rw [h, drop_cons hx, ixF, if_pos hp]
theorem IxAt.next {k : Nat} {x : α} (h : IxAt p l k) (hx : l[k]? = some x) (hp : p x = false) : IxAt p l (k + 1) := by
  unfold IxAt at h ⊢
  rw [h, drop_cons hx, ixF, if_neg (by rw [hp]; simp)]
theorem IxAt.miss {k : Nat} (h : IxAt p l k) (hk : l.length ≤ k) : ixB p l = -1 := by
  unfold IxAt at h
  rw [h, List.drop_of_length_le hk]; rfl
theorem ixF_le (p : α → Bool) : ∀ (l : List α) (i : Nat), -1 ≤ ixF p l i ∧ ixF p l i < i + l.length + 1
  | [], i => by rw [ixF]; simp; omega
  | x :: r, i => by
    rw [ixF]
    have := ixF_le p r (i + 1)
    split
    · simp; omega
    · rw [List.length_cons]; omega
theorem ixB_in (p : α → Bool) (l : List α) (h : l.length ≤ 9223372036854775806) : -1 ≤ ixB p l ∧ ixB p l ≤ 9223372036854775807 := by
  have := ixF_le p l 0
  unfold ixB; omega
end

/-! ### Nodes -/
def nameIs (x : ByteArray) (n : PNode) : Bool := decide (n.name = x)
theorem Node1_any (n : PNode) (x : ByteArray) (b : Nat) (w : World) (hx : w.cell? ⟨b, 0, none⟩ = some (.string x)) (hb : b < w.heap.size) :
    Calls Try.prog 82 #[.agg #[.string n.name, .int .i64 n.num], .pointer (some ⟨b, 0, none⟩)] w fun e w' => e = .returned (.bool (nameIs x n)) ∧ Below w.heap.size w w' := by
  obtain ⟨y, k⟩ := n
  dsimp only
  by_cases h : y = x
  · subst h
    go_enter Try.func82, Try.ntmps82
    go_wp2
    go_ret
    exact ⟨ret_bool (by unfold nameIs; simp), below_new _ _⟩
  · have h2 := str_ne h
    have H := Lib.hid h
    clear h
    go_enter Try.func82, Try.ntmps82
    go_wp2
    go_ret
    exact ⟨ret_bool (by unfold nameIs; rw [decide_eq_false H.out]), below_new _ _⟩
theorem Node1_is (n : PNode) (x : ByteArray) (b : Nat) (r : Bool) (H : Hid (nameIs x n = r)) {w : World} (hx : w.cell? ⟨b, 0, none⟩ = some (.string x)) (hb : b < w.heap.size) :
    Calls Try.prog 82 #[.agg #[.string n.name, .int .i64 n.num], .pointer (some ⟨b, 0, none⟩)] w fun e w' => e = .returned (.bool r) ∧ Below w.heap.size w w' :=
  (Node1_any n x b w hx hb).mono fun _ _ ⟨he, hw⟩ => ⟨by rw [he, H.out], hw⟩

set_option maxHeartbeats 400000 in
theorem IndexNodes_any (l : List PNode) (A : Option Addr) (c : Nat) (x : ByteArray) (b : Nat) (w : World) (hA : RowAt w w.heap.size A (l.flatMap nodeC)) (hx : w.cell? ⟨b, 0, none⟩ = some (.string x)) (hb : b < w.heap.size) (hl : l.length ≤ 9223372036854775807) :
    Calls Try.prog 81 #[.slice A l.length c, .func (.func 82) #[] #[.pointer (some ⟨b, 0, none⟩)]] w fun e w' => e = .returned (.int .i64 (ixB (nameIs x) l)) ∧ Below w.heap.size w w' := by
  go_enter Try.func81, Try.ntmps81
  go_wp2
  go_loopw [5, 8] (fun _ i wr => ∃ k : Nat, k ≤ l.length ∧ i = .int .i64 (k : Nat) ∧ IxAt (nameIs x) l k ∧ Below w.heap.size w wr) (fun _ i _ => l.length - (intOf i).toNat)
  case atStart => exact ⟨0, Nat.zero_le _, rfl, IxAt.start _ _, Below.refl _ _⟩
  case round =>
    obtain ⟨k, hk, rfl, hat, hbw⟩ := hrel
    by_cases hlt : k < l.length
    · obtain ⟨n, hn⟩ : ∃ n, l[k]? = some n := ⟨_, List.getElem?_eq_getElem hlt⟩
      obtain ⟨g, rfl, hg, c0, c1⟩ := (hA.below hbw).node hn
      have hx' := (hbw.cell (p := ⟨b, 0, none⟩) hb).trans hx
      have hb' : b < wr.heap.size := Nat.lt_of_lt_of_le hb hbw.size
      obtain ⟨r, hr⟩ : ∃ r, nameIs x n = r := ⟨_, rfl⟩
      have HR := Lib.hid hr
      cases r
      · have hat' := hat.next hn hr
        clear hr hn hA hx
        go_wp2_with (go_at_call 82; refine (Node1_is n x b _ HR hx' hb').mono ?_; rintro e w2 ⟨rfl, hb2⟩)
        go_roundw
        case rel => exact ⟨k + 1, by omega, by go_num, hat', hbw.trans (hb2.mono hbw.size)⟩
        case measure => simp [intOf]; omega
      · have HI := Lib.hid (hat.hit hn hr)
        clear hr hn hA hx
        go_wp2_with (go_at_call 82; refine (Node1_is n x b _ HR hx' hb').mono ?_; rintro e w2 ⟨rfl, hb2⟩)
        go_ret
        exact ⟨ret_int HI.out.symm, hbw.trans (hb2.mono hbw.size)⟩
    · have HI := Lib.hid (hat.miss (by omega))
      go_wp2
      go_ret
      exact ⟨ret_int HI.out.symm, hbw⟩

theorem Node_any (p : PPlan) (x : ByteArray) (pr ca kk : Int) (An Al Ad Ac : Option Addr) (ln cn ll cl ld cd lc cc : Nat) (w : World) (h : RowAt w w.heap.size An (p.nodes.flatMap nodeC)) (hl : p.nodes.length = ln) (hm : ln ≤ 9223372036854775807) :
    Calls Try.prog 68 #[.agg #[.int .i64 pr, .int .i64 ca, .int .i64 kk, .slice An ln cn, .slice Al ll cl, .slice Ad ld cd, .slice Ac lc cc], .string x] w fun e w' => e = .returned (.int .i64 (ixB (nameIs x) p.nodes)) ∧ Below w.heap.size w w' := by
  subst hl
  have h1 := fun o1 o2 => (h.box o1).box o2
  clear h
  go_enter Try.func68, Try.ntmps68
  go_wp2_with (go_at_call 81; refine (IndexNodes_any p.nodes An cn x _ _ (h1 _ _) (by simp) (by simp) hm).mono ?_; rintro e w' ⟨rfl, hb⟩)
  go_ret
  exact ⟨rfl, below_box (below_box hb)⟩

end Go.Proofs.Ytlfdpfkimggeoaa

namespace Go.Proofs.Ytlfdpfkimggeoaa
open Go.RowKit

/-! ### Destinations -/
def destIs (x : ByteArray) (d : PDest) : Bool := decide (d.name = x)
theorem Dest1_any (y : ByteArray) (Ao : Option Addr) (n c : Nat) (x : ByteArray) (b : Nat) (w : World) (hx : w.cell? ⟨b, 0, none⟩ = some (.string x)) (hb : b < w.heap.size) :
    Calls Try.prog 84 #[.agg #[.string y, .slice Ao n c], .pointer (some ⟨b, 0, none⟩)] w fun e w' => e = .returned (.bool (decide (y = x))) ∧ Below w.heap.size w w' := by
  by_cases h : y = x
  · subst h
    go_enter Try.func84, Try.ntmps84
    go_wp2
    go_ret
    exact ⟨ret_bool (by simp), below_new _ _⟩
  · have h2 := str_ne h
    have H := Lib.hid h
    clear h
    go_enter Try.func84, Try.ntmps84
    go_wp2
    go_ret
    exact ⟨ret_bool (by rw [decide_eq_false H.out]), below_new _ _⟩
theorem Dest1_is (d : PDest) (Ao : Option Addr) (n c : Nat) (x : ByteArray) (b : Nat) (r : Bool) (H : Hid (destIs x d = r)) {w : World} (hx : w.cell? ⟨b, 0, none⟩ = some (.string x)) (hb : b < w.heap.size) :
    Calls Try.prog 84 #[.agg #[.string d.name, .slice Ao n c], .pointer (some ⟨b, 0, none⟩)] w fun e w' => e = .returned (.bool r) ∧ Below w.heap.size w w' :=
  (Dest1_any d.name Ao n c x b w hx hb).mono fun _ _ ⟨he, hw⟩ => ⟨by rw [he, ← H.out]; rfl, hw⟩

set_option maxHeartbeats 400000 in
theorem IndexDests_any (l : List PDest) (A : Option Addr) (c : Nat) (x : ByteArray) (b : Nat) (w : World) (hA : DestsAt w w.heap.size A l) (hx : w.cell? ⟨b, 0, none⟩ = some (.string x)) (hb : b < w.heap.size) (hl : l.length ≤ 9223372036854775807) :
    Calls Try.prog 83 #[.slice A l.length c, .func (.func 84) #[] #[.pointer (some ⟨b, 0, none⟩)]] w fun e w' => e = .returned (.int .i64 (ixB (destIs x) l)) ∧ Below w.heap.size w w' := by
  go_enter Try.func83, Try.ntmps83
  go_wp2
  go_loopw [5, 8] (fun _ i wr => ∃ k : Nat, k ≤ l.length ∧ i = .int .i64 (k : Nat) ∧ IxAt (destIs x) l k ∧ Below w.heap.size w wr) (fun _ i _ => l.length - (intOf i).toNat)
  case atStart => exact ⟨0, Nat.zero_le _, rfl, IxAt.start _ _, Below.refl _ _⟩
  case round =>
    obtain ⟨k, hk, rfl, hat, hbw⟩ := hrel
    by_cases hlt : k < l.length
    · obtain ⟨n, hn⟩ : ∃ n, l[k]? = some n := ⟨_, List.getElem?_eq_getElem hlt⟩
      obtain ⟨g, Ao, co, rfl, hg, c0, c1, _⟩ := (hA.keep fun _ hp => hbw.cell hp).dest hn
      have hx' := (hbw.cell (p := ⟨b, 0, none⟩) hb).trans hx
      have hb' : b < wr.heap.size := Nat.lt_of_lt_of_le hb hbw.size
      obtain ⟨r, hr⟩ : ∃ r, destIs x n = r := ⟨_, rfl⟩
      have HR := Lib.hid hr
      cases r
      · have hat' := hat.next hn hr
        clear hr hn hA hx
        go_wp2_with (go_at_call 84; refine (Dest1_is n Ao _ co x b _ HR hx' hb').mono ?_; rintro e w2 ⟨rfl, hb2⟩)
        go_roundw
        case rel => exact ⟨k + 1, by omega, by go_num, hat', hbw.trans (hb2.mono hbw.size)⟩
        case measure => simp [intOf]; omega
      · have HI := Lib.hid (hat.hit hn hr)
        clear hr hn hA hx
        go_wp2_with (go_at_call 84; refine (Dest1_is n Ao _ co x b _ HR hx' hb').mono ?_; rintro e w2 ⟨rfl, hb2⟩)
        go_ret
        exact ⟨ret_int HI.out.symm, hbw.trans (hb2.mono hbw.size)⟩
    · have HI := Lib.hid (hat.miss (by omega))
      go_wp2
      go_ret
      exact ⟨ret_int HI.out.symm, hbw⟩

theorem Dest_any (p : PPlan) (x : ByteArray) (pr ca kk : Int) (An Al Ad Ac : Option Addr) (ln cn ll cl ld cd lc cc : Nat) (w : World) (h : DestsAt w w.heap.size Ad p.dests) (hl : p.dests.length = ld) (hm : ld ≤ 9223372036854775807) :
    Calls Try.prog 72 #[.agg #[.int .i64 pr, .int .i64 ca, .int .i64 kk, .slice An ln cn, .slice Al ll cl, .slice Ad ld cd, .slice Ac lc cc], .string x] w fun e w' => e = .returned (.int .i64 (ixB (destIs x) p.dests)) ∧ Below w.heap.size w w' := by
  subst hl
  have h1 := fun o1 o2 => (h.box o1).box o2
  clear h
  go_enter Try.func72, Try.ntmps72
  go_wp2_with (go_at_call 83; refine (IndexDests_any p.dests Ad cd x _ _ (h1 _ _) (by simp) (by simp) hm).mono ?_; rintro e w' ⟨rfl, hb⟩)
  go_ret
  exact ⟨rfl, below_box (below_box hb)⟩

/-! ### Links -/
def linkIs (a b : Int) (o : PLink) : Bool := decide (o.a = a) && decide (o.b = b)
theorem Link1_any (o : PLink) (a b : Int) (g : Nat) (w : World) (h0 : w.cell? ⟨g, 0, none⟩ = some (.int .i64 a)) (h1 : w.cell? ⟨g, 1, none⟩ = some (.int .i64 b)) (hg : g < w.heap.size) :
    Calls Try.prog 71 #[.agg #[.int .i64 o.a, .int .i64 o.b, .int .i64 o.cost], .pointer (some ⟨g, 0, none⟩)] w fun e w' => e = .returned (.bool (linkIs a b o)) ∧ Below w.heap.size w w' := by
  obtain ⟨oa, ob, oc⟩ := o
  dsimp only
  by_cases ha : oa = a
  · subst ha
    by_cases hb : ob = b
    · subst hb
      go_enter Try.func71, Try.ntmps71
      go_wp2
      go_ret
      exact ⟨ret_bool (by unfold linkIs; simp), below_new _ _⟩
    · have h2 : (ob == b) = false := by simpa using hb
      have H := Lib.hid hb
      clear hb
      go_enter Try.func71, Try.ntmps71
      go_wp2
      go_ret
      exact ⟨ret_bool (by unfold linkIs; rw [decide_eq_false H.out]; simp), below_new _ _⟩
  · have h2 : (oa == a) = false := by simpa using ha
    have H := Lib.hid ha
    clear ha
    go_enter Try.func71, Try.ntmps71
    go_wp2
    go_ret
    exact ⟨ret_bool (by unfold linkIs; rw [decide_eq_false H.out]; rfl), below_new _ _⟩
theorem Link1_is (o : PLink) (a b : Int) (g : Nat) (r : Bool) (H : Hid (linkIs a b o = r)) {w : World} (h0 : w.cell? ⟨g, 0, none⟩ = some (.int .i64 a)) (h1 : w.cell? ⟨g, 1, none⟩ = some (.int .i64 b)) (hg : g < w.heap.size) :
    Calls Try.prog 71 #[.agg #[.int .i64 o.a, .int .i64 o.b, .int .i64 o.cost], .pointer (some ⟨g, 0, none⟩)] w fun e w' => e = .returned (.bool r) ∧ Below w.heap.size w w' :=
  (Link1_any o a b g w h0 h1 hg).mono fun _ _ ⟨he, hw⟩ => ⟨by rw [he, H.out], hw⟩

set_option maxHeartbeats 400000 in
theorem IndexLinks_any (l : List PLink) (A : Option Addr) (c : Nat) (a0 b0 : Int) (b : Nat) (w : World) (hA : RowAt w w.heap.size A (l.flatMap linkC)) (hx : w.cell? ⟨b, 0, none⟩ = some (.int .i64 a0)) (hy : w.cell? ⟨b, 1, none⟩ = some (.int .i64 b0)) (hb : b < w.heap.size) (hl : l.length ≤ 9223372036854775807) :
    Calls Try.prog 70 #[.slice A l.length c, .func (.func 71) #[] #[.pointer (some ⟨b, 0, none⟩)]] w fun e w' => e = .returned (.int .i64 (ixB (linkIs a0 b0) l)) ∧ Below w.heap.size w w' := by
  go_enter Try.func70, Try.ntmps70
  go_wp2
  go_loopw [5, 8] (fun _ i wr => ∃ k : Nat, k ≤ l.length ∧ i = .int .i64 (k : Nat) ∧ IxAt (linkIs a0 b0) l k ∧ Below w.heap.size w wr) (fun _ i _ => l.length - (intOf i).toNat)
  case atStart => exact ⟨0, Nat.zero_le _, rfl, IxAt.start _ _, Below.refl _ _⟩
  case round =>
    obtain ⟨k, hk, rfl, hat, hbw⟩ := hrel
    by_cases hlt : k < l.length
    · obtain ⟨n, hn⟩ : ∃ n, l[k]? = some n := ⟨_, List.getElem?_eq_getElem hlt⟩
      obtain ⟨g, rfl, hg, c0, c1, c2⟩ := (hA.below hbw).link hn
      have hx' := (hbw.cell (p := ⟨b, 0, none⟩) hb).trans hx
      have hy' := (hbw.cell (p := ⟨b, 1, none⟩) hb).trans hy
      have hb' : b < wr.heap.size := Nat.lt_of_lt_of_le hb hbw.size
      obtain ⟨r, hr⟩ : ∃ r, linkIs a0 b0 n = r := ⟨_, rfl⟩
      have HR := Lib.hid hr
      cases r
      · have hat' := hat.next hn hr
        clear hr hn hA hx hy
        go_wp2_with (go_at_call 71; refine (Link1_is n a0 b0 b _ HR hx' hy' hb').mono ?_; rintro e w2 ⟨rfl, hb2⟩)
        go_roundw
        case rel => exact ⟨k + 1, by omega, by go_num, hat', hbw.trans (hb2.mono hbw.size)⟩
        case measure => simp [intOf]; omega
      · have HI := Lib.hid (hat.hit hn hr)
        clear hr hn hA hx hy
        go_wp2_with (go_at_call 71; refine (Link1_is n a0 b0 b _ HR hx' hy' hb').mono ?_; rintro e w2 ⟨rfl, hb2⟩)
        go_ret
        exact ⟨ret_int HI.out.symm, hbw.trans (hb2.mono hbw.size)⟩
    · have HI := Lib.hid (hat.miss (by omega))
      go_wp2
      go_ret
      exact ⟨ret_int HI.out.symm, hbw⟩

/-! ### Origins -/
def origF (m : Nat) : List Int → Int → Bool
  | [], _ => true
  | x :: r, least => withinB x least ((m : Int) - 1) && origF m r (x + 1)
def OrigAt (m : Nat) (l : List Int) (k : Nat) (least : Int) : Prop := origF m l 0 = origF m (l.drop k) least
def origB (m : Nat) (l : List Int) : Bool := origF m l 0 && decide (0 < l.length)
theorem rightOrigins_any (l : List Int) (A : Option Addr) (c m : Nat) (w : World) (hA : RowAt w w.heap.size A (l.map (Value.int .i64))) (hl : l.length ≤ 9223372036854775807) (hm : m ≤ 9223372036854775807) :
    Calls Try.prog 73 #[.slice A l.length c, .int .i64 (m : Int)] w fun e w' => e = .returned (.bool (origB m l)) ∧ w = w' := by
  go_enter Try.func73, Try.ntmps73
  go_wp2
  go_loop [5, 7, 10] (fun lv _ i => ∃ (k : Nat) (least : Int), k ≤ l.length ∧ 0 ≤ least ∧ least ≤ 9223372036854775807 ∧ i = .int .i64 (k : Nat) ∧ lv = .int .i64 least ∧ OrigAt m l k least) (fun _ _ i => l.length - (intOf i).toNat)
  case atStart => exact ⟨0, 0, Nat.zero_le _, by omega, by omega, rfl, rfl, rfl⟩
  case round =>
    obtain ⟨k, least, hk, h0, h1, rfl, rfl, hat⟩ := hrel
    by_cases hlt : k < l.length
    · obtain ⟨x, hx⟩ : ∃ x, l[k]? = some x := ⟨_, List.getElem?_eq_getElem hlt⟩
      obtain ⟨g, rfl, hg, c0⟩ := hA.num hx
      unfold OrigAt at hat
      rw [drop_cons hx, origF] at hat
      obtain ⟨r, hr⟩ : ∃ r, withinB x least ((m : Int) - 1) = r := ⟨_, rfl⟩
      have HR := Lib.hid hr
      cases r
      · rw [hr, Bool.false_and] at hat
        have HI := Lib.hid hat
        clear hr hx hA hat
        go_wp2_with (go_at_call 53; refine (isWithin_is _ _ _ _ HR _).mono ?_; rintro e w2 ⟨rfl, rfl⟩)
        go_ret
        exact ⟨ret_bool (by unfold origB; rw [HI.out]; rfl), rfl⟩
      · rw [hr, Bool.true_and] at hat
        have hxb : least ≤ x ∧ x ≤ (m : Int) - 1 := by unfold withinB at hr; simpa using hr
        obtain ⟨hx1, hx2⟩ := hxb
        have HI := Lib.hid hat
        clear hr hx hA hat
        go_wp2_with (go_at_call 53; refine (isWithin_is _ _ _ _ HR _).mono ?_; rintro e w2 ⟨rfl, rfl⟩)
        go_round
        case rel => exact ⟨k + 1, x + 1, by omega, by omega, by omega, by go_num, rfl, HI.out⟩
        case measure => simp [intOf]; omega
    · unfold OrigAt at hat
      rw [List.drop_of_length_le (by omega), origF] at hat
      have HI := Lib.hid hat
      clear hat
      by_cases hz : l.length = 0
      · have hz' : ¬ (0 : Int) < (l.length : Int) := by omega
        have HZ := Lib.hid hz
        clear hz
        go_wp2
        go_ret
        exact ⟨ret_bool (by unfold origB; rw [HI.out, HZ.out]; rfl), rfl⟩
      · have hz' : (0 : Int) < (l.length : Int) := by omega
        go_wp2
        go_ret
        exact ⟨ret_bool (by unfold origB; rw [HI.out, decide_eq_true (by omega)]; rfl), rfl⟩

end Go.Proofs.Ytlfdpfkimggeoaa
