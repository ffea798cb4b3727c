/-
  Package plan: a check that may be.
-/
import Derived.Test.YtlfdpfkimggeoaaPlA
import Derived.Test.YtlfdpfkimggeoaaPlC
import Derived.Test.YtlfdpfkimggeoaaLxD
namespace Go.Proofs.Ytlfdpfkimggeoaa
open Go.RowKit

def limB (k : Int) : Int := if k = 2 then 65535 else 0
def othB (k : Int) (ln : Nat) : Int := if k = 3 ∨ k = 4 then (ln : Int) - 1 else 0
def checkB (ln ld : Nat) (c : PCheck) : Bool :=
  if c.kind = 1 ∨ c.kind = 2 ∨ c.kind = 3 ∨ c.kind = 4 then placeB c.node ln && (placeB c.dest ld && (withinB c.limit 0 (limB c.kind) && withinB c.other 0 (othB c.kind ln))) else false

set_option maxHeartbeats 2000000 in
theorem rightCheck_any (c : PCheck) (pr ca kk : Int) (An Al Ad Ac : Option Addr) (ln cn ll cl ld cd lc cc : Nat) (hn : ln ≤ 9223372036854775807) (hd : ld ≤ 9223372036854775807) (w : World) :
    Calls Try.prog 74 #[.agg #[.int .i64 pr, .int .i64 ca, .int .i64 kk, .slice An ln cn, .slice Al ll cl, .slice Ad ld cd, .slice Ac lc cc], .agg #[.int .i64 c.kind, .int .i64 c.node, .int .i64 c.dest, .int .i64 c.limit, .int .i64 c.other]] w fun e w' => e = .returned (.bool (checkB ln ld c)) ∧ Below w.heap.size w w' := by
  obtain ⟨k, n, d, li, ot⟩ := c
  dsimp only
  have hbb := fun (o1 o2 : Obj) => below_box (below_box (Below.refl ((w.alloc o1).alloc o2).heap.size ((w.alloc o1).alloc o2)))
  by_cases hk : k = 1 ∨ k = 2 ∨ k = 3 ∨ k = 4
  · have hcB : checkB ln ld ⟨k, n, d, li, ot⟩ = (placeB n ln && (placeB d ld && (withinB li 0 (limB k) && withinB ot 0 (othB k ln)))) := by unfold checkB; rw [if_pos hk]
    obtain ⟨b1, h1⟩ : ∃ b, placeB n ln = b := ⟨_, rfl⟩
    obtain ⟨b2, h2⟩ : ∃ b, placeB d ld = b := ⟨_, rfl⟩
    obtain ⟨b3, h3⟩ : ∃ b, withinB li 0 (limB k) = b := ⟨_, rfl⟩
    obtain ⟨b4, h4⟩ : ∃ b, withinB ot 0 (othB k ln) = b := ⟨_, rfl⟩
    rw [h1, h2, h3, h4] at hcB
    have HC := Lib.hid hcB
    have H1 := Lib.hid h1
    have H2 := Lib.hid h2
    clear hcB h1 h2
    cases b1
    · have HR : Hid (checkB ln ld ⟨k, n, d, li, ot⟩ = false) := HC.out
      clear HC h3 h4
      rcases hk with rfl | rfl | rfl | rfl
      all_goals
        go_enter Try.func74, Try.ntmps74
        go_wp2_with (go_at_call 69; refine (isPlace_is _ _ hn _ H1 _).mono ?_; rintro e w2 ⟨rfl, rfl⟩)
        go_ret
        exact ⟨ret_bool HR.out.symm, hbb _ _⟩
    cases b2
    · have HR : Hid (checkB ln ld ⟨k, n, d, li, ot⟩ = false) := HC.out
      clear HC h3 h4
      rcases hk with rfl | rfl | rfl | rfl
      all_goals
        go_enter Try.func74, Try.ntmps74
        go_wp2_with (go_at_call 69; (first | ((with_reducible refine (isPlace_is _ _ hn _ H1 _).mono ?_)) | ((with_reducible refine (isPlace_is _ _ hd _ H2 _).mono ?_))); rintro e w2 ⟨rfl, rfl⟩)
        go_ret
        exact ⟨ret_bool HR.out.symm, hbb _ _⟩
    have HR : Hid (checkB ln ld ⟨k, n, d, li, ot⟩ = (b3 && b4)) := HC.out
    clear HC
    rcases hk with rfl | rfl | rfl | rfl
    all_goals
      have H3 := Lib.hid h3
      have H4 := Lib.hid h4
      clear h3 h4
      simp only [limB, othB, Int.reduceEq, or_self, or_true, or_false, if_true, if_false] at H3 H4
      cases b3
      · go_enter Try.func74, Try.ntmps74
        go_wp2_with (first
          | (go_at_call 69; (first | ((with_reducible refine (isPlace_is _ _ hn _ H1 _).mono ?_)) | ((with_reducible refine (isPlace_is _ _ hd _ H2 _).mono ?_))); rintro e w2 ⟨rfl, rfl⟩)
          | (go_at_call 53; ((with_reducible refine (isWithin_is _ _ _ _ H3 _).mono ?_)); rintro e w2 ⟨rfl, rfl⟩))
        go_ret
        exact ⟨ret_bool HR.out.symm, hbb _ _⟩
      · go_enter Try.func74, Try.ntmps74
        go_wp2_with (first
          | (go_at_call 69; (first | ((with_reducible refine (isPlace_is _ _ hn _ H1 _).mono ?_)) | ((with_reducible refine (isPlace_is _ _ hd _ H2 _).mono ?_))); rintro e w2 ⟨rfl, rfl⟩)
          | (go_at_call 53; (first | ((with_reducible refine (isWithin_is _ _ _ _ H3 _).mono ?_)) | ((with_reducible refine (isWithin_is _ _ _ _ H4 _).mono ?_))); rintro e w2 ⟨rfl, rfl⟩))
        go_ret
        exact ⟨ret_bool (by rw [HR.out]; rfl), hbb _ _⟩
  · have H : Hid (checkB ln ld ⟨k, n, d, li, ot⟩ = false) := Lib.hid (by unfold checkB; rw [if_neg hk])
    have e1 : (k == 1) = false := by simp; omega
    have e2 : (k == 2) = false := by simp; omega
    have e3 : (k == 3) = false := by simp; omega
    have e4 : (k == 4) = false := by simp; omega
    clear hk
    go_enter Try.func74, Try.ntmps74
    go_wp2
    go_ret
    exact ⟨ret_bool H.out.symm, hbb _ _⟩

end Go.Proofs.Ytlfdpfkimggeoaa

namespace Go.Proofs.Ytlfdpfkimggeoaa
open Go.RowKit

/-- Of all of a list, each at its place. -/
def allF {α : Type} (f : Nat → α → Bool) : List α → Nat → Bool
  | [], _ => true
  | x :: r, i => f i x && allF f r (i + 1)
def AllAt {α : Type} (f : Nat → α → Bool) (l : List α) (k : Nat) : Prop := allF f l 0 = allF f (l.drop k) k
section
variable {α : Type} {f : Nat → α → Bool} {l : List α} {k : Nat} {x : α}
theorem AllAt.start (f : Nat → α → Bool) (l : List α) : AllAt f l 0 := rfl
theorem AllAt.stop (h : AllAt f l k) (hx : l[k]? = some x) (hf : f k x = false) : allF f l 0 = false := by
  unfold AllAt at h
  rw [h, drop_cons hx, allF, hf, Bool.false_and]
theorem AllAt.next (h : AllAt f l k) (hx : l[k]? = some x) (hf : f k x = true) : AllAt f l (k + 1) := by
  unfold AllAt at h ⊢
  rw [h, drop_cons hx, allF, hf, Bool.true_and]
theorem AllAt.done (h : AllAt f l k) (hk : l.length ≤ k) : allF f l 0 = true := by
  unfold AllAt at h
  rw [h, List.drop_of_length_le hk]; rfl
theorem allF_iff (f : Nat → α → Bool) : ∀ (l : List α) (i : Nat), allF f l i = true ↔ ∀ k x, l[k]? = some x → f (i + k) x = true
  | [], i => by simp [allF]
  | y :: r, i => by
    rw [allF, Bool.and_eq_true, allF_iff f r (i + 1)]
    constructor
    · rintro ⟨h1, h2⟩ k x hk
      cases k with
      | zero => simp at hk; subst hk; exact h1
      | succ k => have := h2 k x (by simpa using hk); rwa [show i + 1 + k = i + (k + 1) by omega] at this
    · intro h
      refine ⟨h 0 y rfl, fun k x hk => ?_⟩
      have := h (k + 1) x (by simpa using hk)
      rwa [show i + (k + 1) = i + 1 + k by omega] at this
end

/-- Names and lengths that are not great. -/
structure PSmall (p : PPlan) : Prop where
  nodes : ∀ n ∈ p.nodes, n.name.size ≤ 4096
  dests : ∀ d ∈ p.dests, d.name.size ≤ 4096 ∧ d.orig.length ≤ 4000
  ln : p.nodes.length ≤ 4096
  ll : p.links.length ≤ 4096
  ld : p.dests.length ≤ 4096
  lc : p.checks.length ≤ 4096

theorem Node_is (p : PPlan) (x : ByteArray) (v : Int) (H : Hid (ixB (nameIs x) p.nodes = v)) {pr ca kk : Int} {An Al Ad Ac : Option Addr} {ln cn ll cl ld cd lc cc : Nat} {w : World} (h : RowAt w w.heap.size An (p.nodes.flatMap nodeC)) (hl : Hid (p.nodes.length = ln)) (hm : ln ≤ 4096) :
    Calls Try.prog 68 #[.agg #[.int .i64 pr, .int .i64 ca, .int .i64 kk, .slice An ln cn, .slice Al ll cl, .slice Ad ld cd, .slice Ac lc cc], .string x] w fun e w' => e = .returned (.int .i64 v) ∧ Below w.heap.size w w' :=
  (Node_any p x pr ca kk An Al Ad Ac ln cn ll cl ld cd lc cc w h hl.out (by omega)).mono fun _ _ ⟨he, hw⟩ => ⟨by rw [he, H.out], hw⟩
theorem Dest_is (p : PPlan) (x : ByteArray) (v : Int) (H : Hid (ixB (destIs x) p.dests = v)) {pr ca kk : Int} {An Al Ad Ac : Option Addr} {ln cn ll cl ld cd lc cc : Nat} {w : World} (h : DestsAt w w.heap.size Ad p.dests) (hl : Hid (p.dests.length = ld)) (hm : ld ≤ 4096) :
    Calls Try.prog 72 #[.agg #[.int .i64 pr, .int .i64 ca, .int .i64 kk, .slice An ln cn, .slice Al ll cl, .slice Ad ld cd, .slice Ac lc cc], .string x] w fun e w' => e = .returned (.int .i64 v) ∧ Below w.heap.size w w' :=
  (Dest_any p x pr ca kk An Al Ad Ac ln cn ll cl ld cd lc cc w h hl.out (by omega)).mono fun _ _ ⟨he, hw⟩ => ⟨by rw [he, H.out], hw⟩

def nodeOk (ns : List PNode) (i : Nat) (n : PNode) : Bool := nameB n.name.data.toList && (decide (ixB (nameIs n.name) ns = i) && withinB n.num 1 65535)
def nodesB (ns : List PNode) : Bool := withinB ns.length 1 12 && allF (nodeOk ns) ns 0

/-- A plan's box. -/
theorem box7 {w : World} {b : Nat} {t : TypeId} {c0 c1 c2 c3 c4 c5 c6 : Value} (h : Blk w b t #[c0, c1, c2, c3, c4, c5, c6]) :
    w.cell? ⟨b, 0, none⟩ = some c0 ∧ w.cell? ⟨b, 1, none⟩ = some c1 ∧ w.cell? ⟨b, 2, none⟩ = some c2 ∧ w.cell? ⟨b, 3, none⟩ = some c3 ∧ w.cell? ⟨b, 4, none⟩ = some c4 ∧ w.cell? ⟨b, 5, none⟩ = some c5 ∧ w.cell? ⟨b, 6, none⟩ = some c6 :=
  ⟨h.cell 0, h.cell 1, h.cell 2, h.cell 3, h.cell 4, h.cell 5, h.cell 6⟩

theorem box7a {w : World} {b : Nat} {t : TypeId} {c0 c1 c2 c3 c4 c5 c6 : Value} (h : Blk w b t #[c0, c1, c2, c3, c4, c5, c6]) :
    (∀ o, (w.alloc o).cell? ⟨b, 0, none⟩ = some c0) ∧ (∀ o, (w.alloc o).cell? ⟨b, 1, none⟩ = some c1) ∧ (∀ o, (w.alloc o).cell? ⟨b, 2, none⟩ = some c2) ∧ (∀ o, (w.alloc o).cell? ⟨b, 3, none⟩ = some c3) ∧ (∀ o, (w.alloc o).cell? ⟨b, 4, none⟩ = some c4) ∧ (∀ o, (w.alloc o).cell? ⟨b, 5, none⟩ = some c5) ∧ (∀ o, (w.alloc o).cell? ⟨b, 6, none⟩ = some c6) :=
  ⟨fun o => (h.alloc o).cell 0, fun o => (h.alloc o).cell 1, fun o => (h.alloc o).cell 2, fun o => (h.alloc o).cell 3, fun o => (h.alloc o).cell 4, fun o => (h.alloc o).cell 5, fun o => (h.alloc o).cell 6⟩

set_option maxRecDepth 100000 in
set_option maxHeartbeats 2000000 in
theorem rightNodes_any (p : PPlan) (hs : PSmall p) {pr ca kk : Int} {An Al Ad Ac : Option Addr} {ln cn ll cl ld cd lc cc : Nat} {w : World} (h : RowAt w w.heap.size An (p.nodes.flatMap nodeC)) (hl : Hid (p.nodes.length = ln)) (hm : ln ≤ 4096) :
    Calls Try.prog 54 #[.agg #[.int .i64 pr, .int .i64 ca, .int .i64 kk, .slice An ln cn, .slice Al ll cl, .slice Ad ld cd, .slice Ac lc cc]] w fun e w' => e = .returned (.bool (nodesB p.nodes)) ∧ Below w.heap.size w w' := by
  obtain ⟨b0, hb0⟩ : ∃ b, withinB (ln : Int) 1 12 = b := ⟨_, rfl⟩
  have H0 := Lib.hid hb0
  have hn := hs.nodes
  have HN := Lib.hid hn
  have HBX := Lib.hid (fun c0 c1 c2 c3 c4 c5 c6 => Blk.new w 29 #[c0, c1, c2, c3, c4, c5, c6])
  have hbx := fun o => below_new w o
  clear hb0 hn hs
  cases b0
  · have HF : Hid (nodesB p.nodes = false) := Lib.hid (by unfold nodesB; rw [hl.out, H0.out]; rfl)
    go_enter Try.func54, Try.ntmps54
    go_wp2_with (go_at_call 53; refine (isWithin_is _ _ _ _ H0 _).mono ?_; rintro e w2 ⟨rfl, rfl⟩)
    go_ret
    exact ⟨ret_bool HF.out.symm, hbx _⟩
  · have HT : Hid (nodesB p.nodes = allF (nodeOk p.nodes) p.nodes 0) := Lib.hid (by unfold nodesB; rw [hl.out, H0.out]; rfl)
    go_enter Try.func54, Try.ntmps54
    go_wp2_with (go_at_call 53; refine (isWithin_is _ _ _ _ H0 _).mono ?_; rintro e w2 ⟨rfl, rfl⟩)
    go_loopw [3, 4, 13] (fun _ _ i wr => ∃ k : Nat, k ≤ ln ∧ i = .int .i64 (k : Nat) ∧ AllAt (nodeOk p.nodes) p.nodes k ∧ Below w.heap.size w wr ∧ Blk wr w.heap.size 29 #[.int .i64 pr, .int .i64 ca, .int .i64 kk, .slice An ln cn, .slice Al ll cl, .slice Ad ld cd, .slice Ac lc cc]) (fun _ _ i _ => ln - (intOf i).toNat)
    case atStart => exact ⟨0, Nat.zero_le _, rfl, AllAt.start _ _, hbx _, HBX.out _ _ _ _ _ _ _⟩
    case round =>
      clear hbx HBX
      obtain ⟨k, hk, rfl, hat, hbw, hbox⟩ := hrel
      obtain ⟨d0, d1, d2, d3, d4, d5, d6⟩ := box7a hbox
      by_cases hlt : k < ln
      · obtain ⟨n, hn⟩ : ∃ n, p.nodes[k]? = some n := ⟨_, List.getElem?_eq_getElem (by rw [hl.out]; exact hlt)⟩
        have hup := h.up hbw
        obtain ⟨g, hAg, hg, c0, c1⟩ := hup.node hn
        have hsz : n.name.size ≤ 9223372036854775807 := Nat.le_trans (HN.out n (List.mem_of_getElem? hn)) (by omega)
        have hAn' := fun o => hup.box o
        clear hup h
        obtain ⟨b1, e1⟩ : ∃ b, nameB n.name.data.toList = b := ⟨_, rfl⟩
        have H1 := Lib.hid e1
        cases b1
        · have HF : Hid (nodesB p.nodes = false) := Lib.hid (by rw [HT.out]; exact hat.stop hn (by unfold nodeOk; rw [e1]; rfl))
          clear e1 hn hat hAn'
          subst hAg
          go_wp2_with (go_at_call 67; refine (Name_is _ hsz _ H1 _).mono ?_; rintro e w2 ⟨rfl, rfl⟩)
          go_ret
          exact ⟨ret_bool HF.out.symm, hbw.alloc hbw.size _⟩
        obtain ⟨v, e2⟩ : ∃ v, ixB (nameIs n.name) p.nodes = v := ⟨_, rfl⟩
        by_cases hv : v = (k : Int)
        · obtain ⟨b3, e3⟩ : ∃ b, withinB n.num 1 65535 = b := ⟨_, rfl⟩
          have H3 := Lib.hid e3
          rw [hv] at e2
          have H2 := Lib.hid e2
          have hok : nodeOk p.nodes k n = b3 := by unfold nodeOk; rw [e1, e2, e3]; simp
          clear hv e1 e2 e3
          cases b3
          · have HF : Hid (nodesB p.nodes = false) := Lib.hid (by rw [HT.out]; exact hat.stop hn hok)
            clear hn hat hok
            subst hAg
            go_wp2_with (first
              | (go_at_call 67; refine (Name_is _ hsz _ H1 _).mono ?_; rintro e w2 ⟨rfl, rfl⟩)
              | (go_at_call 68; refine (Node_is p _ _ H2 (hAn' _) hl hm).mono ?_; rintro e w2 ⟨rfl, hb2⟩; have f1 : w2.cell? ⟨wr.heap.size, 1, none⟩ = some (.int .i64 n.num) := ((Blk.new wr _ #[.string n.name, .int .i64 n.num]).up hb2).cell 1)
              | (go_at_call 53; refine (isWithin_is _ _ _ _ H3 _).mono ?_; rintro e w3 ⟨rfl, rfl⟩))
            go_ret
            exact ⟨ret_bool HF.out.symm, (hbw.alloc hbw.size _).trans (hb2.mono (by simp; have := hbw.size; omega))⟩
          · have hat' := hat.next hn hok
            clear hn hat hok
            subst hAg
            go_wp2_with (first
              | (go_at_call 67; refine (Name_is _ hsz _ H1 _).mono ?_; rintro e w2 ⟨rfl, rfl⟩)
              | (go_at_call 68; refine (Node_is p _ _ H2 (hAn' _) hl hm).mono ?_; rintro e w2 ⟨rfl, hb2⟩; have f1 : w2.cell? ⟨wr.heap.size, 1, none⟩ = some (.int .i64 n.num) := ((Blk.new wr _ #[.string n.name, .int .i64 n.num]).up hb2).cell 1)
              | (go_at_call 53; refine (isWithin_is _ _ _ _ H3 _).mono ?_; rintro e w3 ⟨rfl, rfl⟩))
            go_roundw
            case rel => exact ⟨k + 1, by omega, by go_num, hat', (hbw.alloc hbw.size _).trans (hb2.mono (by simp; have := hbw.size; omega)), (hbox.alloc _).up hb2⟩
            case measure => simp [intOf]; omega
        · have H2 := Lib.hid e2
          have HF : Hid (nodesB p.nodes = false) := Lib.hid (by rw [HT.out]; exact hat.stop hn (by unfold nodeOk; rw [e1, e2, decide_eq_false hv]; rfl))
          have v1 : (v == (k : Int)) = false := by simpa using hv
          have v2 : (v != (k : Int)) = true := by simpa using hv
          clear hn hat hv e1 e2
          subst hAg
          go_wp2_with (first
            | (go_at_call 67; refine (Name_is _ hsz _ H1 _).mono ?_; rintro e w2 ⟨rfl, rfl⟩)
            | (go_at_call 68; refine (Node_is p _ _ H2 (hAn' _) hl hm).mono ?_; rintro e w2 ⟨rfl, hb2⟩))
          go_ret
          exact ⟨ret_bool HF.out.symm, (hbw.alloc hbw.size _).trans (hb2.mono (by simp; have := hbw.size; omega))⟩
      · have HF : Hid (nodesB p.nodes = true) := Lib.hid (by rw [HT.out]; exact hat.done (by rw [hl.out]; omega))
        go_wp2
        go_ret
        exact ⟨ret_bool HF.out.symm, hbw⟩

end Go.Proofs.Ytlfdpfkimggeoaa
