/-
  The law's Net: the check under way, its block there.
-/
import Derived.Test.YtlfapmfhdagikaaDoorPlWa
namespace Go.Proofs.YtlfapmfhdagikaaDoor
open Go.RowKit
set_option linter.unusedVariables false

theorem own_set_ne {w : World} {base : Nat} {e : TypeId} {size : Nat} {v : Value} {n : Nat} {xs : List Value} (h : w.ownsRow base e size v n xs) {g : Nat} (hne : ∀ g', v.ownBlock = some g' → g' ≠ g) (i : Nat) (u : Value) : (w.setCell ⟨g, i, none⟩ u).ownsRow base e size v n xs := by
  refine h.kept (row := some g) ⟨rfl, rfl, rfl, by simp [World.setCell], fun k _ hk => Below.heap_setCell w ⟨g, i, none⟩ u k (fun e1 => hk (by rw [e1]))⟩ ?_
  cases hv : v.ownBlock with
  | none => exact .inl rfl
  | some g' =>
    refine .inr (fun e1 => ?_)
    injection e1 with e1
    exact hne g' hv e1

section
variable {w0 : World} {sb pb : Nat} {l : List Int} {pr ca kk : Int} {vn vl vd vc : Value} {ns : List PNode} {ls : List PLink} {ds : List PDest} {cs : List PCheck} {w w' : World} {b : Nat} {x0 x1 x2 x3 x4 : Int}

theorem NetSt.putC (h : NetSt w0 sb pb l pr ca kk vn vl vd vc ns ls ds cs w) {g : Nat} {xs : Array Value} (hb : Blk w g 55 xs) (hg : w0.heap.size ≤ g) (hvc : ∀ g', vc.ownBlock = some g' → g' ≠ g) (i : Nat) (u : Value) :
    NetSt w0 sb pb l pr ca kk vn vl vd vc ns ls ds cs (w.setCell ⟨g, i, none⟩ u) := by
  have hb2 : Below w0.heap.size w (w.setCell ⟨g, i, none⟩ u) := (Below.refl _ _).setCell (p := ⟨g, i, none⟩) hg _
  exact ⟨h.below.trans hb2, h.src.keep hb2 (fun _ hk => hk.far (p := ⟨g, i, none⟩) (hk.ne_ hb (by decide)) _), h.blk.far (p := ⟨g, i, none⟩) (h.blk.ne_ hb (by decide)) _, own_set h.nodes hb (by decide) i u, own_set h.links hb (by decide) i u,
    h.dests.map fun he ho => own_set ho hb (by rcases he with rfl | rfl <;> decide) i u, own_set_ne h.checks hvc i u, h.sb, h.pb', h.res.far (p := ⟨g, i, none⟩) (h.res.ne_ hb (by decide)) _⟩

/-- The check's own block is there, and the network. -/
structure ChkSt (w0 : World) (sb pb : Nat) (l : List Int) (pr ca kk : Int) (vn vl vd vc : Value) (ns : List PNode) (ls : List PLink) (ds : List PDest) (cs : List PCheck) (b : Nat) (x0 x1 x2 x3 x4 : Int) (w : World) : Prop where
  st : NetSt w0 sb pb l pr ca kk vn vl vd vc ns ls ds cs w
  blk : Blk w b 55 #[.int .i64 x0, .int .i64 x1, .int .i64 x2, .int .i64 x3, .int .i64 x4]
  lo : w0.heap.size ≤ b
  ne : ∀ g, vc.ownBlock = some g → g ≠ b
  ok : SrcOk l

theorem ChkSt.put (h : ChkSt w0 sb pb l pr ca kk vn vl vd vc ns ls ds cs b x0 x1 x2 x3 x4 w) (i : Nat) (u : Value) (y0 y1 y2 y3 y4 : Int) (hx : (#[.int .i64 x0, .int .i64 x1, .int .i64 x2, .int .i64 x3, .int .i64 x4] : Array Value).setIfInBounds i u = #[.int .i64 y0, .int .i64 y1, .int .i64 y2, .int .i64 y3, .int .i64 y4]) :
    ChkSt w0 sb pb l pr ca kk vn vl vd vc ns ls ds cs b y0 y1 y2 y3 y4 (w.setCell ⟨b, i, none⟩ u) :=
  ⟨h.st.putC h.blk h.lo h.ne i u, by have := h.blk.set_ i u; rwa [hx] at this, h.lo, h.ne, h.ok⟩
theorem ChkSt.fresh (h : NetSt w0 sb pb l pr ca kk vn vl vd vc ns ls ds cs w) (hok : SrcOk l) : ChkSt w0 sb pb l pr ca kk vn vl vd vc ns ls ds cs w.heap.size x0 x1 x2 x3 x4 (w.alloc (.cells #[.int .i64 x0, .int .i64 x1, .int .i64 x2, .int .i64 x3, .int .i64 x4] 55)) :=
  ⟨h.up (below_new _ _), Blk.new _ _ _, h.lt, fun g hg => Nat.ne_of_lt (h.checks.lt g hg).2, hok⟩
theorem CSt.done {B : Nat} (h : CSt w0 sb pb l pr ca kk vn vl vd vc ns ls ds cs B (some b) w) (hok : SrcOk l) (hvc : ∀ g, vc.ownBlock = some g → g < B) :
    ChkSt w0 sb pb l pr ca kk vn vl vd vc ns ls ds cs b x0 x1 x2 x3 x4 (((((w.setCell ⟨b, 0, none⟩ (.int .i64 x0)).setCell ⟨b, 1, none⟩ (.int .i64 x1)).setCell ⟨b, 2, none⟩ (.int .i64 x2)).setCell ⟨b, 3, none⟩ (.int .i64 x3)).setCell ⟨b, 4, none⟩ (.int .i64 x4)) := by
  obtain ⟨h1, h2⟩ := h.own b rfl
  have h0 : ChkSt w0 sb pb l pr ca kk vn vl vd vc ns ls ds cs b 0 0 0 0 0 w := ⟨h.st, h2, Nat.le_trans h.st.sb (Nat.le_trans (Nat.le_of_lt h.lo.1) h1), fun g hg => by have := hvc g hg; omega, hok⟩
  exact ((((h0.put 0 _ x0 0 0 0 0 rfl).put 1 _ x0 x1 0 0 0 rfl).put 2 _ x0 x1 x2 0 0 rfl).put 3 _ x0 x1 x2 x3 0 rfl).put 4 _ x0 x1 x2 x3 x4 rfl
theorem next_k (n : Int) (m v : Nat) (l' : List Int) (HV : Hid (nx l m = v)) (HT : Hid (l.tail = l')) (h : ChkSt w0 sb pb l pr ca kk vn vl vd vc ns ls ds cs b x0 x1 x2 x3 x4 w) (hn : n = (m : Int)) (h0 : 0 < m) (hm : m ≤ 4096) :
    Calls Tryd.prog 26 #[.pointer (some ⟨sb, 0, none⟩), .int .i64 n] w fun e w' => e = .returned (.int .i64 (v : Int)) ∧ ChkSt w0 sb pb l' pr ca kk vn vl vd vc ns ls ds cs b x0 x1 x2 x3 x4 w' :=
  (next_st n m v l' HV HT h.st h.ok hn h0 hm).mono fun _ _ ⟨he, hs, hok, ht⟩ => ⟨he, hs, ht.blk h.blk (by obtain ⟨v, hv⟩ := h.st.src.blk; exact h.blk.ne_ hv (by decide)), h.lo, h.ne, hok⟩
end

/-- What a check of a kind draws beside. -/
def limG (kd : Nat) (L : List Int) : Int × List Int := if kd = 1 then ((nx L 20 : Int), L.tail) else (0, L)
def othG (kd n : Nat) (L : List Int) : Int × List Int := if 2 ≤ kd then ((nx L n : Int), L.tail) else (0, L)
theorem checkG_is {n nd : Nat} {cs : List PCheck} {L0 L1 L2 L3 L4 L5 : List Int} {kd no dx : Nat} {li o : Int} (bk : kd < 4) (h1 : nx L0 4 = kd) (t1 : L0.tail = L1) (h2 : nx L1 n = no) (t2 : L1.tail = L2) (h3 : nx L2 nd = dx) (t3 : L2.tail = L3)
    (h4 : limG kd L3 = (li, L4)) (h5 : othG kd n L4 = (o, L5)) : checkG n nd (cs, L0) = (cs ++ [⟨1 + (kd : Int), no, dx, li, o⟩], L5) := by
  unfold checkG
  simp only [h1, t1, h2, t2, h3, t3]
  unfold limG at h4
  unfold othG at h5
  by_cases e1 : kd = 1
  · subst e1
    rw [if_pos rfl] at h4
    rw [if_neg (by omega)] at h5
    obtain ⟨rfl, rfl⟩ := Prod.mk.inj h4
    obtain ⟨rfl, rfl⟩ := Prod.mk.inj h5
    rw [if_pos rfl]; rfl
  · rw [if_neg e1] at h4
    obtain ⟨rfl, rfl⟩ := Prod.mk.inj h4
    rw [if_neg e1]
    by_cases e0 : kd = 0
    · subst e0
      rw [if_neg (by omega)] at h5
      obtain ⟨rfl, rfl⟩ := Prod.mk.inj h5
      rw [if_pos rfl]; rfl
    · rw [if_pos (by omega)] at h5
      obtain ⟨rfl, rfl⟩ := Prod.mk.inj h5
      rw [if_neg e0]
end Go.Proofs.YtlfapmfhdagikaaDoor
