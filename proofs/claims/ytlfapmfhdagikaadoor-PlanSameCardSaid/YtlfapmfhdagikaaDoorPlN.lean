/-
  A network's text, in words; a check's line.
-/
import Derived.Deep.QuietTactic
import Derived.BigQuiet
import Derived.Test.YtlfapmfhdagikaaDoorPlI
import Derived.Test.YtlfapmfhdagikaaDoorPlM
namespace Go.Proofs.YtlfapmfhdagikaaDoor
open Go.RowKit

def nmB (ns : List PNode) (i : Int) : ByteArray := ((ns[i.toNat]?).map (·.name)).getD ⟨#[]⟩
def dnB (ds : List PDest) (i : Int) : ByteArray := ((ds[i.toNat]?).map (·.name)).getD ⟨#[]⟩
def decW (n : Int) : ByteArray := ⟨(Lib.decDigits n.toNat).toArray⟩
theorem nm_is {ns : List PNode} {i : Nat} {x : PNode} (h : ns[i]? = some x) : nmB ns (i : Int) = x.name := by unfold nmB; rw [Int.toNat_natCast, h]; rfl
theorem dn_is {ds : List PDest} {i : Nat} {x : PDest} (h : ds[i]? = some x) : dnB ds (i : Int) = x.name := by unfold dnB; rw [Int.toNat_natCast, h]; rfl

def protoW (pr ca : Int) : List ByteArray := if pr = 1 then [⟨#[112, 114, 111, 116, 111, 99, 111, 108]⟩, ⟨#[118, 101, 99, 116, 111, 114]⟩] else [⟨#[112, 114, 111, 116, 111, 99, 111, 108]⟩, ⟨#[112, 97, 116, 104]⟩, decW ca]
def failW (k : Int) : List ByteArray := [⟨#[102, 97, 105, 108, 117, 114, 101, 115]⟩, decW k]
def nodeW (n : PNode) : List ByteArray := [⟨#[110, 111, 100, 101]⟩, n.name, decW n.num]
def linkW (ns : List PNode) (l : PLink) : List ByteArray := [⟨#[108, 105, 110, 107]⟩, nmB ns l.a, nmB ns l.b, decW l.cost]
def destW (ns : List PNode) (d : PDest) : List ByteArray := [⟨#[100, 101, 115, 116]⟩, d.name, ⟨#[97, 116]⟩] ++ d.orig.map (nmB ns)
def checkW (ns : List PNode) (ds : List PDest) (c : PCheck) : List ByteArray :=
  if c.kind = 1 then [⟨#[99, 104, 101, 99, 107]⟩, ⟨#[114, 101, 97, 99, 104]⟩, nmB ns c.node, dnB ds c.dest]
  else if c.kind = 2 then [⟨#[99, 104, 101, 99, 107]⟩, ⟨#[119, 105, 116, 104, 105, 110]⟩, nmB ns c.node, dnB ds c.dest, decW c.limit]
  else if c.kind = 3 then [⟨#[99, 104, 101, 99, 107]⟩, ⟨#[119, 97, 121, 112, 111, 105, 110, 116]⟩, nmB ns c.node, dnB ds c.dest, nmB ns c.other]
  else [⟨#[99, 104, 101, 99, 107]⟩, ⟨#[101, 113, 117, 97, 108]⟩, nmB ns c.node, nmB ns c.other, dnB ds c.dest]
/-- A line's text. -/
def lineS (xs : List ByteArray) : List UInt8 := lineB (xs.map (·.data.toList))
def textB (p : PPlan) : List UInt8 :=
  lineS (protoW p.proto p.cap) ++ (lineS (failW p.k) ++ (p.nodes.flatMap (fun n => lineS (nodeW n)) ++ (p.links.flatMap (fun l => lineS (linkW p.nodes l)) ++ (p.dests.flatMap (fun d => lineS (destW p.nodes d)) ++ p.checks.flatMap (fun c => lineS (checkW p.nodes p.dests c))))))

/-- A slice of texts that the call has just built. -/
theorem RowAt.new (w : World) (xs : List Value) (t : TypeId) : RowAt (w.alloc (.cells xs.toArray t)) (w.alloc (.cells xs.toArray t)).heap.size (some ⟨w.heap.size, 0, none⟩) xs := fun _ =>
  ⟨w.heap.size, rfl, by simp, fun j u hu => by rw [(Blk.new w t xs.toArray).cell j]; simpa using hu⟩
theorem RowAt.newAt (w : World) (xs : List Value) (t : TypeId) (k : Nat) (hk : w.heap.size = k) : RowAt (w.alloc (.cells xs.toArray t)) (w.alloc (.cells xs.toArray t)).heap.size (some ⟨k, 0, none⟩) xs := hk ▸ RowAt.new w xs t
theorem below_2dn (w : World) (o1 o2 o3 : Obj) (n : Nat) : Below w.heap.size w ((((w.alloc o1).alloc o2).drewN n).alloc o3) := (below_draws (((Below.refl _ w).alloc (Nat.le_refl _) _).alloc (by simp) _) n).alloc (by simp; omega) _
theorem decW_nat (n : Nat) : decW (n : Int) = ⟨(Lib.decDigits n).toArray⟩ := rfl
theorem RowAt.draws {w : World} {B : Nat} {A : Option Addr} {xs : List Value} (h : RowAt w B A xs) (n : Nat) : RowAt (w.drewN n) B A xs := h

/-- The line that a call tells, at the world w: what is known behind. -/
def Lined (B b : Nat) (l : List UInt8) (xs : List ByteArray) (w : World) (e : Ending) (w' : World) : Prop := e = .returned (.tuple #[]) ∧ PrAt B b (l ++ lineS xs) w' ∧ Below B w w' ∧ Far b w w'
theorem line_is (B b : Nat) (l : List UInt8) (xs : List ByteArray) {A : Option Addr} {n c : Nat} (w0 : World) {w : World} (h : PrAt B b l w0) (hb : Below w0.heap.size w0 w) (hA : RowAt w w.heap.size A (xs.map Value.string)) (hn : Hid (xs.length = n)) (hc : n ≤ c) (h0 : xs ≠ []) (hm : n ≤ 140737488355328)
    (hlen : l.length + (lineS xs).length ≤ 140737488355328) (hBw : B ≤ w0.heap.size) :
    Calls Tryd.prog 28 #[.pointer (some ⟨b, 0, none⟩), .slice A n c] w (Lined B b l xs w0) :=
  (line_any B b l xs w (h.up hb) hA hn hc h0 hm hlen (Nat.le_trans hBw hb.size)).mono fun _ _ ⟨he, h1, h2, h3⟩ => ⟨he, h1, (hb.mono hBw).trans h2, (Far.of_below hb).trans h3⟩

set_option maxHeartbeats 4000000 in
set_option maxRecDepth 100000 in
theorem check_line (B b : Nat) (l : List UInt8) (p : PPlan) {pr ca kk : Int} {An Al Ad Ac : Option Addr} {ln cn ll cl ld cd lc cc : Nat} (w : World) (h : PrAt B b l w) (hBw : B ≤ w.heap.size) (hN : RowAt w w.heap.size An (p.nodes.flatMap nodeC)) (hD : DestsAt w w.heap.size Ad p.dests) (hln : p.nodes.length = ln) (hld : p.dests.length = ld)
    (_ : ln ≤ 4096) (_ : ld ≤ 4096)
    (kd : Int) (i d o li : Nat) (hk : kd = 1 ∨ kd = 2 ∨ kd = 3 ∨ kd = 4) (hi : i < ln) (hd : d < ld) (ho : o < ln) (hli : li < 100) (hlen : l.length + (lineS (checkW p.nodes p.dests ⟨kd, i, d, li, o⟩)).length ≤ 140737488355328) :
    Calls Tryd.prog 31 #[.pointer (some ⟨b, 0, none⟩), .agg #[.int .i64 pr, .int .i64 ca, .int .i64 kk, .slice An ln cn, .slice Al ll cl, .slice Ad ld cd, .slice Ac lc cc], .agg #[.int .i64 kd, .int .i64 (i : Int), .int .i64 (d : Int), .int .i64 (li : Int), .int .i64 (o : Int)]] w (Lined B b l (checkW p.nodes p.dests ⟨kd, i, d, li, o⟩) w) := by
  obtain ⟨x, hx⟩ : ∃ x, p.nodes[i]? = some x := ⟨_, List.getElem?_eq_getElem (by omega)⟩
  obtain ⟨y, hy⟩ : ∃ y, p.dests[d]? = some y := ⟨_, List.getElem?_eq_getElem (by omega)⟩
  obtain ⟨z, hz⟩ : ∃ z, p.nodes[o]? = some z := ⟨_, List.getElem?_eq_getElem (by omega)⟩
  obtain ⟨g, rfl, hg, c0, _⟩ := hN.node hx
  obtain ⟨g1, he1, _, c1, _⟩ := hN.node hz
  obtain ⟨g2, Ao, co, rfl, hg2, c2, _, _⟩ := hD.dest hy
  obtain rfl : g = g1 := by injection he1 with he1; injection he1
  clear he1
  have d0 : ∀ o1 o2, ((w.alloc o1).alloc o2).cell? ⟨g, i * 2, none⟩ = some (.string x.name) := fun o1 o2 => (World.cell?_alloc_lt _ o2 ⟨g, i * 2, none⟩ (by simp; omega)).trans ((World.cell?_alloc_lt w o1 ⟨g, i * 2, none⟩ hg).trans c0)
  have d1 : ∀ o1 o2, ((w.alloc o1).alloc o2).cell? ⟨g, o * 2, none⟩ = some (.string z.name) := fun o1 o2 => (World.cell?_alloc_lt _ o2 ⟨g, o * 2, none⟩ (by simp; omega)).trans ((World.cell?_alloc_lt w o1 ⟨g, o * 2, none⟩ hg).trans c1)
  have d2 : ∀ o1 o2, ((w.alloc o1).alloc o2).cell? ⟨g2, d * 2, none⟩ = some (.string y.name) := fun o1 o2 => (World.cell?_alloc_lt _ o2 ⟨g2, d * 2, none⟩ (by simp; omega)).trans ((World.cell?_alloc_lt w o1 ⟨g2, d * 2, none⟩ hg2).trans c2)
  have i1 : (0 : Int) ≤ (i : Int) := by omega
  have i2 : (i : Int) < (ln : Int) := by omega
  have i3 : (0 : Int) ≤ (d : Int) := by omega
  have i4 : (d : Int) < (ld : Int) := by omega
  have i5 : (0 : Int) ≤ (o : Int) := by omega
  have i6 : (o : Int) < (ln : Int) := by omega
  have e1 := nm_is hx
  have e2 := dn_is hy
  have e3 := nm_is hz
  have H := Lib.hid h
  clear c0 c1 c2 hx hy hz h hN hD hln hld
  rcases hk with rfl | rfl | rfl | rfl
  · have hw : checkW p.nodes p.dests ⟨1, i, d, li, o⟩ = [⟨#[99, 104, 101, 99, 107]⟩, ⟨#[114, 101, 97, 99, 104]⟩, x.name, y.name] := by
      unfold checkW; simp only [if_true]; rw [e1, e2]
    rw [hw] at hlen ⊢
    clear hw e1 e2 e3
    go_enter Tryd.func31, Tryd.ntmps31
    go_wp2
    go_quiet (fail)
    go_wp2_with (first
      | (go_at_call 28; refine (line_is B b l [⟨#[99, 104, 101, 99, 107]⟩, ⟨#[114, 101, 97, 99, 104]⟩, x.name, y.name] w H.out (below_2dn w _ _ _ _) (RowAt.newAt _ (List.map Value.string [⟨#[99, 104, 101, 99, 107]⟩, ⟨#[114, 101, 97, 99, 104]⟩, x.name, y.name]) _ _ (by simp)) (Lib.hid rfl) (Nat.le_refl _) (by simp) (by simp) hlen hBw).mono ?_; rintro e w5 ⟨rfl, hp5, hb5, hf5⟩))
    go_end0
    exact ⟨rfl, hp5, hb5, hf5⟩
  · have hw : checkW p.nodes p.dests ⟨2, i, d, li, o⟩ = [⟨#[99, 104, 101, 99, 107]⟩, ⟨#[119, 105, 116, 104, 105, 110]⟩, x.name, y.name, ⟨(Lib.decDigits li).toArray⟩] := by
      unfold checkW; simp only [Int.reduceEq, if_false, if_true]; rw [e1, e2, decW_nat]
    rw [hw] at hlen ⊢
    clear hw e1 e2 e3
    go_enter Tryd.func31, Tryd.ntmps31
    go_wp2
    go_quiet (fail)
    go_wp2_with (first
      | (go_at_call 29; refine (Tryd.strconv_Itoa_small li hli _).mono ?_; rintro e w2 ⟨rfl, rfl⟩)
      | (go_at_call 28; refine (line_is B b l [⟨#[99, 104, 101, 99, 107]⟩, ⟨#[119, 105, 116, 104, 105, 110]⟩, x.name, y.name, ⟨(Lib.decDigits li).toArray⟩] w H.out (below_2dn w _ _ _ _) (RowAt.newAt _ (List.map Value.string [⟨#[99, 104, 101, 99, 107]⟩, ⟨#[119, 105, 116, 104, 105, 110]⟩, x.name, y.name, ⟨(Lib.decDigits li).toArray⟩]) _ _ (by simp)) (Lib.hid rfl) (Nat.le_refl _) (by simp) (by simp) hlen hBw).mono ?_; rintro e w5 ⟨rfl, hp5, hb5, hf5⟩))
    go_end0
    exact ⟨rfl, hp5, hb5, hf5⟩
  · have hw : checkW p.nodes p.dests ⟨3, i, d, li, o⟩ = [⟨#[99, 104, 101, 99, 107]⟩, ⟨#[119, 97, 121, 112, 111, 105, 110, 116]⟩, x.name, y.name, z.name] := by
      unfold checkW; simp only [Int.reduceEq, if_false, if_true]; rw [e1, e2, e3]
    rw [hw] at hlen ⊢
    clear hw e1 e2 e3
    go_enter Tryd.func31, Tryd.ntmps31
    go_wp2
    go_quiet (fail)
    go_wp2_with (first
      | (go_at_call 28; refine (line_is B b l [⟨#[99, 104, 101, 99, 107]⟩, ⟨#[119, 97, 121, 112, 111, 105, 110, 116]⟩, x.name, y.name, z.name] w H.out (below_2dn w _ _ _ _) (RowAt.newAt _ (List.map Value.string [⟨#[99, 104, 101, 99, 107]⟩, ⟨#[119, 97, 121, 112, 111, 105, 110, 116]⟩, x.name, y.name, z.name]) _ _ (by simp)) (Lib.hid rfl) (Nat.le_refl _) (by simp) (by simp) hlen hBw).mono ?_; rintro e w5 ⟨rfl, hp5, hb5, hf5⟩))
    go_end0
    exact ⟨rfl, hp5, hb5, hf5⟩
  · have hw : checkW p.nodes p.dests ⟨4, i, d, li, o⟩ = [⟨#[99, 104, 101, 99, 107]⟩, ⟨#[101, 113, 117, 97, 108]⟩, x.name, z.name, y.name] := by
      unfold checkW; simp only [Int.reduceEq, if_false]; rw [e1, e2, e3]
    rw [hw] at hlen ⊢
    clear hw e1 e2 e3
    go_enter Tryd.func31, Tryd.ntmps31
    go_wp2
    go_quiet (fail)
    go_wp2_with (first
      | (go_at_call 28; refine (line_is B b l [⟨#[99, 104, 101, 99, 107]⟩, ⟨#[101, 113, 117, 97, 108]⟩, x.name, z.name, y.name] w H.out (below_2dn w _ _ _ _) (RowAt.newAt _ (List.map Value.string [⟨#[99, 104, 101, 99, 107]⟩, ⟨#[101, 113, 117, 97, 108]⟩, x.name, z.name, y.name]) _ _ (by simp)) (Lib.hid rfl) (Nat.le_refl _) (by simp) (by simp) hlen hBw).mono ?_; rintro e w5 ⟨rfl, hp5, hb5, hf5⟩))
    go_end0
    exact ⟨rfl, hp5, hb5, hf5⟩

end Go.Proofs.YtlfapmfhdagikaaDoor
