/-
  A network's text, in words; a check's line.
-/
import Derived.Deep.QuietTactic
import Derived.BigQuiet
import Derived.Test.YtdmilbfdiebjgaaDoorPmA
import Derived.Test.YtdmilbfdiebjgaaDoorPlL
namespace Go.Proofs.YtdmilbfdiebjgaaDoor
open Go.RowKit

def nmB (ns : List PNode) (i : Int) : ByteArray := ((ns[i.toNat]?).map (·.name)).getD ⟨#[]⟩
def dnB (ds : List PDest) (i : Int) : ByteArray := ((ds[i.toNat]?).map (·.name)).getD ⟨#[]⟩
def decW (n : Int) : ByteArray := ⟨(Lib.decDigits n.toNat).toArray⟩
theorem nm_is {ns : List PNode} {i : Nat} {x : PNode} (h : ns[i]? = some x) : nmB ns (i : Int) = x.name := by unfold nmB; rw [Int.toNat_natCast, h]; rfl
theorem dn_is {ds : List PDest} {i : Nat} {x : PDest} (h : ds[i]? = some x) : dnB ds (i : Int) = x.name := by unfold dnB; rw [Int.toNat_natCast, h]; rfl

def protoW (pr ca : Int) : List ByteArray := if pr = 1 then [⟨#[112, 114, 111, 116, 111, 99, 111, 108]⟩, ⟨#[118, 101, 99, 116, 111, 114]⟩] else [⟨#[112, 114, 111, 116, 111, 99, 111, 108]⟩, ⟨#[112, 97, 116, 104]⟩, decW ca]
def failW (k : Int) : List ByteArray := [⟨#[102, 97, 105, 108, 117, 114, 101, 115]⟩, decW k]
def nodeW (n : PNode) : List ByteArray := [⟨#[110, 111, 100, 101]⟩, n.name, decW n.num]
def linkW (ns : List PNode) (l : PLink) : List ByteArray := [⟨#[108, 105, 110, 107]⟩, nmB ns l.a, nmB ns l.b, decW l.cost]
def destW (ns : List PNode) (d : PDest) : List ByteArray := [⟨#[100, 101, 115, 116]⟩, d.name, ⟨#[97, 116]⟩] ++ d.orig.map (nmB ns)
def checkW (ns : List PNode) (ds : List PDest) (c : PCheck) : List ByteArray :=
  if c.kind = 1 then [⟨#[99, 104, 101, 99, 107]⟩, ⟨#[114, 101, 97, 99, 104]⟩, nmB ns c.node, dnB ds c.dest]
  else if c.kind = 2 then [⟨#[99, 104, 101, 99, 107]⟩, ⟨#[119, 105, 116, 104, 105, 110]⟩, nmB ns c.node, dnB ds c.dest, decW c.limit]
  else if c.kind = 3 then [⟨#[99, 104, 101, 99, 107]⟩, ⟨#[119, 97, 121, 112, 111, 105, 110, 116]⟩, nmB ns c.node, dnB ds c.dest, nmB ns c.other]
  else [⟨#[99, 104, 101, 99, 107]⟩, ⟨#[101, 113, 117, 97, 108]⟩, nmB ns c.node, nmB ns c.other, dnB ds c.dest]
/-- A line's text. -/
def lineS (xs : List ByteArray) : List UInt8 := lineB (xs.map (·.data.toList))
def textB (p : PPlan) : List UInt8 :=
  lineS (protoW p.proto p.cap) ++ (lineS (failW p.k) ++ (p.nodes.flatMap (fun n => lineS (nodeW n)) ++ (p.links.flatMap (fun l => lineS (linkW p.nodes l)) ++ (p.dests.flatMap (fun d => lineS (destW p.nodes d)) ++ p.checks.flatMap (fun c => lineS (checkW p.nodes p.dests c))))))

theorem decW_nat (n : Nat) : decW (n : Int) = ⟨(Lib.decDigits n).toArray⟩ := rfl
/-- The line that a call tells, at the world w: what is known behind. -/
def Lined (B b : Nat) (l : List UInt8) (xs : List ByteArray) (w : World) (e : Ending) (w' : World) : Prop := e = .returned (.tuple #[]) ∧ PrAt B b (l ++ lineS xs) w' ∧ Below B w w' ∧ Far b w w'
theorem line_is (B b : Nat) (l : List UInt8) (xs : List ByteArray) {A : Option Addr} {n c : Nat} (w0 : World) {w : World} (h : PrAt B b l w0) (hb : Below w0.heap.size w0 w) (hA : RowAt w w.heap.size A (xs.map Value.string)) (hn : Hid (xs.length = n)) (hc : n ≤ c) (h0 : xs ≠ []) (hm : n ≤ 140737488355328)
    (hlen : l.length + (lineS xs).length ≤ 140737488355328) (hBw : B ≤ w0.heap.size) :
    Calls Tryd.prog 19 #[.pointer (some ⟨b, 0, none⟩), .slice A n c] w (Lined B b l xs w0) :=
  (line_any B b l xs w (h.up hb) hA hn hc h0 hm hlen (Nat.le_trans hBw hb.size)).mono fun _ _ ⟨he, h1, h2, h3⟩ => ⟨he, h1, (hb.mono hBw).trans h2, (Far.of_below hb).trans h3⟩

set_option maxHeartbeats 4000000 in
set_option maxRecDepth 100000 in
theorem check_line (B b : Nat) (l : List UInt8) (p : PPlan) {pr ca kk : Int} {An Al Ad Ac : Option Addr} {ln cn ll cl ld cd lc cc : Nat} (w : World) (h : PrAt B b l w) (hBw : B ≤ w.heap.size) (hN : RowAt w w.heap.size An (p.nodes.flatMap nodeC)) (hD : DestsAt w w.heap.size Ad p.dests) (hln : p.nodes.length = ln) (hld : p.dests.length = ld)
    (_ : ln ≤ 4096) (_ : ld ≤ 4096)
    (kd : Int) (i d o li : Nat) (hk : kd = 1 ∨ kd = 2 ∨ kd = 3 ∨ kd = 4) (hi : i < ln) (hd : d < ld) (ho : o < ln) (hli : li < 100) (hlen : l.length + (lineS (checkW p.nodes p.dests ⟨kd, i, d, li, o⟩)).length ≤ 140737488355328) :
    Calls Tryd.prog 22 #[.pointer (some ⟨b, 0, none⟩), .agg #[.int .i64 pr, .int .i64 ca, .int .i64 kk, .slice An ln cn, .slice Al ll cl, .slice Ad ld cd, .slice Ac lc cc], .agg #[.int .i64 kd, .int .i64 (i : Int), .int .i64 (d : Int), .int .i64 (li : Int), .int .i64 (o : Int)]] w (Lined B b l (checkW p.nodes p.dests ⟨kd, i, d, li, o⟩) w) := by
  obtain ⟨x, hx⟩ : ∃ x, p.nodes[i]? = some x := ⟨_, List.getElem?_eq_getElem (by omega)⟩
  obtain ⟨y, hy⟩ : ∃ y, p.dests[d]? = some y := ⟨_, List.getElem?_eq_getElem (by omega)⟩
  obtain ⟨z, hz⟩ : ∃ z, p.nodes[o]? = some z := ⟨_, List.getElem?_eq_getElem (by omega)⟩
  obtain ⟨g, rfl, hg, c0, _⟩ := hN.node hx
  obtain ⟨g1, he1, _, c1, _⟩ := hN.node hz
  obtain ⟨g2, Ao, co, rfl, hg2, c2, _, _⟩ := hD.dest hy
  obtain rfl : g = g1 := by injection he1 with he1; injection he1
  clear he1
  have d0 : ∀ o1 o2, ((w.alloc o1).alloc o2).cell? ⟨g, i * 2, none⟩ = some (.string x.name) := fun o1 o2 => (World.cell?_alloc_lt _ o2 ⟨g, i * 2, none⟩ (by simp; omega)).trans ((World.cell?_alloc_lt w o1 ⟨g, i * 2, none⟩ hg).trans c0)
  have d1 : ∀ o1 o2, ((w.alloc o1).alloc o2).cell? ⟨g, o * 2, none⟩ = some (.string z.name) := fun o1 o2 => (World.cell?_alloc_lt _ o2 ⟨g, o * 2, none⟩ (by simp; omega)).trans ((World.cell?_alloc_lt w o1 ⟨g, o * 2, none⟩ hg).trans c1)
  have d2 : ∀ o1 o2, ((w.alloc o1).alloc o2).cell? ⟨g2, d * 2, none⟩ = some (.string y.name) := fun o1 o2 => (World.cell?_alloc_lt _ o2 ⟨g2, d * 2, none⟩ (by simp; omega)).trans ((World.cell?_alloc_lt w o1 ⟨g2, d * 2, none⟩ hg2).trans c2)
  have i1 : (0 : Int) ≤ (i : Int) := by omega
  have i2 : (i : Int) < (ln : Int) := by omega
  have i3 : (0 : Int) ≤ (d : Int) := by omega
  have i4 : (d : Int) < (ld : Int) := by omega
  have i5 : (0 : Int) ≤ (o : Int) := by omega
  have i6 : (o : Int) < (ln : Int) := by omega
  have e1 := nm_is hx
  have e2 := dn_is hy
  have e3 := nm_is hz
  have H := Lib.hid h
  clear c0 c1 c2 hx hy hz h hN hD hln hld
  rcases hk with rfl | rfl | rfl | rfl
  · have hw : checkW p.nodes p.dests ⟨1, i, d, li, o⟩ = [⟨#[99, 104, 101, 99, 107]⟩, ⟨#[114, 101, 97, 99, 104]⟩, x.name, y.name] := by
      unfold checkW; simp only [if_true]; rw [e1, e2]
    rw [hw] at hlen ⊢
    clear hw e1 e2 e3
    go_enter Tryd.func22, Tryd.ntmps22
    go_wp2
    go_quiet (fail)
    go_wp2_with (first
      | (go_at_call 19; refine (line_is B b l [⟨#[99, 104, 101, 99, 107]⟩, ⟨#[114, 101, 97, 99, 104]⟩, x.name, y.name] w H.out (below_2dn w _ _ _ _) (RowAt.newAt _ (List.map Value.string [⟨#[99, 104, 101, 99, 107]⟩, ⟨#[114, 101, 97, 99, 104]⟩, x.name, y.name]) _ _ (by simp)) (Lib.hid rfl) (Nat.le_refl _) (by simp) (by simp) hlen hBw).mono ?_; rintro e w5 ⟨rfl, hp5, hb5, hf5⟩))
    go_end0
    exact ⟨rfl, hp5, hb5, hf5⟩
  · have hw : checkW p.nodes p.dests ⟨2, i, d, li, o⟩ = [⟨#[99, 104, 101, 99, 107]⟩, ⟨#[119, 105, 116, 104, 105, 110]⟩, x.name, y.name, ⟨(Lib.decDigits li).toArray⟩] := by
      unfold checkW; simp only [Int.reduceEq, if_false, if_true]; rw [e1, e2, decW_nat]
    rw [hw] at hlen ⊢
    clear hw e1 e2 e3
    go_enter Tryd.func22, Tryd.ntmps22
    go_wp2
    go_quiet (fail)
    go_wp2_with (first
      | (go_at_call 20; refine (Tryd.strconv_Itoa_small li hli _).mono ?_; rintro e w2 ⟨rfl, rfl⟩)
      | (go_at_call 19; refine (line_is B b l [⟨#[99, 104, 101, 99, 107]⟩, ⟨#[119, 105, 116, 104, 105, 110]⟩, x.name, y.name, ⟨(Lib.decDigits li).toArray⟩] w H.out (below_2dn w _ _ _ _) (RowAt.newAt _ (List.map Value.string [⟨#[99, 104, 101, 99, 107]⟩, ⟨#[119, 105, 116, 104, 105, 110]⟩, x.name, y.name, ⟨(Lib.decDigits li).toArray⟩]) _ _ (by simp)) (Lib.hid rfl) (Nat.le_refl _) (by simp) (by simp) hlen hBw).mono ?_; rintro e w5 ⟨rfl, hp5, hb5, hf5⟩))
    go_end0
    exact ⟨rfl, hp5, hb5, hf5⟩
  · have hw : checkW p.nodes p.dests ⟨3, i, d, li, o⟩ = [⟨#[99, 104, 101, 99, 107]⟩, ⟨#[119, 97, 121, 112, 111, 105, 110, 116]⟩, x.name, y.name, z.name] := by
      unfold checkW; simp only [Int.reduceEq, if_false, if_true]; rw [e1, e2, e3]
    rw [hw] at hlen ⊢
    clear hw e1 e2 e3
    go_enter Tryd.func22, Tryd.ntmps22
    go_wp2
    go_quiet (fail)
    go_wp2_with (first
      | (go_at_call 19; refine (line_is B b l [⟨#[99, 104, 101, 99, 107]⟩, ⟨#[119, 97, 121, 112, 111, 105, 110, 116]⟩, x.name, y.name, z.name] w H.out (below_2dn w _ _ _ _) (RowAt.newAt _ (List.map Value.string [⟨#[99, 104, 101, 99, 107]⟩, ⟨#[119, 97, 121, 112, 111, 105, 110, 116]⟩, x.name, y.name, z.name]) _ _ (by simp)) (Lib.hid rfl) (Nat.le_refl _) (by simp) (by simp) hlen hBw).mono ?_; rintro e w5 ⟨rfl, hp5, hb5, hf5⟩))
    go_end0
    exact ⟨rfl, hp5, hb5, hf5⟩
  · have hw : checkW p.nodes p.dests ⟨4, i, d, li, o⟩ = [⟨#[99, 104, 101, 99, 107]⟩, ⟨#[101, 113, 117, 97, 108]⟩, x.name, z.name, y.name] := by
      unfold checkW; simp only [Int.reduceEq, if_false]; rw [e1, e2, e3]
    rw [hw] at hlen ⊢
    clear hw e1 e2 e3
    go_enter Tryd.func22, Tryd.ntmps22
    go_wp2
    go_quiet (fail)
    go_wp2_with (first
      | (go_at_call 19; refine (line_is B b l [⟨#[99, 104, 101, 99, 107]⟩, ⟨#[101, 113, 117, 97, 108]⟩, x.name, z.name, y.name] w H.out (below_2dn w _ _ _ _) (RowAt.newAt _ (List.map Value.string [⟨#[99, 104, 101, 99, 107]⟩, ⟨#[101, 113, 117, 97, 108]⟩, x.name, z.name, y.name]) _ _ (by simp)) (Lib.hid rfl) (Nat.le_refl _) (by simp) (by simp) hlen hBw).mono ?_; rintro e w5 ⟨rfl, hp5, hb5, hf5⟩))
    go_end0
    exact ⟨rfl, hp5, hb5, hf5⟩

end Go.Proofs.YtdmilbfdiebjgaaDoor

namespace Go.Proofs.YtdmilbfdiebjgaaDoor
open Go.RowKit

/-- The words of a destination's line, up to its k-th origin. -/
def destK (ns : List PNode) (nm : ByteArray) (og : List Int) (k : Nat) : List ByteArray := [⟨#[100, 101, 115, 116]⟩, nm, ⟨#[97, 116]⟩] ++ (og.take k).map (nmB ns)
theorem destK_step (ns : List PNode) (nm : ByteArray) (og : List Int) (k : Nat) (a : Int) (h : og[k]? = some a) : destK ns nm og (k + 1) = destK ns nm og k ++ [nmB ns a] := by
  unfold destK
  rw [List.take_add_one, h]
  simp
theorem destK_all (ns : List PNode) (nm : ByteArray) (og : List Int) : destK ns nm og og.length = destW ns ⟨nm, og⟩ := by
  unfold destK destW
  rw [List.take_length]

set_option maxHeartbeats 4000000 in
set_option maxRecDepth 100000 in
theorem dest_line (B b : Nat) (l : List UInt8) (p : PPlan) {pr ca kk : Int} {An Al Ad Ac : Option Addr} {ln cn ll cl ld cd lc cc : Nat} (w : World) (h : PrAt B b l w) (hBw : B ≤ w.heap.size) (hN : RowAt w w.heap.size An (p.nodes.flatMap nodeC)) (hln : Hid (p.nodes.length = ln))
    (nm : ByteArray) (og : List Int) {Ao : Option Addr} {lo co : Nat} (hO : RowAt w w.heap.size Ao (og.map (Value.int .i64))) (hlo : Hid (og.length = lo)) (hlo2 : lo ≤ 4000) (hog : Hid (∀ a ∈ og, ∃ i : Nat, a = i ∧ i < ln)) (hlen : l.length + (lineS (destW p.nodes ⟨nm, og⟩)).length ≤ 140737488355328) :
    Calls Tryd.prog 21 #[.pointer (some ⟨b, 0, none⟩), .agg #[.int .i64 pr, .int .i64 ca, .int .i64 kk, .slice An ln cn, .slice Al ll cl, .slice Ad ld cd, .slice Ac lc cc], .agg #[.string nm, .slice Ao lo co]] w (Lined B b l (destW p.nodes ⟨nm, og⟩) w) := by
  obtain ⟨i0, hi, hz0, hz1, hz2⟩ := info_parts strInfo
  have HH := Lib.hid h
  have hB3 := Lib.hid (fun (o1 o2 o3 : Obj) => (((Below.refl _ w).alloc (Nat.le_refl _) o1).alloc (by simp) o2).alloc (by simp; omega) o3)
  have hX := Lib.hid (fun (o2 o3 : Obj) => ((Blk.new w 29 #[.int .i64 pr, .int .i64 ca, .int .i64 kk, .slice An ln cn, .slice Al ll cl, .slice Ad ld cd, .slice Ac lc cc]).alloc o2).alloc o3)
  clear h
  go_enter Tryd.func21, Tryd.ntmps21
  go_wp2
  go_loopw [6, 8, 15] (fun v _ i wr => ∃ k : Nat, k ≤ lo ∧ i = .int .i64 (k : Nat) ∧ wr.ownsRow w.heap.size 9 1 v (3 + k) ((destK p.nodes nm og k).map Value.string) ∧ Below w.heap.size w wr ∧ Blk wr w.heap.size 29 #[.int .i64 pr, .int .i64 ca, .int .i64 kk, .slice An ln cn, .slice Al ll cl, .slice Ad ld cd, .slice Ac lc cc]) (fun _ _ i _ => lo - (intOf i).toNat)
  case atStart => exact ⟨0, Nat.zero_le _, rfl, own_new _ _ _ (List.map Value.string (destK p.nodes nm og 0)) _ (by simp) (by omega) 3 (by simp [destK]) (by omega), hB3.out _ _ _, hX.out _ _⟩
  case round =>
    clear hX hB3
    obtain ⟨k, hk, rfl, hown, hbw, hbox⟩ := hrel
    by_cases hlt : k < lo
    · obtain ⟨a, ha⟩ : ∃ x, og[k]? = some x := ⟨_, List.getElem?_eq_getElem (by rw [hlo.out]; exact hlt)⟩
      obtain ⟨i, hai, hil⟩ := hog.out a (List.mem_of_getElem? ha)
      subst hai
      obtain ⟨x, hx⟩ : ∃ x, p.nodes[i]? = some x := ⟨_, List.getElem?_eq_getElem (by rw [hln.out]; exact hil)⟩
      obtain ⟨g, rfl, hg, c0, _⟩ := (hN.up hbw).node hx
      obtain ⟨g', rfl, hg', d0⟩ := (hO.up hbw).num ha
      have d3 := hbox.cell 3
      have hst := destK_step p.nodes nm og k _ ha
      rw [nm_is hx] at hst
      have HST := Lib.hid hst
      have hHB := Lib.hid hbox
      have hHW := Lib.hid hbw
      have hsz := hbw.size
      have hnx := Lib.hid (cells_new wr [.string x.name] 9)
      clear hst hx ha hN hO hbox hbw
      go_wp2_with (at_builtin; refine wpList_append_own _ rfl _ _ 37 rfl w.heap.size 9 i0 (.string ⟨#[]⟩) 1 16 Tryd.underlying37 hi hz0 hz1 hz2 rfl (by decide) _ _ _ rfl (hown.alloc _) ⟨wr.heap.size, 0, none⟩ 1 1 [.string x.name] rfl rfl hnx.out (by simp [Value.oneCell']) (by unfold maxLen; omega) (by omega) (by simp; omega) ?_; intro v' w4 hown4 hgrow4 _)
      go_roundw
      case rel =>
        refine ⟨k + 1, by omega, by go_num, ?_, (hHW.out.alloc hsz _).grown hgrow4 (by simp; omega) (fun q hq => (hown.lt q hq).1), (hHB.out.alloc _).grown hgrow4 (fun e => own_blk_ne hown hHB.out (by decide) e.symm)⟩
        rw [HST.out, List.map_append]
        exact hown4
      case measure => simp [intOf]; omega
    · obtain rfl : k = lo := by omega
      obtain ⟨g, cap, rfl, hcap⟩ := own_slice hown (by omega)
      have hall := destK_all p.nodes nm og
      rw [hlo.out] at hall
      rw [hall] at hown
      have hr := RowAt.of_own hown
      have HL : Hid ((destW p.nodes ⟨nm, og⟩).length = 3 + k) := Lib.hid (by unfold destW; rw [List.length_append, List.length_map, hlo.out]; rfl)
      have hne : destW p.nodes ⟨nm, og⟩ ≠ [] := by unfold destW; simp
      clear hall hown hN hO
      go_wp2_with (go_at_call 19; refine (line_is B b l (destW p.nodes ⟨nm, og⟩) w HH.out hbw hr HL hcap hne (by omega) hlen hBw).mono ?_; rintro e w5 ⟨rfl, hp5, hb5, hf5⟩)
      go_end0
      exact ⟨rfl, hp5, hb5, hf5⟩

/-- What a call tells, at the world w. -/
def Told (B b : Nat) (l t : List UInt8) (w : World) (e : Ending) (w' : World) : Prop := e = .returned (.tuple #[]) ∧ PrAt B b (l ++ t) w' ∧ Below B w w' ∧ Far b w w'

set_option maxHeartbeats 4000000 in
set_option maxRecDepth 100000 in
theorem head_any (B b : Nat) (l : List UInt8) (pr : Int) (ca kk : Nat) {An Al Ad Ac : Option Addr} {ln cn ll cl ld cd lc cc : Nat} (w : World) (h : PrAt B b l w) (hBw : B ≤ w.heap.size) (hca : ca < 100) (hkk : kk < 100)
    (hlen : l.length + ((lineS (protoW pr ca)).length + (lineS (failW kk)).length) ≤ 140737488355328) :
    Calls Tryd.prog 18 #[.pointer (some ⟨b, 0, none⟩), .agg #[.int .i64 pr, .int .i64 (ca : Int), .int .i64 (kk : Int), .slice An ln cn, .slice Al ll cl, .slice Ad ld cd, .slice Ac lc cc]] w (Told B b l (lineS (protoW pr ca) ++ lineS (failW kk)) w) := by
  have hX := Lib.hid (Blk.new w 29 #[.int .i64 pr, .int .i64 (ca : Int), .int .i64 (kk : Int), .slice An ln cn, .slice Al ll cl, .slice Ad ld cd, .slice Ac lc cc])
  have hlt := h.lt
  have HH := Lib.hid (h.up (below_new w (.cells #[.int .i64 pr, .int .i64 (ca : Int), .int .i64 (kk : Int), .slice An ln cn, .slice Al ll cl, .slice Ad ld cd, .slice Ac lc cc] 29)))
  have hfw : failW (kk : Int) = [⟨#[102, 97, 105, 108, 117, 114, 101, 115]⟩, ⟨(Lib.decDigits kk).toArray⟩] := rfl
  rw [hfw] at hlen ⊢
  clear h hfw
  by_cases hp : pr = 1
  · subst hp
    have hpw : protoW 1 (ca : Int) = [⟨#[112, 114, 111, 116, 111, 99, 111, 108]⟩, ⟨#[118, 101, 99, 116, 111, 114]⟩] := rfl
    rw [hpw] at hlen ⊢
    clear hpw
    go_enter Tryd.func18, Tryd.ntmps18
    go_wp2_with (first
      | (go_at_call 19; refine (line_is B b l [⟨#[112, 114, 111, 116, 111, 99, 111, 108]⟩, ⟨#[118, 101, 99, 116, 111, 114]⟩] _ HH.out (below_new _ _) (RowAt.newAt _ (List.map Value.string [⟨#[112, 114, 111, 116, 111, 99, 111, 108]⟩, ⟨#[118, 101, 99, 116, 111, 114]⟩]) _ _ (by simp)) (Lib.hid rfl) (Nat.le_refl _) (by simp) (by simp) (by omega) (by simp; omega)).mono ?_; rintro e w5 ⟨rfl, hp5, hb5, hf5⟩; have hsz5 := hb5.size; have d2 := (hf5 _ _ _ hX.out (by decide) (by omega)).cell 2))
    have HP := Lib.hid hp5
    have HB := Lib.hid hb5
    have HF := Lib.hid hf5
    clear hp5 hb5 hf5
    go_wp2_with (first
      | (go_at_call 20; refine (Tryd.strconv_Itoa_small kk hkk _).mono ?_; rintro e w2 ⟨rfl, rfl⟩)
      | (go_at_call 19; refine (line_is B b _ [⟨#[102, 97, 105, 108, 117, 114, 101, 115]⟩, ⟨(Lib.decDigits kk).toArray⟩] _ HP.out (below_new _ _) (RowAt.newAt _ (List.map Value.string [⟨#[102, 97, 105, 108, 117, 114, 101, 115]⟩, ⟨(Lib.decDigits kk).toArray⟩]) _ _ (by simp)) (Lib.hid rfl) (Nat.le_refl _) (by simp) (by simp) (by rw [List.length_append]; omega) (by simp at hsz5; omega)).mono ?_; rintro e w6 ⟨rfl, hp6, hb6, hf6⟩))
    go_end0
    refine ⟨rfl, ?_, (((Below.refl _ w).alloc hBw _).trans HB.out).trans hb6, ((Far.of_below (below_new w _)).trans HF.out).trans hf6⟩
    rw [← List.append_assoc]
    exact hp6
  · have hpw : protoW pr (ca : Int) = [⟨#[112, 114, 111, 116, 111, 99, 111, 108]⟩, ⟨#[112, 97, 116, 104]⟩, ⟨(Lib.decDigits ca).toArray⟩] := by unfold protoW; rw [if_neg hp]; rfl
    rw [hpw] at hlen ⊢
    have hp' : (pr == 1) = false := by simpa using hp
    clear hpw hp
    go_enter Tryd.func18, Tryd.ntmps18
    go_wp2_with (first
      | (go_at_call 20; refine (Tryd.strconv_Itoa_small ca hca _).mono ?_; rintro e w2 ⟨rfl, rfl⟩)
      | (go_at_call 19; refine (line_is B b l [⟨#[112, 114, 111, 116, 111, 99, 111, 108]⟩, ⟨#[112, 97, 116, 104]⟩, ⟨(Lib.decDigits ca).toArray⟩] _ HH.out (below_new _ _) (RowAt.newAt _ (List.map Value.string [⟨#[112, 114, 111, 116, 111, 99, 111, 108]⟩, ⟨#[112, 97, 116, 104]⟩, ⟨(Lib.decDigits ca).toArray⟩]) _ _ (by simp)) (Lib.hid rfl) (Nat.le_refl _) (by simp) (by simp) (by omega) (by simp; omega)).mono ?_; rintro e w5 ⟨rfl, hp5, hb5, hf5⟩; have hsz5 := hb5.size; have d2 := (hf5 _ _ _ hX.out (by decide) (by omega)).cell 2))
    have HP := Lib.hid hp5
    have HB := Lib.hid hb5
    have HF := Lib.hid hf5
    clear hp5 hb5 hf5
    go_wp2_with (first
      | (go_at_call 20; refine (Tryd.strconv_Itoa_small kk hkk _).mono ?_; rintro e w2 ⟨rfl, rfl⟩)
      | (go_at_call 19; refine (line_is B b _ [⟨#[102, 97, 105, 108, 117, 114, 101, 115]⟩, ⟨(Lib.decDigits kk).toArray⟩] _ HP.out (below_new _ _) (RowAt.newAt _ (List.map Value.string [⟨#[102, 97, 105, 108, 117, 114, 101, 115]⟩, ⟨(Lib.decDigits kk).toArray⟩]) _ _ (by simp)) (Lib.hid rfl) (Nat.le_refl _) (by simp) (by simp) (by rw [List.length_append]; omega) (by simp at hsz5; omega)).mono ?_; rintro e w6 ⟨rfl, hp6, hb6, hf6⟩))
    go_end0
    refine ⟨rfl, ?_, (((Below.refl _ w).alloc hBw _).trans HB.out).trans hb6, ((Far.of_below (below_new w _)).trans HF.out).trans hf6⟩
    rw [← List.append_assoc]
    exact hp6

end Go.Proofs.YtdmilbfdiebjgaaDoor
