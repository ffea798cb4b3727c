/-
  A network's text, in words; a check's line.
-/
import Derived.Shelf.Strings.OnBuilder
import Derived.Lib.OthersKept
import Derived.RegionTactic
import Derived.Test.YtlfdpfkimggeoaaShelf
import Derived.Test.YtlfdpfkimggeoaaLxMathC
import Derived.Test.YtlfdpfkimggeoaaLxE
import Derived.Test.YtlfdpfkimggeoaaPlC
import Derived.Deep.RegionLaw
import Derived.Deep.QuietTactic
import Derived.BigQuiet
import Derived.Test.YtlfdpfkimggeoaaPmA
namespace Go.Proofs.Ytlfdpfkimggeoaa
open Go.RowKit

/-- Blocks that are no bytes, but for block b, are as they were. -/
def Far (b : Nat) (w w' : World) : Prop := ∀ k t cs, Blk w k t cs → t ≠ 5 → k ≠ b → Blk w' k t cs
theorem Far.refl (b : Nat) (w : World) : Far b w w := fun _ _ _ h _ _ => h
theorem Far.trans {b : Nat} {w w1 w2 : World} (h : Far b w w1) (k : Far b w1 w2) : Far b w w2 := fun _ _ _ hk ht hb => k _ _ _ (h _ _ _ hk ht hb) ht hb
theorem Far.of_below {b : Nat} {w w1 : World} (h : Below w.heap.size w w1) : Far b w w1 := fun _ _ _ hk _ _ => hk.up h

theorem builderAt_up {T e : TypeId} {B b : Nat} {p : Value} {bs : List Value} {w w' : World} (h : Lib.BuilderAt T e B b p bs w) (hb : Below w.heap.size w w') : Lib.BuilderAt T e B b p bs w' := by
  have hlt := h.lt
  obtain ⟨h1, v, h2, h3, h4⟩ := h
  exact ⟨h1, v, (hb.block b hlt).trans h2, own_below h3 hb, h4⟩
theorem u8Info : (Try.prog.info? 5).map (fun i => (i.zero, i.size, i.bytes)) = some (some (.int .u8 0), 1, 1) := by kernel_rfl
theorem u8Cells : Try.prog.cellsOf 5 = 1 := by kernel_rfl

end Go.Proofs.Ytlfdpfkimggeoaa

namespace Go.Proofs.Ytlfdpfkimggeoaa
open Go.RowKit

/-- A line's text: words, a blank between, a stop, a line feed. -/
def lineB (xs : List (List UInt8)) : List UInt8 := Lib.join xs [32] ++ [59, 10]

end Go.Proofs.Ytlfdpfkimggeoaa
namespace Go.Proofs.Ytlfdpfkimggeoaa
open Go.RowKit

def nmB (ns : List PNode) (i : Int) : ByteArray := ((ns[i.toNat]?).map (·.name)).getD ⟨#[]⟩
def dnB (ds : List PDest) (i : Int) : ByteArray := ((ds[i.toNat]?).map (·.name)).getD ⟨#[]⟩
def decW (n : Int) : ByteArray := ⟨(Lib.decDigits n.toNat).toArray⟩
theorem nm_is {ns : List PNode} {i : Nat} {x : PNode} (h : ns[i]? = some x) : nmB ns (i : Int) = x.name := by unfold nmB; rw [Int.toNat_natCast, h]; rfl
theorem dn_is {ds : List PDest} {i : Nat} {x : PDest} (h : ds[i]? = some x) : dnB ds (i : Int) = x.name := by unfold dnB; rw [Int.toNat_natCast, h]; rfl

def protoW (pr ca : Int) : List ByteArray := if pr = 1 then [⟨#[112, 114, 111, 116, 111, 99, 111, 108]⟩, ⟨#[118, 101, 99, 116, 111, 114]⟩] else [⟨#[112, 114, 111, 116, 111, 99, 111, 108]⟩, ⟨#[112, 97, 116, 104]⟩, decW ca]
def failW (k : Int) : List ByteArray := [⟨#[102, 97, 105, 108, 117, 114, 101, 115]⟩, decW k]
def nodeW (n : PNode) : List ByteArray := [⟨#[110, 111, 100, 101]⟩, n.name, decW n.num]
def linkW (ns : List PNode) (l : PLink) : List ByteArray := [⟨#[108, 105, 110, 107]⟩, nmB ns l.a, nmB ns l.b, decW l.cost]
def destW (ns : List PNode) (d : PDest) : List ByteArray := [⟨#[100, 101, 115, 116]⟩, d.name, ⟨#[97, 116]⟩] ++ d.orig.map (nmB ns)
def checkW (ns : List PNode) (ds : List PDest) (c : PCheck) : List ByteArray :=
  if c.kind = 1 then [⟨#[99, 104, 101, 99, 107]⟩, ⟨#[114, 101, 97, 99, 104]⟩, nmB ns c.node, dnB ds c.dest]
  else if c.kind = 2 then [⟨#[99, 104, 101, 99, 107]⟩, ⟨#[119, 105, 116, 104, 105, 110]⟩, nmB ns c.node, dnB ds c.dest, decW c.limit]
  else if c.kind = 3 then [⟨#[99, 104, 101, 99, 107]⟩, ⟨#[119, 97, 121, 112, 111, 105, 110, 116]⟩, nmB ns c.node, dnB ds c.dest, nmB ns c.other]
  else [⟨#[99, 104, 101, 99, 107]⟩, ⟨#[101, 113, 117, 97, 108]⟩, nmB ns c.node, nmB ns c.other, dnB ds c.dest]
/-- A line's text. -/
def lineS (xs : List ByteArray) : List UInt8 := lineB (xs.map (·.data.toList))
def textB (p : PPlan) : List UInt8 :=
  lineS (protoW p.proto p.cap) ++ (lineS (failW p.k) ++ (p.nodes.flatMap (fun n => lineS (nodeW n)) ++ (p.links.flatMap (fun l => lineS (linkW p.nodes l)) ++ (p.dests.flatMap (fun d => lineS (destW p.nodes d)) ++ p.checks.flatMap (fun c => lineS (checkW p.nodes p.dests c))))))

theorem decW_nat (n : Nat) : decW (n : Int) = ⟨(Lib.decDigits n).toArray⟩ := rfl
end Go.Proofs.Ytlfdpfkimggeoaa

namespace Go.Proofs.Ytlfdpfkimggeoaa
open Go.RowKit

/-- The words of a destination's line, up to its k-th origin. -/
def destK (ns : List PNode) (nm : ByteArray) (og : List Int) (k : Nat) : List ByteArray := [⟨#[100, 101, 115, 116]⟩, nm, ⟨#[97, 116]⟩] ++ (og.take k).map (nmB ns)
theorem destK_step (ns : List PNode) (nm : ByteArray) (og : List Int) (k : Nat) (a : Int) (h : og[k]? = some a) : destK ns nm og (k + 1) = destK ns nm og k ++ [nmB ns a] := by
  unfold destK
  rw [List.take_add_one, h]
  simp
theorem destK_all (ns : List PNode) (nm : ByteArray) (og : List Int) : destK ns nm og og.length = destW ns ⟨nm, og⟩ := by
  unfold destK destW
  rw [List.take_length]

end Go.Proofs.Ytlfdpfkimggeoaa
