/-
  The document's own Print: its links' lines.
-/
import Derived.Test.YtlfdpfkimggeoaaPlUj
namespace Go.Proofs.Ytlfdpfkimggeoaa
open Go.RowKit
set_option linter.unusedVariables false
set_option linter.unusedSimpArgs false

/-- The piece of a text at a place. -/
def codeAtP : List Bool → Code → Code
  | [], c => c
  | false :: p, .seq a _ => codeAtP p a
  | true :: p, .seq _ b => codeAtP p b
  | false :: p, .cond _ a _ => codeAtP p a
  | true :: p, .cond _ _ b => codeAtP p b
  | _ :: p, .block _ a => codeAtP p a
  | _ :: p, .loop a => codeAtP p a
  | _ :: p, .scope a => codeAtP p a
  | _, _ => .skip
/-- A string whose bytes are these. -/
def StrIs (S : ByteArray) (T : List UInt8) : Prop := S.data.toList = T
theorem StrIs.app {S : ByteArray} {T : List UInt8} (h : StrIs S T) (x : ByteArray) : StrIs (S ++ x) (T ++ x.data.toList) := by
  unfold StrIs at *; rw [ByteArray.data_append, Array.toList_append, h]
theorem StrIs.size {S : ByteArray} {T : List UInt8} (h : StrIs S T) : S.size = T.length := by
  unfold StrIs at h; rw [← h, Array.length_toList]; rfl
theorem StrIs.eq {S : ByteArray} {T : List UInt8} (h : StrIs S T) : S = ⟨T.toArray⟩ := by
  unfold StrIs at h; rw [← h]
theorem StrIs.to {S : ByteArray} {T T' : List UInt8} (h : StrIs S T) (e : T = T') : StrIs S T' := e ▸ h
theorem node_next {S : ByteArray} {T : List UInt8} (h : StrIs S T) (nm : ByteArray) (m : Nat) (hm : m ≤ 65535) : StrIs (S ++ ⟨#[110, 111, 100, 101, 32]⟩ ++ nm ++ ⟨#[32]⟩ ++ decS 20 m ++ ⟨#[59, 10]⟩) (T ++ lineS (nodeW ⟨nm, (m : Int)⟩)) := by
  refine (((((h.app _).app nm).app ⟨#[32]⟩).app (decS 20 m)).app ⟨#[59, 10]⟩).to ?_
  rw [decS_decW m hm]; unfold lineS lineB nodeW; simp [Lib.join_cons, Lib.joinTail]
theorem node_size {S : ByteArray} {T : List UInt8} (h : StrIs S T) (nm : ByteArray) (m : Nat) (hm : m ≤ 65535) : S.size + 5 + nm.size + 1 + (decS 20 m).size + 2 = T.length + (lineS (nodeW ⟨nm, (m : Int)⟩)).length := by
  rw [← List.length_append, ← (node_next h nm m hm).size]; simp only [ByteArray.size_append]; rfl
theorem link_next {S : ByteArray} {T : List UInt8} (h : StrIs S T) (ns : List PNode) (a c : Nat) (x y : PNode) (hx : ns[a]? = some x) (hy : ns[c]? = some y) (m : Nat) (hm : m ≤ 65535) : StrIs (S ++ ⟨#[108, 105, 110, 107, 32]⟩ ++ x.name ++ ⟨#[32]⟩ ++ y.name ++ ⟨#[32]⟩ ++ decS 20 m ++ ⟨#[59, 10]⟩) (T ++ lineS (linkW ns ⟨(a : Int), (c : Int), (m : Int)⟩)) := by
  refine (((((((h.app _).app x.name).app ⟨#[32]⟩).app y.name).app ⟨#[32]⟩).app (decS 20 m)).app ⟨#[59, 10]⟩).to ?_
  rw [decS_decW m hm]; unfold lineS lineB linkW; rw [nm_is hx, nm_is hy]; simp [Lib.join_cons, Lib.joinTail]
theorem link_size {S : ByteArray} {T : List UInt8} (h : StrIs S T) (ns : List PNode) (a c : Nat) (x y : PNode) (hx : ns[a]? = some x) (hy : ns[c]? = some y) (m : Nat) (hm : m ≤ 65535) : S.size + 5 + x.name.size + 1 + y.name.size + 1 + (decS 20 m).size + 2 = T.length + (lineS (linkW ns ⟨(a : Int), (c : Int), (m : Int)⟩)).length := by
  rw [← List.length_append, ← (link_next h ns a c x y hx hy m hm).size]; simp only [ByteArray.size_append]; rfl
def origL (ns : List PNode) (a : Int) : List UInt8 := 32 :: (nmB ns a).data.toList
theorem dest_head {S : ByteArray} {T : List UInt8} (h : StrIs S T) (nm : ByteArray) : StrIs (S ++ ⟨#[100, 101, 115, 116, 32]⟩ ++ nm ++ ⟨#[32, 97, 116]⟩) (T ++ ([100, 101, 115, 116, 32] ++ nm.data.toList ++ [32, 97, 116])) := by
  refine (((h.app _).app nm).app _).to ?_
  simp
theorem dest_orig {S : ByteArray} {T : List UInt8} (h : StrIs S T) (ns : List PNode) (a : Nat) (x : PNode) (hx : ns[a]? = some x) : StrIs (S ++ ⟨#[32]⟩ ++ x.name) (T ++ origL ns (a : Int)) := by
  refine ((h.app _).app x.name).to ?_
  unfold origL; rw [nm_is hx]; simp
theorem dest_lineP (ns : List PNode) (nm : ByteArray) (og : List Int) : [100, 101, 115, 116, 32] ++ nm.data.toList ++ [32, 97, 116] ++ og.flatMap (origL ns) ++ [59, 10] = lineS (destW ns ⟨nm, og⟩) := by
  unfold lineS lineB destW
  simp only [List.cons_append, List.nil_append, List.map_cons, Lib.join_cons, Lib.joinTail, List.map_map, List.flatten_cons]
  simp [List.flatMap_def, Function.comp_def]
  rfl
theorem check_next {S : ByteArray} {T : List UInt8} (h : StrIs S T) (ns : List PNode) (ds : List PDest) (kd : Int) (i d o li : Nat) (hk : kd = 1 ∨ kd = 2 ∨ kd = 3 ∨ kd = 4) (hli : li ≤ 65535) : StrIs (S ++ refCheckS ns ds ⟨kd, i, d, li, o⟩ ++ ⟨#[59, 10]⟩) (T ++ lineS (checkW ns ds ⟨kd, i, d, li, o⟩)) := by
  refine ((h.app _).app ⟨#[59, 10]⟩).to ?_
  rw [← ref_check ns ds kd i d o li hk hli, List.append_assoc]
theorem check_size {S : ByteArray} {T : List UInt8} (h : StrIs S T) (ns : List PNode) (ds : List PDest) (kd : Int) (i d o li : Nat) (hk : kd = 1 ∨ kd = 2 ∨ kd = 3 ∨ kd = 4) (hli : li ≤ 65535) : S.size + (refCheckS ns ds ⟨kd, i, d, li, o⟩).size + 2 = T.length + (lineS (checkW ns ds ⟨kd, i, d, li, o⟩)).length := by
  rw [← List.length_append, ← (check_next h ns ds kd i d o li hk hli).size]; simp only [ByteArray.size_append]; rfl
end Go.Proofs.Ytlfdpfkimggeoaa
namespace Go.Proofs.Ytlfdpfkimggeoaa
open Go.RowKit
set_option linter.unusedVariables false
set_option linter.unusedSimpArgs false

end Go.Proofs.Ytlfdpfkimggeoaa
namespace Go.Proofs.Ytlfdpfkimggeoaa
open Go.RowKit
set_option linter.unusedVariables false
set_option linter.unusedSimpArgs false

theorem dest_len (ns : List PNode) (nm : ByteArray) (og : List Int) : (lineS (destW ns ⟨nm, og⟩)).length = 5 + nm.size + 3 + (og.flatMap (origL ns)).length + 2 := by
  have hz : nm.data.size = nm.size := rfl
  rw [← dest_lineP]; simp only [List.length_append, List.length_cons, List.length_nil, Array.length_toList]; omega
theorem orig_lenP (ns : List PNode) (a : Nat) (x : PNode) (hx : ns[a]? = some x) : (origL ns (a : Int)).length = 1 + x.name.size := by
  have hz : x.name.data.size = x.name.size := rfl
  unfold origL; rw [nm_is hx, List.length_cons, Array.length_toList]; omega

end Go.Proofs.Ytlfdpfkimggeoaa
namespace Go.Proofs.Ytlfdpfkimggeoaa
open Go.RowKit
set_option linter.unusedVariables false
set_option linter.unusedSimpArgs false

end Go.Proofs.Ytlfdpfkimggeoaa
