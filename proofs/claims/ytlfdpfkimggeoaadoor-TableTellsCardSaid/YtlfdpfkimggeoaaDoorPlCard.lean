/-
  The cards' common part: a world in which the listed tables lie as the text lays them; slices of ints opened, with their capacity.
-/
import Derived.Test.YtlfdpfkimggeoaaDoorRows
import Derived.Test.YtlfdpfkimggeoaaDoorOpenD
import Derived.ProofKit
import Derived.LaidLaws
import Derived.Handed
namespace Go.Proofs.YtlfdpfkimggeoaaDoor
open Go.ChangeShapes Go.WideShapes Go.ChangeAt Go.RowKit

theorem cardOwn : ownKnob Tryd.prog.godebug = none := by kernel_rfl
theorem cardLaidOut : laidOutB Tryd.prog = true := by kernel_rfl
theorem cardCellsInt : Tryd.prog.cellsOf 3 = 1 := by kernel_rfl

/-- What is listed. -/
def cardLaid : List (String × DataW Unit) := [("math/bits.deBruijn32tab", Rows.laid_math_bits_deBruijn32tab), ("math/bits.deBruijn64tab", Rows.laid_math_bits_deBruijn64tab), ("internal/strconv.uint64pow10", Rows.laid_internal_strconv_uint64pow10)]
/-- A block's cells turned. -/
def setBlock (h : Array Obj) (i : Nat) (cs : Array Value) : Array Obj := h.modify i fun
  | .cells _ t frozen => .cells cs t frozen
  | o => o
noncomputable def cardWorld (os : Os) : World :=
  let w0 := World.holding Tryd.prog os ⟨#[], #[], []⟩
  { w0 with heap := setBlock (setBlock (setBlock w0.heap 0 ([1, 10, 100, 1000, 10000, 100000, 1000000, 10000000, 100000000, 1000000000, 10000000000, 100000000000, 1000000000000, 10000000000000, 100000000000000, 1000000000000000, 10000000000000000, 100000000000000000, 1000000000000000000, 10000000000000000000].map (Value.int .u64)).toArray) 2 ([0, 1, 28, 2, 29, 14, 24, 3, 30, 22, 20, 15, 25, 17, 4, 8, 31, 27, 13, 23, 21, 19, 16, 7, 26, 12, 18, 6, 11, 5, 10, 9].map (Value.int .u8)).toArray) 3 ([0, 1, 56, 2, 57, 49, 28, 3, 61, 58, 42, 50, 38, 29, 17, 4, 62, 47, 59, 36, 45, 43, 51, 22, 53, 39, 33, 30, 24, 18, 12, 5, 63, 55, 48, 27, 60, 41, 37, 16, 46, 35, 44, 21, 52, 32, 23, 11, 54, 26, 40, 15, 34, 20, 31, 10, 25, 14, 19, 9, 13, 8, 7, 6].map (Value.int .u8)).toArray }
set_option maxRecDepth 100000 in
theorem cardLaid_met (os : Os) (args : Array Value) : laidMet Tryd.prog cardLaid ((cardWorld os).forCall (fun _ _ => 0) ⟨#[], args, []⟩).memory :=
  laidMet_of_run' 8 (by kernel_rfl) (by kernel_rfl)

end Go.Proofs.YtlfdpfkimggeoaaDoor
