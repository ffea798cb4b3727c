/-
  CarryKeeps: the walk.
-/
import Derived.Test.YtdmilbfdiebjgaaCarryKeepsF
import Derived.Test.YtdmilbfdiebjgaaCarryKeepsT
namespace Go.Proofs.Ytdmilbfdiebjgaa
open Go.RowKit
set_option linter.unusedVariables false
set_option linter.unusedSimpArgs false

set_option maxHeartbeats 8000000 in
set_option maxRecDepth 100000 in
theorem carryKeeps_walk (A : Option Addr) (c : Nat) (l : List Int) (hwf : ∀ v ∈ l, InI v) (hm : l.length ≤ 9223372036854775807) (hc : l.length ≤ c) (hcm : c ≤ 9223372036854775807) (x0 : Int) (hx0 : InI x0) (side : Bool) (A3 : Option Addr) (c3 : Nat) (l3 : List Int) (hwf3 : ∀ v ∈ l3, InI v) (hm3 : l3.length ≤ 9223372036854775807) (hc3 : l3.length ≤ c3) (hcm3 : c3 ≤ 9223372036854775807) (A4 : Option Addr) (c4 : Nat) (l4 : List Int) (hwf4 : ∀ v ∈ l4, InI v) (hm4 : l4.length ≤ 9223372036854775807) (hc4 : l4.length ≤ c4) (hcm4 : c4 ≤ 9223372036854775807) (w : World) (hA : CellsAt w w.heap.size A (l.map (Value.int .i64))) (hA3 : CellsAt w w.heap.size A3 (l3.map (Value.int .i64))) (hA4 : CellsAt w w.heap.size A4 (l4.map (Value.int .i64))) :
    Calls Try.prog 6 #[.slice A l.length c, .int .i64 x0, .bool side, .slice A3 l3.length c3, .slice A4 l4.length c4] w fun e w' => e = .returned (.bool true) ∧ Below w.heap.size w w' := by
  cases side
  · exact carryKeeps_false A c l hwf hm hc hcm x0 hx0 A3 c3 l3 hwf3 hm3 hc3 hcm3 A4 c4 l4 hwf4 hm4 hc4 hcm4 w hA hA3 hA4
  · exact carryKeeps_true A c l hwf hm hc hcm x0 hx0 A3 c3 l3 hwf3 hm3 hc3 hcm3 A4 c4 l4 hwf4 hm4 hc4 hcm4 w hA hA3 hA4
end Go.Proofs.Ytdmilbfdiebjgaa
