/-
  CarryLonger: the walk.
-/
import Derived.Test.YtdmilbfdiebjgaaCarryLongerF
import Derived.Test.YtdmilbfdiebjgaaCarryLongerT
namespace Go.Proofs.Ytdmilbfdiebjgaa
open Go.RowKit
set_option linter.unusedVariables false
set_option linter.unusedSimpArgs false

set_option maxHeartbeats 8000000 in
set_option maxRecDepth 100000 in
theorem carryLonger_walk (A : Option Addr) (c : Nat) (l : List Int) (hwf : ∀ v ∈ l, InI v) (hm : l.length ≤ 9223372036854775807) (hc : l.length ≤ c) (hcm : c ≤ 9223372036854775807) (x0 : Int) (hx0 : InI x0) (side : Bool) (A3 : Option Addr) (c3 : Nat) (l3 : List Int) (hwf3 : ∀ v ∈ l3, InI v) (hm3 : l3.length ≤ 9223372036854775807) (hc3 : l3.length ≤ c3) (hcm3 : c3 ≤ 9223372036854775807) (w : World) (hA : CellsAt w w.heap.size A (l.map (Value.int .i64))) (hA3 : CellsAt w w.heap.size A3 (l3.map (Value.int .i64))) :
    Calls Try.prog 5 #[.slice A l.length c, .int .i64 x0, .bool side, .slice A3 l3.length c3] w fun e w' => e = .returned (.bool true) ∧ Below w.heap.size w w' := by
  cases side
  · exact carryLonger_false A c l hwf hm hc hcm x0 hx0 A3 c3 l3 hwf3 hm3 hc3 hcm3 w hA hA3
  · exact carryLonger_true A c l hwf hm hc hcm x0 hx0 A3 c3 l3 hwf3 hm3 hc3 hcm3 w hA hA3
end Go.Proofs.Ytdmilbfdiebjgaa
