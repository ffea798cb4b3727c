/-
  The laws' awake, walked.
-/
import Derived.Test.YtlfdpfkimggeoaaDoorAtN
namespace Go.Proofs.YtlfdpfkimggeoaaDoor
open Go.RowKit
set_option linter.unusedVariables false
set_option linter.unusedSimpArgs false

theorem awSame (w W : World) (A : Option Addr) (c : Nat) (hb : RtAt W exA A 2) (h : AwSt w W) : Calls Tryd.prog 21 #[.agg #[.int .i64 2, .int .i64 0, .slice A 2 c], .agg #[.int .i64 2, .int .i64 0, .slice (some ⟨w.heap.size, 0, none⟩) 2 2]] W fun e w' => e = .returned (.bool true) ∧ AwSt w w' :=
  (atSame_is exA exA true (Lib.hid (by decide)) hb h.a).mono fun _ _ ⟨he, hb⟩ => ⟨he, h.go hb⟩

end Go.Proofs.YtlfdpfkimggeoaaDoor
