/-
  DERIVED. GIVEN WITH THE SEED: THE CARDS: each row of YtponlhgkgmlihaaDoorRows.lean that lists a variable, with what it lists TIED to the program's text (the seventh form; the later family's looks); each row that meets fmt, with fmt's text TOLD by the authors' own Lean function (tested against real Go, not proved from fmt's source: count such statements apart). THE CARD IS WHAT COUNTS. Prove the row's statement (the work); the ties are given (YtponlhgkgmlihaaDoorTie.lean); close each card by the builder's one call (the guide's Derived/Test/ToyasCard.lean, 'card_holds'). Laid BY PROGRAM, IN A SANDBOX (cutbox-door.mjs). By AI agents, Wed Nov 11 2026. No macro, syntax, notation, axiom, sorry.
-/
import Derived.Test.YtponlhgkgmlihaaDoorRows
import GoSem.ClaimSeven
namespace Go.Proofs.YtponlhgkgmlihaaDoor
namespace Rows

/-- THE TIED CARD OF 'backstaylaw03.PlanTells'. -/
def planTellsCard : Claim7 := { stood := { row := planTellsRow, standIns := [], harness := (true, "88fc3544608ab6d3b477b686ea94ef9de7c25815c2cf97be1618433ad529315a"), looks := false }, kinds := [], alts := [], laidByText := true, laidKinds := [.data, .data, .data], laidTests := true, laidLooks := .later }
def PlanTellsCardSaid : Prop := Claim7.holds Tryd.pinned (.plain (OpenSpec.ofChange planTellsSpec)) planTellsCard

/-- THE TIED CARD OF 'backstaylaw03.PlanUnlike'. -/
def planUnlikeCard : Claim7 := { stood := { row := planUnlikeRow, standIns := [], harness := (true, "88fc3544608ab6d3b477b686ea94ef9de7c25815c2cf97be1618433ad529315a"), looks := false }, kinds := [], alts := [], laidByText := true, laidKinds := [.data, .data, .data], laidTests := true, laidLooks := .later }
def PlanUnlikeCardSaid : Prop := Claim7.holds Tryd.pinned (.plain (OpenSpec.ofChange planUnlikeSpec)) planUnlikeCard

/-- THE TIED CARD OF 'backstaylaw03.PlanGrows'. -/
def planGrowsCard : Claim7 := { stood := { row := planGrowsRow, standIns := [], harness := (true, "88fc3544608ab6d3b477b686ea94ef9de7c25815c2cf97be1618433ad529315a"), looks := false }, kinds := [], alts := [], laidByText := true, laidKinds := [.data, .data, .data], laidTests := true, laidLooks := .later }
def PlanGrowsCardSaid : Prop := Claim7.holds Tryd.pinned (.plain (OpenSpec.ofChange planGrowsSpec)) planGrowsCard

/-- THE SECOND FORM's CARD OF 'backstaylaw03.PlanTells'. -/
def planTellsUptoCard : Claim7 := { stood := { row := planTellsUptoRow, standIns := [], harness := (true, "88fc3544608ab6d3b477b686ea94ef9de7c25815c2cf97be1618433ad529315a"), looks := false }, kinds := [], alts := [], laidByText := true, laidKinds := [.data, .data, .data], laidTests := true, laidLooks := .later }
def PlanTellsUptoCardSaid : Prop := Claim7.holds Tryd.pinned (.plain (OpenSpec.upto planTellsSpec)) planTellsUptoCard

/-- THE SECOND FORM's CARD OF 'backstaylaw03.PlanUnlike'. -/
def planUnlikeUptoCard : Claim7 := { stood := { row := planUnlikeUptoRow, standIns := [], harness := (true, "88fc3544608ab6d3b477b686ea94ef9de7c25815c2cf97be1618433ad529315a"), looks := false }, kinds := [], alts := [], laidByText := true, laidKinds := [.data, .data, .data], laidTests := true, laidLooks := .later }
def PlanUnlikeUptoCardSaid : Prop := Claim7.holds Tryd.pinned (.plain (OpenSpec.upto planUnlikeSpec)) planUnlikeUptoCard

/-- THE SECOND FORM's CARD OF 'backstaylaw03.PlanGrows'. -/
def planGrowsUptoCard : Claim7 := { stood := { row := planGrowsUptoRow, standIns := [], harness := (true, "88fc3544608ab6d3b477b686ea94ef9de7c25815c2cf97be1618433ad529315a"), looks := false }, kinds := [], alts := [], laidByText := true, laidKinds := [.data, .data, .data], laidTests := true, laidLooks := .later }
def PlanGrowsUptoCardSaid : Prop := Claim7.holds Tryd.pinned (.plain (OpenSpec.upto planGrowsSpec)) planGrowsUptoCard
end Rows
end Go.Proofs.YtponlhgkgmlihaaDoor
