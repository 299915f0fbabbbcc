/-
  DERIVED. GIVEN WITH THE SEED: THE CARDS: each row of YtnindmppnfeanaaGreatDoorRows.lean that lists a variable, with what it lists TIED to the program's text (the seventh form; the later family's looks); each row that meets fmt, with fmt's text TOLD by the authors' own Lean function (tested against real Go, not proved from fmt's source: count such statements apart). THE CARD IS WHAT COUNTS. Prove the row's statement (the work); the ties are given (YtnindmppnfeanaaGreatDoorTie.lean); close each card by the builder's one call (the guide's Derived/Test/ToyasCard.lean, 'card_holds'). Laid BY PROGRAM, IN A SANDBOX (cutbox-door.mjs). By AI agents, Wed Nov 11 2026. No macro, syntax, notation, axiom, sorry.
-/
import Derived.Test.YtnindmppnfeanaaGreatDoorRows
import GoSem.ClaimSeven
namespace Go.Proofs.YtnindmppnfeanaaGreatDoor
namespace Rows

/-- THE TIED CARD OF 'laws.FnAges'. -/
def fnAgesCard : Claim7 := { stood := { row := fnAgesRow, standIns := [], harness := (true, "a46424fc65577087cc65642940c54f0ba17f15fe8c7a83f2ea8def39099b43f2"), looks := true }, kinds := [], alts := [], laidByText := true, laidKinds := [.data, .data, .data, .data, .data, .data, .data, .data, .sentinel, .pinned], laidTests := true, laidLooks := .later }
def FnAgesCardSaid : Prop := Claim7.holds Tryz.pinned (.plain (OpenSpec.ofChange fnAgesSpec)) fnAgesCard

/-- THE TIED CARD OF 'laws.FnShowing'. -/
def fnShowingCard : Claim7 := { stood := { row := fnShowingRow, standIns := [], harness := (true, "a46424fc65577087cc65642940c54f0ba17f15fe8c7a83f2ea8def39099b43f2"), looks := true }, kinds := [], alts := [], laidByText := true, laidKinds := [.data, .data, .data, .data, .data, .data, .data, .data, .sentinel, .pinned], laidTests := true, laidLooks := .later }
def FnShowingCardSaid : Prop := Claim7.holds Tryz.pinned (.plain (OpenSpec.ofChange fnShowingSpec)) fnShowingCard

/-- THE TIED CARD OF 'laws.FnExactGoodKept'. -/
def fnExactGoodKeptCard : Claim7 := { stood := { row := fnExactGoodKeptRow, standIns := [], harness := (true, "a46424fc65577087cc65642940c54f0ba17f15fe8c7a83f2ea8def39099b43f2"), looks := true }, kinds := [], alts := [], laidByText := true, laidKinds := [.data, .data, .data, .data, .data, .sentinel, .pinned], laidTests := true, laidLooks := .later }
def FnExactGoodKeptCardSaid : Prop := Claim7.holds Tryz.pinned (.plain (OpenSpec.ofChange fnExactGoodKeptSpec)) fnExactGoodKeptCard

/-- THE SECOND FORM's CARD OF 'laws.FnAges'. -/
def fnAgesUptoCard : Claim7 := { stood := { row := fnAgesUptoRow, standIns := [], harness := (true, "a46424fc65577087cc65642940c54f0ba17f15fe8c7a83f2ea8def39099b43f2"), looks := true }, kinds := [], alts := [], laidByText := true, laidKinds := [.data, .data, .data, .data, .data, .data, .data, .data, .sentinel, .pinned], laidTests := true, laidLooks := .later }
def FnAgesUptoCardSaid : Prop := Claim7.holds Tryz.pinned (.plain (OpenSpec.upto fnAgesSpec)) fnAgesUptoCard

/-- THE SECOND FORM's CARD OF 'laws.FnShowing'. -/
def fnShowingUptoCard : Claim7 := { stood := { row := fnShowingUptoRow, standIns := [], harness := (true, "a46424fc65577087cc65642940c54f0ba17f15fe8c7a83f2ea8def39099b43f2"), looks := true }, kinds := [], alts := [], laidByText := true, laidKinds := [.data, .data, .data, .data, .data, .data, .data, .data, .sentinel, .pinned], laidTests := true, laidLooks := .later }
def FnShowingUptoCardSaid : Prop := Claim7.holds Tryz.pinned (.plain (OpenSpec.upto fnShowingSpec)) fnShowingUptoCard

/-- THE SECOND FORM's CARD OF 'laws.FnExactGoodKept'. -/
def fnExactGoodKeptUptoCard : Claim7 := { stood := { row := fnExactGoodKeptUptoRow, standIns := [], harness := (true, "a46424fc65577087cc65642940c54f0ba17f15fe8c7a83f2ea8def39099b43f2"), looks := true }, kinds := [], alts := [], laidByText := true, laidKinds := [.data, .data, .data, .data, .data, .sentinel, .pinned], laidTests := true, laidLooks := .later }
def FnExactGoodKeptUptoCardSaid : Prop := Claim7.holds Tryz.pinned (.plain (OpenSpec.upto fnExactGoodKeptSpec)) fnExactGoodKeptUptoCard
end Rows
end Go.Proofs.YtnindmppnfeanaaGreatDoor
