/-
  DERIVED. GIVEN WITH THE SEED: THE CARDS: each row of YtgidmoncocbfiaaGreatDoorRows.lean that lists a variable, with what it lists TIED to the program's text (the seventh form; the later family's looks); each row that meets fmt, with fmt's text TOLD by the authors' own Lean function (tested against real Go, not proved from fmt's source: count such statements apart). THE CARD IS WHAT COUNTS. Prove the row's statement (the work); the ties are given (YtgidmoncocbfiaaGreatDoorTie.lean); close each card by the builder's one call (the guide's Derived/Test/ToyasCard.lean, 'card_holds'). Laid BY PROGRAM, IN A SANDBOX (cutbox-door.mjs). By AI agents, Wed Nov 11 2026. No macro, syntax, notation, axiom, sorry.
-/
import Derived.Test.YtgidmoncocbfiaaGreatDoorRows
import GoSem.ClaimSeven
namespace Go.Proofs.YtgidmoncocbfiaaGreatDoor
namespace Rows

/-- THE TIED CARD OF 'laws.FnConds'. -/
def fnCondsCard : Claim7 := { stood := { row := fnCondsRow, standIns := [], harness := (true, "622e5fa6d53229c324985773194d4cb7a578fa3738514a304fac456dd79e781c"), looks := true }, kinds := [], alts := [], laidByText := true, laidKinds := [.data, .data, .data, .data, .data, .data, .data, .data, .pinned], laidTests := true, laidLooks := .later }
def FnCondsCardSaid : Prop := Claim7.holds Tryz.pinned (.plain (OpenSpec.ofChange fnCondsSpec)) fnCondsCard

/-- THE TIED CARD OF 'laws.FnExactCheckCond'. -/
def fnExactCheckCondCard : Claim7 := { stood := { row := fnExactCheckCondRow, standIns := [], harness := (true, "622e5fa6d53229c324985773194d4cb7a578fa3738514a304fac456dd79e781c"), looks := true }, kinds := [], alts := [], laidByText := true, laidKinds := [.data, .data, .data, .data, .data, .data, .data, .data, .pinned], laidTests := true, laidLooks := .later }
def FnExactCheckCondCardSaid : Prop := Claim7.holds Tryz.pinned (.plain (OpenSpec.ofChange fnExactCheckCondSpec)) fnExactCheckCondCard

/-- THE TIED CARD OF 'laws.FnExactRangeApplies'. -/
def fnExactRangeAppliesCard : Claim7 := { stood := { row := fnExactRangeAppliesRow, standIns := [], harness := (true, "622e5fa6d53229c324985773194d4cb7a578fa3738514a304fac456dd79e781c"), looks := true }, kinds := [], alts := [], laidByText := true, laidKinds := [.data, .data, .data, .data, .data, .data, .data, .data, .pinned], laidTests := true, laidLooks := .later }
def FnExactRangeAppliesCardSaid : Prop := Claim7.holds Tryz.pinned (.plain (OpenSpec.ofChange fnExactRangeAppliesSpec)) fnExactRangeAppliesCard

/-- THE SECOND FORM's CARD OF 'laws.FnConds'. -/
def fnCondsUptoCard : Claim7 := { stood := { row := fnCondsUptoRow, standIns := [], harness := (true, "622e5fa6d53229c324985773194d4cb7a578fa3738514a304fac456dd79e781c"), looks := true }, kinds := [], alts := [], laidByText := true, laidKinds := [.data, .data, .data, .data, .data, .data, .data, .data, .pinned], laidTests := true, laidLooks := .later }
def FnCondsUptoCardSaid : Prop := Claim7.holds Tryz.pinned (.plain (OpenSpec.upto fnCondsSpec)) fnCondsUptoCard

/-- THE SECOND FORM's CARD OF 'laws.FnExactCheckCond'. -/
def fnExactCheckCondUptoCard : Claim7 := { stood := { row := fnExactCheckCondUptoRow, standIns := [], harness := (true, "622e5fa6d53229c324985773194d4cb7a578fa3738514a304fac456dd79e781c"), looks := true }, kinds := [], alts := [], laidByText := true, laidKinds := [.data, .data, .data, .data, .data, .data, .data, .data, .pinned], laidTests := true, laidLooks := .later }
def FnExactCheckCondUptoCardSaid : Prop := Claim7.holds Tryz.pinned (.plain (OpenSpec.upto fnExactCheckCondSpec)) fnExactCheckCondUptoCard

/-- THE SECOND FORM's CARD OF 'laws.FnExactRangeApplies'. -/
def fnExactRangeAppliesUptoCard : Claim7 := { stood := { row := fnExactRangeAppliesUptoRow, standIns := [], harness := (true, "622e5fa6d53229c324985773194d4cb7a578fa3738514a304fac456dd79e781c"), looks := true }, kinds := [], alts := [], laidByText := true, laidKinds := [.data, .data, .data, .data, .data, .data, .data, .data, .pinned], laidTests := true, laidLooks := .later }
def FnExactRangeAppliesUptoCardSaid : Prop := Claim7.holds Tryz.pinned (.plain (OpenSpec.upto fnExactRangeAppliesSpec)) fnExactRangeAppliesUptoCard
end Rows
end Go.Proofs.YtgidmoncocbfiaaGreatDoor
