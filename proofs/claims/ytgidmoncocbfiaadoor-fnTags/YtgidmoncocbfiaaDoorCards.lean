/-
  DERIVED. GIVEN WITH THE SEED: THE CARDS: each row of YtgidmoncocbfiaaDoorRows.lean that lists a variable, with what it lists TIED to the program's text (the seventh form; the later family's looks); each row that meets fmt, with fmt's text TOLD by the authors' own Lean function (tested against real Go, not proved from fmt's source: count such statements apart). THE CARD IS WHAT COUNTS. Prove the row's statement (the work); the ties are given (YtgidmoncocbfiaaDoorTie.lean); close each card by the builder's one call (the guide's Derived/Test/ToyasCard.lean, 'card_holds'). Laid BY PROGRAM, IN A SANDBOX (cutbox-door.mjs). By AI agents, Wed Nov 11 2026. No macro, syntax, notation, axiom, sorry.
-/
import Derived.Test.YtgidmoncocbfiaaDoorRows
import GoSem.ClaimSeven
namespace Go.Proofs.YtgidmoncocbfiaaDoor
namespace Rows

/-- THE TIED CARD OF 'laws.FnTags'. -/
def fnTagsCard : Claim7 := { stood := { row := fnTagsRow, standIns := [], harness := (true, "5de2af8ae7aaf9a99fafcf1a84eb2880b0e330d8b719c7e601c462d7d85a48b1"), looks := false }, kinds := [], alts := [], laidByText := true, laidKinds := [.data, .pinned], laidTests := true, laidLooks := .later }
def FnTagsCardSaid : Prop := Claim7.holds Tryd.pinned (.plain (OpenSpec.ofChange fnTagsSpec)) fnTagsCard

/-- THE TIED CARD OF 'laws.FnExactTagsOf'. -/
def fnExactTagsOfCard : Claim7 := { stood := { row := fnExactTagsOfRow, standIns := [], harness := (true, "5de2af8ae7aaf9a99fafcf1a84eb2880b0e330d8b719c7e601c462d7d85a48b1"), looks := false }, kinds := [], alts := [], laidByText := true, laidKinds := [.data, .pinned], laidTests := true, laidLooks := .later }
def FnExactTagsOfCardSaid : Prop := Claim7.holds Tryd.pinned (.plain (OpenSpec.ofChange fnExactTagsOfSpec)) fnExactTagsOfCard

/-- THE SECOND FORM's CARD OF 'laws.FnTags'. -/
def fnTagsUptoCard : Claim7 := { stood := { row := fnTagsUptoRow, standIns := [], harness := (true, "5de2af8ae7aaf9a99fafcf1a84eb2880b0e330d8b719c7e601c462d7d85a48b1"), looks := false }, kinds := [], alts := [], laidByText := true, laidKinds := [.data, .pinned], laidTests := true, laidLooks := .later }
def FnTagsUptoCardSaid : Prop := Claim7.holds Tryd.pinned (.plain (OpenSpec.upto fnTagsSpec)) fnTagsUptoCard

/-- THE SECOND FORM's CARD OF 'laws.FnExactTagsOf'. -/
def fnExactTagsOfUptoCard : Claim7 := { stood := { row := fnExactTagsOfUptoRow, standIns := [], harness := (true, "5de2af8ae7aaf9a99fafcf1a84eb2880b0e330d8b719c7e601c462d7d85a48b1"), looks := false }, kinds := [], alts := [], laidByText := true, laidKinds := [.data, .pinned], laidTests := true, laidLooks := .later }
def FnExactTagsOfUptoCardSaid : Prop := Claim7.holds Tryd.pinned (.plain (OpenSpec.upto fnExactTagsOfSpec)) fnExactTagsOfUptoCard
end Rows
end Go.Proofs.YtgidmoncocbfiaaDoor
