/-
  DERIVED. GIVEN WITH THE SEED: THE CARDS: each row of YtlofjmfaanchjaaDoorRows.lean that lists a variable, with what it lists TIED to the program's text (the seventh form; the later family's looks); each row that meets fmt, with fmt's text TOLD by the authors' own Lean function (tested against real Go, not proved from fmt's source: count such statements apart). THE CARD IS WHAT COUNTS. Prove the row's statement (the work); the ties are given (YtlofjmfaanchjaaDoorTie.lean); close each card by the builder's one call (the guide's Derived/Test/ToyasCard.lean, 'card_holds'). Laid BY PROGRAM, IN A SANDBOX (cutbox-door.mjs). By AI agents, Wed Nov 11 2026. No macro, syntax, notation, axiom, sorry.
-/
import Derived.Test.YtlofjmfaanchjaaDoorRows
import GoSem.ClaimSeven
namespace Go.Proofs.YtlofjmfaanchjaaDoor
namespace Rows

/-- THE TIED CARD OF 'laws.FnQuoted'. -/
def fnQuotedCard : Claim7 := { stood := { row := fnQuotedRow, standIns := [], harness := (true, "98ce7233260b38ee214aa1b2397beb7b80f997cb4c11e92dc4cd300ec605c41a"), looks := false }, kinds := [], alts := [], laidByText := true, laidKinds := [.data, .data, .pinned], laidTests := true, laidLooks := .later }
def FnQuotedCardSaid : Prop := Claim7.holds Tryd.pinned (.plain (OpenSpec.ofChange fnQuotedSpec)) fnQuotedCard

/-- THE TIED CARD OF 'laws.FnChoices'. -/
def fnChoicesCard : Claim7 := { stood := { row := fnChoicesRow, standIns := [], harness := (true, "98ce7233260b38ee214aa1b2397beb7b80f997cb4c11e92dc4cd300ec605c41a"), looks := false }, kinds := [], alts := [], laidByText := true, laidKinds := [.data, .data, .pinned], laidTests := true, laidLooks := .later }
def FnChoicesCardSaid : Prop := Claim7.holds Tryd.pinned (.plain (OpenSpec.ofChange fnChoicesSpec)) fnChoicesCard

/-- THE TIED CARD OF 'laws.FnExactGoodField'. -/
def fnExactGoodFieldCard : Claim7 := { stood := { row := fnExactGoodFieldRow, standIns := [], harness := (true, "98ce7233260b38ee214aa1b2397beb7b80f997cb4c11e92dc4cd300ec605c41a"), looks := false }, kinds := [], alts := [], laidByText := true, laidKinds := [.data, .data, .pinned], laidTests := true, laidLooks := .later }
def FnExactGoodFieldCardSaid : Prop := Claim7.holds Tryd.pinned (.plain (OpenSpec.ofChange fnExactGoodFieldSpec)) fnExactGoodFieldCard

/-- THE TIED CARD OF 'laws.FnExactValuesOf'. -/
def fnExactValuesOfCard : Claim7 := { stood := { row := fnExactValuesOfRow, standIns := [], harness := (true, "98ce7233260b38ee214aa1b2397beb7b80f997cb4c11e92dc4cd300ec605c41a"), looks := false }, kinds := [], alts := [], laidByText := true, laidKinds := [.data, .data, .pinned], laidTests := true, laidLooks := .later }
def FnExactValuesOfCardSaid : Prop := Claim7.holds Tryd.pinned (.plain (OpenSpec.ofChange fnExactValuesOfSpec)) fnExactValuesOfCard

/-- THE TIED CARD OF 'laws.FnExactJoinedOf'. -/
def fnExactJoinedOfCard : Claim7 := { stood := { row := fnExactJoinedOfRow, standIns := [], harness := (true, "98ce7233260b38ee214aa1b2397beb7b80f997cb4c11e92dc4cd300ec605c41a"), looks := false }, kinds := [], alts := [], laidByText := true, laidKinds := [.data, .data, .pinned], laidTests := true, laidLooks := .later }
def FnExactJoinedOfCardSaid : Prop := Claim7.holds Tryd.pinned (.plain (OpenSpec.ofChange fnExactJoinedOfSpec)) fnExactJoinedOfCard

/-- THE TIED CARD OF 'laws.FnExactListOf'. -/
def fnExactListOfCard : Claim7 := { stood := { row := fnExactListOfRow, standIns := [], harness := (true, "98ce7233260b38ee214aa1b2397beb7b80f997cb4c11e92dc4cd300ec605c41a"), looks := false }, kinds := [], alts := [], laidByText := true, laidKinds := [.data, .pinned], laidTests := true, laidLooks := .later }
def FnExactListOfCardSaid : Prop := Claim7.holds Tryd.pinned (.plain (OpenSpec.ofChange fnExactListOfSpec)) fnExactListOfCard

/-- THE TIED CARD OF 'laws.FnExactSetField'. -/
def fnExactSetFieldCard : Claim7 := { stood := { row := fnExactSetFieldRow, standIns := [], harness := (true, "98ce7233260b38ee214aa1b2397beb7b80f997cb4c11e92dc4cd300ec605c41a"), looks := false }, kinds := [], alts := [], laidByText := true, laidKinds := [.data, .data, .pinned], laidTests := true, laidLooks := .later }
def FnExactSetFieldCardSaid : Prop := Claim7.holds Tryd.pinned (.plain (OpenSpec.ofChange fnExactSetFieldSpec)) fnExactSetFieldCard

/-- THE TIED CARD OF 'laws.FnExactChoicesOf'. -/
def fnExactChoicesOfCard : Claim7 := { stood := { row := fnExactChoicesOfRow, standIns := [], harness := (true, "98ce7233260b38ee214aa1b2397beb7b80f997cb4c11e92dc4cd300ec605c41a"), looks := false }, kinds := [], alts := [], laidByText := true, laidKinds := [.data, .data, .pinned], laidTests := true, laidLooks := .later }
def FnExactChoicesOfCardSaid : Prop := Claim7.holds Tryd.pinned (.plain (OpenSpec.ofChange fnExactChoicesOfSpec)) fnExactChoicesOfCard

/-- THE TIED CARD OF 'laws.FnExactBestChoice'. -/
def fnExactBestChoiceCard : Claim7 := { stood := { row := fnExactBestChoiceRow, standIns := [], harness := (true, "98ce7233260b38ee214aa1b2397beb7b80f997cb4c11e92dc4cd300ec605c41a"), looks := false }, kinds := [], alts := [], laidByText := true, laidKinds := [.data, .data, .pinned], laidTests := true, laidLooks := .later }
def FnExactBestChoiceCardSaid : Prop := Claim7.holds Tryd.pinned (.plain (OpenSpec.ofChange fnExactBestChoiceSpec)) fnExactBestChoiceCard

/-- THE SECOND FORM's CARD OF 'laws.FnQuoted'. -/
def fnQuotedUptoCard : Claim7 := { stood := { row := fnQuotedUptoRow, standIns := [], harness := (true, "98ce7233260b38ee214aa1b2397beb7b80f997cb4c11e92dc4cd300ec605c41a"), looks := false }, kinds := [], alts := [], laidByText := true, laidKinds := [.data, .data, .pinned], laidTests := true, laidLooks := .later }
def FnQuotedUptoCardSaid : Prop := Claim7.holds Tryd.pinned (.plain (OpenSpec.upto fnQuotedSpec)) fnQuotedUptoCard

/-- THE SECOND FORM's CARD OF 'laws.FnChoices'. -/
def fnChoicesUptoCard : Claim7 := { stood := { row := fnChoicesUptoRow, standIns := [], harness := (true, "98ce7233260b38ee214aa1b2397beb7b80f997cb4c11e92dc4cd300ec605c41a"), looks := false }, kinds := [], alts := [], laidByText := true, laidKinds := [.data, .data, .pinned], laidTests := true, laidLooks := .later }
def FnChoicesUptoCardSaid : Prop := Claim7.holds Tryd.pinned (.plain (OpenSpec.upto fnChoicesSpec)) fnChoicesUptoCard

/-- THE SECOND FORM's CARD OF 'laws.FnExactGoodField'. -/
def fnExactGoodFieldUptoCard : Claim7 := { stood := { row := fnExactGoodFieldUptoRow, standIns := [], harness := (true, "98ce7233260b38ee214aa1b2397beb7b80f997cb4c11e92dc4cd300ec605c41a"), looks := false }, kinds := [], alts := [], laidByText := true, laidKinds := [.data, .data, .pinned], laidTests := true, laidLooks := .later }
def FnExactGoodFieldUptoCardSaid : Prop := Claim7.holds Tryd.pinned (.plain (OpenSpec.upto fnExactGoodFieldSpec)) fnExactGoodFieldUptoCard

/-- THE SECOND FORM's CARD OF 'laws.FnExactValuesOf'. -/
def fnExactValuesOfUptoCard : Claim7 := { stood := { row := fnExactValuesOfUptoRow, standIns := [], harness := (true, "98ce7233260b38ee214aa1b2397beb7b80f997cb4c11e92dc4cd300ec605c41a"), looks := false }, kinds := [], alts := [], laidByText := true, laidKinds := [.data, .data, .pinned], laidTests := true, laidLooks := .later }
def FnExactValuesOfUptoCardSaid : Prop := Claim7.holds Tryd.pinned (.plain (OpenSpec.upto fnExactValuesOfSpec)) fnExactValuesOfUptoCard

/-- THE SECOND FORM's CARD OF 'laws.FnExactJoinedOf'. -/
def fnExactJoinedOfUptoCard : Claim7 := { stood := { row := fnExactJoinedOfUptoRow, standIns := [], harness := (true, "98ce7233260b38ee214aa1b2397beb7b80f997cb4c11e92dc4cd300ec605c41a"), looks := false }, kinds := [], alts := [], laidByText := true, laidKinds := [.data, .data, .pinned], laidTests := true, laidLooks := .later }
def FnExactJoinedOfUptoCardSaid : Prop := Claim7.holds Tryd.pinned (.plain (OpenSpec.upto fnExactJoinedOfSpec)) fnExactJoinedOfUptoCard

/-- THE SECOND FORM's CARD OF 'laws.FnExactListOf'. -/
def fnExactListOfUptoCard : Claim7 := { stood := { row := fnExactListOfUptoRow, standIns := [], harness := (true, "98ce7233260b38ee214aa1b2397beb7b80f997cb4c11e92dc4cd300ec605c41a"), looks := false }, kinds := [], alts := [], laidByText := true, laidKinds := [.data, .pinned], laidTests := true, laidLooks := .later }
def FnExactListOfUptoCardSaid : Prop := Claim7.holds Tryd.pinned (.plain (OpenSpec.upto fnExactListOfSpec)) fnExactListOfUptoCard

/-- THE SECOND FORM's CARD OF 'laws.FnExactSetField'. -/
def fnExactSetFieldUptoCard : Claim7 := { stood := { row := fnExactSetFieldUptoRow, standIns := [], harness := (true, "98ce7233260b38ee214aa1b2397beb7b80f997cb4c11e92dc4cd300ec605c41a"), looks := false }, kinds := [], alts := [], laidByText := true, laidKinds := [.data, .data, .pinned], laidTests := true, laidLooks := .later }
def FnExactSetFieldUptoCardSaid : Prop := Claim7.holds Tryd.pinned (.plain (OpenSpec.upto fnExactSetFieldSpec)) fnExactSetFieldUptoCard

/-- THE SECOND FORM's CARD OF 'laws.FnExactChoicesOf'. -/
def fnExactChoicesOfUptoCard : Claim7 := { stood := { row := fnExactChoicesOfUptoRow, standIns := [], harness := (true, "98ce7233260b38ee214aa1b2397beb7b80f997cb4c11e92dc4cd300ec605c41a"), looks := false }, kinds := [], alts := [], laidByText := true, laidKinds := [.data, .data, .pinned], laidTests := true, laidLooks := .later }
def FnExactChoicesOfUptoCardSaid : Prop := Claim7.holds Tryd.pinned (.plain (OpenSpec.upto fnExactChoicesOfSpec)) fnExactChoicesOfUptoCard

/-- THE SECOND FORM's CARD OF 'laws.FnExactBestChoice'. -/
def fnExactBestChoiceUptoCard : Claim7 := { stood := { row := fnExactBestChoiceUptoRow, standIns := [], harness := (true, "98ce7233260b38ee214aa1b2397beb7b80f997cb4c11e92dc4cd300ec605c41a"), looks := false }, kinds := [], alts := [], laidByText := true, laidKinds := [.data, .data, .pinned], laidTests := true, laidLooks := .later }
def FnExactBestChoiceUptoCardSaid : Prop := Claim7.holds Tryd.pinned (.plain (OpenSpec.upto fnExactBestChoiceSpec)) fnExactBestChoiceUptoCard
end Rows
end Go.Proofs.YtlofjmfaanchjaaDoor
