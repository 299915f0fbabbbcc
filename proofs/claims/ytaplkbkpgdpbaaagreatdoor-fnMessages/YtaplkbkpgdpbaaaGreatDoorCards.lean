/-
  DERIVED. GIVEN WITH THE SEED: THE CARDS: each row of YtaplkbkpgdpbaaaGreatDoorRows.lean that lists a variable, with what it lists TIED to the program's text (the seventh form; the later family's looks); each row that meets fmt, with fmt's text TOLD by the authors' own Lean function (tested against real Go, not proved from fmt's source: count such statements apart). THE CARD IS WHAT COUNTS. Prove the row's statement (the work); the ties are given (YtaplkbkpgdpbaaaGreatDoorTie.lean); close each card by the builder's one call (the guide's Derived/Test/ToyasCard.lean, 'card_holds'). Laid BY PROGRAM, IN A SANDBOX (cutbox-door.mjs). By AI agents, Wed Nov 11 2026. No macro, syntax, notation, axiom, sorry.
-/
import Derived.Test.YtaplkbkpgdpbaaaGreatDoorRows
import GoSem.ClaimSeven
namespace Go.Proofs.YtaplkbkpgdpbaaaGreatDoor
namespace Rows

/-- THE TIED CARD OF 'laws.FnMessages'. -/
def fnMessagesCard : Claim7 := { stood := { row := fnMessagesRow, standIns := [], harness := (true, "e6aae071596549377ce61d2a306386934f63306c710b5df31468bbb5189716fd"), looks := true }, kinds := [], alts := [], laidByText := true, laidKinds := [.data, .data, .data, .data, .handle, .data, .sentinel, .pinned], laidTests := true, laidLooks := .later }
def FnMessagesCardSaid : Prop := Claim7.holds Tryz.pinned (.plain (OpenSpec.ofChange fnMessagesSpec)) fnMessagesCard

/-- THE TIED CARD OF 'laws.FnTorn'. -/
def fnTornCard : Claim7 := { stood := { row := fnTornRow, standIns := [], harness := (true, "e6aae071596549377ce61d2a306386934f63306c710b5df31468bbb5189716fd"), looks := true }, kinds := [], alts := [], laidByText := true, laidKinds := [.data, .data, .data, .data, .handle, .data, .sentinel, .pinned], laidTests := true, laidLooks := .later }
def FnTornCardSaid : Prop := Claim7.holds Tryz.pinned (.plain (OpenSpec.ofChange fnTornSpec)) fnTornCard

/-- THE TIED CARD OF 'laws.FnExactGoodRequest'. -/
def fnExactGoodRequestCard : Claim7 := { stood := { row := fnExactGoodRequestRow, standIns := [], harness := (true, "e6aae071596549377ce61d2a306386934f63306c710b5df31468bbb5189716fd"), looks := true }, kinds := [], alts := [], laidByText := true, laidKinds := [.data, .data, .sentinel, .pinned], laidTests := true, laidLooks := .later }
def FnExactGoodRequestCardSaid : Prop := Claim7.holds Tryz.pinned (.plain (OpenSpec.ofChange fnExactGoodRequestSpec)) fnExactGoodRequestCard

/-- THE TIED CARD OF 'laws.FnExactGoodResponse'. -/
def fnExactGoodResponseCard : Claim7 := { stood := { row := fnExactGoodResponseRow, standIns := [], harness := (true, "e6aae071596549377ce61d2a306386934f63306c710b5df31468bbb5189716fd"), looks := true }, kinds := [], alts := [], laidByText := true, laidKinds := [.data, .data, .data, .data, .data, .sentinel, .pinned], laidTests := true, laidLooks := .later }
def FnExactGoodResponseCardSaid : Prop := Claim7.holds Tryz.pinned (.plain (OpenSpec.ofChange fnExactGoodResponseSpec)) fnExactGoodResponseCard

/-- THE TIED CARD OF 'laws.FnExactRequestBytes'. -/
def fnExactRequestBytesCard : Claim7 := { stood := { row := fnExactRequestBytesRow, standIns := [], harness := (true, "e6aae071596549377ce61d2a306386934f63306c710b5df31468bbb5189716fd"), looks := true }, kinds := [], alts := [], laidByText := true, laidKinds := [.data, .data, .sentinel, .pinned], laidTests := true, laidLooks := .later }
def FnExactRequestBytesCardSaid : Prop := Claim7.holds Tryz.pinned (.plain (OpenSpec.ofChange fnExactRequestBytesSpec)) fnExactRequestBytesCard

/-- THE TIED CARD OF 'laws.FnExactResponseBytes'. -/
def fnExactResponseBytesCard : Claim7 := { stood := { row := fnExactResponseBytesRow, standIns := [], harness := (true, "e6aae071596549377ce61d2a306386934f63306c710b5df31468bbb5189716fd"), looks := true }, kinds := [], alts := [], laidByText := true, laidKinds := [.data, .data, .data, .data, .data, .sentinel, .pinned], laidTests := true, laidLooks := .later }
def FnExactResponseBytesCardSaid : Prop := Claim7.holds Tryz.pinned (.plain (OpenSpec.ofChange fnExactResponseBytesSpec)) fnExactResponseBytesCard

/-- THE TIED CARD OF 'laws.FnExactTakeRequest'. -/
def fnExactTakeRequestCard : Claim7 := { stood := { row := fnExactTakeRequestRow, standIns := [], harness := (true, "e6aae071596549377ce61d2a306386934f63306c710b5df31468bbb5189716fd"), looks := true }, kinds := [], alts := [], laidByText := true, laidKinds := [.data, .handle, .data, .sentinel, .pinned], laidTests := true, laidLooks := .later }
def FnExactTakeRequestCardSaid : Prop := Claim7.holds Tryz.pinned (.plain (OpenSpec.ofChange fnExactTakeRequestSpec)) fnExactTakeRequestCard

/-- THE TIED CARD OF 'laws.FnExactTakeResponse'. -/
def fnExactTakeResponseCard : Claim7 := { stood := { row := fnExactTakeResponseRow, standIns := [], harness := (true, "e6aae071596549377ce61d2a306386934f63306c710b5df31468bbb5189716fd"), looks := true }, kinds := [], alts := [], laidByText := true, laidKinds := [.data, .data, .data, .data, .handle, .data, .sentinel, .pinned], laidTests := true, laidLooks := .later }
def FnExactTakeResponseCardSaid : Prop := Claim7.holds Tryz.pinned (.plain (OpenSpec.ofChange fnExactTakeResponseSpec)) fnExactTakeResponseCard

/-- THE TIED CARD OF 'laws.FnExactHostOf'. -/
def fnExactHostOfCard : Claim7 := { stood := { row := fnExactHostOfRow, standIns := [], harness := (true, "e6aae071596549377ce61d2a306386934f63306c710b5df31468bbb5189716fd"), looks := true }, kinds := [], alts := [], laidByText := true, laidKinds := [.data, .data, .sentinel, .pinned], laidTests := true, laidLooks := .later }
def FnExactHostOfCardSaid : Prop := Claim7.holds Tryz.pinned (.plain (OpenSpec.ofChange fnExactHostOfSpec)) fnExactHostOfCard

/-- THE SECOND FORM's CARD OF 'laws.FnMessages'. -/
def fnMessagesUptoCard : Claim7 := { stood := { row := fnMessagesUptoRow, standIns := [], harness := (true, "e6aae071596549377ce61d2a306386934f63306c710b5df31468bbb5189716fd"), looks := true }, kinds := [], alts := [], laidByText := true, laidKinds := [.data, .data, .data, .data, .handle, .data, .sentinel, .pinned], laidTests := true, laidLooks := .later }
def FnMessagesUptoCardSaid : Prop := Claim7.holds Tryz.pinned (.plain (OpenSpec.upto fnMessagesSpec)) fnMessagesUptoCard

/-- THE SECOND FORM's CARD OF 'laws.FnTorn'. -/
def fnTornUptoCard : Claim7 := { stood := { row := fnTornUptoRow, standIns := [], harness := (true, "e6aae071596549377ce61d2a306386934f63306c710b5df31468bbb5189716fd"), looks := true }, kinds := [], alts := [], laidByText := true, laidKinds := [.data, .data, .data, .data, .handle, .data, .sentinel, .pinned], laidTests := true, laidLooks := .later }
def FnTornUptoCardSaid : Prop := Claim7.holds Tryz.pinned (.plain (OpenSpec.upto fnTornSpec)) fnTornUptoCard

/-- THE SECOND FORM's CARD OF 'laws.FnExactGoodRequest'. -/
def fnExactGoodRequestUptoCard : Claim7 := { stood := { row := fnExactGoodRequestUptoRow, standIns := [], harness := (true, "e6aae071596549377ce61d2a306386934f63306c710b5df31468bbb5189716fd"), looks := true }, kinds := [], alts := [], laidByText := true, laidKinds := [.data, .data, .sentinel, .pinned], laidTests := true, laidLooks := .later }
def FnExactGoodRequestUptoCardSaid : Prop := Claim7.holds Tryz.pinned (.plain (OpenSpec.upto fnExactGoodRequestSpec)) fnExactGoodRequestUptoCard

/-- THE SECOND FORM's CARD OF 'laws.FnExactGoodResponse'. -/
def fnExactGoodResponseUptoCard : Claim7 := { stood := { row := fnExactGoodResponseUptoRow, standIns := [], harness := (true, "e6aae071596549377ce61d2a306386934f63306c710b5df31468bbb5189716fd"), looks := true }, kinds := [], alts := [], laidByText := true, laidKinds := [.data, .data, .data, .data, .data, .sentinel, .pinned], laidTests := true, laidLooks := .later }
def FnExactGoodResponseUptoCardSaid : Prop := Claim7.holds Tryz.pinned (.plain (OpenSpec.upto fnExactGoodResponseSpec)) fnExactGoodResponseUptoCard

/-- THE SECOND FORM's CARD OF 'laws.FnExactRequestBytes'. -/
def fnExactRequestBytesUptoCard : Claim7 := { stood := { row := fnExactRequestBytesUptoRow, standIns := [], harness := (true, "e6aae071596549377ce61d2a306386934f63306c710b5df31468bbb5189716fd"), looks := true }, kinds := [], alts := [], laidByText := true, laidKinds := [.data, .data, .sentinel, .pinned], laidTests := true, laidLooks := .later }
def FnExactRequestBytesUptoCardSaid : Prop := Claim7.holds Tryz.pinned (.plain (OpenSpec.upto fnExactRequestBytesSpec)) fnExactRequestBytesUptoCard

/-- THE SECOND FORM's CARD OF 'laws.FnExactResponseBytes'. -/
def fnExactResponseBytesUptoCard : Claim7 := { stood := { row := fnExactResponseBytesUptoRow, standIns := [], harness := (true, "e6aae071596549377ce61d2a306386934f63306c710b5df31468bbb5189716fd"), looks := true }, kinds := [], alts := [], laidByText := true, laidKinds := [.data, .data, .data, .data, .data, .sentinel, .pinned], laidTests := true, laidLooks := .later }
def FnExactResponseBytesUptoCardSaid : Prop := Claim7.holds Tryz.pinned (.plain (OpenSpec.upto fnExactResponseBytesSpec)) fnExactResponseBytesUptoCard

/-- THE SECOND FORM's CARD OF 'laws.FnExactTakeRequest'. -/
def fnExactTakeRequestUptoCard : Claim7 := { stood := { row := fnExactTakeRequestUptoRow, standIns := [], harness := (true, "e6aae071596549377ce61d2a306386934f63306c710b5df31468bbb5189716fd"), looks := true }, kinds := [], alts := [], laidByText := true, laidKinds := [.data, .handle, .data, .sentinel, .pinned], laidTests := true, laidLooks := .later }
def FnExactTakeRequestUptoCardSaid : Prop := Claim7.holds Tryz.pinned (.plain (OpenSpec.upto fnExactTakeRequestSpec)) fnExactTakeRequestUptoCard

/-- THE SECOND FORM's CARD OF 'laws.FnExactTakeResponse'. -/
def fnExactTakeResponseUptoCard : Claim7 := { stood := { row := fnExactTakeResponseUptoRow, standIns := [], harness := (true, "e6aae071596549377ce61d2a306386934f63306c710b5df31468bbb5189716fd"), looks := true }, kinds := [], alts := [], laidByText := true, laidKinds := [.data, .data, .data, .data, .handle, .data, .sentinel, .pinned], laidTests := true, laidLooks := .later }
def FnExactTakeResponseUptoCardSaid : Prop := Claim7.holds Tryz.pinned (.plain (OpenSpec.upto fnExactTakeResponseSpec)) fnExactTakeResponseUptoCard

/-- THE SECOND FORM's CARD OF 'laws.FnExactHostOf'. -/
def fnExactHostOfUptoCard : Claim7 := { stood := { row := fnExactHostOfUptoRow, standIns := [], harness := (true, "e6aae071596549377ce61d2a306386934f63306c710b5df31468bbb5189716fd"), looks := true }, kinds := [], alts := [], laidByText := true, laidKinds := [.data, .data, .sentinel, .pinned], laidTests := true, laidLooks := .later }
def FnExactHostOfUptoCardSaid : Prop := Claim7.holds Tryz.pinned (.plain (OpenSpec.upto fnExactHostOfSpec)) fnExactHostOfUptoCard
end Rows
end Go.Proofs.YtaplkbkpgdpbaaaGreatDoor
