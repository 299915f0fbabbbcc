/-
  DERIVED. GIVEN WITH THE SEED: THE CARDS: each row of YtnabjlfdeccmeaaDoorRows.lean that lists a variable, with what it lists TIED to the program's text (the seventh form; the later family's looks); each row that meets fmt, with fmt's text TOLD by the authors' own Lean function (tested against real Go, not proved from fmt's source: count such statements apart). THE CARD IS WHAT COUNTS. Prove the row's statement (the work); the ties are given (YtnabjlfdeccmeaaDoorTie.lean); close each card by the builder's one call (the guide's Derived/Test/ToyasCard.lean, 'card_holds'). Laid BY PROGRAM, IN A SANDBOX (cutbox-door.mjs). By AI agents, Wed Nov 11 2026. No macro, syntax, notation, axiom, sorry.
-/
import Derived.Test.YtnabjlfdeccmeaaDoorRows
import GoSem.ClaimSeven
namespace Go.Proofs.YtnabjlfdeccmeaaDoor
namespace Rows

/-- THE TIED CARD OF 'laws.FnExactChunkBytes'. -/
def fnExactChunkBytesCard : Claim7 := { stood := { row := fnExactChunkBytesRow, standIns := [], harness := (true, "eb81c6fa54f9ac06f77c9afb69cd4f6779ae3b4b794597d16403ba3478ba4a42"), looks := false }, kinds := [], alts := [], laidByText := true, laidKinds := [.data, .data, .data], laidTests := true, laidLooks := .later }
def FnExactChunkBytesCardSaid : Prop := Claim7.holds Tryd.pinned (.plain (OpenSpec.ofChange fnExactChunkBytesSpec)) fnExactChunkBytesCard

/-- THE TIED CARD OF 'laws.FnExactHexText'. -/
def fnExactHexTextCard : Claim7 := { stood := { row := fnExactHexTextRow, standIns := [], harness := (true, "eb81c6fa54f9ac06f77c9afb69cd4f6779ae3b4b794597d16403ba3478ba4a42"), looks := false }, kinds := [], alts := [], laidByText := true, laidKinds := [.data, .data, .data], laidTests := true, laidLooks := .later }
def FnExactHexTextCardSaid : Prop := Claim7.holds Tryd.pinned (.plain (OpenSpec.ofChange fnExactHexTextSpec)) fnExactHexTextCard

/-- THE TIED CARD OF 'laws.FnExactReadHex'. -/
def fnExactReadHexCard : Claim7 := { stood := { row := fnExactReadHexRow, standIns := [], harness := (true, "eb81c6fa54f9ac06f77c9afb69cd4f6779ae3b4b794597d16403ba3478ba4a42"), looks := false }, kinds := [], alts := [], laidByText := true, laidKinds := [.data], laidTests := true, laidLooks := .later }
def FnExactReadHexCardSaid : Prop := Claim7.holds Tryd.pinned (.plain (OpenSpec.ofChange fnExactReadHexSpec)) fnExactReadHexCard

/-- THE TIED CARD OF 'laws.FnChunks'. -/
def fnChunksCard : Claim7 := { stood := { row := fnChunksRow, standIns := [], harness := (true, "eb81c6fa54f9ac06f77c9afb69cd4f6779ae3b4b794597d16403ba3478ba4a42"), looks := false }, kinds := [], alts := [], laidByText := true, laidKinds := [.data, .data, .data, .data], laidTests := true, laidLooks := .later }
def FnChunksCardSaid : Prop := Claim7.holds Tryd.pinned (.plain (OpenSpec.ofChange fnChunksSpec)) fnChunksCard

/-- THE SECOND FORM's CARD OF 'laws.FnExactChunkBytes'. -/
def fnExactChunkBytesUptoCard : Claim7 := { stood := { row := fnExactChunkBytesUptoRow, standIns := [], harness := (true, "eb81c6fa54f9ac06f77c9afb69cd4f6779ae3b4b794597d16403ba3478ba4a42"), looks := false }, kinds := [], alts := [], laidByText := true, laidKinds := [.data, .data, .data], laidTests := true, laidLooks := .later }
def FnExactChunkBytesUptoCardSaid : Prop := Claim7.holds Tryd.pinned (.plain (OpenSpec.upto fnExactChunkBytesSpec)) fnExactChunkBytesUptoCard

/-- THE SECOND FORM's CARD OF 'laws.FnExactHexText'. -/
def fnExactHexTextUptoCard : Claim7 := { stood := { row := fnExactHexTextUptoRow, standIns := [], harness := (true, "eb81c6fa54f9ac06f77c9afb69cd4f6779ae3b4b794597d16403ba3478ba4a42"), looks := false }, kinds := [], alts := [], laidByText := true, laidKinds := [.data, .data, .data], laidTests := true, laidLooks := .later }
def FnExactHexTextUptoCardSaid : Prop := Claim7.holds Tryd.pinned (.plain (OpenSpec.upto fnExactHexTextSpec)) fnExactHexTextUptoCard

/-- THE SECOND FORM's CARD OF 'laws.FnExactReadHex'. -/
def fnExactReadHexUptoCard : Claim7 := { stood := { row := fnExactReadHexUptoRow, standIns := [], harness := (true, "eb81c6fa54f9ac06f77c9afb69cd4f6779ae3b4b794597d16403ba3478ba4a42"), looks := false }, kinds := [], alts := [], laidByText := true, laidKinds := [.data], laidTests := true, laidLooks := .later }
def FnExactReadHexUptoCardSaid : Prop := Claim7.holds Tryd.pinned (.plain (OpenSpec.upto fnExactReadHexSpec)) fnExactReadHexUptoCard

/-- THE SECOND FORM's CARD OF 'laws.FnChunks'. -/
def fnChunksUptoCard : Claim7 := { stood := { row := fnChunksUptoRow, standIns := [], harness := (true, "eb81c6fa54f9ac06f77c9afb69cd4f6779ae3b4b794597d16403ba3478ba4a42"), looks := false }, kinds := [], alts := [], laidByText := true, laidKinds := [.data, .data, .data, .data], laidTests := true, laidLooks := .later }
def FnChunksUptoCardSaid : Prop := Claim7.holds Tryd.pinned (.plain (OpenSpec.upto fnChunksSpec)) fnChunksUptoCard
end Rows
end Go.Proofs.YtnabjlfdeccmeaaDoor
