/-
  DERIVED. GIVEN WITH THE SEED: THE CARDS: each row of YtimfcbjgoilnpaaDoorRows.lean that lists a variable, with what it lists TIED to the program's text (the seventh form; the later family's looks); each row that meets fmt, with fmt's text TOLD by the authors' own Lean function (tested against real Go, not proved from fmt's source: count such statements apart). THE CARD IS WHAT COUNTS. Prove the row's statement (the work); the ties are given (YtimfcbjgoilnpaaDoorTie.lean); close each card by the builder's one call (the guide's Derived/Test/ToyasCard.lean, 'card_holds'). Laid BY PROGRAM, IN A SANDBOX (cutbox-door.mjs). By AI agents, Wed Nov 11 2026. No macro, syntax, notation, axiom, sorry.
-/
import Derived.Test.YtimfcbjgoilnpaaDoorRows
import GoSem.ClaimSeven
namespace Go.Proofs.YtimfcbjgoilnpaaDoor
namespace Rows

/-- THE TIED CARD OF 'laws.FnExactChunkBytes'. -/
def fnExactChunkBytesCard : Claim7 := { stood := { row := fnExactChunkBytesRow, standIns := [], harness := (true, "9d95872685d8be2e27c7d2c9d1d5e6431acfa07c356bf5b8b85c5b09e63f5ab6"), looks := false }, kinds := [], alts := [], laidByText := true, laidKinds := [.data, .data, .data], laidTests := true, laidLooks := .later }
def FnExactChunkBytesCardSaid : Prop := Claim7.holds Tryd.pinned (.plain (OpenSpec.ofChange fnExactChunkBytesSpec)) fnExactChunkBytesCard

/-- THE TIED CARD OF 'laws.FnExactReadChunks'. -/
def fnExactReadChunksCard : Claim7 := { stood := { row := fnExactReadChunksRow, standIns := [], harness := (true, "9d95872685d8be2e27c7d2c9d1d5e6431acfa07c356bf5b8b85c5b09e63f5ab6"), looks := false }, kinds := [], alts := [], laidByText := true, laidKinds := [.data], laidTests := true, laidLooks := .later }
def FnExactReadChunksCardSaid : Prop := Claim7.holds Tryd.pinned (.plain (OpenSpec.ofChange fnExactReadChunksSpec)) fnExactReadChunksCard

/-- THE TIED CARD OF 'laws.FnExactGoodUnchunk'. -/
def fnExactGoodUnchunkCard : Claim7 := { stood := { row := fnExactGoodUnchunkRow, standIns := [], harness := (true, "9d95872685d8be2e27c7d2c9d1d5e6431acfa07c356bf5b8b85c5b09e63f5ab6"), looks := false }, kinds := [], alts := [], laidByText := true, laidKinds := [.data], laidTests := true, laidLooks := .later }
def FnExactGoodUnchunkCardSaid : Prop := Claim7.holds Tryd.pinned (.plain (OpenSpec.ofChange fnExactGoodUnchunkSpec)) fnExactGoodUnchunkCard

/-- THE TIED CARD OF 'laws.FnExactFeedUnchunk'. -/
def fnExactFeedUnchunkCard : Claim7 := { stood := { row := fnExactFeedUnchunkRow, standIns := [], harness := (true, "9d95872685d8be2e27c7d2c9d1d5e6431acfa07c356bf5b8b85c5b09e63f5ab6"), looks := false }, kinds := [], alts := [], laidByText := true, laidKinds := [.data], laidTests := true, laidLooks := .later }
def FnExactFeedUnchunkCardSaid : Prop := Claim7.holds Tryd.pinned (.plain (OpenSpec.ofChange fnExactFeedUnchunkSpec)) fnExactFeedUnchunkCard

/-- THE TIED CARD OF 'laws.FnExactFeedAll'. -/
def fnExactFeedAllCard : Claim7 := { stood := { row := fnExactFeedAllRow, standIns := [], harness := (true, "9d95872685d8be2e27c7d2c9d1d5e6431acfa07c356bf5b8b85c5b09e63f5ab6"), looks := false }, kinds := [], alts := [], laidByText := true, laidKinds := [.data], laidTests := true, laidLooks := .later }
def FnExactFeedAllCardSaid : Prop := Claim7.holds Tryd.pinned (.plain (OpenSpec.ofChange fnExactFeedAllSpec)) fnExactFeedAllCard

/-- THE TIED CARD OF 'laws.FnExactHexText'. -/
def fnExactHexTextCard : Claim7 := { stood := { row := fnExactHexTextRow, standIns := [], harness := (true, "9d95872685d8be2e27c7d2c9d1d5e6431acfa07c356bf5b8b85c5b09e63f5ab6"), looks := false }, kinds := [], alts := [], laidByText := true, laidKinds := [.data, .data, .data], laidTests := true, laidLooks := .later }
def FnExactHexTextCardSaid : Prop := Claim7.holds Tryd.pinned (.plain (OpenSpec.ofChange fnExactHexTextSpec)) fnExactHexTextCard

/-- THE TIED CARD OF 'laws.FnExactReadHex'. -/
def fnExactReadHexCard : Claim7 := { stood := { row := fnExactReadHexRow, standIns := [], harness := (true, "9d95872685d8be2e27c7d2c9d1d5e6431acfa07c356bf5b8b85c5b09e63f5ab6"), looks := false }, kinds := [], alts := [], laidByText := true, laidKinds := [.data], laidTests := true, laidLooks := .later }
def FnExactReadHexCardSaid : Prop := Claim7.holds Tryd.pinned (.plain (OpenSpec.ofChange fnExactReadHexSpec)) fnExactReadHexCard

/-- THE TIED CARD OF 'laws.FnChunks'. -/
def fnChunksCard : Claim7 := { stood := { row := fnChunksRow, standIns := [], harness := (true, "9d95872685d8be2e27c7d2c9d1d5e6431acfa07c356bf5b8b85c5b09e63f5ab6"), looks := false }, kinds := [], alts := [], laidByText := true, laidKinds := [.data, .data, .data, .data], laidTests := true, laidLooks := .later }
def FnChunksCardSaid : Prop := Claim7.holds Tryd.pinned (.plain (OpenSpec.ofChange fnChunksSpec)) fnChunksCard

/-- THE TIED CARD OF 'laws.FnFed'. -/
def fnFedCard : Claim7 := { stood := { row := fnFedRow, standIns := [], harness := (true, "9d95872685d8be2e27c7d2c9d1d5e6431acfa07c356bf5b8b85c5b09e63f5ab6"), looks := false }, kinds := [], alts := [], laidByText := true, laidKinds := [.data], laidTests := true, laidLooks := .later }
def FnFedCardSaid : Prop := Claim7.holds Tryd.pinned (.plain (OpenSpec.ofChange fnFedSpec)) fnFedCard

/-- THE SECOND FORM's CARD OF 'laws.FnExactChunkBytes'. -/
def fnExactChunkBytesUptoCard : Claim7 := { stood := { row := fnExactChunkBytesUptoRow, standIns := [], harness := (true, "9d95872685d8be2e27c7d2c9d1d5e6431acfa07c356bf5b8b85c5b09e63f5ab6"), looks := false }, kinds := [], alts := [], laidByText := true, laidKinds := [.data, .data, .data], laidTests := true, laidLooks := .later }
def FnExactChunkBytesUptoCardSaid : Prop := Claim7.holds Tryd.pinned (.plain (OpenSpec.upto fnExactChunkBytesSpec)) fnExactChunkBytesUptoCard

/-- THE SECOND FORM's CARD OF 'laws.FnExactReadChunks'. -/
def fnExactReadChunksUptoCard : Claim7 := { stood := { row := fnExactReadChunksUptoRow, standIns := [], harness := (true, "9d95872685d8be2e27c7d2c9d1d5e6431acfa07c356bf5b8b85c5b09e63f5ab6"), looks := false }, kinds := [], alts := [], laidByText := true, laidKinds := [.data], laidTests := true, laidLooks := .later }
def FnExactReadChunksUptoCardSaid : Prop := Claim7.holds Tryd.pinned (.plain (OpenSpec.upto fnExactReadChunksSpec)) fnExactReadChunksUptoCard

/-- THE SECOND FORM's CARD OF 'laws.FnExactGoodUnchunk'. -/
def fnExactGoodUnchunkUptoCard : Claim7 := { stood := { row := fnExactGoodUnchunkUptoRow, standIns := [], harness := (true, "9d95872685d8be2e27c7d2c9d1d5e6431acfa07c356bf5b8b85c5b09e63f5ab6"), looks := false }, kinds := [], alts := [], laidByText := true, laidKinds := [.data], laidTests := true, laidLooks := .later }
def FnExactGoodUnchunkUptoCardSaid : Prop := Claim7.holds Tryd.pinned (.plain (OpenSpec.upto fnExactGoodUnchunkSpec)) fnExactGoodUnchunkUptoCard

/-- THE SECOND FORM's CARD OF 'laws.FnExactFeedUnchunk'. -/
def fnExactFeedUnchunkUptoCard : Claim7 := { stood := { row := fnExactFeedUnchunkUptoRow, standIns := [], harness := (true, "9d95872685d8be2e27c7d2c9d1d5e6431acfa07c356bf5b8b85c5b09e63f5ab6"), looks := false }, kinds := [], alts := [], laidByText := true, laidKinds := [.data], laidTests := true, laidLooks := .later }
def FnExactFeedUnchunkUptoCardSaid : Prop := Claim7.holds Tryd.pinned (.plain (OpenSpec.upto fnExactFeedUnchunkSpec)) fnExactFeedUnchunkUptoCard

/-- THE SECOND FORM's CARD OF 'laws.FnExactFeedAll'. -/
def fnExactFeedAllUptoCard : Claim7 := { stood := { row := fnExactFeedAllUptoRow, standIns := [], harness := (true, "9d95872685d8be2e27c7d2c9d1d5e6431acfa07c356bf5b8b85c5b09e63f5ab6"), looks := false }, kinds := [], alts := [], laidByText := true, laidKinds := [.data], laidTests := true, laidLooks := .later }
def FnExactFeedAllUptoCardSaid : Prop := Claim7.holds Tryd.pinned (.plain (OpenSpec.upto fnExactFeedAllSpec)) fnExactFeedAllUptoCard

/-- THE SECOND FORM's CARD OF 'laws.FnExactHexText'. -/
def fnExactHexTextUptoCard : Claim7 := { stood := { row := fnExactHexTextUptoRow, standIns := [], harness := (true, "9d95872685d8be2e27c7d2c9d1d5e6431acfa07c356bf5b8b85c5b09e63f5ab6"), looks := false }, kinds := [], alts := [], laidByText := true, laidKinds := [.data, .data, .data], laidTests := true, laidLooks := .later }
def FnExactHexTextUptoCardSaid : Prop := Claim7.holds Tryd.pinned (.plain (OpenSpec.upto fnExactHexTextSpec)) fnExactHexTextUptoCard

/-- THE SECOND FORM's CARD OF 'laws.FnExactReadHex'. -/
def fnExactReadHexUptoCard : Claim7 := { stood := { row := fnExactReadHexUptoRow, standIns := [], harness := (true, "9d95872685d8be2e27c7d2c9d1d5e6431acfa07c356bf5b8b85c5b09e63f5ab6"), looks := false }, kinds := [], alts := [], laidByText := true, laidKinds := [.data], laidTests := true, laidLooks := .later }
def FnExactReadHexUptoCardSaid : Prop := Claim7.holds Tryd.pinned (.plain (OpenSpec.upto fnExactReadHexSpec)) fnExactReadHexUptoCard

/-- THE SECOND FORM's CARD OF 'laws.FnChunks'. -/
def fnChunksUptoCard : Claim7 := { stood := { row := fnChunksUptoRow, standIns := [], harness := (true, "9d95872685d8be2e27c7d2c9d1d5e6431acfa07c356bf5b8b85c5b09e63f5ab6"), looks := false }, kinds := [], alts := [], laidByText := true, laidKinds := [.data, .data, .data, .data], laidTests := true, laidLooks := .later }
def FnChunksUptoCardSaid : Prop := Claim7.holds Tryd.pinned (.plain (OpenSpec.upto fnChunksSpec)) fnChunksUptoCard

/-- THE SECOND FORM's CARD OF 'laws.FnFed'. -/
def fnFedUptoCard : Claim7 := { stood := { row := fnFedUptoRow, standIns := [], harness := (true, "9d95872685d8be2e27c7d2c9d1d5e6431acfa07c356bf5b8b85c5b09e63f5ab6"), looks := false }, kinds := [], alts := [], laidByText := true, laidKinds := [.data], laidTests := true, laidLooks := .later }
def FnFedUptoCardSaid : Prop := Claim7.holds Tryd.pinned (.plain (OpenSpec.upto fnFedSpec)) fnFedUptoCard
end Rows
end Go.Proofs.YtimfcbjgoilnpaaDoor
