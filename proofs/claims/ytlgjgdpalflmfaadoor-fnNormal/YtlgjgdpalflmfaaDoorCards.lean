/-
  DERIVED. GIVEN WITH THE SEED: THE CARDS: each row of YtlgjgdpalflmfaaDoorRows.lean that lists a variable, with what it lists TIED to the program's text (the seventh form; the later family's looks); each row that meets fmt, with fmt's text TOLD by the authors' own Lean function (tested against real Go, not proved from fmt's source: count such statements apart). THE CARD IS WHAT COUNTS. Prove the row's statement (the work); the ties are given (YtlgjgdpalflmfaaDoorTie.lean); close each card by the builder's one call (the guide's Derived/Test/ToyasCard.lean, 'card_holds'). Laid BY PROGRAM, IN A SANDBOX (cutbox-door.mjs). By AI agents, Wed Nov 11 2026. No macro, syntax, notation, axiom, sorry.
-/
import Derived.Test.YtlgjgdpalflmfaaDoorRows
import GoSem.ClaimSeven
namespace Go.Proofs.YtlgjgdpalflmfaaDoor
namespace Rows

/-- THE TIED CARD OF 'laws.FnUrls'. -/
def fnUrlsCard : Claim7 := { stood := { row := fnUrlsRow, standIns := [], harness := (true, "4105aef61c6df917098439654d4b538e2957eda322e3239005822ebe972abe4b"), looks := true }, kinds := [], alts := [], laidByText := true, laidKinds := [.data, .data, .data, .sentinel, .sentinel, .data], laidTests := true, laidLooks := .later }
def FnUrlsCardSaid : Prop := Claim7.holds Tryd.pinned (.plain (OpenSpec.ofChange fnUrlsSpec)) fnUrlsCard

/-- THE TIED CARD OF 'laws.FnNormal'. -/
def fnNormalCard : Claim7 := { stood := { row := fnNormalRow, standIns := [], harness := (true, "4105aef61c6df917098439654d4b538e2957eda322e3239005822ebe972abe4b"), looks := true }, kinds := [], alts := [], laidByText := true, laidKinds := [.data, .data, .data, .data, .data, .pinned], laidTests := true, laidLooks := .later }
def FnNormalCardSaid : Prop := Claim7.holds Tryd.pinned (.plain (OpenSpec.ofChange fnNormalSpec)) fnNormalCard

/-- THE TIED CARD OF 'laws.FnExactGoodUrl'. -/
def fnExactGoodUrlCard : Claim7 := { stood := { row := fnExactGoodUrlRow, standIns := [], harness := (true, "4105aef61c6df917098439654d4b538e2957eda322e3239005822ebe972abe4b"), looks := true }, kinds := [], alts := [], laidByText := true, laidKinds := [.data, .data, .data, .data], laidTests := true, laidLooks := .later }
def FnExactGoodUrlCardSaid : Prop := Claim7.holds Tryd.pinned (.plain (OpenSpec.ofChange fnExactGoodUrlSpec)) fnExactGoodUrlCard

/-- THE TIED CARD OF 'laws.FnExactUrlText'. -/
def fnExactUrlTextCard : Claim7 := { stood := { row := fnExactUrlTextRow, standIns := [], harness := (true, "4105aef61c6df917098439654d4b538e2957eda322e3239005822ebe972abe4b"), looks := true }, kinds := [], alts := [], laidByText := true, laidKinds := [.data, .data, .data, .data], laidTests := true, laidLooks := .later }
def FnExactUrlTextCardSaid : Prop := Claim7.holds Tryd.pinned (.plain (OpenSpec.ofChange fnExactUrlTextSpec)) fnExactUrlTextCard

/-- THE TIED CARD OF 'laws.FnExactReadUrl'. -/
def fnExactReadUrlCard : Claim7 := { stood := { row := fnExactReadUrlRow, standIns := [], harness := (true, "4105aef61c6df917098439654d4b538e2957eda322e3239005822ebe972abe4b"), looks := true }, kinds := [], alts := [], laidByText := true, laidKinds := [.data, .data, .data, .sentinel, .sentinel, .data], laidTests := true, laidLooks := .later }
def FnExactReadUrlCardSaid : Prop := Claim7.holds Tryd.pinned (.plain (OpenSpec.ofChange fnExactReadUrlSpec)) fnExactReadUrlCard

/-- THE TIED CARD OF 'laws.FnExactNormalUrl'. -/
def fnExactNormalUrlCard : Claim7 := { stood := { row := fnExactNormalUrlRow, standIns := [], harness := (true, "4105aef61c6df917098439654d4b538e2957eda322e3239005822ebe972abe4b"), looks := true }, kinds := [], alts := [], laidByText := true, laidKinds := [.data, .data, .data, .data, .data, .pinned], laidTests := true, laidLooks := .later }
def FnExactNormalUrlCardSaid : Prop := Claim7.holds Tryd.pinned (.plain (OpenSpec.ofChange fnExactNormalUrlSpec)) fnExactNormalUrlCard

/-- THE TIED CARD OF 'laws.FnExactDropDots'. -/
def fnExactDropDotsCard : Claim7 := { stood := { row := fnExactDropDotsRow, standIns := [], harness := (true, "4105aef61c6df917098439654d4b538e2957eda322e3239005822ebe972abe4b"), looks := true }, kinds := [], alts := [], laidByText := true, laidKinds := [.data, .pinned], laidTests := true, laidLooks := .later }
def FnExactDropDotsCardSaid : Prop := Claim7.holds Tryd.pinned (.plain (OpenSpec.ofChange fnExactDropDotsSpec)) fnExactDropDotsCard

/-- THE TIED CARD OF 'laws.FnExactResolveUrl'. -/
def fnExactResolveUrlCard : Claim7 := { stood := { row := fnExactResolveUrlRow, standIns := [], harness := (true, "4105aef61c6df917098439654d4b538e2957eda322e3239005822ebe972abe4b"), looks := true }, kinds := [], alts := [], laidByText := true, laidKinds := [.data, .data, .data, .data, .sentinel, .sentinel, .data, .pinned], laidTests := true, laidLooks := .later }
def FnExactResolveUrlCardSaid : Prop := Claim7.holds Tryd.pinned (.plain (OpenSpec.ofChange fnExactResolveUrlSpec)) fnExactResolveUrlCard

/-- THE TIED CARD OF 'laws.FnExactPercentEncode'. -/
def fnExactPercentEncodeCard : Claim7 := { stood := { row := fnExactPercentEncodeRow, standIns := [], harness := (true, "4105aef61c6df917098439654d4b538e2957eda322e3239005822ebe972abe4b"), looks := true }, kinds := [], alts := [], laidByText := true, laidKinds := [.data], laidTests := true, laidLooks := .later }
def FnExactPercentEncodeCardSaid : Prop := Claim7.holds Tryd.pinned (.plain (OpenSpec.ofChange fnExactPercentEncodeSpec)) fnExactPercentEncodeCard

/-- THE TIED CARD OF 'laws.FnExactPercentDecode'. -/
def fnExactPercentDecodeCard : Claim7 := { stood := { row := fnExactPercentDecodeRow, standIns := [], harness := (true, "4105aef61c6df917098439654d4b538e2957eda322e3239005822ebe972abe4b"), looks := true }, kinds := [], alts := [], laidByText := true, laidKinds := [.data], laidTests := true, laidLooks := .later }
def FnExactPercentDecodeCardSaid : Prop := Claim7.holds Tryd.pinned (.plain (OpenSpec.ofChange fnExactPercentDecodeSpec)) fnExactPercentDecodeCard

/-- THE TIED CARD OF 'laws.FnExactSameUrl'. -/
def fnExactSameUrlCard : Claim7 := { stood := { row := fnExactSameUrlRow, standIns := [], harness := (true, "4105aef61c6df917098439654d4b538e2957eda322e3239005822ebe972abe4b"), looks := true }, kinds := [], alts := [], laidByText := true, laidKinds := [.data, .data, .data, .data, .data, .pinned], laidTests := true, laidLooks := .later }
def FnExactSameUrlCardSaid : Prop := Claim7.holds Tryd.pinned (.plain (OpenSpec.ofChange fnExactSameUrlSpec)) fnExactSameUrlCard

/-- THE SECOND FORM's CARD OF 'laws.FnUrls'. -/
def fnUrlsUptoCard : Claim7 := { stood := { row := fnUrlsUptoRow, standIns := [], harness := (true, "4105aef61c6df917098439654d4b538e2957eda322e3239005822ebe972abe4b"), looks := true }, kinds := [], alts := [], laidByText := true, laidKinds := [.data, .data, .data, .sentinel, .sentinel, .data], laidTests := true, laidLooks := .later }
def FnUrlsUptoCardSaid : Prop := Claim7.holds Tryd.pinned (.plain (OpenSpec.upto fnUrlsSpec)) fnUrlsUptoCard

/-- THE SECOND FORM's CARD OF 'laws.FnNormal'. -/
def fnNormalUptoCard : Claim7 := { stood := { row := fnNormalUptoRow, standIns := [], harness := (true, "4105aef61c6df917098439654d4b538e2957eda322e3239005822ebe972abe4b"), looks := true }, kinds := [], alts := [], laidByText := true, laidKinds := [.data, .data, .data, .data, .data, .pinned], laidTests := true, laidLooks := .later }
def FnNormalUptoCardSaid : Prop := Claim7.holds Tryd.pinned (.plain (OpenSpec.upto fnNormalSpec)) fnNormalUptoCard

/-- THE SECOND FORM's CARD OF 'laws.FnExactGoodUrl'. -/
def fnExactGoodUrlUptoCard : Claim7 := { stood := { row := fnExactGoodUrlUptoRow, standIns := [], harness := (true, "4105aef61c6df917098439654d4b538e2957eda322e3239005822ebe972abe4b"), looks := true }, kinds := [], alts := [], laidByText := true, laidKinds := [.data, .data, .data, .data], laidTests := true, laidLooks := .later }
def FnExactGoodUrlUptoCardSaid : Prop := Claim7.holds Tryd.pinned (.plain (OpenSpec.upto fnExactGoodUrlSpec)) fnExactGoodUrlUptoCard

/-- THE SECOND FORM's CARD OF 'laws.FnExactUrlText'. -/
def fnExactUrlTextUptoCard : Claim7 := { stood := { row := fnExactUrlTextUptoRow, standIns := [], harness := (true, "4105aef61c6df917098439654d4b538e2957eda322e3239005822ebe972abe4b"), looks := true }, kinds := [], alts := [], laidByText := true, laidKinds := [.data, .data, .data, .data], laidTests := true, laidLooks := .later }
def FnExactUrlTextUptoCardSaid : Prop := Claim7.holds Tryd.pinned (.plain (OpenSpec.upto fnExactUrlTextSpec)) fnExactUrlTextUptoCard

/-- THE SECOND FORM's CARD OF 'laws.FnExactReadUrl'. -/
def fnExactReadUrlUptoCard : Claim7 := { stood := { row := fnExactReadUrlUptoRow, standIns := [], harness := (true, "4105aef61c6df917098439654d4b538e2957eda322e3239005822ebe972abe4b"), looks := true }, kinds := [], alts := [], laidByText := true, laidKinds := [.data, .data, .data, .sentinel, .sentinel, .data], laidTests := true, laidLooks := .later }
def FnExactReadUrlUptoCardSaid : Prop := Claim7.holds Tryd.pinned (.plain (OpenSpec.upto fnExactReadUrlSpec)) fnExactReadUrlUptoCard

/-- THE SECOND FORM's CARD OF 'laws.FnExactNormalUrl'. -/
def fnExactNormalUrlUptoCard : Claim7 := { stood := { row := fnExactNormalUrlUptoRow, standIns := [], harness := (true, "4105aef61c6df917098439654d4b538e2957eda322e3239005822ebe972abe4b"), looks := true }, kinds := [], alts := [], laidByText := true, laidKinds := [.data, .data, .data, .data, .data, .pinned], laidTests := true, laidLooks := .later }
def FnExactNormalUrlUptoCardSaid : Prop := Claim7.holds Tryd.pinned (.plain (OpenSpec.upto fnExactNormalUrlSpec)) fnExactNormalUrlUptoCard

/-- THE SECOND FORM's CARD OF 'laws.FnExactDropDots'. -/
def fnExactDropDotsUptoCard : Claim7 := { stood := { row := fnExactDropDotsUptoRow, standIns := [], harness := (true, "4105aef61c6df917098439654d4b538e2957eda322e3239005822ebe972abe4b"), looks := true }, kinds := [], alts := [], laidByText := true, laidKinds := [.data, .pinned], laidTests := true, laidLooks := .later }
def FnExactDropDotsUptoCardSaid : Prop := Claim7.holds Tryd.pinned (.plain (OpenSpec.upto fnExactDropDotsSpec)) fnExactDropDotsUptoCard

/-- THE SECOND FORM's CARD OF 'laws.FnExactResolveUrl'. -/
def fnExactResolveUrlUptoCard : Claim7 := { stood := { row := fnExactResolveUrlUptoRow, standIns := [], harness := (true, "4105aef61c6df917098439654d4b538e2957eda322e3239005822ebe972abe4b"), looks := true }, kinds := [], alts := [], laidByText := true, laidKinds := [.data, .data, .data, .data, .sentinel, .sentinel, .data, .pinned], laidTests := true, laidLooks := .later }
def FnExactResolveUrlUptoCardSaid : Prop := Claim7.holds Tryd.pinned (.plain (OpenSpec.upto fnExactResolveUrlSpec)) fnExactResolveUrlUptoCard

/-- THE SECOND FORM's CARD OF 'laws.FnExactPercentEncode'. -/
def fnExactPercentEncodeUptoCard : Claim7 := { stood := { row := fnExactPercentEncodeUptoRow, standIns := [], harness := (true, "4105aef61c6df917098439654d4b538e2957eda322e3239005822ebe972abe4b"), looks := true }, kinds := [], alts := [], laidByText := true, laidKinds := [.data], laidTests := true, laidLooks := .later }
def FnExactPercentEncodeUptoCardSaid : Prop := Claim7.holds Tryd.pinned (.plain (OpenSpec.upto fnExactPercentEncodeSpec)) fnExactPercentEncodeUptoCard

/-- THE SECOND FORM's CARD OF 'laws.FnExactPercentDecode'. -/
def fnExactPercentDecodeUptoCard : Claim7 := { stood := { row := fnExactPercentDecodeUptoRow, standIns := [], harness := (true, "4105aef61c6df917098439654d4b538e2957eda322e3239005822ebe972abe4b"), looks := true }, kinds := [], alts := [], laidByText := true, laidKinds := [.data], laidTests := true, laidLooks := .later }
def FnExactPercentDecodeUptoCardSaid : Prop := Claim7.holds Tryd.pinned (.plain (OpenSpec.upto fnExactPercentDecodeSpec)) fnExactPercentDecodeUptoCard

/-- THE SECOND FORM's CARD OF 'laws.FnExactSameUrl'. -/
def fnExactSameUrlUptoCard : Claim7 := { stood := { row := fnExactSameUrlUptoRow, standIns := [], harness := (true, "4105aef61c6df917098439654d4b538e2957eda322e3239005822ebe972abe4b"), looks := true }, kinds := [], alts := [], laidByText := true, laidKinds := [.data, .data, .data, .data, .data, .pinned], laidTests := true, laidLooks := .later }
def FnExactSameUrlUptoCardSaid : Prop := Claim7.holds Tryd.pinned (.plain (OpenSpec.upto fnExactSameUrlSpec)) fnExactSameUrlUptoCard
end Rows
end Go.Proofs.YtlgjgdpalflmfaaDoor
