/-
  DERIVED. GIVEN WITH THE SEED: THE CARDS: each row of YtfgcgnhffljiaaaGreatDoorRows.lean that lists a variable, with what it lists TIED to the program's text (the seventh form; the later family's looks); each row that meets fmt, with fmt's text TOLD by the authors' own Lean function (tested against real Go, not proved from fmt's source: count such statements apart). THE CARD IS WHAT COUNTS. Prove the row's statement (the work); the ties are given (YtfgcgnhffljiaaaGreatDoorTie.lean); close each card by the builder's one call (the guide's Derived/Test/ToyasCard.lean, 'card_holds'). Laid BY PROGRAM, IN A SANDBOX (cutbox-door.mjs). By AI agents, Wed Nov 11 2026. No macro, syntax, notation, axiom, sorry.
-/
import Derived.Test.YtfgcgnhffljiaaaGreatDoorRows
import GoSem.ClaimSeven
namespace Go.Proofs.YtfgcgnhffljiaaaGreatDoor
namespace Rows

/-- THE TIED CARD OF 'laws.FnExactVaryOf'. -/
def fnExactVaryOfCard : Claim7 := { stood := { row := fnExactVaryOfRow, standIns := [], harness := (true, "18f1c84bb071703e2c43f3981c18906a52b044883d92f2ce9d66852bbda66e4e"), looks := true }, kinds := [], alts := [], laidByText := true, laidKinds := [.data, .data, .data, .data, .data, .sentinel, .pinned], laidTests := true, laidLooks := .later }
def FnExactVaryOfCardSaid : Prop := Claim7.holds Tryz.pinned (.plain (OpenSpec.ofChange fnExactVaryOfSpec)) fnExactVaryOfCard

/-- THE TIED CARD OF 'laws.FnExactMatches'. -/
def fnExactMatchesCard : Claim7 := { stood := { row := fnExactMatchesRow, standIns := [], harness := (true, "18f1c84bb071703e2c43f3981c18906a52b044883d92f2ce9d66852bbda66e4e"), looks := true }, kinds := [], alts := [], laidByText := true, laidKinds := [.data, .data, .data, .data, .data, .sentinel, .pinned], laidTests := true, laidLooks := .later }
def FnExactMatchesCardSaid : Prop := Claim7.holds Tryz.pinned (.plain (OpenSpec.ofChange fnExactMatchesSpec)) fnExactMatchesCard

/-- THE TIED CARD OF 'laws.FnExactPickItem'. -/
def fnExactPickItemCard : Claim7 := { stood := { row := fnExactPickItemRow, standIns := [], harness := (true, "18f1c84bb071703e2c43f3981c18906a52b044883d92f2ce9d66852bbda66e4e"), looks := true }, kinds := [], alts := [], laidByText := true, laidKinds := [.data, .data, .data, .data, .data, .sentinel, .pinned], laidTests := true, laidLooks := .later }
def FnExactPickItemCardSaid : Prop := Claim7.holds Tryz.pinned (.plain (OpenSpec.ofChange fnExactPickItemSpec)) fnExactPickItemCard

/-- THE TIED CARD OF 'laws.FnExactPutItem'. -/
def fnExactPutItemCard : Claim7 := { stood := { row := fnExactPutItemRow, standIns := [], harness := (true, "18f1c84bb071703e2c43f3981c18906a52b044883d92f2ce9d66852bbda66e4e"), looks := true }, kinds := [], alts := [], laidByText := true, laidKinds := [.data, .data, .data, .data, .data, .sentinel, .pinned], laidTests := true, laidLooks := .later }
def FnExactPutItemCardSaid : Prop := Claim7.holds Tryz.pinned (.plain (OpenSpec.ofChange fnExactPutItemSpec)) fnExactPutItemCard

/-- THE TIED CARD OF 'laws.FnExactForget'. -/
def fnExactForgetCard : Claim7 := { stood := { row := fnExactForgetRow, standIns := [], harness := (true, "18f1c84bb071703e2c43f3981c18906a52b044883d92f2ce9d66852bbda66e4e"), looks := true }, kinds := [], alts := [], laidByText := true, laidKinds := [.data, .data, .data, .data, .data, .sentinel, .pinned], laidTests := true, laidLooks := .later }
def FnExactForgetCardSaid : Prop := Claim7.holds Tryz.pinned (.plain (OpenSpec.ofChange fnExactForgetSpec)) fnExactForgetCard

/-- THE SECOND FORM's CARD OF 'laws.FnExactVaryOf'. -/
def fnExactVaryOfUptoCard : Claim7 := { stood := { row := fnExactVaryOfUptoRow, standIns := [], harness := (true, "18f1c84bb071703e2c43f3981c18906a52b044883d92f2ce9d66852bbda66e4e"), looks := true }, kinds := [], alts := [], laidByText := true, laidKinds := [.data, .data, .data, .data, .data, .sentinel, .pinned], laidTests := true, laidLooks := .later }
def FnExactVaryOfUptoCardSaid : Prop := Claim7.holds Tryz.pinned (.plain (OpenSpec.upto fnExactVaryOfSpec)) fnExactVaryOfUptoCard

/-- THE SECOND FORM's CARD OF 'laws.FnExactMatches'. -/
def fnExactMatchesUptoCard : Claim7 := { stood := { row := fnExactMatchesUptoRow, standIns := [], harness := (true, "18f1c84bb071703e2c43f3981c18906a52b044883d92f2ce9d66852bbda66e4e"), looks := true }, kinds := [], alts := [], laidByText := true, laidKinds := [.data, .data, .data, .data, .data, .sentinel, .pinned], laidTests := true, laidLooks := .later }
def FnExactMatchesUptoCardSaid : Prop := Claim7.holds Tryz.pinned (.plain (OpenSpec.upto fnExactMatchesSpec)) fnExactMatchesUptoCard

/-- THE SECOND FORM's CARD OF 'laws.FnExactPickItem'. -/
def fnExactPickItemUptoCard : Claim7 := { stood := { row := fnExactPickItemUptoRow, standIns := [], harness := (true, "18f1c84bb071703e2c43f3981c18906a52b044883d92f2ce9d66852bbda66e4e"), looks := true }, kinds := [], alts := [], laidByText := true, laidKinds := [.data, .data, .data, .data, .data, .sentinel, .pinned], laidTests := true, laidLooks := .later }
def FnExactPickItemUptoCardSaid : Prop := Claim7.holds Tryz.pinned (.plain (OpenSpec.upto fnExactPickItemSpec)) fnExactPickItemUptoCard

/-- THE SECOND FORM's CARD OF 'laws.FnExactPutItem'. -/
def fnExactPutItemUptoCard : Claim7 := { stood := { row := fnExactPutItemUptoRow, standIns := [], harness := (true, "18f1c84bb071703e2c43f3981c18906a52b044883d92f2ce9d66852bbda66e4e"), looks := true }, kinds := [], alts := [], laidByText := true, laidKinds := [.data, .data, .data, .data, .data, .sentinel, .pinned], laidTests := true, laidLooks := .later }
def FnExactPutItemUptoCardSaid : Prop := Claim7.holds Tryz.pinned (.plain (OpenSpec.upto fnExactPutItemSpec)) fnExactPutItemUptoCard

/-- THE SECOND FORM's CARD OF 'laws.FnExactForget'. -/
def fnExactForgetUptoCard : Claim7 := { stood := { row := fnExactForgetUptoRow, standIns := [], harness := (true, "18f1c84bb071703e2c43f3981c18906a52b044883d92f2ce9d66852bbda66e4e"), looks := true }, kinds := [], alts := [], laidByText := true, laidKinds := [.data, .data, .data, .data, .data, .sentinel, .pinned], laidTests := true, laidLooks := .later }
def FnExactForgetUptoCardSaid : Prop := Claim7.holds Tryz.pinned (.plain (OpenSpec.upto fnExactForgetSpec)) fnExactForgetUptoCard
end Rows
end Go.Proofs.YtfgcgnhffljiaaaGreatDoor
