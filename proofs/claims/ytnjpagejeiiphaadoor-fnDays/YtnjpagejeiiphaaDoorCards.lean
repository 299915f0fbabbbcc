/-
  DERIVED. GIVEN WITH THE SEED: THE CARDS: each row of YtnjpagejeiiphaaDoorRows.lean that lists a variable, with what it lists TIED to the program's text (the seventh form; the later family's looks); each row that meets fmt, with fmt's text TOLD by the authors' own Lean function (tested against real Go, not proved from fmt's source: count such statements apart). THE CARD IS WHAT COUNTS. Prove the row's statement (the work); the ties are given (YtnjpagejeiiphaaDoorTie.lean); close each card by the builder's one call (the guide's Derived/Test/ToyasCard.lean, 'card_holds'). Laid BY PROGRAM, IN A SANDBOX (cutbox-door.mjs). By AI agents, Wed Nov 11 2026. No macro, syntax, notation, axiom, sorry.
-/
import Derived.Test.YtnjpagejeiiphaaDoorRows
import GoSem.ClaimSeven
namespace Go.Proofs.YtnjpagejeiiphaaDoor
namespace Rows

/-- THE TIED CARD OF 'laws.FnDays'. -/
def fnDaysCard : Claim7 := { stood := { row := fnDaysRow, standIns := [], harness := (true, "670fafe8355f6576325547e0125190534fe5ec2729de085342bf3307c42bca80"), looks := false }, kinds := [], alts := [], laidByText := true, laidKinds := [.data], laidTests := true, laidLooks := .later }
def FnDaysCardSaid : Prop := Claim7.holds Tryd.pinned (.plain (OpenSpec.ofChange fnDaysSpec)) fnDaysCard

/-- THE TIED CARD OF 'laws.FnExactGoodDate'. -/
def fnExactGoodDateCard : Claim7 := { stood := { row := fnExactGoodDateRow, standIns := [], harness := (true, "670fafe8355f6576325547e0125190534fe5ec2729de085342bf3307c42bca80"), looks := false }, kinds := [], alts := [], laidByText := true, laidKinds := [.data], laidTests := true, laidLooks := .later }
def FnExactGoodDateCardSaid : Prop := Claim7.holds Tryd.pinned (.plain (OpenSpec.ofChange fnExactGoodDateSpec)) fnExactGoodDateCard

/-- THE TIED CARD OF 'laws.FnExactDaysOf'. -/
def fnExactDaysOfCard : Claim7 := { stood := { row := fnExactDaysOfRow, standIns := [], harness := (true, "670fafe8355f6576325547e0125190534fe5ec2729de085342bf3307c42bca80"), looks := false }, kinds := [], alts := [], laidByText := true, laidKinds := [.data], laidTests := true, laidLooks := .later }
def FnExactDaysOfCardSaid : Prop := Claim7.holds Tryd.pinned (.plain (OpenSpec.ofChange fnExactDaysOfSpec)) fnExactDaysOfCard

/-- THE TIED CARD OF 'laws.FnExactSecondsOf'. -/
def fnExactSecondsOfCard : Claim7 := { stood := { row := fnExactSecondsOfRow, standIns := [], harness := (true, "670fafe8355f6576325547e0125190534fe5ec2729de085342bf3307c42bca80"), looks := false }, kinds := [], alts := [], laidByText := true, laidKinds := [.data], laidTests := true, laidLooks := .later }
def FnExactSecondsOfCardSaid : Prop := Claim7.holds Tryd.pinned (.plain (OpenSpec.ofChange fnExactSecondsOfSpec)) fnExactSecondsOfCard

/-- THE TIED CARD OF 'laws.FnExactDateAt'. -/
def fnExactDateAtCard : Claim7 := { stood := { row := fnExactDateAtRow, standIns := [], harness := (true, "670fafe8355f6576325547e0125190534fe5ec2729de085342bf3307c42bca80"), looks := false }, kinds := [], alts := [], laidByText := true, laidKinds := [.data], laidTests := true, laidLooks := .later }
def FnExactDateAtCardSaid : Prop := Claim7.holds Tryd.pinned (.plain (OpenSpec.ofChange fnExactDateAtSpec)) fnExactDateAtCard

/-- THE TIED CARD OF 'laws.FnExactDateText'. -/
def fnExactDateTextCard : Claim7 := { stood := { row := fnExactDateTextRow, standIns := [], harness := (true, "670fafe8355f6576325547e0125190534fe5ec2729de085342bf3307c42bca80"), looks := false }, kinds := [], alts := [], laidByText := true, laidKinds := [.data, .data, .data, .data, .data, .data], laidTests := true, laidLooks := .later }
def FnExactDateTextCardSaid : Prop := Claim7.holds Tryd.pinned (.plain (OpenSpec.ofChange fnExactDateTextSpec)) fnExactDateTextCard

/-- THE SECOND FORM's CARD OF 'laws.FnDays'. -/
def fnDaysUptoCard : Claim7 := { stood := { row := fnDaysUptoRow, standIns := [], harness := (true, "670fafe8355f6576325547e0125190534fe5ec2729de085342bf3307c42bca80"), looks := false }, kinds := [], alts := [], laidByText := true, laidKinds := [.data], laidTests := true, laidLooks := .later }
def FnDaysUptoCardSaid : Prop := Claim7.holds Tryd.pinned (.plain (OpenSpec.upto fnDaysSpec)) fnDaysUptoCard

/-- THE SECOND FORM's CARD OF 'laws.FnExactGoodDate'. -/
def fnExactGoodDateUptoCard : Claim7 := { stood := { row := fnExactGoodDateUptoRow, standIns := [], harness := (true, "670fafe8355f6576325547e0125190534fe5ec2729de085342bf3307c42bca80"), looks := false }, kinds := [], alts := [], laidByText := true, laidKinds := [.data], laidTests := true, laidLooks := .later }
def FnExactGoodDateUptoCardSaid : Prop := Claim7.holds Tryd.pinned (.plain (OpenSpec.upto fnExactGoodDateSpec)) fnExactGoodDateUptoCard

/-- THE SECOND FORM's CARD OF 'laws.FnExactDaysOf'. -/
def fnExactDaysOfUptoCard : Claim7 := { stood := { row := fnExactDaysOfUptoRow, standIns := [], harness := (true, "670fafe8355f6576325547e0125190534fe5ec2729de085342bf3307c42bca80"), looks := false }, kinds := [], alts := [], laidByText := true, laidKinds := [.data], laidTests := true, laidLooks := .later }
def FnExactDaysOfUptoCardSaid : Prop := Claim7.holds Tryd.pinned (.plain (OpenSpec.upto fnExactDaysOfSpec)) fnExactDaysOfUptoCard

/-- THE SECOND FORM's CARD OF 'laws.FnExactSecondsOf'. -/
def fnExactSecondsOfUptoCard : Claim7 := { stood := { row := fnExactSecondsOfUptoRow, standIns := [], harness := (true, "670fafe8355f6576325547e0125190534fe5ec2729de085342bf3307c42bca80"), looks := false }, kinds := [], alts := [], laidByText := true, laidKinds := [.data], laidTests := true, laidLooks := .later }
def FnExactSecondsOfUptoCardSaid : Prop := Claim7.holds Tryd.pinned (.plain (OpenSpec.upto fnExactSecondsOfSpec)) fnExactSecondsOfUptoCard

/-- THE SECOND FORM's CARD OF 'laws.FnExactDateAt'. -/
def fnExactDateAtUptoCard : Claim7 := { stood := { row := fnExactDateAtUptoRow, standIns := [], harness := (true, "670fafe8355f6576325547e0125190534fe5ec2729de085342bf3307c42bca80"), looks := false }, kinds := [], alts := [], laidByText := true, laidKinds := [.data], laidTests := true, laidLooks := .later }
def FnExactDateAtUptoCardSaid : Prop := Claim7.holds Tryd.pinned (.plain (OpenSpec.upto fnExactDateAtSpec)) fnExactDateAtUptoCard

/-- THE SECOND FORM's CARD OF 'laws.FnExactDateText'. -/
def fnExactDateTextUptoCard : Claim7 := { stood := { row := fnExactDateTextUptoRow, standIns := [], harness := (true, "670fafe8355f6576325547e0125190534fe5ec2729de085342bf3307c42bca80"), looks := false }, kinds := [], alts := [], laidByText := true, laidKinds := [.data, .data, .data, .data, .data, .data], laidTests := true, laidLooks := .later }
def FnExactDateTextUptoCardSaid : Prop := Claim7.holds Tryd.pinned (.plain (OpenSpec.upto fnExactDateTextSpec)) fnExactDateTextUptoCard
end Rows
end Go.Proofs.YtnjpagejeiiphaaDoor
