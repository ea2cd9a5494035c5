/-
  DERIVED. GIVEN WITH THE SEED: THE CARDS: each row of YtbddjejpacaglaaGreatDoorRows.lean that lists a variable, with what it lists TIED to the program's text (the seventh form; the later family's looks); each row that meets fmt, with fmt's text TOLD by the authors' own Lean function (tested against real Go, not proved from fmt's source: count such statements apart). THE CARD IS WHAT COUNTS. Prove the row's statement (the work); the ties are given (YtbddjejpacaglaaGreatDoorTie.lean); close each card by the builder's one call (the guide's Derived/Test/ToyasCard.lean, 'card_holds'). Laid BY PROGRAM, IN A SANDBOX (cutbox-door.mjs). By AI agents, Wed Nov 11 2026. No macro, syntax, notation, axiom, sorry.
-/
import Derived.Test.YtbddjejpacaglaaGreatDoorRows
import GoSem.ClaimSeven
namespace Go.Proofs.YtbddjejpacaglaaGreatDoor
namespace Rows

/-- THE TIED CARD OF 'laws.FnExactStepValues'. -/
def fnExactStepValuesCard : Claim7 := { stood := { row := fnExactStepValuesRow, standIns := [], harness := (true, "4430b5ddef743a69144c8ef42058383815e676e99b60a02d6a539740461428d2"), looks := false }, kinds := [], alts := [], laidByText := true, laidKinds := [.data, .data, .data], laidTests := true, laidLooks := .later }
def FnExactStepValuesCardSaid : Prop := Claim7.holds Tryz.pinned (.plain (OpenSpec.ofChange fnExactStepValuesSpec)) fnExactStepValuesCard

/-- THE TIED CARD OF 'laws.FnExactRunValues'. -/
def fnExactRunValuesCard : Claim7 := { stood := { row := fnExactRunValuesRow, standIns := [], harness := (true, "4430b5ddef743a69144c8ef42058383815e676e99b60a02d6a539740461428d2"), looks := false }, kinds := [], alts := [], laidByText := true, laidKinds := [.data, .data, .data], laidTests := true, laidLooks := .later }
def FnExactRunValuesCardSaid : Prop := Claim7.holds Tryz.pinned (.plain (OpenSpec.ofChange fnExactRunValuesSpec)) fnExactRunValuesCard

/-- THE TIED CARD OF 'laws.FnExactValuesAfter'. -/
def fnExactValuesAfterCard : Claim7 := { stood := { row := fnExactValuesAfterRow, standIns := [], harness := (true, "4430b5ddef743a69144c8ef42058383815e676e99b60a02d6a539740461428d2"), looks := false }, kinds := [], alts := [], laidByText := true, laidKinds := [.data, .data, .data], laidTests := true, laidLooks := .later }
def FnExactValuesAfterCardSaid : Prop := Claim7.holds Tryz.pinned (.plain (OpenSpec.ofChange fnExactValuesAfterSpec)) fnExactValuesAfterCard

/-- THE TIED CARD OF 'laws.FnExactRestRound'. -/
def fnExactRestRoundCard : Claim7 := { stood := { row := fnExactRestRoundRow, standIns := [], harness := (true, "4430b5ddef743a69144c8ef42058383815e676e99b60a02d6a539740461428d2"), looks := false }, kinds := [], alts := [], laidByText := true, laidKinds := [.data, .data, .data], laidTests := true, laidLooks := .later }
def FnExactRestRoundCardSaid : Prop := Claim7.holds Tryz.pinned (.plain (OpenSpec.ofChange fnExactRestRoundSpec)) fnExactRestRoundCard

/-- THE SECOND FORM's CARD OF 'laws.FnExactStepValues'. -/
def fnExactStepValuesUptoCard : Claim7 := { stood := { row := fnExactStepValuesUptoRow, standIns := [], harness := (true, "4430b5ddef743a69144c8ef42058383815e676e99b60a02d6a539740461428d2"), looks := false }, kinds := [], alts := [], laidByText := true, laidKinds := [.data, .data, .data], laidTests := true, laidLooks := .later }
def FnExactStepValuesUptoCardSaid : Prop := Claim7.holds Tryz.pinned (.plain (OpenSpec.upto fnExactStepValuesSpec)) fnExactStepValuesUptoCard

/-- THE SECOND FORM's CARD OF 'laws.FnExactRunValues'. -/
def fnExactRunValuesUptoCard : Claim7 := { stood := { row := fnExactRunValuesUptoRow, standIns := [], harness := (true, "4430b5ddef743a69144c8ef42058383815e676e99b60a02d6a539740461428d2"), looks := false }, kinds := [], alts := [], laidByText := true, laidKinds := [.data, .data, .data], laidTests := true, laidLooks := .later }
def FnExactRunValuesUptoCardSaid : Prop := Claim7.holds Tryz.pinned (.plain (OpenSpec.upto fnExactRunValuesSpec)) fnExactRunValuesUptoCard

/-- THE SECOND FORM's CARD OF 'laws.FnExactValuesAfter'. -/
def fnExactValuesAfterUptoCard : Claim7 := { stood := { row := fnExactValuesAfterUptoRow, standIns := [], harness := (true, "4430b5ddef743a69144c8ef42058383815e676e99b60a02d6a539740461428d2"), looks := false }, kinds := [], alts := [], laidByText := true, laidKinds := [.data, .data, .data], laidTests := true, laidLooks := .later }
def FnExactValuesAfterUptoCardSaid : Prop := Claim7.holds Tryz.pinned (.plain (OpenSpec.upto fnExactValuesAfterSpec)) fnExactValuesAfterUptoCard

/-- THE SECOND FORM's CARD OF 'laws.FnExactRestRound'. -/
def fnExactRestRoundUptoCard : Claim7 := { stood := { row := fnExactRestRoundUptoRow, standIns := [], harness := (true, "4430b5ddef743a69144c8ef42058383815e676e99b60a02d6a539740461428d2"), looks := false }, kinds := [], alts := [], laidByText := true, laidKinds := [.data, .data, .data], laidTests := true, laidLooks := .later }
def FnExactRestRoundUptoCardSaid : Prop := Claim7.holds Tryz.pinned (.plain (OpenSpec.upto fnExactRestRoundSpec)) fnExactRestRoundUptoCard
end Rows
end Go.Proofs.YtbddjejpacaglaaGreatDoor
