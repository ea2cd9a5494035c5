/-
  DERIVED. GIVEN WITH THE SEED: THE CARDS: each row of YtbddjejpacaglaaDoorRows.lean that lists a variable, with what it lists TIED to the program's text (the seventh form; the later family's looks); each row that meets fmt, with fmt's text TOLD by the authors' own Lean function (tested against real Go, not proved from fmt's source: count such statements apart). THE CARD IS WHAT COUNTS. Prove the row's statement (the work); the ties are given (YtbddjejpacaglaaDoorTie.lean); close each card by the builder's one call (the guide's Derived/Test/ToyasCard.lean, 'card_holds'). Laid BY PROGRAM, IN A SANDBOX (cutbox-door.mjs). By AI agents, Wed Nov 11 2026. No macro, syntax, notation, axiom, sorry.
-/
import Derived.Test.YtbddjejpacaglaaDoorRows
import GoSem.ClaimSeven
namespace Go.Proofs.YtbddjejpacaglaaDoor
namespace Rows

/-- THE TIED CARD OF 'laws.FnExactIsValueProgram'. -/
def fnExactIsValueProgramCard : Claim7 := { stood := { row := fnExactIsValueProgramRow, standIns := [], harness := (true, "e5c7cde6068370ada6fea02fe00a47e586ac55c9fb78252a331913fd2f2a431b"), looks := false }, kinds := [], alts := [], laidByText := true, laidKinds := [.data, .data, .data], laidTests := true, laidLooks := .later }
def FnExactIsValueProgramCardSaid : Prop := Claim7.holds Tryd.pinned (.plain (OpenSpec.ofChange fnExactIsValueProgramSpec)) fnExactIsValueProgramCard

/-- THE TIED CARD OF 'laws.FnExactNeedsIds'. -/
def fnExactNeedsIdsCard : Claim7 := { stood := { row := fnExactNeedsIdsRow, standIns := [], harness := (true, "e5c7cde6068370ada6fea02fe00a47e586ac55c9fb78252a331913fd2f2a431b"), looks := false }, kinds := [], alts := [], laidByText := true, laidKinds := [.data, .data, .data], laidTests := true, laidLooks := .later }
def FnExactNeedsIdsCardSaid : Prop := Claim7.holds Tryd.pinned (.plain (OpenSpec.ofChange fnExactNeedsIdsSpec)) fnExactNeedsIdsCard

/-- THE TIED CARD OF 'laws.FnExactNeedsRound'. -/
def fnExactNeedsRoundCard : Claim7 := { stood := { row := fnExactNeedsRoundRow, standIns := [], harness := (true, "e5c7cde6068370ada6fea02fe00a47e586ac55c9fb78252a331913fd2f2a431b"), looks := false }, kinds := [], alts := [], laidByText := true, laidKinds := [.data, .data, .data], laidTests := true, laidLooks := .later }
def FnExactNeedsRoundCardSaid : Prop := Claim7.holds Tryd.pinned (.plain (OpenSpec.ofChange fnExactNeedsRoundSpec)) fnExactNeedsRoundCard

/-- THE TIED CARD OF 'laws.FnExactEvalValue'. -/
def fnExactEvalValueCard : Claim7 := { stood := { row := fnExactEvalValueRow, standIns := [], harness := (true, "e5c7cde6068370ada6fea02fe00a47e586ac55c9fb78252a331913fd2f2a431b"), looks := false }, kinds := [], alts := [], laidByText := true, laidKinds := [.data, .data, .data], laidTests := true, laidLooks := .later }
def FnExactEvalValueCardSaid : Prop := Claim7.holds Tryd.pinned (.plain (OpenSpec.ofChange fnExactEvalValueSpec)) fnExactEvalValueCard

/-- THE SECOND FORM's CARD OF 'laws.FnExactIsValueProgram'. -/
def fnExactIsValueProgramUptoCard : Claim7 := { stood := { row := fnExactIsValueProgramUptoRow, standIns := [], harness := (true, "e5c7cde6068370ada6fea02fe00a47e586ac55c9fb78252a331913fd2f2a431b"), looks := false }, kinds := [], alts := [], laidByText := true, laidKinds := [.data, .data, .data], laidTests := true, laidLooks := .later }
def FnExactIsValueProgramUptoCardSaid : Prop := Claim7.holds Tryd.pinned (.plain (OpenSpec.upto fnExactIsValueProgramSpec)) fnExactIsValueProgramUptoCard

/-- THE SECOND FORM's CARD OF 'laws.FnExactNeedsIds'. -/
def fnExactNeedsIdsUptoCard : Claim7 := { stood := { row := fnExactNeedsIdsUptoRow, standIns := [], harness := (true, "e5c7cde6068370ada6fea02fe00a47e586ac55c9fb78252a331913fd2f2a431b"), looks := false }, kinds := [], alts := [], laidByText := true, laidKinds := [.data, .data, .data], laidTests := true, laidLooks := .later }
def FnExactNeedsIdsUptoCardSaid : Prop := Claim7.holds Tryd.pinned (.plain (OpenSpec.upto fnExactNeedsIdsSpec)) fnExactNeedsIdsUptoCard

/-- THE SECOND FORM's CARD OF 'laws.FnExactNeedsRound'. -/
def fnExactNeedsRoundUptoCard : Claim7 := { stood := { row := fnExactNeedsRoundUptoRow, standIns := [], harness := (true, "e5c7cde6068370ada6fea02fe00a47e586ac55c9fb78252a331913fd2f2a431b"), looks := false }, kinds := [], alts := [], laidByText := true, laidKinds := [.data, .data, .data], laidTests := true, laidLooks := .later }
def FnExactNeedsRoundUptoCardSaid : Prop := Claim7.holds Tryd.pinned (.plain (OpenSpec.upto fnExactNeedsRoundSpec)) fnExactNeedsRoundUptoCard

/-- THE SECOND FORM's CARD OF 'laws.FnExactEvalValue'. -/
def fnExactEvalValueUptoCard : Claim7 := { stood := { row := fnExactEvalValueUptoRow, standIns := [], harness := (true, "e5c7cde6068370ada6fea02fe00a47e586ac55c9fb78252a331913fd2f2a431b"), looks := false }, kinds := [], alts := [], laidByText := true, laidKinds := [.data, .data, .data], laidTests := true, laidLooks := .later }
def FnExactEvalValueUptoCardSaid : Prop := Claim7.holds Tryd.pinned (.plain (OpenSpec.upto fnExactEvalValueSpec)) fnExactEvalValueUptoCard
end Rows
end Go.Proofs.YtbddjejpacaglaaDoor
