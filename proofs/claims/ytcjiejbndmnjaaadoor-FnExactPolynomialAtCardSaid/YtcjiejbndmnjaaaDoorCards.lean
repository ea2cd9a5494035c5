/-
  DERIVED. GIVEN WITH THE SEED: THE CARDS: each row of YtcjiejbndmnjaaaDoorRows.lean that lists a variable, with what it lists TIED to the program's text (the seventh form; the later family's looks); each row that meets fmt, with fmt's text TOLD by the authors' own Lean function (tested against real Go, not proved from fmt's source: count such statements apart). THE CARD IS WHAT COUNTS. Prove the row's statement (the work); the ties are given (YtcjiejbndmnjaaaDoorTie.lean); close each card by the builder's one call (the guide's Derived/Test/ToyasCard.lean, 'card_holds'). Laid BY PROGRAM, IN A SANDBOX (cutbox-door.mjs). By AI agents, Wed Nov 11 2026. No macro, syntax, notation, axiom, sorry.
-/
import Derived.Test.YtcjiejbndmnjaaaDoorRows
import GoSem.ClaimSeven
namespace Go.Proofs.YtcjiejbndmnjaaaDoor
namespace Rows

/-- THE TIED CARD OF 'laws.FnExactFirstDifferentBit'. -/
def fnExactFirstDifferentBitCard : Claim7 := { stood := { row := fnExactFirstDifferentBitRow, standIns := [], harness := (true, "f1d047fbf6ea846f9aa53b6b2e7067dcdce4af5c88397f79beca5c947e47aa4c"), looks := false }, kinds := [], alts := [], laidByText := true, laidKinds := [.data, .data], laidTests := true, laidLooks := .later }
def FnExactFirstDifferentBitCardSaid : Prop := Claim7.holds Tryd.pinned (.plain (OpenSpec.ofChange fnExactFirstDifferentBitSpec)) fnExactFirstDifferentBitCard

/-- THE TIED CARD OF 'laws.FnExactIsPrime'. -/
def fnExactIsPrimeCard : Claim7 := { stood := { row := fnExactIsPrimeRow, standIns := [], harness := (true, "f1d047fbf6ea846f9aa53b6b2e7067dcdce4af5c88397f79beca5c947e47aa4c"), looks := false }, kinds := [], alts := [], laidByText := true, laidKinds := [.data], laidTests := true, laidLooks := .later }
def FnExactIsPrimeCardSaid : Prop := Claim7.holds Tryd.pinned (.plain (OpenSpec.ofChange fnExactIsPrimeSpec)) fnExactIsPrimeCard

/-- THE TIED CARD OF 'laws.FnExactNextPrime'. -/
def fnExactNextPrimeCard : Claim7 := { stood := { row := fnExactNextPrimeRow, standIns := [], harness := (true, "f1d047fbf6ea846f9aa53b6b2e7067dcdce4af5c88397f79beca5c947e47aa4c"), looks := false }, kinds := [], alts := [], laidByText := true, laidKinds := [.data], laidTests := true, laidLooks := .later }
def FnExactNextPrimeCardSaid : Prop := Claim7.holds Tryd.pinned (.plain (OpenSpec.ofChange fnExactNextPrimeSpec)) fnExactNextPrimeCard

/-- THE TIED CARD OF 'laws.FnExactPolynomialAt'. -/
def fnExactPolynomialAtCard : Claim7 := { stood := { row := fnExactPolynomialAtRow, standIns := [], harness := (true, "f1d047fbf6ea846f9aa53b6b2e7067dcdce4af5c88397f79beca5c947e47aa4c"), looks := false }, kinds := [], alts := [], laidByText := true, laidKinds := [.data], laidTests := true, laidLooks := .later }
def FnExactPolynomialAtCardSaid : Prop := Claim7.holds Tryd.pinned (.plain (OpenSpec.ofChange fnExactPolynomialAtSpec)) fnExactPolynomialAtCard

/-- THE SECOND FORM's CARD OF 'laws.FnExactFirstDifferentBit'. -/
def fnExactFirstDifferentBitUptoCard : Claim7 := { stood := { row := fnExactFirstDifferentBitUptoRow, standIns := [], harness := (true, "f1d047fbf6ea846f9aa53b6b2e7067dcdce4af5c88397f79beca5c947e47aa4c"), looks := false }, kinds := [], alts := [], laidByText := true, laidKinds := [.data, .data], laidTests := true, laidLooks := .later }
def FnExactFirstDifferentBitUptoCardSaid : Prop := Claim7.holds Tryd.pinned (.plain (OpenSpec.upto fnExactFirstDifferentBitSpec)) fnExactFirstDifferentBitUptoCard

/-- THE SECOND FORM's CARD OF 'laws.FnExactIsPrime'. -/
def fnExactIsPrimeUptoCard : Claim7 := { stood := { row := fnExactIsPrimeUptoRow, standIns := [], harness := (true, "f1d047fbf6ea846f9aa53b6b2e7067dcdce4af5c88397f79beca5c947e47aa4c"), looks := false }, kinds := [], alts := [], laidByText := true, laidKinds := [.data], laidTests := true, laidLooks := .later }
def FnExactIsPrimeUptoCardSaid : Prop := Claim7.holds Tryd.pinned (.plain (OpenSpec.upto fnExactIsPrimeSpec)) fnExactIsPrimeUptoCard

/-- THE SECOND FORM's CARD OF 'laws.FnExactNextPrime'. -/
def fnExactNextPrimeUptoCard : Claim7 := { stood := { row := fnExactNextPrimeUptoRow, standIns := [], harness := (true, "f1d047fbf6ea846f9aa53b6b2e7067dcdce4af5c88397f79beca5c947e47aa4c"), looks := false }, kinds := [], alts := [], laidByText := true, laidKinds := [.data], laidTests := true, laidLooks := .later }
def FnExactNextPrimeUptoCardSaid : Prop := Claim7.holds Tryd.pinned (.plain (OpenSpec.upto fnExactNextPrimeSpec)) fnExactNextPrimeUptoCard

/-- THE SECOND FORM's CARD OF 'laws.FnExactPolynomialAt'. -/
def fnExactPolynomialAtUptoCard : Claim7 := { stood := { row := fnExactPolynomialAtUptoRow, standIns := [], harness := (true, "f1d047fbf6ea846f9aa53b6b2e7067dcdce4af5c88397f79beca5c947e47aa4c"), looks := false }, kinds := [], alts := [], laidByText := true, laidKinds := [.data], laidTests := true, laidLooks := .later }
def FnExactPolynomialAtUptoCardSaid : Prop := Claim7.holds Tryd.pinned (.plain (OpenSpec.upto fnExactPolynomialAtSpec)) fnExactPolynomialAtUptoCard
end Rows
end Go.Proofs.YtcjiejbndmnjaaaDoor
