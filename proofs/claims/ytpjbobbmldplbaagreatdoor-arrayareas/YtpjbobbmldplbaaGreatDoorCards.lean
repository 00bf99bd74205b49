/-
  DERIVED. GIVEN WITH THE SEED: THE CARDS: each row of YtpjbobbmldplbaaGreatDoorRows.lean that lists a variable, with what it lists TIED to the program's text (the seventh form; the later family's looks); each row that meets fmt, with fmt's text TOLD by the authors' own Lean function (tested against real Go, not proved from fmt's source: count such statements apart). THE CARD IS WHAT COUNTS. Prove the row's statement (the work); the ties are given (YtpjbobbmldplbaaGreatDoorTie.lean); close each card by the builder's one call (the guide's Derived/Test/ToyasCard.lean, 'card_holds'). Laid BY PROGRAM, IN A SANDBOX (cutbox-door.mjs). By AI agents, Wed Nov 11 2026. No macro, syntax, notation, axiom, sorry.
-/
import Derived.Test.YtpjbobbmldplbaaGreatDoorRows
import GoSem.ClaimSeven
namespace Go.Proofs.YtpjbobbmldplbaaGreatDoor
namespace Rows

/-- THE TIED CARD OF 'gridironlaw16.ArrayAreas'. -/
def arrayAreasCard : Claim7 := { stood := { row := arrayAreasRow, standIns := [], harness := (true, "7bbec9e07db8768e1e218fae1fdeeb1deb73bcaef66bfe7436f11bdca3af9a7b"), looks := true }, kinds := [], alts := [], laidByText := true, laidKinds := [.data, .data, .widerDeep, .widerDeep, .data, .data, .data, .data, .data, .data, .sentinel, .sentinel, .pinned, .pinned, .pinned], laidTests := true, laidLooks := .later }
def ArrayAreasCardSaid : Prop := Claim7.holds Tryz.pinned (.plain (OpenSpec.ofChange arrayAreasSpec)) arrayAreasCard

/-- THE TIED CARD OF 'gridironlaw16.ArrayCuts'. -/
def arrayCutsCard : Claim7 := { stood := { row := arrayCutsRow, standIns := [], harness := (true, "7bbec9e07db8768e1e218fae1fdeeb1deb73bcaef66bfe7436f11bdca3af9a7b"), looks := true }, kinds := [], alts := [], laidByText := true, laidKinds := [.data, .data, .widerDeep, .widerDeep, .data, .data, .data, .data, .data, .data, .sentinel, .sentinel, .pinned, .pinned, .pinned], laidTests := true, laidLooks := .later }
def ArrayCutsCardSaid : Prop := Claim7.holds Tryz.pinned (.plain (OpenSpec.ofChange arrayCutsSpec)) arrayCutsCard

/-- THE SECOND FORM's CARD OF 'gridironlaw16.ArrayAreas'. -/
def arrayAreasUptoCard : Claim7 := { stood := { row := arrayAreasUptoRow, standIns := [], harness := (true, "7bbec9e07db8768e1e218fae1fdeeb1deb73bcaef66bfe7436f11bdca3af9a7b"), looks := true }, kinds := [], alts := [], laidByText := true, laidKinds := [.data, .data, .widerDeep, .widerDeep, .data, .data, .data, .data, .data, .data, .sentinel, .sentinel, .pinned, .pinned, .pinned], laidTests := true, laidLooks := .later }
def ArrayAreasUptoCardSaid : Prop := Claim7.holds Tryz.pinned (.plain (OpenSpec.upto arrayAreasSpec)) arrayAreasUptoCard

/-- THE SECOND FORM's CARD OF 'gridironlaw16.ArrayCuts'. -/
def arrayCutsUptoCard : Claim7 := { stood := { row := arrayCutsUptoRow, standIns := [], harness := (true, "7bbec9e07db8768e1e218fae1fdeeb1deb73bcaef66bfe7436f11bdca3af9a7b"), looks := true }, kinds := [], alts := [], laidByText := true, laidKinds := [.data, .data, .widerDeep, .widerDeep, .data, .data, .data, .data, .data, .data, .sentinel, .sentinel, .pinned, .pinned, .pinned], laidTests := true, laidLooks := .later }
def ArrayCutsUptoCardSaid : Prop := Claim7.holds Tryz.pinned (.plain (OpenSpec.upto arrayCutsSpec)) arrayCutsUptoCard
end Rows
end Go.Proofs.YtpjbobbmldplbaaGreatDoor
