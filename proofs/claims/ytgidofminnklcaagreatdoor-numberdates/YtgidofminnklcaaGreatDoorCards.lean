/-
  DERIVED. GIVEN WITH THE SEED: THE CARDS: each row of YtgidofminnklcaaGreatDoorRows.lean that lists a variable, with what it lists TIED to the program's text (the seventh form; the later family's looks); each row that meets fmt, with fmt's text TOLD by the authors' own Lean function (tested against real Go, not proved from fmt's source: count such statements apart). THE CARD IS WHAT COUNTS. Prove the row's statement (the work); the ties are given (YtgidofminnklcaaGreatDoorTie.lean); close each card by the builder's one call (the guide's Derived/Test/ToyasCard.lean, 'card_holds'). Laid BY PROGRAM, IN A SANDBOX (cutbox-door.mjs). By AI agents, Wed Nov 11 2026. No macro, syntax, notation, axiom, sorry.
-/
import Derived.Test.YtgidofminnklcaaGreatDoorRows
import GoSem.ClaimSeven
namespace Go.Proofs.YtgidofminnklcaaGreatDoor
namespace Rows

/-- THE TIED CARD OF 'gridironlaw08.NumberDays'. -/
def numberDaysCard : Claim7 := { stood := { row := numberDaysRow, standIns := [], harness := (true, "0c613aa83c9365ae2ea8ecf97e2dcb11f2bf159375351e53785fd8c82fd7590d"), looks := true }, kinds := [], alts := [], laidByText := true, laidKinds := [.data, .data, .data, .data, .data, .sentinel, .sentinel, .data, .pinned, .pinned, .pinned], laidTests := true, laidLooks := .later }
def NumberDaysCardSaid : Prop := Claim7.holds Tryz.pinned (.plain (OpenSpec.ofChange numberDaysSpec)) numberDaysCard

/-- THE TIED CARD OF 'gridironlaw08.NumberDates'. -/
def numberDatesCard : Claim7 := { stood := { row := numberDatesRow, standIns := [], harness := (true, "0c613aa83c9365ae2ea8ecf97e2dcb11f2bf159375351e53785fd8c82fd7590d"), looks := true }, kinds := [], alts := [], laidByText := true, laidKinds := [.data, .data, .data, .data, .data, .sentinel, .sentinel, .data, .pinned, .pinned, .pinned], laidTests := true, laidLooks := .later }
def NumberDatesCardSaid : Prop := Claim7.holds Tryz.pinned (.plain (OpenSpec.ofChange numberDatesSpec)) numberDatesCard

/-- THE SECOND FORM's CARD OF 'gridironlaw08.NumberDays'. -/
def numberDaysUptoCard : Claim7 := { stood := { row := numberDaysUptoRow, standIns := [], harness := (true, "0c613aa83c9365ae2ea8ecf97e2dcb11f2bf159375351e53785fd8c82fd7590d"), looks := true }, kinds := [], alts := [], laidByText := true, laidKinds := [.data, .data, .data, .data, .data, .sentinel, .sentinel, .data, .pinned, .pinned, .pinned], laidTests := true, laidLooks := .later }
def NumberDaysUptoCardSaid : Prop := Claim7.holds Tryz.pinned (.plain (OpenSpec.upto numberDaysSpec)) numberDaysUptoCard

/-- THE SECOND FORM's CARD OF 'gridironlaw08.NumberDates'. -/
def numberDatesUptoCard : Claim7 := { stood := { row := numberDatesUptoRow, standIns := [], harness := (true, "0c613aa83c9365ae2ea8ecf97e2dcb11f2bf159375351e53785fd8c82fd7590d"), looks := true }, kinds := [], alts := [], laidByText := true, laidKinds := [.data, .data, .data, .data, .data, .sentinel, .sentinel, .data, .pinned, .pinned, .pinned], laidTests := true, laidLooks := .later }
def NumberDatesUptoCardSaid : Prop := Claim7.holds Tryz.pinned (.plain (OpenSpec.upto numberDatesSpec)) numberDatesUptoCard
end Rows
end Go.Proofs.YtgidofminnklcaaGreatDoor
