/-
  DERIVED. GIVEN WITH THE SEED: THE CARDS: each row of YtfpefegpilkbgaaGreatDoorRows.lean that lists a variable, with what it lists TIED to the program's text (the seventh form; the later family's looks); each row that meets fmt, with fmt's text TOLD by the authors' own Lean function (tested against real Go, not proved from fmt's source: count such statements apart). THE CARD IS WHAT COUNTS. Prove the row's statement (the work); the ties are given (YtfpefegpilkbgaaGreatDoorTie.lean); close each card by the builder's one call (the guide's Derived/Test/ToyasCard.lean, 'card_holds'). Laid BY PROGRAM, IN A SANDBOX (cutbox-door.mjs). By AI agents, Wed Nov 11 2026. No macro, syntax, notation, axiom, sorry.
-/
import Derived.Test.YtfpefegpilkbgaaGreatDoorRows
import GoSem.ClaimSeven
namespace Go.Proofs.YtfpefegpilkbgaaGreatDoor
namespace Rows

/-- THE TIED CARD OF 'gridironlaw08.NumberDates'. -/
def numberDatesCard : Claim7 := { stood := { row := numberDatesRow, standIns := [], harness := (true, "5f902f033137e1746d7f41fb8c02ebd43e0dad673cac5ccd3f31377717abd186"), looks := true }, kinds := [], alts := [], laidByText := true, laidKinds := [.data, .data, .data, .data, .data, .sentinel, .sentinel, .data, .pinned, .pinned, .pinned], laidTests := true, laidLooks := .later }
def NumberDatesCardSaid : Prop := Claim7.holds Tryz.pinned (.plain (OpenSpec.ofChange numberDatesSpec)) numberDatesCard

/-- THE TIED CARD OF 'gridironlaw08.NumberDays'. -/
def numberDaysCard : Claim7 := { stood := { row := numberDaysRow, standIns := [], harness := (true, "5f902f033137e1746d7f41fb8c02ebd43e0dad673cac5ccd3f31377717abd186"), looks := true }, kinds := [], alts := [], laidByText := true, laidKinds := [.data, .data, .data, .data, .data, .sentinel, .sentinel, .data, .pinned, .pinned, .pinned], laidTests := true, laidLooks := .later }
def NumberDaysCardSaid : Prop := Claim7.holds Tryz.pinned (.plain (OpenSpec.ofChange numberDaysSpec)) numberDaysCard

/-- THE SECOND FORM's CARD OF 'gridironlaw08.NumberDates'. -/
def numberDatesUptoCard : Claim7 := { stood := { row := numberDatesUptoRow, standIns := [], harness := (true, "5f902f033137e1746d7f41fb8c02ebd43e0dad673cac5ccd3f31377717abd186"), looks := true }, kinds := [], alts := [], laidByText := true, laidKinds := [.data, .data, .data, .data, .data, .sentinel, .sentinel, .data, .pinned, .pinned, .pinned], laidTests := true, laidLooks := .later }
def NumberDatesUptoCardSaid : Prop := Claim7.holds Tryz.pinned (.plain (OpenSpec.upto numberDatesSpec)) numberDatesUptoCard

/-- THE SECOND FORM's CARD OF 'gridironlaw08.NumberDays'. -/
def numberDaysUptoCard : Claim7 := { stood := { row := numberDaysUptoRow, standIns := [], harness := (true, "5f902f033137e1746d7f41fb8c02ebd43e0dad673cac5ccd3f31377717abd186"), looks := true }, kinds := [], alts := [], laidByText := true, laidKinds := [.data, .data, .data, .data, .data, .sentinel, .sentinel, .data, .pinned, .pinned, .pinned], laidTests := true, laidLooks := .later }
def NumberDaysUptoCardSaid : Prop := Claim7.holds Tryz.pinned (.plain (OpenSpec.upto numberDaysSpec)) numberDaysUptoCard
end Rows
end Go.Proofs.YtfpefegpilkbgaaGreatDoor
