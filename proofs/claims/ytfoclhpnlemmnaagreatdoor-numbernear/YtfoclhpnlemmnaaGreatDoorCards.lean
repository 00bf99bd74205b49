/-
  DERIVED. GIVEN WITH THE SEED: THE CARDS: each row of YtfoclhpnlemmnaaGreatDoorRows.lean that lists a variable, with what it lists TIED to the program's text (the seventh form; the later family's looks); each row that meets fmt, with fmt's text TOLD by the authors' own Lean function (tested against real Go, not proved from fmt's source: count such statements apart). THE CARD IS WHAT COUNTS. Prove the row's statement (the work); the ties are given (YtfoclhpnlemmnaaGreatDoorTie.lean); close each card by the builder's one call (the guide's Derived/Test/ToyasCard.lean, 'card_holds'). Laid BY PROGRAM, IN A SANDBOX (cutbox-door.mjs). By AI agents, Wed Nov 11 2026. No macro, syntax, notation, axiom, sorry.
-/
import Derived.Test.YtfoclhpnlemmnaaGreatDoorRows
import GoSem.ClaimSeven
namespace Go.Proofs.YtfoclhpnlemmnaaGreatDoor
namespace Rows

/-- THE TIED CARD OF 'gridironlaw08.NumberTimes'. -/
def numberTimesCard : Claim7 := { stood := { row := numberTimesRow, standIns := [], harness := (true, "e9250d7b9fb1a467002734b33c5cf3c25c4a275d8236346bb5f7a8bd9183f373"), looks := true }, kinds := [], alts := [], laidByText := true, laidKinds := [.data, .data, .data, .data, .data, .sentinel, .sentinel, .data, .pinned, .pinned, .pinned], laidTests := true, laidLooks := .later }
def NumberTimesCardSaid : Prop := Claim7.holds Tryz.pinned (.plain (OpenSpec.ofChange numberTimesSpec)) numberTimesCard

/-- THE TIED CARD OF 'gridironlaw08.NumberNear'. -/
def numberNearCard : Claim7 := { stood := { row := numberNearRow, standIns := [], harness := (true, "e9250d7b9fb1a467002734b33c5cf3c25c4a275d8236346bb5f7a8bd9183f373"), looks := true }, kinds := [], alts := [], laidByText := true, laidKinds := [.data, .data, .data, .data, .data, .sentinel, .sentinel, .data, .pinned, .pinned, .pinned], laidTests := true, laidLooks := .later }
def NumberNearCardSaid : Prop := Claim7.holds Tryz.pinned (.plain (OpenSpec.ofChange numberNearSpec)) numberNearCard

/-- THE SECOND FORM's CARD OF 'gridironlaw08.NumberTimes'. -/
def numberTimesUptoCard : Claim7 := { stood := { row := numberTimesUptoRow, standIns := [], harness := (true, "e9250d7b9fb1a467002734b33c5cf3c25c4a275d8236346bb5f7a8bd9183f373"), looks := true }, kinds := [], alts := [], laidByText := true, laidKinds := [.data, .data, .data, .data, .data, .sentinel, .sentinel, .data, .pinned, .pinned, .pinned], laidTests := true, laidLooks := .later }
def NumberTimesUptoCardSaid : Prop := Claim7.holds Tryz.pinned (.plain (OpenSpec.upto numberTimesSpec)) numberTimesUptoCard

/-- THE SECOND FORM's CARD OF 'gridironlaw08.NumberNear'. -/
def numberNearUptoCard : Claim7 := { stood := { row := numberNearUptoRow, standIns := [], harness := (true, "e9250d7b9fb1a467002734b33c5cf3c25c4a275d8236346bb5f7a8bd9183f373"), looks := true }, kinds := [], alts := [], laidByText := true, laidKinds := [.data, .data, .data, .data, .data, .sentinel, .sentinel, .data, .pinned, .pinned, .pinned], laidTests := true, laidLooks := .later }
def NumberNearUptoCardSaid : Prop := Claim7.holds Tryz.pinned (.plain (OpenSpec.upto numberNearSpec)) numberNearUptoCard
end Rows
end Go.Proofs.YtfoclhpnlemmnaaGreatDoor
