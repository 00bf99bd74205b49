/-
  DERIVED. GIVEN WITH THE SEED: THE CARDS: each row of YtklinhfcecfnfabDoorRows.lean that lists a variable, with what it lists TIED to the program's text (the seventh form; the later family's looks); each row that meets fmt, with fmt's text TOLD by the authors' own Lean function (tested against real Go, not proved from fmt's source: count such statements apart). THE CARD IS WHAT COUNTS. Prove the row's statement (the work); the ties are given (YtklinhfcecfnfabDoorTie.lean); close each card by the builder's one call (the guide's Derived/Test/ToyasCard.lean, 'card_holds'). Laid BY PROGRAM, IN A SANDBOX (cutbox-door.mjs). By AI agents, Wed Nov 11 2026. No macro, syntax, notation, axiom, sorry.
-/
import Derived.Test.YtklinhfcecfnfabDoorRows
import GoSem.ClaimSeven
namespace Go.Proofs.YtklinhfcecfnfabDoor
namespace Rows

/-- THE TIED CARD OF 'gridironlaw11.RefsCommon'. -/
def refsCommonCard : Claim7 := { stood := { row := refsCommonRow, standIns := [], harness := (true, "927f70773c171e24ec5bab0b40df20f206ac7357b99a815665906087bf69b963"), looks := true }, kinds := [], alts := [], laidByText := true, laidKinds := [.data, .data, .data, .sentinel, .sentinel], laidTests := true, laidLooks := .later }
def RefsCommonCardSaid : Prop := Claim7.holds Tryd.pinned (.plain (OpenSpec.ofChange refsCommonSpec)) refsCommonCard

/-- THE SECOND FORM's CARD OF 'gridironlaw11.RefsCommon'. -/
def refsCommonUptoCard : Claim7 := { stood := { row := refsCommonUptoRow, standIns := [], harness := (true, "927f70773c171e24ec5bab0b40df20f206ac7357b99a815665906087bf69b963"), looks := true }, kinds := [], alts := [], laidByText := true, laidKinds := [.data, .data, .data, .sentinel, .sentinel], laidTests := true, laidLooks := .later }
def RefsCommonUptoCardSaid : Prop := Claim7.holds Tryd.pinned (.plain (OpenSpec.upto refsCommonSpec)) refsCommonUptoCard
end Rows
end Go.Proofs.YtklinhfcecfnfabDoor
