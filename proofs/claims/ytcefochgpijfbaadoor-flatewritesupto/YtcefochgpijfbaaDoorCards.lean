/-
  DERIVED. GIVEN WITH THE SEED: THE CARDS: each row of YtcefochgpijfbaaDoorRows.lean that lists a variable, with what it lists TIED to the program's text (the seventh form; the later family's looks); each row that meets fmt, with fmt's text TOLD by the authors' own Lean function (tested against real Go, not proved from fmt's source: count such statements apart). THE CARD IS WHAT COUNTS. Prove the row's statement (the work); the ties are given (YtcefochgpijfbaaDoorTie.lean); close each card by the builder's one call (the guide's Derived/Test/ToyasCard.lean, 'card_holds'). Laid BY PROGRAM, IN A SANDBOX (cutbox-door.mjs). By AI agents, Wed Nov 11 2026. No macro, syntax, notation, axiom, sorry.
-/
import Derived.Test.YtcefochgpijfbaaDoorRows
import GoSem.ClaimSeven
namespace Go.Proofs.YtcefochgpijfbaaDoor
namespace Rows

/-- THE TIED CARD OF 'gridironlaw03.FlateInflates'. -/
def flateInflatesCard : Claim7 := { stood := { row := flateInflatesRow, standIns := [], harness := (true, "bb344a6097b4305afbfd991ade3bbf48528b1256e4f785179df31d185166c198"), looks := false }, kinds := [], alts := [], laidByText := true, laidKinds := [.data], laidTests := true, laidLooks := .later }
def FlateInflatesCardSaid : Prop := Claim7.holds Tryd.pinned (.plain (OpenSpec.ofChange flateInflatesSpec)) flateInflatesCard

/-- THE TIED CARD OF 'gridironlaw03.FlateBlocks'. -/
def flateBlocksCard : Claim7 := { stood := { row := flateBlocksRow, standIns := [], harness := (true, "bb344a6097b4305afbfd991ade3bbf48528b1256e4f785179df31d185166c198"), looks := false }, kinds := [], alts := [], laidByText := true, laidKinds := [.data], laidTests := true, laidLooks := .later }
def FlateBlocksCardSaid : Prop := Claim7.holds Tryd.pinned (.plain (OpenSpec.ofChange flateBlocksSpec)) flateBlocksCard

/-- THE TIED CARD OF 'gridironlaw03.FlateWrites'. -/
def flateWritesCard : Claim7 := { stood := { row := flateWritesRow, standIns := [], harness := (true, "bb344a6097b4305afbfd991ade3bbf48528b1256e4f785179df31d185166c198"), looks := false }, kinds := [], alts := [], laidByText := true, laidKinds := [.data], laidTests := true, laidLooks := .later }
def FlateWritesCardSaid : Prop := Claim7.holds Tryd.pinned (.plain (OpenSpec.ofChange flateWritesSpec)) flateWritesCard

/-- THE SECOND FORM's CARD OF 'gridironlaw03.FlateInflates'. -/
def flateInflatesUptoCard : Claim7 := { stood := { row := flateInflatesUptoRow, standIns := [], harness := (true, "bb344a6097b4305afbfd991ade3bbf48528b1256e4f785179df31d185166c198"), looks := false }, kinds := [], alts := [], laidByText := true, laidKinds := [.data], laidTests := true, laidLooks := .later }
def FlateInflatesUptoCardSaid : Prop := Claim7.holds Tryd.pinned (.plain (OpenSpec.upto flateInflatesSpec)) flateInflatesUptoCard

/-- THE SECOND FORM's CARD OF 'gridironlaw03.FlateBlocks'. -/
def flateBlocksUptoCard : Claim7 := { stood := { row := flateBlocksUptoRow, standIns := [], harness := (true, "bb344a6097b4305afbfd991ade3bbf48528b1256e4f785179df31d185166c198"), looks := false }, kinds := [], alts := [], laidByText := true, laidKinds := [.data], laidTests := true, laidLooks := .later }
def FlateBlocksUptoCardSaid : Prop := Claim7.holds Tryd.pinned (.plain (OpenSpec.upto flateBlocksSpec)) flateBlocksUptoCard

/-- THE SECOND FORM's CARD OF 'gridironlaw03.FlateWrites'. -/
def flateWritesUptoCard : Claim7 := { stood := { row := flateWritesUptoRow, standIns := [], harness := (true, "bb344a6097b4305afbfd991ade3bbf48528b1256e4f785179df31d185166c198"), looks := false }, kinds := [], alts := [], laidByText := true, laidKinds := [.data], laidTests := true, laidLooks := .later }
def FlateWritesUptoCardSaid : Prop := Claim7.holds Tryd.pinned (.plain (OpenSpec.upto flateWritesSpec)) flateWritesUptoCard
end Rows
end Go.Proofs.YtcefochgpijfbaaDoor
