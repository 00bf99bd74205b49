/-
  DERIVED. GIVEN WITH THE SEED: THE CARDS: each row of YthgnhcdodfildaaDoorRows.lean that lists a variable, with what it lists TIED to the program's text (the seventh form; the later family's looks); each row that meets fmt, with fmt's text TOLD by the authors' own Lean function (tested against real Go, not proved from fmt's source: count such statements apart). THE CARD IS WHAT COUNTS. Prove the row's statement (the work); the ties are given (YthgnhcdodfildaaDoorTie.lean); close each card by the builder's one call (the guide's Derived/Test/ToyasCard.lean, 'card_holds'). Laid BY PROGRAM, IN A SANDBOX (cutbox-door.mjs). By AI agents, Wed Nov 11 2026. No macro, syntax, notation, axiom, sorry.
-/
import Derived.Test.YthgnhcdodfildaaDoorRows
import GoSem.ClaimSeven
namespace Go.Proofs.YthgnhcdodfildaaDoor
namespace Rows

/-- THE TIED CARD OF 'gridironlaw03.FlateInflates'. -/
def flateInflatesCard : Claim7 := { stood := { row := flateInflatesRow, standIns := [], harness := (true, "16bf9fa3219b21ad51bbe86d3ba43e064aa01b8137c3296e22b7212ad9848786"), looks := false }, kinds := [], alts := [], laidByText := true, laidKinds := [.data], laidTests := true, laidLooks := .later }
def FlateInflatesCardSaid : Prop := Claim7.holds Tryd.pinned (.plain (OpenSpec.ofChange flateInflatesSpec)) flateInflatesCard

/-- THE TIED CARD OF 'gridironlaw03.FlateBlocks'. -/
def flateBlocksCard : Claim7 := { stood := { row := flateBlocksRow, standIns := [], harness := (true, "16bf9fa3219b21ad51bbe86d3ba43e064aa01b8137c3296e22b7212ad9848786"), looks := false }, kinds := [], alts := [], laidByText := true, laidKinds := [.data], laidTests := true, laidLooks := .later }
def FlateBlocksCardSaid : Prop := Claim7.holds Tryd.pinned (.plain (OpenSpec.ofChange flateBlocksSpec)) flateBlocksCard

/-- THE SECOND FORM's CARD OF 'gridironlaw03.FlateInflates'. -/
def flateInflatesUptoCard : Claim7 := { stood := { row := flateInflatesUptoRow, standIns := [], harness := (true, "16bf9fa3219b21ad51bbe86d3ba43e064aa01b8137c3296e22b7212ad9848786"), looks := false }, kinds := [], alts := [], laidByText := true, laidKinds := [.data], laidTests := true, laidLooks := .later }
def FlateInflatesUptoCardSaid : Prop := Claim7.holds Tryd.pinned (.plain (OpenSpec.upto flateInflatesSpec)) flateInflatesUptoCard

/-- THE SECOND FORM's CARD OF 'gridironlaw03.FlateBlocks'. -/
def flateBlocksUptoCard : Claim7 := { stood := { row := flateBlocksUptoRow, standIns := [], harness := (true, "16bf9fa3219b21ad51bbe86d3ba43e064aa01b8137c3296e22b7212ad9848786"), looks := false }, kinds := [], alts := [], laidByText := true, laidKinds := [.data], laidTests := true, laidLooks := .later }
def FlateBlocksUptoCardSaid : Prop := Claim7.holds Tryd.pinned (.plain (OpenSpec.upto flateBlocksSpec)) flateBlocksUptoCard
end Rows
end Go.Proofs.YthgnhcdodfildaaDoor
