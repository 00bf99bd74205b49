/-
  DERIVED. GIVEN WITH THE SEED: THE CARDS: each row of YtdmjbhbiehjelaaGreatDoorRows.lean that lists a variable, with what it lists TIED to the program's text (the seventh form; the later family's looks); each row that meets fmt, with fmt's text TOLD by the authors' own Lean function (tested against real Go, not proved from fmt's source: count such statements apart). THE CARD IS WHAT COUNTS. Prove the row's statement (the work); the ties are given (YtdmjbhbiehjelaaGreatDoorTie.lean); close each card by the builder's one call (the guide's Derived/Test/ToyasCard.lean, 'card_holds'). Laid BY PROGRAM, IN A SANDBOX (cutbox-door.mjs). By AI agents, Wed Nov 11 2026. No macro, syntax, notation, axiom, sorry.
-/
import Derived.Test.YtdmjbhbiehjelaaGreatDoorRows
import GoSem.ClaimSeven
namespace Go.Proofs.YtdmjbhbiehjelaaGreatDoor
namespace Rows

/-- THE TIED CARD OF 'gridironlaw14.PrintFormulas'. -/
def printFormulasCard : Claim7 := { stood := { row := printFormulasRow, standIns := [], harness := (true, "e8e72b52d27d02920dfcda53da7b2222fc51b1745941565afe675f0eeed56b32"), looks := true }, kinds := [], alts := [], laidByText := true, laidKinds := [.data, .data, .data, .data, .data, .sentinel, .sentinel, .data, .data, .data, .data, .pinned, .pinned, .pinned, .pinned], laidTests := true, laidLooks := .later }
def PrintFormulasCardSaid : Prop := Claim7.holds Tryz.pinned (.plain (OpenSpec.ofChange printFormulasSpec)) printFormulasCard

/-- THE TIED CARD OF 'gridironlaw14.PrintSigns'. -/
def printSignsCard : Claim7 := { stood := { row := printSignsRow, standIns := [], harness := (true, "e8e72b52d27d02920dfcda53da7b2222fc51b1745941565afe675f0eeed56b32"), looks := true }, kinds := [], alts := [], laidByText := true, laidKinds := [.data, .data, .data, .data, .data, .sentinel, .sentinel, .data, .data, .data, .data, .pinned, .pinned, .pinned, .pinned], laidTests := true, laidLooks := .later }
def PrintSignsCardSaid : Prop := Claim7.holds Tryz.pinned (.plain (OpenSpec.ofChange printSignsSpec)) printSignsCard

/-- THE TIED CARD OF 'gridironlaw14.PrintOwn'. -/
def printOwnCard : Claim7 := { stood := { row := printOwnRow, standIns := [], harness := (true, "e8e72b52d27d02920dfcda53da7b2222fc51b1745941565afe675f0eeed56b32"), looks := true }, kinds := [], alts := [], laidByText := true, laidKinds := [.data, .data, .data, .data, .data, .sentinel, .sentinel, .data, .data, .data, .data, .pinned, .pinned, .pinned, .pinned], laidTests := true, laidLooks := .later }
def PrintOwnCardSaid : Prop := Claim7.holds Tryz.pinned (.plain (OpenSpec.ofChange printOwnSpec)) printOwnCard

/-- THE SECOND FORM's CARD OF 'gridironlaw14.PrintFormulas'. -/
def printFormulasUptoCard : Claim7 := { stood := { row := printFormulasUptoRow, standIns := [], harness := (true, "e8e72b52d27d02920dfcda53da7b2222fc51b1745941565afe675f0eeed56b32"), looks := true }, kinds := [], alts := [], laidByText := true, laidKinds := [.data, .data, .data, .data, .data, .sentinel, .sentinel, .data, .data, .data, .data, .pinned, .pinned, .pinned, .pinned], laidTests := true, laidLooks := .later }
def PrintFormulasUptoCardSaid : Prop := Claim7.holds Tryz.pinned (.plain (OpenSpec.upto printFormulasSpec)) printFormulasUptoCard

/-- THE SECOND FORM's CARD OF 'gridironlaw14.PrintSigns'. -/
def printSignsUptoCard : Claim7 := { stood := { row := printSignsUptoRow, standIns := [], harness := (true, "e8e72b52d27d02920dfcda53da7b2222fc51b1745941565afe675f0eeed56b32"), looks := true }, kinds := [], alts := [], laidByText := true, laidKinds := [.data, .data, .data, .data, .data, .sentinel, .sentinel, .data, .data, .data, .data, .pinned, .pinned, .pinned, .pinned], laidTests := true, laidLooks := .later }
def PrintSignsUptoCardSaid : Prop := Claim7.holds Tryz.pinned (.plain (OpenSpec.upto printSignsSpec)) printSignsUptoCard

/-- THE SECOND FORM's CARD OF 'gridironlaw14.PrintOwn'. -/
def printOwnUptoCard : Claim7 := { stood := { row := printOwnUptoRow, standIns := [], harness := (true, "e8e72b52d27d02920dfcda53da7b2222fc51b1745941565afe675f0eeed56b32"), looks := true }, kinds := [], alts := [], laidByText := true, laidKinds := [.data, .data, .data, .data, .data, .sentinel, .sentinel, .data, .data, .data, .data, .pinned, .pinned, .pinned, .pinned], laidTests := true, laidLooks := .later }
def PrintOwnUptoCardSaid : Prop := Claim7.holds Tryz.pinned (.plain (OpenSpec.upto printOwnSpec)) printOwnUptoCard
end Rows
end Go.Proofs.YtdmjbhbiehjelaaGreatDoor
