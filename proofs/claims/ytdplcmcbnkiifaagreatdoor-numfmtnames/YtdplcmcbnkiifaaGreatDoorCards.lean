/-
  DERIVED. GIVEN WITH THE SEED: THE CARDS: each row of YtdplcmcbnkiifaaGreatDoorRows.lean that lists a variable, with what it lists TIED to the program's text (the seventh form; the later family's looks); each row that meets fmt, with fmt's text TOLD by the authors' own Lean function (tested against real Go, not proved from fmt's source: count such statements apart). THE CARD IS WHAT COUNTS. Prove the row's statement (the work); the ties are given (YtdplcmcbnkiifaaGreatDoorTie.lean); close each card by the builder's one call (the guide's Derived/Test/ToyasCard.lean, 'card_holds'). Laid BY PROGRAM, IN A SANDBOX (cutbox-door.mjs). By AI agents, Wed Nov 11 2026. No macro, syntax, notation, axiom, sorry.
-/
import Derived.Test.YtdplcmcbnkiifaaGreatDoorRows
import GoSem.ClaimSeven
namespace Go.Proofs.YtdplcmcbnkiifaaGreatDoor
namespace Rows

/-- THE TIED CARD OF 'gridironlaw10.NumfmtNames'. -/
def numfmtNamesCard : Claim7 := { stood := { row := numfmtNamesRow, standIns := [], harness := (true, "b386e68869249c0665d442c4d626782257ee993bf004f324a39b00033bcd0a5c"), looks := true }, kinds := [], alts := [], laidByText := true, laidKinds := [.data, .data, .data, .data, .data, .sentinel, .sentinel, .data, .data, .data, .data, .pinned, .pinned, .pinned], laidTests := true, laidLooks := .later }
def NumfmtNamesCardSaid : Prop := Claim7.holds Tryz.pinned (.plain (OpenSpec.ofChange numfmtNamesSpec)) numfmtNamesCard

/-- THE TIED CARD OF 'gridironlaw10.NumfmtChecks'. -/
def numfmtChecksCard : Claim7 := { stood := { row := numfmtChecksRow, standIns := [], harness := (true, "b386e68869249c0665d442c4d626782257ee993bf004f324a39b00033bcd0a5c"), looks := true }, kinds := [], alts := [], laidByText := true, laidKinds := [.data, .data, .data, .data, .data, .sentinel, .sentinel, .data, .data, .data, .data, .pinned, .pinned, .pinned], laidTests := true, laidLooks := .later }
def NumfmtChecksCardSaid : Prop := Claim7.holds Tryz.pinned (.plain (OpenSpec.ofChange numfmtChecksSpec)) numfmtChecksCard

/-- THE SECOND FORM's CARD OF 'gridironlaw10.NumfmtNames'. -/
def numfmtNamesUptoCard : Claim7 := { stood := { row := numfmtNamesUptoRow, standIns := [], harness := (true, "b386e68869249c0665d442c4d626782257ee993bf004f324a39b00033bcd0a5c"), looks := true }, kinds := [], alts := [], laidByText := true, laidKinds := [.data, .data, .data, .data, .data, .sentinel, .sentinel, .data, .data, .data, .data, .pinned, .pinned, .pinned], laidTests := true, laidLooks := .later }
def NumfmtNamesUptoCardSaid : Prop := Claim7.holds Tryz.pinned (.plain (OpenSpec.upto numfmtNamesSpec)) numfmtNamesUptoCard

/-- THE SECOND FORM's CARD OF 'gridironlaw10.NumfmtChecks'. -/
def numfmtChecksUptoCard : Claim7 := { stood := { row := numfmtChecksUptoRow, standIns := [], harness := (true, "b386e68869249c0665d442c4d626782257ee993bf004f324a39b00033bcd0a5c"), looks := true }, kinds := [], alts := [], laidByText := true, laidKinds := [.data, .data, .data, .data, .data, .sentinel, .sentinel, .data, .data, .data, .data, .pinned, .pinned, .pinned], laidTests := true, laidLooks := .later }
def NumfmtChecksUptoCardSaid : Prop := Claim7.holds Tryz.pinned (.plain (OpenSpec.upto numfmtChecksSpec)) numfmtChecksUptoCard
end Rows
end Go.Proofs.YtdplcmcbnkiifaaGreatDoor
