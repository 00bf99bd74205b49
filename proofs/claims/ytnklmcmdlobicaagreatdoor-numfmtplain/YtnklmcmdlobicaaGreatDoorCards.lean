/-
  DERIVED. GIVEN WITH THE SEED: THE CARDS: each row of YtnklmcmdlobicaaGreatDoorRows.lean that lists a variable, with what it lists TIED to the program's text (the seventh form; the later family's looks); each row that meets fmt, with fmt's text TOLD by the authors' own Lean function (tested against real Go, not proved from fmt's source: count such statements apart). THE CARD IS WHAT COUNTS. Prove the row's statement (the work); the ties are given (YtnklmcmdlobicaaGreatDoorTie.lean); close each card by the builder's one call (the guide's Derived/Test/ToyasCard.lean, 'card_holds'). Laid BY PROGRAM, IN A SANDBOX (cutbox-door.mjs). By AI agents, Wed Nov 11 2026. No macro, syntax, notation, axiom, sorry.
-/
import Derived.Test.YtnklmcmdlobicaaGreatDoorRows
import GoSem.ClaimSeven
namespace Go.Proofs.YtnklmcmdlobicaaGreatDoor
namespace Rows

/-- THE TIED CARD OF 'gridironlaw10.NumfmtNumbers'. -/
def numfmtNumbersCard : Claim7 := { stood := { row := numfmtNumbersRow, standIns := [], harness := (true, "bd4361dda88311e50656f9e501a04afa3f914b2772e0e7b4ab44e160ebc1f754"), looks := true }, kinds := [], alts := [], laidByText := true, laidKinds := [.data, .data, .data, .data, .data, .sentinel, .sentinel, .data, .data, .data, .data, .pinned, .pinned, .pinned], laidTests := true, laidLooks := .later }
def NumfmtNumbersCardSaid : Prop := Claim7.holds Tryz.pinned (.plain (OpenSpec.ofChange numfmtNumbersSpec)) numfmtNumbersCard

/-- THE TIED CARD OF 'gridironlaw10.NumfmtPlain'. -/
def numfmtPlainCard : Claim7 := { stood := { row := numfmtPlainRow, standIns := [], harness := (true, "bd4361dda88311e50656f9e501a04afa3f914b2772e0e7b4ab44e160ebc1f754"), looks := true }, kinds := [], alts := [], laidByText := true, laidKinds := [.data, .data, .data, .data, .data, .sentinel, .sentinel, .data, .data, .data, .data, .pinned, .pinned, .pinned], laidTests := true, laidLooks := .later }
def NumfmtPlainCardSaid : Prop := Claim7.holds Tryz.pinned (.plain (OpenSpec.ofChange numfmtPlainSpec)) numfmtPlainCard

/-- THE SECOND FORM's CARD OF 'gridironlaw10.NumfmtNumbers'. -/
def numfmtNumbersUptoCard : Claim7 := { stood := { row := numfmtNumbersUptoRow, standIns := [], harness := (true, "bd4361dda88311e50656f9e501a04afa3f914b2772e0e7b4ab44e160ebc1f754"), looks := true }, kinds := [], alts := [], laidByText := true, laidKinds := [.data, .data, .data, .data, .data, .sentinel, .sentinel, .data, .data, .data, .data, .pinned, .pinned, .pinned], laidTests := true, laidLooks := .later }
def NumfmtNumbersUptoCardSaid : Prop := Claim7.holds Tryz.pinned (.plain (OpenSpec.upto numfmtNumbersSpec)) numfmtNumbersUptoCard

/-- THE SECOND FORM's CARD OF 'gridironlaw10.NumfmtPlain'. -/
def numfmtPlainUptoCard : Claim7 := { stood := { row := numfmtPlainUptoRow, standIns := [], harness := (true, "bd4361dda88311e50656f9e501a04afa3f914b2772e0e7b4ab44e160ebc1f754"), looks := true }, kinds := [], alts := [], laidByText := true, laidKinds := [.data, .data, .data, .data, .data, .sentinel, .sentinel, .data, .data, .data, .data, .pinned, .pinned, .pinned], laidTests := true, laidLooks := .later }
def NumfmtPlainUptoCardSaid : Prop := Claim7.holds Tryz.pinned (.plain (OpenSpec.upto numfmtPlainSpec)) numfmtPlainUptoCard
end Rows
end Go.Proofs.YtnklmcmdlobicaaGreatDoor
