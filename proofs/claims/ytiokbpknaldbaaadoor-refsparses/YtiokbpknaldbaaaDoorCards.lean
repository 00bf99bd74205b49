/-
  DERIVED. GIVEN WITH THE SEED: THE CARDS: each row of YtiokbpknaldbaaaDoorRows.lean that lists a variable, with what it lists TIED to the program's text (the seventh form; the later family's looks); each row that meets fmt, with fmt's text TOLD by the authors' own Lean function (tested against real Go, not proved from fmt's source: count such statements apart). THE CARD IS WHAT COUNTS. Prove the row's statement (the work); the ties are given (YtiokbpknaldbaaaDoorTie.lean); close each card by the builder's one call (the guide's Derived/Test/ToyasCard.lean, 'card_holds'). Laid BY PROGRAM, IN A SANDBOX (cutbox-door.mjs). By AI agents, Wed Nov 11 2026. No macro, syntax, notation, axiom, sorry.
-/
import Derived.Test.YtiokbpknaldbaaaDoorRows
import GoSem.ClaimSeven
namespace Go.Proofs.YtiokbpknaldbaaaDoor
namespace Rows

/-- THE TIED CARD OF 'gridironlaw11.RefsParses'. -/
def refsParsesCard : Claim7 := { stood := { row := refsParsesRow, standIns := [], harness := (true, "ab68f5b16a59a0a5096df3462654ca73b54c5cb5fe2ad863f3740c9cf5d4d4cf"), looks := true }, kinds := [], alts := [], laidByText := true, laidKinds := [.data, .data, .data, .data, .sentinel, .sentinel, .pinned], laidTests := true, laidLooks := .later }
def RefsParsesCardSaid : Prop := Claim7.holds Tryd.pinned (.plain (OpenSpec.ofChange refsParsesSpec)) refsParsesCard

/-- THE TIED CARD OF 'gridironlaw11.RefsAreas'. -/
def refsAreasCard : Claim7 := { stood := { row := refsAreasRow, standIns := [], harness := (true, "ab68f5b16a59a0a5096df3462654ca73b54c5cb5fe2ad863f3740c9cf5d4d4cf"), looks := true }, kinds := [], alts := [], laidByText := true, laidKinds := [.data, .data, .data, .sentinel, .sentinel], laidTests := true, laidLooks := .later }
def RefsAreasCardSaid : Prop := Claim7.holds Tryd.pinned (.plain (OpenSpec.ofChange refsAreasSpec)) refsAreasCard

/-- THE SECOND FORM's CARD OF 'gridironlaw11.RefsParses'. -/
def refsParsesUptoCard : Claim7 := { stood := { row := refsParsesUptoRow, standIns := [], harness := (true, "ab68f5b16a59a0a5096df3462654ca73b54c5cb5fe2ad863f3740c9cf5d4d4cf"), looks := true }, kinds := [], alts := [], laidByText := true, laidKinds := [.data, .data, .data, .data, .sentinel, .sentinel, .pinned], laidTests := true, laidLooks := .later }
def RefsParsesUptoCardSaid : Prop := Claim7.holds Tryd.pinned (.plain (OpenSpec.upto refsParsesSpec)) refsParsesUptoCard

/-- THE SECOND FORM's CARD OF 'gridironlaw11.RefsAreas'. -/
def refsAreasUptoCard : Claim7 := { stood := { row := refsAreasUptoRow, standIns := [], harness := (true, "ab68f5b16a59a0a5096df3462654ca73b54c5cb5fe2ad863f3740c9cf5d4d4cf"), looks := true }, kinds := [], alts := [], laidByText := true, laidKinds := [.data, .data, .data, .sentinel, .sentinel], laidTests := true, laidLooks := .later }
def RefsAreasUptoCardSaid : Prop := Claim7.holds Tryd.pinned (.plain (OpenSpec.upto refsAreasSpec)) refsAreasUptoCard
end Rows
end Go.Proofs.YtiokbpknaldbaaaDoor
