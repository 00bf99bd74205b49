/-
  DERIVED. GIVEN WITH THE SEED: THE CARDS: each row of YtlhikoomghbnjaaGreatDoorRows.lean that lists a variable, with what it lists TIED to the program's text (the seventh form; the later family's looks); each row that meets fmt, with fmt's text TOLD by the authors' own Lean function (tested against real Go, not proved from fmt's source: count such statements apart). THE CARD IS WHAT COUNTS. Prove the row's statement (the work); the ties are given (YtlhikoomghbnjaaGreatDoorTie.lean); close each card by the builder's one call (the guide's Derived/Test/ToyasCard.lean, 'card_holds'). Laid BY PROGRAM, IN A SANDBOX (cutbox-door.mjs). By AI agents, Wed Nov 11 2026. No macro, syntax, notation, axiom, sorry.
-/
import Derived.Test.YtlhikoomghbnjaaGreatDoorRows
import GoSem.ClaimSeven
namespace Go.Proofs.YtlhikoomghbnjaaGreatDoor
namespace Rows

/-- THE TIED CARD OF 'gridironlaw04.ZipSums'. -/
def zipSumsCard : Claim7 := { stood := { row := zipSumsRow, standIns := [], harness := (true, "ba3180e9e19ba150c4ec1e4de57d4b4fd41db492f737c5feebe0d31e585e055c"), looks := true }, kinds := [], alts := [], laidByText := true, laidKinds := [.data, .data, .pinned], laidTests := true, laidLooks := .later }
def ZipSumsCardSaid : Prop := Claim7.holds Tryz.pinned (.plain (OpenSpec.ofChange zipSumsSpec)) zipSumsCard

/-- THE TIED CARD OF 'gridironlaw04.ZipNames'. -/
def zipNamesCard : Claim7 := { stood := { row := zipNamesRow, standIns := [], harness := (true, "ba3180e9e19ba150c4ec1e4de57d4b4fd41db492f737c5feebe0d31e585e055c"), looks := true }, kinds := [], alts := [], laidByText := true, laidKinds := [.data, .data, .pinned], laidTests := true, laidLooks := .later }
def ZipNamesCardSaid : Prop := Claim7.holds Tryz.pinned (.plain (OpenSpec.ofChange zipNamesSpec)) zipNamesCard

/-- THE SECOND FORM's CARD OF 'gridironlaw04.ZipSums'. -/
def zipSumsUptoCard : Claim7 := { stood := { row := zipSumsUptoRow, standIns := [], harness := (true, "ba3180e9e19ba150c4ec1e4de57d4b4fd41db492f737c5feebe0d31e585e055c"), looks := true }, kinds := [], alts := [], laidByText := true, laidKinds := [.data, .data, .pinned], laidTests := true, laidLooks := .later }
def ZipSumsUptoCardSaid : Prop := Claim7.holds Tryz.pinned (.plain (OpenSpec.upto zipSumsSpec)) zipSumsUptoCard

/-- THE SECOND FORM's CARD OF 'gridironlaw04.ZipNames'. -/
def zipNamesUptoCard : Claim7 := { stood := { row := zipNamesUptoRow, standIns := [], harness := (true, "ba3180e9e19ba150c4ec1e4de57d4b4fd41db492f737c5feebe0d31e585e055c"), looks := true }, kinds := [], alts := [], laidByText := true, laidKinds := [.data, .data, .pinned], laidTests := true, laidLooks := .later }
def ZipNamesUptoCardSaid : Prop := Claim7.holds Tryz.pinned (.plain (OpenSpec.upto zipNamesSpec)) zipNamesUptoCard
end Rows
end Go.Proofs.YtlhikoomghbnjaaGreatDoor
