/-
  DERIVED. GIVEN WITH THE SEED: THE CARDS: each row of YthchlfllcnlmjaaGreatDoorRows.lean that lists a variable, with what it lists TIED to the program's text (the seventh form; the later family's looks); each row that meets fmt, with fmt's text TOLD by the authors' own Lean function (tested against real Go, not proved from fmt's source: count such statements apart). THE CARD IS WHAT COUNTS. Prove the row's statement (the work); the ties are given (YthchlfllcnlmjaaGreatDoorTie.lean); close each card by the builder's one call (the guide's Derived/Test/ToyasCard.lean, 'card_holds'). Laid BY PROGRAM, IN A SANDBOX (cutbox-door.mjs). By AI agents, Wed Nov 11 2026. No macro, syntax, notation, axiom, sorry.
-/
import Derived.Test.YthchlfllcnlmjaaGreatDoorRows
import GoSem.ClaimSeven
namespace Go.Proofs.YthchlfllcnlmjaaGreatDoor
namespace Rows

/-- THE TIED CARD OF 'laws.FnArea'. -/
def fnAreaCard : Claim7 := { stood := { row := fnAreaRow, standIns := [], harness := (true, "3c2846797ac9bdd52fedd37de2e9d3bc39a28fdb2ae7ee818e80421f41634b43"), looks := true }, kinds := [], alts := [], laidByText := true, laidKinds := [.handle, .sentinel, .sentinel, .sentinel, .sentinel], laidTests := true, laidLooks := .later }
def FnAreaCardSaid : Prop := Claim7.holds Tryz.pinned (.plain (OpenSpec.ofChange fnAreaSpec)) fnAreaCard

/-- THE TIED CARD OF 'laws.FnAreaTorn'. -/
def fnAreaTornCard : Claim7 := { stood := { row := fnAreaTornRow, standIns := [], harness := (true, "3c2846797ac9bdd52fedd37de2e9d3bc39a28fdb2ae7ee818e80421f41634b43"), looks := true }, kinds := [], alts := [], laidByText := true, laidKinds := [.handle, .sentinel, .sentinel, .sentinel, .sentinel], laidTests := true, laidLooks := .later }
def FnAreaTornCardSaid : Prop := Claim7.holds Tryz.pinned (.plain (OpenSpec.ofChange fnAreaTornSpec)) fnAreaTornCard

/-- THE TIED CARD OF 'laws.FnExactAreaRead'. -/
def fnExactAreaReadCard : Claim7 := { stood := { row := fnExactAreaReadRow, standIns := [], harness := (true, "3c2846797ac9bdd52fedd37de2e9d3bc39a28fdb2ae7ee818e80421f41634b43"), looks := true }, kinds := [], alts := [], laidByText := true, laidKinds := [.handle, .sentinel, .sentinel, .sentinel, .sentinel], laidTests := true, laidLooks := .later }
def FnExactAreaReadCardSaid : Prop := Claim7.holds Tryz.pinned (.plain (OpenSpec.ofChange fnExactAreaReadSpec)) fnExactAreaReadCard

/-- THE TIED CARD OF 'laws.FnExactAreaPut'. -/
def fnExactAreaPutCard : Claim7 := { stood := { row := fnExactAreaPutRow, standIns := [], harness := (true, "3c2846797ac9bdd52fedd37de2e9d3bc39a28fdb2ae7ee818e80421f41634b43"), looks := true }, kinds := [], alts := [], laidByText := true, laidKinds := [.handle, .sentinel, .sentinel, .sentinel, .sentinel], laidTests := true, laidLooks := .later }
def FnExactAreaPutCardSaid : Prop := Claim7.holds Tryz.pinned (.plain (OpenSpec.ofChange fnExactAreaPutSpec)) fnExactAreaPutCard

/-- THE SECOND FORM's CARD OF 'laws.FnArea'. -/
def fnAreaUptoCard : Claim7 := { stood := { row := fnAreaUptoRow, standIns := [], harness := (true, "3c2846797ac9bdd52fedd37de2e9d3bc39a28fdb2ae7ee818e80421f41634b43"), looks := true }, kinds := [], alts := [], laidByText := true, laidKinds := [.handle, .sentinel, .sentinel, .sentinel, .sentinel], laidTests := true, laidLooks := .later }
def FnAreaUptoCardSaid : Prop := Claim7.holds Tryz.pinned (.plain (OpenSpec.upto fnAreaSpec)) fnAreaUptoCard

/-- THE SECOND FORM's CARD OF 'laws.FnAreaTorn'. -/
def fnAreaTornUptoCard : Claim7 := { stood := { row := fnAreaTornUptoRow, standIns := [], harness := (true, "3c2846797ac9bdd52fedd37de2e9d3bc39a28fdb2ae7ee818e80421f41634b43"), looks := true }, kinds := [], alts := [], laidByText := true, laidKinds := [.handle, .sentinel, .sentinel, .sentinel, .sentinel], laidTests := true, laidLooks := .later }
def FnAreaTornUptoCardSaid : Prop := Claim7.holds Tryz.pinned (.plain (OpenSpec.upto fnAreaTornSpec)) fnAreaTornUptoCard

/-- THE SECOND FORM's CARD OF 'laws.FnExactAreaRead'. -/
def fnExactAreaReadUptoCard : Claim7 := { stood := { row := fnExactAreaReadUptoRow, standIns := [], harness := (true, "3c2846797ac9bdd52fedd37de2e9d3bc39a28fdb2ae7ee818e80421f41634b43"), looks := true }, kinds := [], alts := [], laidByText := true, laidKinds := [.handle, .sentinel, .sentinel, .sentinel, .sentinel], laidTests := true, laidLooks := .later }
def FnExactAreaReadUptoCardSaid : Prop := Claim7.holds Tryz.pinned (.plain (OpenSpec.upto fnExactAreaReadSpec)) fnExactAreaReadUptoCard

/-- THE SECOND FORM's CARD OF 'laws.FnExactAreaPut'. -/
def fnExactAreaPutUptoCard : Claim7 := { stood := { row := fnExactAreaPutUptoRow, standIns := [], harness := (true, "3c2846797ac9bdd52fedd37de2e9d3bc39a28fdb2ae7ee818e80421f41634b43"), looks := true }, kinds := [], alts := [], laidByText := true, laidKinds := [.handle, .sentinel, .sentinel, .sentinel, .sentinel], laidTests := true, laidLooks := .later }
def FnExactAreaPutUptoCardSaid : Prop := Claim7.holds Tryz.pinned (.plain (OpenSpec.upto fnExactAreaPutSpec)) fnExactAreaPutUptoCard
end Rows
end Go.Proofs.YthchlfllcnlmjaaGreatDoor
