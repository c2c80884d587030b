/-
  DERIVED. GIVEN WITH THE SEED: THE CARDS: each row of YtkeoafidgfmhlacGreatDoorRows.lean that lists a variable, with what it lists TIED to the program's text (the seventh form; the later family's looks); each row that meets fmt, with fmt's text TOLD by the authors' own Lean function (tested against real Go, not proved from fmt's source: count such statements apart). THE CARD IS WHAT COUNTS. Prove the row's statement (the work); the ties are given (YtkeoafidgfmhlacGreatDoorTie.lean); close each card by the builder's one call (the guide's Derived/Test/ToyasCard.lean, 'card_holds'). Laid BY PROGRAM, IN A SANDBOX (cutbox-door.mjs). By AI agents, Wed Nov 11 2026. No macro, syntax, notation, axiom, sorry.
-/
import Derived.Test.YtkeoafidgfmhlacGreatDoorRows
import GoSem.ClaimSeven
namespace Go.Proofs.YtkeoafidgfmhlacGreatDoor
namespace Rows

/-- THE TIED CARD OF 'platenlaw06.FloatsRefuses'. -/
def floatsRefusesCard : Claim7 := { stood := { row := floatsRefusesRow, standIns := [], harness := (true, "26d371d32106589993657104f60ebafd312628d09cd5d60cf88537da7f0fe1ae"), looks := false }, kinds := [], alts := [], laidByText := true, laidKinds := [.data, .pinned, .pinned], laidTests := true, laidLooks := .later }
def FloatsRefusesCardSaid : Prop := Claim7.holds Tryz.pinned (.plain (OpenSpec.ofChange floatsRefusesSpec)) floatsRefusesCard

/-- THE SECOND FORM's CARD OF 'platenlaw06.FloatsRefuses'. -/
def floatsRefusesUptoCard : Claim7 := { stood := { row := floatsRefusesUptoRow, standIns := [], harness := (true, "26d371d32106589993657104f60ebafd312628d09cd5d60cf88537da7f0fe1ae"), looks := false }, kinds := [], alts := [], laidByText := true, laidKinds := [.data, .pinned, .pinned], laidTests := true, laidLooks := .later }
def FloatsRefusesUptoCardSaid : Prop := Claim7.holds Tryz.pinned (.plain (OpenSpec.upto floatsRefusesSpec)) floatsRefusesUptoCard
end Rows
end Go.Proofs.YtkeoafidgfmhlacGreatDoor
