/-
  DERIVED. GIVEN WITH THE SEED: THE CARDS: each row of YthbabhbfpcfenabDoorRows.lean that lists a variable, with what it lists TIED to the program's text (the seventh form; the later family's looks); each row that meets fmt, with fmt's text TOLD by the authors' own Lean function (tested against real Go, not proved from fmt's source: count such statements apart). THE CARD IS WHAT COUNTS. Prove the row's statement (the work); the ties are given (YthbabhbfpcfenabDoorTie.lean); close each card by the builder's one call (the guide's Derived/Test/ToyasCard.lean, 'card_holds'). Laid BY PROGRAM, IN A SANDBOX (cutbox-door.mjs). By AI agents, Wed Nov 11 2026. No macro, syntax, notation, axiom, sorry.
-/
import Derived.Test.YthbabhbfpcfenabDoorRows
import GoSem.ClaimSeven
namespace Go.Proofs.YthbabhbfpcfenabDoor
namespace Rows

/-- THE TIED CARD OF 'platenlaw05.ShortReads'. -/
def shortReadsCard : Claim7 := { stood := { row := shortReadsRow, standIns := [], harness := (true, "5fc038373962b2b7fc933108f7c814e1a37f530dc9435496bd755e8d80f03757"), looks := false }, kinds := [], alts := [], laidByText := true, laidKinds := [.data, .pinned], laidTests := true, laidLooks := .later }
def ShortReadsCardSaid : Prop := Claim7.holds Tryd.pinned (.plain (OpenSpec.ofChange shortReadsSpec)) shortReadsCard

/-- THE SECOND FORM's CARD OF 'platenlaw05.ShortReads'. -/
def shortReadsUptoCard : Claim7 := { stood := { row := shortReadsUptoRow, standIns := [], harness := (true, "5fc038373962b2b7fc933108f7c814e1a37f530dc9435496bd755e8d80f03757"), looks := false }, kinds := [], alts := [], laidByText := true, laidKinds := [.data, .pinned], laidTests := true, laidLooks := .later }
def ShortReadsUptoCardSaid : Prop := Claim7.holds Tryd.pinned (.plain (OpenSpec.upto shortReadsSpec)) shortReadsUptoCard
end Rows
end Go.Proofs.YthbabhbfpcfenabDoor
