/-
  DERIVED. GIVEN WITH THE SEED: THE CARDS: each row of YtkeoafidgfmhlabGreatDoorRows.lean that lists a variable, with what it lists TIED to the program's text (the seventh form; the later family's looks); each row that meets fmt, with fmt's text TOLD by the authors' own Lean function (tested against real Go, not proved from fmt's source: count such statements apart). THE CARD IS WHAT COUNTS. Prove the row's statement (the work); the ties are given (YtkeoafidgfmhlabGreatDoorTie.lean); close each card by the builder's one call (the guide's Derived/Test/ToyasCard.lean, 'card_holds'). Laid BY PROGRAM, IN A SANDBOX (cutbox-door.mjs). By AI agents, Wed Nov 11 2026. No macro, syntax, notation, axiom, sorry.
-/
import Derived.Test.YtkeoafidgfmhlabGreatDoorRows
import GoSem.ClaimSeven
namespace Go.Proofs.YtkeoafidgfmhlabGreatDoor
namespace Rows

/-- THE TIED CARD OF 'platenlaw06.FloatsOdd'. -/
def floatsOddCard : Claim7 := { stood := { row := floatsOddRow, standIns := [], harness := (true, "2c770af7737f7709f1d0bf5311b365d66eb6c3d38e599ee86c7b172d3273d57a"), looks := false }, kinds := [], alts := [], laidByText := true, laidKinds := [.data, .pinned, .pinned], laidTests := true, laidLooks := .later }
def FloatsOddCardSaid : Prop := Claim7.holds Tryz.pinned (.plain (OpenSpec.ofChange floatsOddSpec)) floatsOddCard

/-- THE TIED CARD OF 'platenlaw06.FloatsSigns'. -/
def floatsSignsCard : Claim7 := { stood := { row := floatsSignsRow, standIns := [], harness := (true, "2c770af7737f7709f1d0bf5311b365d66eb6c3d38e599ee86c7b172d3273d57a"), looks := false }, kinds := [], alts := [], laidByText := true, laidKinds := [.data, .pinned, .pinned], laidTests := true, laidLooks := .later }
def FloatsSignsCardSaid : Prop := Claim7.holds Tryz.pinned (.plain (OpenSpec.ofChange floatsSignsSpec)) floatsSignsCard

/-- THE TIED CARD OF 'platenlaw06.FloatsWide'. -/
def floatsWideCard : Claim7 := { stood := { row := floatsWideRow, standIns := [], harness := (true, "2c770af7737f7709f1d0bf5311b365d66eb6c3d38e599ee86c7b172d3273d57a"), looks := false }, kinds := [], alts := [], laidByText := true, laidKinds := [.data, .pinned, .pinned], laidTests := true, laidLooks := .later }
def FloatsWideCardSaid : Prop := Claim7.holds Tryz.pinned (.plain (OpenSpec.ofChange floatsWideSpec)) floatsWideCard

/-- THE TIED CARD OF 'platenlaw06.FloatsExact'. -/
def floatsExactCard : Claim7 := { stood := { row := floatsExactRow, standIns := [], harness := (true, "2c770af7737f7709f1d0bf5311b365d66eb6c3d38e599ee86c7b172d3273d57a"), looks := false }, kinds := [], alts := [], laidByText := true, laidKinds := [.data, .pinned, .pinned], laidTests := true, laidLooks := .later }
def FloatsExactCardSaid : Prop := Claim7.holds Tryz.pinned (.plain (OpenSpec.ofChange floatsExactSpec)) floatsExactCard

/-- THE TIED CARD OF 'platenlaw06.FloatsBack'. -/
def floatsBackCard : Claim7 := { stood := { row := floatsBackRow, standIns := [], harness := (true, "2c770af7737f7709f1d0bf5311b365d66eb6c3d38e599ee86c7b172d3273d57a"), looks := false }, kinds := [], alts := [], laidByText := true, laidKinds := [.data, .pinned, .pinned], laidTests := true, laidLooks := .later }
def FloatsBackCardSaid : Prop := Claim7.holds Tryz.pinned (.plain (OpenSpec.ofChange floatsBackSpec)) floatsBackCard

/-- THE TIED CARD OF 'platenlaw06.FloatsHexBack'. -/
def floatsHexBackCard : Claim7 := { stood := { row := floatsHexBackRow, standIns := [], harness := (true, "2c770af7737f7709f1d0bf5311b365d66eb6c3d38e599ee86c7b172d3273d57a"), looks := false }, kinds := [], alts := [], laidByText := true, laidKinds := [.data, .pinned, .pinned], laidTests := true, laidLooks := .later }
def FloatsHexBackCardSaid : Prop := Claim7.holds Tryz.pinned (.plain (OpenSpec.ofChange floatsHexBackSpec)) floatsHexBackCard

/-- THE SECOND FORM's CARD OF 'platenlaw06.FloatsOdd'. -/
def floatsOddUptoCard : Claim7 := { stood := { row := floatsOddUptoRow, standIns := [], harness := (true, "2c770af7737f7709f1d0bf5311b365d66eb6c3d38e599ee86c7b172d3273d57a"), looks := false }, kinds := [], alts := [], laidByText := true, laidKinds := [.data, .pinned, .pinned], laidTests := true, laidLooks := .later }
def FloatsOddUptoCardSaid : Prop := Claim7.holds Tryz.pinned (.plain (OpenSpec.upto floatsOddSpec)) floatsOddUptoCard

/-- THE SECOND FORM's CARD OF 'platenlaw06.FloatsSigns'. -/
def floatsSignsUptoCard : Claim7 := { stood := { row := floatsSignsUptoRow, standIns := [], harness := (true, "2c770af7737f7709f1d0bf5311b365d66eb6c3d38e599ee86c7b172d3273d57a"), looks := false }, kinds := [], alts := [], laidByText := true, laidKinds := [.data, .pinned, .pinned], laidTests := true, laidLooks := .later }
def FloatsSignsUptoCardSaid : Prop := Claim7.holds Tryz.pinned (.plain (OpenSpec.upto floatsSignsSpec)) floatsSignsUptoCard

/-- THE SECOND FORM's CARD OF 'platenlaw06.FloatsWide'. -/
def floatsWideUptoCard : Claim7 := { stood := { row := floatsWideUptoRow, standIns := [], harness := (true, "2c770af7737f7709f1d0bf5311b365d66eb6c3d38e599ee86c7b172d3273d57a"), looks := false }, kinds := [], alts := [], laidByText := true, laidKinds := [.data, .pinned, .pinned], laidTests := true, laidLooks := .later }
def FloatsWideUptoCardSaid : Prop := Claim7.holds Tryz.pinned (.plain (OpenSpec.upto floatsWideSpec)) floatsWideUptoCard

/-- THE SECOND FORM's CARD OF 'platenlaw06.FloatsExact'. -/
def floatsExactUptoCard : Claim7 := { stood := { row := floatsExactUptoRow, standIns := [], harness := (true, "2c770af7737f7709f1d0bf5311b365d66eb6c3d38e599ee86c7b172d3273d57a"), looks := false }, kinds := [], alts := [], laidByText := true, laidKinds := [.data, .pinned, .pinned], laidTests := true, laidLooks := .later }
def FloatsExactUptoCardSaid : Prop := Claim7.holds Tryz.pinned (.plain (OpenSpec.upto floatsExactSpec)) floatsExactUptoCard

/-- THE SECOND FORM's CARD OF 'platenlaw06.FloatsBack'. -/
def floatsBackUptoCard : Claim7 := { stood := { row := floatsBackUptoRow, standIns := [], harness := (true, "2c770af7737f7709f1d0bf5311b365d66eb6c3d38e599ee86c7b172d3273d57a"), looks := false }, kinds := [], alts := [], laidByText := true, laidKinds := [.data, .pinned, .pinned], laidTests := true, laidLooks := .later }
def FloatsBackUptoCardSaid : Prop := Claim7.holds Tryz.pinned (.plain (OpenSpec.upto floatsBackSpec)) floatsBackUptoCard

/-- THE SECOND FORM's CARD OF 'platenlaw06.FloatsHexBack'. -/
def floatsHexBackUptoCard : Claim7 := { stood := { row := floatsHexBackUptoRow, standIns := [], harness := (true, "2c770af7737f7709f1d0bf5311b365d66eb6c3d38e599ee86c7b172d3273d57a"), looks := false }, kinds := [], alts := [], laidByText := true, laidKinds := [.data, .pinned, .pinned], laidTests := true, laidLooks := .later }
def FloatsHexBackUptoCardSaid : Prop := Claim7.holds Tryz.pinned (.plain (OpenSpec.upto floatsHexBackSpec)) floatsHexBackUptoCard
end Rows
end Go.Proofs.YtkeoafidgfmhlabGreatDoor
