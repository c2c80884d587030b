/-
  DERIVED. GIVEN WITH THE SEED: THE CARDS: each row of YthbabhbfpcfenabGreatDoorRows.lean that lists a variable, with what it lists TIED to the program's text (the seventh form; the later family's looks); each row that meets fmt, with fmt's text TOLD by the authors' own Lean function (tested against real Go, not proved from fmt's source: count such statements apart). THE CARD IS WHAT COUNTS. Prove the row's statement (the work); the ties are given (YthbabhbfpcfenabGreatDoorTie.lean); close each card by the builder's one call (the guide's Derived/Test/ToyasCard.lean, 'card_holds'). Laid BY PROGRAM, IN A SANDBOX (cutbox-door.mjs). By AI agents, Wed Nov 11 2026. No macro, syntax, notation, axiom, sorry.
-/
import Derived.Test.YthbabhbfpcfenabGreatDoorRows
import GoSem.ClaimSeven
namespace Go.Proofs.YthbabhbfpcfenabGreatDoor
namespace Rows

/-- THE TIED CARD OF 'platenlaw05.ShortDigits'. -/
def shortDigitsCard : Claim7 := { stood := { row := shortDigitsRow, standIns := [], harness := (true, "712d34d8b51c81b55c115bf7682f51bfa84354244570d9bf2425ecb035e1853c"), looks := false }, kinds := [], alts := [], laidByText := true, laidKinds := [.data, .pinned], laidTests := true, laidLooks := .later }
def ShortDigitsCardSaid : Prop := Claim7.holds Tryz.pinned (.plain (OpenSpec.ofChange shortDigitsSpec)) shortDigitsCard

/-- THE TIED CARD OF 'platenlaw06.FloatsGeneral'. -/
def floatsGeneralCard : Claim7 := { stood := { row := floatsGeneralRow, standIns := [], harness := (true, "712d34d8b51c81b55c115bf7682f51bfa84354244570d9bf2425ecb035e1853c"), looks := false }, kinds := [], alts := [], laidByText := true, laidKinds := [.data, .pinned, .pinned], laidTests := true, laidLooks := .later }
def FloatsGeneralCardSaid : Prop := Claim7.holds Tryz.pinned (.plain (OpenSpec.ofChange floatsGeneralSpec)) floatsGeneralCard

/-- THE TIED CARD OF 'platenlaw06.FloatsBits'. -/
def floatsBitsCard : Claim7 := { stood := { row := floatsBitsRow, standIns := [], harness := (true, "712d34d8b51c81b55c115bf7682f51bfa84354244570d9bf2425ecb035e1853c"), looks := false }, kinds := [], alts := [], laidByText := true, laidKinds := [.data, .pinned, .pinned], laidTests := true, laidLooks := .later }
def FloatsBitsCardSaid : Prop := Claim7.holds Tryz.pinned (.plain (OpenSpec.ofChange floatsBitsSpec)) floatsBitsCard

/-- THE TIED CARD OF 'platenlaw06.FloatsAny'. -/
def floatsAnyCard : Claim7 := { stood := { row := floatsAnyRow, standIns := [], harness := (true, "712d34d8b51c81b55c115bf7682f51bfa84354244570d9bf2425ecb035e1853c"), looks := false }, kinds := [], alts := [], laidByText := true, laidKinds := [.data, .pinned, .pinned], laidTests := true, laidLooks := .later }
def FloatsAnyCardSaid : Prop := Claim7.holds Tryz.pinned (.plain (OpenSpec.ofChange floatsAnySpec)) floatsAnyCard

/-- THE SECOND FORM's CARD OF 'platenlaw05.ShortDigits'. -/
def shortDigitsUptoCard : Claim7 := { stood := { row := shortDigitsUptoRow, standIns := [], harness := (true, "712d34d8b51c81b55c115bf7682f51bfa84354244570d9bf2425ecb035e1853c"), looks := false }, kinds := [], alts := [], laidByText := true, laidKinds := [.data, .pinned], laidTests := true, laidLooks := .later }
def ShortDigitsUptoCardSaid : Prop := Claim7.holds Tryz.pinned (.plain (OpenSpec.upto shortDigitsSpec)) shortDigitsUptoCard

/-- THE SECOND FORM's CARD OF 'platenlaw06.FloatsGeneral'. -/
def floatsGeneralUptoCard : Claim7 := { stood := { row := floatsGeneralUptoRow, standIns := [], harness := (true, "712d34d8b51c81b55c115bf7682f51bfa84354244570d9bf2425ecb035e1853c"), looks := false }, kinds := [], alts := [], laidByText := true, laidKinds := [.data, .pinned, .pinned], laidTests := true, laidLooks := .later }
def FloatsGeneralUptoCardSaid : Prop := Claim7.holds Tryz.pinned (.plain (OpenSpec.upto floatsGeneralSpec)) floatsGeneralUptoCard

/-- THE SECOND FORM's CARD OF 'platenlaw06.FloatsBits'. -/
def floatsBitsUptoCard : Claim7 := { stood := { row := floatsBitsUptoRow, standIns := [], harness := (true, "712d34d8b51c81b55c115bf7682f51bfa84354244570d9bf2425ecb035e1853c"), looks := false }, kinds := [], alts := [], laidByText := true, laidKinds := [.data, .pinned, .pinned], laidTests := true, laidLooks := .later }
def FloatsBitsUptoCardSaid : Prop := Claim7.holds Tryz.pinned (.plain (OpenSpec.upto floatsBitsSpec)) floatsBitsUptoCard

/-- THE SECOND FORM's CARD OF 'platenlaw06.FloatsAny'. -/
def floatsAnyUptoCard : Claim7 := { stood := { row := floatsAnyUptoRow, standIns := [], harness := (true, "712d34d8b51c81b55c115bf7682f51bfa84354244570d9bf2425ecb035e1853c"), looks := false }, kinds := [], alts := [], laidByText := true, laidKinds := [.data, .pinned, .pinned], laidTests := true, laidLooks := .later }
def FloatsAnyUptoCardSaid : Prop := Claim7.holds Tryz.pinned (.plain (OpenSpec.upto floatsAnySpec)) floatsAnyUptoCard
end Rows
end Go.Proofs.YthbabhbfpcfenabGreatDoor
