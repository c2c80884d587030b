/-
  DERIVED. GIVEN WITH THE SEED: THE CARDS: each row of YtnoelbomcogndacDoorRows.lean that lists a variable, with what it lists TIED to the program's text (the seventh form; the later family's looks); each row that meets fmt, with fmt's text TOLD by the authors' own Lean function (tested against real Go, not proved from fmt's source: count such statements apart). THE CARD IS WHAT COUNTS. Prove the row's statement (the work); the ties are given (YtnoelbomcogndacDoorTie.lean); close each card by the builder's one call (the guide's Derived/Test/ToyasCard.lean, 'card_holds'). Laid BY PROGRAM, IN A SANDBOX (cutbox-door.mjs). By AI agents, Wed Nov 11 2026. No macro, syntax, notation, axiom, sorry.
-/
import Derived.Test.YtnoelbomcogndacDoorRows
import GoSem.ClaimSeven
namespace Go.Proofs.YtnoelbomcogndacDoor
namespace Rows

/-- THE TIED CARD OF 'platenlaw03.IntsSigns'. -/
def intsSignsCard : Claim7 := { stood := { row := intsSignsRow, standIns := [], harness := (true, "39b68ba4fc871e14be8c2473c1e7498d44a349a81921764eef3874db29c4f188"), looks := false }, kinds := [], alts := [], laidByText := true, laidKinds := [.data, .data, .pinned, .pinned], laidTests := true, laidLooks := .later }
def IntsSignsCardSaid : Prop := Claim7.holds Tryd.pinned (.plain (OpenSpec.ofChange intsSignsSpec)) intsSignsCard

/-- THE TIED CARD OF 'platenlaw03.IntsAlike'. -/
def intsAlikeCard : Claim7 := { stood := { row := intsAlikeRow, standIns := [], harness := (true, "39b68ba4fc871e14be8c2473c1e7498d44a349a81921764eef3874db29c4f188"), looks := false }, kinds := [], alts := [], laidByText := true, laidKinds := [.data, .data, .pinned, .pinned], laidTests := true, laidLooks := .later }
def IntsAlikeCardSaid : Prop := Claim7.holds Tryd.pinned (.plain (OpenSpec.ofChange intsAlikeSpec)) intsAlikeCard

/-- THE TIED CARD OF 'platenlaw03.IntsZeros'. -/
def intsZerosCard : Claim7 := { stood := { row := intsZerosRow, standIns := [], harness := (true, "39b68ba4fc871e14be8c2473c1e7498d44a349a81921764eef3874db29c4f188"), looks := false }, kinds := [], alts := [], laidByText := true, laidKinds := [.data, .data, .pinned, .pinned], laidTests := true, laidLooks := .later }
def IntsZerosCardSaid : Prop := Claim7.holds Tryd.pinned (.plain (OpenSpec.ofChange intsZerosSpec)) intsZerosCard

/-- THE TIED CARD OF 'platenlaw03.IntsSides'. -/
def intsSidesCard : Claim7 := { stood := { row := intsSidesRow, standIns := [], harness := (true, "39b68ba4fc871e14be8c2473c1e7498d44a349a81921764eef3874db29c4f188"), looks := false }, kinds := [], alts := [], laidByText := true, laidKinds := [.data, .data, .pinned, .pinned], laidTests := true, laidLooks := .later }
def IntsSidesCardSaid : Prop := Claim7.holds Tryd.pinned (.plain (OpenSpec.ofChange intsSidesSpec)) intsSidesCard

/-- THE SECOND FORM's CARD OF 'platenlaw03.IntsSigns'. -/
def intsSignsUptoCard : Claim7 := { stood := { row := intsSignsUptoRow, standIns := [], harness := (true, "39b68ba4fc871e14be8c2473c1e7498d44a349a81921764eef3874db29c4f188"), looks := false }, kinds := [], alts := [], laidByText := true, laidKinds := [.data, .data, .pinned, .pinned], laidTests := true, laidLooks := .later }
def IntsSignsUptoCardSaid : Prop := Claim7.holds Tryd.pinned (.plain (OpenSpec.upto intsSignsSpec)) intsSignsUptoCard

/-- THE SECOND FORM's CARD OF 'platenlaw03.IntsAlike'. -/
def intsAlikeUptoCard : Claim7 := { stood := { row := intsAlikeUptoRow, standIns := [], harness := (true, "39b68ba4fc871e14be8c2473c1e7498d44a349a81921764eef3874db29c4f188"), looks := false }, kinds := [], alts := [], laidByText := true, laidKinds := [.data, .data, .pinned, .pinned], laidTests := true, laidLooks := .later }
def IntsAlikeUptoCardSaid : Prop := Claim7.holds Tryd.pinned (.plain (OpenSpec.upto intsAlikeSpec)) intsAlikeUptoCard

/-- THE SECOND FORM's CARD OF 'platenlaw03.IntsZeros'. -/
def intsZerosUptoCard : Claim7 := { stood := { row := intsZerosUptoRow, standIns := [], harness := (true, "39b68ba4fc871e14be8c2473c1e7498d44a349a81921764eef3874db29c4f188"), looks := false }, kinds := [], alts := [], laidByText := true, laidKinds := [.data, .data, .pinned, .pinned], laidTests := true, laidLooks := .later }
def IntsZerosUptoCardSaid : Prop := Claim7.holds Tryd.pinned (.plain (OpenSpec.upto intsZerosSpec)) intsZerosUptoCard

/-- THE SECOND FORM's CARD OF 'platenlaw03.IntsSides'. -/
def intsSidesUptoCard : Claim7 := { stood := { row := intsSidesUptoRow, standIns := [], harness := (true, "39b68ba4fc871e14be8c2473c1e7498d44a349a81921764eef3874db29c4f188"), looks := false }, kinds := [], alts := [], laidByText := true, laidKinds := [.data, .data, .pinned, .pinned], laidTests := true, laidLooks := .later }
def IntsSidesUptoCardSaid : Prop := Claim7.holds Tryd.pinned (.plain (OpenSpec.upto intsSidesSpec)) intsSidesUptoCard
end Rows
end Go.Proofs.YtnoelbomcogndacDoor
