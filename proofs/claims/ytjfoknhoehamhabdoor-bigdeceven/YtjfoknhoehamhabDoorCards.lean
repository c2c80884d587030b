/-
  DERIVED. GIVEN WITH THE SEED: THE CARDS: each row of YtjfoknhoehamhabDoorRows.lean that lists a variable, with what it lists TIED to the program's text (the seventh form; the later family's looks); each row that meets fmt, with fmt's text TOLD by the authors' own Lean function (tested against real Go, not proved from fmt's source: count such statements apart). THE CARD IS WHAT COUNTS. Prove the row's statement (the work); the ties are given (YtjfoknhoehamhabDoorTie.lean); close each card by the builder's one call (the guide's Derived/Test/ToyasCard.lean, 'card_holds'). Laid BY PROGRAM, IN A SANDBOX (cutbox-door.mjs). By AI agents, Wed Nov 11 2026. No macro, syntax, notation, axiom, sorry.
-/
import Derived.Test.YtjfoknhoehamhabDoorRows
import GoSem.ClaimSeven
namespace Go.Proofs.YtjfoknhoehamhabDoor
namespace Rows

/-- THE TIED CARD OF 'platenlaw04.BigdecDoubles'. -/
def bigdecDoublesCard : Claim7 := { stood := { row := bigdecDoublesRow, standIns := [], harness := (true, "997ec6806acdb28b02c30edaae7917bd427b92fa087b038a5453ae2e7cc0597b"), looks := false }, kinds := [], alts := [], laidByText := true, laidKinds := [.data, .pinned], laidTests := true, laidLooks := .later }
def BigdecDoublesCardSaid : Prop := Claim7.holds Tryd.pinned (.plain (OpenSpec.ofChange bigdecDoublesSpec)) bigdecDoublesCard

/-- THE TIED CARD OF 'platenlaw04.BigdecOrders'. -/
def bigdecOrdersCard : Claim7 := { stood := { row := bigdecOrdersRow, standIns := [], harness := (true, "997ec6806acdb28b02c30edaae7917bd427b92fa087b038a5453ae2e7cc0597b"), looks := false }, kinds := [], alts := [], laidByText := true, laidKinds := [.data, .pinned], laidTests := true, laidLooks := .later }
def BigdecOrdersCardSaid : Prop := Claim7.holds Tryd.pinned (.plain (OpenSpec.ofChange bigdecOrdersSpec)) bigdecOrdersCard

/-- THE TIED CARD OF 'platenlaw04.BigdecNear'. -/
def bigdecNearCard : Claim7 := { stood := { row := bigdecNearRow, standIns := [], harness := (true, "997ec6806acdb28b02c30edaae7917bd427b92fa087b038a5453ae2e7cc0597b"), looks := false }, kinds := [], alts := [], laidByText := true, laidKinds := [.data, .pinned], laidTests := true, laidLooks := .later }
def BigdecNearCardSaid : Prop := Claim7.holds Tryd.pinned (.plain (OpenSpec.ofChange bigdecNearSpec)) bigdecNearCard

/-- THE TIED CARD OF 'platenlaw04.BigdecEven'. -/
def bigdecEvenCard : Claim7 := { stood := { row := bigdecEvenRow, standIns := [], harness := (true, "997ec6806acdb28b02c30edaae7917bd427b92fa087b038a5453ae2e7cc0597b"), looks := false }, kinds := [], alts := [], laidByText := true, laidKinds := [.data, .pinned], laidTests := true, laidLooks := .later }
def BigdecEvenCardSaid : Prop := Claim7.holds Tryd.pinned (.plain (OpenSpec.ofChange bigdecEvenSpec)) bigdecEvenCard

/-- THE SECOND FORM's CARD OF 'platenlaw04.BigdecDoubles'. -/
def bigdecDoublesUptoCard : Claim7 := { stood := { row := bigdecDoublesUptoRow, standIns := [], harness := (true, "997ec6806acdb28b02c30edaae7917bd427b92fa087b038a5453ae2e7cc0597b"), looks := false }, kinds := [], alts := [], laidByText := true, laidKinds := [.data, .pinned], laidTests := true, laidLooks := .later }
def BigdecDoublesUptoCardSaid : Prop := Claim7.holds Tryd.pinned (.plain (OpenSpec.upto bigdecDoublesSpec)) bigdecDoublesUptoCard

/-- THE SECOND FORM's CARD OF 'platenlaw04.BigdecOrders'. -/
def bigdecOrdersUptoCard : Claim7 := { stood := { row := bigdecOrdersUptoRow, standIns := [], harness := (true, "997ec6806acdb28b02c30edaae7917bd427b92fa087b038a5453ae2e7cc0597b"), looks := false }, kinds := [], alts := [], laidByText := true, laidKinds := [.data, .pinned], laidTests := true, laidLooks := .later }
def BigdecOrdersUptoCardSaid : Prop := Claim7.holds Tryd.pinned (.plain (OpenSpec.upto bigdecOrdersSpec)) bigdecOrdersUptoCard

/-- THE SECOND FORM's CARD OF 'platenlaw04.BigdecNear'. -/
def bigdecNearUptoCard : Claim7 := { stood := { row := bigdecNearUptoRow, standIns := [], harness := (true, "997ec6806acdb28b02c30edaae7917bd427b92fa087b038a5453ae2e7cc0597b"), looks := false }, kinds := [], alts := [], laidByText := true, laidKinds := [.data, .pinned], laidTests := true, laidLooks := .later }
def BigdecNearUptoCardSaid : Prop := Claim7.holds Tryd.pinned (.plain (OpenSpec.upto bigdecNearSpec)) bigdecNearUptoCard

/-- THE SECOND FORM's CARD OF 'platenlaw04.BigdecEven'. -/
def bigdecEvenUptoCard : Claim7 := { stood := { row := bigdecEvenUptoRow, standIns := [], harness := (true, "997ec6806acdb28b02c30edaae7917bd427b92fa087b038a5453ae2e7cc0597b"), looks := false }, kinds := [], alts := [], laidByText := true, laidKinds := [.data, .pinned], laidTests := true, laidLooks := .later }
def BigdecEvenUptoCardSaid : Prop := Claim7.holds Tryd.pinned (.plain (OpenSpec.upto bigdecEvenSpec)) bigdecEvenUptoCard
end Rows
end Go.Proofs.YtjfoknhoehamhabDoor
