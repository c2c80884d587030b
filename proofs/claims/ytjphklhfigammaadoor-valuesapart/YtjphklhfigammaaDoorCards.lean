/-
  DERIVED. GIVEN WITH THE SEED: THE CARDS: each row of YtjphklhfigammaaDoorRows.lean that lists a variable, with what it lists TIED to the program's text (the seventh form; the later family's looks); each row that meets fmt, with fmt's text TOLD by the authors' own Lean function (tested against real Go, not proved from fmt's source: count such statements apart). THE CARD IS WHAT COUNTS. Prove the row's statement (the work); the ties are given (YtjphklhfigammaaDoorTie.lean); close each card by the builder's one call (the guide's Derived/Test/ToyasCard.lean, 'card_holds'). Laid BY PROGRAM, IN A SANDBOX (cutbox-door.mjs). By AI agents, Wed Nov 11 2026. No macro, syntax, notation, axiom, sorry.
-/
import Derived.Test.YtjphklhfigammaaDoorRows
import GoSem.ClaimSeven
namespace Go.Proofs.YtjphklhfigammaaDoor
namespace Rows

/-- THE TIED CARD OF 'platenlaw08.ValuesBack'. -/
def valuesBackCard : Claim7 := { stood := { row := valuesBackRow, standIns := [], harness := (true, "110e201d52fdead46fbf744f1a9242707235b4dc1ad75dd00f63968c7ad6af39"), looks := true }, kinds := [], alts := [], laidByText := true, laidKinds := [.data], laidTests := true, laidLooks := .later }
def ValuesBackCardSaid : Prop := Claim7.holds Tryd.pinned (.plain (OpenSpec.ofChange valuesBackSpec)) valuesBackCard

/-- THE TIED CARD OF 'platenlaw08.ValuesOrders'. -/
def valuesOrdersCard : Claim7 := { stood := { row := valuesOrdersRow, standIns := [], harness := (true, "110e201d52fdead46fbf744f1a9242707235b4dc1ad75dd00f63968c7ad6af39"), looks := true }, kinds := [], alts := [], laidByText := true, laidKinds := [.data], laidTests := true, laidLooks := .later }
def ValuesOrdersCardSaid : Prop := Claim7.holds Tryd.pinned (.plain (OpenSpec.ofChange valuesOrdersSpec)) valuesOrdersCard

/-- THE TIED CARD OF 'platenlaw08.ValuesMaps'. -/
def valuesMapsCard : Claim7 := { stood := { row := valuesMapsRow, standIns := [], harness := (true, "110e201d52fdead46fbf744f1a9242707235b4dc1ad75dd00f63968c7ad6af39"), looks := true }, kinds := [], alts := [], laidByText := true, laidKinds := [.data], laidTests := true, laidLooks := .later }
def ValuesMapsCardSaid : Prop := Claim7.holds Tryd.pinned (.plain (OpenSpec.ofChange valuesMapsSpec)) valuesMapsCard

/-- THE TIED CARD OF 'platenlaw08.ValuesApart'. -/
def valuesApartCard : Claim7 := { stood := { row := valuesApartRow, standIns := [], harness := (true, "110e201d52fdead46fbf744f1a9242707235b4dc1ad75dd00f63968c7ad6af39"), looks := true }, kinds := [], alts := [], laidByText := true, laidKinds := [.data], laidTests := true, laidLooks := .later }
def ValuesApartCardSaid : Prop := Claim7.holds Tryd.pinned (.plain (OpenSpec.ofChange valuesApartSpec)) valuesApartCard

/-- THE SECOND FORM's CARD OF 'platenlaw08.ValuesBack'. -/
def valuesBackUptoCard : Claim7 := { stood := { row := valuesBackUptoRow, standIns := [], harness := (true, "110e201d52fdead46fbf744f1a9242707235b4dc1ad75dd00f63968c7ad6af39"), looks := true }, kinds := [], alts := [], laidByText := true, laidKinds := [.data], laidTests := true, laidLooks := .later }
def ValuesBackUptoCardSaid : Prop := Claim7.holds Tryd.pinned (.plain (OpenSpec.upto valuesBackSpec)) valuesBackUptoCard

/-- THE SECOND FORM's CARD OF 'platenlaw08.ValuesOrders'. -/
def valuesOrdersUptoCard : Claim7 := { stood := { row := valuesOrdersUptoRow, standIns := [], harness := (true, "110e201d52fdead46fbf744f1a9242707235b4dc1ad75dd00f63968c7ad6af39"), looks := true }, kinds := [], alts := [], laidByText := true, laidKinds := [.data], laidTests := true, laidLooks := .later }
def ValuesOrdersUptoCardSaid : Prop := Claim7.holds Tryd.pinned (.plain (OpenSpec.upto valuesOrdersSpec)) valuesOrdersUptoCard

/-- THE SECOND FORM's CARD OF 'platenlaw08.ValuesMaps'. -/
def valuesMapsUptoCard : Claim7 := { stood := { row := valuesMapsUptoRow, standIns := [], harness := (true, "110e201d52fdead46fbf744f1a9242707235b4dc1ad75dd00f63968c7ad6af39"), looks := true }, kinds := [], alts := [], laidByText := true, laidKinds := [.data], laidTests := true, laidLooks := .later }
def ValuesMapsUptoCardSaid : Prop := Claim7.holds Tryd.pinned (.plain (OpenSpec.upto valuesMapsSpec)) valuesMapsUptoCard

/-- THE SECOND FORM's CARD OF 'platenlaw08.ValuesApart'. -/
def valuesApartUptoCard : Claim7 := { stood := { row := valuesApartUptoRow, standIns := [], harness := (true, "110e201d52fdead46fbf744f1a9242707235b4dc1ad75dd00f63968c7ad6af39"), looks := true }, kinds := [], alts := [], laidByText := true, laidKinds := [.data], laidTests := true, laidLooks := .later }
def ValuesApartUptoCardSaid : Prop := Claim7.holds Tryd.pinned (.plain (OpenSpec.upto valuesApartSpec)) valuesApartUptoCard
end Rows
end Go.Proofs.YtjphklhfigammaaDoor
