/-
  DERIVED. GIVEN WITH THE SEED: THE CARDS: each row of YtcabfeehfimooabDoorRows.lean that lists a variable, with what it lists TIED to the program's text (the seventh form; the later family's looks); each row that meets fmt, with fmt's text TOLD by the authors' own Lean function (tested against real Go, not proved from fmt's source: count such statements apart). THE CARD IS WHAT COUNTS. Prove the row's statement (the work); the ties are given (YtcabfeehfimooabDoorTie.lean); close each card by the builder's one call (the guide's Derived/Test/ToyasCard.lean, 'card_holds'). Laid BY PROGRAM, IN A SANDBOX (cutbox-door.mjs). By AI agents, Wed Nov 11 2026. No macro, syntax, notation, axiom, sorry.
-/
import Derived.Test.YtcabfeehfimooabDoorRows
import GoSem.ClaimSeven
namespace Go.Proofs.YtcabfeehfimooabDoor
namespace Rows

/-- THE TIED CARD OF 'platenlaw08.ValuesMaps'. -/
def valuesMapsCard : Claim7 := { stood := { row := valuesMapsRow, standIns := [], harness := (true, "53c55f18508701b98e614cb21ee4bf7f83ec965281e55156fead44a9fb32ef0a"), looks := true }, kinds := [], alts := [], laidByText := true, laidKinds := [.data], laidTests := true, laidLooks := .later }
def ValuesMapsCardSaid : Prop := Claim7.holds Tryd.pinned (.plain (OpenSpec.ofChange valuesMapsSpec)) valuesMapsCard

/-- THE TIED CARD OF 'platenlaw08.ValuesNumbers'. -/
def valuesNumbersCard : Claim7 := { stood := { row := valuesNumbersRow, standIns := [], harness := (true, "53c55f18508701b98e614cb21ee4bf7f83ec965281e55156fead44a9fb32ef0a"), looks := true }, kinds := [], alts := [], laidByText := true, laidKinds := [.data], laidTests := true, laidLooks := .later }
def ValuesNumbersCardSaid : Prop := Claim7.holds Tryd.pinned (.plain (OpenSpec.ofChange valuesNumbersSpec)) valuesNumbersCard

/-- THE TIED CARD OF 'platenlaw08.ValuesFull'. -/
def valuesFullCard : Claim7 := { stood := { row := valuesFullRow, standIns := [], harness := (true, "53c55f18508701b98e614cb21ee4bf7f83ec965281e55156fead44a9fb32ef0a"), looks := true }, kinds := [], alts := [], laidByText := true, laidKinds := [.data], laidTests := true, laidLooks := .later }
def ValuesFullCardSaid : Prop := Claim7.holds Tryd.pinned (.plain (OpenSpec.ofChange valuesFullSpec)) valuesFullCard

/-- THE TIED CARD OF 'platenlaw08.ValuesApart'. -/
def valuesApartCard : Claim7 := { stood := { row := valuesApartRow, standIns := [], harness := (true, "53c55f18508701b98e614cb21ee4bf7f83ec965281e55156fead44a9fb32ef0a"), looks := true }, kinds := [], alts := [], laidByText := true, laidKinds := [.data], laidTests := true, laidLooks := .later }
def ValuesApartCardSaid : Prop := Claim7.holds Tryd.pinned (.plain (OpenSpec.ofChange valuesApartSpec)) valuesApartCard

/-- THE SECOND FORM's CARD OF 'platenlaw08.ValuesMaps'. -/
def valuesMapsUptoCard : Claim7 := { stood := { row := valuesMapsUptoRow, standIns := [], harness := (true, "53c55f18508701b98e614cb21ee4bf7f83ec965281e55156fead44a9fb32ef0a"), looks := true }, kinds := [], alts := [], laidByText := true, laidKinds := [.data], laidTests := true, laidLooks := .later }
def ValuesMapsUptoCardSaid : Prop := Claim7.holds Tryd.pinned (.plain (OpenSpec.upto valuesMapsSpec)) valuesMapsUptoCard

/-- THE SECOND FORM's CARD OF 'platenlaw08.ValuesNumbers'. -/
def valuesNumbersUptoCard : Claim7 := { stood := { row := valuesNumbersUptoRow, standIns := [], harness := (true, "53c55f18508701b98e614cb21ee4bf7f83ec965281e55156fead44a9fb32ef0a"), looks := true }, kinds := [], alts := [], laidByText := true, laidKinds := [.data], laidTests := true, laidLooks := .later }
def ValuesNumbersUptoCardSaid : Prop := Claim7.holds Tryd.pinned (.plain (OpenSpec.upto valuesNumbersSpec)) valuesNumbersUptoCard

/-- THE SECOND FORM's CARD OF 'platenlaw08.ValuesFull'. -/
def valuesFullUptoCard : Claim7 := { stood := { row := valuesFullUptoRow, standIns := [], harness := (true, "53c55f18508701b98e614cb21ee4bf7f83ec965281e55156fead44a9fb32ef0a"), looks := true }, kinds := [], alts := [], laidByText := true, laidKinds := [.data], laidTests := true, laidLooks := .later }
def ValuesFullUptoCardSaid : Prop := Claim7.holds Tryd.pinned (.plain (OpenSpec.upto valuesFullSpec)) valuesFullUptoCard

/-- THE SECOND FORM's CARD OF 'platenlaw08.ValuesApart'. -/
def valuesApartUptoCard : Claim7 := { stood := { row := valuesApartUptoRow, standIns := [], harness := (true, "53c55f18508701b98e614cb21ee4bf7f83ec965281e55156fead44a9fb32ef0a"), looks := true }, kinds := [], alts := [], laidByText := true, laidKinds := [.data], laidTests := true, laidLooks := .later }
def ValuesApartUptoCardSaid : Prop := Claim7.holds Tryd.pinned (.plain (OpenSpec.upto valuesApartSpec)) valuesApartUptoCard
end Rows
end Go.Proofs.YtcabfeehfimooabDoor
