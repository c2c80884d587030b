/-
  DERIVED. GIVEN WITH THE SEED: THE CARDS: each row of YtkbbiaffphdniaaDoorRows.lean that lists a variable, with what it lists TIED to the program's text (the seventh form; the later family's looks); each row that meets fmt, with fmt's text TOLD by the authors' own Lean function (tested against real Go, not proved from fmt's source: count such statements apart). THE CARD IS WHAT COUNTS. Prove the row's statement (the work); the ties are given (YtkbbiaffphdniaaDoorTie.lean); close each card by the builder's one call (the guide's Derived/Test/ToyasCard.lean, 'card_holds'). Laid BY PROGRAM, IN A SANDBOX (cutbox-door.mjs). By AI agents, Wed Nov 11 2026. No macro, syntax, notation, axiom, sorry.
-/
import Derived.Test.YtkbbiaffphdniaaDoorRows
import GoSem.ClaimSeven
namespace Go.Proofs.YtkbbiaffphdniaaDoor
namespace Rows

/-- THE TIED CARD OF 'platenlaw08.ValuesBuilds'. -/
def valuesBuildsCard : Claim7 := { stood := { row := valuesBuildsRow, standIns := [], harness := (true, "0154f05a8aa7cefaa12a2aba2eb78194b2532fa81c78c735f50b83451c088c3b"), looks := true }, kinds := [], alts := [], laidByText := true, laidKinds := [.data], laidTests := true, laidLooks := .later }
def ValuesBuildsCardSaid : Prop := Claim7.holds Tryd.pinned (.plain (OpenSpec.ofChange valuesBuildsSpec)) valuesBuildsCard

/-- THE TIED CARD OF 'platenlaw08.ValuesTells'. -/
def valuesTellsCard : Claim7 := { stood := { row := valuesTellsRow, standIns := [], harness := (true, "0154f05a8aa7cefaa12a2aba2eb78194b2532fa81c78c735f50b83451c088c3b"), looks := true }, kinds := [], alts := [], laidByText := true, laidKinds := [.data], laidTests := true, laidLooks := .later }
def ValuesTellsCardSaid : Prop := Claim7.holds Tryd.pinned (.plain (OpenSpec.ofChange valuesTellsSpec)) valuesTellsCard

/-- THE TIED CARD OF 'platenlaw08.ValuesCmps'. -/
def valuesCmpsCard : Claim7 := { stood := { row := valuesCmpsRow, standIns := [], harness := (true, "0154f05a8aa7cefaa12a2aba2eb78194b2532fa81c78c735f50b83451c088c3b"), looks := true }, kinds := [], alts := [], laidByText := true, laidKinds := [.data], laidTests := true, laidLooks := .later }
def ValuesCmpsCardSaid : Prop := Claim7.holds Tryd.pinned (.plain (OpenSpec.ofChange valuesCmpsSpec)) valuesCmpsCard

/-- THE TIED CARD OF 'platenlaw08.ValuesBack'. -/
def valuesBackCard : Claim7 := { stood := { row := valuesBackRow, standIns := [], harness := (true, "0154f05a8aa7cefaa12a2aba2eb78194b2532fa81c78c735f50b83451c088c3b"), looks := true }, kinds := [], alts := [], laidByText := true, laidKinds := [.data], laidTests := true, laidLooks := .later }
def ValuesBackCardSaid : Prop := Claim7.holds Tryd.pinned (.plain (OpenSpec.ofChange valuesBackSpec)) valuesBackCard

/-- THE TIED CARD OF 'platenlaw08.ValuesOrders'. -/
def valuesOrdersCard : Claim7 := { stood := { row := valuesOrdersRow, standIns := [], harness := (true, "0154f05a8aa7cefaa12a2aba2eb78194b2532fa81c78c735f50b83451c088c3b"), looks := true }, kinds := [], alts := [], laidByText := true, laidKinds := [.data], laidTests := true, laidLooks := .later }
def ValuesOrdersCardSaid : Prop := Claim7.holds Tryd.pinned (.plain (OpenSpec.ofChange valuesOrdersSpec)) valuesOrdersCard

/-- THE TIED CARD OF 'platenlaw08.ValuesMaps'. -/
def valuesMapsCard : Claim7 := { stood := { row := valuesMapsRow, standIns := [], harness := (true, "0154f05a8aa7cefaa12a2aba2eb78194b2532fa81c78c735f50b83451c088c3b"), looks := true }, kinds := [], alts := [], laidByText := true, laidKinds := [.data], laidTests := true, laidLooks := .later }
def ValuesMapsCardSaid : Prop := Claim7.holds Tryd.pinned (.plain (OpenSpec.ofChange valuesMapsSpec)) valuesMapsCard

/-- THE SECOND FORM's CARD OF 'platenlaw08.ValuesBuilds'. -/
def valuesBuildsUptoCard : Claim7 := { stood := { row := valuesBuildsUptoRow, standIns := [], harness := (true, "0154f05a8aa7cefaa12a2aba2eb78194b2532fa81c78c735f50b83451c088c3b"), looks := true }, kinds := [], alts := [], laidByText := true, laidKinds := [.data], laidTests := true, laidLooks := .later }
def ValuesBuildsUptoCardSaid : Prop := Claim7.holds Tryd.pinned (.plain (OpenSpec.upto valuesBuildsSpec)) valuesBuildsUptoCard

/-- THE SECOND FORM's CARD OF 'platenlaw08.ValuesTells'. -/
def valuesTellsUptoCard : Claim7 := { stood := { row := valuesTellsUptoRow, standIns := [], harness := (true, "0154f05a8aa7cefaa12a2aba2eb78194b2532fa81c78c735f50b83451c088c3b"), looks := true }, kinds := [], alts := [], laidByText := true, laidKinds := [.data], laidTests := true, laidLooks := .later }
def ValuesTellsUptoCardSaid : Prop := Claim7.holds Tryd.pinned (.plain (OpenSpec.upto valuesTellsSpec)) valuesTellsUptoCard

/-- THE SECOND FORM's CARD OF 'platenlaw08.ValuesCmps'. -/
def valuesCmpsUptoCard : Claim7 := { stood := { row := valuesCmpsUptoRow, standIns := [], harness := (true, "0154f05a8aa7cefaa12a2aba2eb78194b2532fa81c78c735f50b83451c088c3b"), looks := true }, kinds := [], alts := [], laidByText := true, laidKinds := [.data], laidTests := true, laidLooks := .later }
def ValuesCmpsUptoCardSaid : Prop := Claim7.holds Tryd.pinned (.plain (OpenSpec.upto valuesCmpsSpec)) valuesCmpsUptoCard

/-- THE SECOND FORM's CARD OF 'platenlaw08.ValuesBack'. -/
def valuesBackUptoCard : Claim7 := { stood := { row := valuesBackUptoRow, standIns := [], harness := (true, "0154f05a8aa7cefaa12a2aba2eb78194b2532fa81c78c735f50b83451c088c3b"), looks := true }, kinds := [], alts := [], laidByText := true, laidKinds := [.data], laidTests := true, laidLooks := .later }
def ValuesBackUptoCardSaid : Prop := Claim7.holds Tryd.pinned (.plain (OpenSpec.upto valuesBackSpec)) valuesBackUptoCard

/-- THE SECOND FORM's CARD OF 'platenlaw08.ValuesOrders'. -/
def valuesOrdersUptoCard : Claim7 := { stood := { row := valuesOrdersUptoRow, standIns := [], harness := (true, "0154f05a8aa7cefaa12a2aba2eb78194b2532fa81c78c735f50b83451c088c3b"), looks := true }, kinds := [], alts := [], laidByText := true, laidKinds := [.data], laidTests := true, laidLooks := .later }
def ValuesOrdersUptoCardSaid : Prop := Claim7.holds Tryd.pinned (.plain (OpenSpec.upto valuesOrdersSpec)) valuesOrdersUptoCard

/-- THE SECOND FORM's CARD OF 'platenlaw08.ValuesMaps'. -/
def valuesMapsUptoCard : Claim7 := { stood := { row := valuesMapsUptoRow, standIns := [], harness := (true, "0154f05a8aa7cefaa12a2aba2eb78194b2532fa81c78c735f50b83451c088c3b"), looks := true }, kinds := [], alts := [], laidByText := true, laidKinds := [.data], laidTests := true, laidLooks := .later }
def ValuesMapsUptoCardSaid : Prop := Claim7.holds Tryd.pinned (.plain (OpenSpec.upto valuesMapsSpec)) valuesMapsUptoCard
end Rows
end Go.Proofs.YtkbbiaffphdniaaDoor
