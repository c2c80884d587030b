/-
  DERIVED. GIVEN WITH THE SEED: THE CARDS: each row of YtjalgdfnehgocaaGreatDoorRows.lean that lists a variable, with what it lists TIED to the program's text (the seventh form; the later family's looks); each row that meets fmt, with fmt's text TOLD by the authors' own Lean function (tested against real Go, not proved from fmt's source: count such statements apart). THE CARD IS WHAT COUNTS. Prove the row's statement (the work); the ties are given (YtjalgdfnehgocaaGreatDoorTie.lean); close each card by the builder's one call (the guide's Derived/Test/ToyasCard.lean, 'card_holds'). Laid BY PROGRAM, IN A SANDBOX (cutbox-door.mjs). By AI agents, Wed Nov 11 2026. No macro, syntax, notation, axiom, sorry.
-/
import Derived.Test.YtjalgdfnehgocaaGreatDoorRows
import GoSem.ClaimSeven
namespace Go.Proofs.YtjalgdfnehgocaaGreatDoor
namespace Rows

/-- THE TIED CARD OF 'platentop.TopDepths'. -/
def topDepthsCard : Claim7 := { stood := { row := topDepthsRow, standIns := [], harness := (true, "442af4e42a8ee759776e065211121fe8991567b1dc17c4d213107026f8cd3c79"), looks := true }, kinds := [], alts := [], laidByText := true, laidKinds := [.data, .data, .data, .pinned, .pinned], laidTests := true, laidLooks := .later }
def TopDepthsCardSaid : Prop := Claim7.holds Tryz.pinned (.plain (OpenSpec.ofChange topDepthsSpec)) topDepthsCard

/-- THE TIED CARD OF 'platentop.TopPanics'. -/
def topPanicsCard : Claim7 := { stood := { row := topPanicsRow, standIns := [], harness := (true, "442af4e42a8ee759776e065211121fe8991567b1dc17c4d213107026f8cd3c79"), looks := true }, kinds := [], alts := [], laidByText := true, laidKinds := [.data, .data, .data, .pinned, .pinned], laidTests := true, laidLooks := .later }
def TopPanicsCardSaid : Prop := Claim7.holds Tryz.pinned (.plain (OpenSpec.ofChange topPanicsSpec)) topPanicsCard

/-- THE TIED CARD OF 'platentop.TopNil'. -/
def topNilCard : Claim7 := { stood := { row := topNilRow, standIns := [], harness := (true, "442af4e42a8ee759776e065211121fe8991567b1dc17c4d213107026f8cd3c79"), looks := true }, kinds := [], alts := [], laidByText := true, laidKinds := [.data, .data, .data, .pinned, .pinned], laidTests := true, laidLooks := .later }
def TopNilCardSaid : Prop := Claim7.holds Tryz.pinned (.plain (OpenSpec.ofChange topNilSpec)) topNilCard

/-- THE TIED CARD OF 'platentop.TopDispatch'. -/
def topDispatchCard : Claim7 := { stood := { row := topDispatchRow, standIns := [], harness := (true, "442af4e42a8ee759776e065211121fe8991567b1dc17c4d213107026f8cd3c79"), looks := true }, kinds := [], alts := [], laidByText := true, laidKinds := [.data, .data, .data, .pinned, .pinned], laidTests := true, laidLooks := .later }
def TopDispatchCardSaid : Prop := Claim7.holds Tryz.pinned (.plain (OpenSpec.ofChange topDispatchSpec)) topDispatchCard

/-- THE TIED CARD OF 'platentop.TopTexts'. -/
def topTextsCard : Claim7 := { stood := { row := topTextsRow, standIns := [], harness := (true, "442af4e42a8ee759776e065211121fe8991567b1dc17c4d213107026f8cd3c79"), looks := true }, kinds := [], alts := [], laidByText := true, laidKinds := [.data, .data, .data, .pinned, .pinned], laidTests := true, laidLooks := .later }
def TopTextsCardSaid : Prop := Claim7.holds Tryz.pinned (.plain (OpenSpec.ofChange topTextsSpec)) topTextsCard

/-- THE TIED CARD OF 'platentop.TopNumbers'. -/
def topNumbersCard : Claim7 := { stood := { row := topNumbersRow, standIns := [], harness := (true, "442af4e42a8ee759776e065211121fe8991567b1dc17c4d213107026f8cd3c79"), looks := true }, kinds := [], alts := [], laidByText := true, laidKinds := [.data, .data, .data, .pinned, .pinned], laidTests := true, laidLooks := .later }
def TopNumbersCardSaid : Prop := Claim7.holds Tryz.pinned (.plain (OpenSpec.ofChange topNumbersSpec)) topNumbersCard

/-- THE SECOND FORM's CARD OF 'platentop.TopDepths'. -/
def topDepthsUptoCard : Claim7 := { stood := { row := topDepthsUptoRow, standIns := [], harness := (true, "442af4e42a8ee759776e065211121fe8991567b1dc17c4d213107026f8cd3c79"), looks := true }, kinds := [], alts := [], laidByText := true, laidKinds := [.data, .data, .data, .pinned, .pinned], laidTests := true, laidLooks := .later }
def TopDepthsUptoCardSaid : Prop := Claim7.holds Tryz.pinned (.plain (OpenSpec.upto topDepthsSpec)) topDepthsUptoCard

/-- THE SECOND FORM's CARD OF 'platentop.TopPanics'. -/
def topPanicsUptoCard : Claim7 := { stood := { row := topPanicsUptoRow, standIns := [], harness := (true, "442af4e42a8ee759776e065211121fe8991567b1dc17c4d213107026f8cd3c79"), looks := true }, kinds := [], alts := [], laidByText := true, laidKinds := [.data, .data, .data, .pinned, .pinned], laidTests := true, laidLooks := .later }
def TopPanicsUptoCardSaid : Prop := Claim7.holds Tryz.pinned (.plain (OpenSpec.upto topPanicsSpec)) topPanicsUptoCard

/-- THE SECOND FORM's CARD OF 'platentop.TopNil'. -/
def topNilUptoCard : Claim7 := { stood := { row := topNilUptoRow, standIns := [], harness := (true, "442af4e42a8ee759776e065211121fe8991567b1dc17c4d213107026f8cd3c79"), looks := true }, kinds := [], alts := [], laidByText := true, laidKinds := [.data, .data, .data, .pinned, .pinned], laidTests := true, laidLooks := .later }
def TopNilUptoCardSaid : Prop := Claim7.holds Tryz.pinned (.plain (OpenSpec.upto topNilSpec)) topNilUptoCard

/-- THE SECOND FORM's CARD OF 'platentop.TopDispatch'. -/
def topDispatchUptoCard : Claim7 := { stood := { row := topDispatchUptoRow, standIns := [], harness := (true, "442af4e42a8ee759776e065211121fe8991567b1dc17c4d213107026f8cd3c79"), looks := true }, kinds := [], alts := [], laidByText := true, laidKinds := [.data, .data, .data, .pinned, .pinned], laidTests := true, laidLooks := .later }
def TopDispatchUptoCardSaid : Prop := Claim7.holds Tryz.pinned (.plain (OpenSpec.upto topDispatchSpec)) topDispatchUptoCard

/-- THE SECOND FORM's CARD OF 'platentop.TopTexts'. -/
def topTextsUptoCard : Claim7 := { stood := { row := topTextsUptoRow, standIns := [], harness := (true, "442af4e42a8ee759776e065211121fe8991567b1dc17c4d213107026f8cd3c79"), looks := true }, kinds := [], alts := [], laidByText := true, laidKinds := [.data, .data, .data, .pinned, .pinned], laidTests := true, laidLooks := .later }
def TopTextsUptoCardSaid : Prop := Claim7.holds Tryz.pinned (.plain (OpenSpec.upto topTextsSpec)) topTextsUptoCard

/-- THE SECOND FORM's CARD OF 'platentop.TopNumbers'. -/
def topNumbersUptoCard : Claim7 := { stood := { row := topNumbersUptoRow, standIns := [], harness := (true, "442af4e42a8ee759776e065211121fe8991567b1dc17c4d213107026f8cd3c79"), looks := true }, kinds := [], alts := [], laidByText := true, laidKinds := [.data, .data, .data, .pinned, .pinned], laidTests := true, laidLooks := .later }
def TopNumbersUptoCardSaid : Prop := Claim7.holds Tryz.pinned (.plain (OpenSpec.upto topNumbersSpec)) topNumbersUptoCard
end Rows
end Go.Proofs.YtjalgdfnehgocaaGreatDoor
