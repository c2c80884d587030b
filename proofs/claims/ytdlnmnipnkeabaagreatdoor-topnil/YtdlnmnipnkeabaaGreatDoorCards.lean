/-
  DERIVED. GIVEN WITH THE SEED: THE CARDS: each row of YtdlnmnipnkeabaaGreatDoorRows.lean that lists a variable, with what it lists TIED to the program's text (the seventh form; the later family's looks); each row that meets fmt, with fmt's text TOLD by the authors' own Lean function (tested against real Go, not proved from fmt's source: count such statements apart). THE CARD IS WHAT COUNTS. Prove the row's statement (the work); the ties are given (YtdlnmnipnkeabaaGreatDoorTie.lean); close each card by the builder's one call (the guide's Derived/Test/ToyasCard.lean, 'card_holds'). Laid BY PROGRAM, IN A SANDBOX (cutbox-door.mjs). By AI agents, Wed Nov 11 2026. No macro, syntax, notation, axiom, sorry.
-/
import Derived.Test.YtdlnmnipnkeabaaGreatDoorRows
import GoSem.ClaimSeven
namespace Go.Proofs.YtdlnmnipnkeabaaGreatDoor
namespace Rows

/-- THE TIED CARD OF 'platentop.TopDispatch'. -/
def topDispatchCard : Claim7 := { stood := { row := topDispatchRow, standIns := [], harness := (true, "7428fce40b5c4aa9943550a2b495d48f4737cbe56f359ec13deda0cf58218788"), looks := true }, kinds := [], alts := [], laidByText := true, laidKinds := [.data, .data, .data, .pinned, .pinned], laidTests := true, laidLooks := .later }
def TopDispatchCardSaid : Prop := Claim7.holds Tryz.pinned (.plain (OpenSpec.ofChange topDispatchSpec)) topDispatchCard

/-- THE TIED CARD OF 'platentop.TopNil'. -/
def topNilCard : Claim7 := { stood := { row := topNilRow, standIns := [], harness := (true, "7428fce40b5c4aa9943550a2b495d48f4737cbe56f359ec13deda0cf58218788"), looks := true }, kinds := [], alts := [], laidByText := true, laidKinds := [.data, .data, .data, .pinned, .pinned], laidTests := true, laidLooks := .later }
def TopNilCardSaid : Prop := Claim7.holds Tryz.pinned (.plain (OpenSpec.ofChange topNilSpec)) topNilCard

/-- THE TIED CARD OF 'platentop.TopPanics'. -/
def topPanicsCard : Claim7 := { stood := { row := topPanicsRow, standIns := [], harness := (true, "7428fce40b5c4aa9943550a2b495d48f4737cbe56f359ec13deda0cf58218788"), looks := true }, kinds := [], alts := [], laidByText := true, laidKinds := [.data, .data, .data, .pinned, .pinned], laidTests := true, laidLooks := .later }
def TopPanicsCardSaid : Prop := Claim7.holds Tryz.pinned (.plain (OpenSpec.ofChange topPanicsSpec)) topPanicsCard

/-- THE TIED CARD OF 'platentop.TopDepths'. -/
def topDepthsCard : Claim7 := { stood := { row := topDepthsRow, standIns := [], harness := (true, "7428fce40b5c4aa9943550a2b495d48f4737cbe56f359ec13deda0cf58218788"), looks := true }, kinds := [], alts := [], laidByText := true, laidKinds := [.data, .data, .data, .pinned, .pinned], laidTests := true, laidLooks := .later }
def TopDepthsCardSaid : Prop := Claim7.holds Tryz.pinned (.plain (OpenSpec.ofChange topDepthsSpec)) topDepthsCard

/-- THE SECOND FORM's CARD OF 'platentop.TopDispatch'. -/
def topDispatchUptoCard : Claim7 := { stood := { row := topDispatchUptoRow, standIns := [], harness := (true, "7428fce40b5c4aa9943550a2b495d48f4737cbe56f359ec13deda0cf58218788"), looks := true }, kinds := [], alts := [], laidByText := true, laidKinds := [.data, .data, .data, .pinned, .pinned], laidTests := true, laidLooks := .later }
def TopDispatchUptoCardSaid : Prop := Claim7.holds Tryz.pinned (.plain (OpenSpec.upto topDispatchSpec)) topDispatchUptoCard

/-- THE SECOND FORM's CARD OF 'platentop.TopNil'. -/
def topNilUptoCard : Claim7 := { stood := { row := topNilUptoRow, standIns := [], harness := (true, "7428fce40b5c4aa9943550a2b495d48f4737cbe56f359ec13deda0cf58218788"), looks := true }, kinds := [], alts := [], laidByText := true, laidKinds := [.data, .data, .data, .pinned, .pinned], laidTests := true, laidLooks := .later }
def TopNilUptoCardSaid : Prop := Claim7.holds Tryz.pinned (.plain (OpenSpec.upto topNilSpec)) topNilUptoCard

/-- THE SECOND FORM's CARD OF 'platentop.TopPanics'. -/
def topPanicsUptoCard : Claim7 := { stood := { row := topPanicsUptoRow, standIns := [], harness := (true, "7428fce40b5c4aa9943550a2b495d48f4737cbe56f359ec13deda0cf58218788"), looks := true }, kinds := [], alts := [], laidByText := true, laidKinds := [.data, .data, .data, .pinned, .pinned], laidTests := true, laidLooks := .later }
def TopPanicsUptoCardSaid : Prop := Claim7.holds Tryz.pinned (.plain (OpenSpec.upto topPanicsSpec)) topPanicsUptoCard

/-- THE SECOND FORM's CARD OF 'platentop.TopDepths'. -/
def topDepthsUptoCard : Claim7 := { stood := { row := topDepthsUptoRow, standIns := [], harness := (true, "7428fce40b5c4aa9943550a2b495d48f4737cbe56f359ec13deda0cf58218788"), looks := true }, kinds := [], alts := [], laidByText := true, laidKinds := [.data, .data, .data, .pinned, .pinned], laidTests := true, laidLooks := .later }
def TopDepthsUptoCardSaid : Prop := Claim7.holds Tryz.pinned (.plain (OpenSpec.upto topDepthsSpec)) topDepthsUptoCard
end Rows
end Go.Proofs.YtdlnmnipnkeabaaGreatDoor
