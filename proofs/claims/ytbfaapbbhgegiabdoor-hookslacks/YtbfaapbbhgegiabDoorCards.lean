/-
  DERIVED. GIVEN WITH THE SEED: THE CARDS: each row of YtbfaapbbhgegiabDoorRows.lean that lists a variable, with what it lists TIED to the program's text (the seventh form; the later family's looks); each row that meets fmt, with fmt's text TOLD by the authors' own Lean function (tested against real Go, not proved from fmt's source: count such statements apart). THE CARD IS WHAT COUNTS. Prove the row's statement (the work); the ties are given (YtbfaapbbhgegiabDoorTie.lean); close each card by the builder's one call (the guide's Derived/Test/ToyasCard.lean, 'card_holds'). Laid BY PROGRAM, IN A SANDBOX (cutbox-door.mjs). By AI agents, Wed Nov 11 2026. No macro, syntax, notation, axiom, sorry.
-/
import Derived.Test.YtbfaapbbhgegiabDoorRows
import GoSem.ClaimSeven
namespace Go.Proofs.YtbfaapbbhgegiabDoor
namespace Rows

/-- THE TIED CARD OF 'platenlaw11.HooksThrows'. -/
def hooksThrowsCard : Claim7 := { stood := { row := hooksThrowsRow, standIns := [], harness := (true, "a5be495912f7c0094dea745f9a2a4c1b054cb81d4490211430432ff9bcf510c9"), looks := true }, kinds := [], alts := [], laidByText := true, laidKinds := [.data], laidTests := true, laidLooks := .later }
def HooksThrowsCardSaid : Prop := Claim7.holds Tryd.pinned (.plain (OpenSpec.ofChange hooksThrowsSpec)) hooksThrowsCard

/-- THE TIED CARD OF 'platenlaw11.HooksLacks'. -/
def hooksLacksCard : Claim7 := { stood := { row := hooksLacksRow, standIns := [], harness := (true, "a5be495912f7c0094dea745f9a2a4c1b054cb81d4490211430432ff9bcf510c9"), looks := true }, kinds := [], alts := [], laidByText := true, laidKinds := [.data], laidTests := true, laidLooks := .later }
def HooksLacksCardSaid : Prop := Claim7.holds Tryd.pinned (.plain (OpenSpec.ofChange hooksLacksSpec)) hooksLacksCard

/-- THE SECOND FORM's CARD OF 'platenlaw11.HooksThrows'. -/
def hooksThrowsUptoCard : Claim7 := { stood := { row := hooksThrowsUptoRow, standIns := [], harness := (true, "a5be495912f7c0094dea745f9a2a4c1b054cb81d4490211430432ff9bcf510c9"), looks := true }, kinds := [], alts := [], laidByText := true, laidKinds := [.data], laidTests := true, laidLooks := .later }
def HooksThrowsUptoCardSaid : Prop := Claim7.holds Tryd.pinned (.plain (OpenSpec.upto hooksThrowsSpec)) hooksThrowsUptoCard

/-- THE SECOND FORM's CARD OF 'platenlaw11.HooksLacks'. -/
def hooksLacksUptoCard : Claim7 := { stood := { row := hooksLacksUptoRow, standIns := [], harness := (true, "a5be495912f7c0094dea745f9a2a4c1b054cb81d4490211430432ff9bcf510c9"), looks := true }, kinds := [], alts := [], laidByText := true, laidKinds := [.data], laidTests := true, laidLooks := .later }
def HooksLacksUptoCardSaid : Prop := Claim7.holds Tryd.pinned (.plain (OpenSpec.upto hooksLacksSpec)) hooksLacksUptoCard
end Rows
end Go.Proofs.YtbfaapbbhgegiabDoor
