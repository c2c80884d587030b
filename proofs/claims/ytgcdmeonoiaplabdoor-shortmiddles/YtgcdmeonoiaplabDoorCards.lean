/-
  DERIVED. GIVEN WITH THE SEED: THE CARDS: each row of YtgcdmeonoiaplabDoorRows.lean that lists a variable, with what it lists TIED to the program's text (the seventh form; the later family's looks); each row that meets fmt, with fmt's text TOLD by the authors' own Lean function (tested against real Go, not proved from fmt's source: count such statements apart). THE CARD IS WHAT COUNTS. Prove the row's statement (the work); the ties are given (YtgcdmeonoiaplabDoorTie.lean); close each card by the builder's one call (the guide's Derived/Test/ToyasCard.lean, 'card_holds'). Laid BY PROGRAM, IN A SANDBOX (cutbox-door.mjs). By AI agents, Wed Nov 11 2026. No macro, syntax, notation, axiom, sorry.
-/
import Derived.Test.YtgcdmeonoiaplabDoorRows
import GoSem.ClaimSeven
namespace Go.Proofs.YtgcdmeonoiaplabDoor
namespace Rows

/-- THE TIED CARD OF 'platenlaw05.ShortExacts'. -/
def shortExactsCard : Claim7 := { stood := { row := shortExactsRow, standIns := [], harness := (true, "c3c7b388580111ff132fbb8e43e5e62646226e452b51e66dc78e1baedcf20482"), looks := false }, kinds := [], alts := [], laidByText := true, laidKinds := [.data, .pinned], laidTests := true, laidLooks := .later }
def ShortExactsCardSaid : Prop := Claim7.holds Tryd.pinned (.plain (OpenSpec.ofChange shortExactsSpec)) shortExactsCard

/-- THE TIED CARD OF 'platenlaw05.ShortRises'. -/
def shortRisesCard : Claim7 := { stood := { row := shortRisesRow, standIns := [], harness := (true, "c3c7b388580111ff132fbb8e43e5e62646226e452b51e66dc78e1baedcf20482"), looks := false }, kinds := [], alts := [], laidByText := true, laidKinds := [.data, .pinned], laidTests := true, laidLooks := .later }
def ShortRisesCardSaid : Prop := Claim7.holds Tryd.pinned (.plain (OpenSpec.ofChange shortRisesSpec)) shortRisesCard

/-- THE TIED CARD OF 'platenlaw05.ShortMiddles'. -/
def shortMiddlesCard : Claim7 := { stood := { row := shortMiddlesRow, standIns := [], harness := (true, "c3c7b388580111ff132fbb8e43e5e62646226e452b51e66dc78e1baedcf20482"), looks := false }, kinds := [], alts := [], laidByText := true, laidKinds := [.data, .pinned], laidTests := true, laidLooks := .later }
def ShortMiddlesCardSaid : Prop := Claim7.holds Tryd.pinned (.plain (OpenSpec.ofChange shortMiddlesSpec)) shortMiddlesCard

/-- THE TIED CARD OF 'platenlaw05.ShortRefuses'. -/
def shortRefusesCard : Claim7 := { stood := { row := shortRefusesRow, standIns := [], harness := (true, "c3c7b388580111ff132fbb8e43e5e62646226e452b51e66dc78e1baedcf20482"), looks := false }, kinds := [], alts := [], laidByText := true, laidKinds := [.data, .pinned], laidTests := true, laidLooks := .later }
def ShortRefusesCardSaid : Prop := Claim7.holds Tryd.pinned (.plain (OpenSpec.ofChange shortRefusesSpec)) shortRefusesCard

/-- THE SECOND FORM's CARD OF 'platenlaw05.ShortExacts'. -/
def shortExactsUptoCard : Claim7 := { stood := { row := shortExactsUptoRow, standIns := [], harness := (true, "c3c7b388580111ff132fbb8e43e5e62646226e452b51e66dc78e1baedcf20482"), looks := false }, kinds := [], alts := [], laidByText := true, laidKinds := [.data, .pinned], laidTests := true, laidLooks := .later }
def ShortExactsUptoCardSaid : Prop := Claim7.holds Tryd.pinned (.plain (OpenSpec.upto shortExactsSpec)) shortExactsUptoCard

/-- THE SECOND FORM's CARD OF 'platenlaw05.ShortRises'. -/
def shortRisesUptoCard : Claim7 := { stood := { row := shortRisesUptoRow, standIns := [], harness := (true, "c3c7b388580111ff132fbb8e43e5e62646226e452b51e66dc78e1baedcf20482"), looks := false }, kinds := [], alts := [], laidByText := true, laidKinds := [.data, .pinned], laidTests := true, laidLooks := .later }
def ShortRisesUptoCardSaid : Prop := Claim7.holds Tryd.pinned (.plain (OpenSpec.upto shortRisesSpec)) shortRisesUptoCard

/-- THE SECOND FORM's CARD OF 'platenlaw05.ShortMiddles'. -/
def shortMiddlesUptoCard : Claim7 := { stood := { row := shortMiddlesUptoRow, standIns := [], harness := (true, "c3c7b388580111ff132fbb8e43e5e62646226e452b51e66dc78e1baedcf20482"), looks := false }, kinds := [], alts := [], laidByText := true, laidKinds := [.data, .pinned], laidTests := true, laidLooks := .later }
def ShortMiddlesUptoCardSaid : Prop := Claim7.holds Tryd.pinned (.plain (OpenSpec.upto shortMiddlesSpec)) shortMiddlesUptoCard

/-- THE SECOND FORM's CARD OF 'platenlaw05.ShortRefuses'. -/
def shortRefusesUptoCard : Claim7 := { stood := { row := shortRefusesUptoRow, standIns := [], harness := (true, "c3c7b388580111ff132fbb8e43e5e62646226e452b51e66dc78e1baedcf20482"), looks := false }, kinds := [], alts := [], laidByText := true, laidKinds := [.data, .pinned], laidTests := true, laidLooks := .later }
def ShortRefusesUptoCardSaid : Prop := Claim7.holds Tryd.pinned (.plain (OpenSpec.upto shortRefusesSpec)) shortRefusesUptoCard
end Rows
end Go.Proofs.YtgcdmeonoiaplabDoor
