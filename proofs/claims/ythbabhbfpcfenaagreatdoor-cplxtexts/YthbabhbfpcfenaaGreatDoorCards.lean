/-
  DERIVED. GIVEN WITH THE SEED: THE CARDS: each row of YthbabhbfpcfenaaGreatDoorRows.lean that lists a variable, with what it lists TIED to the program's text (the seventh form; the later family's looks); each row that meets fmt, with fmt's text TOLD by the authors' own Lean function (tested against real Go, not proved from fmt's source: count such statements apart). THE CARD IS WHAT COUNTS. Prove the row's statement (the work); the ties are given (YthbabhbfpcfenaaGreatDoorTie.lean); close each card by the builder's one call (the guide's Derived/Test/ToyasCard.lean, 'card_holds'). Laid BY PROGRAM, IN A SANDBOX (cutbox-door.mjs). By AI agents, Wed Nov 11 2026. No macro, syntax, notation, axiom, sorry.
-/
import Derived.Test.YthbabhbfpcfenaaGreatDoorRows
import GoSem.ClaimSeven
namespace Go.Proofs.YthbabhbfpcfenaaGreatDoor
namespace Rows

/-- THE TIED CARD OF 'platenlaw07.CplxTexts'. -/
def cplxTextsCard : Claim7 := { stood := { row := cplxTextsRow, standIns := [], harness := (true, "ca980e5a88db8a68a5b92bd58ef2d7f5c6175a30986181bacb650fb96c9c66d9"), looks := false }, kinds := [], alts := [], laidByText := true, laidKinds := [.data, .pinned, .pinned], laidTests := true, laidLooks := .later }
def CplxTextsCardSaid : Prop := Claim7.holds Tryz.pinned (.plain (OpenSpec.ofChange cplxTextsSpec)) cplxTextsCard

/-- THE TIED CARD OF 'platenlaw07.CplxSplits'. -/
def cplxSplitsCard : Claim7 := { stood := { row := cplxSplitsRow, standIns := [], harness := (true, "ca980e5a88db8a68a5b92bd58ef2d7f5c6175a30986181bacb650fb96c9c66d9"), looks := false }, kinds := [], alts := [], laidByText := true, laidKinds := [.data, .pinned, .pinned], laidTests := true, laidLooks := .later }
def CplxSplitsCardSaid : Prop := Claim7.holds Tryz.pinned (.plain (OpenSpec.ofChange cplxSplitsSpec)) cplxSplitsCard

/-- THE TIED CARD OF 'platenlaw07.CplxBack'. -/
def cplxBackCard : Claim7 := { stood := { row := cplxBackRow, standIns := [], harness := (true, "ca980e5a88db8a68a5b92bd58ef2d7f5c6175a30986181bacb650fb96c9c66d9"), looks := false }, kinds := [], alts := [], laidByText := true, laidKinds := [.data, .pinned, .pinned], laidTests := true, laidLooks := .later }
def CplxBackCardSaid : Prop := Claim7.holds Tryz.pinned (.plain (OpenSpec.ofChange cplxBackSpec)) cplxBackCard

/-- THE TIED CARD OF 'platenlaw07.CplxHalves'. -/
def cplxHalvesCard : Claim7 := { stood := { row := cplxHalvesRow, standIns := [], harness := (true, "ca980e5a88db8a68a5b92bd58ef2d7f5c6175a30986181bacb650fb96c9c66d9"), looks := false }, kinds := [], alts := [], laidByText := true, laidKinds := [.data, .pinned, .pinned], laidTests := true, laidLooks := .later }
def CplxHalvesCardSaid : Prop := Claim7.holds Tryz.pinned (.plain (OpenSpec.ofChange cplxHalvesSpec)) cplxHalvesCard

/-- THE TIED CARD OF 'platenlaw07.CplxRefuses'. -/
def cplxRefusesCard : Claim7 := { stood := { row := cplxRefusesRow, standIns := [], harness := (true, "ca980e5a88db8a68a5b92bd58ef2d7f5c6175a30986181bacb650fb96c9c66d9"), looks := false }, kinds := [], alts := [], laidByText := true, laidKinds := [.data, .pinned, .pinned], laidTests := true, laidLooks := .later }
def CplxRefusesCardSaid : Prop := Claim7.holds Tryz.pinned (.plain (OpenSpec.ofChange cplxRefusesSpec)) cplxRefusesCard

/-- THE TIED CARD OF 'platenlaw07.CplxPlus'. -/
def cplxPlusCard : Claim7 := { stood := { row := cplxPlusRow, standIns := [], harness := (true, "ca980e5a88db8a68a5b92bd58ef2d7f5c6175a30986181bacb650fb96c9c66d9"), looks := false }, kinds := [], alts := [], laidByText := true, laidKinds := [.data, .pinned, .pinned], laidTests := true, laidLooks := .later }
def CplxPlusCardSaid : Prop := Claim7.holds Tryz.pinned (.plain (OpenSpec.ofChange cplxPlusSpec)) cplxPlusCard

/-- THE SECOND FORM's CARD OF 'platenlaw07.CplxTexts'. -/
def cplxTextsUptoCard : Claim7 := { stood := { row := cplxTextsUptoRow, standIns := [], harness := (true, "ca980e5a88db8a68a5b92bd58ef2d7f5c6175a30986181bacb650fb96c9c66d9"), looks := false }, kinds := [], alts := [], laidByText := true, laidKinds := [.data, .pinned, .pinned], laidTests := true, laidLooks := .later }
def CplxTextsUptoCardSaid : Prop := Claim7.holds Tryz.pinned (.plain (OpenSpec.upto cplxTextsSpec)) cplxTextsUptoCard

/-- THE SECOND FORM's CARD OF 'platenlaw07.CplxSplits'. -/
def cplxSplitsUptoCard : Claim7 := { stood := { row := cplxSplitsUptoRow, standIns := [], harness := (true, "ca980e5a88db8a68a5b92bd58ef2d7f5c6175a30986181bacb650fb96c9c66d9"), looks := false }, kinds := [], alts := [], laidByText := true, laidKinds := [.data, .pinned, .pinned], laidTests := true, laidLooks := .later }
def CplxSplitsUptoCardSaid : Prop := Claim7.holds Tryz.pinned (.plain (OpenSpec.upto cplxSplitsSpec)) cplxSplitsUptoCard

/-- THE SECOND FORM's CARD OF 'platenlaw07.CplxBack'. -/
def cplxBackUptoCard : Claim7 := { stood := { row := cplxBackUptoRow, standIns := [], harness := (true, "ca980e5a88db8a68a5b92bd58ef2d7f5c6175a30986181bacb650fb96c9c66d9"), looks := false }, kinds := [], alts := [], laidByText := true, laidKinds := [.data, .pinned, .pinned], laidTests := true, laidLooks := .later }
def CplxBackUptoCardSaid : Prop := Claim7.holds Tryz.pinned (.plain (OpenSpec.upto cplxBackSpec)) cplxBackUptoCard

/-- THE SECOND FORM's CARD OF 'platenlaw07.CplxHalves'. -/
def cplxHalvesUptoCard : Claim7 := { stood := { row := cplxHalvesUptoRow, standIns := [], harness := (true, "ca980e5a88db8a68a5b92bd58ef2d7f5c6175a30986181bacb650fb96c9c66d9"), looks := false }, kinds := [], alts := [], laidByText := true, laidKinds := [.data, .pinned, .pinned], laidTests := true, laidLooks := .later }
def CplxHalvesUptoCardSaid : Prop := Claim7.holds Tryz.pinned (.plain (OpenSpec.upto cplxHalvesSpec)) cplxHalvesUptoCard

/-- THE SECOND FORM's CARD OF 'platenlaw07.CplxRefuses'. -/
def cplxRefusesUptoCard : Claim7 := { stood := { row := cplxRefusesUptoRow, standIns := [], harness := (true, "ca980e5a88db8a68a5b92bd58ef2d7f5c6175a30986181bacb650fb96c9c66d9"), looks := false }, kinds := [], alts := [], laidByText := true, laidKinds := [.data, .pinned, .pinned], laidTests := true, laidLooks := .later }
def CplxRefusesUptoCardSaid : Prop := Claim7.holds Tryz.pinned (.plain (OpenSpec.upto cplxRefusesSpec)) cplxRefusesUptoCard

/-- THE SECOND FORM's CARD OF 'platenlaw07.CplxPlus'. -/
def cplxPlusUptoCard : Claim7 := { stood := { row := cplxPlusUptoRow, standIns := [], harness := (true, "ca980e5a88db8a68a5b92bd58ef2d7f5c6175a30986181bacb650fb96c9c66d9"), looks := false }, kinds := [], alts := [], laidByText := true, laidKinds := [.data, .pinned, .pinned], laidTests := true, laidLooks := .later }
def CplxPlusUptoCardSaid : Prop := Claim7.holds Tryz.pinned (.plain (OpenSpec.upto cplxPlusSpec)) cplxPlusUptoCard
end Rows
end Go.Proofs.YthbabhbfpcfenaaGreatDoor
