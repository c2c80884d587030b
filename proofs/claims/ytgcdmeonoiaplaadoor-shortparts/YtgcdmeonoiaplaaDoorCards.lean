/-
  DERIVED. GIVEN WITH THE SEED: THE CARDS: each row of YtgcdmeonoiaplaaDoorRows.lean that lists a variable, with what it lists TIED to the program's text (the seventh form; the later family's looks); each row that meets fmt, with fmt's text TOLD by the authors' own Lean function (tested against real Go, not proved from fmt's source: count such statements apart). THE CARD IS WHAT COUNTS. Prove the row's statement (the work); the ties are given (YtgcdmeonoiaplaaDoorTie.lean); close each card by the builder's one call (the guide's Derived/Test/ToyasCard.lean, 'card_holds'). Laid BY PROGRAM, IN A SANDBOX (cutbox-door.mjs). By AI agents, Wed Nov 11 2026. No macro, syntax, notation, axiom, sorry.
-/
import Derived.Test.YtgcdmeonoiaplaaDoorRows
import GoSem.ClaimSeven
namespace Go.Proofs.YtgcdmeonoiaplaaDoor
namespace Rows

/-- THE TIED CARD OF 'platenlaw05.ShortParts'. -/
def shortPartsCard : Claim7 := { stood := { row := shortPartsRow, standIns := [], harness := (true, "f4753d3b0949b5cb0abe54347855ba1317bbf7a35e65edb22c99a61b41bd19ed"), looks := false }, kinds := [], alts := [], laidByText := true, laidKinds := [.data, .pinned], laidTests := true, laidLooks := .later }
def ShortPartsCardSaid : Prop := Claim7.holds Tryd.pinned (.plain (OpenSpec.ofChange shortPartsSpec)) shortPartsCard

/-- THE TIED CARD OF 'platenlaw05.ShortReads'. -/
def shortReadsCard : Claim7 := { stood := { row := shortReadsRow, standIns := [], harness := (true, "f4753d3b0949b5cb0abe54347855ba1317bbf7a35e65edb22c99a61b41bd19ed"), looks := false }, kinds := [], alts := [], laidByText := true, laidKinds := [.data, .pinned], laidTests := true, laidLooks := .later }
def ShortReadsCardSaid : Prop := Claim7.holds Tryd.pinned (.plain (OpenSpec.ofChange shortReadsSpec)) shortReadsCard

/-- THE TIED CARD OF 'platenlaw05.ShortBack'. -/
def shortBackCard : Claim7 := { stood := { row := shortBackRow, standIns := [], harness := (true, "f4753d3b0949b5cb0abe54347855ba1317bbf7a35e65edb22c99a61b41bd19ed"), looks := false }, kinds := [], alts := [], laidByText := true, laidKinds := [.data, .pinned], laidTests := true, laidLooks := .later }
def ShortBackCardSaid : Prop := Claim7.holds Tryd.pinned (.plain (OpenSpec.ofChange shortBackSpec)) shortBackCard

/-- THE TIED CARD OF 'platenlaw05.ShortLeast'. -/
def shortLeastCard : Claim7 := { stood := { row := shortLeastRow, standIns := [], harness := (true, "f4753d3b0949b5cb0abe54347855ba1317bbf7a35e65edb22c99a61b41bd19ed"), looks := false }, kinds := [], alts := [], laidByText := true, laidKinds := [.data, .pinned], laidTests := true, laidLooks := .later }
def ShortLeastCardSaid : Prop := Claim7.holds Tryd.pinned (.plain (OpenSpec.ofChange shortLeastSpec)) shortLeastCard

/-- THE TIED CARD OF 'platenlaw05.ShortClosest'. -/
def shortClosestCard : Claim7 := { stood := { row := shortClosestRow, standIns := [], harness := (true, "f4753d3b0949b5cb0abe54347855ba1317bbf7a35e65edb22c99a61b41bd19ed"), looks := false }, kinds := [], alts := [], laidByText := true, laidKinds := [.data, .pinned], laidTests := true, laidLooks := .later }
def ShortClosestCardSaid : Prop := Claim7.holds Tryd.pinned (.plain (OpenSpec.ofChange shortClosestSpec)) shortClosestCard

/-- THE SECOND FORM's CARD OF 'platenlaw05.ShortParts'. -/
def shortPartsUptoCard : Claim7 := { stood := { row := shortPartsUptoRow, standIns := [], harness := (true, "f4753d3b0949b5cb0abe54347855ba1317bbf7a35e65edb22c99a61b41bd19ed"), looks := false }, kinds := [], alts := [], laidByText := true, laidKinds := [.data, .pinned], laidTests := true, laidLooks := .later }
def ShortPartsUptoCardSaid : Prop := Claim7.holds Tryd.pinned (.plain (OpenSpec.upto shortPartsSpec)) shortPartsUptoCard

/-- THE SECOND FORM's CARD OF 'platenlaw05.ShortReads'. -/
def shortReadsUptoCard : Claim7 := { stood := { row := shortReadsUptoRow, standIns := [], harness := (true, "f4753d3b0949b5cb0abe54347855ba1317bbf7a35e65edb22c99a61b41bd19ed"), looks := false }, kinds := [], alts := [], laidByText := true, laidKinds := [.data, .pinned], laidTests := true, laidLooks := .later }
def ShortReadsUptoCardSaid : Prop := Claim7.holds Tryd.pinned (.plain (OpenSpec.upto shortReadsSpec)) shortReadsUptoCard

/-- THE SECOND FORM's CARD OF 'platenlaw05.ShortBack'. -/
def shortBackUptoCard : Claim7 := { stood := { row := shortBackUptoRow, standIns := [], harness := (true, "f4753d3b0949b5cb0abe54347855ba1317bbf7a35e65edb22c99a61b41bd19ed"), looks := false }, kinds := [], alts := [], laidByText := true, laidKinds := [.data, .pinned], laidTests := true, laidLooks := .later }
def ShortBackUptoCardSaid : Prop := Claim7.holds Tryd.pinned (.plain (OpenSpec.upto shortBackSpec)) shortBackUptoCard

/-- THE SECOND FORM's CARD OF 'platenlaw05.ShortLeast'. -/
def shortLeastUptoCard : Claim7 := { stood := { row := shortLeastUptoRow, standIns := [], harness := (true, "f4753d3b0949b5cb0abe54347855ba1317bbf7a35e65edb22c99a61b41bd19ed"), looks := false }, kinds := [], alts := [], laidByText := true, laidKinds := [.data, .pinned], laidTests := true, laidLooks := .later }
def ShortLeastUptoCardSaid : Prop := Claim7.holds Tryd.pinned (.plain (OpenSpec.upto shortLeastSpec)) shortLeastUptoCard

/-- THE SECOND FORM's CARD OF 'platenlaw05.ShortClosest'. -/
def shortClosestUptoCard : Claim7 := { stood := { row := shortClosestUptoRow, standIns := [], harness := (true, "f4753d3b0949b5cb0abe54347855ba1317bbf7a35e65edb22c99a61b41bd19ed"), looks := false }, kinds := [], alts := [], laidByText := true, laidKinds := [.data, .pinned], laidTests := true, laidLooks := .later }
def ShortClosestUptoCardSaid : Prop := Claim7.holds Tryd.pinned (.plain (OpenSpec.upto shortClosestSpec)) shortClosestUptoCard
end Rows
end Go.Proofs.YtgcdmeonoiaplaaDoor
