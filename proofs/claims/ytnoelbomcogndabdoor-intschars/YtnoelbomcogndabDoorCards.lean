/-
  DERIVED. GIVEN WITH THE SEED: THE CARDS: each row of YtnoelbomcogndabDoorRows.lean that lists a variable, with what it lists TIED to the program's text (the seventh form; the later family's looks); each row that meets fmt, with fmt's text TOLD by the authors' own Lean function (tested against real Go, not proved from fmt's source: count such statements apart). THE CARD IS WHAT COUNTS. Prove the row's statement (the work); the ties are given (YtnoelbomcogndabDoorTie.lean); close each card by the builder's one call (the guide's Derived/Test/ToyasCard.lean, 'card_holds'). Laid BY PROGRAM, IN A SANDBOX (cutbox-door.mjs). By AI agents, Wed Nov 11 2026. No macro, syntax, notation, axiom, sorry.
-/
import Derived.Test.YtnoelbomcogndabDoorRows
import GoSem.ClaimSeven
namespace Go.Proofs.YtnoelbomcogndabDoor
namespace Rows

/-- THE TIED CARD OF 'platenlaw03.IntsDigits'. -/
def intsDigitsCard : Claim7 := { stood := { row := intsDigitsRow, standIns := [], harness := (true, "91f25f817010847cc3174c6f0c7a178290bab6e91567ba22f0e4e7dcc2219916"), looks := false }, kinds := [], alts := [], laidByText := true, laidKinds := [.data, .data, .pinned, .pinned], laidTests := true, laidLooks := .later }
def IntsDigitsCardSaid : Prop := Claim7.holds Tryd.pinned (.plain (OpenSpec.ofChange intsDigitsSpec)) intsDigitsCard

/-- THE TIED CARD OF 'platenlaw03.IntsSigned'. -/
def intsSignedCard : Claim7 := { stood := { row := intsSignedRow, standIns := [], harness := (true, "91f25f817010847cc3174c6f0c7a178290bab6e91567ba22f0e4e7dcc2219916"), looks := false }, kinds := [], alts := [], laidByText := true, laidKinds := [.data, .data, .pinned, .pinned], laidTests := true, laidLooks := .later }
def IntsSignedCardSaid : Prop := Claim7.holds Tryd.pinned (.plain (OpenSpec.ofChange intsSignedSpec)) intsSignedCard

/-- THE TIED CARD OF 'platenlaw03.IntsUnsigned'. -/
def intsUnsignedCard : Claim7 := { stood := { row := intsUnsignedRow, standIns := [], harness := (true, "91f25f817010847cc3174c6f0c7a178290bab6e91567ba22f0e4e7dcc2219916"), looks := false }, kinds := [], alts := [], laidByText := true, laidKinds := [.data, .data, .pinned, .pinned], laidTests := true, laidLooks := .later }
def IntsUnsignedCardSaid : Prop := Claim7.holds Tryd.pinned (.plain (OpenSpec.ofChange intsUnsignedSpec)) intsUnsignedCard

/-- THE TIED CARD OF 'platenlaw03.IntsChars'. -/
def intsCharsCard : Claim7 := { stood := { row := intsCharsRow, standIns := [], harness := (true, "91f25f817010847cc3174c6f0c7a178290bab6e91567ba22f0e4e7dcc2219916"), looks := false }, kinds := [], alts := [], laidByText := true, laidKinds := [.data, .data, .pinned, .pinned], laidTests := true, laidLooks := .later }
def IntsCharsCardSaid : Prop := Claim7.holds Tryd.pinned (.plain (OpenSpec.ofChange intsCharsSpec)) intsCharsCard

/-- THE TIED CARD OF 'platenlaw03.IntsWide'. -/
def intsWideCard : Claim7 := { stood := { row := intsWideRow, standIns := [], harness := (true, "91f25f817010847cc3174c6f0c7a178290bab6e91567ba22f0e4e7dcc2219916"), looks := false }, kinds := [], alts := [], laidByText := true, laidKinds := [.data, .data, .pinned, .pinned], laidTests := true, laidLooks := .later }
def IntsWideCardSaid : Prop := Claim7.holds Tryd.pinned (.plain (OpenSpec.ofChange intsWideSpec)) intsWideCard

/-- THE TIED CARD OF 'platenlaw03.IntsBack'. -/
def intsBackCard : Claim7 := { stood := { row := intsBackRow, standIns := [], harness := (true, "91f25f817010847cc3174c6f0c7a178290bab6e91567ba22f0e4e7dcc2219916"), looks := false }, kinds := [], alts := [], laidByText := true, laidKinds := [.data, .data, .pinned, .pinned], laidTests := true, laidLooks := .later }
def IntsBackCardSaid : Prop := Claim7.holds Tryd.pinned (.plain (OpenSpec.ofChange intsBackSpec)) intsBackCard

/-- THE SECOND FORM's CARD OF 'platenlaw03.IntsDigits'. -/
def intsDigitsUptoCard : Claim7 := { stood := { row := intsDigitsUptoRow, standIns := [], harness := (true, "91f25f817010847cc3174c6f0c7a178290bab6e91567ba22f0e4e7dcc2219916"), looks := false }, kinds := [], alts := [], laidByText := true, laidKinds := [.data, .data, .pinned, .pinned], laidTests := true, laidLooks := .later }
def IntsDigitsUptoCardSaid : Prop := Claim7.holds Tryd.pinned (.plain (OpenSpec.upto intsDigitsSpec)) intsDigitsUptoCard

/-- THE SECOND FORM's CARD OF 'platenlaw03.IntsSigned'. -/
def intsSignedUptoCard : Claim7 := { stood := { row := intsSignedUptoRow, standIns := [], harness := (true, "91f25f817010847cc3174c6f0c7a178290bab6e91567ba22f0e4e7dcc2219916"), looks := false }, kinds := [], alts := [], laidByText := true, laidKinds := [.data, .data, .pinned, .pinned], laidTests := true, laidLooks := .later }
def IntsSignedUptoCardSaid : Prop := Claim7.holds Tryd.pinned (.plain (OpenSpec.upto intsSignedSpec)) intsSignedUptoCard

/-- THE SECOND FORM's CARD OF 'platenlaw03.IntsUnsigned'. -/
def intsUnsignedUptoCard : Claim7 := { stood := { row := intsUnsignedUptoRow, standIns := [], harness := (true, "91f25f817010847cc3174c6f0c7a178290bab6e91567ba22f0e4e7dcc2219916"), looks := false }, kinds := [], alts := [], laidByText := true, laidKinds := [.data, .data, .pinned, .pinned], laidTests := true, laidLooks := .later }
def IntsUnsignedUptoCardSaid : Prop := Claim7.holds Tryd.pinned (.plain (OpenSpec.upto intsUnsignedSpec)) intsUnsignedUptoCard

/-- THE SECOND FORM's CARD OF 'platenlaw03.IntsChars'. -/
def intsCharsUptoCard : Claim7 := { stood := { row := intsCharsUptoRow, standIns := [], harness := (true, "91f25f817010847cc3174c6f0c7a178290bab6e91567ba22f0e4e7dcc2219916"), looks := false }, kinds := [], alts := [], laidByText := true, laidKinds := [.data, .data, .pinned, .pinned], laidTests := true, laidLooks := .later }
def IntsCharsUptoCardSaid : Prop := Claim7.holds Tryd.pinned (.plain (OpenSpec.upto intsCharsSpec)) intsCharsUptoCard

/-- THE SECOND FORM's CARD OF 'platenlaw03.IntsWide'. -/
def intsWideUptoCard : Claim7 := { stood := { row := intsWideUptoRow, standIns := [], harness := (true, "91f25f817010847cc3174c6f0c7a178290bab6e91567ba22f0e4e7dcc2219916"), looks := false }, kinds := [], alts := [], laidByText := true, laidKinds := [.data, .data, .pinned, .pinned], laidTests := true, laidLooks := .later }
def IntsWideUptoCardSaid : Prop := Claim7.holds Tryd.pinned (.plain (OpenSpec.upto intsWideSpec)) intsWideUptoCard

/-- THE SECOND FORM's CARD OF 'platenlaw03.IntsBack'. -/
def intsBackUptoCard : Claim7 := { stood := { row := intsBackUptoRow, standIns := [], harness := (true, "91f25f817010847cc3174c6f0c7a178290bab6e91567ba22f0e4e7dcc2219916"), looks := false }, kinds := [], alts := [], laidByText := true, laidKinds := [.data, .data, .pinned, .pinned], laidTests := true, laidLooks := .later }
def IntsBackUptoCardSaid : Prop := Claim7.holds Tryd.pinned (.plain (OpenSpec.upto intsBackSpec)) intsBackUptoCard
end Rows
end Go.Proofs.YtnoelbomcogndabDoor
