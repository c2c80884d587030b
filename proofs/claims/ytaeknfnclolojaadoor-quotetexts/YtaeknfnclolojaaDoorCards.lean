/-
  DERIVED. GIVEN WITH THE SEED: THE CARDS: each row of YtaeknfnclolojaaDoorRows.lean that lists a variable, with what it lists TIED to the program's text (the seventh form; the later family's looks); each row that meets fmt, with fmt's text TOLD by the authors' own Lean function (tested against real Go, not proved from fmt's source: count such statements apart). THE CARD IS WHAT COUNTS. Prove the row's statement (the work); the ties are given (YtaeknfnclolojaaDoorTie.lean); close each card by the builder's one call (the guide's Derived/Test/ToyasCard.lean, 'card_holds'). Laid BY PROGRAM, IN A SANDBOX (cutbox-door.mjs). By AI agents, Wed Nov 11 2026. No macro, syntax, notation, axiom, sorry.
-/
import Derived.Test.YtaeknfnclolojaaDoorRows
import GoSem.ClaimSeven
namespace Go.Proofs.YtaeknfnclolojaaDoor
namespace Rows

/-- THE TIED CARD OF 'platenlaw02.QuotePlains'. -/
def quotePlainsCard : Claim7 := { stood := { row := quotePlainsRow, standIns := [], harness := (true, "f425e4d957ea69b62178bbb17ddfca252f115091d72c962cbc8eb6777f66b63e"), looks := false }, kinds := [], alts := [], laidByText := true, laidKinds := [.data], laidTests := true, laidLooks := .later }
def QuotePlainsCardSaid : Prop := Claim7.holds Tryd.pinned (.plain (OpenSpec.ofChange quotePlainsSpec)) quotePlainsCard

/-- THE TIED CARD OF 'platenlaw02.QuoteTexts'. -/
def quoteTextsCard : Claim7 := { stood := { row := quoteTextsRow, standIns := [], harness := (true, "f425e4d957ea69b62178bbb17ddfca252f115091d72c962cbc8eb6777f66b63e"), looks := false }, kinds := [], alts := [], laidByText := true, laidKinds := [.data], laidTests := true, laidLooks := .later }
def QuoteTextsCardSaid : Prop := Claim7.holds Tryd.pinned (.plain (OpenSpec.ofChange quoteTextsSpec)) quoteTextsCard

/-- THE TIED CARD OF 'platenlaw02.QuoteChars'. -/
def quoteCharsCard : Claim7 := { stood := { row := quoteCharsRow, standIns := [], harness := (true, "f425e4d957ea69b62178bbb17ddfca252f115091d72c962cbc8eb6777f66b63e"), looks := false }, kinds := [], alts := [], laidByText := true, laidKinds := [.data], laidTests := true, laidLooks := .later }
def QuoteCharsCardSaid : Prop := Claim7.holds Tryd.pinned (.plain (OpenSpec.ofChange quoteCharsSpec)) quoteCharsCard

/-- THE TIED CARD OF 'platenlaw02.QuoteRaws'. -/
def quoteRawsCard : Claim7 := { stood := { row := quoteRawsRow, standIns := [], harness := (true, "f425e4d957ea69b62178bbb17ddfca252f115091d72c962cbc8eb6777f66b63e"), looks := false }, kinds := [], alts := [], laidByText := true, laidKinds := [.data], laidTests := true, laidLooks := .later }
def QuoteRawsCardSaid : Prop := Claim7.holds Tryd.pinned (.plain (OpenSpec.ofChange quoteRawsSpec)) quoteRawsCard

/-- THE TIED CARD OF 'platenlaw02.QuoteReads'. -/
def quoteReadsCard : Claim7 := { stood := { row := quoteReadsRow, standIns := [], harness := (true, "f425e4d957ea69b62178bbb17ddfca252f115091d72c962cbc8eb6777f66b63e"), looks := false }, kinds := [], alts := [], laidByText := true, laidKinds := [.data], laidTests := true, laidLooks := .later }
def QuoteReadsCardSaid : Prop := Claim7.holds Tryd.pinned (.plain (OpenSpec.ofChange quoteReadsSpec)) quoteReadsCard

/-- THE TIED CARD OF 'platenlaw02.QuoteHexes'. -/
def quoteHexesCard : Claim7 := { stood := { row := quoteHexesRow, standIns := [], harness := (true, "f425e4d957ea69b62178bbb17ddfca252f115091d72c962cbc8eb6777f66b63e"), looks := false }, kinds := [], alts := [], laidByText := true, laidKinds := [.data], laidTests := true, laidLooks := .later }
def QuoteHexesCardSaid : Prop := Claim7.holds Tryd.pinned (.plain (OpenSpec.ofChange quoteHexesSpec)) quoteHexesCard

/-- THE SECOND FORM's CARD OF 'platenlaw02.QuotePlains'. -/
def quotePlainsUptoCard : Claim7 := { stood := { row := quotePlainsUptoRow, standIns := [], harness := (true, "f425e4d957ea69b62178bbb17ddfca252f115091d72c962cbc8eb6777f66b63e"), looks := false }, kinds := [], alts := [], laidByText := true, laidKinds := [.data], laidTests := true, laidLooks := .later }
def QuotePlainsUptoCardSaid : Prop := Claim7.holds Tryd.pinned (.plain (OpenSpec.upto quotePlainsSpec)) quotePlainsUptoCard

/-- THE SECOND FORM's CARD OF 'platenlaw02.QuoteTexts'. -/
def quoteTextsUptoCard : Claim7 := { stood := { row := quoteTextsUptoRow, standIns := [], harness := (true, "f425e4d957ea69b62178bbb17ddfca252f115091d72c962cbc8eb6777f66b63e"), looks := false }, kinds := [], alts := [], laidByText := true, laidKinds := [.data], laidTests := true, laidLooks := .later }
def QuoteTextsUptoCardSaid : Prop := Claim7.holds Tryd.pinned (.plain (OpenSpec.upto quoteTextsSpec)) quoteTextsUptoCard

/-- THE SECOND FORM's CARD OF 'platenlaw02.QuoteChars'. -/
def quoteCharsUptoCard : Claim7 := { stood := { row := quoteCharsUptoRow, standIns := [], harness := (true, "f425e4d957ea69b62178bbb17ddfca252f115091d72c962cbc8eb6777f66b63e"), looks := false }, kinds := [], alts := [], laidByText := true, laidKinds := [.data], laidTests := true, laidLooks := .later }
def QuoteCharsUptoCardSaid : Prop := Claim7.holds Tryd.pinned (.plain (OpenSpec.upto quoteCharsSpec)) quoteCharsUptoCard

/-- THE SECOND FORM's CARD OF 'platenlaw02.QuoteRaws'. -/
def quoteRawsUptoCard : Claim7 := { stood := { row := quoteRawsUptoRow, standIns := [], harness := (true, "f425e4d957ea69b62178bbb17ddfca252f115091d72c962cbc8eb6777f66b63e"), looks := false }, kinds := [], alts := [], laidByText := true, laidKinds := [.data], laidTests := true, laidLooks := .later }
def QuoteRawsUptoCardSaid : Prop := Claim7.holds Tryd.pinned (.plain (OpenSpec.upto quoteRawsSpec)) quoteRawsUptoCard

/-- THE SECOND FORM's CARD OF 'platenlaw02.QuoteReads'. -/
def quoteReadsUptoCard : Claim7 := { stood := { row := quoteReadsUptoRow, standIns := [], harness := (true, "f425e4d957ea69b62178bbb17ddfca252f115091d72c962cbc8eb6777f66b63e"), looks := false }, kinds := [], alts := [], laidByText := true, laidKinds := [.data], laidTests := true, laidLooks := .later }
def QuoteReadsUptoCardSaid : Prop := Claim7.holds Tryd.pinned (.plain (OpenSpec.upto quoteReadsSpec)) quoteReadsUptoCard

/-- THE SECOND FORM's CARD OF 'platenlaw02.QuoteHexes'. -/
def quoteHexesUptoCard : Claim7 := { stood := { row := quoteHexesUptoRow, standIns := [], harness := (true, "f425e4d957ea69b62178bbb17ddfca252f115091d72c962cbc8eb6777f66b63e"), looks := false }, kinds := [], alts := [], laidByText := true, laidKinds := [.data], laidTests := true, laidLooks := .later }
def QuoteHexesUptoCardSaid : Prop := Claim7.holds Tryd.pinned (.plain (OpenSpec.upto quoteHexesSpec)) quoteHexesUptoCard
end Rows
end Go.Proofs.YtaeknfnclolojaaDoor
