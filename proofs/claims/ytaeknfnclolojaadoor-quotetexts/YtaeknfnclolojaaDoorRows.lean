/-
  NARROWER THAN 'FOR EVERY INPUT', by the rows' own cells (each row's printed sentence says how): QuotePlains: laid · QuoteTexts: laid · QuoteChars: laid · QuoteRaws: laid · QuoteReads: laid · QuoteHexes: laid.
  DERIVED. THE GIVEN ROWS OF THIS SEAT. 6 by the template 'for every input the law returns true; each argument reads behind the call as it read before'; 0 by the template 'total and deterministic' (their statements: YtaeknfnclolojaaDoorTotals.lean).
  GIVEN WITH THE SEED: the statements are not yours to turn. If you find one false, say at which input.
  Laid BY PROGRAM, IN A SANDBOX (cutbox-rows.mjs): the forced cells as the released guide's own fill.sh prints them over the translation b5208936cdb2691d… (all of the seat's roots in one cut). By AI agents, Wed Nov 11 2026. No macro, syntax, notation, axiom, sorry.
-/
import Derived.Test.YtaeknfnclolojaaDoorChecked
import GoSem.Claim
import GoSem.ClaimJoined
import GoSem.ClaimMapViews
import Derived.JoinedTies
import Derived.KernelRfl
namespace Go.Proofs.YtaeknfnclolojaaDoor
/- THE CELL 'sum', in the pinned program and in every row, IS THE sha256 OF THE DUMP (.gsa) THAT YtaeknfnclolojaaDoorProg.lean LOADS. Nothing in Lean hashes anything: it is a label: what it is worth is what the hold of that sum in a sandbox is worth. -/
noncomputable def Tryd.pinned : Pinned := { name := "ytaeknfnclolojaadoor", sum := "b5208936cdb2691d9c4652faef3690c1e3599f3c4bce6cc6a50f12e79c68efec", checked := Tryd.checked }
namespace Rows
def none {H : Type} : Left H := { results := [], args := [] }

/- WHAT THE LISTED PACKAGE-LEVEL VARIABLES READ AS WHEN THE CALL BEGINS. Each datum BY PROGRAM (the guide's laid-datum.mjs) off the statement by which the dump's own 'gosem.cut.vars' lays the variable. In a bare row this is a premise. The card (YtaeknfnclolojaaDoorCards.lean) ties it to the program's text. -/
def laid_platen_quote_escapes {H : Type} : DataW H := .agg [.lit (.int .i32 97), .lit (.int .i32 98), .lit (.int .i32 116), .lit (.int .i32 110), .lit (.int .i32 118), .lit (.int .i32 102), .lit (.int .i32 114)]

/-- 'platenlaw02.QuotePlains': WHATEVER THE INPUT: true; the input reads as it did. -/
def quotePlainsSpec : ChangeSpec := { name := "quotePlains", fn := fun _ => fun
  | [d] => { results := [.lit (.bool true)], args := [d] }
  | _ => none }
def quotePlainsRow : OpenClaim := { program := "ytaeknfnclolojaadoor", sum := "b5208936cdb2691d9c4652faef3690c1e3599f3c4bce6cc6a50f12e79c68efec", func := "platen/platenlaw02.QuotePlains", spec := "quotePlains", inPlace := ["internal/abi.NoEscape", "internal/bytealg.MakeNoZero", "internal/bytealg.IndexByteString"], named := ["platen/quote.escapes"], apart := false, laid := [("platen/quote.escapes", laid_platen_quote_escapes)] }
def QuotePlainsSaid : Prop := quotePlainsRow.holds Tryd.pinned (OpenSpec.ofChange quotePlainsSpec)

/-- ITS FALSE NEIGHBOUR: 'it returns false'. Refute it at one input. -/
def quotePlainsWrong : ChangeSpec := { name := "quotePlains", fn := fun _ => fun
  | [d] => { results := [.lit (.bool false)], args := [d] }
  | _ => none }
def QuotePlainsWrongFalsely : Prop := quotePlainsRow.holds Tryd.pinned (OpenSpec.ofChange quotePlainsWrong)

/-- 'platenlaw02.QuoteTexts': WHATEVER THE INPUT: true; the input reads as it did. -/
def quoteTextsSpec : ChangeSpec := { name := "quoteTexts", fn := fun _ => fun
  | [d1, d2] => { results := [.lit (.bool true)], args := [d1, d2] }
  | _ => none }
def quoteTextsRow : OpenClaim := { program := "ytaeknfnclolojaadoor", sum := "b5208936cdb2691d9c4652faef3690c1e3599f3c4bce6cc6a50f12e79c68efec", func := "platen/platenlaw02.QuoteTexts", spec := "quoteTexts", inPlace := ["internal/abi.NoEscape", "internal/bytealg.MakeNoZero", "internal/bytealg.IndexByteString"], named := ["platen/quote.escapes"], apart := false, laid := [("platen/quote.escapes", laid_platen_quote_escapes)] }
def QuoteTextsSaid : Prop := quoteTextsRow.holds Tryd.pinned (OpenSpec.ofChange quoteTextsSpec)

/-- ITS FALSE NEIGHBOUR: 'it returns false'. Refute it at one input. -/
def quoteTextsWrong : ChangeSpec := { name := "quoteTexts", fn := fun _ => fun
  | [d1, d2] => { results := [.lit (.bool false)], args := [d1, d2] }
  | _ => none }
def QuoteTextsWrongFalsely : Prop := quoteTextsRow.holds Tryd.pinned (OpenSpec.ofChange quoteTextsWrong)

/-- 'platenlaw02.QuoteChars': WHATEVER THE INPUT: true; the input reads as it did. -/
def quoteCharsSpec : ChangeSpec := { name := "quoteChars", fn := fun _ => fun
  | [d1, d2] => { results := [.lit (.bool true)], args := [d1, d2] }
  | _ => none }
def quoteCharsRow : OpenClaim := { program := "ytaeknfnclolojaadoor", sum := "b5208936cdb2691d9c4652faef3690c1e3599f3c4bce6cc6a50f12e79c68efec", func := "platen/platenlaw02.QuoteChars", spec := "quoteChars", inPlace := ["internal/abi.NoEscape", "internal/bytealg.MakeNoZero", "internal/bytealg.IndexByteString"], named := ["platen/quote.escapes"], apart := false, laid := [("platen/quote.escapes", laid_platen_quote_escapes)] }
def QuoteCharsSaid : Prop := quoteCharsRow.holds Tryd.pinned (OpenSpec.ofChange quoteCharsSpec)

/-- ITS FALSE NEIGHBOUR: 'it returns false'. Refute it at one input. -/
def quoteCharsWrong : ChangeSpec := { name := "quoteChars", fn := fun _ => fun
  | [d1, d2] => { results := [.lit (.bool false)], args := [d1, d2] }
  | _ => none }
def QuoteCharsWrongFalsely : Prop := quoteCharsRow.holds Tryd.pinned (OpenSpec.ofChange quoteCharsWrong)

/-- 'platenlaw02.QuoteRaws': WHATEVER THE INPUT: true; the input reads as it did. -/
def quoteRawsSpec : ChangeSpec := { name := "quoteRaws", fn := fun _ => fun
  | [d] => { results := [.lit (.bool true)], args := [d] }
  | _ => none }
def quoteRawsRow : OpenClaim := { program := "ytaeknfnclolojaadoor", sum := "b5208936cdb2691d9c4652faef3690c1e3599f3c4bce6cc6a50f12e79c68efec", func := "platen/platenlaw02.QuoteRaws", spec := "quoteRaws", inPlace := ["internal/abi.NoEscape", "internal/bytealg.MakeNoZero", "internal/bytealg.IndexByteString"], named := ["platen/quote.escapes"], apart := false, laid := [("platen/quote.escapes", laid_platen_quote_escapes)] }
def QuoteRawsSaid : Prop := quoteRawsRow.holds Tryd.pinned (OpenSpec.ofChange quoteRawsSpec)

/-- ITS FALSE NEIGHBOUR: 'it returns false'. Refute it at one input. -/
def quoteRawsWrong : ChangeSpec := { name := "quoteRaws", fn := fun _ => fun
  | [d] => { results := [.lit (.bool false)], args := [d] }
  | _ => none }
def QuoteRawsWrongFalsely : Prop := quoteRawsRow.holds Tryd.pinned (OpenSpec.ofChange quoteRawsWrong)

/-- 'platenlaw02.QuoteReads': WHATEVER THE INPUT: true; the input reads as it did. -/
def quoteReadsSpec : ChangeSpec := { name := "quoteReads", fn := fun _ => fun
  | [d] => { results := [.lit (.bool true)], args := [d] }
  | _ => none }
def quoteReadsRow : OpenClaim := { program := "ytaeknfnclolojaadoor", sum := "b5208936cdb2691d9c4652faef3690c1e3599f3c4bce6cc6a50f12e79c68efec", func := "platen/platenlaw02.QuoteReads", spec := "quoteReads", inPlace := ["internal/bytealg.IndexByteString", "internal/abi.NoEscape", "internal/bytealg.MakeNoZero"], named := ["platen/quote.escapes"], apart := false, laid := [("platen/quote.escapes", laid_platen_quote_escapes)] }
def QuoteReadsSaid : Prop := quoteReadsRow.holds Tryd.pinned (OpenSpec.ofChange quoteReadsSpec)

/-- ITS FALSE NEIGHBOUR: 'it returns false'. Refute it at one input. -/
def quoteReadsWrong : ChangeSpec := { name := "quoteReads", fn := fun _ => fun
  | [d] => { results := [.lit (.bool false)], args := [d] }
  | _ => none }
def QuoteReadsWrongFalsely : Prop := quoteReadsRow.holds Tryd.pinned (OpenSpec.ofChange quoteReadsWrong)

/-- 'platenlaw02.QuoteHexes': WHATEVER THE INPUT: true; the input reads as it did. -/
def quoteHexesSpec : ChangeSpec := { name := "quoteHexes", fn := fun _ => fun
  | [d1, d2] => { results := [.lit (.bool true)], args := [d1, d2] }
  | _ => none }
def quoteHexesRow : OpenClaim := { program := "ytaeknfnclolojaadoor", sum := "b5208936cdb2691d9c4652faef3690c1e3599f3c4bce6cc6a50f12e79c68efec", func := "platen/platenlaw02.QuoteHexes", spec := "quoteHexes", inPlace := ["internal/abi.NoEscape", "internal/bytealg.MakeNoZero", "internal/bytealg.IndexByteString"], named := ["platen/quote.escapes"], apart := false, laid := [("platen/quote.escapes", laid_platen_quote_escapes)] }
def QuoteHexesSaid : Prop := quoteHexesRow.holds Tryd.pinned (OpenSpec.ofChange quoteHexesSpec)

/-- ITS FALSE NEIGHBOUR: 'it returns false'. Refute it at one input. -/
def quoteHexesWrong : ChangeSpec := { name := "quoteHexes", fn := fun _ => fun
  | [d1, d2] => { results := [.lit (.bool false)], args := [d1, d2] }
  | _ => none }
def QuoteHexesWrongFalsely : Prop := quoteHexesRow.holds Tryd.pinned (OpenSpec.ofChange quoteHexesWrong)

/- THE SECOND FORM. 'bulk': how many values and letters a reading holds, each counted each time it is reached (what is shared counts as often as it is met; a slice's spare places count too). A statement '..UptoSaid' is the law's where the arguments, and the package variables that the reading takes, are together of bulk at most 1048576: NARROWER than '..Said'. Prove '..Said' where nothing that the law and all that it calls make is longer than what came in: it says more and counts as full. Else prove '..UptoSaid'. A law counts once. -/
mutual
def uptoBulk {H : Type} : DataW H → Nat
  | .lit (.string bytes) => bytes.length + 1
  | .lit _ => 1
  | .nil => 1
  | .ptr d => uptoBulk d + 1
  | .slice elems spare => uptoBulkAll elems + uptoBulkAll spare + 1
  | .agg parts => uptoBulkAll parts + 1
  | .iface _ d => uptoBulk d + 1
  | .map entries => uptoBulkEntries entries + 1
  | .held _ => 1
def uptoBulkAll {H : Type} : List (DataW H) → Nat
  | [] => 0
  | d :: r => uptoBulk d + uptoBulkAll r
def uptoBulkEntries {H : Type} : List (Lit × DataW H) → Nat
  | [] => 0
  | x :: r => uptoBulkEntry x + uptoBulkEntries r
def uptoBulkEntry {H : Type} : Lit × DataW H → Nat
  | (.string bytes, d) => bytes.length + uptoBulk d + 1
  | (_, d) => uptoBulk d + 1
 end
def uptoSmall : (H : Type) → List (DataW H) → Bool := fun _ ds => decide (uptoBulkAll ds ≤ 1048576)
def OpenSpec.upto (s : _root_.Go.ChangeSpec) : _root_.Go.OpenSpec := { _root_.Go.OpenSpec.ofChange s with cond := some uptoSmall }

/-- 'platenlaw02.QuotePlains', WHERE WHAT IT READS IS OF BULK AT MOST 1048576: true; the input reads as it did. -/
def quotePlainsUptoRow : OpenClaim := { program := "ytaeknfnclolojaadoor", sum := "b5208936cdb2691d9c4652faef3690c1e3599f3c4bce6cc6a50f12e79c68efec", func := "platen/platenlaw02.QuotePlains", spec := "quotePlains", inPlace := ["internal/abi.NoEscape", "internal/bytealg.MakeNoZero", "internal/bytealg.IndexByteString"], named := ["platen/quote.escapes"], apart := false, laid := [("platen/quote.escapes", laid_platen_quote_escapes)], narrowed := true }
def QuotePlainsUptoSaid : Prop := quotePlainsUptoRow.holds Tryd.pinned (OpenSpec.upto quotePlainsSpec)

/-- 'platenlaw02.QuoteTexts', WHERE WHAT IT READS IS OF BULK AT MOST 1048576: true; the input reads as it did. -/
def quoteTextsUptoRow : OpenClaim := { program := "ytaeknfnclolojaadoor", sum := "b5208936cdb2691d9c4652faef3690c1e3599f3c4bce6cc6a50f12e79c68efec", func := "platen/platenlaw02.QuoteTexts", spec := "quoteTexts", inPlace := ["internal/abi.NoEscape", "internal/bytealg.MakeNoZero", "internal/bytealg.IndexByteString"], named := ["platen/quote.escapes"], apart := false, laid := [("platen/quote.escapes", laid_platen_quote_escapes)], narrowed := true }
def QuoteTextsUptoSaid : Prop := quoteTextsUptoRow.holds Tryd.pinned (OpenSpec.upto quoteTextsSpec)

/-- 'platenlaw02.QuoteChars', WHERE WHAT IT READS IS OF BULK AT MOST 1048576: true; the input reads as it did. -/
def quoteCharsUptoRow : OpenClaim := { program := "ytaeknfnclolojaadoor", sum := "b5208936cdb2691d9c4652faef3690c1e3599f3c4bce6cc6a50f12e79c68efec", func := "platen/platenlaw02.QuoteChars", spec := "quoteChars", inPlace := ["internal/abi.NoEscape", "internal/bytealg.MakeNoZero", "internal/bytealg.IndexByteString"], named := ["platen/quote.escapes"], apart := false, laid := [("platen/quote.escapes", laid_platen_quote_escapes)], narrowed := true }
def QuoteCharsUptoSaid : Prop := quoteCharsUptoRow.holds Tryd.pinned (OpenSpec.upto quoteCharsSpec)

/-- 'platenlaw02.QuoteRaws', WHERE WHAT IT READS IS OF BULK AT MOST 1048576: true; the input reads as it did. -/
def quoteRawsUptoRow : OpenClaim := { program := "ytaeknfnclolojaadoor", sum := "b5208936cdb2691d9c4652faef3690c1e3599f3c4bce6cc6a50f12e79c68efec", func := "platen/platenlaw02.QuoteRaws", spec := "quoteRaws", inPlace := ["internal/abi.NoEscape", "internal/bytealg.MakeNoZero", "internal/bytealg.IndexByteString"], named := ["platen/quote.escapes"], apart := false, laid := [("platen/quote.escapes", laid_platen_quote_escapes)], narrowed := true }
def QuoteRawsUptoSaid : Prop := quoteRawsUptoRow.holds Tryd.pinned (OpenSpec.upto quoteRawsSpec)

/-- 'platenlaw02.QuoteReads', WHERE WHAT IT READS IS OF BULK AT MOST 1048576: true; the input reads as it did. -/
def quoteReadsUptoRow : OpenClaim := { program := "ytaeknfnclolojaadoor", sum := "b5208936cdb2691d9c4652faef3690c1e3599f3c4bce6cc6a50f12e79c68efec", func := "platen/platenlaw02.QuoteReads", spec := "quoteReads", inPlace := ["internal/bytealg.IndexByteString", "internal/abi.NoEscape", "internal/bytealg.MakeNoZero"], named := ["platen/quote.escapes"], apart := false, laid := [("platen/quote.escapes", laid_platen_quote_escapes)], narrowed := true }
def QuoteReadsUptoSaid : Prop := quoteReadsUptoRow.holds Tryd.pinned (OpenSpec.upto quoteReadsSpec)

/-- 'platenlaw02.QuoteHexes', WHERE WHAT IT READS IS OF BULK AT MOST 1048576: true; the input reads as it did. -/
def quoteHexesUptoRow : OpenClaim := { program := "ytaeknfnclolojaadoor", sum := "b5208936cdb2691d9c4652faef3690c1e3599f3c4bce6cc6a50f12e79c68efec", func := "platen/platenlaw02.QuoteHexes", spec := "quoteHexes", inPlace := ["internal/abi.NoEscape", "internal/bytealg.MakeNoZero", "internal/bytealg.IndexByteString"], named := ["platen/quote.escapes"], apart := false, laid := [("platen/quote.escapes", laid_platen_quote_escapes)], narrowed := true }
def QuoteHexesUptoSaid : Prop := quoteHexesUptoRow.holds Tryd.pinned (OpenSpec.upto quoteHexesSpec)

end Rows
end Go.Proofs.YtaeknfnclolojaaDoor
