/-
  NARROWER THAN 'FOR EVERY INPUT', by the rows' own cells (each row's printed sentence says how): IntsDigits: laid · IntsSigned: laid · IntsUnsigned: laid · IntsChars: laid · IntsWide: laid · IntsBack: laid.
  DERIVED. THE GIVEN ROWS OF THIS SEAT. 6 by the template 'for every input the law returns true; each argument reads behind the call as it read before'; 0 by the template 'total and deterministic' (their statements: YtnoelbomcogndabDoorTotals.lean).
  GIVEN WITH THE SEED: the statements are not yours to turn. If you find one false, say at which input.
  Laid BY PROGRAM, IN A SANDBOX (cutbox-rows.mjs): the forced cells as the released guide's own fill.sh prints them over the translation 0eba7c31cfa1a782… (all of the seat's roots in one cut). By AI agents, Wed Nov 11 2026. No macro, syntax, notation, axiom, sorry.
-/
import Derived.Test.YtnoelbomcogndabDoorChecked
import GoSem.PinnedTables
import GoSem.Claim
import GoSem.ClaimJoined
import GoSem.ClaimMapViews
import Derived.JoinedTies
import Derived.KernelRfl
namespace Go.Proofs.YtnoelbomcogndabDoor
/- THE CELL 'sum', in the pinned program and in every row, IS THE sha256 OF THE DUMP (.gsa) THAT YtnoelbomcogndabDoorProg.lean LOADS. Nothing in Lean hashes anything: it is a label: what it is worth is what the hold of that sum in a sandbox is worth. -/
noncomputable def Tryd.pinned : Pinned := { name := "ytnoelbomcogndabdoor", sum := "0eba7c31cfa1a7828c6bf46bab7612e585e20cda7dc445fca1b43246c3c748e7", checked := Tryd.checked }
namespace Rows
def none {H : Type} : Left H := { results := [], args := [] }

/- WHAT THE LISTED PACKAGE-LEVEL VARIABLES READ AS WHEN THE CALL BEGINS. Each datum BY PROGRAM (the guide's laid-datum.mjs) off the statement by which the dump's own 'gosem.cut.vars' lays the variable. In a bare row this is a premise. The card (YtnoelbomcogndabDoorCards.lean) ties it to the program's text. -/
def laid_unicode_utf8_acceptRanges {H : Type} : DataW H := .agg [.agg [.lit (.int .u8 128), .lit (.int .u8 191)], .agg [.lit (.int .u8 160), .lit (.int .u8 191)], .agg [.lit (.int .u8 128), .lit (.int .u8 159)], .agg [.lit (.int .u8 144), .lit (.int .u8 191)], .agg [.lit (.int .u8 128), .lit (.int .u8 143)], .agg [.lit (.int .u8 0), .lit (.int .u8 0)], .agg [.lit (.int .u8 0), .lit (.int .u8 0)], .agg [.lit (.int .u8 0), .lit (.int .u8 0)], .agg [.lit (.int .u8 0), .lit (.int .u8 0)], .agg [.lit (.int .u8 0), .lit (.int .u8 0)], .agg [.lit (.int .u8 0), .lit (.int .u8 0)], .agg [.lit (.int .u8 0), .lit (.int .u8 0)], .agg [.lit (.int .u8 0), .lit (.int .u8 0)], .agg [.lit (.int .u8 0), .lit (.int .u8 0)], .agg [.lit (.int .u8 0), .lit (.int .u8 0)], .agg [.lit (.int .u8 0), .lit (.int .u8 0)]]
def laid_platen_quote_escapes {H : Type} : DataW H := .agg [.lit (.int .i32 97), .lit (.int .i32 98), .lit (.int .i32 116), .lit (.int .i32 110), .lit (.int .i32 118), .lit (.int .i32 102), .lit (.int .i32 114)]
/-- One of Go's own tables, pinned by name: the form's constant. -/
def laid_unicode_CaseRanges : DataW Unit := Go.Pinned.caseRanges
/-- One of Go's own tables, pinned by name: the form's constant. -/
def laid_unicode_utf8_first : DataW Unit := Go.Pinned.utf8First

/-- 'platenlaw03.IntsDigits': WHATEVER THE INPUT: true; the input reads as it did. -/
def intsDigitsSpec : ChangeSpec := { name := "intsDigits", fn := fun _ => fun
  | [d1, d2] => { results := [.lit (.bool true)], args := [d1, d2] }
  | _ => none }
def intsDigitsRow : OpenClaim := { program := "ytnoelbomcogndabdoor", sum := "0eba7c31cfa1a7828c6bf46bab7612e585e20cda7dc445fca1b43246c3c748e7", func := "platen/platenlaw03.IntsDigits", spec := "intsDigits", inPlace := ["internal/abi.NoEscape", "internal/bytealg.MakeNoZero"], unfollowed := true, recurses := true, named := ["platen/quote.escapes", "unicode/utf8.first", "unicode/utf8.acceptRanges", "unicode.CaseRanges"], apart := false, laid := [("unicode/utf8.acceptRanges", laid_unicode_utf8_acceptRanges), ("platen/quote.escapes", laid_platen_quote_escapes), ("unicode.CaseRanges", laid_unicode_CaseRanges), ("unicode/utf8.first", laid_unicode_utf8_first)] }
def IntsDigitsSaid : Prop := intsDigitsRow.holds Tryd.pinned (OpenSpec.ofChange intsDigitsSpec)

/-- ITS FALSE NEIGHBOUR: 'it returns false'. Refute it at one input. -/
def intsDigitsWrong : ChangeSpec := { name := "intsDigits", fn := fun _ => fun
  | [d1, d2] => { results := [.lit (.bool false)], args := [d1, d2] }
  | _ => none }
def IntsDigitsWrongFalsely : Prop := intsDigitsRow.holds Tryd.pinned (OpenSpec.ofChange intsDigitsWrong)

/-- 'platenlaw03.IntsSigned': WHATEVER THE INPUT: true; the input reads as it did. -/
def intsSignedSpec : ChangeSpec := { name := "intsSigned", fn := fun _ => fun
  | [d1, d2] => { results := [.lit (.bool true)], args := [d1, d2] }
  | _ => none }
def intsSignedRow : OpenClaim := { program := "ytnoelbomcogndabdoor", sum := "0eba7c31cfa1a7828c6bf46bab7612e585e20cda7dc445fca1b43246c3c748e7", func := "platen/platenlaw03.IntsSigned", spec := "intsSigned", inPlace := ["internal/abi.NoEscape", "internal/bytealg.MakeNoZero"], unfollowed := true, recurses := true, named := ["platen/quote.escapes", "unicode/utf8.first", "unicode/utf8.acceptRanges", "unicode.CaseRanges"], apart := false, laid := [("unicode/utf8.acceptRanges", laid_unicode_utf8_acceptRanges), ("platen/quote.escapes", laid_platen_quote_escapes), ("unicode.CaseRanges", laid_unicode_CaseRanges), ("unicode/utf8.first", laid_unicode_utf8_first)] }
def IntsSignedSaid : Prop := intsSignedRow.holds Tryd.pinned (OpenSpec.ofChange intsSignedSpec)

/-- ITS FALSE NEIGHBOUR: 'it returns false'. Refute it at one input. -/
def intsSignedWrong : ChangeSpec := { name := "intsSigned", fn := fun _ => fun
  | [d1, d2] => { results := [.lit (.bool false)], args := [d1, d2] }
  | _ => none }
def IntsSignedWrongFalsely : Prop := intsSignedRow.holds Tryd.pinned (OpenSpec.ofChange intsSignedWrong)

/-- 'platenlaw03.IntsUnsigned': WHATEVER THE INPUT: true; the input reads as it did. -/
def intsUnsignedSpec : ChangeSpec := { name := "intsUnsigned", fn := fun _ => fun
  | [d1, d2] => { results := [.lit (.bool true)], args := [d1, d2] }
  | _ => none }
def intsUnsignedRow : OpenClaim := { program := "ytnoelbomcogndabdoor", sum := "0eba7c31cfa1a7828c6bf46bab7612e585e20cda7dc445fca1b43246c3c748e7", func := "platen/platenlaw03.IntsUnsigned", spec := "intsUnsigned", inPlace := ["internal/abi.NoEscape", "internal/bytealg.MakeNoZero"], unfollowed := true, recurses := true, named := ["platen/quote.escapes", "unicode/utf8.first", "unicode/utf8.acceptRanges", "unicode.CaseRanges"], apart := false, laid := [("unicode/utf8.acceptRanges", laid_unicode_utf8_acceptRanges), ("platen/quote.escapes", laid_platen_quote_escapes), ("unicode.CaseRanges", laid_unicode_CaseRanges), ("unicode/utf8.first", laid_unicode_utf8_first)] }
def IntsUnsignedSaid : Prop := intsUnsignedRow.holds Tryd.pinned (OpenSpec.ofChange intsUnsignedSpec)

/-- ITS FALSE NEIGHBOUR: 'it returns false'. Refute it at one input. -/
def intsUnsignedWrong : ChangeSpec := { name := "intsUnsigned", fn := fun _ => fun
  | [d1, d2] => { results := [.lit (.bool false)], args := [d1, d2] }
  | _ => none }
def IntsUnsignedWrongFalsely : Prop := intsUnsignedRow.holds Tryd.pinned (OpenSpec.ofChange intsUnsignedWrong)

/-- 'platenlaw03.IntsChars': WHATEVER THE INPUT: true; the input reads as it did. -/
def intsCharsSpec : ChangeSpec := { name := "intsChars", fn := fun _ => fun
  | [d1, d2, d3] => { results := [.lit (.bool true)], args := [d1, d2, d3] }
  | _ => none }
def intsCharsRow : OpenClaim := { program := "ytnoelbomcogndabdoor", sum := "0eba7c31cfa1a7828c6bf46bab7612e585e20cda7dc445fca1b43246c3c748e7", func := "platen/platenlaw03.IntsChars", spec := "intsChars", inPlace := ["internal/abi.NoEscape", "internal/bytealg.MakeNoZero"], unfollowed := true, recurses := true, named := ["platen/quote.escapes", "unicode/utf8.first", "unicode/utf8.acceptRanges", "unicode.CaseRanges"], apart := false, laid := [("unicode/utf8.acceptRanges", laid_unicode_utf8_acceptRanges), ("platen/quote.escapes", laid_platen_quote_escapes), ("unicode.CaseRanges", laid_unicode_CaseRanges), ("unicode/utf8.first", laid_unicode_utf8_first)] }
def IntsCharsSaid : Prop := intsCharsRow.holds Tryd.pinned (OpenSpec.ofChange intsCharsSpec)

/-- ITS FALSE NEIGHBOUR: 'it returns false'. Refute it at one input. -/
def intsCharsWrong : ChangeSpec := { name := "intsChars", fn := fun _ => fun
  | [d1, d2, d3] => { results := [.lit (.bool false)], args := [d1, d2, d3] }
  | _ => none }
def IntsCharsWrongFalsely : Prop := intsCharsRow.holds Tryd.pinned (OpenSpec.ofChange intsCharsWrong)

/-- 'platenlaw03.IntsWide': WHATEVER THE INPUT: true; the input reads as it did. -/
def intsWideSpec : ChangeSpec := { name := "intsWide", fn := fun _ => fun
  | [d1, d2] => { results := [.lit (.bool true)], args := [d1, d2] }
  | _ => none }
def intsWideRow : OpenClaim := { program := "ytnoelbomcogndabdoor", sum := "0eba7c31cfa1a7828c6bf46bab7612e585e20cda7dc445fca1b43246c3c748e7", func := "platen/platenlaw03.IntsWide", spec := "intsWide", inPlace := ["internal/abi.NoEscape", "internal/bytealg.MakeNoZero"], unfollowed := true, recurses := true, named := ["platen/quote.escapes", "unicode/utf8.first", "unicode/utf8.acceptRanges", "unicode.CaseRanges"], apart := false, laid := [("unicode/utf8.acceptRanges", laid_unicode_utf8_acceptRanges), ("platen/quote.escapes", laid_platen_quote_escapes), ("unicode.CaseRanges", laid_unicode_CaseRanges), ("unicode/utf8.first", laid_unicode_utf8_first)] }
def IntsWideSaid : Prop := intsWideRow.holds Tryd.pinned (OpenSpec.ofChange intsWideSpec)

/-- ITS FALSE NEIGHBOUR: 'it returns false'. Refute it at one input. -/
def intsWideWrong : ChangeSpec := { name := "intsWide", fn := fun _ => fun
  | [d1, d2] => { results := [.lit (.bool false)], args := [d1, d2] }
  | _ => none }
def IntsWideWrongFalsely : Prop := intsWideRow.holds Tryd.pinned (OpenSpec.ofChange intsWideWrong)

/-- 'platenlaw03.IntsBack': WHATEVER THE INPUT: true; the input reads as it did. -/
def intsBackSpec : ChangeSpec := { name := "intsBack", fn := fun _ => fun
  | [d1, d2] => { results := [.lit (.bool true)], args := [d1, d2] }
  | _ => none }
def intsBackRow : OpenClaim := { program := "ytnoelbomcogndabdoor", sum := "0eba7c31cfa1a7828c6bf46bab7612e585e20cda7dc445fca1b43246c3c748e7", func := "platen/platenlaw03.IntsBack", spec := "intsBack", inPlace := ["internal/abi.NoEscape", "internal/bytealg.MakeNoZero"], unfollowed := true, recurses := true, named := ["platen/quote.escapes", "unicode/utf8.first", "unicode/utf8.acceptRanges", "unicode.CaseRanges"], apart := false, laid := [("unicode/utf8.acceptRanges", laid_unicode_utf8_acceptRanges), ("platen/quote.escapes", laid_platen_quote_escapes), ("unicode.CaseRanges", laid_unicode_CaseRanges), ("unicode/utf8.first", laid_unicode_utf8_first)] }
def IntsBackSaid : Prop := intsBackRow.holds Tryd.pinned (OpenSpec.ofChange intsBackSpec)

/-- ITS FALSE NEIGHBOUR: 'it returns false'. Refute it at one input. -/
def intsBackWrong : ChangeSpec := { name := "intsBack", fn := fun _ => fun
  | [d1, d2] => { results := [.lit (.bool false)], args := [d1, d2] }
  | _ => none }
def IntsBackWrongFalsely : Prop := intsBackRow.holds Tryd.pinned (OpenSpec.ofChange intsBackWrong)

/- THE SECOND FORM. 'bulk': how many values and letters a reading holds, each counted each time it is reached (what is shared counts as often as it is met; a slice's spare places count too). A statement '..UptoSaid' is the law's where the arguments, and the package variables that the reading takes, are together of bulk at most 1048576: NARROWER than '..Said'. Prove '..Said' where nothing that the law and all that it calls make is longer than what came in: it says more and counts as full. Else prove '..UptoSaid'. A law counts once. -/
mutual
def uptoBulk {H : Type} : DataW H → Nat
  | .lit (.string bytes) => bytes.length + 1
  | .lit _ => 1
  | .nil => 1
  | .ptr d => uptoBulk d + 1
  | .slice elems spare => uptoBulkAll elems + uptoBulkAll spare + 1
  | .agg parts => uptoBulkAll parts + 1
  | .iface _ d => uptoBulk d + 1
  | .map entries => uptoBulkEntries entries + 1
  | .held _ => 1
def uptoBulkAll {H : Type} : List (DataW H) → Nat
  | [] => 0
  | d :: r => uptoBulk d + uptoBulkAll r
def uptoBulkEntries {H : Type} : List (Lit × DataW H) → Nat
  | [] => 0
  | x :: r => uptoBulkEntry x + uptoBulkEntries r
def uptoBulkEntry {H : Type} : Lit × DataW H → Nat
  | (.string bytes, d) => bytes.length + uptoBulk d + 1
  | (_, d) => uptoBulk d + 1
 end
def uptoSmall : (H : Type) → List (DataW H) → Bool := fun _ ds => decide (uptoBulkAll ds ≤ 1048576)
def OpenSpec.upto (s : _root_.Go.ChangeSpec) : _root_.Go.OpenSpec := { _root_.Go.OpenSpec.ofChange s with cond := some uptoSmall }

/-- 'platenlaw03.IntsDigits', WHERE WHAT IT READS IS OF BULK AT MOST 1048576: true; the input reads as it did. -/
def intsDigitsUptoRow : OpenClaim := { program := "ytnoelbomcogndabdoor", sum := "0eba7c31cfa1a7828c6bf46bab7612e585e20cda7dc445fca1b43246c3c748e7", func := "platen/platenlaw03.IntsDigits", spec := "intsDigits", inPlace := ["internal/abi.NoEscape", "internal/bytealg.MakeNoZero"], unfollowed := true, recurses := true, named := ["platen/quote.escapes", "unicode/utf8.first", "unicode/utf8.acceptRanges", "unicode.CaseRanges"], apart := false, laid := [("unicode/utf8.acceptRanges", laid_unicode_utf8_acceptRanges), ("platen/quote.escapes", laid_platen_quote_escapes), ("unicode.CaseRanges", laid_unicode_CaseRanges), ("unicode/utf8.first", laid_unicode_utf8_first)], narrowed := true }
def IntsDigitsUptoSaid : Prop := intsDigitsUptoRow.holds Tryd.pinned (OpenSpec.upto intsDigitsSpec)

/-- 'platenlaw03.IntsSigned', WHERE WHAT IT READS IS OF BULK AT MOST 1048576: true; the input reads as it did. -/
def intsSignedUptoRow : OpenClaim := { program := "ytnoelbomcogndabdoor", sum := "0eba7c31cfa1a7828c6bf46bab7612e585e20cda7dc445fca1b43246c3c748e7", func := "platen/platenlaw03.IntsSigned", spec := "intsSigned", inPlace := ["internal/abi.NoEscape", "internal/bytealg.MakeNoZero"], unfollowed := true, recurses := true, named := ["platen/quote.escapes", "unicode/utf8.first", "unicode/utf8.acceptRanges", "unicode.CaseRanges"], apart := false, laid := [("unicode/utf8.acceptRanges", laid_unicode_utf8_acceptRanges), ("platen/quote.escapes", laid_platen_quote_escapes), ("unicode.CaseRanges", laid_unicode_CaseRanges), ("unicode/utf8.first", laid_unicode_utf8_first)], narrowed := true }
def IntsSignedUptoSaid : Prop := intsSignedUptoRow.holds Tryd.pinned (OpenSpec.upto intsSignedSpec)

/-- 'platenlaw03.IntsUnsigned', WHERE WHAT IT READS IS OF BULK AT MOST 1048576: true; the input reads as it did. -/
def intsUnsignedUptoRow : OpenClaim := { program := "ytnoelbomcogndabdoor", sum := "0eba7c31cfa1a7828c6bf46bab7612e585e20cda7dc445fca1b43246c3c748e7", func := "platen/platenlaw03.IntsUnsigned", spec := "intsUnsigned", inPlace := ["internal/abi.NoEscape", "internal/bytealg.MakeNoZero"], unfollowed := true, recurses := true, named := ["platen/quote.escapes", "unicode/utf8.first", "unicode/utf8.acceptRanges", "unicode.CaseRanges"], apart := false, laid := [("unicode/utf8.acceptRanges", laid_unicode_utf8_acceptRanges), ("platen/quote.escapes", laid_platen_quote_escapes), ("unicode.CaseRanges", laid_unicode_CaseRanges), ("unicode/utf8.first", laid_unicode_utf8_first)], narrowed := true }
def IntsUnsignedUptoSaid : Prop := intsUnsignedUptoRow.holds Tryd.pinned (OpenSpec.upto intsUnsignedSpec)

/-- 'platenlaw03.IntsChars', WHERE WHAT IT READS IS OF BULK AT MOST 1048576: true; the input reads as it did. -/
def intsCharsUptoRow : OpenClaim := { program := "ytnoelbomcogndabdoor", sum := "0eba7c31cfa1a7828c6bf46bab7612e585e20cda7dc445fca1b43246c3c748e7", func := "platen/platenlaw03.IntsChars", spec := "intsChars", inPlace := ["internal/abi.NoEscape", "internal/bytealg.MakeNoZero"], unfollowed := true, recurses := true, named := ["platen/quote.escapes", "unicode/utf8.first", "unicode/utf8.acceptRanges", "unicode.CaseRanges"], apart := false, laid := [("unicode/utf8.acceptRanges", laid_unicode_utf8_acceptRanges), ("platen/quote.escapes", laid_platen_quote_escapes), ("unicode.CaseRanges", laid_unicode_CaseRanges), ("unicode/utf8.first", laid_unicode_utf8_first)], narrowed := true }
def IntsCharsUptoSaid : Prop := intsCharsUptoRow.holds Tryd.pinned (OpenSpec.upto intsCharsSpec)

/-- 'platenlaw03.IntsWide', WHERE WHAT IT READS IS OF BULK AT MOST 1048576: true; the input reads as it did. -/
def intsWideUptoRow : OpenClaim := { program := "ytnoelbomcogndabdoor", sum := "0eba7c31cfa1a7828c6bf46bab7612e585e20cda7dc445fca1b43246c3c748e7", func := "platen/platenlaw03.IntsWide", spec := "intsWide", inPlace := ["internal/abi.NoEscape", "internal/bytealg.MakeNoZero"], unfollowed := true, recurses := true, named := ["platen/quote.escapes", "unicode/utf8.first", "unicode/utf8.acceptRanges", "unicode.CaseRanges"], apart := false, laid := [("unicode/utf8.acceptRanges", laid_unicode_utf8_acceptRanges), ("platen/quote.escapes", laid_platen_quote_escapes), ("unicode.CaseRanges", laid_unicode_CaseRanges), ("unicode/utf8.first", laid_unicode_utf8_first)], narrowed := true }
def IntsWideUptoSaid : Prop := intsWideUptoRow.holds Tryd.pinned (OpenSpec.upto intsWideSpec)

/-- 'platenlaw03.IntsBack', WHERE WHAT IT READS IS OF BULK AT MOST 1048576: true; the input reads as it did. -/
def intsBackUptoRow : OpenClaim := { program := "ytnoelbomcogndabdoor", sum := "0eba7c31cfa1a7828c6bf46bab7612e585e20cda7dc445fca1b43246c3c748e7", func := "platen/platenlaw03.IntsBack", spec := "intsBack", inPlace := ["internal/abi.NoEscape", "internal/bytealg.MakeNoZero"], unfollowed := true, recurses := true, named := ["platen/quote.escapes", "unicode/utf8.first", "unicode/utf8.acceptRanges", "unicode.CaseRanges"], apart := false, laid := [("unicode/utf8.acceptRanges", laid_unicode_utf8_acceptRanges), ("platen/quote.escapes", laid_platen_quote_escapes), ("unicode.CaseRanges", laid_unicode_CaseRanges), ("unicode/utf8.first", laid_unicode_utf8_first)], narrowed := true }
def IntsBackUptoSaid : Prop := intsBackUptoRow.holds Tryd.pinned (OpenSpec.upto intsBackSpec)

end Rows
end Go.Proofs.YtnoelbomcogndabDoor
