/-
  NARROWER THAN 'FOR EVERY INPUT', by the rows' own cells (each row's printed sentence says how): TopDispatch: laid · TopNil: laid · TopPanics: laid · TopDepths: laid.
  DERIVED. THE GIVEN ROWS OF THIS SEAT. 4 by the template 'for every input the law returns true; each argument reads behind the call as it read before'; 0 by the template 'total and deterministic' (their statements: YtdlnmnipnkeabaaGreatDoorTotals.lean).
  GIVEN WITH THE SEED: the statements are not yours to turn. If you find one false, say at which input.
  Laid BY PROGRAM, IN A SANDBOX (cutbox-rows.mjs): the forced cells as the released guide's own fill.sh prints them over the translation a751bd69b5e7b2a2… (all of the seat's roots in one cut). By AI agents, Wed Nov 11 2026. No macro, syntax, notation, axiom, sorry.
-/
import Derived.Test.YtdlnmnipnkeabaaGreatDoorChecked
import GoSem.PinnedTables
import GoSem.Claim
import GoSem.ClaimJoined
import GoSem.ClaimMapViews
import Derived.JoinedTies
import Derived.KernelRfl
namespace Go.Proofs.YtdlnmnipnkeabaaGreatDoor
/- THE CELL 'sum', in the pinned program and in every row, IS THE sha256 OF THE DUMP (.gsa) THAT YtdlnmnipnkeabaaGreatDoorProg.lean LOADS. Nothing in Lean hashes anything: it is a label: what it is worth is what the hold of that sum in a sandbox is worth. -/
noncomputable def Tryz.pinned : Pinned := { name := "ytdlnmnipnkeabaagreatdoor", sum := "a751bd69b5e7b2a2367315288b8f6328b23dfa1bc9c91f0abde87c16c7573c7d", checked := Tryz.checked }
namespace Rows
def none {H : Type} : Left H := { results := [], args := [] }

/- WHAT THE LISTED PACKAGE-LEVEL VARIABLES READ AS WHEN THE CALL BEGINS. Each datum BY PROGRAM (the guide's laid-datum.mjs) off the statement by which the dump's own 'gosem.cut.vars' lays the variable. In a bare row this is a premise. The card (YtdlnmnipnkeabaaGreatDoorCards.lean) ties it to the program's text. -/
def laid_unicode_utf8_acceptRanges {H : Type} : DataW H := .agg [.agg [.lit (.int .u8 128), .lit (.int .u8 191)], .agg [.lit (.int .u8 160), .lit (.int .u8 191)], .agg [.lit (.int .u8 128), .lit (.int .u8 159)], .agg [.lit (.int .u8 144), .lit (.int .u8 191)], .agg [.lit (.int .u8 128), .lit (.int .u8 143)], .agg [.lit (.int .u8 0), .lit (.int .u8 0)], .agg [.lit (.int .u8 0), .lit (.int .u8 0)], .agg [.lit (.int .u8 0), .lit (.int .u8 0)], .agg [.lit (.int .u8 0), .lit (.int .u8 0)], .agg [.lit (.int .u8 0), .lit (.int .u8 0)], .agg [.lit (.int .u8 0), .lit (.int .u8 0)], .agg [.lit (.int .u8 0), .lit (.int .u8 0)], .agg [.lit (.int .u8 0), .lit (.int .u8 0)], .agg [.lit (.int .u8 0), .lit (.int .u8 0)], .agg [.lit (.int .u8 0), .lit (.int .u8 0)], .agg [.lit (.int .u8 0), .lit (.int .u8 0)]]
def laid_platen_values_kindNames {H : Type} : DataW H := .agg [.lit (.string [60, 110, 105, 108, 62]), .lit (.string [98, 111, 111, 108]), .lit (.string [105, 110, 116, 56]), .lit (.string [105, 110, 116, 49, 54]), .lit (.string [105, 110, 116, 51, 50]), .lit (.string [105, 110, 116, 54, 52]), .lit (.string [105, 110, 116]), .lit (.string [117, 105, 110, 116, 56]), .lit (.string [117, 105, 110, 116, 49, 54]), .lit (.string [117, 105, 110, 116, 51, 50]), .lit (.string [117, 105, 110, 116, 54, 52]), .lit (.string [117, 105, 110, 116]), .lit (.string [102, 108, 111, 97, 116, 51, 50]), .lit (.string [102, 108, 111, 97, 116, 54, 52]), .lit (.string [99, 111, 109, 112, 108, 101, 120, 54, 52]), .lit (.string [99, 111, 109, 112, 108, 101, 120, 49, 50, 56]), .lit (.string [115, 116, 114, 105, 110, 103]), .lit (.string [91, 93, 117, 105, 110, 116, 56]), .lit (.string [115, 116, 114, 117, 99, 116]), .lit (.string [97, 114, 114, 97, 121]), .lit (.string [115, 108, 105, 99, 101]), .lit (.string [109, 97, 112]), .lit (.string [112, 116, 114])]
def laid_platen_quote_escapes {H : Type} : DataW H := .agg [.lit (.int .i32 97), .lit (.int .i32 98), .lit (.int .i32 116), .lit (.int .i32 110), .lit (.int .i32 118), .lit (.int .i32 102), .lit (.int .i32 114)]
/-- One of Go's own tables, pinned by name: the form's constant. -/
def laid_unicode_CaseRanges : DataW Unit := Go.Pinned.caseRanges
/-- One of Go's own tables, pinned by name: the form's constant. -/
def laid_unicode_utf8_first : DataW Unit := Go.Pinned.utf8First

/-- 'platentop.TopDispatch': WHATEVER THE INPUT: true; the input reads as it did. -/
def topDispatchSpec : ChangeSpec := { name := "topDispatch", fn := fun _ => fun
  | [d] => { results := [.lit (.bool true)], args := [d] }
  | _ => none }
def topDispatchRow : OpenClaim := { program := "ytdlnmnipnkeabaagreatdoor", sum := "a751bd69b5e7b2a2367315288b8f6328b23dfa1bc9c91f0abde87c16c7573c7d", func := "platen/platentop.TopDispatch", spec := "topDispatch", inPlace := ["internal/abi.NoEscape", "internal/bytealg.MakeNoZero", "internal/bytealg.IndexByteString", "internal/bytealg.IndexString", "internal/bytealg.abigen_runtime_cmpstring"], unfollowed := true, recurses := true, named := ["platen/quote.escapes", "platen/values.kindNames", "unicode/utf8.first", "unicode/utf8.acceptRanges", "unicode.CaseRanges", "internal/bytealg.MaxLen"], apart := false, laid := [("unicode/utf8.acceptRanges", laid_unicode_utf8_acceptRanges), ("platen/values.kindNames", laid_platen_values_kindNames), ("platen/quote.escapes", laid_platen_quote_escapes), ("unicode.CaseRanges", laid_unicode_CaseRanges), ("unicode/utf8.first", laid_unicode_utf8_first)] }
def TopDispatchSaid : Prop := topDispatchRow.holds Tryz.pinned (OpenSpec.ofChange topDispatchSpec)

/-- ITS FALSE NEIGHBOUR: 'it returns false'. Refute it at one input. -/
def topDispatchWrong : ChangeSpec := { name := "topDispatch", fn := fun _ => fun
  | [d] => { results := [.lit (.bool false)], args := [d] }
  | _ => none }
def TopDispatchWrongFalsely : Prop := topDispatchRow.holds Tryz.pinned (OpenSpec.ofChange topDispatchWrong)

/-- 'platentop.TopNil': WHATEVER THE INPUT: true; the input reads as it did. -/
def topNilSpec : ChangeSpec := { name := "topNil", fn := fun _ => fun
  | [d1, d2, d3] => { results := [.lit (.bool true)], args := [d1, d2, d3] }
  | _ => none }
def topNilRow : OpenClaim := { program := "ytdlnmnipnkeabaagreatdoor", sum := "a751bd69b5e7b2a2367315288b8f6328b23dfa1bc9c91f0abde87c16c7573c7d", func := "platen/platentop.TopNil", spec := "topNil", inPlace := ["internal/abi.NoEscape", "internal/bytealg.MakeNoZero", "internal/bytealg.IndexByteString", "internal/bytealg.IndexString", "internal/bytealg.abigen_runtime_cmpstring"], unfollowed := true, recurses := true, named := ["platen/quote.escapes", "platen/values.kindNames", "unicode/utf8.first", "unicode/utf8.acceptRanges", "unicode.CaseRanges", "internal/bytealg.MaxLen"], apart := false, laid := [("unicode/utf8.acceptRanges", laid_unicode_utf8_acceptRanges), ("platen/values.kindNames", laid_platen_values_kindNames), ("platen/quote.escapes", laid_platen_quote_escapes), ("unicode.CaseRanges", laid_unicode_CaseRanges), ("unicode/utf8.first", laid_unicode_utf8_first)] }
def TopNilSaid : Prop := topNilRow.holds Tryz.pinned (OpenSpec.ofChange topNilSpec)

/-- ITS FALSE NEIGHBOUR: 'it returns false'. Refute it at one input. -/
def topNilWrong : ChangeSpec := { name := "topNil", fn := fun _ => fun
  | [d1, d2, d3] => { results := [.lit (.bool false)], args := [d1, d2, d3] }
  | _ => none }
def TopNilWrongFalsely : Prop := topNilRow.holds Tryz.pinned (OpenSpec.ofChange topNilWrong)

/-- 'platentop.TopPanics': WHATEVER THE INPUT: true; the input reads as it did. -/
def topPanicsSpec : ChangeSpec := { name := "topPanics", fn := fun _ => fun
  | [d1, d2, d3] => { results := [.lit (.bool true)], args := [d1, d2, d3] }
  | _ => none }
def topPanicsRow : OpenClaim := { program := "ytdlnmnipnkeabaagreatdoor", sum := "a751bd69b5e7b2a2367315288b8f6328b23dfa1bc9c91f0abde87c16c7573c7d", func := "platen/platentop.TopPanics", spec := "topPanics", inPlace := ["internal/abi.NoEscape", "internal/bytealg.MakeNoZero", "internal/bytealg.IndexByteString", "internal/bytealg.IndexString", "internal/bytealg.abigen_runtime_cmpstring"], unfollowed := true, recurses := true, named := ["platen/quote.escapes", "platen/values.kindNames", "unicode/utf8.first", "unicode/utf8.acceptRanges", "unicode.CaseRanges", "internal/bytealg.MaxLen"], apart := false, laid := [("unicode/utf8.acceptRanges", laid_unicode_utf8_acceptRanges), ("platen/values.kindNames", laid_platen_values_kindNames), ("platen/quote.escapes", laid_platen_quote_escapes), ("unicode.CaseRanges", laid_unicode_CaseRanges), ("unicode/utf8.first", laid_unicode_utf8_first)] }
def TopPanicsSaid : Prop := topPanicsRow.holds Tryz.pinned (OpenSpec.ofChange topPanicsSpec)

/-- ITS FALSE NEIGHBOUR: 'it returns false'. Refute it at one input. -/
def topPanicsWrong : ChangeSpec := { name := "topPanics", fn := fun _ => fun
  | [d1, d2, d3] => { results := [.lit (.bool false)], args := [d1, d2, d3] }
  | _ => none }
def TopPanicsWrongFalsely : Prop := topPanicsRow.holds Tryz.pinned (OpenSpec.ofChange topPanicsWrong)

/-- 'platentop.TopDepths': WHATEVER THE INPUT: true; the input reads as it did. -/
def topDepthsSpec : ChangeSpec := { name := "topDepths", fn := fun _ => fun
  | [d1, d2] => { results := [.lit (.bool true)], args := [d1, d2] }
  | _ => none }
def topDepthsRow : OpenClaim := { program := "ytdlnmnipnkeabaagreatdoor", sum := "a751bd69b5e7b2a2367315288b8f6328b23dfa1bc9c91f0abde87c16c7573c7d", func := "platen/platentop.TopDepths", spec := "topDepths", inPlace := ["internal/abi.NoEscape", "internal/bytealg.MakeNoZero", "internal/bytealg.IndexByteString", "internal/bytealg.IndexString", "internal/bytealg.abigen_runtime_cmpstring"], unfollowed := true, recurses := true, named := ["platen/quote.escapes", "platen/values.kindNames", "unicode/utf8.first", "unicode/utf8.acceptRanges", "unicode.CaseRanges", "internal/bytealg.MaxLen"], apart := false, laid := [("unicode/utf8.acceptRanges", laid_unicode_utf8_acceptRanges), ("platen/values.kindNames", laid_platen_values_kindNames), ("platen/quote.escapes", laid_platen_quote_escapes), ("unicode.CaseRanges", laid_unicode_CaseRanges), ("unicode/utf8.first", laid_unicode_utf8_first)] }
def TopDepthsSaid : Prop := topDepthsRow.holds Tryz.pinned (OpenSpec.ofChange topDepthsSpec)

/-- ITS FALSE NEIGHBOUR: 'it returns false'. Refute it at one input. -/
def topDepthsWrong : ChangeSpec := { name := "topDepths", fn := fun _ => fun
  | [d1, d2] => { results := [.lit (.bool false)], args := [d1, d2] }
  | _ => none }
def TopDepthsWrongFalsely : Prop := topDepthsRow.holds Tryz.pinned (OpenSpec.ofChange topDepthsWrong)

/- THE SECOND FORM. 'bulk': how many values and letters a reading holds, each counted each time it is reached (what is shared counts as often as it is met; a slice's spare places count too). A statement '..UptoSaid' is the law's where the arguments, and the package variables that the reading takes, are together of bulk at most 1048576: NARROWER than '..Said'. Prove '..Said' where nothing that the law and all that it calls make is longer than what came in: it says more and counts as full. Else prove '..UptoSaid'. A law counts once. -/
mutual
def uptoBulk {H : Type} : DataW H → Nat
  | .lit (.string bytes) => bytes.length + 1
  | .lit _ => 1
  | .nil => 1
  | .ptr d => uptoBulk d + 1
  | .slice elems spare => uptoBulkAll elems + uptoBulkAll spare + 1
  | .agg parts => uptoBulkAll parts + 1
  | .iface _ d => uptoBulk d + 1
  | .map entries => uptoBulkEntries entries + 1
  | .held _ => 1
def uptoBulkAll {H : Type} : List (DataW H) → Nat
  | [] => 0
  | d :: r => uptoBulk d + uptoBulkAll r
def uptoBulkEntries {H : Type} : List (Lit × DataW H) → Nat
  | [] => 0
  | x :: r => uptoBulkEntry x + uptoBulkEntries r
def uptoBulkEntry {H : Type} : Lit × DataW H → Nat
  | (.string bytes, d) => bytes.length + uptoBulk d + 1
  | (_, d) => uptoBulk d + 1
 end
def uptoSmall : (H : Type) → List (DataW H) → Bool := fun _ ds => decide (uptoBulkAll ds ≤ 1048576)
def OpenSpec.upto (s : _root_.Go.ChangeSpec) : _root_.Go.OpenSpec := { _root_.Go.OpenSpec.ofChange s with cond := some uptoSmall }

/-- 'platentop.TopDispatch', WHERE WHAT IT READS IS OF BULK AT MOST 1048576: true; the input reads as it did. -/
def topDispatchUptoRow : OpenClaim := { program := "ytdlnmnipnkeabaagreatdoor", sum := "a751bd69b5e7b2a2367315288b8f6328b23dfa1bc9c91f0abde87c16c7573c7d", func := "platen/platentop.TopDispatch", spec := "topDispatch", inPlace := ["internal/abi.NoEscape", "internal/bytealg.MakeNoZero", "internal/bytealg.IndexByteString", "internal/bytealg.IndexString", "internal/bytealg.abigen_runtime_cmpstring"], unfollowed := true, recurses := true, named := ["platen/quote.escapes", "platen/values.kindNames", "unicode/utf8.first", "unicode/utf8.acceptRanges", "unicode.CaseRanges", "internal/bytealg.MaxLen"], apart := false, laid := [("unicode/utf8.acceptRanges", laid_unicode_utf8_acceptRanges), ("platen/values.kindNames", laid_platen_values_kindNames), ("platen/quote.escapes", laid_platen_quote_escapes), ("unicode.CaseRanges", laid_unicode_CaseRanges), ("unicode/utf8.first", laid_unicode_utf8_first)], narrowed := true }
def TopDispatchUptoSaid : Prop := topDispatchUptoRow.holds Tryz.pinned (OpenSpec.upto topDispatchSpec)

/-- 'platentop.TopNil', WHERE WHAT IT READS IS OF BULK AT MOST 1048576: true; the input reads as it did. -/
def topNilUptoRow : OpenClaim := { program := "ytdlnmnipnkeabaagreatdoor", sum := "a751bd69b5e7b2a2367315288b8f6328b23dfa1bc9c91f0abde87c16c7573c7d", func := "platen/platentop.TopNil", spec := "topNil", inPlace := ["internal/abi.NoEscape", "internal/bytealg.MakeNoZero", "internal/bytealg.IndexByteString", "internal/bytealg.IndexString", "internal/bytealg.abigen_runtime_cmpstring"], unfollowed := true, recurses := true, named := ["platen/quote.escapes", "platen/values.kindNames", "unicode/utf8.first", "unicode/utf8.acceptRanges", "unicode.CaseRanges", "internal/bytealg.MaxLen"], apart := false, laid := [("unicode/utf8.acceptRanges", laid_unicode_utf8_acceptRanges), ("platen/values.kindNames", laid_platen_values_kindNames), ("platen/quote.escapes", laid_platen_quote_escapes), ("unicode.CaseRanges", laid_unicode_CaseRanges), ("unicode/utf8.first", laid_unicode_utf8_first)], narrowed := true }
def TopNilUptoSaid : Prop := topNilUptoRow.holds Tryz.pinned (OpenSpec.upto topNilSpec)

/-- 'platentop.TopPanics', WHERE WHAT IT READS IS OF BULK AT MOST 1048576: true; the input reads as it did. -/
def topPanicsUptoRow : OpenClaim := { program := "ytdlnmnipnkeabaagreatdoor", sum := "a751bd69b5e7b2a2367315288b8f6328b23dfa1bc9c91f0abde87c16c7573c7d", func := "platen/platentop.TopPanics", spec := "topPanics", inPlace := ["internal/abi.NoEscape", "internal/bytealg.MakeNoZero", "internal/bytealg.IndexByteString", "internal/bytealg.IndexString", "internal/bytealg.abigen_runtime_cmpstring"], unfollowed := true, recurses := true, named := ["platen/quote.escapes", "platen/values.kindNames", "unicode/utf8.first", "unicode/utf8.acceptRanges", "unicode.CaseRanges", "internal/bytealg.MaxLen"], apart := false, laid := [("unicode/utf8.acceptRanges", laid_unicode_utf8_acceptRanges), ("platen/values.kindNames", laid_platen_values_kindNames), ("platen/quote.escapes", laid_platen_quote_escapes), ("unicode.CaseRanges", laid_unicode_CaseRanges), ("unicode/utf8.first", laid_unicode_utf8_first)], narrowed := true }
def TopPanicsUptoSaid : Prop := topPanicsUptoRow.holds Tryz.pinned (OpenSpec.upto topPanicsSpec)

/-- 'platentop.TopDepths', WHERE WHAT IT READS IS OF BULK AT MOST 1048576: true; the input reads as it did. -/
def topDepthsUptoRow : OpenClaim := { program := "ytdlnmnipnkeabaagreatdoor", sum := "a751bd69b5e7b2a2367315288b8f6328b23dfa1bc9c91f0abde87c16c7573c7d", func := "platen/platentop.TopDepths", spec := "topDepths", inPlace := ["internal/abi.NoEscape", "internal/bytealg.MakeNoZero", "internal/bytealg.IndexByteString", "internal/bytealg.IndexString", "internal/bytealg.abigen_runtime_cmpstring"], unfollowed := true, recurses := true, named := ["platen/quote.escapes", "platen/values.kindNames", "unicode/utf8.first", "unicode/utf8.acceptRanges", "unicode.CaseRanges", "internal/bytealg.MaxLen"], apart := false, laid := [("unicode/utf8.acceptRanges", laid_unicode_utf8_acceptRanges), ("platen/values.kindNames", laid_platen_values_kindNames), ("platen/quote.escapes", laid_platen_quote_escapes), ("unicode.CaseRanges", laid_unicode_CaseRanges), ("unicode/utf8.first", laid_unicode_utf8_first)], narrowed := true }
def TopDepthsUptoSaid : Prop := topDepthsUptoRow.holds Tryz.pinned (OpenSpec.upto topDepthsSpec)

end Rows
end Go.Proofs.YtdlnmnipnkeabaaGreatDoor
