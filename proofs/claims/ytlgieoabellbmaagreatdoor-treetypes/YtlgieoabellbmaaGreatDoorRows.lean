/-
  NARROWER THAN 'FOR EVERY INPUT', by the rows' own cells (each row's printed sentence says how): TreeTypes: loops, laid · TreeQuiet: loops, laid · TreeOuter: loops, laid · TreeLists: loops, laid · TreeStructs: loops, laid · TreePtrs: loops, laid.
  DERIVED. THE GIVEN ROWS OF THIS SEAT. 6 by the template 'for every input the law returns true; each argument reads behind the call as it read before'; 0 by the template 'total and deterministic' (their statements: YtlgieoabellbmaaGreatDoorTotals.lean).
  GIVEN WITH THE SEED: the statements are not yours to turn. If you find one false, say at which input.
  Laid BY PROGRAM, IN A SANDBOX (cutbox-rows.mjs): the forced cells as the released guide's own fill.sh prints them over the translation 11626dfacf91f916… (all of the seat's roots in one cut). By AI agents, Wed Nov 11 2026. No macro, syntax, notation, axiom, sorry.
-/
import Derived.Test.YtlgieoabellbmaaGreatDoorChecked
import GoSem.PinnedTables
import GoSem.Claim
import GoSem.ClaimJoined
import GoSem.ClaimMapViews
import Derived.JoinedTies
import Derived.KernelRfl
namespace Go.Proofs.YtlgieoabellbmaaGreatDoor
/- THE CELL 'sum', in the pinned program and in every row, IS THE sha256 OF THE DUMP (.gsa) THAT YtlgieoabellbmaaGreatDoorProg.lean LOADS. Nothing in Lean hashes anything: it is a label: what it is worth is what the hold of that sum in a sandbox is worth. -/
noncomputable def Tryz.pinned : Pinned := { name := "ytlgieoabellbmaagreatdoor", sum := "11626dfacf91f9167937219d95258b9c25e1c99f9b1d7b36c7d6bb2090dc73cd", checked := Tryz.checked }
namespace Rows
def none {H : Type} : Left H := { results := [], args := [] }

/- WHAT THE LISTED PACKAGE-LEVEL VARIABLES READ AS WHEN THE CALL BEGINS. Each datum BY PROGRAM (the guide's laid-datum.mjs) off the statement by which the dump's own 'gosem.cut.vars' lays the variable. In a bare row this is a premise. The card (YtlgieoabellbmaaGreatDoorCards.lean) ties it to the program's text. -/
def laid_unicode_utf8_acceptRanges {H : Type} : DataW H := .agg [.agg [.lit (.int .u8 128), .lit (.int .u8 191)], .agg [.lit (.int .u8 160), .lit (.int .u8 191)], .agg [.lit (.int .u8 128), .lit (.int .u8 159)], .agg [.lit (.int .u8 144), .lit (.int .u8 191)], .agg [.lit (.int .u8 128), .lit (.int .u8 143)], .agg [.lit (.int .u8 0), .lit (.int .u8 0)], .agg [.lit (.int .u8 0), .lit (.int .u8 0)], .agg [.lit (.int .u8 0), .lit (.int .u8 0)], .agg [.lit (.int .u8 0), .lit (.int .u8 0)], .agg [.lit (.int .u8 0), .lit (.int .u8 0)], .agg [.lit (.int .u8 0), .lit (.int .u8 0)], .agg [.lit (.int .u8 0), .lit (.int .u8 0)], .agg [.lit (.int .u8 0), .lit (.int .u8 0)], .agg [.lit (.int .u8 0), .lit (.int .u8 0)], .agg [.lit (.int .u8 0), .lit (.int .u8 0)], .agg [.lit (.int .u8 0), .lit (.int .u8 0)]]
def laid_platen_values_kindNames {H : Type} : DataW H := .agg [.lit (.string [60, 110, 105, 108, 62]), .lit (.string [98, 111, 111, 108]), .lit (.string [105, 110, 116, 56]), .lit (.string [105, 110, 116, 49, 54]), .lit (.string [105, 110, 116, 51, 50]), .lit (.string [105, 110, 116, 54, 52]), .lit (.string [105, 110, 116]), .lit (.string [117, 105, 110, 116, 56]), .lit (.string [117, 105, 110, 116, 49, 54]), .lit (.string [117, 105, 110, 116, 51, 50]), .lit (.string [117, 105, 110, 116, 54, 52]), .lit (.string [117, 105, 110, 116]), .lit (.string [102, 108, 111, 97, 116, 51, 50]), .lit (.string [102, 108, 111, 97, 116, 54, 52]), .lit (.string [99, 111, 109, 112, 108, 101, 120, 54, 52]), .lit (.string [99, 111, 109, 112, 108, 101, 120, 49, 50, 56]), .lit (.string [115, 116, 114, 105, 110, 103]), .lit (.string [91, 93, 117, 105, 110, 116, 56]), .lit (.string [115, 116, 114, 117, 99, 116]), .lit (.string [97, 114, 114, 97, 121]), .lit (.string [115, 108, 105, 99, 101]), .lit (.string [109, 97, 112]), .lit (.string [112, 116, 114])]
def laid_platen_quote_escapes {H : Type} : DataW H := .agg [.lit (.int .i32 97), .lit (.int .i32 98), .lit (.int .i32 116), .lit (.int .i32 110), .lit (.int .i32 118), .lit (.int .i32 102), .lit (.int .i32 114)]
/-- One of Go's own tables, pinned by name: the form's constant. -/
def laid_unicode_CaseRanges : DataW Unit := Go.Pinned.caseRanges
/-- One of Go's own tables, pinned by name: the form's constant. -/
def laid_unicode_utf8_first : DataW Unit := Go.Pinned.utf8First

/-- 'platenlaw12.TreeTypes': WHATEVER THE INPUT: true; the input reads as it did. -/
def treeTypesSpec : ChangeSpec := { name := "treeTypes", fn := fun _ => fun
  | [d] => { results := [.lit (.bool true)], args := [d] }
  | _ => none }
def treeTypesRow : OpenClaim := { program := "ytlgieoabellbmaagreatdoor", sum := "11626dfacf91f9167937219d95258b9c25e1c99f9b1d7b36c7d6bb2090dc73cd", func := "platen/platenlaw12.TreeTypes", spec := "treeTypes", inPlace := ["internal/abi.NoEscape", "internal/bytealg.MakeNoZero", "internal/bytealg.IndexByteString", "internal/bytealg.IndexString", "internal/bytealg.abigen_runtime_cmpstring"], unfollowed := true, recurses := true, named := ["platen/values.kindNames", "platen/quote.escapes", "unicode/utf8.first", "unicode/utf8.acceptRanges", "unicode.CaseRanges", "internal/bytealg.MaxLen"], loops := true, apart := false, laid := [("unicode/utf8.acceptRanges", laid_unicode_utf8_acceptRanges), ("platen/values.kindNames", laid_platen_values_kindNames), ("platen/quote.escapes", laid_platen_quote_escapes), ("unicode.CaseRanges", laid_unicode_CaseRanges), ("unicode/utf8.first", laid_unicode_utf8_first)] }
def TreeTypesSaid : Prop := treeTypesRow.holds Tryz.pinned (OpenSpec.ofChange treeTypesSpec)

/-- ITS FALSE NEIGHBOUR: 'it returns false'. Refute it at one input. -/
def treeTypesWrong : ChangeSpec := { name := "treeTypes", fn := fun _ => fun
  | [d] => { results := [.lit (.bool false)], args := [d] }
  | _ => none }
def TreeTypesWrongFalsely : Prop := treeTypesRow.holds Tryz.pinned (OpenSpec.ofChange treeTypesWrong)

/-- 'platenlaw12.TreeQuiet': WHATEVER THE INPUT: true; the input reads as it did. -/
def treeQuietSpec : ChangeSpec := { name := "treeQuiet", fn := fun _ => fun
  | [d1, d2] => { results := [.lit (.bool true)], args := [d1, d2] }
  | _ => none }
def treeQuietRow : OpenClaim := { program := "ytlgieoabellbmaagreatdoor", sum := "11626dfacf91f9167937219d95258b9c25e1c99f9b1d7b36c7d6bb2090dc73cd", func := "platen/platenlaw12.TreeQuiet", spec := "treeQuiet", inPlace := ["internal/abi.NoEscape", "internal/bytealg.MakeNoZero", "internal/bytealg.IndexByteString", "internal/bytealg.IndexString", "internal/bytealg.abigen_runtime_cmpstring"], unfollowed := true, recurses := true, named := ["platen/values.kindNames", "platen/quote.escapes", "unicode/utf8.first", "unicode/utf8.acceptRanges", "unicode.CaseRanges", "internal/bytealg.MaxLen"], loops := true, apart := false, laid := [("unicode/utf8.acceptRanges", laid_unicode_utf8_acceptRanges), ("platen/values.kindNames", laid_platen_values_kindNames), ("platen/quote.escapes", laid_platen_quote_escapes), ("unicode.CaseRanges", laid_unicode_CaseRanges), ("unicode/utf8.first", laid_unicode_utf8_first)] }
def TreeQuietSaid : Prop := treeQuietRow.holds Tryz.pinned (OpenSpec.ofChange treeQuietSpec)

/-- ITS FALSE NEIGHBOUR: 'it returns false'. Refute it at one input. -/
def treeQuietWrong : ChangeSpec := { name := "treeQuiet", fn := fun _ => fun
  | [d1, d2] => { results := [.lit (.bool false)], args := [d1, d2] }
  | _ => none }
def TreeQuietWrongFalsely : Prop := treeQuietRow.holds Tryz.pinned (OpenSpec.ofChange treeQuietWrong)

/-- 'platenlaw12.TreeOuter': WHATEVER THE INPUT: true; the input reads as it did. -/
def treeOuterSpec : ChangeSpec := { name := "treeOuter", fn := fun _ => fun
  | [d1, d2, d3] => { results := [.lit (.bool true)], args := [d1, d2, d3] }
  | _ => none }
def treeOuterRow : OpenClaim := { program := "ytlgieoabellbmaagreatdoor", sum := "11626dfacf91f9167937219d95258b9c25e1c99f9b1d7b36c7d6bb2090dc73cd", func := "platen/platenlaw12.TreeOuter", spec := "treeOuter", inPlace := ["internal/abi.NoEscape", "internal/bytealg.MakeNoZero", "internal/bytealg.IndexByteString", "internal/bytealg.IndexString", "internal/bytealg.abigen_runtime_cmpstring"], unfollowed := true, recurses := true, named := ["platen/values.kindNames", "platen/quote.escapes", "unicode/utf8.first", "unicode/utf8.acceptRanges", "unicode.CaseRanges", "internal/bytealg.MaxLen"], loops := true, apart := false, laid := [("unicode/utf8.acceptRanges", laid_unicode_utf8_acceptRanges), ("platen/values.kindNames", laid_platen_values_kindNames), ("platen/quote.escapes", laid_platen_quote_escapes), ("unicode.CaseRanges", laid_unicode_CaseRanges), ("unicode/utf8.first", laid_unicode_utf8_first)] }
def TreeOuterSaid : Prop := treeOuterRow.holds Tryz.pinned (OpenSpec.ofChange treeOuterSpec)

/-- ITS FALSE NEIGHBOUR: 'it returns false'. Refute it at one input. -/
def treeOuterWrong : ChangeSpec := { name := "treeOuter", fn := fun _ => fun
  | [d1, d2, d3] => { results := [.lit (.bool false)], args := [d1, d2, d3] }
  | _ => none }
def TreeOuterWrongFalsely : Prop := treeOuterRow.holds Tryz.pinned (OpenSpec.ofChange treeOuterWrong)

/-- 'platenlaw12.TreeLists': WHATEVER THE INPUT: true; the input reads as it did. -/
def treeListsSpec : ChangeSpec := { name := "treeLists", fn := fun _ => fun
  | [d1, d2, d3] => { results := [.lit (.bool true)], args := [d1, d2, d3] }
  | _ => none }
def treeListsRow : OpenClaim := { program := "ytlgieoabellbmaagreatdoor", sum := "11626dfacf91f9167937219d95258b9c25e1c99f9b1d7b36c7d6bb2090dc73cd", func := "platen/platenlaw12.TreeLists", spec := "treeLists", inPlace := ["internal/abi.NoEscape", "internal/bytealg.MakeNoZero", "internal/bytealg.IndexByteString", "internal/bytealg.IndexString", "internal/bytealg.abigen_runtime_cmpstring"], unfollowed := true, recurses := true, named := ["platen/values.kindNames", "platen/quote.escapes", "unicode/utf8.first", "unicode/utf8.acceptRanges", "unicode.CaseRanges", "internal/bytealg.MaxLen"], loops := true, apart := false, laid := [("unicode/utf8.acceptRanges", laid_unicode_utf8_acceptRanges), ("platen/values.kindNames", laid_platen_values_kindNames), ("platen/quote.escapes", laid_platen_quote_escapes), ("unicode.CaseRanges", laid_unicode_CaseRanges), ("unicode/utf8.first", laid_unicode_utf8_first)] }
def TreeListsSaid : Prop := treeListsRow.holds Tryz.pinned (OpenSpec.ofChange treeListsSpec)

/-- ITS FALSE NEIGHBOUR: 'it returns false'. Refute it at one input. -/
def treeListsWrong : ChangeSpec := { name := "treeLists", fn := fun _ => fun
  | [d1, d2, d3] => { results := [.lit (.bool false)], args := [d1, d2, d3] }
  | _ => none }
def TreeListsWrongFalsely : Prop := treeListsRow.holds Tryz.pinned (OpenSpec.ofChange treeListsWrong)

/-- 'platenlaw12.TreeStructs': WHATEVER THE INPUT: true; the input reads as it did. -/
def treeStructsSpec : ChangeSpec := { name := "treeStructs", fn := fun _ => fun
  | [d1, d2, d3] => { results := [.lit (.bool true)], args := [d1, d2, d3] }
  | _ => none }
def treeStructsRow : OpenClaim := { program := "ytlgieoabellbmaagreatdoor", sum := "11626dfacf91f9167937219d95258b9c25e1c99f9b1d7b36c7d6bb2090dc73cd", func := "platen/platenlaw12.TreeStructs", spec := "treeStructs", inPlace := ["internal/abi.NoEscape", "internal/bytealg.MakeNoZero", "internal/bytealg.IndexByteString", "internal/bytealg.IndexString", "internal/bytealg.abigen_runtime_cmpstring"], unfollowed := true, recurses := true, named := ["platen/values.kindNames", "platen/quote.escapes", "unicode/utf8.first", "unicode/utf8.acceptRanges", "unicode.CaseRanges", "internal/bytealg.MaxLen"], loops := true, apart := false, laid := [("unicode/utf8.acceptRanges", laid_unicode_utf8_acceptRanges), ("platen/values.kindNames", laid_platen_values_kindNames), ("platen/quote.escapes", laid_platen_quote_escapes), ("unicode.CaseRanges", laid_unicode_CaseRanges), ("unicode/utf8.first", laid_unicode_utf8_first)] }
def TreeStructsSaid : Prop := treeStructsRow.holds Tryz.pinned (OpenSpec.ofChange treeStructsSpec)

/-- ITS FALSE NEIGHBOUR: 'it returns false'. Refute it at one input. -/
def treeStructsWrong : ChangeSpec := { name := "treeStructs", fn := fun _ => fun
  | [d1, d2, d3] => { results := [.lit (.bool false)], args := [d1, d2, d3] }
  | _ => none }
def TreeStructsWrongFalsely : Prop := treeStructsRow.holds Tryz.pinned (OpenSpec.ofChange treeStructsWrong)

/-- 'platenlaw12.TreePtrs': WHATEVER THE INPUT: true; the input reads as it did. -/
def treePtrsSpec : ChangeSpec := { name := "treePtrs", fn := fun _ => fun
  | [d1, d2, d3] => { results := [.lit (.bool true)], args := [d1, d2, d3] }
  | _ => none }
def treePtrsRow : OpenClaim := { program := "ytlgieoabellbmaagreatdoor", sum := "11626dfacf91f9167937219d95258b9c25e1c99f9b1d7b36c7d6bb2090dc73cd", func := "platen/platenlaw12.TreePtrs", spec := "treePtrs", inPlace := ["internal/abi.NoEscape", "internal/bytealg.MakeNoZero", "internal/bytealg.IndexByteString", "internal/bytealg.IndexString", "internal/bytealg.abigen_runtime_cmpstring"], unfollowed := true, recurses := true, named := ["platen/values.kindNames", "platen/quote.escapes", "unicode/utf8.first", "unicode/utf8.acceptRanges", "unicode.CaseRanges", "internal/bytealg.MaxLen"], loops := true, apart := false, laid := [("unicode/utf8.acceptRanges", laid_unicode_utf8_acceptRanges), ("platen/values.kindNames", laid_platen_values_kindNames), ("platen/quote.escapes", laid_platen_quote_escapes), ("unicode.CaseRanges", laid_unicode_CaseRanges), ("unicode/utf8.first", laid_unicode_utf8_first)] }
def TreePtrsSaid : Prop := treePtrsRow.holds Tryz.pinned (OpenSpec.ofChange treePtrsSpec)

/-- ITS FALSE NEIGHBOUR: 'it returns false'. Refute it at one input. -/
def treePtrsWrong : ChangeSpec := { name := "treePtrs", fn := fun _ => fun
  | [d1, d2, d3] => { results := [.lit (.bool false)], args := [d1, d2, d3] }
  | _ => none }
def TreePtrsWrongFalsely : Prop := treePtrsRow.holds Tryz.pinned (OpenSpec.ofChange treePtrsWrong)

/- THE SECOND FORM. 'bulk': how many values and letters a reading holds, each counted each time it is reached (what is shared counts as often as it is met; a slice's spare places count too). A statement '..UptoSaid' is the law's where the arguments, and the package variables that the reading takes, are together of bulk at most 1048576: NARROWER than '..Said'. Prove '..Said' where nothing that the law and all that it calls make is longer than what came in: it says more and counts as full. Else prove '..UptoSaid'. A law counts once. -/
mutual
def uptoBulk {H : Type} : DataW H → Nat
  | .lit (.string bytes) => bytes.length + 1
  | .lit _ => 1
  | .nil => 1
  | .ptr d => uptoBulk d + 1
  | .slice elems spare => uptoBulkAll elems + uptoBulkAll spare + 1
  | .agg parts => uptoBulkAll parts + 1
  | .iface _ d => uptoBulk d + 1
  | .map entries => uptoBulkEntries entries + 1
  | .held _ => 1
def uptoBulkAll {H : Type} : List (DataW H) → Nat
  | [] => 0
  | d :: r => uptoBulk d + uptoBulkAll r
def uptoBulkEntries {H : Type} : List (Lit × DataW H) → Nat
  | [] => 0
  | x :: r => uptoBulkEntry x + uptoBulkEntries r
def uptoBulkEntry {H : Type} : Lit × DataW H → Nat
  | (.string bytes, d) => bytes.length + uptoBulk d + 1
  | (_, d) => uptoBulk d + 1
 end
def uptoSmall : (H : Type) → List (DataW H) → Bool := fun _ ds => decide (uptoBulkAll ds ≤ 1048576)
def OpenSpec.upto (s : _root_.Go.ChangeSpec) : _root_.Go.OpenSpec := { _root_.Go.OpenSpec.ofChange s with cond := some uptoSmall }

/-- 'platenlaw12.TreeTypes', WHERE WHAT IT READS IS OF BULK AT MOST 1048576: true; the input reads as it did. -/
def treeTypesUptoRow : OpenClaim := { program := "ytlgieoabellbmaagreatdoor", sum := "11626dfacf91f9167937219d95258b9c25e1c99f9b1d7b36c7d6bb2090dc73cd", func := "platen/platenlaw12.TreeTypes", spec := "treeTypes", inPlace := ["internal/abi.NoEscape", "internal/bytealg.MakeNoZero", "internal/bytealg.IndexByteString", "internal/bytealg.IndexString", "internal/bytealg.abigen_runtime_cmpstring"], unfollowed := true, recurses := true, named := ["platen/values.kindNames", "platen/quote.escapes", "unicode/utf8.first", "unicode/utf8.acceptRanges", "unicode.CaseRanges", "internal/bytealg.MaxLen"], loops := true, apart := false, laid := [("unicode/utf8.acceptRanges", laid_unicode_utf8_acceptRanges), ("platen/values.kindNames", laid_platen_values_kindNames), ("platen/quote.escapes", laid_platen_quote_escapes), ("unicode.CaseRanges", laid_unicode_CaseRanges), ("unicode/utf8.first", laid_unicode_utf8_first)], narrowed := true }
def TreeTypesUptoSaid : Prop := treeTypesUptoRow.holds Tryz.pinned (OpenSpec.upto treeTypesSpec)

/-- 'platenlaw12.TreeQuiet', WHERE WHAT IT READS IS OF BULK AT MOST 1048576: true; the input reads as it did. -/
def treeQuietUptoRow : OpenClaim := { program := "ytlgieoabellbmaagreatdoor", sum := "11626dfacf91f9167937219d95258b9c25e1c99f9b1d7b36c7d6bb2090dc73cd", func := "platen/platenlaw12.TreeQuiet", spec := "treeQuiet", inPlace := ["internal/abi.NoEscape", "internal/bytealg.MakeNoZero", "internal/bytealg.IndexByteString", "internal/bytealg.IndexString", "internal/bytealg.abigen_runtime_cmpstring"], unfollowed := true, recurses := true, named := ["platen/values.kindNames", "platen/quote.escapes", "unicode/utf8.first", "unicode/utf8.acceptRanges", "unicode.CaseRanges", "internal/bytealg.MaxLen"], loops := true, apart := false, laid := [("unicode/utf8.acceptRanges", laid_unicode_utf8_acceptRanges), ("platen/values.kindNames", laid_platen_values_kindNames), ("platen/quote.escapes", laid_platen_quote_escapes), ("unicode.CaseRanges", laid_unicode_CaseRanges), ("unicode/utf8.first", laid_unicode_utf8_first)], narrowed := true }
def TreeQuietUptoSaid : Prop := treeQuietUptoRow.holds Tryz.pinned (OpenSpec.upto treeQuietSpec)

/-- 'platenlaw12.TreeOuter', WHERE WHAT IT READS IS OF BULK AT MOST 1048576: true; the input reads as it did. -/
def treeOuterUptoRow : OpenClaim := { program := "ytlgieoabellbmaagreatdoor", sum := "11626dfacf91f9167937219d95258b9c25e1c99f9b1d7b36c7d6bb2090dc73cd", func := "platen/platenlaw12.TreeOuter", spec := "treeOuter", inPlace := ["internal/abi.NoEscape", "internal/bytealg.MakeNoZero", "internal/bytealg.IndexByteString", "internal/bytealg.IndexString", "internal/bytealg.abigen_runtime_cmpstring"], unfollowed := true, recurses := true, named := ["platen/values.kindNames", "platen/quote.escapes", "unicode/utf8.first", "unicode/utf8.acceptRanges", "unicode.CaseRanges", "internal/bytealg.MaxLen"], loops := true, apart := false, laid := [("unicode/utf8.acceptRanges", laid_unicode_utf8_acceptRanges), ("platen/values.kindNames", laid_platen_values_kindNames), ("platen/quote.escapes", laid_platen_quote_escapes), ("unicode.CaseRanges", laid_unicode_CaseRanges), ("unicode/utf8.first", laid_unicode_utf8_first)], narrowed := true }
def TreeOuterUptoSaid : Prop := treeOuterUptoRow.holds Tryz.pinned (OpenSpec.upto treeOuterSpec)

/-- 'platenlaw12.TreeLists', WHERE WHAT IT READS IS OF BULK AT MOST 1048576: true; the input reads as it did. -/
def treeListsUptoRow : OpenClaim := { program := "ytlgieoabellbmaagreatdoor", sum := "11626dfacf91f9167937219d95258b9c25e1c99f9b1d7b36c7d6bb2090dc73cd", func := "platen/platenlaw12.TreeLists", spec := "treeLists", inPlace := ["internal/abi.NoEscape", "internal/bytealg.MakeNoZero", "internal/bytealg.IndexByteString", "internal/bytealg.IndexString", "internal/bytealg.abigen_runtime_cmpstring"], unfollowed := true, recurses := true, named := ["platen/values.kindNames", "platen/quote.escapes", "unicode/utf8.first", "unicode/utf8.acceptRanges", "unicode.CaseRanges", "internal/bytealg.MaxLen"], loops := true, apart := false, laid := [("unicode/utf8.acceptRanges", laid_unicode_utf8_acceptRanges), ("platen/values.kindNames", laid_platen_values_kindNames), ("platen/quote.escapes", laid_platen_quote_escapes), ("unicode.CaseRanges", laid_unicode_CaseRanges), ("unicode/utf8.first", laid_unicode_utf8_first)], narrowed := true }
def TreeListsUptoSaid : Prop := treeListsUptoRow.holds Tryz.pinned (OpenSpec.upto treeListsSpec)

/-- 'platenlaw12.TreeStructs', WHERE WHAT IT READS IS OF BULK AT MOST 1048576: true; the input reads as it did. -/
def treeStructsUptoRow : OpenClaim := { program := "ytlgieoabellbmaagreatdoor", sum := "11626dfacf91f9167937219d95258b9c25e1c99f9b1d7b36c7d6bb2090dc73cd", func := "platen/platenlaw12.TreeStructs", spec := "treeStructs", inPlace := ["internal/abi.NoEscape", "internal/bytealg.MakeNoZero", "internal/bytealg.IndexByteString", "internal/bytealg.IndexString", "internal/bytealg.abigen_runtime_cmpstring"], unfollowed := true, recurses := true, named := ["platen/values.kindNames", "platen/quote.escapes", "unicode/utf8.first", "unicode/utf8.acceptRanges", "unicode.CaseRanges", "internal/bytealg.MaxLen"], loops := true, apart := false, laid := [("unicode/utf8.acceptRanges", laid_unicode_utf8_acceptRanges), ("platen/values.kindNames", laid_platen_values_kindNames), ("platen/quote.escapes", laid_platen_quote_escapes), ("unicode.CaseRanges", laid_unicode_CaseRanges), ("unicode/utf8.first", laid_unicode_utf8_first)], narrowed := true }
def TreeStructsUptoSaid : Prop := treeStructsUptoRow.holds Tryz.pinned (OpenSpec.upto treeStructsSpec)

/-- 'platenlaw12.TreePtrs', WHERE WHAT IT READS IS OF BULK AT MOST 1048576: true; the input reads as it did. -/
def treePtrsUptoRow : OpenClaim := { program := "ytlgieoabellbmaagreatdoor", sum := "11626dfacf91f9167937219d95258b9c25e1c99f9b1d7b36c7d6bb2090dc73cd", func := "platen/platenlaw12.TreePtrs", spec := "treePtrs", inPlace := ["internal/abi.NoEscape", "internal/bytealg.MakeNoZero", "internal/bytealg.IndexByteString", "internal/bytealg.IndexString", "internal/bytealg.abigen_runtime_cmpstring"], unfollowed := true, recurses := true, named := ["platen/values.kindNames", "platen/quote.escapes", "unicode/utf8.first", "unicode/utf8.acceptRanges", "unicode.CaseRanges", "internal/bytealg.MaxLen"], loops := true, apart := false, laid := [("unicode/utf8.acceptRanges", laid_unicode_utf8_acceptRanges), ("platen/values.kindNames", laid_platen_values_kindNames), ("platen/quote.escapes", laid_platen_quote_escapes), ("unicode.CaseRanges", laid_unicode_CaseRanges), ("unicode/utf8.first", laid_unicode_utf8_first)], narrowed := true }
def TreePtrsUptoSaid : Prop := treePtrsUptoRow.holds Tryz.pinned (OpenSpec.upto treePtrsSpec)

end Rows
end Go.Proofs.YtlgieoabellbmaaGreatDoor
