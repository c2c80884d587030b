/-
  NARROWER THAN 'FOR EVERY INPUT', by the rows' own cells (each row's printed sentence says how): FloatsOdd: laid · FloatsSigns: laid · FloatsWide: laid · FloatsExact: laid · FloatsBack: laid · FloatsHexBack: laid.
  DERIVED. THE GIVEN ROWS OF THIS SEAT. 6 by the template 'for every input the law returns true; each argument reads behind the call as it read before'; 0 by the template 'total and deterministic' (their statements: YtkeoafidgfmhlabGreatDoorTotals.lean).
  GIVEN WITH THE SEED: the statements are not yours to turn. If you find one false, say at which input.
  Laid BY PROGRAM, IN A SANDBOX (cutbox-rows.mjs): the forced cells as the released guide's own fill.sh prints them over the translation 7863a68b271bd1ad… (all of the seat's roots in one cut). By AI agents, Wed Nov 11 2026. No macro, syntax, notation, axiom, sorry.
-/
import Derived.Test.YtkeoafidgfmhlabGreatDoorChecked
import GoSem.PinnedTables
import GoSem.Claim
import GoSem.ClaimJoined
import GoSem.ClaimMapViews
import Derived.JoinedTies
import Derived.KernelRfl
namespace Go.Proofs.YtkeoafidgfmhlabGreatDoor
/- THE CELL 'sum', in the pinned program and in every row, IS THE sha256 OF THE DUMP (.gsa) THAT YtkeoafidgfmhlabGreatDoorProg.lean LOADS. Nothing in Lean hashes anything: it is a label: what it is worth is what the hold of that sum in a sandbox is worth. -/
noncomputable def Tryz.pinned : Pinned := { name := "ytkeoafidgfmhlabgreatdoor", sum := "7863a68b271bd1ad2f48e7e364fb62e56cb8e7582faee237573a52dce8fc3619", checked := Tryz.checked }
namespace Rows
def none {H : Type} : Left H := { results := [], args := [] }

/- WHAT THE LISTED PACKAGE-LEVEL VARIABLES READ AS WHEN THE CALL BEGINS. Each datum BY PROGRAM (the guide's laid-datum.mjs) off the statement by which the dump's own 'gosem.cut.vars' lays the variable. In a bare row this is a premise. The card (YtkeoafidgfmhlabGreatDoorCards.lean) ties it to the program's text. -/
def laid_unicode_utf8_acceptRanges {H : Type} : DataW H := .agg [.agg [.lit (.int .u8 128), .lit (.int .u8 191)], .agg [.lit (.int .u8 160), .lit (.int .u8 191)], .agg [.lit (.int .u8 128), .lit (.int .u8 159)], .agg [.lit (.int .u8 144), .lit (.int .u8 191)], .agg [.lit (.int .u8 128), .lit (.int .u8 143)], .agg [.lit (.int .u8 0), .lit (.int .u8 0)], .agg [.lit (.int .u8 0), .lit (.int .u8 0)], .agg [.lit (.int .u8 0), .lit (.int .u8 0)], .agg [.lit (.int .u8 0), .lit (.int .u8 0)], .agg [.lit (.int .u8 0), .lit (.int .u8 0)], .agg [.lit (.int .u8 0), .lit (.int .u8 0)], .agg [.lit (.int .u8 0), .lit (.int .u8 0)], .agg [.lit (.int .u8 0), .lit (.int .u8 0)], .agg [.lit (.int .u8 0), .lit (.int .u8 0)], .agg [.lit (.int .u8 0), .lit (.int .u8 0)], .agg [.lit (.int .u8 0), .lit (.int .u8 0)]]
/-- One of Go's own tables, pinned by name: the form's constant. -/
def laid_unicode_CaseRanges : DataW Unit := Go.Pinned.caseRanges
/-- One of Go's own tables, pinned by name: the form's constant. -/
def laid_unicode_utf8_first : DataW Unit := Go.Pinned.utf8First

/-- 'platenlaw06.FloatsOdd': WHATEVER THE INPUT: true; the input reads as it did. -/
def floatsOddSpec : ChangeSpec := { name := "floatsOdd", fn := fun _ => fun
  | [d1, d2, d3] => { results := [.lit (.bool true)], args := [d1, d2, d3] }
  | _ => none }
def floatsOddRow : OpenClaim := { program := "ytkeoafidgfmhlabgreatdoor", sum := "7863a68b271bd1ad2f48e7e364fb62e56cb8e7582faee237573a52dce8fc3619", func := "platen/platenlaw06.FloatsOdd", spec := "floatsOdd", inPlace := ["internal/bytealg.IndexByteString", "internal/bytealg.IndexString", "internal/abi.NoEscape", "internal/bytealg.MakeNoZero", "internal/bytealg.abigen_runtime_cmpstring"], unfollowed := true, recurses := true, named := ["unicode/utf8.first", "unicode/utf8.acceptRanges", "unicode.CaseRanges", "internal/bytealg.MaxLen"], apart := false, laid := [("unicode/utf8.acceptRanges", laid_unicode_utf8_acceptRanges), ("unicode.CaseRanges", laid_unicode_CaseRanges), ("unicode/utf8.first", laid_unicode_utf8_first)] }
def FloatsOddSaid : Prop := floatsOddRow.holds Tryz.pinned (OpenSpec.ofChange floatsOddSpec)

/-- ITS FALSE NEIGHBOUR: 'it returns false'. Refute it at one input. -/
def floatsOddWrong : ChangeSpec := { name := "floatsOdd", fn := fun _ => fun
  | [d1, d2, d3] => { results := [.lit (.bool false)], args := [d1, d2, d3] }
  | _ => none }
def FloatsOddWrongFalsely : Prop := floatsOddRow.holds Tryz.pinned (OpenSpec.ofChange floatsOddWrong)

/-- 'platenlaw06.FloatsSigns': WHATEVER THE INPUT: true; the input reads as it did. -/
def floatsSignsSpec : ChangeSpec := { name := "floatsSigns", fn := fun _ => fun
  | [d1, d2, d3] => { results := [.lit (.bool true)], args := [d1, d2, d3] }
  | _ => none }
def floatsSignsRow : OpenClaim := { program := "ytkeoafidgfmhlabgreatdoor", sum := "7863a68b271bd1ad2f48e7e364fb62e56cb8e7582faee237573a52dce8fc3619", func := "platen/platenlaw06.FloatsSigns", spec := "floatsSigns", inPlace := ["internal/bytealg.IndexByteString", "internal/bytealg.IndexString", "internal/abi.NoEscape", "internal/bytealg.MakeNoZero", "internal/bytealg.abigen_runtime_cmpstring"], unfollowed := true, recurses := true, named := ["unicode/utf8.first", "unicode/utf8.acceptRanges", "unicode.CaseRanges", "internal/bytealg.MaxLen"], apart := false, laid := [("unicode/utf8.acceptRanges", laid_unicode_utf8_acceptRanges), ("unicode.CaseRanges", laid_unicode_CaseRanges), ("unicode/utf8.first", laid_unicode_utf8_first)] }
def FloatsSignsSaid : Prop := floatsSignsRow.holds Tryz.pinned (OpenSpec.ofChange floatsSignsSpec)

/-- ITS FALSE NEIGHBOUR: 'it returns false'. Refute it at one input. -/
def floatsSignsWrong : ChangeSpec := { name := "floatsSigns", fn := fun _ => fun
  | [d1, d2, d3] => { results := [.lit (.bool false)], args := [d1, d2, d3] }
  | _ => none }
def FloatsSignsWrongFalsely : Prop := floatsSignsRow.holds Tryz.pinned (OpenSpec.ofChange floatsSignsWrong)

/-- 'platenlaw06.FloatsWide': WHATEVER THE INPUT: true; the input reads as it did. -/
def floatsWideSpec : ChangeSpec := { name := "floatsWide", fn := fun _ => fun
  | [d1, d2, d3] => { results := [.lit (.bool true)], args := [d1, d2, d3] }
  | _ => none }
def floatsWideRow : OpenClaim := { program := "ytkeoafidgfmhlabgreatdoor", sum := "7863a68b271bd1ad2f48e7e364fb62e56cb8e7582faee237573a52dce8fc3619", func := "platen/platenlaw06.FloatsWide", spec := "floatsWide", inPlace := ["internal/bytealg.IndexByteString", "internal/bytealg.IndexString", "internal/abi.NoEscape", "internal/bytealg.MakeNoZero", "internal/bytealg.abigen_runtime_cmpstring"], unfollowed := true, recurses := true, named := ["unicode/utf8.first", "unicode/utf8.acceptRanges", "unicode.CaseRanges", "internal/bytealg.MaxLen"], apart := false, laid := [("unicode/utf8.acceptRanges", laid_unicode_utf8_acceptRanges), ("unicode.CaseRanges", laid_unicode_CaseRanges), ("unicode/utf8.first", laid_unicode_utf8_first)] }
def FloatsWideSaid : Prop := floatsWideRow.holds Tryz.pinned (OpenSpec.ofChange floatsWideSpec)

/-- ITS FALSE NEIGHBOUR: 'it returns false'. Refute it at one input. -/
def floatsWideWrong : ChangeSpec := { name := "floatsWide", fn := fun _ => fun
  | [d1, d2, d3] => { results := [.lit (.bool false)], args := [d1, d2, d3] }
  | _ => none }
def FloatsWideWrongFalsely : Prop := floatsWideRow.holds Tryz.pinned (OpenSpec.ofChange floatsWideWrong)

/-- 'platenlaw06.FloatsExact': WHATEVER THE INPUT: true; the input reads as it did. -/
def floatsExactSpec : ChangeSpec := { name := "floatsExact", fn := fun _ => fun
  | [d1, d2, d3] => { results := [.lit (.bool true)], args := [d1, d2, d3] }
  | _ => none }
def floatsExactRow : OpenClaim := { program := "ytkeoafidgfmhlabgreatdoor", sum := "7863a68b271bd1ad2f48e7e364fb62e56cb8e7582faee237573a52dce8fc3619", func := "platen/platenlaw06.FloatsExact", spec := "floatsExact", inPlace := ["internal/bytealg.IndexByteString", "internal/bytealg.IndexString", "internal/abi.NoEscape", "internal/bytealg.MakeNoZero", "internal/bytealg.abigen_runtime_cmpstring"], unfollowed := true, recurses := true, named := ["unicode/utf8.first", "unicode/utf8.acceptRanges", "unicode.CaseRanges", "internal/bytealg.MaxLen"], apart := false, laid := [("unicode/utf8.acceptRanges", laid_unicode_utf8_acceptRanges), ("unicode.CaseRanges", laid_unicode_CaseRanges), ("unicode/utf8.first", laid_unicode_utf8_first)] }
def FloatsExactSaid : Prop := floatsExactRow.holds Tryz.pinned (OpenSpec.ofChange floatsExactSpec)

/-- ITS FALSE NEIGHBOUR: 'it returns false'. Refute it at one input. -/
def floatsExactWrong : ChangeSpec := { name := "floatsExact", fn := fun _ => fun
  | [d1, d2, d3] => { results := [.lit (.bool false)], args := [d1, d2, d3] }
  | _ => none }
def FloatsExactWrongFalsely : Prop := floatsExactRow.holds Tryz.pinned (OpenSpec.ofChange floatsExactWrong)

/-- 'platenlaw06.FloatsBack': WHATEVER THE INPUT: true; the input reads as it did. -/
def floatsBackSpec : ChangeSpec := { name := "floatsBack", fn := fun _ => fun
  | [d1, d2] => { results := [.lit (.bool true)], args := [d1, d2] }
  | _ => none }
def floatsBackRow : OpenClaim := { program := "ytkeoafidgfmhlabgreatdoor", sum := "7863a68b271bd1ad2f48e7e364fb62e56cb8e7582faee237573a52dce8fc3619", func := "platen/platenlaw06.FloatsBack", spec := "floatsBack", inPlace := ["internal/bytealg.IndexByteString", "internal/bytealg.IndexString", "internal/abi.NoEscape", "internal/bytealg.MakeNoZero", "internal/bytealg.abigen_runtime_cmpstring"], unfollowed := true, recurses := true, named := ["unicode/utf8.first", "unicode/utf8.acceptRanges", "unicode.CaseRanges", "internal/bytealg.MaxLen"], apart := false, laid := [("unicode/utf8.acceptRanges", laid_unicode_utf8_acceptRanges), ("unicode.CaseRanges", laid_unicode_CaseRanges), ("unicode/utf8.first", laid_unicode_utf8_first)] }
def FloatsBackSaid : Prop := floatsBackRow.holds Tryz.pinned (OpenSpec.ofChange floatsBackSpec)

/-- ITS FALSE NEIGHBOUR: 'it returns false'. Refute it at one input. -/
def floatsBackWrong : ChangeSpec := { name := "floatsBack", fn := fun _ => fun
  | [d1, d2] => { results := [.lit (.bool false)], args := [d1, d2] }
  | _ => none }
def FloatsBackWrongFalsely : Prop := floatsBackRow.holds Tryz.pinned (OpenSpec.ofChange floatsBackWrong)

/-- 'platenlaw06.FloatsHexBack': WHATEVER THE INPUT: true; the input reads as it did. -/
def floatsHexBackSpec : ChangeSpec := { name := "floatsHexBack", fn := fun _ => fun
  | [d] => { results := [.lit (.bool true)], args := [d] }
  | _ => none }
def floatsHexBackRow : OpenClaim := { program := "ytkeoafidgfmhlabgreatdoor", sum := "7863a68b271bd1ad2f48e7e364fb62e56cb8e7582faee237573a52dce8fc3619", func := "platen/platenlaw06.FloatsHexBack", spec := "floatsHexBack", inPlace := ["internal/bytealg.IndexByteString", "internal/bytealg.IndexString", "internal/abi.NoEscape", "internal/bytealg.MakeNoZero", "internal/bytealg.abigen_runtime_cmpstring"], unfollowed := true, recurses := true, named := ["unicode/utf8.first", "unicode/utf8.acceptRanges", "unicode.CaseRanges", "internal/bytealg.MaxLen"], apart := false, laid := [("unicode/utf8.acceptRanges", laid_unicode_utf8_acceptRanges), ("unicode.CaseRanges", laid_unicode_CaseRanges), ("unicode/utf8.first", laid_unicode_utf8_first)] }
def FloatsHexBackSaid : Prop := floatsHexBackRow.holds Tryz.pinned (OpenSpec.ofChange floatsHexBackSpec)

/-- ITS FALSE NEIGHBOUR: 'it returns false'. Refute it at one input. -/
def floatsHexBackWrong : ChangeSpec := { name := "floatsHexBack", fn := fun _ => fun
  | [d] => { results := [.lit (.bool false)], args := [d] }
  | _ => none }
def FloatsHexBackWrongFalsely : Prop := floatsHexBackRow.holds Tryz.pinned (OpenSpec.ofChange floatsHexBackWrong)

/- THE SECOND FORM. 'bulk': how many values and letters a reading holds, each counted each time it is reached (what is shared counts as often as it is met; a slice's spare places count too). A statement '..UptoSaid' is the law's where the arguments, and the package variables that the reading takes, are together of bulk at most 1048576: NARROWER than '..Said'. Prove '..Said' where nothing that the law and all that it calls make is longer than what came in: it says more and counts as full. Else prove '..UptoSaid'. A law counts once. -/
mutual
def uptoBulk {H : Type} : DataW H → Nat
  | .lit (.string bytes) => bytes.length + 1
  | .lit _ => 1
  | .nil => 1
  | .ptr d => uptoBulk d + 1
  | .slice elems spare => uptoBulkAll elems + uptoBulkAll spare + 1
  | .agg parts => uptoBulkAll parts + 1
  | .iface _ d => uptoBulk d + 1
  | .map entries => uptoBulkEntries entries + 1
  | .held _ => 1
def uptoBulkAll {H : Type} : List (DataW H) → Nat
  | [] => 0
  | d :: r => uptoBulk d + uptoBulkAll r
def uptoBulkEntries {H : Type} : List (Lit × DataW H) → Nat
  | [] => 0
  | x :: r => uptoBulkEntry x + uptoBulkEntries r
def uptoBulkEntry {H : Type} : Lit × DataW H → Nat
  | (.string bytes, d) => bytes.length + uptoBulk d + 1
  | (_, d) => uptoBulk d + 1
 end
def uptoSmall : (H : Type) → List (DataW H) → Bool := fun _ ds => decide (uptoBulkAll ds ≤ 1048576)
def OpenSpec.upto (s : _root_.Go.ChangeSpec) : _root_.Go.OpenSpec := { _root_.Go.OpenSpec.ofChange s with cond := some uptoSmall }

/-- 'platenlaw06.FloatsOdd', WHERE WHAT IT READS IS OF BULK AT MOST 1048576: true; the input reads as it did. -/
def floatsOddUptoRow : OpenClaim := { program := "ytkeoafidgfmhlabgreatdoor", sum := "7863a68b271bd1ad2f48e7e364fb62e56cb8e7582faee237573a52dce8fc3619", func := "platen/platenlaw06.FloatsOdd", spec := "floatsOdd", inPlace := ["internal/bytealg.IndexByteString", "internal/bytealg.IndexString", "internal/abi.NoEscape", "internal/bytealg.MakeNoZero", "internal/bytealg.abigen_runtime_cmpstring"], unfollowed := true, recurses := true, named := ["unicode/utf8.first", "unicode/utf8.acceptRanges", "unicode.CaseRanges", "internal/bytealg.MaxLen"], apart := false, laid := [("unicode/utf8.acceptRanges", laid_unicode_utf8_acceptRanges), ("unicode.CaseRanges", laid_unicode_CaseRanges), ("unicode/utf8.first", laid_unicode_utf8_first)], narrowed := true }
def FloatsOddUptoSaid : Prop := floatsOddUptoRow.holds Tryz.pinned (OpenSpec.upto floatsOddSpec)

/-- 'platenlaw06.FloatsSigns', WHERE WHAT IT READS IS OF BULK AT MOST 1048576: true; the input reads as it did. -/
def floatsSignsUptoRow : OpenClaim := { program := "ytkeoafidgfmhlabgreatdoor", sum := "7863a68b271bd1ad2f48e7e364fb62e56cb8e7582faee237573a52dce8fc3619", func := "platen/platenlaw06.FloatsSigns", spec := "floatsSigns", inPlace := ["internal/bytealg.IndexByteString", "internal/bytealg.IndexString", "internal/abi.NoEscape", "internal/bytealg.MakeNoZero", "internal/bytealg.abigen_runtime_cmpstring"], unfollowed := true, recurses := true, named := ["unicode/utf8.first", "unicode/utf8.acceptRanges", "unicode.CaseRanges", "internal/bytealg.MaxLen"], apart := false, laid := [("unicode/utf8.acceptRanges", laid_unicode_utf8_acceptRanges), ("unicode.CaseRanges", laid_unicode_CaseRanges), ("unicode/utf8.first", laid_unicode_utf8_first)], narrowed := true }
def FloatsSignsUptoSaid : Prop := floatsSignsUptoRow.holds Tryz.pinned (OpenSpec.upto floatsSignsSpec)

/-- 'platenlaw06.FloatsWide', WHERE WHAT IT READS IS OF BULK AT MOST 1048576: true; the input reads as it did. -/
def floatsWideUptoRow : OpenClaim := { program := "ytkeoafidgfmhlabgreatdoor", sum := "7863a68b271bd1ad2f48e7e364fb62e56cb8e7582faee237573a52dce8fc3619", func := "platen/platenlaw06.FloatsWide", spec := "floatsWide", inPlace := ["internal/bytealg.IndexByteString", "internal/bytealg.IndexString", "internal/abi.NoEscape", "internal/bytealg.MakeNoZero", "internal/bytealg.abigen_runtime_cmpstring"], unfollowed := true, recurses := true, named := ["unicode/utf8.first", "unicode/utf8.acceptRanges", "unicode.CaseRanges", "internal/bytealg.MaxLen"], apart := false, laid := [("unicode/utf8.acceptRanges", laid_unicode_utf8_acceptRanges), ("unicode.CaseRanges", laid_unicode_CaseRanges), ("unicode/utf8.first", laid_unicode_utf8_first)], narrowed := true }
def FloatsWideUptoSaid : Prop := floatsWideUptoRow.holds Tryz.pinned (OpenSpec.upto floatsWideSpec)

/-- 'platenlaw06.FloatsExact', WHERE WHAT IT READS IS OF BULK AT MOST 1048576: true; the input reads as it did. -/
def floatsExactUptoRow : OpenClaim := { program := "ytkeoafidgfmhlabgreatdoor", sum := "7863a68b271bd1ad2f48e7e364fb62e56cb8e7582faee237573a52dce8fc3619", func := "platen/platenlaw06.FloatsExact", spec := "floatsExact", inPlace := ["internal/bytealg.IndexByteString", "internal/bytealg.IndexString", "internal/abi.NoEscape", "internal/bytealg.MakeNoZero", "internal/bytealg.abigen_runtime_cmpstring"], unfollowed := true, recurses := true, named := ["unicode/utf8.first", "unicode/utf8.acceptRanges", "unicode.CaseRanges", "internal/bytealg.MaxLen"], apart := false, laid := [("unicode/utf8.acceptRanges", laid_unicode_utf8_acceptRanges), ("unicode.CaseRanges", laid_unicode_CaseRanges), ("unicode/utf8.first", laid_unicode_utf8_first)], narrowed := true }
def FloatsExactUptoSaid : Prop := floatsExactUptoRow.holds Tryz.pinned (OpenSpec.upto floatsExactSpec)

/-- 'platenlaw06.FloatsBack', WHERE WHAT IT READS IS OF BULK AT MOST 1048576: true; the input reads as it did. -/
def floatsBackUptoRow : OpenClaim := { program := "ytkeoafidgfmhlabgreatdoor", sum := "7863a68b271bd1ad2f48e7e364fb62e56cb8e7582faee237573a52dce8fc3619", func := "platen/platenlaw06.FloatsBack", spec := "floatsBack", inPlace := ["internal/bytealg.IndexByteString", "internal/bytealg.IndexString", "internal/abi.NoEscape", "internal/bytealg.MakeNoZero", "internal/bytealg.abigen_runtime_cmpstring"], unfollowed := true, recurses := true, named := ["unicode/utf8.first", "unicode/utf8.acceptRanges", "unicode.CaseRanges", "internal/bytealg.MaxLen"], apart := false, laid := [("unicode/utf8.acceptRanges", laid_unicode_utf8_acceptRanges), ("unicode.CaseRanges", laid_unicode_CaseRanges), ("unicode/utf8.first", laid_unicode_utf8_first)], narrowed := true }
def FloatsBackUptoSaid : Prop := floatsBackUptoRow.holds Tryz.pinned (OpenSpec.upto floatsBackSpec)

/-- 'platenlaw06.FloatsHexBack', WHERE WHAT IT READS IS OF BULK AT MOST 1048576: true; the input reads as it did. -/
def floatsHexBackUptoRow : OpenClaim := { program := "ytkeoafidgfmhlabgreatdoor", sum := "7863a68b271bd1ad2f48e7e364fb62e56cb8e7582faee237573a52dce8fc3619", func := "platen/platenlaw06.FloatsHexBack", spec := "floatsHexBack", inPlace := ["internal/bytealg.IndexByteString", "internal/bytealg.IndexString", "internal/abi.NoEscape", "internal/bytealg.MakeNoZero", "internal/bytealg.abigen_runtime_cmpstring"], unfollowed := true, recurses := true, named := ["unicode/utf8.first", "unicode/utf8.acceptRanges", "unicode.CaseRanges", "internal/bytealg.MaxLen"], apart := false, laid := [("unicode/utf8.acceptRanges", laid_unicode_utf8_acceptRanges), ("unicode.CaseRanges", laid_unicode_CaseRanges), ("unicode/utf8.first", laid_unicode_utf8_first)], narrowed := true }
def FloatsHexBackUptoSaid : Prop := floatsHexBackUptoRow.holds Tryz.pinned (OpenSpec.upto floatsHexBackSpec)

end Rows
end Go.Proofs.YtkeoafidgfmhlabGreatDoor
