/-
  NARROWER THAN 'FOR EVERY INPUT', by the rows' own cells (each row's printed sentence says how): CplxTexts: laid · CplxSplits: laid · CplxBack: laid · CplxHalves: laid · CplxRefuses: laid · CplxPlus: laid.
  DERIVED. THE GIVEN ROWS OF THIS SEAT. 6 by the template 'for every input the law returns true; each argument reads behind the call as it read before'; 0 by the template 'total and deterministic' (their statements: YthbabhbfpcfenaaGreatDoorTotals.lean).
  GIVEN WITH THE SEED: the statements are not yours to turn. If you find one false, say at which input.
  Laid BY PROGRAM, IN A SANDBOX (cutbox-rows.mjs): the forced cells as the released guide's own fill.sh prints them over the translation 2cf89cdd9387dfee… (all of the seat's roots in one cut). By AI agents, Wed Nov 11 2026. No macro, syntax, notation, axiom, sorry.
-/
import Derived.Test.YthbabhbfpcfenaaGreatDoorChecked
import GoSem.PinnedTables
import GoSem.Claim
import GoSem.ClaimJoined
import GoSem.ClaimMapViews
import Derived.JoinedTies
import Derived.KernelRfl
namespace Go.Proofs.YthbabhbfpcfenaaGreatDoor
/- THE CELL 'sum', in the pinned program and in every row, IS THE sha256 OF THE DUMP (.gsa) THAT YthbabhbfpcfenaaGreatDoorProg.lean LOADS. Nothing in Lean hashes anything: it is a label: what it is worth is what the hold of that sum in a sandbox is worth. -/
noncomputable def Tryz.pinned : Pinned := { name := "ythbabhbfpcfenaagreatdoor", sum := "2cf89cdd9387dfee7ad0671c5242fc7b6d088e7b4a12253ee4ff1425e6ae5b1a", checked := Tryz.checked }
namespace Rows
def none {H : Type} : Left H := { results := [], args := [] }

/- WHAT THE LISTED PACKAGE-LEVEL VARIABLES READ AS WHEN THE CALL BEGINS. Each datum BY PROGRAM (the guide's laid-datum.mjs) off the statement by which the dump's own 'gosem.cut.vars' lays the variable. In a bare row this is a premise. The card (YthbabhbfpcfenaaGreatDoorCards.lean) ties it to the program's text. -/
def laid_unicode_utf8_acceptRanges {H : Type} : DataW H := .agg [.agg [.lit (.int .u8 128), .lit (.int .u8 191)], .agg [.lit (.int .u8 160), .lit (.int .u8 191)], .agg [.lit (.int .u8 128), .lit (.int .u8 159)], .agg [.lit (.int .u8 144), .lit (.int .u8 191)], .agg [.lit (.int .u8 128), .lit (.int .u8 143)], .agg [.lit (.int .u8 0), .lit (.int .u8 0)], .agg [.lit (.int .u8 0), .lit (.int .u8 0)], .agg [.lit (.int .u8 0), .lit (.int .u8 0)], .agg [.lit (.int .u8 0), .lit (.int .u8 0)], .agg [.lit (.int .u8 0), .lit (.int .u8 0)], .agg [.lit (.int .u8 0), .lit (.int .u8 0)], .agg [.lit (.int .u8 0), .lit (.int .u8 0)], .agg [.lit (.int .u8 0), .lit (.int .u8 0)], .agg [.lit (.int .u8 0), .lit (.int .u8 0)], .agg [.lit (.int .u8 0), .lit (.int .u8 0)], .agg [.lit (.int .u8 0), .lit (.int .u8 0)]]
/-- One of Go's own tables, pinned by name: the form's constant. -/
def laid_unicode_CaseRanges : DataW Unit := Go.Pinned.caseRanges
/-- One of Go's own tables, pinned by name: the form's constant. -/
def laid_unicode_utf8_first : DataW Unit := Go.Pinned.utf8First

/-- 'platenlaw07.CplxTexts': WHATEVER THE INPUT: true; the input reads as it did. -/
def cplxTextsSpec : ChangeSpec := { name := "cplxTexts", fn := fun _ => fun
  | [d1, d2, d3] => { results := [.lit (.bool true)], args := [d1, d2, d3] }
  | _ => none }
def cplxTextsRow : OpenClaim := { program := "ythbabhbfpcfenaagreatdoor", sum := "2cf89cdd9387dfee7ad0671c5242fc7b6d088e7b4a12253ee4ff1425e6ae5b1a", func := "platen/platenlaw07.CplxTexts", spec := "cplxTexts", inPlace := ["internal/bytealg.IndexByteString", "internal/bytealg.IndexString", "internal/abi.NoEscape", "internal/bytealg.MakeNoZero", "internal/bytealg.abigen_runtime_cmpstring"], unfollowed := true, recurses := true, named := ["unicode/utf8.first", "unicode/utf8.acceptRanges", "unicode.CaseRanges", "internal/bytealg.MaxLen"], apart := false, laid := [("unicode/utf8.acceptRanges", laid_unicode_utf8_acceptRanges), ("unicode.CaseRanges", laid_unicode_CaseRanges), ("unicode/utf8.first", laid_unicode_utf8_first)] }
def CplxTextsSaid : Prop := cplxTextsRow.holds Tryz.pinned (OpenSpec.ofChange cplxTextsSpec)

/-- ITS FALSE NEIGHBOUR: 'it returns false'. Refute it at one input. -/
def cplxTextsWrong : ChangeSpec := { name := "cplxTexts", fn := fun _ => fun
  | [d1, d2, d3] => { results := [.lit (.bool false)], args := [d1, d2, d3] }
  | _ => none }
def CplxTextsWrongFalsely : Prop := cplxTextsRow.holds Tryz.pinned (OpenSpec.ofChange cplxTextsWrong)

/-- 'platenlaw07.CplxSplits': WHATEVER THE INPUT: true; the input reads as it did. -/
def cplxSplitsSpec : ChangeSpec := { name := "cplxSplits", fn := fun _ => fun
  | [d] => { results := [.lit (.bool true)], args := [d] }
  | _ => none }
def cplxSplitsRow : OpenClaim := { program := "ythbabhbfpcfenaagreatdoor", sum := "2cf89cdd9387dfee7ad0671c5242fc7b6d088e7b4a12253ee4ff1425e6ae5b1a", func := "platen/platenlaw07.CplxSplits", spec := "cplxSplits", inPlace := ["internal/bytealg.IndexByteString", "internal/bytealg.IndexString", "internal/abi.NoEscape", "internal/bytealg.MakeNoZero", "internal/bytealg.abigen_runtime_cmpstring"], unfollowed := true, recurses := true, named := ["unicode/utf8.first", "unicode/utf8.acceptRanges", "unicode.CaseRanges", "internal/bytealg.MaxLen"], apart := false, laid := [("unicode/utf8.acceptRanges", laid_unicode_utf8_acceptRanges), ("unicode.CaseRanges", laid_unicode_CaseRanges), ("unicode/utf8.first", laid_unicode_utf8_first)] }
def CplxSplitsSaid : Prop := cplxSplitsRow.holds Tryz.pinned (OpenSpec.ofChange cplxSplitsSpec)

/-- ITS FALSE NEIGHBOUR: 'it returns false'. Refute it at one input. -/
def cplxSplitsWrong : ChangeSpec := { name := "cplxSplits", fn := fun _ => fun
  | [d] => { results := [.lit (.bool false)], args := [d] }
  | _ => none }
def CplxSplitsWrongFalsely : Prop := cplxSplitsRow.holds Tryz.pinned (OpenSpec.ofChange cplxSplitsWrong)

/-- 'platenlaw07.CplxBack': WHATEVER THE INPUT: true; the input reads as it did. -/
def cplxBackSpec : ChangeSpec := { name := "cplxBack", fn := fun _ => fun
  | [d1, d2, d3] => { results := [.lit (.bool true)], args := [d1, d2, d3] }
  | _ => none }
def cplxBackRow : OpenClaim := { program := "ythbabhbfpcfenaagreatdoor", sum := "2cf89cdd9387dfee7ad0671c5242fc7b6d088e7b4a12253ee4ff1425e6ae5b1a", func := "platen/platenlaw07.CplxBack", spec := "cplxBack", inPlace := ["internal/bytealg.IndexByteString", "internal/bytealg.IndexString", "internal/abi.NoEscape", "internal/bytealg.MakeNoZero", "internal/bytealg.abigen_runtime_cmpstring"], unfollowed := true, recurses := true, named := ["unicode/utf8.first", "unicode/utf8.acceptRanges", "unicode.CaseRanges", "internal/bytealg.MaxLen"], apart := false, laid := [("unicode/utf8.acceptRanges", laid_unicode_utf8_acceptRanges), ("unicode.CaseRanges", laid_unicode_CaseRanges), ("unicode/utf8.first", laid_unicode_utf8_first)] }
def CplxBackSaid : Prop := cplxBackRow.holds Tryz.pinned (OpenSpec.ofChange cplxBackSpec)

/-- ITS FALSE NEIGHBOUR: 'it returns false'. Refute it at one input. -/
def cplxBackWrong : ChangeSpec := { name := "cplxBack", fn := fun _ => fun
  | [d1, d2, d3] => { results := [.lit (.bool false)], args := [d1, d2, d3] }
  | _ => none }
def CplxBackWrongFalsely : Prop := cplxBackRow.holds Tryz.pinned (OpenSpec.ofChange cplxBackWrong)

/-- 'platenlaw07.CplxHalves': WHATEVER THE INPUT: true; the input reads as it did. -/
def cplxHalvesSpec : ChangeSpec := { name := "cplxHalves", fn := fun _ => fun
  | [d1, d2] => { results := [.lit (.bool true)], args := [d1, d2] }
  | _ => none }
def cplxHalvesRow : OpenClaim := { program := "ythbabhbfpcfenaagreatdoor", sum := "2cf89cdd9387dfee7ad0671c5242fc7b6d088e7b4a12253ee4ff1425e6ae5b1a", func := "platen/platenlaw07.CplxHalves", spec := "cplxHalves", inPlace := ["internal/bytealg.IndexByteString", "internal/bytealg.IndexString", "internal/abi.NoEscape", "internal/bytealg.MakeNoZero", "internal/bytealg.abigen_runtime_cmpstring"], unfollowed := true, recurses := true, named := ["unicode/utf8.first", "unicode/utf8.acceptRanges", "unicode.CaseRanges", "internal/bytealg.MaxLen"], apart := false, laid := [("unicode/utf8.acceptRanges", laid_unicode_utf8_acceptRanges), ("unicode.CaseRanges", laid_unicode_CaseRanges), ("unicode/utf8.first", laid_unicode_utf8_first)] }
def CplxHalvesSaid : Prop := cplxHalvesRow.holds Tryz.pinned (OpenSpec.ofChange cplxHalvesSpec)

/-- ITS FALSE NEIGHBOUR: 'it returns false'. Refute it at one input. -/
def cplxHalvesWrong : ChangeSpec := { name := "cplxHalves", fn := fun _ => fun
  | [d1, d2] => { results := [.lit (.bool false)], args := [d1, d2] }
  | _ => none }
def CplxHalvesWrongFalsely : Prop := cplxHalvesRow.holds Tryz.pinned (OpenSpec.ofChange cplxHalvesWrong)

/-- 'platenlaw07.CplxRefuses': WHATEVER THE INPUT: true; the input reads as it did. -/
def cplxRefusesSpec : ChangeSpec := { name := "cplxRefuses", fn := fun _ => fun
  | [d1, d2, d3] => { results := [.lit (.bool true)], args := [d1, d2, d3] }
  | _ => none }
def cplxRefusesRow : OpenClaim := { program := "ythbabhbfpcfenaagreatdoor", sum := "2cf89cdd9387dfee7ad0671c5242fc7b6d088e7b4a12253ee4ff1425e6ae5b1a", func := "platen/platenlaw07.CplxRefuses", spec := "cplxRefuses", inPlace := ["internal/bytealg.IndexByteString", "internal/bytealg.IndexString", "internal/abi.NoEscape", "internal/bytealg.MakeNoZero", "internal/bytealg.abigen_runtime_cmpstring"], unfollowed := true, recurses := true, named := ["unicode/utf8.first", "unicode/utf8.acceptRanges", "unicode.CaseRanges", "internal/bytealg.MaxLen"], apart := false, laid := [("unicode/utf8.acceptRanges", laid_unicode_utf8_acceptRanges), ("unicode.CaseRanges", laid_unicode_CaseRanges), ("unicode/utf8.first", laid_unicode_utf8_first)] }
def CplxRefusesSaid : Prop := cplxRefusesRow.holds Tryz.pinned (OpenSpec.ofChange cplxRefusesSpec)

/-- ITS FALSE NEIGHBOUR: 'it returns false'. Refute it at one input. -/
def cplxRefusesWrong : ChangeSpec := { name := "cplxRefuses", fn := fun _ => fun
  | [d1, d2, d3] => { results := [.lit (.bool false)], args := [d1, d2, d3] }
  | _ => none }
def CplxRefusesWrongFalsely : Prop := cplxRefusesRow.holds Tryz.pinned (OpenSpec.ofChange cplxRefusesWrong)

/-- 'platenlaw07.CplxPlus': WHATEVER THE INPUT: true; the input reads as it did. -/
def cplxPlusSpec : ChangeSpec := { name := "cplxPlus", fn := fun _ => fun
  | [d1, d2, d3] => { results := [.lit (.bool true)], args := [d1, d2, d3] }
  | _ => none }
def cplxPlusRow : OpenClaim := { program := "ythbabhbfpcfenaagreatdoor", sum := "2cf89cdd9387dfee7ad0671c5242fc7b6d088e7b4a12253ee4ff1425e6ae5b1a", func := "platen/platenlaw07.CplxPlus", spec := "cplxPlus", inPlace := ["internal/bytealg.IndexByteString", "internal/bytealg.IndexString", "internal/abi.NoEscape", "internal/bytealg.MakeNoZero", "internal/bytealg.abigen_runtime_cmpstring"], unfollowed := true, recurses := true, named := ["unicode/utf8.first", "unicode/utf8.acceptRanges", "unicode.CaseRanges", "internal/bytealg.MaxLen"], apart := false, laid := [("unicode/utf8.acceptRanges", laid_unicode_utf8_acceptRanges), ("unicode.CaseRanges", laid_unicode_CaseRanges), ("unicode/utf8.first", laid_unicode_utf8_first)] }
def CplxPlusSaid : Prop := cplxPlusRow.holds Tryz.pinned (OpenSpec.ofChange cplxPlusSpec)

/-- ITS FALSE NEIGHBOUR: 'it returns false'. Refute it at one input. -/
def cplxPlusWrong : ChangeSpec := { name := "cplxPlus", fn := fun _ => fun
  | [d1, d2, d3] => { results := [.lit (.bool false)], args := [d1, d2, d3] }
  | _ => none }
def CplxPlusWrongFalsely : Prop := cplxPlusRow.holds Tryz.pinned (OpenSpec.ofChange cplxPlusWrong)

/- THE SECOND FORM. 'bulk': how many values and letters a reading holds, each counted each time it is reached (what is shared counts as often as it is met; a slice's spare places count too). A statement '..UptoSaid' is the law's where the arguments, and the package variables that the reading takes, are together of bulk at most 1048576: NARROWER than '..Said'. Prove '..Said' where nothing that the law and all that it calls make is longer than what came in: it says more and counts as full. Else prove '..UptoSaid'. A law counts once. -/
mutual
def uptoBulk {H : Type} : DataW H → Nat
  | .lit (.string bytes) => bytes.length + 1
  | .lit _ => 1
  | .nil => 1
  | .ptr d => uptoBulk d + 1
  | .slice elems spare => uptoBulkAll elems + uptoBulkAll spare + 1
  | .agg parts => uptoBulkAll parts + 1
  | .iface _ d => uptoBulk d + 1
  | .map entries => uptoBulkEntries entries + 1
  | .held _ => 1
def uptoBulkAll {H : Type} : List (DataW H) → Nat
  | [] => 0
  | d :: r => uptoBulk d + uptoBulkAll r
def uptoBulkEntries {H : Type} : List (Lit × DataW H) → Nat
  | [] => 0
  | x :: r => uptoBulkEntry x + uptoBulkEntries r
def uptoBulkEntry {H : Type} : Lit × DataW H → Nat
  | (.string bytes, d) => bytes.length + uptoBulk d + 1
  | (_, d) => uptoBulk d + 1
 end
def uptoSmall : (H : Type) → List (DataW H) → Bool := fun _ ds => decide (uptoBulkAll ds ≤ 1048576)
def OpenSpec.upto (s : _root_.Go.ChangeSpec) : _root_.Go.OpenSpec := { _root_.Go.OpenSpec.ofChange s with cond := some uptoSmall }

/-- 'platenlaw07.CplxTexts', WHERE WHAT IT READS IS OF BULK AT MOST 1048576: true; the input reads as it did. -/
def cplxTextsUptoRow : OpenClaim := { program := "ythbabhbfpcfenaagreatdoor", sum := "2cf89cdd9387dfee7ad0671c5242fc7b6d088e7b4a12253ee4ff1425e6ae5b1a", func := "platen/platenlaw07.CplxTexts", spec := "cplxTexts", inPlace := ["internal/bytealg.IndexByteString", "internal/bytealg.IndexString", "internal/abi.NoEscape", "internal/bytealg.MakeNoZero", "internal/bytealg.abigen_runtime_cmpstring"], unfollowed := true, recurses := true, named := ["unicode/utf8.first", "unicode/utf8.acceptRanges", "unicode.CaseRanges", "internal/bytealg.MaxLen"], apart := false, laid := [("unicode/utf8.acceptRanges", laid_unicode_utf8_acceptRanges), ("unicode.CaseRanges", laid_unicode_CaseRanges), ("unicode/utf8.first", laid_unicode_utf8_first)], narrowed := true }
def CplxTextsUptoSaid : Prop := cplxTextsUptoRow.holds Tryz.pinned (OpenSpec.upto cplxTextsSpec)

/-- 'platenlaw07.CplxSplits', WHERE WHAT IT READS IS OF BULK AT MOST 1048576: true; the input reads as it did. -/
def cplxSplitsUptoRow : OpenClaim := { program := "ythbabhbfpcfenaagreatdoor", sum := "2cf89cdd9387dfee7ad0671c5242fc7b6d088e7b4a12253ee4ff1425e6ae5b1a", func := "platen/platenlaw07.CplxSplits", spec := "cplxSplits", inPlace := ["internal/bytealg.IndexByteString", "internal/bytealg.IndexString", "internal/abi.NoEscape", "internal/bytealg.MakeNoZero", "internal/bytealg.abigen_runtime_cmpstring"], unfollowed := true, recurses := true, named := ["unicode/utf8.first", "unicode/utf8.acceptRanges", "unicode.CaseRanges", "internal/bytealg.MaxLen"], apart := false, laid := [("unicode/utf8.acceptRanges", laid_unicode_utf8_acceptRanges), ("unicode.CaseRanges", laid_unicode_CaseRanges), ("unicode/utf8.first", laid_unicode_utf8_first)], narrowed := true }
def CplxSplitsUptoSaid : Prop := cplxSplitsUptoRow.holds Tryz.pinned (OpenSpec.upto cplxSplitsSpec)

/-- 'platenlaw07.CplxBack', WHERE WHAT IT READS IS OF BULK AT MOST 1048576: true; the input reads as it did. -/
def cplxBackUptoRow : OpenClaim := { program := "ythbabhbfpcfenaagreatdoor", sum := "2cf89cdd9387dfee7ad0671c5242fc7b6d088e7b4a12253ee4ff1425e6ae5b1a", func := "platen/platenlaw07.CplxBack", spec := "cplxBack", inPlace := ["internal/bytealg.IndexByteString", "internal/bytealg.IndexString", "internal/abi.NoEscape", "internal/bytealg.MakeNoZero", "internal/bytealg.abigen_runtime_cmpstring"], unfollowed := true, recurses := true, named := ["unicode/utf8.first", "unicode/utf8.acceptRanges", "unicode.CaseRanges", "internal/bytealg.MaxLen"], apart := false, laid := [("unicode/utf8.acceptRanges", laid_unicode_utf8_acceptRanges), ("unicode.CaseRanges", laid_unicode_CaseRanges), ("unicode/utf8.first", laid_unicode_utf8_first)], narrowed := true }
def CplxBackUptoSaid : Prop := cplxBackUptoRow.holds Tryz.pinned (OpenSpec.upto cplxBackSpec)

/-- 'platenlaw07.CplxHalves', WHERE WHAT IT READS IS OF BULK AT MOST 1048576: true; the input reads as it did. -/
def cplxHalvesUptoRow : OpenClaim := { program := "ythbabhbfpcfenaagreatdoor", sum := "2cf89cdd9387dfee7ad0671c5242fc7b6d088e7b4a12253ee4ff1425e6ae5b1a", func := "platen/platenlaw07.CplxHalves", spec := "cplxHalves", inPlace := ["internal/bytealg.IndexByteString", "internal/bytealg.IndexString", "internal/abi.NoEscape", "internal/bytealg.MakeNoZero", "internal/bytealg.abigen_runtime_cmpstring"], unfollowed := true, recurses := true, named := ["unicode/utf8.first", "unicode/utf8.acceptRanges", "unicode.CaseRanges", "internal/bytealg.MaxLen"], apart := false, laid := [("unicode/utf8.acceptRanges", laid_unicode_utf8_acceptRanges), ("unicode.CaseRanges", laid_unicode_CaseRanges), ("unicode/utf8.first", laid_unicode_utf8_first)], narrowed := true }
def CplxHalvesUptoSaid : Prop := cplxHalvesUptoRow.holds Tryz.pinned (OpenSpec.upto cplxHalvesSpec)

/-- 'platenlaw07.CplxRefuses', WHERE WHAT IT READS IS OF BULK AT MOST 1048576: true; the input reads as it did. -/
def cplxRefusesUptoRow : OpenClaim := { program := "ythbabhbfpcfenaagreatdoor", sum := "2cf89cdd9387dfee7ad0671c5242fc7b6d088e7b4a12253ee4ff1425e6ae5b1a", func := "platen/platenlaw07.CplxRefuses", spec := "cplxRefuses", inPlace := ["internal/bytealg.IndexByteString", "internal/bytealg.IndexString", "internal/abi.NoEscape", "internal/bytealg.MakeNoZero", "internal/bytealg.abigen_runtime_cmpstring"], unfollowed := true, recurses := true, named := ["unicode/utf8.first", "unicode/utf8.acceptRanges", "unicode.CaseRanges", "internal/bytealg.MaxLen"], apart := false, laid := [("unicode/utf8.acceptRanges", laid_unicode_utf8_acceptRanges), ("unicode.CaseRanges", laid_unicode_CaseRanges), ("unicode/utf8.first", laid_unicode_utf8_first)], narrowed := true }
def CplxRefusesUptoSaid : Prop := cplxRefusesUptoRow.holds Tryz.pinned (OpenSpec.upto cplxRefusesSpec)

/-- 'platenlaw07.CplxPlus', WHERE WHAT IT READS IS OF BULK AT MOST 1048576: true; the input reads as it did. -/
def cplxPlusUptoRow : OpenClaim := { program := "ythbabhbfpcfenaagreatdoor", sum := "2cf89cdd9387dfee7ad0671c5242fc7b6d088e7b4a12253ee4ff1425e6ae5b1a", func := "platen/platenlaw07.CplxPlus", spec := "cplxPlus", inPlace := ["internal/bytealg.IndexByteString", "internal/bytealg.IndexString", "internal/abi.NoEscape", "internal/bytealg.MakeNoZero", "internal/bytealg.abigen_runtime_cmpstring"], unfollowed := true, recurses := true, named := ["unicode/utf8.first", "unicode/utf8.acceptRanges", "unicode.CaseRanges", "internal/bytealg.MaxLen"], apart := false, laid := [("unicode/utf8.acceptRanges", laid_unicode_utf8_acceptRanges), ("unicode.CaseRanges", laid_unicode_CaseRanges), ("unicode/utf8.first", laid_unicode_utf8_first)], narrowed := true }
def CplxPlusUptoSaid : Prop := cplxPlusUptoRow.holds Tryz.pinned (OpenSpec.upto cplxPlusSpec)

end Rows
end Go.Proofs.YthbabhbfpcfenaaGreatDoor
