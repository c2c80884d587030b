/-
  NARROWER THAN 'FOR EVERY INPUT', by the rows' own cells (each row's printed sentence says how): BigdecDoubles: laid · BigdecOrders: laid · BigdecNear: laid · BigdecEven: laid.
  DERIVED. THE GIVEN ROWS OF THIS SEAT. 4 by the template 'for every input the law returns true; each argument reads behind the call as it read before'; 0 by the template 'total and deterministic' (their statements: YtjfoknhoehamhabDoorTotals.lean).
  GIVEN WITH THE SEED: the statements are not yours to turn. If you find one false, say at which input.
  Laid BY PROGRAM, IN A SANDBOX (cutbox-rows.mjs): the forced cells as the released guide's own fill.sh prints them over the translation b32893e1e4c72cba… (all of the seat's roots in one cut). By AI agents, Wed Nov 11 2026. No macro, syntax, notation, axiom, sorry.
-/
import Derived.Test.YtjfoknhoehamhabDoorChecked
import GoSem.PinnedTables
import GoSem.Claim
import GoSem.ClaimJoined
import GoSem.ClaimMapViews
import Derived.JoinedTies
import Derived.KernelRfl
namespace Go.Proofs.YtjfoknhoehamhabDoor
/- THE CELL 'sum', in the pinned program and in every row, IS THE sha256 OF THE DUMP (.gsa) THAT YtjfoknhoehamhabDoorProg.lean LOADS. Nothing in Lean hashes anything: it is a label: what it is worth is what the hold of that sum in a sandbox is worth. -/
noncomputable def Tryd.pinned : Pinned := { name := "ytjfoknhoehamhabdoor", sum := "b32893e1e4c72cba27d2316f96c0abd8aa28ae1d9e9e664b46e245be817597a7", checked := Tryd.checked }
namespace Rows
def none {H : Type} : Left H := { results := [], args := [] }

/- WHAT THE LISTED PACKAGE-LEVEL VARIABLES READ AS WHEN THE CALL BEGINS. Each datum BY PROGRAM (the guide's laid-datum.mjs) off the statement by which the dump's own 'gosem.cut.vars' lays the variable. In a bare row this is a premise. The card (YtjfoknhoehamhabDoorCards.lean) ties it to the program's text. -/
def laid_unicode_utf8_acceptRanges {H : Type} : DataW H := .agg [.agg [.lit (.int .u8 128), .lit (.int .u8 191)], .agg [.lit (.int .u8 160), .lit (.int .u8 191)], .agg [.lit (.int .u8 128), .lit (.int .u8 159)], .agg [.lit (.int .u8 144), .lit (.int .u8 191)], .agg [.lit (.int .u8 128), .lit (.int .u8 143)], .agg [.lit (.int .u8 0), .lit (.int .u8 0)], .agg [.lit (.int .u8 0), .lit (.int .u8 0)], .agg [.lit (.int .u8 0), .lit (.int .u8 0)], .agg [.lit (.int .u8 0), .lit (.int .u8 0)], .agg [.lit (.int .u8 0), .lit (.int .u8 0)], .agg [.lit (.int .u8 0), .lit (.int .u8 0)], .agg [.lit (.int .u8 0), .lit (.int .u8 0)], .agg [.lit (.int .u8 0), .lit (.int .u8 0)], .agg [.lit (.int .u8 0), .lit (.int .u8 0)], .agg [.lit (.int .u8 0), .lit (.int .u8 0)], .agg [.lit (.int .u8 0), .lit (.int .u8 0)]]
/-- One of Go's own tables, pinned by name: the form's constant. -/
def laid_unicode_utf8_first : DataW Unit := Go.Pinned.utf8First

/-- 'platenlaw04.BigdecDoubles': WHATEVER THE INPUT: true; the input reads as it did. -/
def bigdecDoublesSpec : ChangeSpec := { name := "bigdecDoubles", fn := fun _ => fun
  | [d1, d2] => { results := [.lit (.bool true)], args := [d1, d2] }
  | _ => none }
def bigdecDoublesRow : OpenClaim := { program := "ytjfoknhoehamhabdoor", sum := "b32893e1e4c72cba27d2316f96c0abd8aa28ae1d9e9e664b46e245be817597a7", func := "platen/platenlaw04.BigdecDoubles", spec := "bigdecDoubles", inPlace := ["internal/bytealg.IndexByteString", "internal/bytealg.IndexString", "internal/abi.NoEscape", "internal/bytealg.MakeNoZero"], named := ["unicode/utf8.first", "unicode/utf8.acceptRanges", "internal/bytealg.MaxLen"], apart := false, laid := [("unicode/utf8.acceptRanges", laid_unicode_utf8_acceptRanges), ("unicode/utf8.first", laid_unicode_utf8_first)] }
def BigdecDoublesSaid : Prop := bigdecDoublesRow.holds Tryd.pinned (OpenSpec.ofChange bigdecDoublesSpec)

/-- ITS FALSE NEIGHBOUR: 'it returns false'. Refute it at one input. -/
def bigdecDoublesWrong : ChangeSpec := { name := "bigdecDoubles", fn := fun _ => fun
  | [d1, d2] => { results := [.lit (.bool false)], args := [d1, d2] }
  | _ => none }
def BigdecDoublesWrongFalsely : Prop := bigdecDoublesRow.holds Tryd.pinned (OpenSpec.ofChange bigdecDoublesWrong)

/-- 'platenlaw04.BigdecOrders': WHATEVER THE INPUT: true; the input reads as it did. -/
def bigdecOrdersSpec : ChangeSpec := { name := "bigdecOrders", fn := fun _ => fun
  | [d1, d2, d3] => { results := [.lit (.bool true)], args := [d1, d2, d3] }
  | _ => none }
def bigdecOrdersRow : OpenClaim := { program := "ytjfoknhoehamhabdoor", sum := "b32893e1e4c72cba27d2316f96c0abd8aa28ae1d9e9e664b46e245be817597a7", func := "platen/platenlaw04.BigdecOrders", spec := "bigdecOrders", inPlace := ["internal/bytealg.IndexByteString", "internal/bytealg.IndexString", "internal/bytealg.abigen_runtime_cmpstring", "internal/abi.NoEscape", "internal/bytealg.MakeNoZero"], named := ["unicode/utf8.first", "unicode/utf8.acceptRanges", "internal/bytealg.MaxLen"], apart := false, laid := [("unicode/utf8.acceptRanges", laid_unicode_utf8_acceptRanges), ("unicode/utf8.first", laid_unicode_utf8_first)] }
def BigdecOrdersSaid : Prop := bigdecOrdersRow.holds Tryd.pinned (OpenSpec.ofChange bigdecOrdersSpec)

/-- ITS FALSE NEIGHBOUR: 'it returns false'. Refute it at one input. -/
def bigdecOrdersWrong : ChangeSpec := { name := "bigdecOrders", fn := fun _ => fun
  | [d1, d2, d3] => { results := [.lit (.bool false)], args := [d1, d2, d3] }
  | _ => none }
def BigdecOrdersWrongFalsely : Prop := bigdecOrdersRow.holds Tryd.pinned (OpenSpec.ofChange bigdecOrdersWrong)

/-- 'platenlaw04.BigdecNear': WHATEVER THE INPUT: true; the input reads as it did. -/
def bigdecNearSpec : ChangeSpec := { name := "bigdecNear", fn := fun _ => fun
  | [d1, d2] => { results := [.lit (.bool true)], args := [d1, d2] }
  | _ => none }
def bigdecNearRow : OpenClaim := { program := "ytjfoknhoehamhabdoor", sum := "b32893e1e4c72cba27d2316f96c0abd8aa28ae1d9e9e664b46e245be817597a7", func := "platen/platenlaw04.BigdecNear", spec := "bigdecNear", inPlace := ["internal/bytealg.IndexByteString", "internal/bytealg.IndexString", "internal/abi.NoEscape", "internal/bytealg.MakeNoZero", "internal/bytealg.abigen_runtime_cmpstring"], named := ["unicode/utf8.first", "unicode/utf8.acceptRanges", "internal/bytealg.MaxLen"], apart := false, laid := [("unicode/utf8.acceptRanges", laid_unicode_utf8_acceptRanges), ("unicode/utf8.first", laid_unicode_utf8_first)] }
def BigdecNearSaid : Prop := bigdecNearRow.holds Tryd.pinned (OpenSpec.ofChange bigdecNearSpec)

/-- ITS FALSE NEIGHBOUR: 'it returns false'. Refute it at one input. -/
def bigdecNearWrong : ChangeSpec := { name := "bigdecNear", fn := fun _ => fun
  | [d1, d2] => { results := [.lit (.bool false)], args := [d1, d2] }
  | _ => none }
def BigdecNearWrongFalsely : Prop := bigdecNearRow.holds Tryd.pinned (OpenSpec.ofChange bigdecNearWrong)

/-- 'platenlaw04.BigdecEven': WHATEVER THE INPUT: true; the input reads as it did. -/
def bigdecEvenSpec : ChangeSpec := { name := "bigdecEven", fn := fun _ => fun
  | [d1, d2] => { results := [.lit (.bool true)], args := [d1, d2] }
  | _ => none }
def bigdecEvenRow : OpenClaim := { program := "ytjfoknhoehamhabdoor", sum := "b32893e1e4c72cba27d2316f96c0abd8aa28ae1d9e9e664b46e245be817597a7", func := "platen/platenlaw04.BigdecEven", spec := "bigdecEven", inPlace := ["internal/bytealg.IndexByteString", "internal/bytealg.IndexString", "internal/abi.NoEscape", "internal/bytealg.MakeNoZero", "internal/bytealg.abigen_runtime_cmpstring"], named := ["unicode/utf8.first", "unicode/utf8.acceptRanges", "internal/bytealg.MaxLen"], apart := false, laid := [("unicode/utf8.acceptRanges", laid_unicode_utf8_acceptRanges), ("unicode/utf8.first", laid_unicode_utf8_first)] }
def BigdecEvenSaid : Prop := bigdecEvenRow.holds Tryd.pinned (OpenSpec.ofChange bigdecEvenSpec)

/-- ITS FALSE NEIGHBOUR: 'it returns false'. Refute it at one input. -/
def bigdecEvenWrong : ChangeSpec := { name := "bigdecEven", fn := fun _ => fun
  | [d1, d2] => { results := [.lit (.bool false)], args := [d1, d2] }
  | _ => none }
def BigdecEvenWrongFalsely : Prop := bigdecEvenRow.holds Tryd.pinned (OpenSpec.ofChange bigdecEvenWrong)

/- THE SECOND FORM. 'bulk': how many values and letters a reading holds, each counted each time it is reached (what is shared counts as often as it is met; a slice's spare places count too). A statement '..UptoSaid' is the law's where the arguments, and the package variables that the reading takes, are together of bulk at most 1048576: NARROWER than '..Said'. Prove '..Said' where nothing that the law and all that it calls make is longer than what came in: it says more and counts as full. Else prove '..UptoSaid'. A law counts once. -/
mutual
def uptoBulk {H : Type} : DataW H → Nat
  | .lit (.string bytes) => bytes.length + 1
  | .lit _ => 1
  | .nil => 1
  | .ptr d => uptoBulk d + 1
  | .slice elems spare => uptoBulkAll elems + uptoBulkAll spare + 1
  | .agg parts => uptoBulkAll parts + 1
  | .iface _ d => uptoBulk d + 1
  | .map entries => uptoBulkEntries entries + 1
  | .held _ => 1
def uptoBulkAll {H : Type} : List (DataW H) → Nat
  | [] => 0
  | d :: r => uptoBulk d + uptoBulkAll r
def uptoBulkEntries {H : Type} : List (Lit × DataW H) → Nat
  | [] => 0
  | x :: r => uptoBulkEntry x + uptoBulkEntries r
def uptoBulkEntry {H : Type} : Lit × DataW H → Nat
  | (.string bytes, d) => bytes.length + uptoBulk d + 1
  | (_, d) => uptoBulk d + 1
 end
def uptoSmall : (H : Type) → List (DataW H) → Bool := fun _ ds => decide (uptoBulkAll ds ≤ 1048576)
def OpenSpec.upto (s : _root_.Go.ChangeSpec) : _root_.Go.OpenSpec := { _root_.Go.OpenSpec.ofChange s with cond := some uptoSmall }

/-- 'platenlaw04.BigdecDoubles', WHERE WHAT IT READS IS OF BULK AT MOST 1048576: true; the input reads as it did. -/
def bigdecDoublesUptoRow : OpenClaim := { program := "ytjfoknhoehamhabdoor", sum := "b32893e1e4c72cba27d2316f96c0abd8aa28ae1d9e9e664b46e245be817597a7", func := "platen/platenlaw04.BigdecDoubles", spec := "bigdecDoubles", inPlace := ["internal/bytealg.IndexByteString", "internal/bytealg.IndexString", "internal/abi.NoEscape", "internal/bytealg.MakeNoZero"], named := ["unicode/utf8.first", "unicode/utf8.acceptRanges", "internal/bytealg.MaxLen"], apart := false, laid := [("unicode/utf8.acceptRanges", laid_unicode_utf8_acceptRanges), ("unicode/utf8.first", laid_unicode_utf8_first)], narrowed := true }
def BigdecDoublesUptoSaid : Prop := bigdecDoublesUptoRow.holds Tryd.pinned (OpenSpec.upto bigdecDoublesSpec)

/-- 'platenlaw04.BigdecOrders', WHERE WHAT IT READS IS OF BULK AT MOST 1048576: true; the input reads as it did. -/
def bigdecOrdersUptoRow : OpenClaim := { program := "ytjfoknhoehamhabdoor", sum := "b32893e1e4c72cba27d2316f96c0abd8aa28ae1d9e9e664b46e245be817597a7", func := "platen/platenlaw04.BigdecOrders", spec := "bigdecOrders", inPlace := ["internal/bytealg.IndexByteString", "internal/bytealg.IndexString", "internal/bytealg.abigen_runtime_cmpstring", "internal/abi.NoEscape", "internal/bytealg.MakeNoZero"], named := ["unicode/utf8.first", "unicode/utf8.acceptRanges", "internal/bytealg.MaxLen"], apart := false, laid := [("unicode/utf8.acceptRanges", laid_unicode_utf8_acceptRanges), ("unicode/utf8.first", laid_unicode_utf8_first)], narrowed := true }
def BigdecOrdersUptoSaid : Prop := bigdecOrdersUptoRow.holds Tryd.pinned (OpenSpec.upto bigdecOrdersSpec)

/-- 'platenlaw04.BigdecNear', WHERE WHAT IT READS IS OF BULK AT MOST 1048576: true; the input reads as it did. -/
def bigdecNearUptoRow : OpenClaim := { program := "ytjfoknhoehamhabdoor", sum := "b32893e1e4c72cba27d2316f96c0abd8aa28ae1d9e9e664b46e245be817597a7", func := "platen/platenlaw04.BigdecNear", spec := "bigdecNear", inPlace := ["internal/bytealg.IndexByteString", "internal/bytealg.IndexString", "internal/abi.NoEscape", "internal/bytealg.MakeNoZero", "internal/bytealg.abigen_runtime_cmpstring"], named := ["unicode/utf8.first", "unicode/utf8.acceptRanges", "internal/bytealg.MaxLen"], apart := false, laid := [("unicode/utf8.acceptRanges", laid_unicode_utf8_acceptRanges), ("unicode/utf8.first", laid_unicode_utf8_first)], narrowed := true }
def BigdecNearUptoSaid : Prop := bigdecNearUptoRow.holds Tryd.pinned (OpenSpec.upto bigdecNearSpec)

/-- 'platenlaw04.BigdecEven', WHERE WHAT IT READS IS OF BULK AT MOST 1048576: true; the input reads as it did. -/
def bigdecEvenUptoRow : OpenClaim := { program := "ytjfoknhoehamhabdoor", sum := "b32893e1e4c72cba27d2316f96c0abd8aa28ae1d9e9e664b46e245be817597a7", func := "platen/platenlaw04.BigdecEven", spec := "bigdecEven", inPlace := ["internal/bytealg.IndexByteString", "internal/bytealg.IndexString", "internal/abi.NoEscape", "internal/bytealg.MakeNoZero", "internal/bytealg.abigen_runtime_cmpstring"], named := ["unicode/utf8.first", "unicode/utf8.acceptRanges", "internal/bytealg.MaxLen"], apart := false, laid := [("unicode/utf8.acceptRanges", laid_unicode_utf8_acceptRanges), ("unicode/utf8.first", laid_unicode_utf8_first)], narrowed := true }
def BigdecEvenUptoSaid : Prop := bigdecEvenUptoRow.holds Tryd.pinned (OpenSpec.upto bigdecEvenSpec)

end Rows
end Go.Proofs.YtjfoknhoehamhabDoor
