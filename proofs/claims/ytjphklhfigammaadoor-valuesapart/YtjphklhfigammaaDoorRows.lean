/-
  NARROWER THAN 'FOR EVERY INPUT', by the rows' own cells (each row's printed sentence says how): ValuesBack: loops, laid · ValuesOrders: loops, laid · ValuesMaps: loops, laid · ValuesApart: loops, laid.
  DERIVED. THE GIVEN ROWS OF THIS SEAT. 4 by the template 'for every input the law returns true; each argument reads behind the call as it read before'; 0 by the template 'total and deterministic' (their statements: YtjphklhfigammaaDoorTotals.lean).
  GIVEN WITH THE SEED: the statements are not yours to turn. If you find one false, say at which input.
  Laid BY PROGRAM, IN A SANDBOX (cutbox-rows.mjs): the forced cells as the released guide's own fill.sh prints them over the translation 5d9c6ad3f969a5a1… (all of the seat's roots in one cut). By AI agents, Wed Nov 11 2026. No macro, syntax, notation, axiom, sorry.
-/
import Derived.Test.YtjphklhfigammaaDoorChecked
import GoSem.Claim
import GoSem.ClaimJoined
import GoSem.ClaimMapViews
import Derived.JoinedTies
import Derived.KernelRfl
namespace Go.Proofs.YtjphklhfigammaaDoor
/- THE CELL 'sum', in the pinned program and in every row, IS THE sha256 OF THE DUMP (.gsa) THAT YtjphklhfigammaaDoorProg.lean LOADS. Nothing in Lean hashes anything: it is a label: what it is worth is what the hold of that sum in a sandbox is worth. -/
noncomputable def Tryd.pinned : Pinned := { name := "ytjphklhfigammaadoor", sum := "5d9c6ad3f969a5a11ba23315c5e826716b600e95f15324fe6eb4361aca0e36f7", checked := Tryd.checked }
namespace Rows
def none {H : Type} : Left H := { results := [], args := [] }

/- WHAT THE LISTED PACKAGE-LEVEL VARIABLES READ AS WHEN THE CALL BEGINS. Each datum BY PROGRAM (the guide's laid-datum.mjs) off the statement by which the dump's own 'gosem.cut.vars' lays the variable. In a bare row this is a premise. The card (YtjphklhfigammaaDoorCards.lean) ties it to the program's text. -/
def laid_platen_values_kindNames {H : Type} : DataW H := .agg [.lit (.string [60, 110, 105, 108, 62]), .lit (.string [98, 111, 111, 108]), .lit (.string [105, 110, 116, 56]), .lit (.string [105, 110, 116, 49, 54]), .lit (.string [105, 110, 116, 51, 50]), .lit (.string [105, 110, 116, 54, 52]), .lit (.string [105, 110, 116]), .lit (.string [117, 105, 110, 116, 56]), .lit (.string [117, 105, 110, 116, 49, 54]), .lit (.string [117, 105, 110, 116, 51, 50]), .lit (.string [117, 105, 110, 116, 54, 52]), .lit (.string [117, 105, 110, 116]), .lit (.string [102, 108, 111, 97, 116, 51, 50]), .lit (.string [102, 108, 111, 97, 116, 54, 52]), .lit (.string [99, 111, 109, 112, 108, 101, 120, 54, 52]), .lit (.string [99, 111, 109, 112, 108, 101, 120, 49, 50, 56]), .lit (.string [115, 116, 114, 105, 110, 103]), .lit (.string [91, 93, 117, 105, 110, 116, 56]), .lit (.string [115, 116, 114, 117, 99, 116]), .lit (.string [97, 114, 114, 97, 121]), .lit (.string [115, 108, 105, 99, 101]), .lit (.string [109, 97, 112]), .lit (.string [112, 116, 114])]

/-- 'platenlaw08.ValuesBack': WHATEVER THE INPUT: true; the input reads as it did. -/
def valuesBackSpec : ChangeSpec := { name := "valuesBack", fn := fun _ => fun
  | [d] => { results := [.lit (.bool true)], args := [d] }
  | _ => none }
def valuesBackRow : OpenClaim := { program := "ytjphklhfigammaadoor", sum := "5d9c6ad3f969a5a11ba23315c5e826716b600e95f15324fe6eb4361aca0e36f7", func := "platen/platenlaw08.ValuesBack", spec := "valuesBack", unfollowed := true, recurses := true, named := ["platen/values.kindNames"], loops := true, apart := false, laid := [("platen/values.kindNames", laid_platen_values_kindNames)] }
def ValuesBackSaid : Prop := valuesBackRow.holds Tryd.pinned (OpenSpec.ofChange valuesBackSpec)

/-- ITS FALSE NEIGHBOUR: 'it returns false'. Refute it at one input. -/
def valuesBackWrong : ChangeSpec := { name := "valuesBack", fn := fun _ => fun
  | [d] => { results := [.lit (.bool false)], args := [d] }
  | _ => none }
def ValuesBackWrongFalsely : Prop := valuesBackRow.holds Tryd.pinned (OpenSpec.ofChange valuesBackWrong)

/-- 'platenlaw08.ValuesOrders': WHATEVER THE INPUT: true; the input reads as it did. -/
def valuesOrdersSpec : ChangeSpec := { name := "valuesOrders", fn := fun _ => fun
  | [d1, d2, d3] => { results := [.lit (.bool true)], args := [d1, d2, d3] }
  | _ => none }
def valuesOrdersRow : OpenClaim := { program := "ytjphklhfigammaadoor", sum := "5d9c6ad3f969a5a11ba23315c5e826716b600e95f15324fe6eb4361aca0e36f7", func := "platen/platenlaw08.ValuesOrders", spec := "valuesOrders", unfollowed := true, recurses := true, named := ["platen/values.kindNames"], loops := true, apart := false, laid := [("platen/values.kindNames", laid_platen_values_kindNames)] }
def ValuesOrdersSaid : Prop := valuesOrdersRow.holds Tryd.pinned (OpenSpec.ofChange valuesOrdersSpec)

/-- ITS FALSE NEIGHBOUR: 'it returns false'. Refute it at one input. -/
def valuesOrdersWrong : ChangeSpec := { name := "valuesOrders", fn := fun _ => fun
  | [d1, d2, d3] => { results := [.lit (.bool false)], args := [d1, d2, d3] }
  | _ => none }
def ValuesOrdersWrongFalsely : Prop := valuesOrdersRow.holds Tryd.pinned (OpenSpec.ofChange valuesOrdersWrong)

/-- 'platenlaw08.ValuesMaps': WHATEVER THE INPUT: true; the input reads as it did. -/
def valuesMapsSpec : ChangeSpec := { name := "valuesMaps", fn := fun _ => fun
  | [d] => { results := [.lit (.bool true)], args := [d] }
  | _ => none }
def valuesMapsRow : OpenClaim := { program := "ytjphklhfigammaadoor", sum := "5d9c6ad3f969a5a11ba23315c5e826716b600e95f15324fe6eb4361aca0e36f7", func := "platen/platenlaw08.ValuesMaps", spec := "valuesMaps", unfollowed := true, recurses := true, named := ["platen/values.kindNames"], loops := true, apart := false, laid := [("platen/values.kindNames", laid_platen_values_kindNames)] }
def ValuesMapsSaid : Prop := valuesMapsRow.holds Tryd.pinned (OpenSpec.ofChange valuesMapsSpec)

/-- ITS FALSE NEIGHBOUR: 'it returns false'. Refute it at one input. -/
def valuesMapsWrong : ChangeSpec := { name := "valuesMaps", fn := fun _ => fun
  | [d] => { results := [.lit (.bool false)], args := [d] }
  | _ => none }
def ValuesMapsWrongFalsely : Prop := valuesMapsRow.holds Tryd.pinned (OpenSpec.ofChange valuesMapsWrong)

/-- 'platenlaw08.ValuesApart': WHATEVER THE INPUT: true; the input reads as it did. -/
def valuesApartSpec : ChangeSpec := { name := "valuesApart", fn := fun _ => fun
  | [d] => { results := [.lit (.bool true)], args := [d] }
  | _ => none }
def valuesApartRow : OpenClaim := { program := "ytjphklhfigammaadoor", sum := "5d9c6ad3f969a5a11ba23315c5e826716b600e95f15324fe6eb4361aca0e36f7", func := "platen/platenlaw08.ValuesApart", spec := "valuesApart", unfollowed := true, recurses := true, named := ["platen/values.kindNames"], loops := true, apart := false, laid := [("platen/values.kindNames", laid_platen_values_kindNames)] }
def ValuesApartSaid : Prop := valuesApartRow.holds Tryd.pinned (OpenSpec.ofChange valuesApartSpec)

/-- ITS FALSE NEIGHBOUR: 'it returns false'. Refute it at one input. -/
def valuesApartWrong : ChangeSpec := { name := "valuesApart", fn := fun _ => fun
  | [d] => { results := [.lit (.bool false)], args := [d] }
  | _ => none }
def ValuesApartWrongFalsely : Prop := valuesApartRow.holds Tryd.pinned (OpenSpec.ofChange valuesApartWrong)

/- THE SECOND FORM. 'bulk': how many values and letters a reading holds, each counted each time it is reached (what is shared counts as often as it is met; a slice's spare places count too). A statement '..UptoSaid' is the law's where the arguments, and the package variables that the reading takes, are together of bulk at most 1048576: NARROWER than '..Said'. Prove '..Said' where nothing that the law and all that it calls make is longer than what came in: it says more and counts as full. Else prove '..UptoSaid'. A law counts once. -/
mutual
def uptoBulk {H : Type} : DataW H → Nat
  | .lit (.string bytes) => bytes.length + 1
  | .lit _ => 1
  | .nil => 1
  | .ptr d => uptoBulk d + 1
  | .slice elems spare => uptoBulkAll elems + uptoBulkAll spare + 1
  | .agg parts => uptoBulkAll parts + 1
  | .iface _ d => uptoBulk d + 1
  | .map entries => uptoBulkEntries entries + 1
  | .held _ => 1
def uptoBulkAll {H : Type} : List (DataW H) → Nat
  | [] => 0
  | d :: r => uptoBulk d + uptoBulkAll r
def uptoBulkEntries {H : Type} : List (Lit × DataW H) → Nat
  | [] => 0
  | x :: r => uptoBulkEntry x + uptoBulkEntries r
def uptoBulkEntry {H : Type} : Lit × DataW H → Nat
  | (.string bytes, d) => bytes.length + uptoBulk d + 1
  | (_, d) => uptoBulk d + 1
 end
def uptoSmall : (H : Type) → List (DataW H) → Bool := fun _ ds => decide (uptoBulkAll ds ≤ 1048576)
def OpenSpec.upto (s : _root_.Go.ChangeSpec) : _root_.Go.OpenSpec := { _root_.Go.OpenSpec.ofChange s with cond := some uptoSmall }

/-- 'platenlaw08.ValuesBack', WHERE WHAT IT READS IS OF BULK AT MOST 1048576: true; the input reads as it did. -/
def valuesBackUptoRow : OpenClaim := { program := "ytjphklhfigammaadoor", sum := "5d9c6ad3f969a5a11ba23315c5e826716b600e95f15324fe6eb4361aca0e36f7", func := "platen/platenlaw08.ValuesBack", spec := "valuesBack", unfollowed := true, recurses := true, named := ["platen/values.kindNames"], loops := true, apart := false, laid := [("platen/values.kindNames", laid_platen_values_kindNames)], narrowed := true }
def ValuesBackUptoSaid : Prop := valuesBackUptoRow.holds Tryd.pinned (OpenSpec.upto valuesBackSpec)

/-- 'platenlaw08.ValuesOrders', WHERE WHAT IT READS IS OF BULK AT MOST 1048576: true; the input reads as it did. -/
def valuesOrdersUptoRow : OpenClaim := { program := "ytjphklhfigammaadoor", sum := "5d9c6ad3f969a5a11ba23315c5e826716b600e95f15324fe6eb4361aca0e36f7", func := "platen/platenlaw08.ValuesOrders", spec := "valuesOrders", unfollowed := true, recurses := true, named := ["platen/values.kindNames"], loops := true, apart := false, laid := [("platen/values.kindNames", laid_platen_values_kindNames)], narrowed := true }
def ValuesOrdersUptoSaid : Prop := valuesOrdersUptoRow.holds Tryd.pinned (OpenSpec.upto valuesOrdersSpec)

/-- 'platenlaw08.ValuesMaps', WHERE WHAT IT READS IS OF BULK AT MOST 1048576: true; the input reads as it did. -/
def valuesMapsUptoRow : OpenClaim := { program := "ytjphklhfigammaadoor", sum := "5d9c6ad3f969a5a11ba23315c5e826716b600e95f15324fe6eb4361aca0e36f7", func := "platen/platenlaw08.ValuesMaps", spec := "valuesMaps", unfollowed := true, recurses := true, named := ["platen/values.kindNames"], loops := true, apart := false, laid := [("platen/values.kindNames", laid_platen_values_kindNames)], narrowed := true }
def ValuesMapsUptoSaid : Prop := valuesMapsUptoRow.holds Tryd.pinned (OpenSpec.upto valuesMapsSpec)

/-- 'platenlaw08.ValuesApart', WHERE WHAT IT READS IS OF BULK AT MOST 1048576: true; the input reads as it did. -/
def valuesApartUptoRow : OpenClaim := { program := "ytjphklhfigammaadoor", sum := "5d9c6ad3f969a5a11ba23315c5e826716b600e95f15324fe6eb4361aca0e36f7", func := "platen/platenlaw08.ValuesApart", spec := "valuesApart", unfollowed := true, recurses := true, named := ["platen/values.kindNames"], loops := true, apart := false, laid := [("platen/values.kindNames", laid_platen_values_kindNames)], narrowed := true }
def ValuesApartUptoSaid : Prop := valuesApartUptoRow.holds Tryd.pinned (OpenSpec.upto valuesApartSpec)

end Rows
end Go.Proofs.YtjphklhfigammaaDoor
