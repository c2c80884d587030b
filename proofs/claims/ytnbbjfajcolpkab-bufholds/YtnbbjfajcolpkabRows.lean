/-
  No cell of these rows narrows 'for every input' (looked for: loops, veiled, ifaces, maps, wideKeys, modest, calm, conditions, laid).
  DERIVED. THE GIVEN ROWS OF THIS SEAT. 4 by the template 'for every input the law returns true; each argument reads behind the call as it read before'; 0 by the template 'total and deterministic' (their statements: YtnbbjfajcolpkabTotals.lean).
  GIVEN WITH THE SEED: the statements are not yours to turn. If you find one false, say at which input.
  Laid BY PROGRAM, IN A SANDBOX (cutbox-rows.mjs): the forced cells as the released guide's own fill.sh prints them over the translation a00755a0ebdb123f… (all of the seat's roots in one cut). By AI agents, Wed Nov 11 2026. No macro, syntax, notation, axiom, sorry.
-/
import Derived.Test.YtnbbjfajcolpkabChecked
import GoSem.Claim
import GoSem.ClaimJoined
import GoSem.ClaimMapViews
import Derived.JoinedTies
import Derived.KernelRfl
namespace Go.Proofs.Ytnbbjfajcolpkab
/- THE CELL 'sum', in the pinned program and in every row, IS THE sha256 OF THE DUMP (.gsa) THAT YtnbbjfajcolpkabProg.lean LOADS. Nothing in Lean hashes anything: it is a label: what it is worth is what the hold of that sum in a sandbox is worth. -/
noncomputable def Try.pinned : Pinned := { name := "ytnbbjfajcolpkab", sum := "a00755a0ebdb123f9b6e7fe11231b10f5215f3923c57c80878db133db5477912", checked := Try.checked }
namespace Rows
def none {H : Type} : Left H := { results := [], args := [] }

/-- 'platenlaw01.BufHolds': WHATEVER THE INPUT: true; the input reads as it did. -/
def bufHoldsSpec : ChangeSpec := { name := "bufHolds", fn := fun _ => fun
  | [d] => { results := [.lit (.bool true)], args := [d] }
  | _ => none }
def bufHoldsRow : OpenClaim := { program := "ytnbbjfajcolpkab", sum := "a00755a0ebdb123f9b6e7fe11231b10f5215f3923c57c80878db133db5477912", func := "platen/platenlaw01.BufHolds", spec := "bufHolds", inPlace := ["internal/abi.NoEscape", "internal/bytealg.MakeNoZero"], apart := false }
def BufHoldsSaid : Prop := bufHoldsRow.holds Try.pinned (OpenSpec.ofChange bufHoldsSpec)

/-- ITS FALSE NEIGHBOUR: 'it returns false'. Refute it at one input. -/
def bufHoldsWrong : ChangeSpec := { name := "bufHolds", fn := fun _ => fun
  | [d] => { results := [.lit (.bool false)], args := [d] }
  | _ => none }
def BufHoldsWrongFalsely : Prop := bufHoldsRow.holds Try.pinned (OpenSpec.ofChange bufHoldsWrong)

/-- 'platenlaw01.BufWhole': WHATEVER THE INPUT: true; the input reads as it did. -/
def bufWholeSpec : ChangeSpec := { name := "bufWhole", fn := fun _ => fun
  | [d1, d2, d3] => { results := [.lit (.bool true)], args := [d1, d2, d3] }
  | _ => none }
def bufWholeRow : OpenClaim := { program := "ytnbbjfajcolpkab", sum := "a00755a0ebdb123f9b6e7fe11231b10f5215f3923c57c80878db133db5477912", func := "platen/platenlaw01.BufWhole", spec := "bufWhole", inPlace := ["internal/abi.NoEscape", "internal/bytealg.MakeNoZero"], apart := false }
def BufWholeSaid : Prop := bufWholeRow.holds Try.pinned (OpenSpec.ofChange bufWholeSpec)

/-- ITS FALSE NEIGHBOUR: 'it returns false'. Refute it at one input. -/
def bufWholeWrong : ChangeSpec := { name := "bufWhole", fn := fun _ => fun
  | [d1, d2, d3] => { results := [.lit (.bool false)], args := [d1, d2, d3] }
  | _ => none }
def BufWholeWrongFalsely : Prop := bufWholeRow.holds Try.pinned (OpenSpec.ofChange bufWholeWrong)

/-- 'platenlaw01.BufBack': WHATEVER THE INPUT: true; the input reads as it did. -/
def bufBackSpec : ChangeSpec := { name := "bufBack", fn := fun _ => fun
  | [d1, d2] => { results := [.lit (.bool true)], args := [d1, d2] }
  | _ => none }
def bufBackRow : OpenClaim := { program := "ytnbbjfajcolpkab", sum := "a00755a0ebdb123f9b6e7fe11231b10f5215f3923c57c80878db133db5477912", func := "platen/platenlaw01.BufBack", spec := "bufBack", inPlace := ["internal/abi.NoEscape", "internal/bytealg.MakeNoZero"], apart := false }
def BufBackSaid : Prop := bufBackRow.holds Try.pinned (OpenSpec.ofChange bufBackSpec)

/-- ITS FALSE NEIGHBOUR: 'it returns false'. Refute it at one input. -/
def bufBackWrong : ChangeSpec := { name := "bufBack", fn := fun _ => fun
  | [d1, d2] => { results := [.lit (.bool false)], args := [d1, d2] }
  | _ => none }
def BufBackWrongFalsely : Prop := bufBackRow.holds Try.pinned (OpenSpec.ofChange bufBackWrong)

/-- 'platenlaw01.BufSums': WHATEVER THE INPUT: true; the input reads as it did. -/
def bufSumsSpec : ChangeSpec := { name := "bufSums", fn := fun _ => fun
  | [d1, d2] => { results := [.lit (.bool true)], args := [d1, d2] }
  | _ => none }
def bufSumsRow : OpenClaim := { program := "ytnbbjfajcolpkab", sum := "a00755a0ebdb123f9b6e7fe11231b10f5215f3923c57c80878db133db5477912", func := "platen/platenlaw01.BufSums", spec := "bufSums", inPlace := ["internal/abi.NoEscape", "internal/bytealg.MakeNoZero"], apart := false }
def BufSumsSaid : Prop := bufSumsRow.holds Try.pinned (OpenSpec.ofChange bufSumsSpec)

/-- ITS FALSE NEIGHBOUR: 'it returns false'. Refute it at one input. -/
def bufSumsWrong : ChangeSpec := { name := "bufSums", fn := fun _ => fun
  | [d1, d2] => { results := [.lit (.bool false)], args := [d1, d2] }
  | _ => none }
def BufSumsWrongFalsely : Prop := bufSumsRow.holds Try.pinned (OpenSpec.ofChange bufSumsWrong)

/- THE SECOND FORM. 'bulk': how many values and letters a reading holds, each counted each time it is reached (what is shared counts as often as it is met; a slice's spare places count too). A statement '..UptoSaid' is the law's where the arguments, and the package variables that the reading takes, are together of bulk at most 1048576: NARROWER than '..Said'. Prove '..Said' where nothing that the law and all that it calls make is longer than what came in: it says more and counts as full. Else prove '..UptoSaid'. A law counts once. -/
mutual
def uptoBulk {H : Type} : DataW H → Nat
  | .lit (.string bytes) => bytes.length + 1
  | .lit _ => 1
  | .nil => 1
  | .ptr d => uptoBulk d + 1
  | .slice elems spare => uptoBulkAll elems + uptoBulkAll spare + 1
  | .agg parts => uptoBulkAll parts + 1
  | .iface _ d => uptoBulk d + 1
  | .map entries => uptoBulkEntries entries + 1
  | .held _ => 1
def uptoBulkAll {H : Type} : List (DataW H) → Nat
  | [] => 0
  | d :: r => uptoBulk d + uptoBulkAll r
def uptoBulkEntries {H : Type} : List (Lit × DataW H) → Nat
  | [] => 0
  | x :: r => uptoBulkEntry x + uptoBulkEntries r
def uptoBulkEntry {H : Type} : Lit × DataW H → Nat
  | (.string bytes, d) => bytes.length + uptoBulk d + 1
  | (_, d) => uptoBulk d + 1
 end
def uptoSmall : (H : Type) → List (DataW H) → Bool := fun _ ds => decide (uptoBulkAll ds ≤ 1048576)
def OpenSpec.upto (s : _root_.Go.ChangeSpec) : _root_.Go.OpenSpec := { _root_.Go.OpenSpec.ofChange s with cond := some uptoSmall }

/-- 'platenlaw01.BufHolds', WHERE WHAT IT READS IS OF BULK AT MOST 1048576: true; the input reads as it did. -/
def bufHoldsUptoRow : OpenClaim := { program := "ytnbbjfajcolpkab", sum := "a00755a0ebdb123f9b6e7fe11231b10f5215f3923c57c80878db133db5477912", func := "platen/platenlaw01.BufHolds", spec := "bufHolds", inPlace := ["internal/abi.NoEscape", "internal/bytealg.MakeNoZero"], apart := false, narrowed := true }
def BufHoldsUptoSaid : Prop := bufHoldsUptoRow.holds Try.pinned (OpenSpec.upto bufHoldsSpec)

/-- 'platenlaw01.BufWhole', WHERE WHAT IT READS IS OF BULK AT MOST 1048576: true; the input reads as it did. -/
def bufWholeUptoRow : OpenClaim := { program := "ytnbbjfajcolpkab", sum := "a00755a0ebdb123f9b6e7fe11231b10f5215f3923c57c80878db133db5477912", func := "platen/platenlaw01.BufWhole", spec := "bufWhole", inPlace := ["internal/abi.NoEscape", "internal/bytealg.MakeNoZero"], apart := false, narrowed := true }
def BufWholeUptoSaid : Prop := bufWholeUptoRow.holds Try.pinned (OpenSpec.upto bufWholeSpec)

/-- 'platenlaw01.BufBack', WHERE WHAT IT READS IS OF BULK AT MOST 1048576: true; the input reads as it did. -/
def bufBackUptoRow : OpenClaim := { program := "ytnbbjfajcolpkab", sum := "a00755a0ebdb123f9b6e7fe11231b10f5215f3923c57c80878db133db5477912", func := "platen/platenlaw01.BufBack", spec := "bufBack", inPlace := ["internal/abi.NoEscape", "internal/bytealg.MakeNoZero"], apart := false, narrowed := true }
def BufBackUptoSaid : Prop := bufBackUptoRow.holds Try.pinned (OpenSpec.upto bufBackSpec)

/-- 'platenlaw01.BufSums', WHERE WHAT IT READS IS OF BULK AT MOST 1048576: true; the input reads as it did. -/
def bufSumsUptoRow : OpenClaim := { program := "ytnbbjfajcolpkab", sum := "a00755a0ebdb123f9b6e7fe11231b10f5215f3923c57c80878db133db5477912", func := "platen/platenlaw01.BufSums", spec := "bufSums", inPlace := ["internal/abi.NoEscape", "internal/bytealg.MakeNoZero"], apart := false, narrowed := true }
def BufSumsUptoSaid : Prop := bufSumsUptoRow.holds Try.pinned (OpenSpec.upto bufSumsSpec)

end Rows
end Go.Proofs.Ytnbbjfajcolpkab
