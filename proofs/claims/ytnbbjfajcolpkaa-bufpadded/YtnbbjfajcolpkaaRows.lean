/-
  No cell of these rows narrows 'for every input' (looked for: loops, veiled, ifaces, maps, wideKeys, modest, calm, conditions, laid).
  DERIVED. THE GIVEN ROWS OF THIS SEAT. 6 by the template 'for every input the law returns true; each argument reads behind the call as it read before'; 0 by the template 'total and deterministic' (their statements: YtnbbjfajcolpkaaTotals.lean).
  GIVEN WITH THE SEED: the statements are not yours to turn. If you find one false, say at which input.
  Laid BY PROGRAM, IN A SANDBOX (cutbox-rows.mjs): the forced cells as the released guide's own fill.sh prints them over the translation dd57c283679982b8… (all of the seat's roots in one cut). By AI agents, Wed Nov 11 2026. No macro, syntax, notation, axiom, sorry.
-/
import Derived.Test.YtnbbjfajcolpkaaChecked
import GoSem.Claim
import GoSem.ClaimJoined
import GoSem.ClaimMapViews
import Derived.JoinedTies
import Derived.KernelRfl
namespace Go.Proofs.Ytnbbjfajcolpkaa
/- THE CELL 'sum', in the pinned program and in every row, IS THE sha256 OF THE DUMP (.gsa) THAT YtnbbjfajcolpkaaProg.lean LOADS. Nothing in Lean hashes anything: it is a label: what it is worth is what the hold of that sum in a sandbox is worth. -/
noncomputable def Try.pinned : Pinned := { name := "ytnbbjfajcolpkaa", sum := "dd57c283679982b8253c39ebca5e7e25095daf97b3a48734ecee0ccdae74cd73", checked := Try.checked }
namespace Rows
def none {H : Type} : Left H := { results := [], args := [] }

/-- 'platenlaw01.BufRunes': WHATEVER THE INPUT: true; the input reads as it did. -/
def bufRunesSpec : ChangeSpec := { name := "bufRunes", fn := fun _ => fun
  | [d] => { results := [.lit (.bool true)], args := [d] }
  | _ => none }
def bufRunesRow : OpenClaim := { program := "ytnbbjfajcolpkaa", sum := "dd57c283679982b8253c39ebca5e7e25095daf97b3a48734ecee0ccdae74cd73", func := "platen/platenlaw01.BufRunes", spec := "bufRunes", inPlace := ["internal/abi.NoEscape", "internal/bytealg.MakeNoZero"], apart := false }
def BufRunesSaid : Prop := bufRunesRow.holds Try.pinned (OpenSpec.ofChange bufRunesSpec)

/-- ITS FALSE NEIGHBOUR: 'it returns false'. Refute it at one input. -/
def bufRunesWrong : ChangeSpec := { name := "bufRunes", fn := fun _ => fun
  | [d] => { results := [.lit (.bool false)], args := [d] }
  | _ => none }
def BufRunesWrongFalsely : Prop := bufRunesRow.holds Try.pinned (OpenSpec.ofChange bufRunesWrong)

/-- 'platenlaw01.BufDecodes': WHATEVER THE INPUT: true; the input reads as it did. -/
def bufDecodesSpec : ChangeSpec := { name := "bufDecodes", fn := fun _ => fun
  | [d] => { results := [.lit (.bool true)], args := [d] }
  | _ => none }
def bufDecodesRow : OpenClaim := { program := "ytnbbjfajcolpkaa", sum := "dd57c283679982b8253c39ebca5e7e25095daf97b3a48734ecee0ccdae74cd73", func := "platen/platenlaw01.BufDecodes", spec := "bufDecodes", inPlace := ["internal/abi.NoEscape", "internal/bytealg.MakeNoZero"], apart := false }
def BufDecodesSaid : Prop := bufDecodesRow.holds Try.pinned (OpenSpec.ofChange bufDecodesSpec)

/-- ITS FALSE NEIGHBOUR: 'it returns false'. Refute it at one input. -/
def bufDecodesWrong : ChangeSpec := { name := "bufDecodes", fn := fun _ => fun
  | [d] => { results := [.lit (.bool false)], args := [d] }
  | _ => none }
def BufDecodesWrongFalsely : Prop := bufDecodesRow.holds Try.pinned (OpenSpec.ofChange bufDecodesWrong)

/-- 'platenlaw01.BufCounts': WHATEVER THE INPUT: true; the input reads as it did. -/
def bufCountsSpec : ChangeSpec := { name := "bufCounts", fn := fun _ => fun
  | [d1, d2] => { results := [.lit (.bool true)], args := [d1, d2] }
  | _ => none }
def bufCountsRow : OpenClaim := { program := "ytnbbjfajcolpkaa", sum := "dd57c283679982b8253c39ebca5e7e25095daf97b3a48734ecee0ccdae74cd73", func := "platen/platenlaw01.BufCounts", spec := "bufCounts", inPlace := ["internal/abi.NoEscape", "internal/bytealg.MakeNoZero"], apart := false }
def BufCountsSaid : Prop := bufCountsRow.holds Try.pinned (OpenSpec.ofChange bufCountsSpec)

/-- ITS FALSE NEIGHBOUR: 'it returns false'. Refute it at one input. -/
def bufCountsWrong : ChangeSpec := { name := "bufCounts", fn := fun _ => fun
  | [d1, d2] => { results := [.lit (.bool false)], args := [d1, d2] }
  | _ => none }
def BufCountsWrongFalsely : Prop := bufCountsRow.holds Try.pinned (OpenSpec.ofChange bufCountsWrong)

/-- 'platenlaw01.BufFills': WHATEVER THE INPUT: true; the input reads as it did. -/
def bufFillsSpec : ChangeSpec := { name := "bufFills", fn := fun _ => fun
  | [d1, d2] => { results := [.lit (.bool true)], args := [d1, d2] }
  | _ => none }
def bufFillsRow : OpenClaim := { program := "ytnbbjfajcolpkaa", sum := "dd57c283679982b8253c39ebca5e7e25095daf97b3a48734ecee0ccdae74cd73", func := "platen/platenlaw01.BufFills", spec := "bufFills", inPlace := ["internal/abi.NoEscape", "internal/bytealg.MakeNoZero"], apart := false }
def BufFillsSaid : Prop := bufFillsRow.holds Try.pinned (OpenSpec.ofChange bufFillsSpec)

/-- ITS FALSE NEIGHBOUR: 'it returns false'. Refute it at one input. -/
def bufFillsWrong : ChangeSpec := { name := "bufFills", fn := fun _ => fun
  | [d1, d2] => { results := [.lit (.bool false)], args := [d1, d2] }
  | _ => none }
def BufFillsWrongFalsely : Prop := bufFillsRow.holds Try.pinned (OpenSpec.ofChange bufFillsWrong)

/-- 'platenlaw01.BufPads': WHATEVER THE INPUT: true; the input reads as it did. -/
def bufPadsSpec : ChangeSpec := { name := "bufPads", fn := fun _ => fun
  | [d1, d2] => { results := [.lit (.bool true)], args := [d1, d2] }
  | _ => none }
def bufPadsRow : OpenClaim := { program := "ytnbbjfajcolpkaa", sum := "dd57c283679982b8253c39ebca5e7e25095daf97b3a48734ecee0ccdae74cd73", func := "platen/platenlaw01.BufPads", spec := "bufPads", inPlace := ["internal/abi.NoEscape", "internal/bytealg.MakeNoZero"], apart := false }
def BufPadsSaid : Prop := bufPadsRow.holds Try.pinned (OpenSpec.ofChange bufPadsSpec)

/-- ITS FALSE NEIGHBOUR: 'it returns false'. Refute it at one input. -/
def bufPadsWrong : ChangeSpec := { name := "bufPads", fn := fun _ => fun
  | [d1, d2] => { results := [.lit (.bool false)], args := [d1, d2] }
  | _ => none }
def BufPadsWrongFalsely : Prop := bufPadsRow.holds Try.pinned (OpenSpec.ofChange bufPadsWrong)

/-- 'platenlaw01.BufPadded': WHATEVER THE INPUT: true; the input reads as it did. -/
def bufPaddedSpec : ChangeSpec := { name := "bufPadded", fn := fun _ => fun
  | [d1, d2] => { results := [.lit (.bool true)], args := [d1, d2] }
  | _ => none }
def bufPaddedRow : OpenClaim := { program := "ytnbbjfajcolpkaa", sum := "dd57c283679982b8253c39ebca5e7e25095daf97b3a48734ecee0ccdae74cd73", func := "platen/platenlaw01.BufPadded", spec := "bufPadded", inPlace := ["internal/abi.NoEscape", "internal/bytealg.MakeNoZero"], apart := false }
def BufPaddedSaid : Prop := bufPaddedRow.holds Try.pinned (OpenSpec.ofChange bufPaddedSpec)

/-- ITS FALSE NEIGHBOUR: 'it returns false'. Refute it at one input. -/
def bufPaddedWrong : ChangeSpec := { name := "bufPadded", fn := fun _ => fun
  | [d1, d2] => { results := [.lit (.bool false)], args := [d1, d2] }
  | _ => none }
def BufPaddedWrongFalsely : Prop := bufPaddedRow.holds Try.pinned (OpenSpec.ofChange bufPaddedWrong)

/- THE SECOND FORM. 'bulk': how many values and letters a reading holds, each counted each time it is reached (what is shared counts as often as it is met; a slice's spare places count too). A statement '..UptoSaid' is the law's where the arguments, and the package variables that the reading takes, are together of bulk at most 1048576: NARROWER than '..Said'. Prove '..Said' where nothing that the law and all that it calls make is longer than what came in: it says more and counts as full. Else prove '..UptoSaid'. A law counts once. -/
mutual
def uptoBulk {H : Type} : DataW H → Nat
  | .lit (.string bytes) => bytes.length + 1
  | .lit _ => 1
  | .nil => 1
  | .ptr d => uptoBulk d + 1
  | .slice elems spare => uptoBulkAll elems + uptoBulkAll spare + 1
  | .agg parts => uptoBulkAll parts + 1
  | .iface _ d => uptoBulk d + 1
  | .map entries => uptoBulkEntries entries + 1
  | .held _ => 1
def uptoBulkAll {H : Type} : List (DataW H) → Nat
  | [] => 0
  | d :: r => uptoBulk d + uptoBulkAll r
def uptoBulkEntries {H : Type} : List (Lit × DataW H) → Nat
  | [] => 0
  | x :: r => uptoBulkEntry x + uptoBulkEntries r
def uptoBulkEntry {H : Type} : Lit × DataW H → Nat
  | (.string bytes, d) => bytes.length + uptoBulk d + 1
  | (_, d) => uptoBulk d + 1
 end
def uptoSmall : (H : Type) → List (DataW H) → Bool := fun _ ds => decide (uptoBulkAll ds ≤ 1048576)
def OpenSpec.upto (s : _root_.Go.ChangeSpec) : _root_.Go.OpenSpec := { _root_.Go.OpenSpec.ofChange s with cond := some uptoSmall }

/-- 'platenlaw01.BufRunes', WHERE WHAT IT READS IS OF BULK AT MOST 1048576: true; the input reads as it did. -/
def bufRunesUptoRow : OpenClaim := { program := "ytnbbjfajcolpkaa", sum := "dd57c283679982b8253c39ebca5e7e25095daf97b3a48734ecee0ccdae74cd73", func := "platen/platenlaw01.BufRunes", spec := "bufRunes", inPlace := ["internal/abi.NoEscape", "internal/bytealg.MakeNoZero"], apart := false, narrowed := true }
def BufRunesUptoSaid : Prop := bufRunesUptoRow.holds Try.pinned (OpenSpec.upto bufRunesSpec)

/-- 'platenlaw01.BufDecodes', WHERE WHAT IT READS IS OF BULK AT MOST 1048576: true; the input reads as it did. -/
def bufDecodesUptoRow : OpenClaim := { program := "ytnbbjfajcolpkaa", sum := "dd57c283679982b8253c39ebca5e7e25095daf97b3a48734ecee0ccdae74cd73", func := "platen/platenlaw01.BufDecodes", spec := "bufDecodes", inPlace := ["internal/abi.NoEscape", "internal/bytealg.MakeNoZero"], apart := false, narrowed := true }
def BufDecodesUptoSaid : Prop := bufDecodesUptoRow.holds Try.pinned (OpenSpec.upto bufDecodesSpec)

/-- 'platenlaw01.BufCounts', WHERE WHAT IT READS IS OF BULK AT MOST 1048576: true; the input reads as it did. -/
def bufCountsUptoRow : OpenClaim := { program := "ytnbbjfajcolpkaa", sum := "dd57c283679982b8253c39ebca5e7e25095daf97b3a48734ecee0ccdae74cd73", func := "platen/platenlaw01.BufCounts", spec := "bufCounts", inPlace := ["internal/abi.NoEscape", "internal/bytealg.MakeNoZero"], apart := false, narrowed := true }
def BufCountsUptoSaid : Prop := bufCountsUptoRow.holds Try.pinned (OpenSpec.upto bufCountsSpec)

/-- 'platenlaw01.BufFills', WHERE WHAT IT READS IS OF BULK AT MOST 1048576: true; the input reads as it did. -/
def bufFillsUptoRow : OpenClaim := { program := "ytnbbjfajcolpkaa", sum := "dd57c283679982b8253c39ebca5e7e25095daf97b3a48734ecee0ccdae74cd73", func := "platen/platenlaw01.BufFills", spec := "bufFills", inPlace := ["internal/abi.NoEscape", "internal/bytealg.MakeNoZero"], apart := false, narrowed := true }
def BufFillsUptoSaid : Prop := bufFillsUptoRow.holds Try.pinned (OpenSpec.upto bufFillsSpec)

/-- 'platenlaw01.BufPads', WHERE WHAT IT READS IS OF BULK AT MOST 1048576: true; the input reads as it did. -/
def bufPadsUptoRow : OpenClaim := { program := "ytnbbjfajcolpkaa", sum := "dd57c283679982b8253c39ebca5e7e25095daf97b3a48734ecee0ccdae74cd73", func := "platen/platenlaw01.BufPads", spec := "bufPads", inPlace := ["internal/abi.NoEscape", "internal/bytealg.MakeNoZero"], apart := false, narrowed := true }
def BufPadsUptoSaid : Prop := bufPadsUptoRow.holds Try.pinned (OpenSpec.upto bufPadsSpec)

/-- 'platenlaw01.BufPadded', WHERE WHAT IT READS IS OF BULK AT MOST 1048576: true; the input reads as it did. -/
def bufPaddedUptoRow : OpenClaim := { program := "ytnbbjfajcolpkaa", sum := "dd57c283679982b8253c39ebca5e7e25095daf97b3a48734ecee0ccdae74cd73", func := "platen/platenlaw01.BufPadded", spec := "bufPadded", inPlace := ["internal/abi.NoEscape", "internal/bytealg.MakeNoZero"], apart := false, narrowed := true }
def BufPaddedUptoSaid : Prop := bufPaddedUptoRow.holds Try.pinned (OpenSpec.upto bufPaddedSpec)

end Rows
end Go.Proofs.Ytnbbjfajcolpkaa
