/-
  No cell of these rows narrows 'for every input' (looked for: loops, veiled, ifaces, maps, wideKeys, modest, calm, conditions, laid).
  DERIVED. THE GIVEN ROWS OF THIS SEAT. 5 by the template 'for every input the law returns true; each argument reads behind the call as it read before'; 0 by the template 'total and deterministic' (their statements: YtbgejkodgcgpdaaTotals.lean).
  GIVEN WITH THE SEED: the statements are not yours to turn. If you find one false, say at which input.
  Laid BY PROGRAM, IN A SANDBOX (cutbox-rows.mjs): the forced cells as the released guide's own fill.sh prints them over the translation 909d4658dd2490c2… (all of the seat's roots in one cut). By AI agents, Wed Nov 11 2026. No macro, syntax, notation, axiom, sorry.
-/
import Derived.Test.YtbgejkodgcgpdaaChecked
import GoSem.Claim
import GoSem.ClaimJoined
import GoSem.ClaimMapViews
import Derived.JoinedTies
import Derived.KernelRfl
namespace Go.Proofs.Ytbgejkodgcgpdaa
/- THE CELL 'sum', in the pinned program and in every row, IS THE sha256 OF THE DUMP (.gsa) THAT YtbgejkodgcgpdaaProg.lean LOADS. Nothing in Lean hashes anything: it is a label: what it is worth is what the hold of that sum in a sandbox is worth. -/
noncomputable def Try.pinned : Pinned := { name := "ytbgejkodgcgpdaa", sum := "909d4658dd2490c22b0747a2c7a32927e296c22718507233104c39d6d5b5931d", checked := Try.checked }
namespace Rows
def none {H : Type} : Left H := { results := [], args := [] }

/-- 'platenlaw09.ParsePieces': WHATEVER THE INPUT: true; the input reads as it did. -/
def parsePiecesSpec : ChangeSpec := { name := "parsePieces", fn := fun _ => fun
  | [d] => { results := [.lit (.bool true)], args := [d] }
  | _ => none }
def parsePiecesRow : OpenClaim := { program := "ytbgejkodgcgpdaa", sum := "909d4658dd2490c22b0747a2c7a32927e296c22718507233104c39d6d5b5931d", func := "platen/platenlaw09.ParsePieces", spec := "parsePieces", unfollowed := true, recurses := true, apart := false }
def ParsePiecesSaid : Prop := parsePiecesRow.holds Try.pinned (OpenSpec.ofChange parsePiecesSpec)

/-- ITS FALSE NEIGHBOUR: 'it returns false'. Refute it at one input. -/
def parsePiecesWrong : ChangeSpec := { name := "parsePieces", fn := fun _ => fun
  | [d] => { results := [.lit (.bool false)], args := [d] }
  | _ => none }
def ParsePiecesWrongFalsely : Prop := parsePiecesRow.holds Try.pinned (OpenSpec.ofChange parsePiecesWrong)

/-- 'platenlaw09.ParseJoins': WHATEVER THE INPUT: true; the input reads as it did. -/
def parseJoinsSpec : ChangeSpec := { name := "parseJoins", fn := fun _ => fun
  | [d1, d2] => { results := [.lit (.bool true)], args := [d1, d2] }
  | _ => none }
def parseJoinsRow : OpenClaim := { program := "ytbgejkodgcgpdaa", sum := "909d4658dd2490c22b0747a2c7a32927e296c22718507233104c39d6d5b5931d", func := "platen/platenlaw09.ParseJoins", spec := "parseJoins", unfollowed := true, recurses := true, apart := false }
def ParseJoinsSaid : Prop := parseJoinsRow.holds Try.pinned (OpenSpec.ofChange parseJoinsSpec)

/-- ITS FALSE NEIGHBOUR: 'it returns false'. Refute it at one input. -/
def parseJoinsWrong : ChangeSpec := { name := "parseJoins", fn := fun _ => fun
  | [d1, d2] => { results := [.lit (.bool false)], args := [d1, d2] }
  | _ => none }
def ParseJoinsWrongFalsely : Prop := parseJoinsRow.holds Try.pinned (OpenSpec.ofChange parseJoinsWrong)

/-- 'platenlaw09.ParseFlags': WHATEVER THE INPUT: true; the input reads as it did. -/
def parseFlagsSpec : ChangeSpec := { name := "parseFlags", fn := fun _ => fun
  | [d1, d2, d3] => { results := [.lit (.bool true)], args := [d1, d2, d3] }
  | _ => none }
def parseFlagsRow : OpenClaim := { program := "ytbgejkodgcgpdaa", sum := "909d4658dd2490c22b0747a2c7a32927e296c22718507233104c39d6d5b5931d", func := "platen/platenlaw09.ParseFlags", spec := "parseFlags", unfollowed := true, recurses := true, apart := false }
def ParseFlagsSaid : Prop := parseFlagsRow.holds Try.pinned (OpenSpec.ofChange parseFlagsSpec)

/-- ITS FALSE NEIGHBOUR: 'it returns false'. Refute it at one input. -/
def parseFlagsWrong : ChangeSpec := { name := "parseFlags", fn := fun _ => fun
  | [d1, d2, d3] => { results := [.lit (.bool false)], args := [d1, d2, d3] }
  | _ => none }
def ParseFlagsWrongFalsely : Prop := parseFlagsRow.holds Try.pinned (OpenSpec.ofChange parseFlagsWrong)

/-- 'platenlaw10.BadReads': WHATEVER THE INPUT: true; the input reads as it did. -/
def badReadsSpec : ChangeSpec := { name := "badReads", fn := fun _ => fun
  | [d] => { results := [.lit (.bool true)], args := [d] }
  | _ => none }
def badReadsRow : OpenClaim := { program := "ytbgejkodgcgpdaa", sum := "909d4658dd2490c22b0747a2c7a32927e296c22718507233104c39d6d5b5931d", func := "platen/platenlaw10.BadReads", spec := "badReads", inPlace := ["internal/bytealg.IndexByteString", "internal/bytealg.IndexString", "internal/abi.NoEscape", "internal/bytealg.MakeNoZero"], named := ["internal/bytealg.MaxLen"], apart := false }
def BadReadsSaid : Prop := badReadsRow.holds Try.pinned (OpenSpec.ofChange badReadsSpec)

/-- ITS FALSE NEIGHBOUR: 'it returns false'. Refute it at one input. -/
def badReadsWrong : ChangeSpec := { name := "badReads", fn := fun _ => fun
  | [d] => { results := [.lit (.bool false)], args := [d] }
  | _ => none }
def BadReadsWrongFalsely : Prop := badReadsRow.holds Try.pinned (OpenSpec.ofChange badReadsWrong)

/-- 'platenlaw10.BadBack': WHATEVER THE INPUT: true; the input reads as it did. -/
def badBackSpec : ChangeSpec := { name := "badBack", fn := fun _ => fun
  | [d1, d2, d3] => { results := [.lit (.bool true)], args := [d1, d2, d3] }
  | _ => none }
def badBackRow : OpenClaim := { program := "ytbgejkodgcgpdaa", sum := "909d4658dd2490c22b0747a2c7a32927e296c22718507233104c39d6d5b5931d", func := "platen/platenlaw10.BadBack", spec := "badBack", inPlace := ["internal/abi.NoEscape", "internal/bytealg.MakeNoZero", "internal/bytealg.IndexByteString", "internal/bytealg.IndexString"], named := ["internal/bytealg.MaxLen"], apart := false }
def BadBackSaid : Prop := badBackRow.holds Try.pinned (OpenSpec.ofChange badBackSpec)

/-- ITS FALSE NEIGHBOUR: 'it returns false'. Refute it at one input. -/
def badBackWrong : ChangeSpec := { name := "badBack", fn := fun _ => fun
  | [d1, d2, d3] => { results := [.lit (.bool false)], args := [d1, d2, d3] }
  | _ => none }
def BadBackWrongFalsely : Prop := badBackRow.holds Try.pinned (OpenSpec.ofChange badBackWrong)

/- THE SECOND FORM. 'bulk': how many values and letters a reading holds, each counted each time it is reached (what is shared counts as often as it is met; a slice's spare places count too). A statement '..UptoSaid' is the law's where the arguments, and the package variables that the reading takes, are together of bulk at most 1048576: NARROWER than '..Said'. Prove '..Said' where nothing that the law and all that it calls make is longer than what came in: it says more and counts as full. Else prove '..UptoSaid'. A law counts once. -/
mutual
def uptoBulk {H : Type} : DataW H → Nat
  | .lit (.string bytes) => bytes.length + 1
  | .lit _ => 1
  | .nil => 1
  | .ptr d => uptoBulk d + 1
  | .slice elems spare => uptoBulkAll elems + uptoBulkAll spare + 1
  | .agg parts => uptoBulkAll parts + 1
  | .iface _ d => uptoBulk d + 1
  | .map entries => uptoBulkEntries entries + 1
  | .held _ => 1
def uptoBulkAll {H : Type} : List (DataW H) → Nat
  | [] => 0
  | d :: r => uptoBulk d + uptoBulkAll r
def uptoBulkEntries {H : Type} : List (Lit × DataW H) → Nat
  | [] => 0
  | x :: r => uptoBulkEntry x + uptoBulkEntries r
def uptoBulkEntry {H : Type} : Lit × DataW H → Nat
  | (.string bytes, d) => bytes.length + uptoBulk d + 1
  | (_, d) => uptoBulk d + 1
 end
def uptoSmall : (H : Type) → List (DataW H) → Bool := fun _ ds => decide (uptoBulkAll ds ≤ 1048576)
def OpenSpec.upto (s : _root_.Go.ChangeSpec) : _root_.Go.OpenSpec := { _root_.Go.OpenSpec.ofChange s with cond := some uptoSmall }

/-- 'platenlaw09.ParsePieces', WHERE WHAT IT READS IS OF BULK AT MOST 1048576: true; the input reads as it did. -/
def parsePiecesUptoRow : OpenClaim := { program := "ytbgejkodgcgpdaa", sum := "909d4658dd2490c22b0747a2c7a32927e296c22718507233104c39d6d5b5931d", func := "platen/platenlaw09.ParsePieces", spec := "parsePieces", unfollowed := true, recurses := true, apart := false, narrowed := true }
def ParsePiecesUptoSaid : Prop := parsePiecesUptoRow.holds Try.pinned (OpenSpec.upto parsePiecesSpec)

/-- 'platenlaw09.ParseJoins', WHERE WHAT IT READS IS OF BULK AT MOST 1048576: true; the input reads as it did. -/
def parseJoinsUptoRow : OpenClaim := { program := "ytbgejkodgcgpdaa", sum := "909d4658dd2490c22b0747a2c7a32927e296c22718507233104c39d6d5b5931d", func := "platen/platenlaw09.ParseJoins", spec := "parseJoins", unfollowed := true, recurses := true, apart := false, narrowed := true }
def ParseJoinsUptoSaid : Prop := parseJoinsUptoRow.holds Try.pinned (OpenSpec.upto parseJoinsSpec)

/-- 'platenlaw09.ParseFlags', WHERE WHAT IT READS IS OF BULK AT MOST 1048576: true; the input reads as it did. -/
def parseFlagsUptoRow : OpenClaim := { program := "ytbgejkodgcgpdaa", sum := "909d4658dd2490c22b0747a2c7a32927e296c22718507233104c39d6d5b5931d", func := "platen/platenlaw09.ParseFlags", spec := "parseFlags", unfollowed := true, recurses := true, apart := false, narrowed := true }
def ParseFlagsUptoSaid : Prop := parseFlagsUptoRow.holds Try.pinned (OpenSpec.upto parseFlagsSpec)

/-- 'platenlaw10.BadReads', WHERE WHAT IT READS IS OF BULK AT MOST 1048576: true; the input reads as it did. -/
def badReadsUptoRow : OpenClaim := { program := "ytbgejkodgcgpdaa", sum := "909d4658dd2490c22b0747a2c7a32927e296c22718507233104c39d6d5b5931d", func := "platen/platenlaw10.BadReads", spec := "badReads", inPlace := ["internal/bytealg.IndexByteString", "internal/bytealg.IndexString", "internal/abi.NoEscape", "internal/bytealg.MakeNoZero"], named := ["internal/bytealg.MaxLen"], apart := false, narrowed := true }
def BadReadsUptoSaid : Prop := badReadsUptoRow.holds Try.pinned (OpenSpec.upto badReadsSpec)

/-- 'platenlaw10.BadBack', WHERE WHAT IT READS IS OF BULK AT MOST 1048576: true; the input reads as it did. -/
def badBackUptoRow : OpenClaim := { program := "ytbgejkodgcgpdaa", sum := "909d4658dd2490c22b0747a2c7a32927e296c22718507233104c39d6d5b5931d", func := "platen/platenlaw10.BadBack", spec := "badBack", inPlace := ["internal/abi.NoEscape", "internal/bytealg.MakeNoZero", "internal/bytealg.IndexByteString", "internal/bytealg.IndexString"], named := ["internal/bytealg.MaxLen"], apart := false, narrowed := true }
def BadBackUptoSaid : Prop := badBackUptoRow.holds Try.pinned (OpenSpec.upto badBackSpec)

end Rows
end Go.Proofs.Ytbgejkodgcgpdaa
