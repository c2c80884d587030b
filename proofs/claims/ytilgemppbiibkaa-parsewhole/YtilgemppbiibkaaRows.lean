/-
  No cell of these rows narrows 'for every input' (looked for: loops, veiled, ifaces, maps, wideKeys, modest, calm, conditions, laid).
  DERIVED. THE GIVEN ROWS OF THIS SEAT. 6 by the template 'for every input the law returns true; each argument reads behind the call as it read before'; 0 by the template 'total and deterministic' (their statements: YtilgemppbiibkaaTotals.lean).
  GIVEN WITH THE SEED: the statements are not yours to turn. If you find one false, say at which input.
  Laid BY PROGRAM, IN A SANDBOX (cutbox-rows.mjs): the forced cells as the released guide's own fill.sh prints them over the translation 643fff0df7db7e10… (all of the seat's roots in one cut). By AI agents, Wed Nov 11 2026. No macro, syntax, notation, axiom, sorry.
-/
import Derived.Test.YtilgemppbiibkaaChecked
import GoSem.Claim
import GoSem.ClaimJoined
import GoSem.ClaimMapViews
import Derived.JoinedTies
import Derived.KernelRfl
namespace Go.Proofs.Ytilgemppbiibkaa
/- THE CELL 'sum', in the pinned program and in every row, IS THE sha256 OF THE DUMP (.gsa) THAT YtilgemppbiibkaaProg.lean LOADS. Nothing in Lean hashes anything: it is a label: what it is worth is what the hold of that sum in a sandbox is worth. -/
noncomputable def Try.pinned : Pinned := { name := "ytilgemppbiibkaa", sum := "643fff0df7db7e10cfd2f19eccc4f0395ff05e4d465d54a550a71c42eeb422fb", checked := Try.checked }
namespace Rows
def none {H : Type} : Left H := { results := [], args := [] }

/-- 'platenlaw09.ParsePieces': WHATEVER THE INPUT: true; the input reads as it did. -/
def parsePiecesSpec : ChangeSpec := { name := "parsePieces", fn := fun _ => fun
  | [d] => { results := [.lit (.bool true)], args := [d] }
  | _ => none }
def parsePiecesRow : OpenClaim := { program := "ytilgemppbiibkaa", sum := "643fff0df7db7e10cfd2f19eccc4f0395ff05e4d465d54a550a71c42eeb422fb", func := "platen/platenlaw09.ParsePieces", spec := "parsePieces", unfollowed := true, recurses := true, apart := false }
def ParsePiecesSaid : Prop := parsePiecesRow.holds Try.pinned (OpenSpec.ofChange parsePiecesSpec)

/-- ITS FALSE NEIGHBOUR: 'it returns false'. Refute it at one input. -/
def parsePiecesWrong : ChangeSpec := { name := "parsePieces", fn := fun _ => fun
  | [d] => { results := [.lit (.bool false)], args := [d] }
  | _ => none }
def ParsePiecesWrongFalsely : Prop := parsePiecesRow.holds Try.pinned (OpenSpec.ofChange parsePiecesWrong)

/-- 'platenlaw09.ParseWhole': WHATEVER THE INPUT: true; the input reads as it did. -/
def parseWholeSpec : ChangeSpec := { name := "parseWhole", fn := fun _ => fun
  | [d] => { results := [.lit (.bool true)], args := [d] }
  | _ => none }
def parseWholeRow : OpenClaim := { program := "ytilgemppbiibkaa", sum := "643fff0df7db7e10cfd2f19eccc4f0395ff05e4d465d54a550a71c42eeb422fb", func := "platen/platenlaw09.ParseWhole", spec := "parseWhole", inPlace := ["internal/abi.NoEscape"], unfollowed := true, recurses := true, apart := false }
def ParseWholeSaid : Prop := parseWholeRow.holds Try.pinned (OpenSpec.ofChange parseWholeSpec)

/-- ITS FALSE NEIGHBOUR: 'it returns false'. Refute it at one input. -/
def parseWholeWrong : ChangeSpec := { name := "parseWhole", fn := fun _ => fun
  | [d] => { results := [.lit (.bool false)], args := [d] }
  | _ => none }
def ParseWholeWrongFalsely : Prop := parseWholeRow.holds Try.pinned (OpenSpec.ofChange parseWholeWrong)

/-- 'platenlaw09.ParseLits': WHATEVER THE INPUT: true; the input reads as it did. -/
def parseLitsSpec : ChangeSpec := { name := "parseLits", fn := fun _ => fun
  | [d] => { results := [.lit (.bool true)], args := [d] }
  | _ => none }
def parseLitsRow : OpenClaim := { program := "ytilgemppbiibkaa", sum := "643fff0df7db7e10cfd2f19eccc4f0395ff05e4d465d54a550a71c42eeb422fb", func := "platen/platenlaw09.ParseLits", spec := "parseLits", unfollowed := true, recurses := true, apart := false }
def ParseLitsSaid : Prop := parseLitsRow.holds Try.pinned (OpenSpec.ofChange parseLitsSpec)

/-- ITS FALSE NEIGHBOUR: 'it returns false'. Refute it at one input. -/
def parseLitsWrong : ChangeSpec := { name := "parseLits", fn := fun _ => fun
  | [d] => { results := [.lit (.bool false)], args := [d] }
  | _ => none }
def ParseLitsWrongFalsely : Prop := parseLitsRow.holds Try.pinned (OpenSpec.ofChange parseLitsWrong)

/-- 'platenlaw09.ParseJoins': WHATEVER THE INPUT: true; the input reads as it did. -/
def parseJoinsSpec : ChangeSpec := { name := "parseJoins", fn := fun _ => fun
  | [d1, d2] => { results := [.lit (.bool true)], args := [d1, d2] }
  | _ => none }
def parseJoinsRow : OpenClaim := { program := "ytilgemppbiibkaa", sum := "643fff0df7db7e10cfd2f19eccc4f0395ff05e4d465d54a550a71c42eeb422fb", func := "platen/platenlaw09.ParseJoins", spec := "parseJoins", unfollowed := true, recurses := true, apart := false }
def ParseJoinsSaid : Prop := parseJoinsRow.holds Try.pinned (OpenSpec.ofChange parseJoinsSpec)

/-- ITS FALSE NEIGHBOUR: 'it returns false'. Refute it at one input. -/
def parseJoinsWrong : ChangeSpec := { name := "parseJoins", fn := fun _ => fun
  | [d1, d2] => { results := [.lit (.bool false)], args := [d1, d2] }
  | _ => none }
def ParseJoinsWrongFalsely : Prop := parseJoinsRow.holds Try.pinned (OpenSpec.ofChange parseJoinsWrong)

/-- 'platenlaw09.ParseFlags': WHATEVER THE INPUT: true; the input reads as it did. -/
def parseFlagsSpec : ChangeSpec := { name := "parseFlags", fn := fun _ => fun
  | [d1, d2, d3] => { results := [.lit (.bool true)], args := [d1, d2, d3] }
  | _ => none }
def parseFlagsRow : OpenClaim := { program := "ytilgemppbiibkaa", sum := "643fff0df7db7e10cfd2f19eccc4f0395ff05e4d465d54a550a71c42eeb422fb", func := "platen/platenlaw09.ParseFlags", spec := "parseFlags", unfollowed := true, recurses := true, apart := false }
def ParseFlagsSaid : Prop := parseFlagsRow.holds Try.pinned (OpenSpec.ofChange parseFlagsSpec)

/-- ITS FALSE NEIGHBOUR: 'it returns false'. Refute it at one input. -/
def parseFlagsWrong : ChangeSpec := { name := "parseFlags", fn := fun _ => fun
  | [d1, d2, d3] => { results := [.lit (.bool false)], args := [d1, d2, d3] }
  | _ => none }
def ParseFlagsWrongFalsely : Prop := parseFlagsRow.holds Try.pinned (OpenSpec.ofChange parseFlagsWrong)

/-- 'platenlaw09.ParseIndexes': WHATEVER THE INPUT: true; the input reads as it did. -/
def parseIndexesSpec : ChangeSpec := { name := "parseIndexes", fn := fun _ => fun
  | [d1, d2, d3] => { results := [.lit (.bool true)], args := [d1, d2, d3] }
  | _ => none }
def parseIndexesRow : OpenClaim := { program := "ytilgemppbiibkaa", sum := "643fff0df7db7e10cfd2f19eccc4f0395ff05e4d465d54a550a71c42eeb422fb", func := "platen/platenlaw09.ParseIndexes", spec := "parseIndexes", unfollowed := true, recurses := true, apart := false }
def ParseIndexesSaid : Prop := parseIndexesRow.holds Try.pinned (OpenSpec.ofChange parseIndexesSpec)

/-- ITS FALSE NEIGHBOUR: 'it returns false'. Refute it at one input. -/
def parseIndexesWrong : ChangeSpec := { name := "parseIndexes", fn := fun _ => fun
  | [d1, d2, d3] => { results := [.lit (.bool false)], args := [d1, d2, d3] }
  | _ => none }
def ParseIndexesWrongFalsely : Prop := parseIndexesRow.holds Try.pinned (OpenSpec.ofChange parseIndexesWrong)

/- THE SECOND FORM. 'bulk': how many values and letters a reading holds, each counted each time it is reached (what is shared counts as often as it is met; a slice's spare places count too). A statement '..UptoSaid' is the law's where the arguments, and the package variables that the reading takes, are together of bulk at most 1048576: NARROWER than '..Said'. Prove '..Said' where nothing that the law and all that it calls make is longer than what came in: it says more and counts as full. Else prove '..UptoSaid'. A law counts once. -/
mutual
def uptoBulk {H : Type} : DataW H → Nat
  | .lit (.string bytes) => bytes.length + 1
  | .lit _ => 1
  | .nil => 1
  | .ptr d => uptoBulk d + 1
  | .slice elems spare => uptoBulkAll elems + uptoBulkAll spare + 1
  | .agg parts => uptoBulkAll parts + 1
  | .iface _ d => uptoBulk d + 1
  | .map entries => uptoBulkEntries entries + 1
  | .held _ => 1
def uptoBulkAll {H : Type} : List (DataW H) → Nat
  | [] => 0
  | d :: r => uptoBulk d + uptoBulkAll r
def uptoBulkEntries {H : Type} : List (Lit × DataW H) → Nat
  | [] => 0
  | x :: r => uptoBulkEntry x + uptoBulkEntries r
def uptoBulkEntry {H : Type} : Lit × DataW H → Nat
  | (.string bytes, d) => bytes.length + uptoBulk d + 1
  | (_, d) => uptoBulk d + 1
 end
def uptoSmall : (H : Type) → List (DataW H) → Bool := fun _ ds => decide (uptoBulkAll ds ≤ 1048576)
def OpenSpec.upto (s : _root_.Go.ChangeSpec) : _root_.Go.OpenSpec := { _root_.Go.OpenSpec.ofChange s with cond := some uptoSmall }

/-- 'platenlaw09.ParsePieces', WHERE WHAT IT READS IS OF BULK AT MOST 1048576: true; the input reads as it did. -/
def parsePiecesUptoRow : OpenClaim := { program := "ytilgemppbiibkaa", sum := "643fff0df7db7e10cfd2f19eccc4f0395ff05e4d465d54a550a71c42eeb422fb", func := "platen/platenlaw09.ParsePieces", spec := "parsePieces", unfollowed := true, recurses := true, apart := false, narrowed := true }
def ParsePiecesUptoSaid : Prop := parsePiecesUptoRow.holds Try.pinned (OpenSpec.upto parsePiecesSpec)

/-- 'platenlaw09.ParseWhole', WHERE WHAT IT READS IS OF BULK AT MOST 1048576: true; the input reads as it did. -/
def parseWholeUptoRow : OpenClaim := { program := "ytilgemppbiibkaa", sum := "643fff0df7db7e10cfd2f19eccc4f0395ff05e4d465d54a550a71c42eeb422fb", func := "platen/platenlaw09.ParseWhole", spec := "parseWhole", inPlace := ["internal/abi.NoEscape"], unfollowed := true, recurses := true, apart := false, narrowed := true }
def ParseWholeUptoSaid : Prop := parseWholeUptoRow.holds Try.pinned (OpenSpec.upto parseWholeSpec)

/-- 'platenlaw09.ParseLits', WHERE WHAT IT READS IS OF BULK AT MOST 1048576: true; the input reads as it did. -/
def parseLitsUptoRow : OpenClaim := { program := "ytilgemppbiibkaa", sum := "643fff0df7db7e10cfd2f19eccc4f0395ff05e4d465d54a550a71c42eeb422fb", func := "platen/platenlaw09.ParseLits", spec := "parseLits", unfollowed := true, recurses := true, apart := false, narrowed := true }
def ParseLitsUptoSaid : Prop := parseLitsUptoRow.holds Try.pinned (OpenSpec.upto parseLitsSpec)

/-- 'platenlaw09.ParseJoins', WHERE WHAT IT READS IS OF BULK AT MOST 1048576: true; the input reads as it did. -/
def parseJoinsUptoRow : OpenClaim := { program := "ytilgemppbiibkaa", sum := "643fff0df7db7e10cfd2f19eccc4f0395ff05e4d465d54a550a71c42eeb422fb", func := "platen/platenlaw09.ParseJoins", spec := "parseJoins", unfollowed := true, recurses := true, apart := false, narrowed := true }
def ParseJoinsUptoSaid : Prop := parseJoinsUptoRow.holds Try.pinned (OpenSpec.upto parseJoinsSpec)

/-- 'platenlaw09.ParseFlags', WHERE WHAT IT READS IS OF BULK AT MOST 1048576: true; the input reads as it did. -/
def parseFlagsUptoRow : OpenClaim := { program := "ytilgemppbiibkaa", sum := "643fff0df7db7e10cfd2f19eccc4f0395ff05e4d465d54a550a71c42eeb422fb", func := "platen/platenlaw09.ParseFlags", spec := "parseFlags", unfollowed := true, recurses := true, apart := false, narrowed := true }
def ParseFlagsUptoSaid : Prop := parseFlagsUptoRow.holds Try.pinned (OpenSpec.upto parseFlagsSpec)

/-- 'platenlaw09.ParseIndexes', WHERE WHAT IT READS IS OF BULK AT MOST 1048576: true; the input reads as it did. -/
def parseIndexesUptoRow : OpenClaim := { program := "ytilgemppbiibkaa", sum := "643fff0df7db7e10cfd2f19eccc4f0395ff05e4d465d54a550a71c42eeb422fb", func := "platen/platenlaw09.ParseIndexes", spec := "parseIndexes", unfollowed := true, recurses := true, apart := false, narrowed := true }
def ParseIndexesUptoSaid : Prop := parseIndexesUptoRow.holds Try.pinned (OpenSpec.upto parseIndexesSpec)

end Rows
end Go.Proofs.Ytilgemppbiibkaa
