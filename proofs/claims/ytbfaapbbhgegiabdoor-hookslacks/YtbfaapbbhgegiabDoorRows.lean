/-
  NARROWER THAN 'FOR EVERY INPUT', by the rows' own cells (each row's printed sentence says how): HooksThrows: laid · HooksLacks: laid.
  DERIVED. THE GIVEN ROWS OF THIS SEAT. 2 by the template 'for every input the law returns true; each argument reads behind the call as it read before'; 0 by the template 'total and deterministic' (their statements: YtbfaapbbhgegiabDoorTotals.lean).
  GIVEN WITH THE SEED: the statements are not yours to turn. If you find one false, say at which input.
  Laid BY PROGRAM, IN A SANDBOX (cutbox-rows.mjs): the forced cells as the released guide's own fill.sh prints them over the translation b486a4d86e4e9a71… (all of the seat's roots in one cut). By AI agents, Wed Nov 11 2026. No macro, syntax, notation, axiom, sorry.
-/
import Derived.Test.YtbfaapbbhgegiabDoorChecked
import GoSem.Claim
import GoSem.ClaimJoined
import GoSem.ClaimMapViews
import Derived.JoinedTies
import Derived.KernelRfl
namespace Go.Proofs.YtbfaapbbhgegiabDoor
/- THE CELL 'sum', in the pinned program and in every row, IS THE sha256 OF THE DUMP (.gsa) THAT YtbfaapbbhgegiabDoorProg.lean LOADS. Nothing in Lean hashes anything: it is a label: what it is worth is what the hold of that sum in a sandbox is worth. -/
noncomputable def Tryd.pinned : Pinned := { name := "ytbfaapbbhgegiabdoor", sum := "b486a4d86e4e9a71a35571f734208511db4e00ef1f8c2724f16a9fd864715266", checked := Tryd.checked }
namespace Rows
def none {H : Type} : Left H := { results := [], args := [] }

/- WHAT THE LISTED PACKAGE-LEVEL VARIABLES READ AS WHEN THE CALL BEGINS. Each datum BY PROGRAM (the guide's laid-datum.mjs) off the statement by which the dump's own 'gosem.cut.vars' lays the variable. In a bare row this is a premise. The card (YtbfaapbbhgegiabDoorCards.lean) ties it to the program's text. -/
def laid_platen_quote_escapes {H : Type} : DataW H := .agg [.lit (.int .i32 97), .lit (.int .i32 98), .lit (.int .i32 116), .lit (.int .i32 110), .lit (.int .i32 118), .lit (.int .i32 102), .lit (.int .i32 114)]

/-- 'platenlaw11.HooksThrows': WHATEVER THE INPUT: true; the input reads as it did. -/
def hooksThrowsSpec : ChangeSpec := { name := "hooksThrows", fn := fun _ => fun
  | [d1, d2, d3] => { results := [.lit (.bool true)], args := [d1, d2, d3] }
  | _ => none }
def hooksThrowsRow : OpenClaim := { program := "ytbfaapbbhgegiabdoor", sum := "b486a4d86e4e9a71a35571f734208511db4e00ef1f8c2724f16a9fd864715266", func := "platen/platenlaw11.HooksThrows", spec := "hooksThrows", inPlace := ["internal/abi.NoEscape", "internal/bytealg.MakeNoZero"], unfollowed := true, recurses := true, named := ["platen/quote.escapes"], apart := false, laid := [("platen/quote.escapes", laid_platen_quote_escapes)] }
def HooksThrowsSaid : Prop := hooksThrowsRow.holds Tryd.pinned (OpenSpec.ofChange hooksThrowsSpec)

/-- ITS FALSE NEIGHBOUR: 'it returns false'. Refute it at one input. -/
def hooksThrowsWrong : ChangeSpec := { name := "hooksThrows", fn := fun _ => fun
  | [d1, d2, d3] => { results := [.lit (.bool false)], args := [d1, d2, d3] }
  | _ => none }
def HooksThrowsWrongFalsely : Prop := hooksThrowsRow.holds Tryd.pinned (OpenSpec.ofChange hooksThrowsWrong)

/-- 'platenlaw11.HooksLacks': WHATEVER THE INPUT: true; the input reads as it did. -/
def hooksLacksSpec : ChangeSpec := { name := "hooksLacks", fn := fun _ => fun
  | [d1, d2, d3] => { results := [.lit (.bool true)], args := [d1, d2, d3] }
  | _ => none }
def hooksLacksRow : OpenClaim := { program := "ytbfaapbbhgegiabdoor", sum := "b486a4d86e4e9a71a35571f734208511db4e00ef1f8c2724f16a9fd864715266", func := "platen/platenlaw11.HooksLacks", spec := "hooksLacks", inPlace := ["internal/abi.NoEscape", "internal/bytealg.MakeNoZero"], unfollowed := true, recurses := true, named := ["platen/quote.escapes"], apart := false, laid := [("platen/quote.escapes", laid_platen_quote_escapes)] }
def HooksLacksSaid : Prop := hooksLacksRow.holds Tryd.pinned (OpenSpec.ofChange hooksLacksSpec)

/-- ITS FALSE NEIGHBOUR: 'it returns false'. Refute it at one input. -/
def hooksLacksWrong : ChangeSpec := { name := "hooksLacks", fn := fun _ => fun
  | [d1, d2, d3] => { results := [.lit (.bool false)], args := [d1, d2, d3] }
  | _ => none }
def HooksLacksWrongFalsely : Prop := hooksLacksRow.holds Tryd.pinned (OpenSpec.ofChange hooksLacksWrong)

/- THE SECOND FORM. 'bulk': how many values and letters a reading holds, each counted each time it is reached (what is shared counts as often as it is met; a slice's spare places count too). A statement '..UptoSaid' is the law's where the arguments, and the package variables that the reading takes, are together of bulk at most 1048576: NARROWER than '..Said'. Prove '..Said' where nothing that the law and all that it calls make is longer than what came in: it says more and counts as full. Else prove '..UptoSaid'. A law counts once. -/
mutual
def uptoBulk {H : Type} : DataW H → Nat
  | .lit (.string bytes) => bytes.length + 1
  | .lit _ => 1
  | .nil => 1
  | .ptr d => uptoBulk d + 1
  | .slice elems spare => uptoBulkAll elems + uptoBulkAll spare + 1
  | .agg parts => uptoBulkAll parts + 1
  | .iface _ d => uptoBulk d + 1
  | .map entries => uptoBulkEntries entries + 1
  | .held _ => 1
def uptoBulkAll {H : Type} : List (DataW H) → Nat
  | [] => 0
  | d :: r => uptoBulk d + uptoBulkAll r
def uptoBulkEntries {H : Type} : List (Lit × DataW H) → Nat
  | [] => 0
  | x :: r => uptoBulkEntry x + uptoBulkEntries r
def uptoBulkEntry {H : Type} : Lit × DataW H → Nat
  | (.string bytes, d) => bytes.length + uptoBulk d + 1
  | (_, d) => uptoBulk d + 1
 end
def uptoSmall : (H : Type) → List (DataW H) → Bool := fun _ ds => decide (uptoBulkAll ds ≤ 1048576)
def OpenSpec.upto (s : _root_.Go.ChangeSpec) : _root_.Go.OpenSpec := { _root_.Go.OpenSpec.ofChange s with cond := some uptoSmall }

/-- 'platenlaw11.HooksThrows', WHERE WHAT IT READS IS OF BULK AT MOST 1048576: true; the input reads as it did. -/
def hooksThrowsUptoRow : OpenClaim := { program := "ytbfaapbbhgegiabdoor", sum := "b486a4d86e4e9a71a35571f734208511db4e00ef1f8c2724f16a9fd864715266", func := "platen/platenlaw11.HooksThrows", spec := "hooksThrows", inPlace := ["internal/abi.NoEscape", "internal/bytealg.MakeNoZero"], unfollowed := true, recurses := true, named := ["platen/quote.escapes"], apart := false, laid := [("platen/quote.escapes", laid_platen_quote_escapes)], narrowed := true }
def HooksThrowsUptoSaid : Prop := hooksThrowsUptoRow.holds Tryd.pinned (OpenSpec.upto hooksThrowsSpec)

/-- 'platenlaw11.HooksLacks', WHERE WHAT IT READS IS OF BULK AT MOST 1048576: true; the input reads as it did. -/
def hooksLacksUptoRow : OpenClaim := { program := "ytbfaapbbhgegiabdoor", sum := "b486a4d86e4e9a71a35571f734208511db4e00ef1f8c2724f16a9fd864715266", func := "platen/platenlaw11.HooksLacks", spec := "hooksLacks", inPlace := ["internal/abi.NoEscape", "internal/bytealg.MakeNoZero"], unfollowed := true, recurses := true, named := ["platen/quote.escapes"], apart := false, laid := [("platen/quote.escapes", laid_platen_quote_escapes)], narrowed := true }
def HooksLacksUptoSaid : Prop := hooksLacksUptoRow.holds Tryd.pinned (OpenSpec.upto hooksLacksSpec)

end Rows
end Go.Proofs.YtbfaapbbhgegiabDoor
