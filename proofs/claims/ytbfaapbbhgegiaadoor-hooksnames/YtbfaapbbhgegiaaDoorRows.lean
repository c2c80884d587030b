/-
  NARROWER THAN 'FOR EVERY INPUT', by the rows' own cells (each row's printed sentence says how): HooksWhich: loops, laid · HooksNames: loops, laid · HooksDoes: loops, laid · HooksSays: loops, laid · HooksFirst: loops, laid · HooksOthers: loops, laid.
  DERIVED. THE GIVEN ROWS OF THIS SEAT. 6 by the template 'for every input the law returns true; each argument reads behind the call as it read before'; 0 by the template 'total and deterministic' (their statements: YtbfaapbbhgegiaaDoorTotals.lean).
  GIVEN WITH THE SEED: the statements are not yours to turn. If you find one false, say at which input.
  Laid BY PROGRAM, IN A SANDBOX (cutbox-rows.mjs): the forced cells as the released guide's own fill.sh prints them over the translation 6679415b3a003ec0… (all of the seat's roots in one cut). By AI agents, Wed Nov 11 2026. No macro, syntax, notation, axiom, sorry.
-/
import Derived.Test.YtbfaapbbhgegiaaDoorChecked
import GoSem.Claim
import GoSem.ClaimJoined
import GoSem.ClaimMapViews
import Derived.JoinedTies
import Derived.KernelRfl
namespace Go.Proofs.YtbfaapbbhgegiaaDoor
/- THE CELL 'sum', in the pinned program and in every row, IS THE sha256 OF THE DUMP (.gsa) THAT YtbfaapbbhgegiaaDoorProg.lean LOADS. Nothing in Lean hashes anything: it is a label: what it is worth is what the hold of that sum in a sandbox is worth. -/
noncomputable def Tryd.pinned : Pinned := { name := "ytbfaapbbhgegiaadoor", sum := "6679415b3a003ec0418edb4acfd22667557b5a7d7fd8c478d294620ef7ac787a", checked := Tryd.checked }
namespace Rows
def none {H : Type} : Left H := { results := [], args := [] }

/- WHAT THE LISTED PACKAGE-LEVEL VARIABLES READ AS WHEN THE CALL BEGINS. Each datum BY PROGRAM (the guide's laid-datum.mjs) off the statement by which the dump's own 'gosem.cut.vars' lays the variable. In a bare row this is a premise. The card (YtbfaapbbhgegiaaDoorCards.lean) ties it to the program's text. -/
def laid_platen_quote_escapes {H : Type} : DataW H := .agg [.lit (.int .i32 97), .lit (.int .i32 98), .lit (.int .i32 116), .lit (.int .i32 110), .lit (.int .i32 118), .lit (.int .i32 102), .lit (.int .i32 114)]

/-- 'platenlaw11.HooksWhich': WHATEVER THE INPUT: true; the input reads as it did. -/
def hooksWhichSpec : ChangeSpec := { name := "hooksWhich", fn := fun _ => fun
  | [d1, d2, d3] => { results := [.lit (.bool true)], args := [d1, d2, d3] }
  | _ => none }
def hooksWhichRow : OpenClaim := { program := "ytbfaapbbhgegiaadoor", sum := "6679415b3a003ec0418edb4acfd22667557b5a7d7fd8c478d294620ef7ac787a", func := "platen/platenlaw11.HooksWhich", spec := "hooksWhich", inPlace := ["internal/abi.NoEscape", "internal/bytealg.MakeNoZero"], unfollowed := true, recurses := true, named := ["platen/quote.escapes"], loops := true, apart := false, laid := [("platen/quote.escapes", laid_platen_quote_escapes)] }
def HooksWhichSaid : Prop := hooksWhichRow.holds Tryd.pinned (OpenSpec.ofChange hooksWhichSpec)

/-- ITS FALSE NEIGHBOUR: 'it returns false'. Refute it at one input. -/
def hooksWhichWrong : ChangeSpec := { name := "hooksWhich", fn := fun _ => fun
  | [d1, d2, d3] => { results := [.lit (.bool false)], args := [d1, d2, d3] }
  | _ => none }
def HooksWhichWrongFalsely : Prop := hooksWhichRow.holds Tryd.pinned (OpenSpec.ofChange hooksWhichWrong)

/-- 'platenlaw11.HooksNames': WHATEVER THE INPUT: true; the input reads as it did. -/
def hooksNamesSpec : ChangeSpec := { name := "hooksNames", fn := fun _ => fun
  | [d1, d2] => { results := [.lit (.bool true)], args := [d1, d2] }
  | _ => none }
def hooksNamesRow : OpenClaim := { program := "ytbfaapbbhgegiaadoor", sum := "6679415b3a003ec0418edb4acfd22667557b5a7d7fd8c478d294620ef7ac787a", func := "platen/platenlaw11.HooksNames", spec := "hooksNames", inPlace := ["internal/abi.NoEscape", "internal/bytealg.MakeNoZero"], unfollowed := true, recurses := true, named := ["platen/quote.escapes"], loops := true, apart := false, laid := [("platen/quote.escapes", laid_platen_quote_escapes)] }
def HooksNamesSaid : Prop := hooksNamesRow.holds Tryd.pinned (OpenSpec.ofChange hooksNamesSpec)

/-- ITS FALSE NEIGHBOUR: 'it returns false'. Refute it at one input. -/
def hooksNamesWrong : ChangeSpec := { name := "hooksNames", fn := fun _ => fun
  | [d1, d2] => { results := [.lit (.bool false)], args := [d1, d2] }
  | _ => none }
def HooksNamesWrongFalsely : Prop := hooksNamesRow.holds Tryd.pinned (OpenSpec.ofChange hooksNamesWrong)

/-- 'platenlaw11.HooksDoes': WHATEVER THE INPUT: true; the input reads as it did. -/
def hooksDoesSpec : ChangeSpec := { name := "hooksDoes", fn := fun _ => fun
  | [d1, d2, d3] => { results := [.lit (.bool true)], args := [d1, d2, d3] }
  | _ => none }
def hooksDoesRow : OpenClaim := { program := "ytbfaapbbhgegiaadoor", sum := "6679415b3a003ec0418edb4acfd22667557b5a7d7fd8c478d294620ef7ac787a", func := "platen/platenlaw11.HooksDoes", spec := "hooksDoes", inPlace := ["internal/abi.NoEscape", "internal/bytealg.MakeNoZero"], unfollowed := true, recurses := true, named := ["platen/quote.escapes"], loops := true, apart := false, laid := [("platen/quote.escapes", laid_platen_quote_escapes)] }
def HooksDoesSaid : Prop := hooksDoesRow.holds Tryd.pinned (OpenSpec.ofChange hooksDoesSpec)

/-- ITS FALSE NEIGHBOUR: 'it returns false'. Refute it at one input. -/
def hooksDoesWrong : ChangeSpec := { name := "hooksDoes", fn := fun _ => fun
  | [d1, d2, d3] => { results := [.lit (.bool false)], args := [d1, d2, d3] }
  | _ => none }
def HooksDoesWrongFalsely : Prop := hooksDoesRow.holds Tryd.pinned (OpenSpec.ofChange hooksDoesWrong)

/-- 'platenlaw11.HooksSays': WHATEVER THE INPUT: true; the input reads as it did. -/
def hooksSaysSpec : ChangeSpec := { name := "hooksSays", fn := fun _ => fun
  | [d1, d2, d3] => { results := [.lit (.bool true)], args := [d1, d2, d3] }
  | _ => none }
def hooksSaysRow : OpenClaim := { program := "ytbfaapbbhgegiaadoor", sum := "6679415b3a003ec0418edb4acfd22667557b5a7d7fd8c478d294620ef7ac787a", func := "platen/platenlaw11.HooksSays", spec := "hooksSays", inPlace := ["internal/abi.NoEscape", "internal/bytealg.MakeNoZero"], unfollowed := true, recurses := true, named := ["platen/quote.escapes"], loops := true, apart := false, laid := [("platen/quote.escapes", laid_platen_quote_escapes)] }
def HooksSaysSaid : Prop := hooksSaysRow.holds Tryd.pinned (OpenSpec.ofChange hooksSaysSpec)

/-- ITS FALSE NEIGHBOUR: 'it returns false'. Refute it at one input. -/
def hooksSaysWrong : ChangeSpec := { name := "hooksSays", fn := fun _ => fun
  | [d1, d2, d3] => { results := [.lit (.bool false)], args := [d1, d2, d3] }
  | _ => none }
def HooksSaysWrongFalsely : Prop := hooksSaysRow.holds Tryd.pinned (OpenSpec.ofChange hooksSaysWrong)

/-- 'platenlaw11.HooksFirst': WHATEVER THE INPUT: true; the input reads as it did. -/
def hooksFirstSpec : ChangeSpec := { name := "hooksFirst", fn := fun _ => fun
  | [d1, d2, d3] => { results := [.lit (.bool true)], args := [d1, d2, d3] }
  | _ => none }
def hooksFirstRow : OpenClaim := { program := "ytbfaapbbhgegiaadoor", sum := "6679415b3a003ec0418edb4acfd22667557b5a7d7fd8c478d294620ef7ac787a", func := "platen/platenlaw11.HooksFirst", spec := "hooksFirst", inPlace := ["internal/abi.NoEscape", "internal/bytealg.MakeNoZero"], unfollowed := true, recurses := true, named := ["platen/quote.escapes"], loops := true, apart := false, laid := [("platen/quote.escapes", laid_platen_quote_escapes)] }
def HooksFirstSaid : Prop := hooksFirstRow.holds Tryd.pinned (OpenSpec.ofChange hooksFirstSpec)

/-- ITS FALSE NEIGHBOUR: 'it returns false'. Refute it at one input. -/
def hooksFirstWrong : ChangeSpec := { name := "hooksFirst", fn := fun _ => fun
  | [d1, d2, d3] => { results := [.lit (.bool false)], args := [d1, d2, d3] }
  | _ => none }
def HooksFirstWrongFalsely : Prop := hooksFirstRow.holds Tryd.pinned (OpenSpec.ofChange hooksFirstWrong)

/-- 'platenlaw11.HooksOthers': WHATEVER THE INPUT: true; the input reads as it did. -/
def hooksOthersSpec : ChangeSpec := { name := "hooksOthers", fn := fun _ => fun
  | [d1, d2] => { results := [.lit (.bool true)], args := [d1, d2] }
  | _ => none }
def hooksOthersRow : OpenClaim := { program := "ytbfaapbbhgegiaadoor", sum := "6679415b3a003ec0418edb4acfd22667557b5a7d7fd8c478d294620ef7ac787a", func := "platen/platenlaw11.HooksOthers", spec := "hooksOthers", inPlace := ["internal/abi.NoEscape", "internal/bytealg.MakeNoZero"], unfollowed := true, recurses := true, named := ["platen/quote.escapes"], loops := true, apart := false, laid := [("platen/quote.escapes", laid_platen_quote_escapes)] }
def HooksOthersSaid : Prop := hooksOthersRow.holds Tryd.pinned (OpenSpec.ofChange hooksOthersSpec)

/-- ITS FALSE NEIGHBOUR: 'it returns false'. Refute it at one input. -/
def hooksOthersWrong : ChangeSpec := { name := "hooksOthers", fn := fun _ => fun
  | [d1, d2] => { results := [.lit (.bool false)], args := [d1, d2] }
  | _ => none }
def HooksOthersWrongFalsely : Prop := hooksOthersRow.holds Tryd.pinned (OpenSpec.ofChange hooksOthersWrong)

/- THE SECOND FORM. 'bulk': how many values and letters a reading holds, each counted each time it is reached (what is shared counts as often as it is met; a slice's spare places count too). A statement '..UptoSaid' is the law's where the arguments, and the package variables that the reading takes, are together of bulk at most 1048576: NARROWER than '..Said'. Prove '..Said' where nothing that the law and all that it calls make is longer than what came in: it says more and counts as full. Else prove '..UptoSaid'. A law counts once. -/
mutual
def uptoBulk {H : Type} : DataW H → Nat
  | .lit (.string bytes) => bytes.length + 1
  | .lit _ => 1
  | .nil => 1
  | .ptr d => uptoBulk d + 1
  | .slice elems spare => uptoBulkAll elems + uptoBulkAll spare + 1
  | .agg parts => uptoBulkAll parts + 1
  | .iface _ d => uptoBulk d + 1
  | .map entries => uptoBulkEntries entries + 1
  | .held _ => 1
def uptoBulkAll {H : Type} : List (DataW H) → Nat
  | [] => 0
  | d :: r => uptoBulk d + uptoBulkAll r
def uptoBulkEntries {H : Type} : List (Lit × DataW H) → Nat
  | [] => 0
  | x :: r => uptoBulkEntry x + uptoBulkEntries r
def uptoBulkEntry {H : Type} : Lit × DataW H → Nat
  | (.string bytes, d) => bytes.length + uptoBulk d + 1
  | (_, d) => uptoBulk d + 1
 end
def uptoSmall : (H : Type) → List (DataW H) → Bool := fun _ ds => decide (uptoBulkAll ds ≤ 1048576)
def OpenSpec.upto (s : _root_.Go.ChangeSpec) : _root_.Go.OpenSpec := { _root_.Go.OpenSpec.ofChange s with cond := some uptoSmall }

/-- 'platenlaw11.HooksWhich', WHERE WHAT IT READS IS OF BULK AT MOST 1048576: true; the input reads as it did. -/
def hooksWhichUptoRow : OpenClaim := { program := "ytbfaapbbhgegiaadoor", sum := "6679415b3a003ec0418edb4acfd22667557b5a7d7fd8c478d294620ef7ac787a", func := "platen/platenlaw11.HooksWhich", spec := "hooksWhich", inPlace := ["internal/abi.NoEscape", "internal/bytealg.MakeNoZero"], unfollowed := true, recurses := true, named := ["platen/quote.escapes"], loops := true, apart := false, laid := [("platen/quote.escapes", laid_platen_quote_escapes)], narrowed := true }
def HooksWhichUptoSaid : Prop := hooksWhichUptoRow.holds Tryd.pinned (OpenSpec.upto hooksWhichSpec)

/-- 'platenlaw11.HooksNames', WHERE WHAT IT READS IS OF BULK AT MOST 1048576: true; the input reads as it did. -/
def hooksNamesUptoRow : OpenClaim := { program := "ytbfaapbbhgegiaadoor", sum := "6679415b3a003ec0418edb4acfd22667557b5a7d7fd8c478d294620ef7ac787a", func := "platen/platenlaw11.HooksNames", spec := "hooksNames", inPlace := ["internal/abi.NoEscape", "internal/bytealg.MakeNoZero"], unfollowed := true, recurses := true, named := ["platen/quote.escapes"], loops := true, apart := false, laid := [("platen/quote.escapes", laid_platen_quote_escapes)], narrowed := true }
def HooksNamesUptoSaid : Prop := hooksNamesUptoRow.holds Tryd.pinned (OpenSpec.upto hooksNamesSpec)

/-- 'platenlaw11.HooksDoes', WHERE WHAT IT READS IS OF BULK AT MOST 1048576: true; the input reads as it did. -/
def hooksDoesUptoRow : OpenClaim := { program := "ytbfaapbbhgegiaadoor", sum := "6679415b3a003ec0418edb4acfd22667557b5a7d7fd8c478d294620ef7ac787a", func := "platen/platenlaw11.HooksDoes", spec := "hooksDoes", inPlace := ["internal/abi.NoEscape", "internal/bytealg.MakeNoZero"], unfollowed := true, recurses := true, named := ["platen/quote.escapes"], loops := true, apart := false, laid := [("platen/quote.escapes", laid_platen_quote_escapes)], narrowed := true }
def HooksDoesUptoSaid : Prop := hooksDoesUptoRow.holds Tryd.pinned (OpenSpec.upto hooksDoesSpec)

/-- 'platenlaw11.HooksSays', WHERE WHAT IT READS IS OF BULK AT MOST 1048576: true; the input reads as it did. -/
def hooksSaysUptoRow : OpenClaim := { program := "ytbfaapbbhgegiaadoor", sum := "6679415b3a003ec0418edb4acfd22667557b5a7d7fd8c478d294620ef7ac787a", func := "platen/platenlaw11.HooksSays", spec := "hooksSays", inPlace := ["internal/abi.NoEscape", "internal/bytealg.MakeNoZero"], unfollowed := true, recurses := true, named := ["platen/quote.escapes"], loops := true, apart := false, laid := [("platen/quote.escapes", laid_platen_quote_escapes)], narrowed := true }
def HooksSaysUptoSaid : Prop := hooksSaysUptoRow.holds Tryd.pinned (OpenSpec.upto hooksSaysSpec)

/-- 'platenlaw11.HooksFirst', WHERE WHAT IT READS IS OF BULK AT MOST 1048576: true; the input reads as it did. -/
def hooksFirstUptoRow : OpenClaim := { program := "ytbfaapbbhgegiaadoor", sum := "6679415b3a003ec0418edb4acfd22667557b5a7d7fd8c478d294620ef7ac787a", func := "platen/platenlaw11.HooksFirst", spec := "hooksFirst", inPlace := ["internal/abi.NoEscape", "internal/bytealg.MakeNoZero"], unfollowed := true, recurses := true, named := ["platen/quote.escapes"], loops := true, apart := false, laid := [("platen/quote.escapes", laid_platen_quote_escapes)], narrowed := true }
def HooksFirstUptoSaid : Prop := hooksFirstUptoRow.holds Tryd.pinned (OpenSpec.upto hooksFirstSpec)

/-- 'platenlaw11.HooksOthers', WHERE WHAT IT READS IS OF BULK AT MOST 1048576: true; the input reads as it did. -/
def hooksOthersUptoRow : OpenClaim := { program := "ytbfaapbbhgegiaadoor", sum := "6679415b3a003ec0418edb4acfd22667557b5a7d7fd8c478d294620ef7ac787a", func := "platen/platenlaw11.HooksOthers", spec := "hooksOthers", inPlace := ["internal/abi.NoEscape", "internal/bytealg.MakeNoZero"], unfollowed := true, recurses := true, named := ["platen/quote.escapes"], loops := true, apart := false, laid := [("platen/quote.escapes", laid_platen_quote_escapes)], narrowed := true }
def HooksOthersUptoSaid : Prop := hooksOthersUptoRow.holds Tryd.pinned (OpenSpec.upto hooksOthersSpec)

end Rows
end Go.Proofs.YtbfaapbbhgegiaaDoor
