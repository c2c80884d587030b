/-
  No cell of these rows narrows 'for every input' (looked for: loops, veiled, ifaces, maps, wideKeys, modest, calm, conditions, laid).
  DERIVED. THE GIVEN ROWS OF THIS SEAT. 6 by the template 'for every input the law returns true; each argument reads behind the call as it read before'; 0 by the template 'total and deterministic' (their statements: YtilgemppbiibkabTotals.lean).
  GIVEN WITH THE SEED: the statements are not yours to turn. If you find one false, say at which input.
  Laid BY PROGRAM, IN A SANDBOX (cutbox-rows.mjs): the forced cells as the released guide's own fill.sh prints them over the translation 2c77c09cff8bdb00… (all of the seat's roots in one cut). By AI agents, Wed Nov 11 2026. No macro, syntax, notation, axiom, sorry.
-/
import Derived.Test.YtilgemppbiibkabChecked
import GoSem.Claim
import GoSem.ClaimJoined
import GoSem.ClaimMapViews
import Derived.JoinedTies
import Derived.KernelRfl
namespace Go.Proofs.Ytilgemppbiibkab
/- THE CELL 'sum', in the pinned program and in every row, IS THE sha256 OF THE DUMP (.gsa) THAT YtilgemppbiibkabProg.lean LOADS. Nothing in Lean hashes anything: it is a label: what it is worth is what the hold of that sum in a sandbox is worth. -/
noncomputable def Try.pinned : Pinned := { name := "ytilgemppbiibkab", sum := "2c77c09cff8bdb00fb265987a5861a88677d62932e7600e2fd23f7984a0e45e3", checked := Try.checked }
namespace Rows
def none {H : Type} : Left H := { results := [], args := [] }

/-- 'platenlaw09.ParseVerbs': WHATEVER THE INPUT: true; the input reads as it did. -/
def parseVerbsSpec : ChangeSpec := { name := "parseVerbs", fn := fun _ => fun
  | [d1, d2] => { results := [.lit (.bool true)], args := [d1, d2] }
  | _ => none }
def parseVerbsRow : OpenClaim := { program := "ytilgemppbiibkab", sum := "2c77c09cff8bdb00fb265987a5861a88677d62932e7600e2fd23f7984a0e45e3", func := "platen/platenlaw09.ParseVerbs", spec := "parseVerbs", unfollowed := true, recurses := true, apart := false }
def ParseVerbsSaid : Prop := parseVerbsRow.holds Try.pinned (OpenSpec.ofChange parseVerbsSpec)

/-- ITS FALSE NEIGHBOUR: 'it returns false'. Refute it at one input. -/
def parseVerbsWrong : ChangeSpec := { name := "parseVerbs", fn := fun _ => fun
  | [d1, d2] => { results := [.lit (.bool false)], args := [d1, d2] }
  | _ => none }
def ParseVerbsWrongFalsely : Prop := parseVerbsRow.holds Try.pinned (OpenSpec.ofChange parseVerbsWrong)

/-- 'platenlaw10.BadVerbs': WHATEVER THE INPUT: true; the input reads as it did. -/
def badVerbsSpec : ChangeSpec := { name := "badVerbs", fn := fun _ => fun
  | [d1, d2, d3] => { results := [.lit (.bool true)], args := [d1, d2, d3] }
  | _ => none }
def badVerbsRow : OpenClaim := { program := "ytilgemppbiibkab", sum := "2c77c09cff8bdb00fb265987a5861a88677d62932e7600e2fd23f7984a0e45e3", func := "platen/platenlaw10.BadVerbs", spec := "badVerbs", inPlace := ["internal/abi.NoEscape", "internal/bytealg.MakeNoZero", "internal/bytealg.IndexByteString", "internal/bytealg.IndexString"], named := ["internal/bytealg.MaxLen"], apart := false }
def BadVerbsSaid : Prop := badVerbsRow.holds Try.pinned (OpenSpec.ofChange badVerbsSpec)

/-- ITS FALSE NEIGHBOUR: 'it returns false'. Refute it at one input. -/
def badVerbsWrong : ChangeSpec := { name := "badVerbs", fn := fun _ => fun
  | [d1, d2, d3] => { results := [.lit (.bool false)], args := [d1, d2, d3] }
  | _ => none }
def BadVerbsWrongFalsely : Prop := badVerbsRow.holds Try.pinned (OpenSpec.ofChange badVerbsWrong)

/-- 'platenlaw10.BadExtras': WHATEVER THE INPUT: true; the input reads as it did. -/
def badExtrasSpec : ChangeSpec := { name := "badExtras", fn := fun _ => fun
  | [d1, d2] => { results := [.lit (.bool true)], args := [d1, d2] }
  | _ => none }
def badExtrasRow : OpenClaim := { program := "ytilgemppbiibkab", sum := "2c77c09cff8bdb00fb265987a5861a88677d62932e7600e2fd23f7984a0e45e3", func := "platen/platenlaw10.BadExtras", spec := "badExtras", inPlace := ["internal/abi.NoEscape", "internal/bytealg.MakeNoZero", "internal/bytealg.IndexByteString", "internal/bytealg.IndexString"], named := ["internal/bytealg.MaxLen"], apart := false }
def BadExtrasSaid : Prop := badExtrasRow.holds Try.pinned (OpenSpec.ofChange badExtrasSpec)

/-- ITS FALSE NEIGHBOUR: 'it returns false'. Refute it at one input. -/
def badExtrasWrong : ChangeSpec := { name := "badExtras", fn := fun _ => fun
  | [d1, d2] => { results := [.lit (.bool false)], args := [d1, d2] }
  | _ => none }
def BadExtrasWrongFalsely : Prop := badExtrasRow.holds Try.pinned (OpenSpec.ofChange badExtrasWrong)

/-- 'platenlaw10.BadFixed': WHATEVER THE INPUT: true; the input reads as it did. -/
def badFixedSpec : ChangeSpec := { name := "badFixed", fn := fun _ => fun
  | [d] => { results := [.lit (.bool true)], args := [d] }
  | _ => none }
def badFixedRow : OpenClaim := { program := "ytilgemppbiibkab", sum := "2c77c09cff8bdb00fb265987a5861a88677d62932e7600e2fd23f7984a0e45e3", func := "platen/platenlaw10.BadFixed", spec := "badFixed", inPlace := ["internal/abi.NoEscape", "internal/bytealg.MakeNoZero", "internal/bytealg.IndexByteString", "internal/bytealg.IndexString"], named := ["internal/bytealg.MaxLen"], apart := false }
def BadFixedSaid : Prop := badFixedRow.holds Try.pinned (OpenSpec.ofChange badFixedSpec)

/-- ITS FALSE NEIGHBOUR: 'it returns false'. Refute it at one input. -/
def badFixedWrong : ChangeSpec := { name := "badFixed", fn := fun _ => fun
  | [d] => { results := [.lit (.bool false)], args := [d] }
  | _ => none }
def BadFixedWrongFalsely : Prop := badFixedRow.holds Try.pinned (OpenSpec.ofChange badFixedWrong)

/-- 'platenlaw10.BadReads': WHATEVER THE INPUT: true; the input reads as it did. -/
def badReadsSpec : ChangeSpec := { name := "badReads", fn := fun _ => fun
  | [d] => { results := [.lit (.bool true)], args := [d] }
  | _ => none }
def badReadsRow : OpenClaim := { program := "ytilgemppbiibkab", sum := "2c77c09cff8bdb00fb265987a5861a88677d62932e7600e2fd23f7984a0e45e3", func := "platen/platenlaw10.BadReads", spec := "badReads", inPlace := ["internal/bytealg.IndexByteString", "internal/bytealg.IndexString", "internal/abi.NoEscape", "internal/bytealg.MakeNoZero"], named := ["internal/bytealg.MaxLen"], apart := false }
def BadReadsSaid : Prop := badReadsRow.holds Try.pinned (OpenSpec.ofChange badReadsSpec)

/-- ITS FALSE NEIGHBOUR: 'it returns false'. Refute it at one input. -/
def badReadsWrong : ChangeSpec := { name := "badReads", fn := fun _ => fun
  | [d] => { results := [.lit (.bool false)], args := [d] }
  | _ => none }
def BadReadsWrongFalsely : Prop := badReadsRow.holds Try.pinned (OpenSpec.ofChange badReadsWrong)

/-- 'platenlaw10.BadBack': WHATEVER THE INPUT: true; the input reads as it did. -/
def badBackSpec : ChangeSpec := { name := "badBack", fn := fun _ => fun
  | [d1, d2, d3] => { results := [.lit (.bool true)], args := [d1, d2, d3] }
  | _ => none }
def badBackRow : OpenClaim := { program := "ytilgemppbiibkab", sum := "2c77c09cff8bdb00fb265987a5861a88677d62932e7600e2fd23f7984a0e45e3", func := "platen/platenlaw10.BadBack", spec := "badBack", inPlace := ["internal/abi.NoEscape", "internal/bytealg.MakeNoZero", "internal/bytealg.IndexByteString", "internal/bytealg.IndexString"], named := ["internal/bytealg.MaxLen"], apart := false }
def BadBackSaid : Prop := badBackRow.holds Try.pinned (OpenSpec.ofChange badBackSpec)

/-- ITS FALSE NEIGHBOUR: 'it returns false'. Refute it at one input. -/
def badBackWrong : ChangeSpec := { name := "badBack", fn := fun _ => fun
  | [d1, d2, d3] => { results := [.lit (.bool false)], args := [d1, d2, d3] }
  | _ => none }
def BadBackWrongFalsely : Prop := badBackRow.holds Try.pinned (OpenSpec.ofChange badBackWrong)

/- THE SECOND FORM. 'bulk': how many values and letters a reading holds, each counted each time it is reached (what is shared counts as often as it is met; a slice's spare places count too). A statement '..UptoSaid' is the law's where the arguments, and the package variables that the reading takes, are together of bulk at most 1048576: NARROWER than '..Said'. Prove '..Said' where nothing that the law and all that it calls make is longer than what came in: it says more and counts as full. Else prove '..UptoSaid'. A law counts once. -/
mutual
def uptoBulk {H : Type} : DataW H → Nat
  | .lit (.string bytes) => bytes.length + 1
  | .lit _ => 1
  | .nil => 1
  | .ptr d => uptoBulk d + 1
  | .slice elems spare => uptoBulkAll elems + uptoBulkAll spare + 1
  | .agg parts => uptoBulkAll parts + 1
  | .iface _ d => uptoBulk d + 1
  | .map entries => uptoBulkEntries entries + 1
  | .held _ => 1
def uptoBulkAll {H : Type} : List (DataW H) → Nat
  | [] => 0
  | d :: r => uptoBulk d + uptoBulkAll r
def uptoBulkEntries {H : Type} : List (Lit × DataW H) → Nat
  | [] => 0
  | x :: r => uptoBulkEntry x + uptoBulkEntries r
def uptoBulkEntry {H : Type} : Lit × DataW H → Nat
  | (.string bytes, d) => bytes.length + uptoBulk d + 1
  | (_, d) => uptoBulk d + 1
 end
def uptoSmall : (H : Type) → List (DataW H) → Bool := fun _ ds => decide (uptoBulkAll ds ≤ 1048576)
def OpenSpec.upto (s : _root_.Go.ChangeSpec) : _root_.Go.OpenSpec := { _root_.Go.OpenSpec.ofChange s with cond := some uptoSmall }

/-- 'platenlaw09.ParseVerbs', WHERE WHAT IT READS IS OF BULK AT MOST 1048576: true; the input reads as it did. -/
def parseVerbsUptoRow : OpenClaim := { program := "ytilgemppbiibkab", sum := "2c77c09cff8bdb00fb265987a5861a88677d62932e7600e2fd23f7984a0e45e3", func := "platen/platenlaw09.ParseVerbs", spec := "parseVerbs", unfollowed := true, recurses := true, apart := false, narrowed := true }
def ParseVerbsUptoSaid : Prop := parseVerbsUptoRow.holds Try.pinned (OpenSpec.upto parseVerbsSpec)

/-- 'platenlaw10.BadVerbs', WHERE WHAT IT READS IS OF BULK AT MOST 1048576: true; the input reads as it did. -/
def badVerbsUptoRow : OpenClaim := { program := "ytilgemppbiibkab", sum := "2c77c09cff8bdb00fb265987a5861a88677d62932e7600e2fd23f7984a0e45e3", func := "platen/platenlaw10.BadVerbs", spec := "badVerbs", inPlace := ["internal/abi.NoEscape", "internal/bytealg.MakeNoZero", "internal/bytealg.IndexByteString", "internal/bytealg.IndexString"], named := ["internal/bytealg.MaxLen"], apart := false, narrowed := true }
def BadVerbsUptoSaid : Prop := badVerbsUptoRow.holds Try.pinned (OpenSpec.upto badVerbsSpec)

/-- 'platenlaw10.BadExtras', WHERE WHAT IT READS IS OF BULK AT MOST 1048576: true; the input reads as it did. -/
def badExtrasUptoRow : OpenClaim := { program := "ytilgemppbiibkab", sum := "2c77c09cff8bdb00fb265987a5861a88677d62932e7600e2fd23f7984a0e45e3", func := "platen/platenlaw10.BadExtras", spec := "badExtras", inPlace := ["internal/abi.NoEscape", "internal/bytealg.MakeNoZero", "internal/bytealg.IndexByteString", "internal/bytealg.IndexString"], named := ["internal/bytealg.MaxLen"], apart := false, narrowed := true }
def BadExtrasUptoSaid : Prop := badExtrasUptoRow.holds Try.pinned (OpenSpec.upto badExtrasSpec)

/-- 'platenlaw10.BadFixed', WHERE WHAT IT READS IS OF BULK AT MOST 1048576: true; the input reads as it did. -/
def badFixedUptoRow : OpenClaim := { program := "ytilgemppbiibkab", sum := "2c77c09cff8bdb00fb265987a5861a88677d62932e7600e2fd23f7984a0e45e3", func := "platen/platenlaw10.BadFixed", spec := "badFixed", inPlace := ["internal/abi.NoEscape", "internal/bytealg.MakeNoZero", "internal/bytealg.IndexByteString", "internal/bytealg.IndexString"], named := ["internal/bytealg.MaxLen"], apart := false, narrowed := true }
def BadFixedUptoSaid : Prop := badFixedUptoRow.holds Try.pinned (OpenSpec.upto badFixedSpec)

/-- 'platenlaw10.BadReads', WHERE WHAT IT READS IS OF BULK AT MOST 1048576: true; the input reads as it did. -/
def badReadsUptoRow : OpenClaim := { program := "ytilgemppbiibkab", sum := "2c77c09cff8bdb00fb265987a5861a88677d62932e7600e2fd23f7984a0e45e3", func := "platen/platenlaw10.BadReads", spec := "badReads", inPlace := ["internal/bytealg.IndexByteString", "internal/bytealg.IndexString", "internal/abi.NoEscape", "internal/bytealg.MakeNoZero"], named := ["internal/bytealg.MaxLen"], apart := false, narrowed := true }
def BadReadsUptoSaid : Prop := badReadsUptoRow.holds Try.pinned (OpenSpec.upto badReadsSpec)

/-- 'platenlaw10.BadBack', WHERE WHAT IT READS IS OF BULK AT MOST 1048576: true; the input reads as it did. -/
def badBackUptoRow : OpenClaim := { program := "ytilgemppbiibkab", sum := "2c77c09cff8bdb00fb265987a5861a88677d62932e7600e2fd23f7984a0e45e3", func := "platen/platenlaw10.BadBack", spec := "badBack", inPlace := ["internal/abi.NoEscape", "internal/bytealg.MakeNoZero", "internal/bytealg.IndexByteString", "internal/bytealg.IndexString"], named := ["internal/bytealg.MaxLen"], apart := false, narrowed := true }
def BadBackUptoSaid : Prop := badBackUptoRow.holds Try.pinned (OpenSpec.upto badBackSpec)

end Rows
end Go.Proofs.Ytilgemppbiibkab
