/- (Layer 6: three listed variables of Go's library, two of them pinned; the walks read none.) A start in which they lie. -/
import Derived.Test.YthbabhbfpcfenaaGreatDoorRows
import Derived.WalkKit
import Derived.ProofKit
import Derived.LaidMore
import Derived.Lay
import Derived.OpenShut
import Derived.Stop.Joined
namespace Go.Proofs.YthbabhbfpcfenaaGreatDoor
open Go.ChangeShapes Go.WideShapes Go.ChangeAt Go.RowKit

theorem laid.own : ownKnob Tryz.prog.godebug = none := by kernel_rfl
/-- A start in which the listed variables lie meets the condition. -/
theorem laid.door_met (os : Os) (args : Array Value) : laidMetH Tryz.prog Rows.cplxPlusUptoRow.laid ((World.laidAll Tryz.prog os Rows.cplxPlusUptoRow.laid).forCall (fun _ _ => 0) ⟨#[], args, []⟩).memory := by
  rw [MakeChecks.laidMetH_plain _ _ _ (by kernel_rfl)]
  exact laidMet_laidAll _ (by kernel_rfl) (by kernel_rfl)
end Go.Proofs.YthbabhbfpcfenaaGreatDoor
