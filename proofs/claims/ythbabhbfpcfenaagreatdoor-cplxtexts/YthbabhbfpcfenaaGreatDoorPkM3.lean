/- DIn, DChr: these texts in one. -/
import Derived.Test.YthbabhbfpcfenaaGreatDoorPkM1
import Derived.Test.YthbabhbfpcfenaaGreatDoorPkM2
import Derived.Deep.RegionWith
import Derived.Deep.QuietTactic
import Derived.BigQuiet
import Derived.Deep.DeepCutAuto
import Derived.Deep.CutBlock
/- The walk of the document's In: a rune in quotes. -/
namespace Go.Proofs.YthbabhbfpcfenaaGreatDoor
open Go.RowKit
set_option linter.unusedVariables false

theorem conv2d (w : World) (x y : Int) :
    (convert 74 9 (.slice (some ⟨w.heap.size, 0, none⟩) 2 2)).run Tryz.prog (w.alloc (.cells #[.int .u8 x, .int .u8 y] 5)).drew = .ok (.string (strOfNums [x, y])) (w.alloc (.cells #[.int .u8 x, .int .u8 y] 5)).drew := conv2 w.drew x y
theorem two_nums (c : Nat) (h : c < 256) : strOfNums [92, (c : Int)] = ⟨[92, UInt8.ofNat c].toArray⟩ := by simp [strOfNums]

end Go.Proofs.YthbabhbfpcfenaaGreatDoor

/- The walk of the document's Char. -/
namespace Go.Proofs.YthbabhbfpcfenaaGreatDoor
open Go.RowKit
set_option linter.unusedVariables false

end Go.Proofs.YthbabhbfpcfenaaGreatDoor
