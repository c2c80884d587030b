/- The walk of the laws' own cut: at most 1000 bytes. -/
import Derived.Test.YtaeknfnclolojabDoorPlain4
import Derived.Test.YtaeknfnclolojabDoorRows
import Derived.WalkKit
import Derived.WalkSpells
import Derived.WalkLawsBesides
namespace Go.Proofs.YtaeknfnclolojabDoor
open Go.RowKit
set_option linter.unusedVariables false

set_option maxRecDepth 1000000 in
set_option maxHeartbeats 400000 in
theorem lawCut_any (s : ByteArray) : ∃ u : ByteArray, u.size ≤ 1000 ∧ ∀ w, Calls Tryd.prog 8 #[.string s] w fun e w' => e = .returned (.string u) ∧ w' = w := by
  by_cases h : (1000 : Int) < s.size
  · refine ⟨s.extract 0 1000, by rw [ByteArray.size_extract]; omega, ?_⟩
    intro w
    go_enter Tryd.func8, Tryd.ntmps8
    go_wp2
    go_ret
    exact ⟨rfl, rfl⟩
  · refine ⟨s, by omega, ?_⟩
    intro w
    go_enter Tryd.func8, Tryd.ntmps8
    go_wp2
    go_ret
    exact ⟨rfl, rfl⟩
end Go.Proofs.YtaeknfnclolojabDoor
