/- The walk of the laws' own cut: at most 1000 bytes. -/
import Derived.Test.YtnoelbomcogndaaDoorPlain4
import Derived.Test.YtnoelbomcogndaaDoorRows
import Derived.WalkKit
import Derived.WalkSpells
import Derived.WalkLawsBesides
namespace Go.Proofs.YtnoelbomcogndaaDoor
open Go.RowKit
set_option linter.unusedVariables false

set_option maxRecDepth 1000000 in
set_option maxHeartbeats 400000 in
theorem lawCut_any (s : ByteArray) : ∃ u : ByteArray, u.size ≤ 1000 ∧ ∀ w, Calls Tryd.prog 9 #[.string s] w fun e w' => e = .returned (.string u) ∧ w' = w := by
  by_cases h : (1000 : Int) < s.size
  · refine ⟨s.extract 0 1000, by rw [ByteArray.size_extract]; omega, ?_⟩
    intro w
    go_enter Tryd.func9, Tryd.ntmps9
    go_wp2
    go_ret
    exact ⟨rfl, rfl⟩
  · refine ⟨s, by omega, ?_⟩
    intro w
    go_enter Tryd.func9, Tryd.ntmps9
    go_wp2
    go_ret
    exact ⟨rfl, rfl⟩
end Go.Proofs.YtnoelbomcogndaaDoor
