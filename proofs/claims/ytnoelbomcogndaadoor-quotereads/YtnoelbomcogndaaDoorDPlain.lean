/- The walk of the document's Plain. -/
import Derived.Test.YtnoelbomcogndaaDoorInq2
namespace Go.Proofs.YtnoelbomcogndaaDoor
open Go.RowKit
set_option linter.unusedVariables false

set_option maxRecDepth 1000000 in
set_option maxHeartbeats 400000 in
theorem dplain_any (c : Int) (w : World) :
    Calls Tryd.prog 61 #[.int .i32 c] w fun e w' => e = .returned (.bool (plainP c)) ∧ w' = w := by
  by_cases h1 : 32 ≤ c <;> by_cases h2 : c ≤ 126 <;> by_cases h3 : 161 ≤ c <;> by_cases h4 : c ≤ 55295 <;> by_cases h5 : c = 173 <;> by_cases h6 : 57344 ≤ c <;> by_cases h7 : c ≤ 65532 <;> by_cases h8 : 65536 ≤ c <;> by_cases h9 : c ≤ 1114111
  all_goals first | (exfalso; omega) | skip
  all_goals first | (have hp : plainP c = true := (by rw [plainP_iff]; omega)) | (have hp : plainP c = false := (by rw [plainP_not]; omega))
  all_goals
    rw [hp]
    go_enter Tryd.func61, Tryd.ntmps61
    go_wp2
    go_ret
    exact ⟨rfl, rfl⟩

end Go.Proofs.YtnoelbomcogndaaDoor
