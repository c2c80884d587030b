/- The walk of the document's Plain and of the law QuotePlains. -/
import Derived.Test.YtaeknfnclolojaaDoorLives2
import Derived.Test.YtaeknfnclolojaaDoorDPlain
namespace Go.Proofs.YtaeknfnclolojaaDoor
open Go.RowKit
set_option linter.unusedVariables false

set_option maxRecDepth 1000000 in
set_option maxHeartbeats 400000 in
theorem quotePlains_walk (c : Int) (_ : (Lit.int .i32 c).wf = true) (w : World) (hE : Esc w) :
    Calls Tryd.prog 3 #[.int .i32 c] w fun e w' => e = .returned (.bool true) ∧ Below w.heap.size w w' := by
  have h1 := plain_any c
  have h2 := dplain_any c
  generalize plainP c = b at *
  have hL := fun w hE => lives2_any w hE
  cases b
  all_goals
    go_enter Tryd.func3, Tryd.ntmps3
    go_wp2_with (first | (go_at_call 9; refine (h1 _).mono ?_; rintro e w1 ⟨rfl, rfl⟩) | (go_at_call 10; refine (h2 _).mono ?_; rintro e w1 ⟨rfl, rfl⟩) | (go_at_call 11; refine (hL _ hE).mono ?_; rintro e w1 ⟨rfl, hb1⟩))
    go_ret
    exact ⟨rfl, hb1⟩
end Go.Proofs.YtaeknfnclolojaaDoor
