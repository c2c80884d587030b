/- The walk of the law ValuesNames. -/
import Derived.Test.YtcabfeehfimooaaDoorVLives
namespace Go.Proofs.YtcabfeehfimooaaDoor
open Go.RowKit
set_option linter.unusedVariables false
set_option maxRecDepth 1000000 in
set_option maxHeartbeats 4000000 in
theorem valuesNames_walk (s : ByteArray) (hs : s.size ≤ maxLen) (w : World) (hk : KN w) : Calls Tryd.prog 3 #[.string s] w fun e w' => e = .returned (.bool true) ∧ Below w.heap.size w w' := by
  have hz : s.size ≤ 9223372036854775807 := by unfold maxLen at hs; omega
  have h1 := named_any s w hz
  have h2 := onamed_any s w hz
  have h3 := typed_any s w hz
  have h4 := otyped_any s w hz
  have h5 := lives8_any w hk
  clear hs hz hk
  generalize namedB s = a at h1 h2
  generalize typedB s = b at h3 h4
  go_enter Tryd.func3, Tryd.ntmps3
  go_wp2_with (first | (go_at_call 9; refine h1.mono ?_; rintro e w1 ⟨rfl, hw⟩; subst hw) | (go_at_call 10; refine h2.mono ?_; rintro e w1 ⟨rfl, hw⟩; subst hw) | (go_at_call 11; refine h3.mono ?_; rintro e w1 ⟨rfl, hw⟩; subst hw) | (go_at_call 12; refine h4.mono ?_; rintro e w1 ⟨rfl, hw⟩; subst hw) | (go_at_call 13; refine h5.mono ?_; rintro e w1 ⟨rfl, hb⟩))
  go_ret
  exact ⟨rfl, hb⟩
end Go.Proofs.YtcabfeehfimooaaDoor
