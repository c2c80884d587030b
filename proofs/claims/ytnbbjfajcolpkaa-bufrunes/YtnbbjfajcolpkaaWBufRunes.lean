/- The walk of the law BufRunes. -/
import Derived.Test.YtnbbjfajcolpkaaLives
import Derived.Test.YtnbbjfajcolpkaaRRune
namespace Go.Proofs.Ytnbbjfajcolpkaa
open Go.RowKit
set_option maxRecDepth 1000000 in
set_option maxHeartbeats 400000 in
theorem bufRunes_walk (c : Int) (_ : (Lit.int .i32 c).wf = true) (w : World) :
    Calls Try.prog 3 #[.int .i32 c] w fun e w' => e = .returned (.bool true) ∧ Below w.heap.size w w' := by
  go_enter Try.func3, Try.ntmps3
  go_wp2_with (first | (go_at_call 9; refine (rune_any _ _).mono ?_; rintro e w1 ⟨rfl, rfl⟩) | (go_at_call 10; refine (rrune_any _ _).mono ?_; rintro e w2 ⟨rfl, hb2⟩) | (go_at_call 11; refine (lives_any _).mono ?_; rintro e w3 ⟨rfl, hb3⟩))
  go_ret
  exact ⟨rfl, hb2.trans (hb3.mono hb2.size)⟩
end Go.Proofs.Ytnbbjfajcolpkaa
