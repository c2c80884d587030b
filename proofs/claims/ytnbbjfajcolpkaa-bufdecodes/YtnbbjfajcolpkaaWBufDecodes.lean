/- The walk of the law BufDecodes. -/
import Derived.Test.YtnbbjfajcolpkaaLives
import Derived.Test.YtnbbjfajcolpkaaRDecode
namespace Go.Proofs.Ytnbbjfajcolpkaa
open Go.RowKit
set_option maxRecDepth 1000000 in
set_option maxHeartbeats 400000 in
theorem bufDecodes_walk (s : ByteArray) (hs : s.size ≤ maxLen) (w : World) :
    Calls Try.prog 4 #[.string s] w fun e w' => e = .returned (.bool true) ∧ Below w.heap.size w w' := by
  go_enter Try.func4, Try.ntmps4
  go_wp2_with (first | (go_at_call 12; refine (decode_any _ _).mono ?_; rintro e w1 ⟨rfl, hb1⟩) | (go_at_call 13; refine (rdecode_any _ _ hs).mono ?_; rintro e w2 ⟨v, rfl, hb2⟩) | (go_at_call 11; refine (lives_any _).mono ?_; rintro e w3 ⟨rfl, hb3⟩))
  go_ret
  exact ⟨rfl, hb1.trans ((hb2.trans (hb3.mono hb2.size)).mono hb1.size)⟩
end Go.Proofs.Ytnbbjfajcolpkaa
