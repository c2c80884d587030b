/- The walk of the law BufFills. -/
import Derived.Test.YtnbbjfajcolpkaaLives
import Derived.Test.YtnbbjfajcolpkaaRFill
import Derived.OpenShut
namespace Go.Proofs.Ytnbbjfajcolpkaa
open Go.RowKit
set_option maxRecDepth 1000000 in
set_option maxHeartbeats 400000 in
theorem bufFills_nat (c : Nat) (n : Int) (w : World) :
    Calls Try.prog 6 #[.int .u8 c, .int .i64 n] w fun e w' => e = .returned (.bool true) ∧ Below w.heap.size w w' := by
  go_enter Try.func6, Try.ntmps6
  go_wp2_with (first | (go_at_call 18; refine (fill_any _ _ _).mono ?_; rintro e w1 ⟨rfl, hb1⟩) | (go_at_call 19; refine (rfill_any _ _ _).mono ?_; rintro e w2 ⟨rfl, hb2⟩) | (go_at_call 11; refine (lives_any _).mono ?_; rintro e w3 ⟨rfl, hb3⟩))
  go_ret
  exact ⟨rfl, hb1.trans ((hb2.trans (hb3.mono hb2.size)).mono hb1.size)⟩
theorem bufFills_walk (c : Int) (hc : (Lit.int .u8 c).wf = true) (n : Int) (_ : (Lit.int .i64 n).wf = true) (w : World) :
    Calls Try.prog 6 #[.int .u8 c, .int .i64 n] w fun e w' => e = .returned (.bool true) ∧ Below w.heap.size w w' := by
  have hb := bounds_u8 hc
  obtain ⟨m, rfl⟩ : ∃ m : Nat, c = m := ⟨c.toNat, by omega⟩
  exact bufFills_nat m n w
end Go.Proofs.Ytnbbjfajcolpkaa
