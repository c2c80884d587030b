/- The law BadReads. -/
import Derived.Test.YtbgejkodgcgpdaaURead2
namespace Go.Proofs.Ytbgejkodgcgpdaa
open Go.RowKit
set_option linter.unusedVariables false
set_option linter.unusedSimpArgs false

set_option maxRecDepth 1000000 in
set_option maxHeartbeats 2000000 in
theorem badReads_walk (s0 : ByteArray) (hs0 : s0.size ≤ 9223372036854775807) (w : World) (m : Int) (hm : w.cell? ⟨0, 0, none⟩ = some (.int .i64 m)) :
    Calls Try.prog 6 #[.string s0] w fun e w' => e = .returned (.bool true) ∧ Below w.heap.size w w' := by
  obtain ⟨s, hs, hC⟩ := cut10_any s0
  have hR := bread_any s (by omega) w m hm
  have hU := fun w => uread_any s hs w
  have hL := fun w => lives10_any w
  clear hs0
  generalize reK s = R at *
  obtain ⟨a, b, c⟩ := R
  dsimp only at *
  go_enter Try.func6, Try.ntmps6
  go_wp2_with (first
    | (go_at_call 15; refine (hC _).mono ?_; rintro e w1 ⟨rfl, hw1⟩; subst w1)
    | (go_at_call 16; refine hR.mono ?_; rintro e w2 ⟨rfl, b2⟩)
    | (go_at_call 17; refine (hU _).mono ?_; rintro e w3 ⟨rfl, b3⟩)
    | (go_at_call 18; refine (hL _).mono ?_; rintro e w4 ⟨rfl, b4⟩))
  go_ret
  exact ⟨rfl, b2.trans ((b3.mono b2.size).trans (b4.mono (Nat.le_trans b2.size b3.size)))⟩
end Go.Proofs.Ytbgejkodgcgpdaa
