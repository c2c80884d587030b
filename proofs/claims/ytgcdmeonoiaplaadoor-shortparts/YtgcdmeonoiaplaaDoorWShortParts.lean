/- The walk of the law ShortParts. -/
import Derived.Test.YtgcdmeonoiaplaaDoorKWalkA
namespace Go.Proofs.YtgcdmeonoiaplaaDoor
open Go.RowKit
set_option linter.unusedVariables false
set_option linter.unusedSimpArgs false

set_option maxRecDepth 1000000 in
set_option maxHeartbeats 800000 in
theorem parts_law {bits m : Nat} {size x k : Int} {sg : Bool} (hA : PtC bits size sg m x k) (hB : ∀ w, Calls Tryd.prog 9 #[.int .u64 bits, .int .i64 size] w fun e w' => e = .returned (.tuple #[.bool sg, .int .u64 m, .int .i64 x, .int .i64 k]) ∧ Below w.heap.size w w') (w : World) :
    Calls Tryd.prog 3 #[.int .u64 bits, .int .i64 size] w fun e w' => e = .returned (.bool true) ∧ Below w.heap.size w w' := by
  have hL := lives5_any
  go_enter Tryd.func3, Tryd.ntmps3
  go_wp2_with (first
    | (go_at_call 8; refine (hA _).mono ?_; rintro e w2 ⟨rfl, hb2⟩)
    | (go_at_call 9; refine (hB _).mono ?_; rintro e w3 ⟨rfl, hb3⟩)
    | (go_at_call 10; refine (hL _).mono ?_; rintro e w4 ⟨rfl, hb4⟩))
  go_ret
  exact ⟨rfl, bel_call (bel_call hb2 hb3 (Nat.le_refl _)) hb4 (Nat.le_refl _)⟩
theorem shortParts_walk (m0 : Int) (hm0 : (Lit.int .u64 m0).wf = true) (size : Int) (_hs : (Lit.int .i64 size).wf = true) (w : World) :
    Calls Tryd.prog 3 #[.int .u64 m0, .int .i64 size] w fun e w' => e = .returned (.bool true) ∧ Below w.heap.size w w' := by
  obtain ⟨bits, rfl, hb⟩ : ∃ m : Nat, m0 = (m : Int) ∧ m < 18446744073709551616 := by
    have := wfu64 m0 hm0
    exact ⟨m0.toNat, by omega, by omega⟩
  by_cases h1 : size = 32
  · subst h1
    exact parts_law (fun w => parts_any lyA hb w) (fun w => kparts_any lyA hb w) w
  · by_cases h2 : size = 64
    · subst h2
      exact parts_law (fun w => parts_any lyB hb w) (fun w => kparts_any lyB hb w) w
    · exact parts_law (m := 0) (fun w => parts_size h1 h2 w) (fun w => kparts_size h1 h2 w) w
end Go.Proofs.YtgcdmeonoiaplaaDoor
