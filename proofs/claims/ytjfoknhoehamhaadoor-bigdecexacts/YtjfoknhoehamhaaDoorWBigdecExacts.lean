/- The walk of the law BigdecExacts. -/
import Derived.Test.YtjfoknhoehamhaaDoorLives4
import Derived.Test.YtjfoknhoehamhaaDoorHExact
namespace Go.Proofs.YtjfoknhoehamhaaDoor
open Go.RowKit
set_option linter.unusedVariables false
set_option linter.unusedSimpArgs false

set_option maxRecDepth 1000000 in
set_option maxHeartbeats 800000 in
theorem bigdecExacts_walk (m0 : Int) (hm0 : (Lit.int .u64 m0).wf = true) (e : Int) (_he : (Lit.int .i64 e).wf = true) (w : World) :
    Calls Tryd.prog 4 #[.int .u64 m0, .int .i64 e] w fun e w' => e = .returned (.bool true) ∧ Below w.heap.size w w' := by
  obtain ⟨m, rfl, hm⟩ : ∃ m : Nat, m0 = (m : Int) ∧ m < 18446744073709551616 := by
    have := wfu64 m0 hm0
    exact ⟨m0.toNat, by omega, by omega⟩
  clear hm0 _he
  have hA := fun w => exact_any m e w hm
  have hB := fun w => hexact_any m e w hm
  generalize oS (xV m e) = S at *
  generalize oP (xV m e) = P at *
  generalize xE e = E at *
  have hL := lives4_any
  go_enter Tryd.func4, Tryd.ntmps4
  go_wp2_with (first
    | (go_at_call 12; refine (hA _).mono ?_; rintro e w2 ⟨rfl, hb2⟩)
    | (go_at_call 13; refine (hB _).mono ?_; rintro e w3 ⟨rfl, hb3⟩; obtain ⟨x0, x1, x2, x3⟩ := keepb hb3 (B := w2.heap.size) (x := .string S) (y := .int .i64 P) (by simp [BoxD, go_sem]); have hlt2 : w2.heap.size < w3.heap.size := World.block_lt_of_cell? w3 _ x0)
    | (go_at_call 11; refine (hL _).mono ?_; rintro e w4 ⟨rfl, hb4⟩))
  go_ret
  refine ⟨rfl, ?_⟩
  have h0 := hb2
  have h1 := bel_call (h0.alloc h0.size _) hb3 (Nat.le_refl _)
  exact bel_call (h1.alloc h1.size _) hb4 (Nat.le_refl _)
end Go.Proofs.YtjfoknhoehamhaaDoor
