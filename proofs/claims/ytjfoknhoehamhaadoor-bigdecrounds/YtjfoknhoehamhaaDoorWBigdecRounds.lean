/- The walk of the law BigdecRounds. -/
import Derived.Test.YtjfoknhoehamhaaDoorLives4
import Derived.Test.YtjfoknhoehamhaaDoorHTopB
namespace Go.Proofs.YtjfoknhoehamhaaDoor
open Go.RowKit
set_option linter.unusedVariables false
set_option linter.unusedSimpArgs false

set_option maxRecDepth 1000000 in
set_option maxHeartbeats 800000 in
theorem bigdecRounds_walk (s : ByteArray) (p : Int) (hs : s.size ≤ 9223372036854775807) (_y : (Lit.int .i64 p).wf = true) (n : Int) (_yn : (Lit.int .i64 n).wf = true) (w : World) :
    Calls Tryd.prog 7 #[.agg #[.string s, .int .i64 p], .int .i64 n] w fun e w' => e = .returned (.bool true) ∧ Below w.heap.size w w' := by
  have hA := fun w => round_any s p n w hs
  have hB := fun w => hround_any s p n w hs _yn
  generalize oS (bV (normE s p) (rnd (normV s p) n)) = S at *
  generalize oP (bV (normE s p) (rnd (normV s p) n)) = P at *
  generalize normE s p = E at *
  have hL := lives4_any
  go_enter Tryd.func7, Tryd.ntmps7
  go_wp2_with (first
    | (go_at_call 18; refine (hA _).mono ?_; rintro e w2 ⟨rfl, hb2⟩; obtain ⟨a0, a1, a2, a3⟩ := keepb hb2 (B := w.heap.size) (x := .string s) (y := .int .i64 p) (by simp [BoxD, go_sem]); have hlt : w.heap.size < w2.heap.size := World.block_lt_of_cell? w2 _ a0)
    | (go_at_call 19; refine (hB _).mono ?_; rintro e w3 ⟨rfl, hb3⟩; obtain ⟨x0, x1, x2, x3⟩ := keepb hb3 (B := w2.heap.size) (x := .string S) (y := .int .i64 P) (by simp [BoxD, go_sem]); have hlt2 : w2.heap.size < w3.heap.size := World.block_lt_of_cell? w3 _ x0)
    | (go_at_call 11; refine (hL _).mono ?_; rintro e w4 ⟨rfl, hb4⟩))
  go_ret
  refine ⟨rfl, ?_⟩
  have h0 := bel_call (B := w.heap.size) (w := w) (by go_grown) hb2 (Nat.le_refl _)
  have h1 := bel_call (h0.alloc h0.size _) hb3 (Nat.le_refl _)
  exact bel_call (h1.alloc h1.size _) hb4 (Nat.le_refl _)
end Go.Proofs.YtjfoknhoehamhaaDoor
