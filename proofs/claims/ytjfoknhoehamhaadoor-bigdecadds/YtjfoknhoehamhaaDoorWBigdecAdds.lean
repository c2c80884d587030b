/- The walk of the law BigdecAdds. -/
import Derived.Test.YtjfoknhoehamhaaDoorLives4
import Derived.Test.YtjfoknhoehamhaaDoorHTopA
namespace Go.Proofs.YtjfoknhoehamhaaDoor
open Go.RowKit
set_option linter.unusedVariables false
set_option linter.unusedSimpArgs false

set_option maxRecDepth 1000000 in
set_option maxHeartbeats 800000 in
theorem bigdecAdds_walk (s1 : ByteArray) (p1 : Int) (hs1 : s1.size ≤ 9223372036854775807) (_y1 : (Lit.int .i64 p1).wf = true) (s2 : ByteArray) (p2 : Int) (hs2 : s2.size ≤ 9223372036854775807) (_y2 : (Lit.int .i64 p2).wf = true) (w : World) :
    Calls Tryd.prog 6 #[.agg #[.string s1, .int .i64 p1], .agg #[.string s2, .int .i64 p2]] w fun e w' => e = .returned (.bool true) ∧ Below w.heap.size w w' := by
  have hA := fun w => add_any s1 s2 p1 p2 w hs1 hs2
  have hB := fun w => hadd_any s1 s2 p1 p2 w hs1 hs2
  generalize oS (aV (bE (normE s1 p1) (normE s2 p2)) (normV s1 p1 + normV s2 p2)) = S at *
  generalize oP (aV (bE (normE s1 p1) (normE s2 p2)) (normV s1 p1 + normV s2 p2)) = P at *
  generalize aE (bE (normE s1 p1) (normE s2 p2)) (normV s1 p1 + normV s2 p2) = E at *
  have hL := lives4_any
  go_enter Tryd.func6, Tryd.ntmps6
  go_wp2_with (first
    | (go_at_call 16; refine (hA _).mono ?_; rintro e w2 ⟨rfl, hb2⟩; obtain ⟨a0, a1, a2, a3⟩ := keepb hb2 (B := w.heap.size) (x := .string s1) (y := .int .i64 p1) (by simp [BoxD, go_sem]); obtain ⟨b0, b1, b2, b3⟩ := keepb hb2 (B := w.heap.size + 1) (x := .string s2) (y := .int .i64 p2) (by simp [BoxD, go_sem]); have hlt : w.heap.size + 1 < w2.heap.size := World.block_lt_of_cell? w2 _ b0; have hlt0 : w.heap.size < w2.heap.size := (by omega))
    | (go_at_call 17; refine (hB _).mono ?_; rintro e w3 ⟨rfl, hb3⟩; obtain ⟨x0, x1, x2, x3⟩ := keepb hb3 (B := w2.heap.size) (x := .string S) (y := .int .i64 P) (by simp [BoxD, go_sem]); have hlt2 : w2.heap.size < w3.heap.size := World.block_lt_of_cell? w3 _ x0)
    | (go_at_call 11; refine (hL _).mono ?_; rintro e w4 ⟨rfl, hb4⟩))
  go_ret
  refine ⟨rfl, ?_⟩
  have h0 := bel_call (B := w.heap.size) (w := w) (by go_grown) hb2 (Nat.le_refl _)
  have h1 := bel_call (h0.alloc h0.size _) hb3 (Nat.le_refl _)
  exact bel_call (h1.alloc h1.size _) hb4 (Nat.le_refl _)
end Go.Proofs.YtjfoknhoehamhaaDoor
