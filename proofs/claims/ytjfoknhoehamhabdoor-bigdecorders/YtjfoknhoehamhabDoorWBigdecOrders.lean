/- The walk of the law BigdecOrders, put together. -/
import Derived.Test.YtjfoknhoehamhabDoorWOrd
namespace Go.Proofs.YtjfoknhoehamhabDoor
open Go.RowKit
set_option linter.unusedVariables false

theorem ordN_neg (a b : Nat) : ordN b a = - ordN a b := by
  rcases ordN_cases a b with ⟨h, k⟩ | ⟨h, k⟩ | ⟨h, k⟩
  · rw [h, ordN_gt k]; rfl
  · rw [h, ordN_eq k.symm]; rfl
  · rw [h, ordN_lt k]
theorem ordN_min (a b c : Nat) (h1 : ordN a b ≤ 0) (h2 : ordN b c ≤ 0) : ordN a c = min (ordN a b) (ordN b c) := by
  rcases ordN_cases a b with ⟨h, k⟩ | ⟨h, k⟩ | ⟨h, k⟩
  · rcases ordN_cases b c with ⟨h', k'⟩ | ⟨h', k'⟩ | ⟨h', k'⟩
    · rw [h, h', ordN_lt (by omega)]; rfl
    · rw [h, h', ordN_lt (by omega)]; rfl
    · omega
  · rcases ordN_cases b c with ⟨h', k'⟩ | ⟨h', k'⟩ | ⟨h', k'⟩
    · rw [h, h', ordN_lt (by omega)]; rfl
    · rw [h, h', ordN_eq (by omega)]; rfl
    · omega
  · omega
theorem bigdecOrders_walk (s1 : ByteArray) (p1 : Int) (hs1 : s1.size ≤ 9223372036854775807) (_y1 : (Lit.int .i64 p1).wf = true) (s2 : ByteArray) (p2 : Int) (hs2 : s2.size ≤ 9223372036854775807) (_y2 : (Lit.int .i64 p2).wf = true) (s3 : ByteArray) (p3 : Int) (hs3 : s3.size ≤ 9223372036854775807) (_y3 : (Lit.int .i64 p3).wf = true) (w : World) :
    Calls Tryd.prog 4 #[.agg #[.string s1, .int .i64 p1], .agg #[.string s2, .int .i64 p2], .agg #[.string s3, .int .i64 p3]] w fun x w' => x = .returned (.bool true) ∧ Below w.heap.size w w' := by
  have hab : CmpC s1 p1 s2 p2 _ _ := fun w => cmp_any s1 s2 p1 p2 w hs1 hs2
  have hba : CmpC s2 p2 s1 p1 _ _ := fun w => cmp_any s2 s1 p2 p1 w hs2 hs1
  have hbc : CmpC s2 p2 s3 p3 _ _ := fun w => cmp_any s2 s3 p2 p3 w hs2 hs3
  have hac : CmpC s1 p1 s3 p3 _ _ := fun w => cmp_any s1 s3 p1 p3 w hs1 hs3
  by_cases e : bE (normE s1 p1) (normE s2 p2) = 0
  · by_cases g : bE (normE s2 p2) (normE s3 p3) = 0
    · obtain ⟨e1, e2⟩ := bE_zero.1 e
      obtain ⟨-, e3⟩ := bE_zero.1 g
      have f : bE (normE s2 p2) (normE s1 p1) = 0 := bE_zero.2 ⟨e2, e1⟩
      have h : bE (normE s1 p1) (normE s3 p3) = 0 := bE_zero.2 ⟨e1, e3⟩
      rw [e, if_pos rfl] at hab
      rw [f, if_pos rfl, ordN_neg] at hba
      rw [g, if_pos rfl] at hbc
      rw [h, if_pos rfl] at hac
      have hx : AddC s1 p1 s3 p3 _ _ _ := fun w => add_any s1 s3 p1 p3 w hs1 hs3
      have hy : AddC s2 p2 s3 p3 _ _ _ := fun w => add_any s2 s3 p2 p3 w hs2 hs3
      have hz : AddC s3 p3 s1 p1 _ _ _ := fun w => add_any s3 s1 p3 p1 w hs3 hs1
      rw [h] at hx
      rw [g] at hy
      rw [bE_zero.2 ⟨e3, e1⟩, Nat.add_comm (normV s3 p3)] at hz
      have hb : -1 ≤ ordN (normV s1 p1) (normV s2 p2) ∧ ordN (normV s1 p1) (normV s2 p2) ≤ 1 := by
        rcases ordN_cases (normV s1 p1) (normV s2 p2) with ⟨h, -⟩ | ⟨h, -⟩ | ⟨h, -⟩ <;> rw [h] <;> decide
      by_cases ex : aE 0 (normV s1 p1 + normV s3 p3) = 0
      · by_cases ey : aE 0 (normV s2 p2 + normV s3 p3) = 0
        · have vx : aV 0 (normV s1 p1 + normV s3 p3) = normV s1 p1 + normV s3 p3 := if_pos ex
          have vy : aV 0 (normV s2 p2 + normV s3 p3) = normV s2 p2 + normV s3 p3 := if_pos ey
          rw [ex, vx] at hx hz
          rw [ey, vy] at hy
          have lx : (oL (normV s1 p1 + normV s3 p3)).length ≤ 2000 := by
            unfold aE at ex; rw [if_pos rfl] at ex; split at ex
            · cases ex
            · omega
          have ly : (oL (normV s2 p2 + normV s3 p3)).length ≤ 2000 := by
            unfold aE at ey; rw [if_pos rfl] at ey; split at ey
            · cases ey
            · omega
          have hxy : CmpC (oS (normV s1 p1 + normV s3 p3)) (oP (normV s1 p1 + normV s3 p3)) (oS (normV s2 p2 + normV s3 p3)) (oP (normV s2 p2 + normV s3 p3)) _ _ := fun w => cmp_any _ _ _ _ w (by rw [oS_size]; omega) (by rw [oS_size]; omega)
          refine ord_good hab hba hbc hac hx hy hz hb.1 hb.2 (ordN_min _ _ _) hxy ?_ w
          intro h4
          obtain ⟨q1, q2⟩ := bE_zero.1 h4
          rw [if_pos h4, norm_o q1, norm_o q2, Nat.add_comm _ (normV s3 p3), Nat.add_comm _ (normV s3 p3), ordN_add]
        · exact ord_bad hab hba hbc hac hx hy hz hb.1 hb.2 (ordN_min _ _ _) (.inr ⟨ex, ey⟩) w
      · exact ord_bad hab hba hbc hac hx hy hz hb.1 hb.2 (ordN_min _ _ _) (.inl ex) w
    · rw [if_neg g] at hbc
      exact ord_err hab hba hbc hac (.inr ⟨e, g, rfl⟩) w
  · have f : ¬ bE (normE s2 p2) (normE s1 p1) = 0 := fun h => e (bE_zero.2 ⟨(bE_zero.1 h).2, (bE_zero.1 h).1⟩)
    rw [if_neg e] at hab
    rw [if_neg f] at hba
    by_cases g : bE (normE s2 p2) (normE s3 p3) = 0
    · exact ord_err hab hba hbc hac (.inl ⟨e, rfl, rfl, .inl g⟩) w
    · rw [if_neg g] at hbc
      exact ord_err hab hba hbc hac (.inl ⟨e, rfl, rfl, .inr ⟨g, rfl⟩⟩) w
end Go.Proofs.YtjfoknhoehamhabDoor
