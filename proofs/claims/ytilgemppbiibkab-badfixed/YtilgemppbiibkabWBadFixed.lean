/- The walk of the law BadFixed. -/
import Derived.Test.YtilgemppbiibkabBLive
namespace Go.Proofs.Ytilgemppbiibkab
open Go.RowKit
set_option linter.unusedVariables false
set_option linter.unusedSimpArgs false

set_option maxRecDepth 1000000 in
set_option maxHeartbeats 2000000 in
theorem bopen_ex (w : World) : Calls Try.prog 26 #[] w fun e w' => e = .returned (.string ⟨#[37, 33, 40, 78, 79, 86, 69, 82, 66, 41]⟩) ∧ Below w.heap.size w w' := by
  obtain ⟨W1, hW1⟩ : ∃ W1, W1 = w.alloc (.cells #[.string ⟨#[78, 79, 86, 69, 82, 66]⟩] 9) := ⟨_, rfl⟩
  have hb1 : Below w.heap.size w W1 := by rw [hW1]; exact (Below.refl _ _).alloc (Nat.le_refl _) _
  have hT : Calls Try.prog 35 #[.string ⟨#[]⟩, .slice (some ⟨w.heap.size, 0, none⟩) 1 1] W1 fun e w' => e = .returned (.string ⟨#[37, 33, 40, 78, 79, 86, 69, 82, 66, 41]⟩) ∧ Below W1.heap.size W1 w' := btext_any (v := ⟨#[]⟩) (xs := [(⟨#[78, 79, 86, 69, 82, 66]⟩ : ByteArray)]) (by decide) (fun j x hj => by
      match j, hj with
      | 0, hj => simp at hj; subst hj; rw [hW1]; simp) (by rw [hW1]; simp) (by simp) (by simp) rfl (by decide)
  go_enter Try.func26, Try.ntmps26
  go_wp2_with (go_at_call 35; rw [← hW1]; refine hT.mono ?_; rintro e w3 ⟨rfl, hb3⟩)
  go_ret
  exact ⟨rfl, hb1.trans (hb3.mono hb1.size)⟩
set_option maxRecDepth 1000000 in
set_option maxHeartbeats 2000000 in
theorem woopen_ex (w : World) : Calls Try.prog 52 #[.string ⟨#[78, 79, 86, 69, 82, 66]⟩] w fun e w' => e = .returned (.int .i64 6) ∧ w' = w := by
  go_enter Try.func52, Try.ntmps52
  go_wp2
  go_ret
  exact ⟨rfl, rfl⟩
set_option maxRecDepth 1000000 in
set_option maxHeartbeats 2000000 in
theorem paopen_ex (w : World) : Calls Try.prog 40 #[.string ⟨#[40, 78, 79, 86, 69, 82, 66]⟩] w fun e w' => e = .returned (.tuple #[.int .i64 6, .int .i32 0, .string ⟨#[78, 79, 86, 69, 82, 66]⟩]) ∧ w' = w := by
  have k1 : CpB ⟨#[40, 78, 79, 86, 69, 82, 66]⟩ ⟨#[40]⟩ ⟨#[78, 79, 86, 69, 82, 66]⟩ true := fun w => Try.strings_CutPrefix _ _ w
  have k3 : HpB ⟨#[78, 79, 86, 69, 82, 66]⟩ ⟨#[40]⟩ false := fun w => Try.strings_HasPrefix _ _ w
  go_enter Try.func40, Try.ntmps40
  go_wp2_with (first
    | (go_at_call 38; refine (k1 _).mono ?_; rintro e w2 ⟨rfl, hw2⟩; subst w2)
    | (go_at_call 51; refine (k3 _).mono ?_; rintro e w2 ⟨rfl, hw2⟩; subst w2)
    | (go_at_call 52; refine (woopen_ex _).mono ?_; rintro e w4 ⟨rfl, hw4⟩; subst w4))
  go_ret3
  exact ⟨rfl, rfl⟩
set_option maxRecDepth 1000000 in
set_option maxHeartbeats 2000000 in
theorem reopen_ex (w : World) : Calls Try.prog 30 #[.string ⟨#[37, 33, 40, 78, 79, 86, 69, 82, 66, 41]⟩] w fun e w' => e = .returned (.tuple #[.int .i64 6, .int .i32 0, .string ⟨#[78, 79, 86, 69, 82, 66]⟩]) ∧ w' = w := by
  have k1 : CpB ⟨#[37, 33, 40, 78, 79, 86, 69, 82, 66, 41]⟩ ⟨#[37, 33]⟩ ⟨#[40, 78, 79, 86, 69, 82, 66, 41]⟩ true := fun w => Try.strings_CutPrefix _ _ w
  have k2 : CsB ⟨#[40, 78, 79, 86, 69, 82, 66, 41]⟩ ⟨#[41]⟩ ⟨#[40, 78, 79, 86, 69, 82, 66]⟩ true := fun w => Try.strings_CutSuffix _ _ w (by decide)
  go_enter Try.func30, Try.ntmps30
  go_wp2_with (first
    | (go_at_call 38; refine (k1 _).mono ?_; rintro e w2 ⟨rfl, hw2⟩; subst w2)
    | (go_at_call 39; refine (k2 _).mono ?_; rintro e w2 ⟨rfl, hw2⟩; subst w2)
    | (go_at_call 40; refine (paopen_ex _).mono ?_; rintro e w3 ⟨rfl, hw3⟩; subst w3))
  go_ret3
  exact ⟨rfl, rfl⟩
set_option maxRecDepth 1000000 in
set_option maxHeartbeats 2000000 in
theorem bwidth_ex (w : World) : Calls Try.prog 27 #[] w fun e w' => e = .returned (.string ⟨#[37, 33, 40, 66, 65, 68, 87, 73, 68, 84, 72, 41]⟩) ∧ Below w.heap.size w w' := by
  obtain ⟨W1, hW1⟩ : ∃ W1, W1 = w.alloc (.cells #[.string ⟨#[66, 65, 68, 87, 73, 68, 84, 72]⟩] 9) := ⟨_, rfl⟩
  have hb1 : Below w.heap.size w W1 := by rw [hW1]; exact (Below.refl _ _).alloc (Nat.le_refl _) _
  have hT : Calls Try.prog 35 #[.string ⟨#[]⟩, .slice (some ⟨w.heap.size, 0, none⟩) 1 1] W1 fun e w' => e = .returned (.string ⟨#[37, 33, 40, 66, 65, 68, 87, 73, 68, 84, 72, 41]⟩) ∧ Below W1.heap.size W1 w' := btext_any (v := ⟨#[]⟩) (xs := [(⟨#[66, 65, 68, 87, 73, 68, 84, 72]⟩ : ByteArray)]) (by decide) (fun j x hj => by
      match j, hj with
      | 0, hj => simp at hj; subst hj; rw [hW1]; simp) (by rw [hW1]; simp) (by simp) (by simp) rfl (by decide)
  go_enter Try.func27, Try.ntmps27
  go_wp2_with (go_at_call 35; rw [← hW1]; refine hT.mono ?_; rintro e w3 ⟨rfl, hb3⟩)
  go_ret
  exact ⟨rfl, hb1.trans (hb3.mono hb1.size)⟩
set_option maxRecDepth 1000000 in
set_option maxHeartbeats 2000000 in
theorem wowidth_ex (w : World) : Calls Try.prog 52 #[.string ⟨#[66, 65, 68, 87, 73, 68, 84, 72]⟩] w fun e w' => e = .returned (.int .i64 7) ∧ w' = w := by
  go_enter Try.func52, Try.ntmps52
  go_wp2
  go_ret
  exact ⟨rfl, rfl⟩
set_option maxRecDepth 1000000 in
set_option maxHeartbeats 2000000 in
theorem pawidth_ex (w : World) : Calls Try.prog 40 #[.string ⟨#[40, 66, 65, 68, 87, 73, 68, 84, 72]⟩] w fun e w' => e = .returned (.tuple #[.int .i64 7, .int .i32 0, .string ⟨#[66, 65, 68, 87, 73, 68, 84, 72]⟩]) ∧ w' = w := by
  have k1 : CpB ⟨#[40, 66, 65, 68, 87, 73, 68, 84, 72]⟩ ⟨#[40]⟩ ⟨#[66, 65, 68, 87, 73, 68, 84, 72]⟩ true := fun w => Try.strings_CutPrefix _ _ w
  have k3 : HpB ⟨#[66, 65, 68, 87, 73, 68, 84, 72]⟩ ⟨#[40]⟩ false := fun w => Try.strings_HasPrefix _ _ w
  go_enter Try.func40, Try.ntmps40
  go_wp2_with (first
    | (go_at_call 38; refine (k1 _).mono ?_; rintro e w2 ⟨rfl, hw2⟩; subst w2)
    | (go_at_call 51; refine (k3 _).mono ?_; rintro e w2 ⟨rfl, hw2⟩; subst w2)
    | (go_at_call 52; refine (wowidth_ex _).mono ?_; rintro e w4 ⟨rfl, hw4⟩; subst w4))
  go_ret3
  exact ⟨rfl, rfl⟩
set_option maxRecDepth 1000000 in
set_option maxHeartbeats 2000000 in
theorem rewidth_ex (w : World) : Calls Try.prog 30 #[.string ⟨#[37, 33, 40, 66, 65, 68, 87, 73, 68, 84, 72, 41]⟩] w fun e w' => e = .returned (.tuple #[.int .i64 7, .int .i32 0, .string ⟨#[66, 65, 68, 87, 73, 68, 84, 72]⟩]) ∧ w' = w := by
  have k1 : CpB ⟨#[37, 33, 40, 66, 65, 68, 87, 73, 68, 84, 72, 41]⟩ ⟨#[37, 33]⟩ ⟨#[40, 66, 65, 68, 87, 73, 68, 84, 72, 41]⟩ true := fun w => Try.strings_CutPrefix _ _ w
  have k2 : CsB ⟨#[40, 66, 65, 68, 87, 73, 68, 84, 72, 41]⟩ ⟨#[41]⟩ ⟨#[40, 66, 65, 68, 87, 73, 68, 84, 72]⟩ true := fun w => Try.strings_CutSuffix _ _ w (by decide)
  go_enter Try.func30, Try.ntmps30
  go_wp2_with (first
    | (go_at_call 38; refine (k1 _).mono ?_; rintro e w2 ⟨rfl, hw2⟩; subst w2)
    | (go_at_call 39; refine (k2 _).mono ?_; rintro e w2 ⟨rfl, hw2⟩; subst w2)
    | (go_at_call 40; refine (pawidth_ex _).mono ?_; rintro e w3 ⟨rfl, hw3⟩; subst w3))
  go_ret3
  exact ⟨rfl, rfl⟩
set_option maxRecDepth 1000000 in
set_option maxHeartbeats 2000000 in
theorem bprec_ex (w : World) : Calls Try.prog 28 #[] w fun e w' => e = .returned (.string ⟨#[37, 33, 40, 66, 65, 68, 80, 82, 69, 67, 41]⟩) ∧ Below w.heap.size w w' := by
  obtain ⟨W1, hW1⟩ : ∃ W1, W1 = w.alloc (.cells #[.string ⟨#[66, 65, 68, 80, 82, 69, 67]⟩] 9) := ⟨_, rfl⟩
  have hb1 : Below w.heap.size w W1 := by rw [hW1]; exact (Below.refl _ _).alloc (Nat.le_refl _) _
  have hT : Calls Try.prog 35 #[.string ⟨#[]⟩, .slice (some ⟨w.heap.size, 0, none⟩) 1 1] W1 fun e w' => e = .returned (.string ⟨#[37, 33, 40, 66, 65, 68, 80, 82, 69, 67, 41]⟩) ∧ Below W1.heap.size W1 w' := btext_any (v := ⟨#[]⟩) (xs := [(⟨#[66, 65, 68, 80, 82, 69, 67]⟩ : ByteArray)]) (by decide) (fun j x hj => by
      match j, hj with
      | 0, hj => simp at hj; subst hj; rw [hW1]; simp) (by rw [hW1]; simp) (by simp) (by simp) rfl (by decide)
  go_enter Try.func28, Try.ntmps28
  go_wp2_with (go_at_call 35; rw [← hW1]; refine hT.mono ?_; rintro e w3 ⟨rfl, hb3⟩)
  go_ret
  exact ⟨rfl, hb1.trans (hb3.mono hb1.size)⟩
set_option maxRecDepth 1000000 in
set_option maxHeartbeats 2000000 in
theorem woprec_ex (w : World) : Calls Try.prog 52 #[.string ⟨#[66, 65, 68, 80, 82, 69, 67]⟩] w fun e w' => e = .returned (.int .i64 8) ∧ w' = w := by
  go_enter Try.func52, Try.ntmps52
  go_wp2
  go_ret
  exact ⟨rfl, rfl⟩
set_option maxRecDepth 1000000 in
set_option maxHeartbeats 2000000 in
theorem paprec_ex (w : World) : Calls Try.prog 40 #[.string ⟨#[40, 66, 65, 68, 80, 82, 69, 67]⟩] w fun e w' => e = .returned (.tuple #[.int .i64 8, .int .i32 0, .string ⟨#[66, 65, 68, 80, 82, 69, 67]⟩]) ∧ w' = w := by
  have k1 : CpB ⟨#[40, 66, 65, 68, 80, 82, 69, 67]⟩ ⟨#[40]⟩ ⟨#[66, 65, 68, 80, 82, 69, 67]⟩ true := fun w => Try.strings_CutPrefix _ _ w
  have k3 : HpB ⟨#[66, 65, 68, 80, 82, 69, 67]⟩ ⟨#[40]⟩ false := fun w => Try.strings_HasPrefix _ _ w
  go_enter Try.func40, Try.ntmps40
  go_wp2_with (first
    | (go_at_call 38; refine (k1 _).mono ?_; rintro e w2 ⟨rfl, hw2⟩; subst w2)
    | (go_at_call 51; refine (k3 _).mono ?_; rintro e w2 ⟨rfl, hw2⟩; subst w2)
    | (go_at_call 52; refine (woprec_ex _).mono ?_; rintro e w4 ⟨rfl, hw4⟩; subst w4))
  go_ret3
  exact ⟨rfl, rfl⟩
set_option maxRecDepth 1000000 in
set_option maxHeartbeats 2000000 in
theorem reprec_ex (w : World) : Calls Try.prog 30 #[.string ⟨#[37, 33, 40, 66, 65, 68, 80, 82, 69, 67, 41]⟩] w fun e w' => e = .returned (.tuple #[.int .i64 8, .int .i32 0, .string ⟨#[66, 65, 68, 80, 82, 69, 67]⟩]) ∧ w' = w := by
  have k1 : CpB ⟨#[37, 33, 40, 66, 65, 68, 80, 82, 69, 67, 41]⟩ ⟨#[37, 33]⟩ ⟨#[40, 66, 65, 68, 80, 82, 69, 67, 41]⟩ true := fun w => Try.strings_CutPrefix _ _ w
  have k2 : CsB ⟨#[40, 66, 65, 68, 80, 82, 69, 67, 41]⟩ ⟨#[41]⟩ ⟨#[40, 66, 65, 68, 80, 82, 69, 67]⟩ true := fun w => Try.strings_CutSuffix _ _ w (by decide)
  go_enter Try.func30, Try.ntmps30
  go_wp2_with (first
    | (go_at_call 38; refine (k1 _).mono ?_; rintro e w2 ⟨rfl, hw2⟩; subst w2)
    | (go_at_call 39; refine (k2 _).mono ?_; rintro e w2 ⟨rfl, hw2⟩; subst w2)
    | (go_at_call 40; refine (paprec_ex _).mono ?_; rintro e w3 ⟨rfl, hw3⟩; subst w3))
  go_ret3
  exact ⟨rfl, rfl⟩
set_option maxRecDepth 1000000 in
set_option maxHeartbeats 2000000 in
theorem bdepth_ex (w : World) : Calls Try.prog 29 #[] w fun e w' => e = .returned (.string ⟨#[37, 33, 40, 68, 69, 80, 84, 72, 41]⟩) ∧ Below w.heap.size w w' := by
  obtain ⟨W1, hW1⟩ : ∃ W1, W1 = w.alloc (.cells #[.string ⟨#[68, 69, 80, 84, 72]⟩] 9) := ⟨_, rfl⟩
  have hb1 : Below w.heap.size w W1 := by rw [hW1]; exact (Below.refl _ _).alloc (Nat.le_refl _) _
  have hT : Calls Try.prog 35 #[.string ⟨#[]⟩, .slice (some ⟨w.heap.size, 0, none⟩) 1 1] W1 fun e w' => e = .returned (.string ⟨#[37, 33, 40, 68, 69, 80, 84, 72, 41]⟩) ∧ Below W1.heap.size W1 w' := btext_any (v := ⟨#[]⟩) (xs := [(⟨#[68, 69, 80, 84, 72]⟩ : ByteArray)]) (by decide) (fun j x hj => by
      match j, hj with
      | 0, hj => simp at hj; subst hj; rw [hW1]; simp) (by rw [hW1]; simp) (by simp) (by simp) rfl (by decide)
  go_enter Try.func29, Try.ntmps29
  go_wp2_with (go_at_call 35; rw [← hW1]; refine hT.mono ?_; rintro e w3 ⟨rfl, hb3⟩)
  go_ret
  exact ⟨rfl, hb1.trans (hb3.mono hb1.size)⟩
set_option maxRecDepth 1000000 in
set_option maxHeartbeats 2000000 in
theorem wodepth_ex (w : World) : Calls Try.prog 52 #[.string ⟨#[68, 69, 80, 84, 72]⟩] w fun e w' => e = .returned (.int .i64 9) ∧ w' = w := by
  go_enter Try.func52, Try.ntmps52
  go_wp2
  go_ret
  exact ⟨rfl, rfl⟩
set_option maxRecDepth 1000000 in
set_option maxHeartbeats 2000000 in
theorem padepth_ex (w : World) : Calls Try.prog 40 #[.string ⟨#[40, 68, 69, 80, 84, 72]⟩] w fun e w' => e = .returned (.tuple #[.int .i64 9, .int .i32 0, .string ⟨#[68, 69, 80, 84, 72]⟩]) ∧ w' = w := by
  have k1 : CpB ⟨#[40, 68, 69, 80, 84, 72]⟩ ⟨#[40]⟩ ⟨#[68, 69, 80, 84, 72]⟩ true := fun w => Try.strings_CutPrefix _ _ w
  have k3 : HpB ⟨#[68, 69, 80, 84, 72]⟩ ⟨#[40]⟩ false := fun w => Try.strings_HasPrefix _ _ w
  go_enter Try.func40, Try.ntmps40
  go_wp2_with (first
    | (go_at_call 38; refine (k1 _).mono ?_; rintro e w2 ⟨rfl, hw2⟩; subst w2)
    | (go_at_call 51; refine (k3 _).mono ?_; rintro e w2 ⟨rfl, hw2⟩; subst w2)
    | (go_at_call 52; refine (wodepth_ex _).mono ?_; rintro e w4 ⟨rfl, hw4⟩; subst w4))
  go_ret3
  exact ⟨rfl, rfl⟩
set_option maxRecDepth 1000000 in
set_option maxHeartbeats 2000000 in
theorem redepth_ex (w : World) : Calls Try.prog 30 #[.string ⟨#[37, 33, 40, 68, 69, 80, 84, 72, 41]⟩] w fun e w' => e = .returned (.tuple #[.int .i64 9, .int .i32 0, .string ⟨#[68, 69, 80, 84, 72]⟩]) ∧ w' = w := by
  have k1 : CpB ⟨#[37, 33, 40, 68, 69, 80, 84, 72, 41]⟩ ⟨#[37, 33]⟩ ⟨#[40, 68, 69, 80, 84, 72, 41]⟩ true := fun w => Try.strings_CutPrefix _ _ w
  have k2 : CsB ⟨#[40, 68, 69, 80, 84, 72, 41]⟩ ⟨#[41]⟩ ⟨#[40, 68, 69, 80, 84, 72]⟩ true := fun w => Try.strings_CutSuffix _ _ w (by decide)
  go_enter Try.func30, Try.ntmps30
  go_wp2_with (first
    | (go_at_call 38; refine (k1 _).mono ?_; rintro e w2 ⟨rfl, hw2⟩; subst w2)
    | (go_at_call 39; refine (k2 _).mono ?_; rintro e w2 ⟨rfl, hw2⟩; subst w2)
    | (go_at_call 40; refine (padepth_ex _).mono ?_; rintro e w3 ⟨rfl, hw3⟩; subst w3))
  go_ret3
  exact ⟨rfl, rfl⟩
theorem wfuB (n : Int) (h : (Lit.int .u64 n).wf = true) : 0 ≤ n ∧ n < 18446744073709551616 := by
  have e1 : IntKind.u64.min = 0 := by decide
  have e2 : IntKind.u64.max = 18446744073709551615 := by decide
  simp [Lit.wf] at h
  omega
theorem index_4i (w : World) : (Instr.index 48 (.agg #[.int .i64 6, .int .i64 7, .int .i64 8, .int .i64 9]) (.int .i64 0)).run Try.prog w = .ok (.int .i64 6) w ∧ (Instr.index 48 (.agg #[.int .i64 6, .int .i64 7, .int .i64 8, .int .i64 9]) (.int .i64 1)).run Try.prog w = .ok (.int .i64 7) w ∧ (Instr.index 48 (.agg #[.int .i64 6, .int .i64 7, .int .i64 8, .int .i64 9]) (.int .i64 2)).run Try.prog w = .ok (.int .i64 8) w ∧ (Instr.index 48 (.agg #[.int .i64 6, .int .i64 7, .int .i64 8, .int .i64 9]) (.int .i64 3)).run Try.prog w = .ok (.int .i64 9) w :=
  ⟨by kernel_rfl, by kernel_rfl, by kernel_rfl, by kernel_rfl⟩
set_option maxRecDepth 1000000 in
set_option maxHeartbeats 4000000 in
theorem fixed_0 (x : Int) (hx : x.tmod 4 = 0) (hx2 : x % 4 = 0) (w : World) : Calls Try.prog 6 #[.int .u64 x] w fun e w' => e = .returned (.bool true) ∧ Below w.heap.size w w' := by
  have hL := lives10_any
  have ix := fun w => (index_4i w).1
  have hcat : ((⟨#[37, 33, 40]⟩ : ByteArray) ++ ⟨#[78, 79, 86, 69, 82, 66]⟩) ++ ⟨#[41]⟩ = ⟨#[37, 33, 40, 78, 79, 86, 69, 82, 66, 41]⟩ := by decide
  have hm : IntKind.u64.wrap 0 = 0 := by decide
  go_enter Try.func6, Try.ntmps6
  go_upto_region 4 with (first
    | (go_at_call 26; refine (bopen_ex _).mono ?_; rintro e w1 ⟨rfl, b1⟩)
    | (go_at_call 27; refine (bwidth_ex _).mono ?_; rintro e w2 ⟨rfl, b2⟩)
    | (go_at_call 28; refine (bprec_ex _).mono ?_; rintro e w3 ⟨rfl, b3⟩)
    | (go_at_call 29; refine (bdepth_ex _).mono ?_; rintro e w4 ⟨rfl, b4⟩))
  have step : ∀ {V V' : World}, Below w.heap.size w V → Below V.heap.size V V' → Below w.heap.size w V' := fun h h' => h.trans (h'.mono h.size)
  have b5 : Below w.heap.size w w4 := step (step (step b1 b2) b3) b4
  have b6 : Below w4.heap.size w4 ((w4.alloc (.cells #[.string ⟨#[37, 33, 40, 78, 79, 86, 69, 82, 66, 41]⟩, .string ⟨#[37, 33, 40, 66, 65, 68, 87, 73, 68, 84, 72, 41]⟩, .string ⟨#[37, 33, 40, 66, 65, 68, 80, 82, 69, 67, 41]⟩, .string ⟨#[37, 33, 40, 68, 69, 80, 84, 72, 41]⟩] 45)).alloc (.cells #[.string ⟨#[37, 33, 40, 78, 79, 86, 69, 82, 66, 41]⟩, .string ⟨#[37, 33, 40, 66, 65, 68, 87, 73, 68, 84, 72, 41]⟩, .string ⟨#[37, 33, 40, 66, 65, 68, 80, 82, 69, 67, 41]⟩, .string ⟨#[37, 33, 40, 68, 69, 80, 84, 72, 41]⟩] 45)) := by go_grown
  have b7 := b5.trans (b6.mono b5.size)
  have e0 : ((w4.alloc (.cells #[.string ⟨#[37, 33, 40, 78, 79, 86, 69, 82, 66, 41]⟩, .string ⟨#[37, 33, 40, 66, 65, 68, 87, 73, 68, 84, 72, 41]⟩, .string ⟨#[37, 33, 40, 66, 65, 68, 80, 82, 69, 67, 41]⟩, .string ⟨#[37, 33, 40, 68, 69, 80, 84, 72, 41]⟩] 45)).alloc (.cells #[.string ⟨#[37, 33, 40, 78, 79, 86, 69, 82, 66, 41]⟩, .string ⟨#[37, 33, 40, 66, 65, 68, 87, 73, 68, 84, 72, 41]⟩, .string ⟨#[37, 33, 40, 66, 65, 68, 80, 82, 69, 67, 41]⟩, .string ⟨#[37, 33, 40, 68, 69, 80, 84, 72, 41]⟩] 45)).cell? ⟨w4.heap.size, 0, none⟩ = some (.string ⟨#[37, 33, 40, 78, 79, 86, 69, 82, 66, 41]⟩) := by simp
  have e1 : ((w4.alloc (.cells #[.string ⟨#[37, 33, 40, 78, 79, 86, 69, 82, 66, 41]⟩, .string ⟨#[37, 33, 40, 66, 65, 68, 87, 73, 68, 84, 72, 41]⟩, .string ⟨#[37, 33, 40, 66, 65, 68, 80, 82, 69, 67, 41]⟩, .string ⟨#[37, 33, 40, 68, 69, 80, 84, 72, 41]⟩] 45)).alloc (.cells #[.string ⟨#[37, 33, 40, 78, 79, 86, 69, 82, 66, 41]⟩, .string ⟨#[37, 33, 40, 66, 65, 68, 87, 73, 68, 84, 72, 41]⟩, .string ⟨#[37, 33, 40, 66, 65, 68, 80, 82, 69, 67, 41]⟩, .string ⟨#[37, 33, 40, 68, 69, 80, 84, 72, 41]⟩] 45)).cell? ⟨w4.heap.size + 1, 0, none⟩ = some (.string ⟨#[37, 33, 40, 78, 79, 86, 69, 82, 66, 41]⟩) := by simp
  generalize (w4.alloc (.cells #[.string ⟨#[37, 33, 40, 78, 79, 86, 69, 82, 66, 41]⟩, .string ⟨#[37, 33, 40, 66, 65, 68, 87, 73, 68, 84, 72, 41]⟩, .string ⟨#[37, 33, 40, 66, 65, 68, 80, 82, 69, 67, 41]⟩, .string ⟨#[37, 33, 40, 68, 69, 80, 84, 72, 41]⟩] 45)).alloc (.cells #[.string ⟨#[37, 33, 40, 78, 79, 86, 69, 82, 66, 41]⟩, .string ⟨#[37, 33, 40, 66, 65, 68, 87, 73, 68, 84, 72, 41]⟩, .string ⟨#[37, 33, 40, 66, 65, 68, 80, 82, 69, 67, 41]⟩, .string ⟨#[37, 33, 40, 68, 69, 80, 84, 72, 41]⟩] 45) = W5 at *
  generalize w4.heap.size = N4 at *
  go_upto_region 5 with (go_at_call 30; refine (reopen_ex _).mono ?_; rintro e w6 ⟨rfl, hw6⟩; subst w6)
  have v0 : ∀ y : Cl W5, y.w.cell? ⟨N4, 0, none⟩ = some (.string ⟨#[37, 33, 40, 78, 79, 86, 69, 82, 66, 41]⟩) := fun y => y.cell e0
  have v1 : ∀ y : Cl W5, y.w.cell? ⟨N4 + 1, 0, none⟩ = some (.string ⟨#[37, 33, 40, 78, 79, 86, 69, 82, 66, 41]⟩) := fun y => y.cell e1
  refine wp_region_above W5 (Below.refl _ _) (by kernel_rfl) (by kernel_rfl) ?_
  intro hCl
  repeat (go_big_quiet_step ((go_at_call 22; exact Cl.call (hL _))))
  refine wpQuiet_nil ?_
  intro _ hw'
  obtain ⟨yy, hy⟩ := hw'
  subst hy
  go_wp2
  go_ret
  exact ⟨rfl, b7.trans (yy.below.mono b7.size)⟩
set_option maxRecDepth 1000000 in
set_option maxHeartbeats 4000000 in
theorem fixed_1 (x : Int) (hx : x.tmod 4 = 1) (hx2 : x % 4 = 1) (w : World) : Calls Try.prog 6 #[.int .u64 x] w fun e w' => e = .returned (.bool true) ∧ Below w.heap.size w w' := by
  have hL := lives10_any
  have ix := fun w => (index_4i w).2.1
  have hcat : ((⟨#[37, 33, 40]⟩ : ByteArray) ++ ⟨#[66, 65, 68, 87, 73, 68, 84, 72]⟩) ++ ⟨#[41]⟩ = ⟨#[37, 33, 40, 66, 65, 68, 87, 73, 68, 84, 72, 41]⟩ := by decide
  have hm : IntKind.u64.wrap 1 = 1 := by decide
  go_enter Try.func6, Try.ntmps6
  go_upto_region 4 with (first
    | (go_at_call 26; refine (bopen_ex _).mono ?_; rintro e w1 ⟨rfl, b1⟩)
    | (go_at_call 27; refine (bwidth_ex _).mono ?_; rintro e w2 ⟨rfl, b2⟩)
    | (go_at_call 28; refine (bprec_ex _).mono ?_; rintro e w3 ⟨rfl, b3⟩)
    | (go_at_call 29; refine (bdepth_ex _).mono ?_; rintro e w4 ⟨rfl, b4⟩))
  have step : ∀ {V V' : World}, Below w.heap.size w V → Below V.heap.size V V' → Below w.heap.size w V' := fun h h' => h.trans (h'.mono h.size)
  have b5 : Below w.heap.size w w4 := step (step (step b1 b2) b3) b4
  have b6 : Below w4.heap.size w4 ((w4.alloc (.cells #[.string ⟨#[37, 33, 40, 78, 79, 86, 69, 82, 66, 41]⟩, .string ⟨#[37, 33, 40, 66, 65, 68, 87, 73, 68, 84, 72, 41]⟩, .string ⟨#[37, 33, 40, 66, 65, 68, 80, 82, 69, 67, 41]⟩, .string ⟨#[37, 33, 40, 68, 69, 80, 84, 72, 41]⟩] 45)).alloc (.cells #[.string ⟨#[37, 33, 40, 78, 79, 86, 69, 82, 66, 41]⟩, .string ⟨#[37, 33, 40, 66, 65, 68, 87, 73, 68, 84, 72, 41]⟩, .string ⟨#[37, 33, 40, 66, 65, 68, 80, 82, 69, 67, 41]⟩, .string ⟨#[37, 33, 40, 68, 69, 80, 84, 72, 41]⟩] 45)) := by go_grown
  have b7 := b5.trans (b6.mono b5.size)
  have e0 : ((w4.alloc (.cells #[.string ⟨#[37, 33, 40, 78, 79, 86, 69, 82, 66, 41]⟩, .string ⟨#[37, 33, 40, 66, 65, 68, 87, 73, 68, 84, 72, 41]⟩, .string ⟨#[37, 33, 40, 66, 65, 68, 80, 82, 69, 67, 41]⟩, .string ⟨#[37, 33, 40, 68, 69, 80, 84, 72, 41]⟩] 45)).alloc (.cells #[.string ⟨#[37, 33, 40, 78, 79, 86, 69, 82, 66, 41]⟩, .string ⟨#[37, 33, 40, 66, 65, 68, 87, 73, 68, 84, 72, 41]⟩, .string ⟨#[37, 33, 40, 66, 65, 68, 80, 82, 69, 67, 41]⟩, .string ⟨#[37, 33, 40, 68, 69, 80, 84, 72, 41]⟩] 45)).cell? ⟨w4.heap.size, 1, none⟩ = some (.string ⟨#[37, 33, 40, 66, 65, 68, 87, 73, 68, 84, 72, 41]⟩) := by simp
  have e1 : ((w4.alloc (.cells #[.string ⟨#[37, 33, 40, 78, 79, 86, 69, 82, 66, 41]⟩, .string ⟨#[37, 33, 40, 66, 65, 68, 87, 73, 68, 84, 72, 41]⟩, .string ⟨#[37, 33, 40, 66, 65, 68, 80, 82, 69, 67, 41]⟩, .string ⟨#[37, 33, 40, 68, 69, 80, 84, 72, 41]⟩] 45)).alloc (.cells #[.string ⟨#[37, 33, 40, 78, 79, 86, 69, 82, 66, 41]⟩, .string ⟨#[37, 33, 40, 66, 65, 68, 87, 73, 68, 84, 72, 41]⟩, .string ⟨#[37, 33, 40, 66, 65, 68, 80, 82, 69, 67, 41]⟩, .string ⟨#[37, 33, 40, 68, 69, 80, 84, 72, 41]⟩] 45)).cell? ⟨w4.heap.size + 1, 1, none⟩ = some (.string ⟨#[37, 33, 40, 66, 65, 68, 87, 73, 68, 84, 72, 41]⟩) := by simp
  generalize (w4.alloc (.cells #[.string ⟨#[37, 33, 40, 78, 79, 86, 69, 82, 66, 41]⟩, .string ⟨#[37, 33, 40, 66, 65, 68, 87, 73, 68, 84, 72, 41]⟩, .string ⟨#[37, 33, 40, 66, 65, 68, 80, 82, 69, 67, 41]⟩, .string ⟨#[37, 33, 40, 68, 69, 80, 84, 72, 41]⟩] 45)).alloc (.cells #[.string ⟨#[37, 33, 40, 78, 79, 86, 69, 82, 66, 41]⟩, .string ⟨#[37, 33, 40, 66, 65, 68, 87, 73, 68, 84, 72, 41]⟩, .string ⟨#[37, 33, 40, 66, 65, 68, 80, 82, 69, 67, 41]⟩, .string ⟨#[37, 33, 40, 68, 69, 80, 84, 72, 41]⟩] 45) = W5 at *
  generalize w4.heap.size = N4 at *
  go_upto_region 5 with (go_at_call 30; refine (rewidth_ex _).mono ?_; rintro e w6 ⟨rfl, hw6⟩; subst w6)
  have v0 : ∀ y : Cl W5, y.w.cell? ⟨N4, 1, none⟩ = some (.string ⟨#[37, 33, 40, 66, 65, 68, 87, 73, 68, 84, 72, 41]⟩) := fun y => y.cell e0
  have v1 : ∀ y : Cl W5, y.w.cell? ⟨N4 + 1, 1, none⟩ = some (.string ⟨#[37, 33, 40, 66, 65, 68, 87, 73, 68, 84, 72, 41]⟩) := fun y => y.cell e1
  refine wp_region_above W5 (Below.refl _ _) (by kernel_rfl) (by kernel_rfl) ?_
  intro hCl
  repeat (go_big_quiet_step ((go_at_call 22; exact Cl.call (hL _))))
  refine wpQuiet_nil ?_
  intro _ hw'
  obtain ⟨yy, hy⟩ := hw'
  subst hy
  go_wp2
  go_ret
  exact ⟨rfl, b7.trans (yy.below.mono b7.size)⟩
set_option maxRecDepth 1000000 in
set_option maxHeartbeats 4000000 in
theorem fixed_2 (x : Int) (hx : x.tmod 4 = 2) (hx2 : x % 4 = 2) (w : World) : Calls Try.prog 6 #[.int .u64 x] w fun e w' => e = .returned (.bool true) ∧ Below w.heap.size w w' := by
  have hL := lives10_any
  have ix := fun w => (index_4i w).2.2.1
  have hcat : ((⟨#[37, 33, 40]⟩ : ByteArray) ++ ⟨#[66, 65, 68, 80, 82, 69, 67]⟩) ++ ⟨#[41]⟩ = ⟨#[37, 33, 40, 66, 65, 68, 80, 82, 69, 67, 41]⟩ := by decide
  have hm : IntKind.u64.wrap 2 = 2 := by decide
  go_enter Try.func6, Try.ntmps6
  go_upto_region 4 with (first
    | (go_at_call 26; refine (bopen_ex _).mono ?_; rintro e w1 ⟨rfl, b1⟩)
    | (go_at_call 27; refine (bwidth_ex _).mono ?_; rintro e w2 ⟨rfl, b2⟩)
    | (go_at_call 28; refine (bprec_ex _).mono ?_; rintro e w3 ⟨rfl, b3⟩)
    | (go_at_call 29; refine (bdepth_ex _).mono ?_; rintro e w4 ⟨rfl, b4⟩))
  have step : ∀ {V V' : World}, Below w.heap.size w V → Below V.heap.size V V' → Below w.heap.size w V' := fun h h' => h.trans (h'.mono h.size)
  have b5 : Below w.heap.size w w4 := step (step (step b1 b2) b3) b4
  have b6 : Below w4.heap.size w4 ((w4.alloc (.cells #[.string ⟨#[37, 33, 40, 78, 79, 86, 69, 82, 66, 41]⟩, .string ⟨#[37, 33, 40, 66, 65, 68, 87, 73, 68, 84, 72, 41]⟩, .string ⟨#[37, 33, 40, 66, 65, 68, 80, 82, 69, 67, 41]⟩, .string ⟨#[37, 33, 40, 68, 69, 80, 84, 72, 41]⟩] 45)).alloc (.cells #[.string ⟨#[37, 33, 40, 78, 79, 86, 69, 82, 66, 41]⟩, .string ⟨#[37, 33, 40, 66, 65, 68, 87, 73, 68, 84, 72, 41]⟩, .string ⟨#[37, 33, 40, 66, 65, 68, 80, 82, 69, 67, 41]⟩, .string ⟨#[37, 33, 40, 68, 69, 80, 84, 72, 41]⟩] 45)) := by go_grown
  have b7 := b5.trans (b6.mono b5.size)
  have e0 : ((w4.alloc (.cells #[.string ⟨#[37, 33, 40, 78, 79, 86, 69, 82, 66, 41]⟩, .string ⟨#[37, 33, 40, 66, 65, 68, 87, 73, 68, 84, 72, 41]⟩, .string ⟨#[37, 33, 40, 66, 65, 68, 80, 82, 69, 67, 41]⟩, .string ⟨#[37, 33, 40, 68, 69, 80, 84, 72, 41]⟩] 45)).alloc (.cells #[.string ⟨#[37, 33, 40, 78, 79, 86, 69, 82, 66, 41]⟩, .string ⟨#[37, 33, 40, 66, 65, 68, 87, 73, 68, 84, 72, 41]⟩, .string ⟨#[37, 33, 40, 66, 65, 68, 80, 82, 69, 67, 41]⟩, .string ⟨#[37, 33, 40, 68, 69, 80, 84, 72, 41]⟩] 45)).cell? ⟨w4.heap.size, 2, none⟩ = some (.string ⟨#[37, 33, 40, 66, 65, 68, 80, 82, 69, 67, 41]⟩) := by simp
  have e1 : ((w4.alloc (.cells #[.string ⟨#[37, 33, 40, 78, 79, 86, 69, 82, 66, 41]⟩, .string ⟨#[37, 33, 40, 66, 65, 68, 87, 73, 68, 84, 72, 41]⟩, .string ⟨#[37, 33, 40, 66, 65, 68, 80, 82, 69, 67, 41]⟩, .string ⟨#[37, 33, 40, 68, 69, 80, 84, 72, 41]⟩] 45)).alloc (.cells #[.string ⟨#[37, 33, 40, 78, 79, 86, 69, 82, 66, 41]⟩, .string ⟨#[37, 33, 40, 66, 65, 68, 87, 73, 68, 84, 72, 41]⟩, .string ⟨#[37, 33, 40, 66, 65, 68, 80, 82, 69, 67, 41]⟩, .string ⟨#[37, 33, 40, 68, 69, 80, 84, 72, 41]⟩] 45)).cell? ⟨w4.heap.size + 1, 2, none⟩ = some (.string ⟨#[37, 33, 40, 66, 65, 68, 80, 82, 69, 67, 41]⟩) := by simp
  generalize (w4.alloc (.cells #[.string ⟨#[37, 33, 40, 78, 79, 86, 69, 82, 66, 41]⟩, .string ⟨#[37, 33, 40, 66, 65, 68, 87, 73, 68, 84, 72, 41]⟩, .string ⟨#[37, 33, 40, 66, 65, 68, 80, 82, 69, 67, 41]⟩, .string ⟨#[37, 33, 40, 68, 69, 80, 84, 72, 41]⟩] 45)).alloc (.cells #[.string ⟨#[37, 33, 40, 78, 79, 86, 69, 82, 66, 41]⟩, .string ⟨#[37, 33, 40, 66, 65, 68, 87, 73, 68, 84, 72, 41]⟩, .string ⟨#[37, 33, 40, 66, 65, 68, 80, 82, 69, 67, 41]⟩, .string ⟨#[37, 33, 40, 68, 69, 80, 84, 72, 41]⟩] 45) = W5 at *
  generalize w4.heap.size = N4 at *
  go_upto_region 5 with (go_at_call 30; refine (reprec_ex _).mono ?_; rintro e w6 ⟨rfl, hw6⟩; subst w6)
  have v0 : ∀ y : Cl W5, y.w.cell? ⟨N4, 2, none⟩ = some (.string ⟨#[37, 33, 40, 66, 65, 68, 80, 82, 69, 67, 41]⟩) := fun y => y.cell e0
  have v1 : ∀ y : Cl W5, y.w.cell? ⟨N4 + 1, 2, none⟩ = some (.string ⟨#[37, 33, 40, 66, 65, 68, 80, 82, 69, 67, 41]⟩) := fun y => y.cell e1
  refine wp_region_above W5 (Below.refl _ _) (by kernel_rfl) (by kernel_rfl) ?_
  intro hCl
  repeat (go_big_quiet_step ((go_at_call 22; exact Cl.call (hL _))))
  refine wpQuiet_nil ?_
  intro _ hw'
  obtain ⟨yy, hy⟩ := hw'
  subst hy
  go_wp2
  go_ret
  exact ⟨rfl, b7.trans (yy.below.mono b7.size)⟩
set_option maxRecDepth 1000000 in
set_option maxHeartbeats 4000000 in
theorem fixed_3 (x : Int) (hx : x.tmod 4 = 3) (hx2 : x % 4 = 3) (w : World) : Calls Try.prog 6 #[.int .u64 x] w fun e w' => e = .returned (.bool true) ∧ Below w.heap.size w w' := by
  have hL := lives10_any
  have ix := fun w => (index_4i w).2.2.2
  have hcat : ((⟨#[37, 33, 40]⟩ : ByteArray) ++ ⟨#[68, 69, 80, 84, 72]⟩) ++ ⟨#[41]⟩ = ⟨#[37, 33, 40, 68, 69, 80, 84, 72, 41]⟩ := by decide
  have hm : IntKind.u64.wrap 3 = 3 := by decide
  go_enter Try.func6, Try.ntmps6
  go_upto_region 4 with (first
    | (go_at_call 26; refine (bopen_ex _).mono ?_; rintro e w1 ⟨rfl, b1⟩)
    | (go_at_call 27; refine (bwidth_ex _).mono ?_; rintro e w2 ⟨rfl, b2⟩)
    | (go_at_call 28; refine (bprec_ex _).mono ?_; rintro e w3 ⟨rfl, b3⟩)
    | (go_at_call 29; refine (bdepth_ex _).mono ?_; rintro e w4 ⟨rfl, b4⟩))
  have step : ∀ {V V' : World}, Below w.heap.size w V → Below V.heap.size V V' → Below w.heap.size w V' := fun h h' => h.trans (h'.mono h.size)
  have b5 : Below w.heap.size w w4 := step (step (step b1 b2) b3) b4
  have b6 : Below w4.heap.size w4 ((w4.alloc (.cells #[.string ⟨#[37, 33, 40, 78, 79, 86, 69, 82, 66, 41]⟩, .string ⟨#[37, 33, 40, 66, 65, 68, 87, 73, 68, 84, 72, 41]⟩, .string ⟨#[37, 33, 40, 66, 65, 68, 80, 82, 69, 67, 41]⟩, .string ⟨#[37, 33, 40, 68, 69, 80, 84, 72, 41]⟩] 45)).alloc (.cells #[.string ⟨#[37, 33, 40, 78, 79, 86, 69, 82, 66, 41]⟩, .string ⟨#[37, 33, 40, 66, 65, 68, 87, 73, 68, 84, 72, 41]⟩, .string ⟨#[37, 33, 40, 66, 65, 68, 80, 82, 69, 67, 41]⟩, .string ⟨#[37, 33, 40, 68, 69, 80, 84, 72, 41]⟩] 45)) := by go_grown
  have b7 := b5.trans (b6.mono b5.size)
  have e0 : ((w4.alloc (.cells #[.string ⟨#[37, 33, 40, 78, 79, 86, 69, 82, 66, 41]⟩, .string ⟨#[37, 33, 40, 66, 65, 68, 87, 73, 68, 84, 72, 41]⟩, .string ⟨#[37, 33, 40, 66, 65, 68, 80, 82, 69, 67, 41]⟩, .string ⟨#[37, 33, 40, 68, 69, 80, 84, 72, 41]⟩] 45)).alloc (.cells #[.string ⟨#[37, 33, 40, 78, 79, 86, 69, 82, 66, 41]⟩, .string ⟨#[37, 33, 40, 66, 65, 68, 87, 73, 68, 84, 72, 41]⟩, .string ⟨#[37, 33, 40, 66, 65, 68, 80, 82, 69, 67, 41]⟩, .string ⟨#[37, 33, 40, 68, 69, 80, 84, 72, 41]⟩] 45)).cell? ⟨w4.heap.size, 3, none⟩ = some (.string ⟨#[37, 33, 40, 68, 69, 80, 84, 72, 41]⟩) := by simp
  have e1 : ((w4.alloc (.cells #[.string ⟨#[37, 33, 40, 78, 79, 86, 69, 82, 66, 41]⟩, .string ⟨#[37, 33, 40, 66, 65, 68, 87, 73, 68, 84, 72, 41]⟩, .string ⟨#[37, 33, 40, 66, 65, 68, 80, 82, 69, 67, 41]⟩, .string ⟨#[37, 33, 40, 68, 69, 80, 84, 72, 41]⟩] 45)).alloc (.cells #[.string ⟨#[37, 33, 40, 78, 79, 86, 69, 82, 66, 41]⟩, .string ⟨#[37, 33, 40, 66, 65, 68, 87, 73, 68, 84, 72, 41]⟩, .string ⟨#[37, 33, 40, 66, 65, 68, 80, 82, 69, 67, 41]⟩, .string ⟨#[37, 33, 40, 68, 69, 80, 84, 72, 41]⟩] 45)).cell? ⟨w4.heap.size + 1, 3, none⟩ = some (.string ⟨#[37, 33, 40, 68, 69, 80, 84, 72, 41]⟩) := by simp
  generalize (w4.alloc (.cells #[.string ⟨#[37, 33, 40, 78, 79, 86, 69, 82, 66, 41]⟩, .string ⟨#[37, 33, 40, 66, 65, 68, 87, 73, 68, 84, 72, 41]⟩, .string ⟨#[37, 33, 40, 66, 65, 68, 80, 82, 69, 67, 41]⟩, .string ⟨#[37, 33, 40, 68, 69, 80, 84, 72, 41]⟩] 45)).alloc (.cells #[.string ⟨#[37, 33, 40, 78, 79, 86, 69, 82, 66, 41]⟩, .string ⟨#[37, 33, 40, 66, 65, 68, 87, 73, 68, 84, 72, 41]⟩, .string ⟨#[37, 33, 40, 66, 65, 68, 80, 82, 69, 67, 41]⟩, .string ⟨#[37, 33, 40, 68, 69, 80, 84, 72, 41]⟩] 45) = W5 at *
  generalize w4.heap.size = N4 at *
  go_upto_region 5 with (go_at_call 30; refine (redepth_ex _).mono ?_; rintro e w6 ⟨rfl, hw6⟩; subst w6)
  have v0 : ∀ y : Cl W5, y.w.cell? ⟨N4, 3, none⟩ = some (.string ⟨#[37, 33, 40, 68, 69, 80, 84, 72, 41]⟩) := fun y => y.cell e0
  have v1 : ∀ y : Cl W5, y.w.cell? ⟨N4 + 1, 3, none⟩ = some (.string ⟨#[37, 33, 40, 68, 69, 80, 84, 72, 41]⟩) := fun y => y.cell e1
  refine wp_region_above W5 (Below.refl _ _) (by kernel_rfl) (by kernel_rfl) ?_
  intro hCl
  repeat (go_big_quiet_step ((go_at_call 22; exact Cl.call (hL _))))
  refine wpQuiet_nil ?_
  intro _ hw'
  obtain ⟨yy, hy⟩ := hw'
  subst hy
  go_wp2
  go_ret
  exact ⟨rfl, b7.trans (yy.below.mono b7.size)⟩
theorem badFixed_walk (x : Int) (hx : (Lit.int .u64 x).wf = true) (w : World) : Calls Try.prog 6 #[.int .u64 x] w fun e w' => e = .returned (.bool true) ∧ Below w.heap.size w w' := by
  have h0 : 0 ≤ x := (wfuB x hx).1
  have ht : x.tmod 4 = x % 4 := Int.tmod_eq_emod_of_nonneg h0
  rcases (by omega : x % 4 = 0 ∨ x % 4 = 1 ∨ x % 4 = 2 ∨ x % 4 = 3) with h | h | h | h
  · exact fixed_0 x (ht.trans h) h w
  · exact fixed_1 x (ht.trans h) h w
  · exact fixed_2 x (ht.trans h) h w
  · exact fixed_3 x (ht.trans h) h w
end Go.Proofs.Ytilgemppbiibkab
