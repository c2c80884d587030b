/- The walk of the law ValuesNumbers. -/
import Derived.Test.YtcabfeehfimooabDoorVNil
namespace Go.Proofs.YtcabfeehfimooabDoor
open Go.RowKit
set_option linter.unusedVariables false
set_option linter.unusedSimpArgs false
theorem fit_b (k b : Int) (h : -9223372036854775808 ≤ k ∧ k ≤ 9223372036854775807) (hb : 0 ≤ b ∧ b ≤ 18446744073709551615) : Fit (D0 k b 0 0 ⟨#[]⟩ ⟨#[]⟩) := fit_0 k b h hb
theorem chk_num (k b : Int) (h2 : 2 ≤ k) (h11 : k ≤ 11) : chk0 (D0 k b 0 0 ⟨#[]⟩ ⟨#[]⟩) = 0 := by
  unfold chk0
  rw [pre0]
  have e1 : ¬ k = 16 := by omega
  have e2 : ¬ k = 17 := by omega
  have e3 : ¬ k = 18 := by omega
  have e4 : ¬ k = 21 := by omega
  have e5 : ¬ k = 22 := by omega
  have e6 : 0 ≤ k := by omega
  have e7 : k ≤ 22 := by omega
  simp [runV, ok1, ok2, ok3, ok4, fitsB, frmB, typedB, allB, sz_nil, e1, e2, e3, e4, e5, e6, e7]
theorem swr_back (b : Int) (h0 : 0 ≤ b) (h1 : b ≤ 18446744073709551615) : swr 18446744073709551616 b % 18446744073709551616 = b := by
  have e : b % 18446744073709551616 = b := Int.emod_eq_of_lt h0 (by omega)
  unfold swr
  rw [e]
  by_cases h : (18446744073709551616 : Int) ≤ 2 * b
  · rw [if_pos h, Int.sub_emod_right, e]
  · rw [if_neg h, e]
theorem wrap_u16 (b : Int) : IntKind.u16.wrap b = b % 65536 := by simp [IntKind.wrap, IntKind.bits, IntKind.signed]
set_option maxRecDepth 1000000 in
set_option maxHeartbeats 4000000 in
theorem num_out (k b : Int) (w : World) (hK : KN w) (hk : -9223372036854775808 ≤ k ∧ k ≤ 9223372036854775807) (hb : 0 ≤ b ∧ b ≤ 18446744073709551615) (hout : k < 2 ∨ 11 < k) :
    Calls Tryd.prog 4 #[.int .i64 k, .int .u64 b] w fun e w' => e = .returned (.bool true) ∧ Below w.heap.size w w' := by
  have hB := buildnil_any k b 0 0 ⟨#[]⟩ ⟨#[]⟩ w (fit_b k b hk hb)
  rcases hout with h2 | h11
  all_goals
    go_enter Tryd.func4, Tryd.ntmps4
    go_wp2_with fail
    refine hB.mono ?_
    rintro e V ⟨hV, (⟨-, v, rfl, -⟩ | ⟨-, rfl⟩)⟩
    · have hl := lives8_any V (hK.up hV)
      go_wp2_with (go_at_call 8; refine hl.mono ?_; rintro e V2 ⟨rfl, hV2⟩)
      go_ret
      exact ⟨rfl, hV.trans (hV2.mono hV.size)⟩
    · have hl := lives8_any V (hK.up hV)
      go_wp2_with (go_at_call 8; refine hl.mono ?_; rintro e V2 ⟨rfl, hV2⟩)
      go_ret
      exact ⟨rfl, hV.trans (hV2.mono hV.size)⟩
theorem raw_2 (b : Int) (hb : 0 ≤ b ∧ b ≤ 18446744073709551615) (W : World) : Calls Tryd.prog 9 #[.iface 72 (.agg #[.int .i64 2, .string ⟨#[]⟩, .int .i64 0, .int .i64 (sgN 2 b)])] W fun e w' => e = .returned (.agg #[.int .i64 2, .string ⟨#[]⟩, .int .u64 (IntKind.u64.wrap (IntKind.i8.wrap b)), .int .u64 0, .string ⟨#[]⟩, .slice none 0 0, .slice none 0 0, .int .i64 0]) ∧ Below W.heap.size W w' := by
  have e : sgN 2 b % 18446744073709551616 = IntKind.u64.wrap (IntKind.i8.wrap b) := by
    rw [wrap_u64, wrap_i8]; rfl
  have r := raw_flat _ 2 0 _ 0 ⟨#[]⟩ ⟨#[]⟩ W (fun W => rawof_signed 2 0 ⟨#[]⟩ (sgN 2 b) W)
  rw [e] at r
  exact r
set_option maxRecDepth 1000000 in
set_option maxHeartbeats 4000000 in
theorem num_2 (b : Int) (w : World) (hK : KN w) (hb : 0 ≤ b ∧ b ≤ 18446744073709551615) :
    Calls Tryd.prog 4 #[.int .i64 2, .int .u64 b] w fun e w' => e = .returned (.bool true) ∧ Below w.heap.size w w' := by
  have hB := build0 2 b 0 0 ⟨#[]⟩ ⟨#[]⟩ w (fit_b 2 b (by omega) hb) (by omega) (by omega) (chk_num 2 b (by omega) (by omega))
  have hR := fun W => raw_2 b hb W
  have fb := field_2
  have hB2 : Calls Tryd.prog 7 #[.agg #[.int .i64 2, .string ⟨#[]⟩, .int .u64 b, .int .u64 0, .string ⟨#[]⟩, .slice none 0 0, .slice none 0 0, .int .i64 0]] w fun e w' => e = .returned (.tuple #[.iface 72 (.agg #[.int .i64 2, .string ⟨#[]⟩, .int .i64 0, .int .i64 (sgN 2 b)]), .int .i64 0]) ∧ Below w.heap.size w w' := hB
  have hl := fun (V : World) (hV : Below w.heap.size w V) => lives8_any V (hK.up hV)
  clear hB hK
  go_enter Tryd.func4, Tryd.ntmps4
  go_wp2_with fail
  refine hB2.mono ?_
  rintro e V ⟨rfl, hV⟩
  go_wp2_with fail
  refine (hR V).mono ?_
  rintro e V2 ⟨rfl, hV2⟩
  have hb2 : Below w.heap.size w V2 := hV.trans (hV2.mono hV.size)
  have hl2 := hl V2 hb2
  go_wp2_with (go_at_call 8; refine hl2.mono ?_; rintro e V3 ⟨rfl, hV3⟩)
  go_ret
  exact ⟨rfl, hb2.trans (hV3.mono hb2.size)⟩
theorem raw_3 (b : Int) (hb : 0 ≤ b ∧ b ≤ 18446744073709551615) (W : World) : Calls Tryd.prog 9 #[.iface 72 (.agg #[.int .i64 3, .string ⟨#[]⟩, .int .i64 0, .int .i64 (sgN 3 b)])] W fun e w' => e = .returned (.agg #[.int .i64 3, .string ⟨#[]⟩, .int .u64 (IntKind.u64.wrap (IntKind.i16.wrap b)), .int .u64 0, .string ⟨#[]⟩, .slice none 0 0, .slice none 0 0, .int .i64 0]) ∧ Below W.heap.size W w' := by
  have e : sgN 3 b % 18446744073709551616 = IntKind.u64.wrap (IntKind.i16.wrap b) := by
    rw [wrap_u64, wrap_i16]; rfl
  have r := raw_flat _ 3 0 _ 0 ⟨#[]⟩ ⟨#[]⟩ W (fun W => rawof_signed 3 0 ⟨#[]⟩ (sgN 3 b) W)
  rw [e] at r
  exact r
set_option maxRecDepth 1000000 in
set_option maxHeartbeats 4000000 in
theorem num_3 (b : Int) (w : World) (hK : KN w) (hb : 0 ≤ b ∧ b ≤ 18446744073709551615) :
    Calls Tryd.prog 4 #[.int .i64 3, .int .u64 b] w fun e w' => e = .returned (.bool true) ∧ Below w.heap.size w w' := by
  have hB := build0 3 b 0 0 ⟨#[]⟩ ⟨#[]⟩ w (fit_b 3 b (by omega) hb) (by omega) (by omega) (chk_num 3 b (by omega) (by omega))
  have hR := fun W => raw_3 b hb W
  have fb := field_2
  have hB2 : Calls Tryd.prog 7 #[.agg #[.int .i64 3, .string ⟨#[]⟩, .int .u64 b, .int .u64 0, .string ⟨#[]⟩, .slice none 0 0, .slice none 0 0, .int .i64 0]] w fun e w' => e = .returned (.tuple #[.iface 72 (.agg #[.int .i64 3, .string ⟨#[]⟩, .int .i64 0, .int .i64 (sgN 3 b)]), .int .i64 0]) ∧ Below w.heap.size w w' := hB
  have hl := fun (V : World) (hV : Below w.heap.size w V) => lives8_any V (hK.up hV)
  clear hB hK
  go_enter Tryd.func4, Tryd.ntmps4
  go_wp2_with fail
  refine hB2.mono ?_
  rintro e V ⟨rfl, hV⟩
  go_wp2_with fail
  refine (hR V).mono ?_
  rintro e V2 ⟨rfl, hV2⟩
  have hb2 : Below w.heap.size w V2 := hV.trans (hV2.mono hV.size)
  have hl2 := hl V2 hb2
  go_wp2_with (go_at_call 8; refine hl2.mono ?_; rintro e V3 ⟨rfl, hV3⟩)
  go_ret
  exact ⟨rfl, hb2.trans (hV3.mono hb2.size)⟩
theorem raw_4 (b : Int) (hb : 0 ≤ b ∧ b ≤ 18446744073709551615) (W : World) : Calls Tryd.prog 9 #[.iface 72 (.agg #[.int .i64 4, .string ⟨#[]⟩, .int .i64 0, .int .i64 (sgN 4 b)])] W fun e w' => e = .returned (.agg #[.int .i64 4, .string ⟨#[]⟩, .int .u64 (IntKind.u64.wrap (wrap32 b)), .int .u64 0, .string ⟨#[]⟩, .slice none 0 0, .slice none 0 0, .int .i64 0]) ∧ Below W.heap.size W w' := by
  have e : sgN 4 b % 18446744073709551616 = IntKind.u64.wrap (wrap32 b) := by
    rw [wrap_u64]; have : wrap32 b = swr 4294967296 b := (by unfold swr wrap32; split <;> omega); rw [this]; rfl
  have r := raw_flat _ 4 0 _ 0 ⟨#[]⟩ ⟨#[]⟩ W (fun W => rawof_signed 4 0 ⟨#[]⟩ (sgN 4 b) W)
  rw [e] at r
  exact r
set_option maxRecDepth 1000000 in
set_option maxHeartbeats 4000000 in
theorem num_4 (b : Int) (w : World) (hK : KN w) (hb : 0 ≤ b ∧ b ≤ 18446744073709551615) :
    Calls Tryd.prog 4 #[.int .i64 4, .int .u64 b] w fun e w' => e = .returned (.bool true) ∧ Below w.heap.size w w' := by
  have hB := build0 4 b 0 0 ⟨#[]⟩ ⟨#[]⟩ w (fit_b 4 b (by omega) hb) (by omega) (by omega) (chk_num 4 b (by omega) (by omega))
  have hR := fun W => raw_4 b hb W
  have fb := field_2
  have hB2 : Calls Tryd.prog 7 #[.agg #[.int .i64 4, .string ⟨#[]⟩, .int .u64 b, .int .u64 0, .string ⟨#[]⟩, .slice none 0 0, .slice none 0 0, .int .i64 0]] w fun e w' => e = .returned (.tuple #[.iface 72 (.agg #[.int .i64 4, .string ⟨#[]⟩, .int .i64 0, .int .i64 (sgN 4 b)]), .int .i64 0]) ∧ Below w.heap.size w w' := hB
  have hl := fun (V : World) (hV : Below w.heap.size w V) => lives8_any V (hK.up hV)
  clear hB hK
  go_enter Tryd.func4, Tryd.ntmps4
  go_wp2_with fail
  refine hB2.mono ?_
  rintro e V ⟨rfl, hV⟩
  go_wp2_with fail
  refine (hR V).mono ?_
  rintro e V2 ⟨rfl, hV2⟩
  have hb2 : Below w.heap.size w V2 := hV.trans (hV2.mono hV.size)
  have hl2 := hl V2 hb2
  go_wp2_with (go_at_call 8; refine hl2.mono ?_; rintro e V3 ⟨rfl, hV3⟩)
  go_ret
  exact ⟨rfl, hb2.trans (hV3.mono hb2.size)⟩
theorem raw_5 (b : Int) (hb : 0 ≤ b ∧ b ≤ 18446744073709551615) (W : World) : Calls Tryd.prog 9 #[.iface 72 (.agg #[.int .i64 5, .string ⟨#[]⟩, .int .i64 0, .int .i64 (sgN 5 b)])] W fun e w' => e = .returned (.agg #[.int .i64 5, .string ⟨#[]⟩, .int .u64 (b), .int .u64 0, .string ⟨#[]⟩, .slice none 0 0, .slice none 0 0, .int .i64 0]) ∧ Below W.heap.size W w' := by
  have e : sgN 5 b % 18446744073709551616 = b := by
    exact swr_back b hb.1 hb.2
  have r := raw_flat _ 5 0 _ 0 ⟨#[]⟩ ⟨#[]⟩ W (fun W => rawof_signed 5 0 ⟨#[]⟩ (sgN 5 b) W)
  rw [e] at r
  exact r
set_option maxRecDepth 1000000 in
set_option maxHeartbeats 4000000 in
theorem num_5 (b : Int) (w : World) (hK : KN w) (hb : 0 ≤ b ∧ b ≤ 18446744073709551615) :
    Calls Tryd.prog 4 #[.int .i64 5, .int .u64 b] w fun e w' => e = .returned (.bool true) ∧ Below w.heap.size w w' := by
  have hB := build0 5 b 0 0 ⟨#[]⟩ ⟨#[]⟩ w (fit_b 5 b (by omega) hb) (by omega) (by omega) (chk_num 5 b (by omega) (by omega))
  have hR := fun W => raw_5 b hb W
  have fb := field_2
  have hB2 : Calls Tryd.prog 7 #[.agg #[.int .i64 5, .string ⟨#[]⟩, .int .u64 b, .int .u64 0, .string ⟨#[]⟩, .slice none 0 0, .slice none 0 0, .int .i64 0]] w fun e w' => e = .returned (.tuple #[.iface 72 (.agg #[.int .i64 5, .string ⟨#[]⟩, .int .i64 0, .int .i64 (sgN 5 b)]), .int .i64 0]) ∧ Below w.heap.size w w' := hB
  have hl := fun (V : World) (hV : Below w.heap.size w V) => lives8_any V (hK.up hV)
  clear hB hK
  go_enter Tryd.func4, Tryd.ntmps4
  go_wp2_with fail
  refine hB2.mono ?_
  rintro e V ⟨rfl, hV⟩
  go_wp2_with fail
  refine (hR V).mono ?_
  rintro e V2 ⟨rfl, hV2⟩
  have hb2 : Below w.heap.size w V2 := hV.trans (hV2.mono hV.size)
  have hl2 := hl V2 hb2
  go_wp2_with (go_at_call 8; refine hl2.mono ?_; rintro e V3 ⟨rfl, hV3⟩)
  go_ret
  exact ⟨rfl, hb2.trans (hV3.mono hb2.size)⟩
theorem raw_6 (b : Int) (hb : 0 ≤ b ∧ b ≤ 18446744073709551615) (W : World) : Calls Tryd.prog 9 #[.iface 72 (.agg #[.int .i64 6, .string ⟨#[]⟩, .int .i64 0, .int .i64 (sgN 6 b)])] W fun e w' => e = .returned (.agg #[.int .i64 6, .string ⟨#[]⟩, .int .u64 (b), .int .u64 0, .string ⟨#[]⟩, .slice none 0 0, .slice none 0 0, .int .i64 0]) ∧ Below W.heap.size W w' := by
  have e : sgN 6 b % 18446744073709551616 = b := by
    exact swr_back b hb.1 hb.2
  have r := raw_flat _ 6 0 _ 0 ⟨#[]⟩ ⟨#[]⟩ W (fun W => rawof_signed 6 0 ⟨#[]⟩ (sgN 6 b) W)
  rw [e] at r
  exact r
set_option maxRecDepth 1000000 in
set_option maxHeartbeats 4000000 in
theorem num_6 (b : Int) (w : World) (hK : KN w) (hb : 0 ≤ b ∧ b ≤ 18446744073709551615) :
    Calls Tryd.prog 4 #[.int .i64 6, .int .u64 b] w fun e w' => e = .returned (.bool true) ∧ Below w.heap.size w w' := by
  have hB := build0 6 b 0 0 ⟨#[]⟩ ⟨#[]⟩ w (fit_b 6 b (by omega) hb) (by omega) (by omega) (chk_num 6 b (by omega) (by omega))
  have hR := fun W => raw_6 b hb W
  have fb := field_2
  have hB2 : Calls Tryd.prog 7 #[.agg #[.int .i64 6, .string ⟨#[]⟩, .int .u64 b, .int .u64 0, .string ⟨#[]⟩, .slice none 0 0, .slice none 0 0, .int .i64 0]] w fun e w' => e = .returned (.tuple #[.iface 72 (.agg #[.int .i64 6, .string ⟨#[]⟩, .int .i64 0, .int .i64 (sgN 6 b)]), .int .i64 0]) ∧ Below w.heap.size w w' := hB
  have hl := fun (V : World) (hV : Below w.heap.size w V) => lives8_any V (hK.up hV)
  clear hB hK
  go_enter Tryd.func4, Tryd.ntmps4
  go_wp2_with fail
  refine hB2.mono ?_
  rintro e V ⟨rfl, hV⟩
  go_wp2_with fail
  refine (hR V).mono ?_
  rintro e V2 ⟨rfl, hV2⟩
  have hb2 : Below w.heap.size w V2 := hV.trans (hV2.mono hV.size)
  have hl2 := hl V2 hb2
  go_wp2_with (go_at_call 8; refine hl2.mono ?_; rintro e V3 ⟨rfl, hV3⟩)
  go_ret
  exact ⟨rfl, hb2.trans (hV3.mono hb2.size)⟩
theorem raw_7 (b : Int) (hb : 0 ≤ b ∧ b ≤ 18446744073709551615) (W : World) : Calls Tryd.prog 9 #[.iface 75 (.agg #[.int .i64 7, .string ⟨#[]⟩, .int .i64 0, .int .u64 (unN 7 b)])] W fun e w' => e = .returned (.agg #[.int .i64 7, .string ⟨#[]⟩, .int .u64 (b % 256), .int .u64 0, .string ⟨#[]⟩, .slice none 0 0, .slice none 0 0, .int .i64 0]) ∧ Below W.heap.size W w' := by
  have e : unN 7 b = b % 256 := by
    rfl
  rw [← e]
  exact raw_flat _ 7 0 _ 0 ⟨#[]⟩ ⟨#[]⟩ W (fun W => rawof_unsigned 7 0 ⟨#[]⟩ (unN 7 b) W)
set_option maxRecDepth 1000000 in
set_option maxHeartbeats 4000000 in
theorem num_7 (b : Int) (w : World) (hK : KN w) (hb : 0 ≤ b ∧ b ≤ 18446744073709551615) :
    Calls Tryd.prog 4 #[.int .i64 7, .int .u64 b] w fun e w' => e = .returned (.bool true) ∧ Below w.heap.size w w' := by
  have hB := build0 7 b 0 0 ⟨#[]⟩ ⟨#[]⟩ w (fit_b 7 b (by omega) hb) (by omega) (by omega) (chk_num 7 b (by omega) (by omega))
  have hR := fun W => raw_7 b hb W
  have fb := field_2
  have hB2 : Calls Tryd.prog 7 #[.agg #[.int .i64 7, .string ⟨#[]⟩, .int .u64 b, .int .u64 0, .string ⟨#[]⟩, .slice none 0 0, .slice none 0 0, .int .i64 0]] w fun e w' => e = .returned (.tuple #[.iface 75 (.agg #[.int .i64 7, .string ⟨#[]⟩, .int .i64 0, .int .u64 (unN 7 b)]), .int .i64 0]) ∧ Below w.heap.size w w' := hB
  have hl := fun (V : World) (hV : Below w.heap.size w V) => lives8_any V (hK.up hV)
  clear hB hK
  go_enter Tryd.func4, Tryd.ntmps4
  go_wp2_with fail
  refine hB2.mono ?_
  rintro e V ⟨rfl, hV⟩
  go_wp2_with fail
  refine (hR V).mono ?_
  rintro e V2 ⟨rfl, hV2⟩
  have hb2 : Below w.heap.size w V2 := hV.trans (hV2.mono hV.size)
  have hl2 := hl V2 hb2
  go_wp2_with (go_at_call 8; refine hl2.mono ?_; rintro e V3 ⟨rfl, hV3⟩)
  go_ret
  exact ⟨rfl, hb2.trans (hV3.mono hb2.size)⟩
theorem raw_8 (b : Int) (hb : 0 ≤ b ∧ b ≤ 18446744073709551615) (W : World) : Calls Tryd.prog 9 #[.iface 75 (.agg #[.int .i64 8, .string ⟨#[]⟩, .int .i64 0, .int .u64 (unN 8 b)])] W fun e w' => e = .returned (.agg #[.int .i64 8, .string ⟨#[]⟩, .int .u64 (IntKind.u64.wrap (IntKind.u16.wrap b)), .int .u64 0, .string ⟨#[]⟩, .slice none 0 0, .slice none 0 0, .int .i64 0]) ∧ Below W.heap.size W w' := by
  have e : unN 8 b = IntKind.u64.wrap (IntKind.u16.wrap b) := by
    rw [wrap_u64, wrap_u16]; show b % 65536 = _; omega
  rw [← e]
  exact raw_flat _ 8 0 _ 0 ⟨#[]⟩ ⟨#[]⟩ W (fun W => rawof_unsigned 8 0 ⟨#[]⟩ (unN 8 b) W)
set_option maxRecDepth 1000000 in
set_option maxHeartbeats 4000000 in
theorem num_8 (b : Int) (w : World) (hK : KN w) (hb : 0 ≤ b ∧ b ≤ 18446744073709551615) :
    Calls Tryd.prog 4 #[.int .i64 8, .int .u64 b] w fun e w' => e = .returned (.bool true) ∧ Below w.heap.size w w' := by
  have hB := build0 8 b 0 0 ⟨#[]⟩ ⟨#[]⟩ w (fit_b 8 b (by omega) hb) (by omega) (by omega) (chk_num 8 b (by omega) (by omega))
  have hR := fun W => raw_8 b hb W
  have fb := field_2
  have hB2 : Calls Tryd.prog 7 #[.agg #[.int .i64 8, .string ⟨#[]⟩, .int .u64 b, .int .u64 0, .string ⟨#[]⟩, .slice none 0 0, .slice none 0 0, .int .i64 0]] w fun e w' => e = .returned (.tuple #[.iface 75 (.agg #[.int .i64 8, .string ⟨#[]⟩, .int .i64 0, .int .u64 (unN 8 b)]), .int .i64 0]) ∧ Below w.heap.size w w' := hB
  have hl := fun (V : World) (hV : Below w.heap.size w V) => lives8_any V (hK.up hV)
  clear hB hK
  go_enter Tryd.func4, Tryd.ntmps4
  go_wp2_with fail
  refine hB2.mono ?_
  rintro e V ⟨rfl, hV⟩
  go_wp2_with fail
  refine (hR V).mono ?_
  rintro e V2 ⟨rfl, hV2⟩
  have hb2 : Below w.heap.size w V2 := hV.trans (hV2.mono hV.size)
  have hl2 := hl V2 hb2
  go_wp2_with (go_at_call 8; refine hl2.mono ?_; rintro e V3 ⟨rfl, hV3⟩)
  go_ret
  exact ⟨rfl, hb2.trans (hV3.mono hb2.size)⟩
theorem raw_9 (b : Int) (hb : 0 ≤ b ∧ b ≤ 18446744073709551615) (W : World) : Calls Tryd.prog 9 #[.iface 75 (.agg #[.int .i64 9, .string ⟨#[]⟩, .int .i64 0, .int .u64 (unN 9 b)])] W fun e w' => e = .returned (.agg #[.int .i64 9, .string ⟨#[]⟩, .int .u64 (b % 4294967296), .int .u64 0, .string ⟨#[]⟩, .slice none 0 0, .slice none 0 0, .int .i64 0]) ∧ Below W.heap.size W w' := by
  have e : unN 9 b = b % 4294967296 := by
    rfl
  rw [← e]
  exact raw_flat _ 9 0 _ 0 ⟨#[]⟩ ⟨#[]⟩ W (fun W => rawof_unsigned 9 0 ⟨#[]⟩ (unN 9 b) W)
set_option maxRecDepth 1000000 in
set_option maxHeartbeats 4000000 in
theorem num_9 (b : Int) (w : World) (hK : KN w) (hb : 0 ≤ b ∧ b ≤ 18446744073709551615) :
    Calls Tryd.prog 4 #[.int .i64 9, .int .u64 b] w fun e w' => e = .returned (.bool true) ∧ Below w.heap.size w w' := by
  have hB := build0 9 b 0 0 ⟨#[]⟩ ⟨#[]⟩ w (fit_b 9 b (by omega) hb) (by omega) (by omega) (chk_num 9 b (by omega) (by omega))
  have hR := fun W => raw_9 b hb W
  have fb := field_2
  have hB2 : Calls Tryd.prog 7 #[.agg #[.int .i64 9, .string ⟨#[]⟩, .int .u64 b, .int .u64 0, .string ⟨#[]⟩, .slice none 0 0, .slice none 0 0, .int .i64 0]] w fun e w' => e = .returned (.tuple #[.iface 75 (.agg #[.int .i64 9, .string ⟨#[]⟩, .int .i64 0, .int .u64 (unN 9 b)]), .int .i64 0]) ∧ Below w.heap.size w w' := hB
  have hl := fun (V : World) (hV : Below w.heap.size w V) => lives8_any V (hK.up hV)
  clear hB hK
  go_enter Tryd.func4, Tryd.ntmps4
  go_wp2_with fail
  refine hB2.mono ?_
  rintro e V ⟨rfl, hV⟩
  go_wp2_with fail
  refine (hR V).mono ?_
  rintro e V2 ⟨rfl, hV2⟩
  have hb2 : Below w.heap.size w V2 := hV.trans (hV2.mono hV.size)
  have hl2 := hl V2 hb2
  go_wp2_with (go_at_call 8; refine hl2.mono ?_; rintro e V3 ⟨rfl, hV3⟩)
  go_ret
  exact ⟨rfl, hb2.trans (hV3.mono hb2.size)⟩
theorem raw_10 (b : Int) (hb : 0 ≤ b ∧ b ≤ 18446744073709551615) (W : World) : Calls Tryd.prog 9 #[.iface 75 (.agg #[.int .i64 10, .string ⟨#[]⟩, .int .i64 0, .int .u64 (unN 10 b)])] W fun e w' => e = .returned (.agg #[.int .i64 10, .string ⟨#[]⟩, .int .u64 (b), .int .u64 0, .string ⟨#[]⟩, .slice none 0 0, .slice none 0 0, .int .i64 0]) ∧ Below W.heap.size W w' := by
  have e : unN 10 b = b := by
    rfl
  rw [← e]
  exact raw_flat _ 10 0 _ 0 ⟨#[]⟩ ⟨#[]⟩ W (fun W => rawof_unsigned 10 0 ⟨#[]⟩ (unN 10 b) W)
set_option maxRecDepth 1000000 in
set_option maxHeartbeats 4000000 in
theorem num_10 (b : Int) (w : World) (hK : KN w) (hb : 0 ≤ b ∧ b ≤ 18446744073709551615) :
    Calls Tryd.prog 4 #[.int .i64 10, .int .u64 b] w fun e w' => e = .returned (.bool true) ∧ Below w.heap.size w w' := by
  have hB := build0 10 b 0 0 ⟨#[]⟩ ⟨#[]⟩ w (fit_b 10 b (by omega) hb) (by omega) (by omega) (chk_num 10 b (by omega) (by omega))
  have hR := fun W => raw_10 b hb W
  have fb := field_2
  have hB2 : Calls Tryd.prog 7 #[.agg #[.int .i64 10, .string ⟨#[]⟩, .int .u64 b, .int .u64 0, .string ⟨#[]⟩, .slice none 0 0, .slice none 0 0, .int .i64 0]] w fun e w' => e = .returned (.tuple #[.iface 75 (.agg #[.int .i64 10, .string ⟨#[]⟩, .int .i64 0, .int .u64 (unN 10 b)]), .int .i64 0]) ∧ Below w.heap.size w w' := hB
  have hl := fun (V : World) (hV : Below w.heap.size w V) => lives8_any V (hK.up hV)
  clear hB hK
  go_enter Tryd.func4, Tryd.ntmps4
  go_wp2_with fail
  refine hB2.mono ?_
  rintro e V ⟨rfl, hV⟩
  go_wp2_with fail
  refine (hR V).mono ?_
  rintro e V2 ⟨rfl, hV2⟩
  have hb2 : Below w.heap.size w V2 := hV.trans (hV2.mono hV.size)
  have hl2 := hl V2 hb2
  go_wp2_with (go_at_call 8; refine hl2.mono ?_; rintro e V3 ⟨rfl, hV3⟩)
  go_ret
  exact ⟨rfl, hb2.trans (hV3.mono hb2.size)⟩
theorem raw_11 (b : Int) (hb : 0 ≤ b ∧ b ≤ 18446744073709551615) (W : World) : Calls Tryd.prog 9 #[.iface 75 (.agg #[.int .i64 11, .string ⟨#[]⟩, .int .i64 0, .int .u64 (unN 11 b)])] W fun e w' => e = .returned (.agg #[.int .i64 11, .string ⟨#[]⟩, .int .u64 (b), .int .u64 0, .string ⟨#[]⟩, .slice none 0 0, .slice none 0 0, .int .i64 0]) ∧ Below W.heap.size W w' := by
  have e : unN 11 b = b := by
    rfl
  rw [← e]
  exact raw_flat _ 11 0 _ 0 ⟨#[]⟩ ⟨#[]⟩ W (fun W => rawof_unsigned 11 0 ⟨#[]⟩ (unN 11 b) W)
set_option maxRecDepth 1000000 in
set_option maxHeartbeats 4000000 in
theorem num_11 (b : Int) (w : World) (hK : KN w) (hb : 0 ≤ b ∧ b ≤ 18446744073709551615) :
    Calls Tryd.prog 4 #[.int .i64 11, .int .u64 b] w fun e w' => e = .returned (.bool true) ∧ Below w.heap.size w w' := by
  have hB := build0 11 b 0 0 ⟨#[]⟩ ⟨#[]⟩ w (fit_b 11 b (by omega) hb) (by omega) (by omega) (chk_num 11 b (by omega) (by omega))
  have hR := fun W => raw_11 b hb W
  have fb := field_2
  have hB2 : Calls Tryd.prog 7 #[.agg #[.int .i64 11, .string ⟨#[]⟩, .int .u64 b, .int .u64 0, .string ⟨#[]⟩, .slice none 0 0, .slice none 0 0, .int .i64 0]] w fun e w' => e = .returned (.tuple #[.iface 75 (.agg #[.int .i64 11, .string ⟨#[]⟩, .int .i64 0, .int .u64 (unN 11 b)]), .int .i64 0]) ∧ Below w.heap.size w w' := hB
  have hl := fun (V : World) (hV : Below w.heap.size w V) => lives8_any V (hK.up hV)
  clear hB hK
  go_enter Tryd.func4, Tryd.ntmps4
  go_wp2_with fail
  refine hB2.mono ?_
  rintro e V ⟨rfl, hV⟩
  go_wp2_with fail
  refine (hR V).mono ?_
  rintro e V2 ⟨rfl, hV2⟩
  have hb2 : Below w.heap.size w V2 := hV.trans (hV2.mono hV.size)
  have hl2 := hl V2 hb2
  go_wp2_with (go_at_call 8; refine hl2.mono ?_; rintro e V3 ⟨rfl, hV3⟩)
  go_ret
  exact ⟨rfl, hb2.trans (hV3.mono hb2.size)⟩
theorem valuesNumbers_walk (k : Int) (hk : (Lit.int .i64 k).wf = true) (b : Int) (hb : (Lit.int .u64 b).wf = true) (w : World) (hK : KN w) :
    Calls Tryd.prog 4 #[.int .i64 k, .int .u64 b] w fun e w' => e = .returned (.bool true) ∧ Below w.heap.size w w' := by
  have hk' : -9223372036854775808 ≤ k ∧ k ≤ 9223372036854775807 := by
    simpa [Lit.wf, IntKind.min, IntKind.max, IntKind.signed, IntKind.bits] using hk
  have hb' : 0 ≤ b ∧ b ≤ 18446744073709551615 := by
    simpa [Lit.wf, IntKind.min, IntKind.max, IntKind.signed, IntKind.bits] using hb
  by_cases hout : k < 2 ∨ 11 < k
  · exact num_out k b w hK hk' hb' hout
  · have h : k = 2 ∨ k = 3 ∨ k = 4 ∨ k = 5 ∨ k = 6 ∨ k = 7 ∨ k = 8 ∨ k = 9 ∨ k = 10 ∨ k = 11 := by omega
    rcases h with rfl | rfl | rfl | rfl | rfl | rfl | rfl | rfl | rfl | rfl
    · exact num_2 b w hK hb'
    · exact num_3 b w hK hb'
    · exact num_4 b w hK hb'
    · exact num_5 b w hK hb'
    · exact num_6 b w hK hb'
    · exact num_7 b w hK hb'
    · exact num_8 b w hK hb'
    · exact num_9 b w hK hb'
    · exact num_10 b w hK hb'
    · exact num_11 b w hK hb'
end Go.Proofs.YtcabfeehfimooabDoor
