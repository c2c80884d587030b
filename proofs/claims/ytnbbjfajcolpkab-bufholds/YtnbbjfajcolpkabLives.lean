/- The walk of lives: the document's examples of layer 1 are as it says. -/
import Derived.Test.YtnbbjfajcolpkabPad
import Derived.Test.YtnbbjfajcolpkabDecode
namespace Go.Proofs.Ytnbbjfajcolpkab
open Go.RowKit

theorem lv_dec : dec ⟨#[255]⟩ = (65533, 1) := by decide +kernel
theorem lv_enc : Utf8.encode 233 = ⟨#[195, 169]⟩ := by decide +kernel
theorem lv_cnt : cntR ⟨#[195, 169, 230, 151, 165]⟩ = 2 := by decide +kernel
theorem lv_pad : padS ⟨#[195, 169]⟩ false true 3 = ⟨#[48, 48, 195, 169]⟩ := by decide +kernel

theorem lv_decode (w : World) : Calls Try.prog 18 #[.string ⟨#[255]⟩] w fun e w' => e = .returned (.tuple #[.int .i32 65533, .int .i64 1]) ∧ Below w.heap.size w w' := by
  refine (decode_any ⟨#[255]⟩ w).mono ?_
  rintro e w' ⟨rfl, hb⟩
  rw [lv_dec]
  exact ⟨rfl, hb⟩
theorem lv_rune (w : World) : Calls Try.prog 19 #[.int .i32 233] w fun e w' => e = .returned (.string ⟨#[195, 169]⟩) ∧ w' = w := by
  refine (rune_any 233 w).mono ?_
  rintro e w' ⟨rfl, hb⟩
  rw [lv_enc]
  exact ⟨rfl, hb⟩
theorem lv_count (w : World) : Calls Try.prog 21 #[.string ⟨#[195, 169, 230, 151, 165]⟩] w fun e w' => e = .returned (.int .i64 2) ∧ Below w.heap.size w w' := by
  refine (count_any _ w (by decide)).mono ?_
  rintro e w' ⟨rfl, hb⟩
  rw [lv_cnt]
  exact ⟨rfl, hb⟩
theorem lv_padded (w : World) : Calls Try.prog 23 #[.string ⟨#[195, 169]⟩, .agg #[.bool false, .bool false, .bool false, .bool false, .bool true, .int .i64 3, .int .i64 0, .int .i32 0]] w fun e w' => e = .returned (.string ⟨#[48, 48, 195, 169]⟩) ∧ Below w.heap.size w w' := by
  refine (pad_any _ _ _ _ _ _ _ _ _ w (by decide)).mono ?_
  rintro e w' ⟨rfl, hb⟩
  rw [lv_pad]
  exact ⟨rfl, hb⟩

set_option maxRecDepth 1000000 in
set_option maxHeartbeats 400000 in
theorem lives_any (w : World) :
    Calls Try.prog 17 #[] w fun e w' => e = .returned (.bool true) ∧ Below w.heap.size w w' := by
  go_enter Try.func17, Try.ntmps17
  go_wp2_with (first | (go_at_call 18; refine (lv_decode _).mono ?_; rintro e w1 ⟨rfl, hb1⟩) | (go_at_call 19; refine (lv_rune _).mono ?_; rintro e w2 ⟨rfl, rfl⟩) | (go_at_call 21; refine (lv_count _).mono ?_; rintro e w3 ⟨rfl, hb3⟩) | (go_at_call 23; refine (lv_padded _).mono ?_; rintro e w4 ⟨rfl, hb4⟩))
  go_ret
  exact ⟨rfl, hb1.trans ((hb3.trans (hb4.mono hb3.size)).mono hb1.size)⟩
end Go.Proofs.Ytnbbjfajcolpkab
