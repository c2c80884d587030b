/- The walks of package short's small functions. -/
import Derived.Test.YthbabhbfpcfenabDoorSFacts
import Derived.Laws.BitsAllLaws
namespace Go.Proofs.YthbabhbfpcfenabDoor
open Go.RowKit
set_option linter.unusedVariables false
set_option linter.unusedSimpArgs false

theorem and_top (a n : Nat) : a &&& 2 ^ n = a / 2 ^ n % 2 * 2 ^ n := by
  apply Nat.eq_of_testBit_eq
  intro i
  rw [Nat.testBit_and, Nat.testBit_two_pow]
  rcases Nat.mod_two_eq_zero_or_one (a / 2 ^ n) with h | h
  · rw [h, Nat.zero_mul, Nat.zero_testBit]
    by_cases hi : n = i
    · subst hi
      rw [Nat.testBit_eq_decide_div_mod_eq, h]; rfl
    · simp [hi]
  · rw [h, Nat.one_mul, Nat.testBit_two_pow]
    by_cases hi : n = i
    · subst hi
      rw [Nat.testBit_eq_decide_div_mod_eq, h]; simp
    · simp [hi]
theorem bits_top (a n T : Nat) (h : a < 18446744073709551616) (hT : T = 2 ^ n) (hT2 : T < 18446744073709551616) : bits .and .u64 (a : Int) (T : Int) = ((a / T % 2 * T : Nat) : Int) := by
  rw [u64_and_nat a T h hT2, hT, and_top]
theorem bits_low (a n T : Nat) (h : a < 18446744073709551616) (hT : T + 1 = 2 ^ n) (hT2 : T < 18446744073709551616) : bits .and .u64 (a : Int) (T : Int) = ((a % (T + 1) : Nat) : Int) := by
  rw [u64_and_nat a T h hT2, show T = 2 ^ n - 1 by omega, Nat.and_two_pow_sub_one_eq_mod, show 2 ^ n - 1 + 1 = 2 ^ n by omega]
/-- The two layouts: bits of F, bits of E, the least e, the pattern of Inf. -/
def Ly (size : Int) (f w : Nat) (least : Int) (I : Nat) : Prop := (size = 32 ∧ f = 23 ∧ w = 8 ∧ least = -149 ∧ I = 2139095040) ∨ (size = 64 ∧ f = 52 ∧ w = 11 ∧ least = -1074 ∧ I = 9218868437227405312)
set_option maxRecDepth 1000000 in
theorem layout_no (size : Int) (w : World) (h1 : ¬ size = 32) (h2 : ¬ size = 64) :
    Calls Tryd.prog 7 #[.int .i64 size] w fun e w' => e = .returned (.tuple #[.agg #[.int .i64 0, .int .i64 0, .int .i64 0], .bool false]) ∧ Below w.heap.size w w' := by
  have b1 : (size == 32) = false := by simp [h1]
  have b2 : (size == 64) = false := by simp [h2]
  go_enter Tryd.func7, Tryd.ntmps7
  go_wp2
  go_returns
  exact ⟨rfl, by go_grown⟩
set_option maxRecDepth 1000000 in
theorem layout_any {size : Int} {f ww : Nat} {least : Int} {I : Nat} (h : Ly size f ww least I) (w : World) :
    Calls Tryd.prog 7 #[.int .i64 size] w fun e w' => e = .returned (.tuple #[.agg #[.int .i64 ww, .int .i64 f, .int .i64 least], .bool true]) ∧ Below w.heap.size w w' := by
  rcases h with ⟨rfl, rfl, rfl, rfl, -⟩ | ⟨rfl, rfl, rfl, rfl, -⟩
  · go_enter Tryd.func7, Tryd.ntmps7
    go_wp2
    go_returns
    exact ⟨rfl, by go_grown⟩
  · go_enter Tryd.func7, Tryd.ntmps7
    go_wp2
    go_returns
    exact ⟨rfl, by go_grown⟩
set_option maxRecDepth 1000000 in
theorem split_any {size : Int} {f ww : Nat} {least : Int} {I : Nat} (h : Ly size f ww least I) (bits : Nat) (w : World) (hb : bits < 18446744073709551616) :
    Calls Tryd.prog 32 #[.agg #[.int .i64 ww, .int .i64 f, .int .i64 least], .int .u64 bits] w fun e w' => e = .returned (.tuple #[.bool (decide (bits / 2 ^ (f + ww) % 2 = 1)), .int .u64 ((bits % 2 ^ (f + ww) : Nat) : Int)]) ∧ Below w.heap.size w w' := by
  rcases h with ⟨rfl, rfl, rfl, rfl, -⟩ | ⟨rfl, rfl, rfl, rfl, -⟩
  · go_enter Tryd.func32, Tryd.ntmps32
    go_wp2
    go_ret2
    refine ⟨?_, by go_grown⟩
    have b1 : Go.bits BinOp.and IntKind.u64 (bits : Int) 2147483648 = ((bits / 2147483648 % 2 * 2147483648 : Nat) : Int) := bits_top bits 31 2147483648 hb rfl (by decide)
    have b2 : Go.bits BinOp.and IntKind.u64 (bits : Int) 2147483647 = ((bits % (2147483647 + 1) : Nat) : Int) := bits_low bits 31 2147483647 hb rfl (by decide)
    have e1 : (((bits / 2147483648 % 2 * 2147483648 : Nat) : Int) != 0) = decide (bits / 2147483648 % 2 = 1) := by
      rcases Nat.mod_two_eq_zero_or_one (bits / 2147483648) with h | h <;> simp [h]
    rw [b1, b2, e1]
    rfl
  · go_enter Tryd.func32, Tryd.ntmps32
    go_wp2
    go_ret2
    refine ⟨?_, by go_grown⟩
    have b1 : Go.bits BinOp.and IntKind.u64 (bits : Int) 9223372036854775808 = ((bits / 9223372036854775808 % 2 * 9223372036854775808 : Nat) : Int) := bits_top bits 63 9223372036854775808 hb rfl (by decide)
    have b2 : Go.bits BinOp.and IntKind.u64 (bits : Int) 9223372036854775807 = ((bits % (9223372036854775807 + 1) : Nat) : Int) := bits_low bits 63 9223372036854775807 hb rfl (by decide)
    have e1 : (((bits / 9223372036854775808 % 2 * 9223372036854775808 : Nat) : Int) != 0) = decide (bits / 9223372036854775808 % 2 = 1) := by
      rcases Nat.mod_two_eq_zero_or_one (bits / 9223372036854775808) with h | h <;> simp [h]
    rw [b1, b2, e1]
    rfl
set_option maxRecDepth 1000000 in
theorem inf_any {size : Int} {f ww : Nat} {least : Int} {I : Nat} (h : Ly size f ww least I) (w : World) :
    Calls Tryd.prog 14 #[.agg #[.int .i64 ww, .int .i64 f, .int .i64 least]] w fun e w' => e = .returned (.int .u64 I) ∧ Below w.heap.size w w' := by
  rcases h with ⟨rfl, rfl, rfl, rfl, rfl⟩ | ⟨rfl, rfl, rfl, rfl, rfl⟩
  · go_enter Tryd.func14, Tryd.ntmps14
    go_wp2
    go_region
    all_goals (try go_wp2)
    all_goals go_ret
    all_goals exact ⟨rfl, by go_grown⟩
  · go_enter Tryd.func14, Tryd.ntmps14
    go_wp2
    go_region
    all_goals (try go_wp2)
    all_goals go_ret
    all_goals exact ⟨rfl, by go_grown⟩
end Go.Proofs.YthbabhbfpcfenabDoor
