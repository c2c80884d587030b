/- The document's answer for layer 5: Sized, Shape, pow, Parts. -/
import Derived.Test.YthbabhbfpcfenabDoorSLaw
namespace Go.Proofs.YthbabhbfpcfenabDoor
open Go.RowKit
set_option linter.unusedVariables false
set_option linter.unusedSimpArgs false

set_option maxRecDepth 1000000 in
theorem ksized_no (size : Int) (w : World) (h1 : ¬ size = 32) (h2 : ¬ size = 64) : Calls Tryd.prog 15 #[.int .i64 size] w fun e w' => e = .returned (.bool false) ∧ w' = w := by
  have b1 : (size == 32) = false := by simp [h1]
  have b2 : (size == 64) = false := by simp [h2]
  go_enter Tryd.func15, Tryd.ntmps15
  go_wp2
  go_ret
  exact ⟨rfl, rfl⟩
set_option maxRecDepth 1000000 in
theorem ksized_yes {size : Int} {f ww : Nat} {least : Int} {I : Nat} (h : Ly size f ww least I) (w : World) : Calls Tryd.prog 15 #[.int .i64 size] w fun e w' => e = .returned (.bool true) ∧ w' = w := by
  rcases h with ⟨rfl, -⟩ | ⟨rfl, -⟩ <;>
  · go_enter Tryd.func15, Tryd.ntmps15
    go_wp2
    go_ret
    exact ⟨rfl, rfl⟩
set_option maxRecDepth 1000000 in
theorem kshape_any {size : Int} {f ww : Nat} {least : Int} {I : Nat} (h : Ly size f ww least I) (w : World) : Calls Tryd.prog 17 #[.int .i64 size] w fun e w' => e = .returned (.tuple #[.int .i64 f, .int .i64 ww, .int .i64 least]) ∧ w' = w := by
  rcases h with ⟨rfl, rfl, rfl, rfl, -⟩ | ⟨rfl, rfl, rfl, rfl, -⟩
  · go_enter Tryd.func17, Tryd.ntmps17
    go_wp2
    go_returns
    exact ⟨rfl, rfl⟩
  · go_enter Tryd.func17, Tryd.ntmps17
    go_wp2
    go_returns
    exact ⟨rfl, rfl⟩
set_option maxRecDepth 1000000 in
set_option maxHeartbeats 800000 in
theorem kpow_any (n : Nat) (w : World) (hn : n ≤ 63) : Calls Tryd.prog 18 #[.int .i64 n] w fun e w' => e = .returned (.int .u64 ((2 ^ n : Nat) : Int)) ∧ w' = w := by
  have HP : Hid (∀ k, k ≤ n → 2 ^ k ≤ 9223372036854775808) := fun k hk => by
    have : 2 ^ k ≤ 2 ^ 63 := Nat.pow_le_pow_right (by decide) (by omega)
    have e : (2 : Nat) ^ 63 = 9223372036854775808 := by decide
    omega
  have HS : Hid (∀ k : Nat, 2 ^ (k + 1) = 2 ^ k * 2) := fun k => Nat.pow_succ ..
  obtain ⟨X, hX⟩ : ∃ X : Nat, 2 ^ n = X := ⟨_, rfl⟩
  rw [hX]
  have HXX : Hid (2 ^ n = X) := hX
  clear hX
  go_enter Tryd.func18, Tryd.ntmps18
  go_wp2
  go_loopg [3, 4] n (fun g xv iv wr => wr = w ∧ ∃ k x : Nat, xv = .int .u64 x ∧ iv = .int .i64 k ∧ k + g = n ∧ Hid (x = 2 ^ k))
  case atStart => exact ⟨rfl, 0, 1, rfl, rfl, Nat.zero_add _, rfl⟩
  case round =>
    obtain ⟨rfl, k, x, rfl, rfl, hkg, HX⟩ := hrel
    by_cases hk : k < n
    · have hkI : (k : Int) < n := by omega
      have h2 : 2 * (x : Int) ≤ 9223372036854775808 := by
        have a := HP.out (k + 1) (by omega)
        have b := HS.out k
        have c := HX.out
        omega
      have HX2 : Hid (x * 2 = 2 ^ (k + 1)) := by show _ = _; rw [HS.out, HX.out]
      go_wp2
      go_roundg (gk - 1)
      case measure => omega
      case rel => exact ⟨rfl, k + 1, x * 2, by rw [show ((x * 2 : Nat) : Int) = 2 * (x : Int) by omega], by go_num, by omega, HX2⟩
    · have hkI : ¬ (k : Int) < n := by omega
      obtain rfl : k = n := by omega
      go_wp2
      go_ret
      have e : x = X := by rw [HX.out, HXX.out]
      subst e
      exact ⟨rfl, rfl⟩
abbrev PowC (n : Int) (x : Int) : Prop := ∀ w, Calls Tryd.prog 18 #[.int .i64 n] w fun e w' => e = .returned (.int .u64 x) ∧ w' = w
end Go.Proofs.YthbabhbfpcfenabDoor
