/- The document's answer for layer 5: Sized, Shape, pow, Parts. -/
import Derived.Test.YtgcdmeonoiaplaaDoorSLaw
namespace Go.Proofs.YtgcdmeonoiaplaaDoor
open Go.RowKit
set_option linter.unusedVariables false
set_option linter.unusedSimpArgs false

set_option maxRecDepth 1000000 in
theorem ksized_no (size : Int) (w : World) (h1 : ¬ size = 32) (h2 : ¬ size = 64) : Calls Tryd.prog 23 #[.int .i64 size] w fun e w' => e = .returned (.bool false) ∧ w' = w := by
  have b1 : (size == 32) = false := by simp [h1]
  have b2 : (size == 64) = false := by simp [h2]
  go_enter Tryd.func23, Tryd.ntmps23
  go_wp2
  go_ret
  exact ⟨rfl, rfl⟩
set_option maxRecDepth 1000000 in
theorem ksized_yes {size : Int} {f ww : Nat} {least : Int} {I : Nat} (h : Ly size f ww least I) (w : World) : Calls Tryd.prog 23 #[.int .i64 size] w fun e w' => e = .returned (.bool true) ∧ w' = w := by
  rcases h with ⟨rfl, -⟩ | ⟨rfl, -⟩ <;>
  · go_enter Tryd.func23, Tryd.ntmps23
    go_wp2
    go_ret
    exact ⟨rfl, rfl⟩
set_option maxRecDepth 1000000 in
theorem kshape_any {size : Int} {f ww : Nat} {least : Int} {I : Nat} (h : Ly size f ww least I) (w : World) : Calls Tryd.prog 24 #[.int .i64 size] w fun e w' => e = .returned (.tuple #[.int .i64 f, .int .i64 ww, .int .i64 least]) ∧ w' = w := by
  rcases h with ⟨rfl, rfl, rfl, rfl, -⟩ | ⟨rfl, rfl, rfl, rfl, -⟩
  · go_enter Tryd.func24, Tryd.ntmps24
    go_wp2
    go_returns
    exact ⟨rfl, rfl⟩
  · go_enter Tryd.func24, Tryd.ntmps24
    go_wp2
    go_returns
    exact ⟨rfl, rfl⟩
set_option maxRecDepth 1000000 in
set_option maxHeartbeats 800000 in
theorem kpow_any (n : Nat) (w : World) (hn : n ≤ 63) : Calls Tryd.prog 25 #[.int .i64 n] w fun e w' => e = .returned (.int .u64 ((2 ^ n : Nat) : Int)) ∧ w' = w := by
  have HP : Hid (∀ k, k ≤ n → 2 ^ k ≤ 9223372036854775808) := fun k hk => by
    have : 2 ^ k ≤ 2 ^ 63 := Nat.pow_le_pow_right (by decide) (by omega)
    have e : (2 : Nat) ^ 63 = 9223372036854775808 := by decide
    omega
  have HS : Hid (∀ k : Nat, 2 ^ (k + 1) = 2 ^ k * 2) := fun k => Nat.pow_succ ..
  obtain ⟨X, hX⟩ : ∃ X : Nat, 2 ^ n = X := ⟨_, rfl⟩
  rw [hX]
  have HXX : Hid (2 ^ n = X) := hX
  clear hX
  go_enter Tryd.func25, Tryd.ntmps25
  go_wp2
  go_loopg [3, 4] n (fun g xv iv wr => wr = w ∧ ∃ k x : Nat, xv = .int .u64 x ∧ iv = .int .i64 k ∧ k + g = n ∧ Hid (x = 2 ^ k))
  case atStart => exact ⟨rfl, 0, 1, rfl, rfl, Nat.zero_add _, rfl⟩
  case round =>
    obtain ⟨rfl, k, x, rfl, rfl, hkg, HX⟩ := hrel
    by_cases hk : k < n
    · have hkI : (k : Int) < n := by omega
      have h2 : 2 * (x : Int) ≤ 9223372036854775808 := by
        have a := HP.out (k + 1) (by omega)
        have b := HS.out k
        have c := HX.out
        omega
      have HX2 : Hid (x * 2 = 2 ^ (k + 1)) := by show _ = _; rw [HS.out, HX.out]
      go_wp2
      go_roundg (gk - 1)
      case measure => omega
      case rel => exact ⟨rfl, k + 1, x * 2, by rw [show ((x * 2 : Nat) : Int) = 2 * (x : Int) by omega], by go_num, by omega, HX2⟩
    · have hkI : ¬ (k : Int) < n := by omega
      obtain rfl : k = n := by omega
      go_wp2
      go_ret
      have e : x = X := by rw [HX.out, HXX.out]
      subst e
      exact ⟨rfl, rfl⟩
abbrev PowC (n : Int) (x : Int) : Prop := ∀ w, Calls Tryd.prog 25 #[.int .i64 n] w fun e w' => e = .returned (.int .u64 x) ∧ w' = w
set_option maxRecDepth 1000000 in
theorem kparts_size {bits : Nat} {size : Int} (h1 : ¬ size = 32) (h2 : ¬ size = 64) (w : World) :
    Calls Tryd.prog 9 #[.int .u64 bits, .int .i64 size] w fun e w' => e = .returned (.tuple #[.bool false, .int .u64 0, .int .i64 0, .int .i64 3]) ∧ Below w.heap.size w w' := by
  have hZ := fun w => ksized_no size w h1 h2
  go_enter Tryd.func9, Tryd.ntmps9
  go_wp2_with (go_at_call 23; refine (hZ _).mono ?_; rintro e w9 ⟨rfl, rfl⟩)
  go_returns
  exact ⟨rfl, Below.refl _ _⟩
set_option maxRecDepth 1000000 in
set_option maxHeartbeats 3200000 in
theorem kparts_32 {bits E M : Nat} {sg : Bool} (hb : bits < 18446744073709551616) (hE : bits / 8388608 % 256 = E) (hM : bits % 8388608 = M) (hsg : (((bits : Int) / 2147483648) % 2 == 1) = sg) (w : World) :
    Calls Tryd.prog 9 #[.int .u64 bits, .int .i64 32] w fun e w' => e = .returned (.tuple #[.bool sg, .int .u64 ((if E = 255 then 0 else if E = 0 then M else M + 8388608 : Nat) : Int), .int .i64 (if E = 255 then 0 else if E = 0 then -149 else -149 + E - 1), .int .i64 (if E = 255 then (if M = 0 then 1 else 2) else 0)]) ∧ Below w.heap.size w w' := by
  have hZ := fun w => ksized_yes lyA w
  have hS := fun w => kshape_any lyA w
  have p1 : PowC 23 8388608 := fun w => kpow_any 23 w (by decide)
  have p2 : PowC 8 256 := fun w => kpow_any 8 w (by decide)
  have p3 : PowC 31 2147483648 := fun w => kpow_any 31 w (by decide)
  have hEI : (bits : Int) / 8388608 % 256 = (E : Int) := by omega
  have hMI : (bits : Int) % 8388608 = (M : Int) := by omega
  have hE1 : E < 256 := by omega
  have hM1 : M < 8388608 := by omega
  clear hE hM
  by_cases k1 : E = 255
  · rw [if_pos k1, if_pos k1, if_pos k1]
    subst k1
    by_cases k2 : M = 0
    · rw [if_pos k2]
      subst k2
      go_enter Tryd.func9, Tryd.ntmps9
      go_wp2_with (first
        | (go_at_call 23; refine (hZ _).mono ?_; rintro e w9 ⟨rfl, rfl⟩)
        | (go_at_call 24; refine (hS _).mono ?_; rintro e w9 ⟨rfl, rfl⟩)
        | (go_at_call 25; (with_reducible refine (p1 _).mono ?_); rintro e w9 ⟨rfl, rfl⟩)
        | (go_at_call 25; (with_reducible refine (p2 _).mono ?_); rintro e w9 ⟨rfl, rfl⟩)
        | (go_at_call 25; (with_reducible refine (p3 _).mono ?_); rintro e w9 ⟨rfl, rfl⟩))
      refine wp_region_above _ (Below.refl _ _) (by kernel_rfl) (by kernel_rfl) ?_
      intro hCl
      repeat (go_big_quiet_step ((first | (go_at_call 25; with_reducible exact Cl.call_same (p1 _)) | (go_at_call 25; with_reducible exact Cl.call_same (p2 _)))))
      refine wpQuiet_nil ?_
      intro _ hw'
      obtain ⟨y, hx⟩ := hw'
      subst hx
      go_wp2_with (first
        | (go_at_call 23; refine (hZ _).mono ?_; rintro e w9 ⟨rfl, rfl⟩)
        | (go_at_call 24; refine (hS _).mono ?_; rintro e w9 ⟨rfl, rfl⟩)
        | (go_at_call 25; (with_reducible refine (p1 _).mono ?_); rintro e w9 ⟨rfl, rfl⟩)
        | (go_at_call 25; (with_reducible refine (p2 _).mono ?_); rintro e w9 ⟨rfl, rfl⟩)
        | (go_at_call 25; (with_reducible refine (p3 _).mono ?_); rintro e w9 ⟨rfl, rfl⟩))
      go_returns
      exact ⟨rfl, y.below⟩
    · rw [if_neg k2]
      have b2 : ((M : Int) == 0) = false := by simp; omega
      go_enter Tryd.func9, Tryd.ntmps9
      go_wp2_with (first
        | (go_at_call 23; refine (hZ _).mono ?_; rintro e w9 ⟨rfl, rfl⟩)
        | (go_at_call 24; refine (hS _).mono ?_; rintro e w9 ⟨rfl, rfl⟩)
        | (go_at_call 25; (with_reducible refine (p1 _).mono ?_); rintro e w9 ⟨rfl, rfl⟩)
        | (go_at_call 25; (with_reducible refine (p2 _).mono ?_); rintro e w9 ⟨rfl, rfl⟩)
        | (go_at_call 25; (with_reducible refine (p3 _).mono ?_); rintro e w9 ⟨rfl, rfl⟩))
      refine wp_region_above _ (Below.refl _ _) (by kernel_rfl) (by kernel_rfl) ?_
      intro hCl
      repeat (go_big_quiet_step ((first | (go_at_call 25; with_reducible exact Cl.call_same (p1 _)) | (go_at_call 25; with_reducible exact Cl.call_same (p2 _)))))
      refine wpQuiet_nil ?_
      intro _ hw'
      obtain ⟨y, hx⟩ := hw'
      subst hx
      go_wp2_with (first
        | (go_at_call 23; refine (hZ _).mono ?_; rintro e w9 ⟨rfl, rfl⟩)
        | (go_at_call 24; refine (hS _).mono ?_; rintro e w9 ⟨rfl, rfl⟩)
        | (go_at_call 25; (with_reducible refine (p1 _).mono ?_); rintro e w9 ⟨rfl, rfl⟩)
        | (go_at_call 25; (with_reducible refine (p2 _).mono ?_); rintro e w9 ⟨rfl, rfl⟩)
        | (go_at_call 25; (with_reducible refine (p3 _).mono ?_); rintro e w9 ⟨rfl, rfl⟩))
      go_returns
      exact ⟨rfl, y.below⟩
  · rw [if_neg k1, if_neg k1, if_neg k1]
    have b1 : ((E : Int) == 255) = false := by simp; omega
    by_cases k2 : E = 0
    · rw [if_pos k2, if_pos k2]
      subst k2
      go_enter Tryd.func9, Tryd.ntmps9
      go_wp2_with (first
        | (go_at_call 23; refine (hZ _).mono ?_; rintro e w9 ⟨rfl, rfl⟩)
        | (go_at_call 24; refine (hS _).mono ?_; rintro e w9 ⟨rfl, rfl⟩)
        | (go_at_call 25; (with_reducible refine (p1 _).mono ?_); rintro e w9 ⟨rfl, rfl⟩)
        | (go_at_call 25; (with_reducible refine (p2 _).mono ?_); rintro e w9 ⟨rfl, rfl⟩)
        | (go_at_call 25; (with_reducible refine (p3 _).mono ?_); rintro e w9 ⟨rfl, rfl⟩))
      refine wp_region_above _ (Below.refl _ _) (by kernel_rfl) (by kernel_rfl) ?_
      intro hCl
      repeat (go_big_quiet_step ((first | (go_at_call 25; with_reducible exact Cl.call_same (p1 _)) | (go_at_call 25; with_reducible exact Cl.call_same (p2 _)))))
      refine wpQuiet_nil ?_
      intro _ hw'
      obtain ⟨y, hx⟩ := hw'
      subst hx
      go_wp2_with (first
        | (go_at_call 23; refine (hZ _).mono ?_; rintro e w9 ⟨rfl, rfl⟩)
        | (go_at_call 24; refine (hS _).mono ?_; rintro e w9 ⟨rfl, rfl⟩)
        | (go_at_call 25; (with_reducible refine (p1 _).mono ?_); rintro e w9 ⟨rfl, rfl⟩)
        | (go_at_call 25; (with_reducible refine (p2 _).mono ?_); rintro e w9 ⟨rfl, rfl⟩)
        | (go_at_call 25; (with_reducible refine (p3 _).mono ?_); rintro e w9 ⟨rfl, rfl⟩))
      go_returns
      exact ⟨rfl, y.below⟩
    · rw [if_neg k2, if_neg k2]
      have b2 : ((E : Int) == 0) = false := by simp; omega
      go_enter Tryd.func9, Tryd.ntmps9
      go_wp2_with (first
        | (go_at_call 23; refine (hZ _).mono ?_; rintro e w9 ⟨rfl, rfl⟩)
        | (go_at_call 24; refine (hS _).mono ?_; rintro e w9 ⟨rfl, rfl⟩)
        | (go_at_call 25; (with_reducible refine (p1 _).mono ?_); rintro e w9 ⟨rfl, rfl⟩)
        | (go_at_call 25; (with_reducible refine (p2 _).mono ?_); rintro e w9 ⟨rfl, rfl⟩)
        | (go_at_call 25; (with_reducible refine (p3 _).mono ?_); rintro e w9 ⟨rfl, rfl⟩))
      refine wp_region_above _ (Below.refl _ _) (by kernel_rfl) (by kernel_rfl) ?_
      intro hCl
      repeat (go_big_quiet_step ((first | (go_at_call 25; with_reducible exact Cl.call_same (p1 _)) | (go_at_call 25; with_reducible exact Cl.call_same (p2 _)))))
      refine wpQuiet_nil ?_
      intro _ hw'
      obtain ⟨y, hx⟩ := hw'
      subst hx
      go_wp2_with (first
        | (go_at_call 23; refine (hZ _).mono ?_; rintro e w9 ⟨rfl, rfl⟩)
        | (go_at_call 24; refine (hS _).mono ?_; rintro e w9 ⟨rfl, rfl⟩)
        | (go_at_call 25; (with_reducible refine (p1 _).mono ?_); rintro e w9 ⟨rfl, rfl⟩)
        | (go_at_call 25; (with_reducible refine (p2 _).mono ?_); rintro e w9 ⟨rfl, rfl⟩)
        | (go_at_call 25; (with_reducible refine (p3 _).mono ?_); rintro e w9 ⟨rfl, rfl⟩))
      go_returns
      exact ⟨rfl, y.below⟩
set_option maxRecDepth 1000000 in
set_option maxHeartbeats 3200000 in
theorem kparts_64 {bits E M : Nat} {sg : Bool} (hb : bits < 18446744073709551616) (hE : bits / 4503599627370496 % 2048 = E) (hM : bits % 4503599627370496 = M) (hsg : (((bits : Int) / 9223372036854775808) % 2 == 1) = sg) (w : World) :
    Calls Tryd.prog 9 #[.int .u64 bits, .int .i64 64] w fun e w' => e = .returned (.tuple #[.bool sg, .int .u64 ((if E = 2047 then 0 else if E = 0 then M else M + 4503599627370496 : Nat) : Int), .int .i64 (if E = 2047 then 0 else if E = 0 then -1074 else -1074 + E - 1), .int .i64 (if E = 2047 then (if M = 0 then 1 else 2) else 0)]) ∧ Below w.heap.size w w' := by
  have hZ := fun w => ksized_yes lyB w
  have hS := fun w => kshape_any lyB w
  have p1 : PowC 52 4503599627370496 := fun w => kpow_any 52 w (by decide)
  have p2 : PowC 11 2048 := fun w => kpow_any 11 w (by decide)
  have p3 : PowC 63 9223372036854775808 := fun w => kpow_any 63 w (by decide)
  have hEI : (bits : Int) / 4503599627370496 % 2048 = (E : Int) := by omega
  have hMI : (bits : Int) % 4503599627370496 = (M : Int) := by omega
  have hE1 : E < 2048 := by omega
  have hM1 : M < 4503599627370496 := by omega
  clear hE hM
  by_cases k1 : E = 2047
  · rw [if_pos k1, if_pos k1, if_pos k1]
    subst k1
    by_cases k2 : M = 0
    · rw [if_pos k2]
      subst k2
      go_enter Tryd.func9, Tryd.ntmps9
      go_wp2_with (first
        | (go_at_call 23; refine (hZ _).mono ?_; rintro e w9 ⟨rfl, rfl⟩)
        | (go_at_call 24; refine (hS _).mono ?_; rintro e w9 ⟨rfl, rfl⟩)
        | (go_at_call 25; (with_reducible refine (p1 _).mono ?_); rintro e w9 ⟨rfl, rfl⟩)
        | (go_at_call 25; (with_reducible refine (p2 _).mono ?_); rintro e w9 ⟨rfl, rfl⟩)
        | (go_at_call 25; (with_reducible refine (p3 _).mono ?_); rintro e w9 ⟨rfl, rfl⟩))
      refine wp_region_above _ (Below.refl _ _) (by kernel_rfl) (by kernel_rfl) ?_
      intro hCl
      repeat (go_big_quiet_step ((first | (go_at_call 25; with_reducible exact Cl.call_same (p1 _)) | (go_at_call 25; with_reducible exact Cl.call_same (p2 _)))))
      refine wpQuiet_nil ?_
      intro _ hw'
      obtain ⟨y, hx⟩ := hw'
      subst hx
      go_wp2_with (first
        | (go_at_call 23; refine (hZ _).mono ?_; rintro e w9 ⟨rfl, rfl⟩)
        | (go_at_call 24; refine (hS _).mono ?_; rintro e w9 ⟨rfl, rfl⟩)
        | (go_at_call 25; (with_reducible refine (p1 _).mono ?_); rintro e w9 ⟨rfl, rfl⟩)
        | (go_at_call 25; (with_reducible refine (p2 _).mono ?_); rintro e w9 ⟨rfl, rfl⟩)
        | (go_at_call 25; (with_reducible refine (p3 _).mono ?_); rintro e w9 ⟨rfl, rfl⟩))
      go_returns
      exact ⟨rfl, y.below⟩
    · rw [if_neg k2]
      have b2 : ((M : Int) == 0) = false := by simp; omega
      go_enter Tryd.func9, Tryd.ntmps9
      go_wp2_with (first
        | (go_at_call 23; refine (hZ _).mono ?_; rintro e w9 ⟨rfl, rfl⟩)
        | (go_at_call 24; refine (hS _).mono ?_; rintro e w9 ⟨rfl, rfl⟩)
        | (go_at_call 25; (with_reducible refine (p1 _).mono ?_); rintro e w9 ⟨rfl, rfl⟩)
        | (go_at_call 25; (with_reducible refine (p2 _).mono ?_); rintro e w9 ⟨rfl, rfl⟩)
        | (go_at_call 25; (with_reducible refine (p3 _).mono ?_); rintro e w9 ⟨rfl, rfl⟩))
      refine wp_region_above _ (Below.refl _ _) (by kernel_rfl) (by kernel_rfl) ?_
      intro hCl
      repeat (go_big_quiet_step ((first | (go_at_call 25; with_reducible exact Cl.call_same (p1 _)) | (go_at_call 25; with_reducible exact Cl.call_same (p2 _)))))
      refine wpQuiet_nil ?_
      intro _ hw'
      obtain ⟨y, hx⟩ := hw'
      subst hx
      go_wp2_with (first
        | (go_at_call 23; refine (hZ _).mono ?_; rintro e w9 ⟨rfl, rfl⟩)
        | (go_at_call 24; refine (hS _).mono ?_; rintro e w9 ⟨rfl, rfl⟩)
        | (go_at_call 25; (with_reducible refine (p1 _).mono ?_); rintro e w9 ⟨rfl, rfl⟩)
        | (go_at_call 25; (with_reducible refine (p2 _).mono ?_); rintro e w9 ⟨rfl, rfl⟩)
        | (go_at_call 25; (with_reducible refine (p3 _).mono ?_); rintro e w9 ⟨rfl, rfl⟩))
      go_returns
      exact ⟨rfl, y.below⟩
  · rw [if_neg k1, if_neg k1, if_neg k1]
    have b1 : ((E : Int) == 2047) = false := by simp; omega
    by_cases k2 : E = 0
    · rw [if_pos k2, if_pos k2]
      subst k2
      go_enter Tryd.func9, Tryd.ntmps9
      go_wp2_with (first
        | (go_at_call 23; refine (hZ _).mono ?_; rintro e w9 ⟨rfl, rfl⟩)
        | (go_at_call 24; refine (hS _).mono ?_; rintro e w9 ⟨rfl, rfl⟩)
        | (go_at_call 25; (with_reducible refine (p1 _).mono ?_); rintro e w9 ⟨rfl, rfl⟩)
        | (go_at_call 25; (with_reducible refine (p2 _).mono ?_); rintro e w9 ⟨rfl, rfl⟩)
        | (go_at_call 25; (with_reducible refine (p3 _).mono ?_); rintro e w9 ⟨rfl, rfl⟩))
      refine wp_region_above _ (Below.refl _ _) (by kernel_rfl) (by kernel_rfl) ?_
      intro hCl
      repeat (go_big_quiet_step ((first | (go_at_call 25; with_reducible exact Cl.call_same (p1 _)) | (go_at_call 25; with_reducible exact Cl.call_same (p2 _)))))
      refine wpQuiet_nil ?_
      intro _ hw'
      obtain ⟨y, hx⟩ := hw'
      subst hx
      go_wp2_with (first
        | (go_at_call 23; refine (hZ _).mono ?_; rintro e w9 ⟨rfl, rfl⟩)
        | (go_at_call 24; refine (hS _).mono ?_; rintro e w9 ⟨rfl, rfl⟩)
        | (go_at_call 25; (with_reducible refine (p1 _).mono ?_); rintro e w9 ⟨rfl, rfl⟩)
        | (go_at_call 25; (with_reducible refine (p2 _).mono ?_); rintro e w9 ⟨rfl, rfl⟩)
        | (go_at_call 25; (with_reducible refine (p3 _).mono ?_); rintro e w9 ⟨rfl, rfl⟩))
      go_returns
      exact ⟨rfl, y.below⟩
    · rw [if_neg k2, if_neg k2]
      have b2 : ((E : Int) == 0) = false := by simp; omega
      go_enter Tryd.func9, Tryd.ntmps9
      go_wp2_with (first
        | (go_at_call 23; refine (hZ _).mono ?_; rintro e w9 ⟨rfl, rfl⟩)
        | (go_at_call 24; refine (hS _).mono ?_; rintro e w9 ⟨rfl, rfl⟩)
        | (go_at_call 25; (with_reducible refine (p1 _).mono ?_); rintro e w9 ⟨rfl, rfl⟩)
        | (go_at_call 25; (with_reducible refine (p2 _).mono ?_); rintro e w9 ⟨rfl, rfl⟩)
        | (go_at_call 25; (with_reducible refine (p3 _).mono ?_); rintro e w9 ⟨rfl, rfl⟩))
      refine wp_region_above _ (Below.refl _ _) (by kernel_rfl) (by kernel_rfl) ?_
      intro hCl
      repeat (go_big_quiet_step ((first | (go_at_call 25; with_reducible exact Cl.call_same (p1 _)) | (go_at_call 25; with_reducible exact Cl.call_same (p2 _)))))
      refine wpQuiet_nil ?_
      intro _ hw'
      obtain ⟨y, hx⟩ := hw'
      subst hx
      go_wp2_with (first
        | (go_at_call 23; refine (hZ _).mono ?_; rintro e w9 ⟨rfl, rfl⟩)
        | (go_at_call 24; refine (hS _).mono ?_; rintro e w9 ⟨rfl, rfl⟩)
        | (go_at_call 25; (with_reducible refine (p1 _).mono ?_); rintro e w9 ⟨rfl, rfl⟩)
        | (go_at_call 25; (with_reducible refine (p2 _).mono ?_); rintro e w9 ⟨rfl, rfl⟩)
        | (go_at_call 25; (with_reducible refine (p3 _).mono ?_); rintro e w9 ⟨rfl, rfl⟩))
      go_returns
      exact ⟨rfl, y.below⟩
theorem kparts_any {bits : Nat} {size : Int} {f ww : Nat} {least : Int} {I : Nat} (h : Ly size f ww least I) (hb : bits < 18446744073709551616) (w : World) :
    Calls Tryd.prog 9 #[.int .u64 bits, .int .i64 size] w fun e w' => e = .returned (.tuple #[.bool (sgn f ww bits), .int .u64 (ptM f ww I bits), .int .i64 (ptE f ww I least bits), .int .i64 (ptK f ww I bits)]) ∧ Below w.heap.size w w' := by
  rcases h with ⟨rfl, rfl, rfl, rfl, rfl⟩ | ⟨rfl, rfl, rfl, rfl, rfl⟩
  · obtain ⟨E, hE⟩ : ∃ E, bits / 8388608 % 256 = E := ⟨_, rfl⟩
    obtain ⟨M, hM⟩ : ∃ M, bits % 8388608 = M := ⟨_, rfl⟩
    have hs : (((bits : Int) / 2147483648) % 2 == 1) = sgn 23 8 bits := by
      have e : sgn 23 8 bits = decide (bits / 2147483648 % 2 = 1) := rfl
      rw [e]
      rcases Nat.mod_two_eq_zero_or_one (bits / 2147483648) with k | k
      · have : (bits : Int) / 2147483648 % 2 = 0 := by omega
        rw [this, k]; rfl
      · have : (bits : Int) / 2147483648 % 2 = 1 := by omega
        rw [this, k]; rfl
    have hbr : bare 23 8 bits = E * 8388608 + M := by
      have : bare 23 8 bits = bits % 2147483648 := rfl
      omega
    have hM1 : M < 8388608 := by omega
    have hE1 : E < 256 := by omega
    have q1 : (E * 8388608 + M) / 2 ^ 23 = E := by rw [show (2 : Nat) ^ 23 = 8388608 from rfl]; omega
    have q2 : (E * 8388608 + M) % 2 ^ 23 = M := by rw [show (2 : Nat) ^ 23 = 8388608 from rfl]; omega
    have r1 : (if E = 255 then 0 else if E = 0 then M else M + 8388608) = ptM 23 8 2139095040 bits := by
      unfold ptM pm
      rw [hbr, q1, q2, show (2 : Nat) ^ 23 = 8388608 from rfl]
      by_cases k : E = 255
      · rw [if_pos k, if_neg (show ¬ E * 8388608 + M < 2139095040 by omega)]
      · rw [if_neg k, if_pos (show E * 8388608 + M < 2139095040 by omega)]
        by_cases k0 : E = 0
        · rw [if_pos k0, if_pos k0]
        · rw [if_neg k0, if_neg k0]; omega
    have r2 : (if E = 255 then (0 : Int) else if E = 0 then -149 else -149 + E - 1) = ptE 23 8 2139095040 (-149) bits := by
      unfold ptE pk
      rw [hbr, q1]
      by_cases k : E = 255
      · rw [if_pos k, if_neg (show ¬ E * 8388608 + M < 2139095040 by omega)]
      · rw [if_neg k, if_pos (show E * 8388608 + M < 2139095040 by omega)]
        by_cases k0 : E = 0
        · rw [if_pos k0]; omega
        · rw [if_neg k0]; omega
    have r3 : (if E = 255 then (if M = 0 then (1 : Int) else 2) else 0) = ptK 23 8 2139095040 bits := by
      unfold ptK
      rw [hbr]
      by_cases k : E = 255
      · rw [if_pos k, if_neg (show ¬ E * 8388608 + M < 2139095040 by omega)]
        by_cases k2 : M = 0
        · rw [if_pos k2, if_pos (show E * 8388608 + M = 2139095040 by omega)]
        · rw [if_neg k2, if_neg (show ¬ E * 8388608 + M = 2139095040 by omega)]
      · rw [if_neg k, if_pos (show E * 8388608 + M < 2139095040 by omega)]
    have := kparts_32 hb hE hM hs w
    rw [r1, r2, r3] at this
    exact this
  · obtain ⟨E, hE⟩ : ∃ E, bits / 4503599627370496 % 2048 = E := ⟨_, rfl⟩
    obtain ⟨M, hM⟩ : ∃ M, bits % 4503599627370496 = M := ⟨_, rfl⟩
    have hs : (((bits : Int) / 9223372036854775808) % 2 == 1) = sgn 52 11 bits := by
      have e : sgn 52 11 bits = decide (bits / 9223372036854775808 % 2 = 1) := rfl
      rw [e]
      rcases Nat.mod_two_eq_zero_or_one (bits / 9223372036854775808) with k | k
      · have : (bits : Int) / 9223372036854775808 % 2 = 0 := by omega
        rw [this, k]; rfl
      · have : (bits : Int) / 9223372036854775808 % 2 = 1 := by omega
        rw [this, k]; rfl
    have hbr : bare 52 11 bits = E * 4503599627370496 + M := by
      have : bare 52 11 bits = bits % 9223372036854775808 := rfl
      omega
    have hM1 : M < 4503599627370496 := by omega
    have hE1 : E < 2048 := by omega
    have q1 : (E * 4503599627370496 + M) / 2 ^ 52 = E := by rw [show (2 : Nat) ^ 52 = 4503599627370496 from rfl]; omega
    have q2 : (E * 4503599627370496 + M) % 2 ^ 52 = M := by rw [show (2 : Nat) ^ 52 = 4503599627370496 from rfl]; omega
    have r1 : (if E = 2047 then 0 else if E = 0 then M else M + 4503599627370496) = ptM 52 11 9218868437227405312 bits := by
      unfold ptM pm
      rw [hbr, q1, q2, show (2 : Nat) ^ 52 = 4503599627370496 from rfl]
      by_cases k : E = 2047
      · rw [if_pos k, if_neg (show ¬ E * 4503599627370496 + M < 9218868437227405312 by omega)]
      · rw [if_neg k, if_pos (show E * 4503599627370496 + M < 9218868437227405312 by omega)]
        by_cases k0 : E = 0
        · rw [if_pos k0, if_pos k0]
        · rw [if_neg k0, if_neg k0]; omega
    have r2 : (if E = 2047 then (0 : Int) else if E = 0 then -1074 else -1074 + E - 1) = ptE 52 11 9218868437227405312 (-1074) bits := by
      unfold ptE pk
      rw [hbr, q1]
      by_cases k : E = 2047
      · rw [if_pos k, if_neg (show ¬ E * 4503599627370496 + M < 9218868437227405312 by omega)]
      · rw [if_neg k, if_pos (show E * 4503599627370496 + M < 9218868437227405312 by omega)]
        by_cases k0 : E = 0
        · rw [if_pos k0]; omega
        · rw [if_neg k0]; omega
    have r3 : (if E = 2047 then (if M = 0 then (1 : Int) else 2) else 0) = ptK 52 11 9218868437227405312 bits := by
      unfold ptK
      rw [hbr]
      by_cases k : E = 2047
      · rw [if_pos k, if_neg (show ¬ E * 4503599627370496 + M < 9218868437227405312 by omega)]
        by_cases k2 : M = 0
        · rw [if_pos k2, if_pos (show E * 4503599627370496 + M = 9218868437227405312 by omega)]
        · rw [if_neg k2, if_neg (show ¬ E * 4503599627370496 + M = 9218868437227405312 by omega)]
      · rw [if_neg k, if_pos (show E * 4503599627370496 + M < 9218868437227405312 by omega)]
    have := kparts_64 hb hE hM hs w
    rw [r1, r2, r3] at this
    exact this
end Go.Proofs.YtgcdmeonoiaplaaDoor
