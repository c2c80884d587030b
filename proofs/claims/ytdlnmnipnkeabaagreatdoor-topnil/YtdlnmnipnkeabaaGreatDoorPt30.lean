/- SWalkA, SWalkB, SWalkC, SWalkD, SWalkE, SWalkF, SWalkG, SLive, FWalkE, FWalkF, FFin1, FFin2, FFin3, FFin4, SLaw, FTop: these texts in one. -/
import Derived.Test.YtdlnmnipnkeabaaGreatDoorPt29
import Derived.Laws.BitsAllLaws
namespace Go.Proofs.YtdlnmnipnkeabaaGreatDoor
open Go.RowKit
set_option linter.unusedVariables false
set_option linter.unusedSimpArgs false
theorem and_top (a n : Nat) : a &&& 2 ^ n = a / 2 ^ n % 2 * 2 ^ n := by
 apply Nat.eq_of_testBit_eq
 intro i
 rw [Nat.testBit_and, Nat.testBit_two_pow]
 rcases Nat.mod_two_eq_zero_or_one (a / 2 ^ n) with h | h
 ·rw [h, Nat.zero_mul, Nat.zero_testBit]
  by_cases hi : n = i
  ·subst hi
   rw [Nat.testBit_eq_decide_div_mod_eq, h]; rfl
  ·simp [hi]
 ·rw [h, Nat.one_mul, Nat.testBit_two_pow]
  by_cases hi : n = i
  ·subst hi
   rw [Nat.testBit_eq_decide_div_mod_eq, h]; simp
  ·simp [hi]
theorem bits_top (a n T : Nat) (h : a < 18446744073709551616) (hT : T = 2 ^ n) (hT2 : T < 18446744073709551616) : bits .and .u64 (a : Int) (T : Int) = ((a / T % 2 * T : Nat) : Int) := by
 rw [u64_and_nat a T h hT2, hT, and_top]
theorem bits_low (a n T : Nat) (h : a < 18446744073709551616) (hT : T + 1 = 2 ^ n) (hT2 : T < 18446744073709551616) : bits .and .u64 (a : Int) (T : Int) = ((a % (T + 1) : Nat) : Int) := by
 rw [u64_and_nat a T h hT2, show T = 2 ^ n - 1 by omega, Nat.and_two_pow_sub_one_eq_mod, show 2 ^ n - 1 + 1 = 2 ^ n by omega]
def Ly (size : Int) (f w : Nat) (least : Int) (I : Nat) : Prop := (size = 32 ∧ f = 23 ∧ w = 8 ∧ least = -149 ∧ I = 2139095040) ∨ (size = 64 ∧ f = 52 ∧ w = 11 ∧ least = -1074 ∧ I = 9218868437227405312)
set_option maxRecDepth 1000000 in
theorem layout_any {size : Int} {f ww : Nat} {least : Int} {I : Nat} (h : Ly size f ww least I) (w : World) :
  Calls Tryz.prog 255 #[.int .i64 size] w fun e w' => e = .returned (.tuple #[.agg #[.int .i64 ww, .int .i64 f, .int .i64 least], .bool true]) ∧ Below w.heap.size w w' := by
 rcases h with ⟨rfl, rfl, rfl, rfl, -⟩ | ⟨rfl, rfl, rfl, rfl, -⟩
 ·go_enter Tryz.func255, Tryz.ntmps255
  go_wp2
  go_returns
  exact ⟨rfl, by go_grown⟩
 ·go_enter Tryz.func255, Tryz.ntmps255
  go_wp2
  go_returns
  exact ⟨rfl, by go_grown⟩
set_option maxRecDepth 1000000 in
theorem split_any {size : Int} {f ww : Nat} {least : Int} {I : Nat} (h : Ly size f ww least I) (bits : Nat) (w : World) (hb : bits < 18446744073709551616) :
  Calls Tryz.prog 256 #[.agg #[.int .i64 ww, .int .i64 f, .int .i64 least], .int .u64 bits] w fun e w' => e = .returned (.tuple #[.bool (decide (bits / 2 ^ (f + ww) % 2 = 1)), .int .u64 ((bits % 2 ^ (f + ww) : Nat) : Int)]) ∧ Below w.heap.size w w' := by
 rcases h with ⟨rfl, rfl, rfl, rfl, -⟩ | ⟨rfl, rfl, rfl, rfl, -⟩
 ·go_enter Tryz.func256, Tryz.ntmps256
  go_wp2
  go_ret2
  refine ⟨?_, by go_grown⟩
  have b1 : Go.bits BinOp.and IntKind.u64 (bits : Int) 2147483648 = ((bits / 2147483648 % 2 * 2147483648 : Nat) : Int) := bits_top bits 31 2147483648 hb rfl (by decide)
  have b2 : Go.bits BinOp.and IntKind.u64 (bits : Int) 2147483647 = ((bits % (2147483647 + 1) : Nat) : Int) := bits_low bits 31 2147483647 hb rfl (by decide)
  have e1 : (((bits / 2147483648 % 2 * 2147483648 : Nat) : Int) != 0) = decide (bits / 2147483648 % 2 = 1) := by
   rcases Nat.mod_two_eq_zero_or_one (bits / 2147483648) with h | h <;> simp [h]
  rw [b1, b2, e1]
  rfl
 ·go_enter Tryz.func256, Tryz.ntmps256
  go_wp2
  go_ret2
  refine ⟨?_, by go_grown⟩
  have b1 : Go.bits BinOp.and IntKind.u64 (bits : Int) 9223372036854775808 = ((bits / 9223372036854775808 % 2 * 9223372036854775808 : Nat) : Int) := bits_top bits 63 9223372036854775808 hb rfl (by decide)
  have b2 : Go.bits BinOp.and IntKind.u64 (bits : Int) 9223372036854775807 = ((bits % (9223372036854775807 + 1) : Nat) : Int) := bits_low bits 63 9223372036854775807 hb rfl (by decide)
  have e1 : (((bits / 9223372036854775808 % 2 * 9223372036854775808 : Nat) : Int) != 0) = decide (bits / 9223372036854775808 % 2 = 1) := by
   rcases Nat.mod_two_eq_zero_or_one (bits / 9223372036854775808) with h | h <;> simp [h]
  rw [b1, b2, e1]
  rfl
set_option maxRecDepth 1000000 in
theorem inf_any {size : Int} {f ww : Nat} {least : Int} {I : Nat} (h : Ly size f ww least I) (w : World) :
  Calls Tryz.prog 257 #[.agg #[.int .i64 ww, .int .i64 f, .int .i64 least]] w fun e w' => e = .returned (.int .u64 I) ∧ Below w.heap.size w w' := by
 rcases h with ⟨rfl, rfl, rfl, rfl, rfl⟩ | ⟨rfl, rfl, rfl, rfl, rfl⟩
 ·go_enter Tryz.func257, Tryz.ntmps257
  go_wp2
  go_region
  all_goals (try go_wp2)
  all_goals go_ret
  all_goals exact ⟨rfl, by go_grown⟩
 ·go_enter Tryz.func257, Tryz.ntmps257
  go_wp2
  go_region
  all_goals (try go_wp2)
  all_goals go_ret
  all_goals exact ⟨rfl, by go_grown⟩
end Go.Proofs.YtdlnmnipnkeabaaGreatDoor
namespace Go.Proofs.YtdlnmnipnkeabaaGreatDoor
open Go.RowKit
set_option linter.unusedVariables false
set_option linter.unusedSimpArgs false
theorem Ly.pk {size : Int} {f ww : Nat} {least : Int} {I : Nat} (h : Ly size f ww least I) : -1199 ≤ least ∧ least ≤ -149 ∧ I < 9300000000000000000 ∧ 2 ≤ I ∧ I % 2 = 0 ∧ 1 ≤ f ∧ f ≤ 52 ∧ I = (2 ^ ww - 1) * 2 ^ f ∧ (∀ p, p < I → least + pk f p ≤ 1000) := by
 rcases h with ⟨rfl, rfl, rfl, rfl, rfl⟩ | ⟨rfl, rfl, rfl, rfl, rfl⟩
 ·refine ⟨by decide, by decide, by decide, by decide, by decide, by decide, by decide, by decide, fun p hp => ?_⟩
  have : Go.Proofs.YtdlnmnipnkeabaaGreatDoor.pk 23 p = p / 8388608 - 1 := rfl
  rw [this]; omega
 ·refine ⟨by decide, by decide, by decide, by decide, by decide, by decide, by decide, by decide, fun p hp => ?_⟩
  have : Go.Proofs.YtdlnmnipnkeabaaGreatDoor.pk 52 p = p / 4503599627370496 - 1 := rfl
  rw [this]; omega
theorem Ly.pm {size : Int} {f ww : Nat} {least : Int} {I : Nat} (h : Ly size f ww least I) (p : Nat) : Go.Proofs.YtdlnmnipnkeabaaGreatDoor.pm f p < 9007199254740992 := by
 have := pm_lt f p
 rcases h with ⟨-, rfl, -, -, -⟩ | ⟨-, rfl, -, -, -⟩
 ·have e : (2 : Nat) ^ (23 + 1) = 16777216 := rfl
  omega
 ·have e : (2 : Nat) ^ (52 + 1) = 9007199254740992 := rfl
  omega
def un (least : Int) : Nat := exU 1 (least - 1)
theorem ret2 {a b c d : Int} {k1 k2 : IntKind} (h1 : a = c) (h2 : b = d) : Ending.returned (.tuple #[.int k1 a, .int k2 b]) = .returned (.tuple #[.int k1 c, .int k2 d]) := by rw [h1, h2]
set_option maxRecDepth 1000000 in
theorem finite_any {size : Int} {f ww : Nat} {least : Int} {I : Nat} (h : Ly size f ww least I) (p : Nat) (w : World) (hp : p < I) :
  Calls Tryz.prog 258 #[.agg #[.int .i64 ww, .int .i64 f, .int .i64 least], .int .u64 p] w fun x w' => x = .returned (.tuple #[.int .u64 (pm f p), .int .i64 (least + pk f p)]) ∧ Below w.heap.size w w' := by
 rcases h with ⟨rfl, rfl, rfl, rfl, rfl⟩ | ⟨rfl, rfl, rfl, rfl, rfl⟩
 ·have e1 : pm 23 p = if p / 8388608 = 0 then p % 8388608 else 8388608 + p % 8388608 := rfl
  have e2 : pk 23 p = p / 8388608 - 1 := rfl
  rw [e1, e2]
  by_cases hz : p < 8388608
  ·rw [if_pos (by omega)]
   clear e1 e2
   go_enter Tryz.func258, Tryz.ntmps258
   go_wp2
   go_region
   all_goals (try go_wp2)
   all_goals (try go_region)
   all_goals (try go_wp2)
   all_goals go_ret2
   all_goals exact ⟨ret2 (by omega) (by omega), by go_grown⟩
  ·rw [if_neg (by omega)]
   clear e1 e2
   go_enter Tryz.func258, Tryz.ntmps258
   go_wp2
   go_region
   all_goals (try go_wp2)
   all_goals (try go_region)
   all_goals (try go_wp2)
   all_goals go_ret2
   all_goals exact ⟨ret2 (by omega) (by omega), by go_grown⟩
 ·have e1 : pm 52 p = if p / 4503599627370496 = 0 then p % 4503599627370496 else 4503599627370496 + p % 4503599627370496 := rfl
  have e2 : pk 52 p = p / 4503599627370496 - 1 := rfl
  rw [e1, e2]
  by_cases hz : p < 4503599627370496
  ·rw [if_pos (by omega)]
   clear e1 e2
   go_enter Tryz.func258, Tryz.ntmps258
   go_wp2
   go_region
   all_goals (try go_wp2)
   all_goals (try go_region)
   all_goals (try go_wp2)
   all_goals go_ret2
   all_goals exact ⟨ret2 (by omega) (by omega), by go_grown⟩
  ·rw [if_neg (by omega)]
   clear e1 e2
   go_enter Tryz.func258, Tryz.ntmps258
   go_wp2
   go_region
   all_goals (try go_wp2)
   all_goals (try go_region)
   all_goals (try go_wp2)
   all_goals go_ret2
   all_goals exact ⟨ret2 (by omega) (by omega), by go_grown⟩
end Go.Proofs.YtdlnmnipnkeabaaGreatDoor
namespace Go.Proofs.YtdlnmnipnkeabaaGreatDoor
open Go.RowKit
set_option linter.unusedVariables false
set_option linter.unusedSimpArgs false
theorem Cl.froz {w0 : World} (x : Cl w0) {p : Addr} (hp : p.block < w0.heap.size) (h : w0.frozen? p = false) : x.w.frozen? p = false := (x.below.frozen hp).trans h
end Go.Proofs.YtdlnmnipnkeabaaGreatDoor
namespace Go.Proofs.YtdlnmnipnkeabaaGreatDoor
open Go.RowKit
set_option linter.unusedVariables false
set_option linter.unusedSimpArgs false
end Go.Proofs.YtdlnmnipnkeabaaGreatDoor
namespace Go.Proofs.YtdlnmnipnkeabaaGreatDoor
open Go.RowKit
set_option linter.unusedVariables false
set_option linter.unusedSimpArgs false
end Go.Proofs.YtdlnmnipnkeabaaGreatDoor
namespace Go.Proofs.YtdlnmnipnkeabaaGreatDoor
open Go.RowKit
set_option linter.unusedVariables false
set_option linter.unusedSimpArgs false
end Go.Proofs.YtdlnmnipnkeabaaGreatDoor
namespace Go.Proofs.YtdlnmnipnkeabaaGreatDoor
open Go.RowKit
set_option linter.unusedVariables false
set_option linter.unusedSimpArgs false
def bare (f ww bits : Nat) : Nat := bits % 2 ^ (f + ww)
def sgn (f ww bits : Nat) : Bool := decide (bits / 2 ^ (f + ww) % 2 = 1)
def ptM (f ww I bits : Nat) : Nat := if bare f ww bits < I then pm f (bare f ww bits) else 0
def ptE (f ww I : Nat) (least : Int) (bits : Nat) : Int := if bare f ww bits < I then least + pk f (bare f ww bits) else 0
def ptK (f ww I bits : Nat) : Int := if bare f ww bits < I then 0 else if bare f ww bits = I then 1 else 2
theorem bare_lt {size : Int} {f ww : Nat} {least : Int} {I : Nat} (h : Ly size f ww least I) (bits : Nat) : bare f ww bits < 9300000000000000000 := by
 rcases h with ⟨-, rfl, rfl, -, -⟩ | ⟨-, rfl, rfl, -, -⟩
 ·have : bare 23 8 bits = bits % 2147483648 := rfl
  omega
 ·have : bare 52 11 bits = bits % 9223372036854775808 := rfl
  omega
set_option maxRecDepth 1000000 in
set_option maxHeartbeats 1600000 in
theorem sparts_any {bits : Nat} {size : Int} {f ww : Nat} {least : Int} {I : Nat} (h : Ly size f ww least I) (hb : bits < 18446744073709551616) (w : World) :
  Calls Tryz.prog 210 #[.int .u64 bits, .int .i64 size] w fun e w' => e = .returned (.tuple #[.bool (sgn f ww bits), .int .u64 (ptM f ww I bits), .int .i64 (ptE f ww I least bits), .int .i64 (ptK f ww I bits)]) ∧ Below w.heap.size w w' := by
 have hL := fun w => layout_any h w
 have hS := fun w => split_any h bits w hb
 have hF := fun w => inf_any h w
 have hlt := bare_lt h bits
 obtain ⟨-, -, hI, -⟩ := h.pk
 have eb : bits % 2 ^ (f + ww) = bare f ww bits := rfl
 have es : decide (bits / 2 ^ (f + ww) % 2 = 1) = sgn f ww bits := rfl
 rw [eb, es] at hS
 have hM : bare f ww bits < I → ∀ w, _ := fun hp w => finite_any h (bare f ww bits) w hp
 unfold ptM ptE ptK
 generalize bare f ww bits = p at *
 generalize sgn f ww bits = sg at *
 clear es eb
 rcases Nat.lt_trichotomy p I with hp | hp | hp
 ·rw [if_pos hp, if_pos hp, if_pos hp]
  have hM := hM hp
  have hpI : (p : Int) < I := by omega
  have b1 : ((p : Int) == (I : Int)) = false := by simp; omega
  generalize pm f p = m at *
  generalize least + (pk f p : Int) = e at *
  go_enter Tryz.func210, Tryz.ntmps210
  go_wp2_with (first
   | (go_at_call 255; refine (hL _).mono ?_; rintro x w2 ⟨rfl, hb2⟩; obtain ⟨W2, hW2⟩ : ∃ W2, w2.alloc (.cells #[.int .i64 ww, .int .i64 f, .int .i64 least] 346) = W2 := ⟨_, rfl⟩; have hbW := hb2.alloc hb2.size (.cells #[.int .i64 ww, .int .i64 f, .int .i64 least] 346); have d0 : W2.cell? ⟨w2.heap.size, 0, none⟩ = some (.int .i64 ww) := (by rw [← hW2]; simp [go_sem]); have d1 : W2.cell? ⟨w2.heap.size, 1, none⟩ = some (.int .i64 f) := (by rw [← hW2]; simp [go_sem]); have d2 : W2.cell? ⟨w2.heap.size, 2, none⟩ = some (.int .i64 least) := (by rw [← hW2]; simp [go_sem]); rw [hW2] at hbW; have c0 : ∀ x : Cl W2, x.w.cell? ⟨w2.heap.size, 0, none⟩ = some (.int .i64 ww) := (fun x => x.cell d0); have c1 : ∀ x : Cl W2, x.w.cell? ⟨w2.heap.size, 1, none⟩ = some (.int .i64 f) := (fun x => x.cell d1); have c2 : ∀ x : Cl W2, x.w.cell? ⟨w2.heap.size, 2, none⟩ = some (.int .i64 least) := (fun x => x.cell d2))
   | (go_at_call 256; (with_reducible refine (Cl.go0 (hS _)).mono ?_); rintro x w9 ⟨y3, rfl, rfl⟩)
   | (go_at_call 257; (with_reducible refine (Cl.go (hF _)).mono ?_); rintro x w9 ⟨y4, rfl, rfl⟩)
   | (go_at_call 258; (with_reducible refine (Cl.go (hM _)).mono ?_); rintro x w9 ⟨y5, rfl, rfl⟩))
  go_returns
  exact ⟨rfl, bel_call hbW y5.below (Nat.le_refl _)⟩
 ·rw [if_neg (by omega), if_neg (by omega), if_neg (by omega), if_pos hp]
  clear hM
  subst hp
  go_enter Tryz.func210, Tryz.ntmps210
  go_wp2_with (first
   | (go_at_call 255; refine (hL _).mono ?_; rintro x w2 ⟨rfl, hb2⟩; obtain ⟨W2, hW2⟩ : ∃ W2, w2.alloc (.cells #[.int .i64 ww, .int .i64 f, .int .i64 least] 346) = W2 := ⟨_, rfl⟩; have hbW := hb2.alloc hb2.size (.cells #[.int .i64 ww, .int .i64 f, .int .i64 least] 346); have d0 : W2.cell? ⟨w2.heap.size, 0, none⟩ = some (.int .i64 ww) := (by rw [← hW2]; simp [go_sem]); have d1 : W2.cell? ⟨w2.heap.size, 1, none⟩ = some (.int .i64 f) := (by rw [← hW2]; simp [go_sem]); have d2 : W2.cell? ⟨w2.heap.size, 2, none⟩ = some (.int .i64 least) := (by rw [← hW2]; simp [go_sem]); rw [hW2] at hbW; have c0 : ∀ x : Cl W2, x.w.cell? ⟨w2.heap.size, 0, none⟩ = some (.int .i64 ww) := (fun x => x.cell d0); have c1 : ∀ x : Cl W2, x.w.cell? ⟨w2.heap.size, 1, none⟩ = some (.int .i64 f) := (fun x => x.cell d1); have c2 : ∀ x : Cl W2, x.w.cell? ⟨w2.heap.size, 2, none⟩ = some (.int .i64 least) := (fun x => x.cell d2))
   | (go_at_call 256; (with_reducible refine (Cl.go0 (hS _)).mono ?_); rintro x w9 ⟨y3, rfl, rfl⟩)
   | (go_at_call 257; (with_reducible refine (Cl.go (hF _)).mono ?_); rintro x w9 ⟨y4, rfl, rfl⟩))
  go_returns
  exact ⟨rfl, bel_call hbW y4.below (Nat.le_refl _)⟩
 ·rw [if_neg (by omega), if_neg (by omega), if_neg (by omega), if_neg (by omega)]
  clear hM
  have hpI : (I : Int) < p := by omega
  have b1 : ((p : Int) == (I : Int)) = false := by simp; omega
  go_enter Tryz.func210, Tryz.ntmps210
  go_wp2_with (first
   | (go_at_call 255; refine (hL _).mono ?_; rintro x w2 ⟨rfl, hb2⟩; obtain ⟨W2, hW2⟩ : ∃ W2, w2.alloc (.cells #[.int .i64 ww, .int .i64 f, .int .i64 least] 346) = W2 := ⟨_, rfl⟩; have hbW := hb2.alloc hb2.size (.cells #[.int .i64 ww, .int .i64 f, .int .i64 least] 346); have d0 : W2.cell? ⟨w2.heap.size, 0, none⟩ = some (.int .i64 ww) := (by rw [← hW2]; simp [go_sem]); have d1 : W2.cell? ⟨w2.heap.size, 1, none⟩ = some (.int .i64 f) := (by rw [← hW2]; simp [go_sem]); have d2 : W2.cell? ⟨w2.heap.size, 2, none⟩ = some (.int .i64 least) := (by rw [← hW2]; simp [go_sem]); rw [hW2] at hbW; have c0 : ∀ x : Cl W2, x.w.cell? ⟨w2.heap.size, 0, none⟩ = some (.int .i64 ww) := (fun x => x.cell d0); have c1 : ∀ x : Cl W2, x.w.cell? ⟨w2.heap.size, 1, none⟩ = some (.int .i64 f) := (fun x => x.cell d1); have c2 : ∀ x : Cl W2, x.w.cell? ⟨w2.heap.size, 2, none⟩ = some (.int .i64 least) := (fun x => x.cell d2))
   | (go_at_call 256; (with_reducible refine (Cl.go0 (hS _)).mono ?_); rintro x w9 ⟨y3, rfl, rfl⟩)
   | (go_at_call 257; (with_reducible refine (Cl.go (hF _)).mono ?_); rintro x w9 ⟨y4, rfl, rfl⟩))
  go_returns
  exact ⟨rfl, bel_call hbW y4.below (Nat.le_refl _)⟩
def val (f : Nat) (least : Int) (p : Nat) : Nat := 2 * pq f p * un least
theorem val_ex {size : Int} {f ww : Nat} {least : Int} {I : Nat} (h : Ly size f ww least I) {p : Nat} (hp : p < I) : exU (pm f p) (least + pk f p) = val f least p ∧ Fine (val f least p) := by
 obtain ⟨h0, h1, -, -, -, -, -, -, h2⟩ := h.pk
 have h3 := h2 p hp
 have h4 := h.pm p
 have e := exU_val (f := f) (p := p) (least := least) (by omega) (by omega)
 have := fine_ex (m := pm f p) (e := least + pk f p) (by omega) (by omega) (by omega)
 rw [e] at this
 exact ⟨e, this⟩
end Go.Proofs.YtdlnmnipnkeabaaGreatDoor
namespace Go.Proofs.YtdlnmnipnkeabaaGreatDoor
open Go.RowKit
set_option linter.unusedVariables false
set_option linter.unusedSimpArgs false
abbrev PtC (bits : Nat) (size : Int) (sg : Bool) (m : Nat) (x k : Int) : Prop := ∀ w, Calls Tryz.prog 210 #[.int .u64 bits, .int .i64 size] w fun e w' => e = .returned (.tuple #[.bool sg, .int .u64 m, .int .i64 x, .int .i64 k]) ∧ Below w.heap.size w w'
theorem lyB : Ly 64 52 11 (-1074) 9218868437227405312 := .inr ⟨rfl, rfl, rfl, rfl, rfl⟩
end Go.Proofs.YtdlnmnipnkeabaaGreatDoor
namespace Go.Proofs.YtdlnmnipnkeabaaGreatDoor
open Go.RowKit
set_option linter.unusedVariables false
set_option linter.unusedSimpArgs false
set_option maxRecDepth 1000000 in
theorem fsign_any (neg : Bool) (p mi sh sp z : Bool) (wid prec verb : Int) (w : World) :
  Calls Tryz.prog 213 #[.bool neg, .agg #[.bool p, .bool mi, .bool sh, .bool sp, .bool z, .int .i64 wid, .int .i64 prec, .int .i32 verb]] w fun x w' => x = .returned (.string (sgF neg p sp)) ∧ Below w.heap.size w w' := by
 cases neg <;> cases p <;> cases sp
 all_goals
  go_enter Tryz.func213, Tryz.ntmps213
  go_wp2
  go_ret
  exact ⟨rfl, by go_grown⟩
set_option maxRecDepth 1000000 in
set_option maxHeartbeats 1000000 in
theorem fpad_any (s : ByteArray) (p mi sh sp z : Bool) (wid prec verb : Int) (w : World) (hs : s.size ≤ 1000000) :
  Calls Tryz.prog 211 #[.string s, .agg #[.bool p, .bool mi, .bool sh, .bool sp, .bool z, .int .i64 wid, .int .i64 prec, .int .i32 verb]] w fun e w' => e = .returned (.string (padS s mi false wid)) ∧ Below w.heap.size w w' := by
 have hP : ∀ w, Calls Tryz.prog 129 #[.string s, .agg #[.bool p, .bool mi, .bool sh, .bool sp, .bool false, .int .i64 wid, .int .i64 prec, .int .i32 verb]] w fun e w' => e = .returned (.string (padS s mi false wid)) ∧ Below w.heap.size w w' := fun w => pad_any s p mi sh sp false wid prec verb w hs
 generalize padS s mi false wid = r at *
 have hbA : Below w.heap.size w (w.alloc (.cells #[.bool p, .bool mi, .bool sh, .bool sp, .bool false, .int .i64 wid, .int .i64 prec, .int .i32 verb] 113)) := (Below.refl _ _).alloc (Nat.le_refl _) _
 go_enter Tryz.func211, Tryz.ntmps211
 go_wp2_with (go_at_call 129; refine (hP _).mono ?_; rintro e w1 ⟨rfl, hb1⟩)
 go_ret
 exact ⟨rfl, hbA.trans (hb1.mono hbA.size)⟩
theorem great_any (verb : Int) (w : World) : Calls Tryz.prog 215 #[.int .i32 verb] w fun e w' => e = .returned (.bool (grV verb)) ∧ w' = w := by
 by_cases h1 : verb = 69
 ·subst h1
  go_enter Tryz.func215, Tryz.ntmps215
  go_wp2
  go_ret
  exact ⟨rfl, rfl⟩
 by_cases h2 : verb = 71
 ·subst h2
  go_enter Tryz.func215, Tryz.ntmps215
  go_wp2
  go_ret
  exact ⟨rfl, rfl⟩
 by_cases h3 : verb = 88
 ·subst h3
  go_enter Tryz.func215, Tryz.ntmps215
  go_wp2
  go_ret
  exact ⟨rfl, rfl⟩
 have e : grV verb = false := decide_eq_false (by omega)
 rw [e]
 have b1 : (verb == 69) = false := by simp [h1]
 have b2 : (verb == 71) = false := by simp [h2]
 have b3 : (verb == 88) = false := by simp [h3]
 go_enter Tryz.func215, Tryz.ntmps215
 go_wp2
 go_ret
 exact ⟨rfl, rfl⟩
def wrF (verb : Int) : Nat := if verb = 101 ∨ verb = 69 then 250 else if verb = 102 ∨ verb = 70 then 251 else if verb = 98 then 253 else if verb = 120 ∨ verb = 88 then 254 else 252
abbrev WrC (verb : Int) (v : Value) (b : Bool) : Prop := ∀ w, Calls Tryz.prog 209 #[.int .i32 verb] w fun e w' => e = .returned (.tuple #[v, .bool b]) ∧ w' = w
set_option maxRecDepth 1000000 in
theorem writer_yes {verb : Int} (h : fVerb verb = true) : WrC verb (.func (.func (wrF verb)) #[] #[]) true := fun w => by
 have h := of_decide_eq_true h
 rcases h with rfl | rfl | rfl | rfl | rfl | rfl | rfl | rfl | rfl | rfl
 all_goals
  go_enter Tryz.func209, Tryz.ntmps209
  go_wp2
  go_returns
  exact ⟨rfl, rfl⟩
end Go.Proofs.YtdlnmnipnkeabaaGreatDoor
namespace Go.Proofs.YtdlnmnipnkeabaaGreatDoor
open Go.RowKit
set_option linter.unusedVariables false
set_option linter.unusedSimpArgs false
theorem together2D {a b : ByteArray} (hz : a.size + b.size ≤ 10000000) (w : World) : Calls Tryz.prog 212 #[.slice (some ⟨w.heap.size, 0, none⟩) 2 2] (w.alloc (.cells #[.string a, .string b] 9)).drew fun e w' => e = .returned (.string (a ++ b)) ∧ Below (w.alloc (.cells #[.string a, .string b] 9)).drew.heap.size (w.alloc (.cells #[.string a, .string b] 9)).drew w' := together2 _ (by simp) (by simp) hz
abbrev FlCq (bits : Nat) (size : Int) (p mi sh sp z : Bool) (wid prec verb : Int) (s : ByteArray) (b : Bool) : Prop := ∀ w, Calls Tryz.prog 171 #[.int .u64 bits, .int .i64 size, .agg #[.bool p, .bool mi, .bool sh, .bool sp, .bool z, .int .i64 wid, .int .i64 prec, .int .i32 verb]] w fun e w' => e = .returned (.tuple #[.string s, .bool b]) ∧ Below w.heap.size w w'
set_option maxRecDepth 1000000 in
set_option maxHeartbeats 4000000 in
theorem filled_any (s t : ByteArray) (p mi sh sp z : Bool) (wid prec verb : Int) (w : World) (hs : s.size ≤ 1) (ht : t.size ≤ 200000) :
  Calls Tryz.prog 217 #[.string s, .string t, .agg #[.bool p, .bool mi, .bool sh, .bool sp, .bool z, .int .i64 wid, .int .i64 prec, .int .i32 verb]] w fun e w' => e = .returned (.string (filT s t mi z wid)) ∧ Below w.heap.size w w' := by
 have hbA : Below w.heap.size w (w.alloc (.cells #[.bool p, .bool mi, .bool sh, .bool sp, .bool z, .int .i64 wid, .int .i64 prec, .int .i32 verb] 113)) := (Below.refl _ _).alloc (Nat.le_refl _) _
 have f0 : ∀ x : Cl (w.alloc (.cells #[.bool p, .bool mi, .bool sh, .bool sp, .bool z, .int .i64 wid, .int .i64 prec, .int .i32 verb] 113)), x.w.cell? ⟨w.heap.size, 0, none⟩ = some (.bool p) := fun x => x.cell (by simp)
 have f1 : ∀ x : Cl (w.alloc (.cells #[.bool p, .bool mi, .bool sh, .bool sp, .bool z, .int .i64 wid, .int .i64 prec, .int .i32 verb] 113)), x.w.cell? ⟨w.heap.size, 1, none⟩ = some (.bool mi) := fun x => x.cell (by simp)
 have f2 : ∀ x : Cl (w.alloc (.cells #[.bool p, .bool mi, .bool sh, .bool sp, .bool z, .int .i64 wid, .int .i64 prec, .int .i32 verb] 113)), x.w.cell? ⟨w.heap.size, 2, none⟩ = some (.bool sh) := fun x => x.cell (by simp)
 have f3 : ∀ x : Cl (w.alloc (.cells #[.bool p, .bool mi, .bool sh, .bool sp, .bool z, .int .i64 wid, .int .i64 prec, .int .i32 verb] 113)), x.w.cell? ⟨w.heap.size, 3, none⟩ = some (.bool sp) := fun x => x.cell (by simp)
 have f4 : ∀ x : Cl (w.alloc (.cells #[.bool p, .bool mi, .bool sh, .bool sp, .bool z, .int .i64 wid, .int .i64 prec, .int .i32 verb] 113)), x.w.cell? ⟨w.heap.size, 4, none⟩ = some (.bool z) := fun x => x.cell (by simp)
 have f5 : ∀ x : Cl (w.alloc (.cells #[.bool p, .bool mi, .bool sh, .bool sp, .bool z, .int .i64 wid, .int .i64 prec, .int .i32 verb] 113)), x.w.cell? ⟨w.heap.size, 5, none⟩ = some (.int .i64 wid) := fun x => x.cell (by simp)
 have f6 : ∀ x : Cl (w.alloc (.cells #[.bool p, .bool mi, .bool sh, .bool sp, .bool z, .int .i64 wid, .int .i64 prec, .int .i32 verb] 113)), x.w.cell? ⟨w.heap.size, 6, none⟩ = some (.int .i64 prec) := fun x => x.cell (by simp)
 have f7 : ∀ x : Cl (w.alloc (.cells #[.bool p, .bool mi, .bool sh, .bool sp, .bool z, .int .i64 wid, .int .i64 prec, .int .i32 verb] 113)), x.w.cell? ⟨w.heap.size, 7, none⟩ = some (.int .i32 verb) := fun x => x.cell (by simp)
 have hlt : ∀ x : Cl (w.alloc (.cells #[.bool p, .bool mi, .bool sh, .bool sp, .bool z, .int .i64 wid, .int .i64 prec, .int .i32 verb] 113)), w.heap.size < x.w.heap.size := fun x => World.block_lt_of_cell? x.w _ (f0 x)
 have hwl := wdt_le wid
 have hwe := wdt_eq wid
 have hn1 : ∀ (W : World) (y : Cl W) w5, Below y.w.drew.heap.size y.w.drew w5 → ∃ z : Cl W, w5 = z.w := fun W y w5 hb => ⟨⟨w5, bel_call y.below.drew hb (Nat.le_refl _)⟩, rfl⟩
 unfold filT
 by_cases hz : z = true ∧ mi = false
 ·rw [if_pos hz]
  obtain ⟨rfl, rfl⟩ := hz
  have hl := lnA_size t ((wdt wid : Nat) - (s.size : Nat))
  have hL : LaC t ((wdt wid : Nat) - (s.size : Nat)) (lnA t ((wdt wid : Nat) - (s.size : Nat))) := fun w => flen_any _ _ w (by omega) (by omega) (by omega)
  have hB : ∀ w, Calls Tryz.prog 211 #[.string (s ++ lnA t ((wdt wid : Nat) - (s.size : Nat))), .agg #[.bool p, .bool false, .bool sh, .bool sp, .bool true, .int .i64 wid, .int .i64 prec, .int .i32 verb]] w fun e w' => e = .returned (.string (padS (s ++ lnA t ((wdt wid : Nat) - (s.size : Nat))) false false wid)) ∧ Below w.heap.size w w' := fun w => fpad_any _ p false sh sp true wid prec verb w (by rw [app_size]; omega)
  have hz2 : s.size + (lnA t ((wdt wid : Nat) - (s.size : Nat))).size ≤ 10000000 := by omega
  clear hl
  generalize padS (s ++ lnA t ((wdt wid : Nat) - (s.size : Nat))) false false wid = R at *
  generalize lnA t ((wdt wid : Nat) - (s.size : Nat)) = T at *
  generalize wdt wid = q at *
  go_enter Tryz.func217, Tryz.ntmps217
  go_wp2_with (go_at_call 261; (with_reducible refine (hL _).mono ?_); rintro x w2 ⟨rfl, hb2⟩; obtain ⟨y2, rfl⟩ := Cl.start hb2)
  go_region_with (first
   | (go_at_call 212; (with_reducible refine (together2D hz2 _).mono ?_); rintro x w5 ⟨rfl, hb5⟩; obtain ⟨y5, rfl⟩ : ∃ z : Cl (w.alloc (.cells #[.bool p, .bool false, .bool sh, .bool sp, .bool true, .int .i64 wid, .int .i64 prec, .int .i32 verb] 113)), w5 = z.w := ⟨⟨w5, bel_call (y2.below.alloc y2.below.size _).drew hb5 (Nat.le_refl _)⟩, rfl⟩)
   | (go_at_call 211; (with_reducible refine (hB _).mono ?_); rintro x w6 ⟨rfl, hb6⟩; obtain ⟨y6, rfl⟩ := Cl.next hb6))
  all_goals go_wp2
  all_goals go_ret
  all_goals exact ⟨rfl, bel_call hbA y6.below (Nat.le_refl _)⟩
 ·rw [if_neg hz]
  have hB : ∀ w, Calls Tryz.prog 211 #[.string (s ++ t), .agg #[.bool p, .bool mi, .bool sh, .bool sp, .bool z, .int .i64 wid, .int .i64 prec, .int .i32 verb]] w fun e w' => e = .returned (.string (padS (s ++ t) mi false wid)) ∧ Below w.heap.size w w' := fun w => fpad_any _ p mi sh sp z wid prec verb w (by rw [app_size]; omega)
  have hz2 : s.size + t.size ≤ 10000000 := by omega
  generalize padS (s ++ t) mi false wid = R at *
  cases z with
  | false =>
    clear hz
    go_enter Tryz.func217, Tryz.ntmps217
    go_wp2
    go_region_with (first
     | (go_at_call 212; refine (together2 (a := s) (b := t) _ (by simp) (by simp) hz2).mono ?_; rintro x w5 ⟨rfl, hb5⟩; obtain ⟨y5, rfl⟩ : ∃ z : Cl (w.alloc (.cells #[.bool p, .bool mi, .bool sh, .bool sp, .bool false, .int .i64 wid, .int .i64 prec, .int .i32 verb] 113)), w5 = z.w := ⟨⟨w5, bel_call ((Below.refl _ _).alloc (Nat.le_refl _) _).drew hb5 (Nat.le_refl _)⟩, rfl⟩)
     | (go_at_call 211; (with_reducible refine (hB _).mono ?_); rintro x w6 ⟨rfl, hb6⟩; obtain ⟨y6, rfl⟩ := Cl.next hb6))
    all_goals go_wp2
    all_goals go_ret
    all_goals exact ⟨rfl, bel_call hbA y6.below (Nat.le_refl _)⟩
  | true =>
    obtain rfl : mi = true := by cases mi; · exact absurd ⟨rfl, rfl⟩ hz
                                 ·rfl
    clear hz
    go_enter Tryz.func217, Tryz.ntmps217
    go_wp2
    go_region_with (first
     | (go_at_call 212; refine (together2 (a := s) (b := t) _ (by simp) (by simp) hz2).mono ?_; rintro x w5 ⟨rfl, hb5⟩; obtain ⟨y5, rfl⟩ : ∃ z : Cl (w.alloc (.cells #[.bool p, .bool true, .bool sh, .bool sp, .bool true, .int .i64 wid, .int .i64 prec, .int .i32 verb] 113)), w5 = z.w := ⟨⟨w5, bel_call ((Below.refl _ _).alloc (Nat.le_refl _) _).drew hb5 (Nat.le_refl _)⟩, rfl⟩)
     | (go_at_call 211; (with_reducible refine (hB _).mono ?_); rintro x w6 ⟨rfl, hb6⟩; obtain ⟨y6, rfl⟩ := Cl.next hb6))
    all_goals go_wp2
    all_goals go_ret
    all_goals exact ⟨rfl, bel_call hbA y6.below (Nat.le_refl _)⟩
end Go.Proofs.YtdlnmnipnkeabaaGreatDoor
namespace Go.Proofs.YtdlnmnipnkeabaaGreatDoor
open Go.RowKit
set_option linter.unusedVariables false
set_option linter.unusedSimpArgs false
set_option maxRecDepth 1000000 in
set_option maxHeartbeats 4000000 in
theorem fin_102_false {bits m : Nat} {size e : Int} {sg : Bool} {T S R : ByteArray} {P : Int} (p mi sp z : Bool) (wid prec : Int) (hP : PtC bits size sg m e 0) (hmin : min prec 1000 = P)
  (hN : ∀ w, Calls Tryz.prog 251 #[.agg #[.int .u64 bits, .int .i64 size, .int .u64 m, .int .i64 e, .int .i64 P, .bool false]] w fun x w' => x = .returned (.string T) ∧ Below w.heap.size w w')
  (hS : ∀ w, Calls Tryz.prog 213 #[.bool sg, .agg #[.bool p, .bool mi, .bool false, .bool sp, .bool z, .int .i64 wid, .int .i64 prec, .int .i32 102]] w fun x w' => x = .returned (.string S) ∧ Below w.heap.size w w')
  (hF : ∀ w, Calls Tryz.prog 217 #[.string S, .string T, .agg #[.bool p, .bool mi, .bool false, .bool sp, .bool z, .int .i64 wid, .int .i64 prec, .int .i32 102]] w fun x w' => x = .returned (.string R) ∧ Below w.heap.size w w') : FlCq bits size p mi false sp z wid prec 102 R true := fun w => by
 have hbA : Below w.heap.size w (w.alloc (.cells #[.bool p, .bool mi, .bool false, .bool sp, .bool z, .int .i64 wid, .int .i64 prec, .int .i32 102] 113)) := (Below.refl _ _).alloc (Nat.le_refl _) _
 have f0 : ∀ x : Cl (w.alloc (.cells #[.bool p, .bool mi, .bool false, .bool sp, .bool z, .int .i64 wid, .int .i64 prec, .int .i32 102] 113)), x.w.cell? ⟨w.heap.size, 0, none⟩ = some (.bool p) := fun x => x.cell (by simp)
 have f1 : ∀ x : Cl (w.alloc (.cells #[.bool p, .bool mi, .bool false, .bool sp, .bool z, .int .i64 wid, .int .i64 prec, .int .i32 102] 113)), x.w.cell? ⟨w.heap.size, 1, none⟩ = some (.bool mi) := fun x => x.cell (by simp)
 have f2 : ∀ x : Cl (w.alloc (.cells #[.bool p, .bool mi, .bool false, .bool sp, .bool z, .int .i64 wid, .int .i64 prec, .int .i32 102] 113)), x.w.cell? ⟨w.heap.size, 2, none⟩ = some (.bool false) := fun x => x.cell (by simp)
 have f3 : ∀ x : Cl (w.alloc (.cells #[.bool p, .bool mi, .bool false, .bool sp, .bool z, .int .i64 wid, .int .i64 prec, .int .i32 102] 113)), x.w.cell? ⟨w.heap.size, 3, none⟩ = some (.bool sp) := fun x => x.cell (by simp)
 have f4 : ∀ x : Cl (w.alloc (.cells #[.bool p, .bool mi, .bool false, .bool sp, .bool z, .int .i64 wid, .int .i64 prec, .int .i32 102] 113)), x.w.cell? ⟨w.heap.size, 4, none⟩ = some (.bool z) := fun x => x.cell (by simp)
 have f5 : ∀ x : Cl (w.alloc (.cells #[.bool p, .bool mi, .bool false, .bool sp, .bool z, .int .i64 wid, .int .i64 prec, .int .i32 102] 113)), x.w.cell? ⟨w.heap.size, 5, none⟩ = some (.int .i64 wid) := fun x => x.cell (by simp)
 have f6 : ∀ x : Cl (w.alloc (.cells #[.bool p, .bool mi, .bool false, .bool sp, .bool z, .int .i64 wid, .int .i64 prec, .int .i32 102] 113)), x.w.cell? ⟨w.heap.size, 6, none⟩ = some (.int .i64 prec) := fun x => x.cell (by simp)
 have f7 : ∀ x : Cl (w.alloc (.cells #[.bool p, .bool mi, .bool false, .bool sp, .bool z, .int .i64 wid, .int .i64 prec, .int .i32 102] 113)), x.w.cell? ⟨w.heap.size, 7, none⟩ = some (.int .i32 102) := fun x => x.cell (by simp)
 have hW : WrC 102 (.func (.func 251) #[] #[]) true := writer_yes (verb := 102) (by decide)
 have hG : ∀ w, Calls Tryz.prog 215 #[.int .i32 102] w fun e w' => e = .returned (.bool false) ∧ w' = w := fun w => great_any 102 w
 go_enter Tryz.func171, Tryz.ntmps171
 go_wp2_with (first
  | (go_at_call 209; (with_reducible refine (hW _).mono ?_); rintro x w1 ⟨rfl, rfl⟩)
  | (go_at_call 210; (with_reducible refine (hP _).mono ?_); rintro x w2 ⟨rfl, hb2⟩; obtain ⟨y2, rfl⟩ := Cl.start hb2)
  | (go_at_call 251; (with_reducible refine (hN _).mono ?_); rintro x w4 ⟨rfl, hb4⟩; obtain ⟨y4, rfl⟩ := Cl.next hb4)
  | (go_at_call 215; (with_reducible refine (hG _).mono ?_); rintro x w1 ⟨rfl, rfl⟩))
 refine wp_region_above (w.alloc (.cells #[.bool p, .bool mi, .bool false, .bool sp, .bool z, .int .i64 wid, .int .i64 prec, .int .i32 102] 113)) y4.below (by kernel_rfl) (by kernel_rfl) ?_
 intro hCl
 repeat (go_big_quiet_step ((first | (go_at_call 213; exact Cl.call (hS _)) | (go_at_call 217; exact Cl.call (hF _)))))
 refine wpQuiet_nil ?_
 intro _ hw'
 obtain ⟨z9, hz⟩ := hw'
 subst hz
 go_wp2
 go_returns
 exact ⟨rfl, bel_call hbA z9.below (Nat.le_refl _)⟩
end Go.Proofs.YtdlnmnipnkeabaaGreatDoor
namespace Go.Proofs.YtdlnmnipnkeabaaGreatDoor
open Go.RowKit
set_option linter.unusedVariables false
set_option linter.unusedSimpArgs false
end Go.Proofs.YtdlnmnipnkeabaaGreatDoor
namespace Go.Proofs.YtdlnmnipnkeabaaGreatDoor
open Go.RowKit
set_option linter.unusedVariables false
set_option linter.unusedSimpArgs false
end Go.Proofs.YtdlnmnipnkeabaaGreatDoor
namespace Go.Proofs.YtdlnmnipnkeabaaGreatDoor
open Go.RowKit
set_option linter.unusedVariables false
set_option linter.unusedSimpArgs false
end Go.Proofs.YtdlnmnipnkeabaaGreatDoor
namespace Go.Proofs.YtdlnmnipnkeabaaGreatDoor
open Go.RowKit
set_option linter.unusedVariables false
set_option linter.unusedSimpArgs false
abbrev ExC (m : Nat) (e : Int) (S : ByteArray) (P : Int) : Prop := ∀ w, Calls Tryz.prog 299 #[.int .u64 m, .int .i64 e] w fun x w' => x = .returned (.tuple #[.agg #[.string S, .int .i64 P], .int .i64 0]) ∧ Below w.heap.size w w'
theorem exC {m : Nat} {e : Int} (hm : m < 18446744073709551616) (h0 : -1200 ≤ e) (h1 : e ≤ 1200) : ExC m e (oS (exU m e)) (oP (exU m e)) := fun w => by
 have := exact_any m e w hm
 have e1 : xE e = 0 := if_neg (by omega)
 have e2 : xV m e = exU m e := if_pos e1
 rw [e1, e2] at this; exact this
theorem exactD {size : Int} {f ww : Nat} {least : Int} {I p : Nat} (h : Ly size f ww least I) (hp : p < I) : ExC (pm f p) (least + pk f p) (oS (val f least p)) (oP (val f least p)) := by
 obtain ⟨h0, h1, -, -, -, -, -, -, h2⟩ := h.pk
 have h3 := h2 p hp
 have h4 := h.pm p
 have := exC (m := pm f p) (e := least + pk f p) (by omega) (by omega) (by omega)
 rw [(val_ex h hp).1] at this
 exact this
end Go.Proofs.YtdlnmnipnkeabaaGreatDoor
namespace Go.Proofs.YtdlnmnipnkeabaaGreatDoor
open Go.RowKit
set_option linter.unusedVariables false
set_option linter.unusedSimpArgs false
def Asc (s : ByteArray) : Prop := ∀ x ∈ s.data.toList, x.toNat < 128
theorem Asc.app {a b : ByteArray} (h : Asc a) (k : Asc b) : Asc (a ++ b) := fun x hx => by
 rw [app_list] at hx
 rcases List.mem_append.1 hx with hx | hx
 ·exact h x hx
 ·exact k x hx
theorem Asc.run {c : Nat} (hc : c < 128) (n : Nat) : Asc (run c n) := fun x hx => by
 rw [run_list] at hx
 have := List.eq_of_mem_replicate hx
 subst this
 simp; omega
theorem Asc.ext {s : ByteArray} (h : Asc s) (a b : Nat) : Asc (s.extract a b) := fun x hx => by
 rw [ext_li] at hx
 exact h x (List.mem_of_mem_take (List.mem_of_mem_drop hx))
theorem Asc.lit {l : List UInt8} (h : l.all (fun x => decide (x.toNat < 128)) = true) : Asc ⟨l.toArray⟩ := fun x hx => by
 have := List.all_eq_true.1 h x (by simpa using hx)
 simpa using this
theorem Asc.lnA {s : ByteArray} (h : Asc s) (n : Int) : Asc (lnA s n) := (Asc.run (by decide) _).app h
theorem Asc.lnB {s : ByteArray} (h : Asc s) (n : Int) : Asc (lnB s n) := h.app (Asc.run (by decide) _)
theorem asc46 : Asc ⟨#[46]⟩ := Asc.lit (l := [46]) (by decide)
theorem asc48 : Asc ⟨#[48]⟩ := Asc.lit (l := [48]) (by decide)
theorem Asc.ptd {a b : ByteArray} (h : Asc a) (k : Asc b) (sh : Bool) : Asc (ptd sh a b) := by
 unfold Go.Proofs.YtdlnmnipnkeabaaGreatDoor.ptd
 split
 ·exact h
 ·exact (h.app asc46).app k
theorem Asc.arA {d : ByteArray} (h : Asc d) (p : Int) : Asc (arA d p) := by
 unfold Go.Proofs.YtdlnmnipnkeabaaGreatDoor.arA
 split
 ·exact asc48
 ·exact (h.lnB _).ext _ _
theorem Asc.arB {d : ByteArray} (h : Asc d) (p : Int) : Asc (arB d p) := by
 unfold Go.Proofs.YtdlnmnipnkeabaaGreatDoor.arB
 split
 ·exact h.lnA _
 ·exact (h.lnB _).ext _ _
theorem rnd_pt (v : Nat) (n : Int) : oP (rnd v n) ≤ max (oP v + 1) 0 := by
 unfold rnd
 split
 ·rw [o_zero.2]; omega
 ·split
  ·omega
  ·rename_i h1 h2
   obtain ⟨k, rfl⟩ := Int.eq_ofNat_of_zero_le (show 0 ≤ n by omega)
   have hl := o_low v
   obtain ⟨Q, hQ⟩ := Int.eq_ofNat_of_zero_le (show 0 ≤ oP v - (k : Int) + 10000 by omega)
   rw [hQ, Int.toNat_natCast]
   have hv : v < 10 ^ (Q + k) := (o_dec v).lt (by omega)
   obtain ⟨u, hu, hu2, -, -⟩ := near_top hv
   have h3 : near v Q < 10 ^ (Q + k + 1) := by
    rw [hu, Nat.pow_succ, Nat.pow_add]
    have h4 := Nat.mul_le_mul_right (10 ^ Q) hu2
    have h5 := Nat.mul_pos (pow_pos10 Q) (pow_pos10 k)
    rw [Nat.mul_comm (10 ^ k)] at h4
    omega
   rcases oP_le h3 with h | h
   ·omega
   ·rw [h, o_zero.2]; omega
theorem oP_lo (v : Nat) : -10000 ≤ oP v := by have := o_low v; omega
theorem fixC {bits m v : Nat} {size e P : Int} {sh : Bool} (hX : ExC m e (oS v) (oP v)) (fv : Fine v) (hP : P ≤ 1000) (w : World) : Calls Tryz.prog 251 #[.agg #[.int .u64 (bits : Nat), .int .i64 size, .int .u64 (m : Nat), .int .i64 e, .int .i64 P, .bool sh]] w fun x w' => x = .returned (.string (fixT sh P v)) ∧ Below w.heap.size w w' := by
 have h0 : 0 ≤ plcF P ∧ plcF P ≤ 1000 := by unfold plcF; split <;> omega
 have hl := plc_low (v := v) h0.1 h0.2
 have hp : oP (plc v (plcF P)) ≤ max (oP v + 1) 0 := rnd_pt v _
 have hp0 := oP_lo (plc v (plcF P))
 have hp1 := fv.p1
 have hs := oS_size (plc v (plcF P))
 have hb := arB_size_is (oS (plc v (plcF P))) (oP (plc v (plcF P)))
 have ha := arA_size (oS (plc v (plcF P))) (oP (plc v (plcF P))) (by omega)
 have hz := lnB_size (arB (oS (plc v (plcF P))) (oP (plc v (plcF P)))) (plcF P)
 exact fixed_walk (k := plcF P) fplaces_any (value_walk hX) (placesC _ fv.good) (fun w => faround_any _ _ w (by omega) (by omega) (by omega)) (fun w => flenB_any _ _ w (by omega) (by omega) (by omega)) (fun w => fpointed_any _ _ w (by omega) (by omega)) w
theorem ptc_any {bits : Nat} {size : Int} {f ww : Nat} {least : Int} {I : Nat} (h : Ly size f ww least I) (hb : bits < 18446744073709551616) : PtC bits size (sgn f ww bits) (ptM f ww I bits) (ptE f ww I least bits) (ptK f ww I bits) := fun w => sparts_any h hb w
end Go.Proofs.YtdlnmnipnkeabaaGreatDoor
