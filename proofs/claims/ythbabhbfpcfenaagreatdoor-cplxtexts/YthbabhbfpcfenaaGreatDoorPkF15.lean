/- SWalkA, SWalkB: these texts in one. -/
import Derived.Test.YthbabhbfpcfenaaGreatDoorPkF10
import Derived.Laws.BitsAllLaws
/- The walks of package short's small functions. -/
namespace Go.Proofs.YthbabhbfpcfenaaGreatDoor
open Go.RowKit
set_option linter.unusedVariables false
set_option linter.unusedSimpArgs false

theorem and_top (a n : Nat) : a &&& 2 ^ n = a / 2 ^ n % 2 * 2 ^ n := by
  apply Nat.eq_of_testBit_eq
  intro i
  rw [Nat.testBit_and, Nat.testBit_two_pow]
  rcases Nat.mod_two_eq_zero_or_one (a / 2 ^ n) with h | h
  · rw [h, Nat.zero_mul, Nat.zero_testBit]
    by_cases hi : n = i
    · subst hi
      rw [Nat.testBit_eq_decide_div_mod_eq, h]; rfl
    · simp [hi]
  · rw [h, Nat.one_mul, Nat.testBit_two_pow]
    by_cases hi : n = i
    · subst hi
      rw [Nat.testBit_eq_decide_div_mod_eq, h]; simp
    · simp [hi]
theorem bits_top (a n T : Nat) (h : a < 18446744073709551616) (hT : T = 2 ^ n) (hT2 : T < 18446744073709551616) : bits .and .u64 (a : Int) (T : Int) = ((a / T % 2 * T : Nat) : Int) := by
  rw [u64_and_nat a T h hT2, hT, and_top]
theorem bits_low (a n T : Nat) (h : a < 18446744073709551616) (hT : T + 1 = 2 ^ n) (hT2 : T < 18446744073709551616) : bits .and .u64 (a : Int) (T : Int) = ((a % (T + 1) : Nat) : Int) := by
  rw [u64_and_nat a T h hT2, show T = 2 ^ n - 1 by omega, Nat.and_two_pow_sub_one_eq_mod, show 2 ^ n - 1 + 1 = 2 ^ n by omega]
/-- The two layouts: bits of F, bits of E, the least e, the pattern of Inf. -/
def Ly (size : Int) (f w : Nat) (least : Int) (I : Nat) : Prop := (size = 32 ∧ f = 23 ∧ w = 8 ∧ least = -149 ∧ I = 2139095040) ∨ (size = 64 ∧ f = 52 ∧ w = 11 ∧ least = -1074 ∧ I = 9218868437227405312)
set_option maxRecDepth 1000000 in
theorem layout_no (size : Int) (w : World) (h1 : ¬ size = 32) (h2 : ¬ size = 64) :
    Calls Tryz.prog 43 #[.int .i64 size] w fun e w' => e = .returned (.tuple #[.agg #[.int .i64 0, .int .i64 0, .int .i64 0], .bool false]) ∧ Below w.heap.size w w' := by
  have b1 : (size == 32) = false := by simp [h1]
  have b2 : (size == 64) = false := by simp [h2]
  go_enter Tryz.func43, Tryz.ntmps43
  go_wp2
  go_returns
  exact ⟨rfl, by go_grown⟩
set_option maxRecDepth 1000000 in
theorem layout_any {size : Int} {f ww : Nat} {least : Int} {I : Nat} (h : Ly size f ww least I) (w : World) :
    Calls Tryz.prog 43 #[.int .i64 size] w fun e w' => e = .returned (.tuple #[.agg #[.int .i64 ww, .int .i64 f, .int .i64 least], .bool true]) ∧ Below w.heap.size w w' := by
  rcases h with ⟨rfl, rfl, rfl, rfl, -⟩ | ⟨rfl, rfl, rfl, rfl, -⟩
  · go_enter Tryz.func43, Tryz.ntmps43
    go_wp2
    go_returns
    exact ⟨rfl, by go_grown⟩
  · go_enter Tryz.func43, Tryz.ntmps43
    go_wp2
    go_returns
    exact ⟨rfl, by go_grown⟩
set_option maxRecDepth 1000000 in
theorem split_any {size : Int} {f ww : Nat} {least : Int} {I : Nat} (h : Ly size f ww least I) (bits : Nat) (w : World) (hb : bits < 18446744073709551616) :
    Calls Tryz.prog 44 #[.agg #[.int .i64 ww, .int .i64 f, .int .i64 least], .int .u64 bits] w fun e w' => e = .returned (.tuple #[.bool (decide (bits / 2 ^ (f + ww) % 2 = 1)), .int .u64 ((bits % 2 ^ (f + ww) : Nat) : Int)]) ∧ Below w.heap.size w w' := by
  rcases h with ⟨rfl, rfl, rfl, rfl, -⟩ | ⟨rfl, rfl, rfl, rfl, -⟩
  · go_enter Tryz.func44, Tryz.ntmps44
    go_wp2
    go_ret2
    refine ⟨?_, by go_grown⟩
    have b1 : Go.bits BinOp.and IntKind.u64 (bits : Int) 2147483648 = ((bits / 2147483648 % 2 * 2147483648 : Nat) : Int) := bits_top bits 31 2147483648 hb rfl (by decide)
    have b2 : Go.bits BinOp.and IntKind.u64 (bits : Int) 2147483647 = ((bits % (2147483647 + 1) : Nat) : Int) := bits_low bits 31 2147483647 hb rfl (by decide)
    have e1 : (((bits / 2147483648 % 2 * 2147483648 : Nat) : Int) != 0) = decide (bits / 2147483648 % 2 = 1) := by
      rcases Nat.mod_two_eq_zero_or_one (bits / 2147483648) with h | h <;> simp [h]
    rw [b1, b2, e1]
    rfl
  · go_enter Tryz.func44, Tryz.ntmps44
    go_wp2
    go_ret2
    refine ⟨?_, by go_grown⟩
    have b1 : Go.bits BinOp.and IntKind.u64 (bits : Int) 9223372036854775808 = ((bits / 9223372036854775808 % 2 * 9223372036854775808 : Nat) : Int) := bits_top bits 63 9223372036854775808 hb rfl (by decide)
    have b2 : Go.bits BinOp.and IntKind.u64 (bits : Int) 9223372036854775807 = ((bits % (9223372036854775807 + 1) : Nat) : Int) := bits_low bits 63 9223372036854775807 hb rfl (by decide)
    have e1 : (((bits / 9223372036854775808 % 2 * 9223372036854775808 : Nat) : Int) != 0) = decide (bits / 9223372036854775808 % 2 = 1) := by
      rcases Nat.mod_two_eq_zero_or_one (bits / 9223372036854775808) with h | h <;> simp [h]
    rw [b1, b2, e1]
    rfl
set_option maxRecDepth 1000000 in
theorem inf_any {size : Int} {f ww : Nat} {least : Int} {I : Nat} (h : Ly size f ww least I) (w : World) :
    Calls Tryz.prog 45 #[.agg #[.int .i64 ww, .int .i64 f, .int .i64 least]] w fun e w' => e = .returned (.int .u64 I) ∧ Below w.heap.size w w' := by
  rcases h with ⟨rfl, rfl, rfl, rfl, rfl⟩ | ⟨rfl, rfl, rfl, rfl, rfl⟩
  · go_enter Tryz.func45, Tryz.ntmps45
    go_wp2
    go_region
    all_goals (try go_wp2)
    all_goals go_ret
    all_goals exact ⟨rfl, by go_grown⟩
  · go_enter Tryz.func45, Tryz.ntmps45
    go_wp2
    go_region
    all_goals (try go_wp2)
    all_goals go_ret
    all_goals exact ⟨rfl, by go_grown⟩
end Go.Proofs.YthbabhbfpcfenaaGreatDoor

/- The walks of package short: exact values, middles, the bounds. -/
namespace Go.Proofs.YthbabhbfpcfenaaGreatDoor
open Go.RowKit
set_option linter.unusedVariables false
set_option linter.unusedSimpArgs false

theorem Ly.pk {size : Int} {f ww : Nat} {least : Int} {I : Nat} (h : Ly size f ww least I) : -1199 ≤ least ∧ least ≤ -149 ∧ I < 9300000000000000000 ∧ 2 ≤ I ∧ I % 2 = 0 ∧ 1 ≤ f ∧ f ≤ 52 ∧ I = (2 ^ ww - 1) * 2 ^ f ∧ (∀ p, p < I → least + pk f p ≤ 1000) := by
  rcases h with ⟨rfl, rfl, rfl, rfl, rfl⟩ | ⟨rfl, rfl, rfl, rfl, rfl⟩
  · refine ⟨by decide, by decide, by decide, by decide, by decide, by decide, by decide, by decide, fun p hp => ?_⟩
    have : Go.Proofs.YthbabhbfpcfenaaGreatDoor.pk 23 p = p / 8388608 - 1 := rfl
    rw [this]; omega
  · refine ⟨by decide, by decide, by decide, by decide, by decide, by decide, by decide, by decide, fun p hp => ?_⟩
    have : Go.Proofs.YthbabhbfpcfenaaGreatDoor.pk 52 p = p / 4503599627370496 - 1 := rfl
    rw [this]; omega
theorem Ly.pm {size : Int} {f ww : Nat} {least : Int} {I : Nat} (h : Ly size f ww least I) (p : Nat) : Go.Proofs.YthbabhbfpcfenaaGreatDoor.pm f p < 9007199254740992 := by
  have := pm_lt f p
  rcases h with ⟨-, rfl, -, -, -⟩ | ⟨-, rfl, -, -, -⟩
  · have e : (2 : Nat) ^ (23 + 1) = 16777216 := rfl
    omega
  · have e : (2 : Nat) ^ (52 + 1) = 9007199254740992 := rfl
    omega
/-- A half of a unit of the least e. -/
def un (least : Int) : Nat := exU 1 (least - 1)
theorem un_pos (least : Int) : 0 < un least := exU_pos _
abbrev DecR (S : ByteArray) (P : Int) : Value := .agg #[.string S, .int .i64 P]
set_option maxRecDepth 1000000 in
theorem sexact_any (m : Nat) (e : Int) (w : World) (hm : m < 18446744073709551616) (h0 : -1200 ≤ e) (h1 : e ≤ 1200) :
    Calls Tryz.prog 142 #[.int .u64 m, .int .i64 e] w fun x w' => x = .returned (.agg #[.string (oS (exU m e)), .int .i64 (oP (exU m e))]) ∧ Below w.heap.size w w' := by
  have hX : ∀ w, Calls Tryz.prog 114 #[.int .u64 m, .int .i64 e] w fun x w' => x = .returned (.tuple #[.agg #[.string (oS (exU m e)), .int .i64 (oP (exU m e))], .int .i64 0]) ∧ Below w.heap.size w w' := fun w => by
    have := exact_any m e w hm
    have e1 : xE e = 0 := if_neg (by omega)
    have e2 : xV m e = exU m e := if_pos e1
    rw [e1, e2] at this; exact this
  generalize oS (exU m e) = S at *
  generalize oP (exU m e) = P at *
  go_enter Tryz.func142, Tryz.ntmps142
  go_wp2_with (go_at_call 114; refine (hX _).mono ?_; rintro x w2 ⟨rfl, hb2⟩; have bR := keepb hb2 (B := w.heap.size) (x := .string ⟨#[]⟩) (y := .int .i64 0) (by simp [BoxD, go_sem]); obtain ⟨r0, r1, r2, r3⟩ := id bR; have hlt : w.heap.size < w2.heap.size := World.block_lt_of_cell? w2 _ r0)
  refine bodyPost_ret (by simp [results, Tryz.results142, go_sem, cs_same, r0, r1, hlt]; rfl) rfl ?_
  refine ⟨rfl, ?_⟩
  have h := bel_call (B := w.heap.size) (w := w) (by go_grown) hb2 (Nat.le_refl _)
  have hs := (h.setCell (p := ⟨w.heap.size, 0, none⟩) (Nat.le_refl _) (.string S)).setCell (p := ⟨w.heap.size, 1, none⟩) (Nat.le_refl _) (.int .i64 P)
  exact hs.alloc hs.size _
set_option maxRecDepth 1000000 in
theorem scompare_any {s1 s2 : ByteArray} {p1 p2 r E : Int} (hC : CmpC s1 p1 s2 p2 r E) (w : World) :
    Calls Tryz.prog 168 #[.agg #[.string s1, .int .i64 p1], .agg #[.string s2, .int .i64 p2]] w fun x w' => x = .returned (.int .i64 r) ∧ Below w.heap.size w w' := by
  go_enter Tryz.func168, Tryz.ntmps168
  go_wp2_with (go_at_call 181; refine (hC _).mono ?_; rintro x w2 ⟨rfl, hb2⟩)
  go_ret
  exact ⟨rfl, bel_call (B := w.heap.size) (w := w) (by go_grown) hb2 (Nat.le_refl _)⟩
theorem cmpN {s : ByteArray} {p : Int} {u : Nat} (hs : s.size ≤ 9223372036854775807) (hE : normE s p = 0) (gu : Good u) : CmpC s p (oS u) (oP u) (ordN (normV s p) u) 0 := fun w => by
  have := cmp_any s (oS u) p (oP u) w hs (oS_fit u gu)
  rw [hE, gu.normE, gu.normV] at this
  have e0 : bE 0 0 = 0 := rfl
  rw [e0, if_pos rfl] at this
  exact this
set_option maxRecDepth 1000000 in
theorem iseven_any (p : Nat) (w : World) (hp : p < 18446744073709551616) :
    Calls Tryz.prog 167 #[.int .u64 p] w fun x w' => x = .returned (.bool (decide (p % 2 = 0))) ∧ w' = w := by
  go_enter Tryz.func167, Tryz.ntmps167
  go_wp2
  go_ret
  refine ⟨?_, rfl⟩
  rcases Nat.mod_two_eq_zero_or_one p with h | h
  · have e : ((p : Int) % 2) = 0 := by omega
    simp [h, e]
  · have e : ((p : Int) % 2) = 1 := by omega
    simp [h, e]
theorem ret2 {a b c d : Int} {k1 k2 : IntKind} (h1 : a = c) (h2 : b = d) : Ending.returned (.tuple #[.int k1 a, .int k2 b]) = .returned (.tuple #[.int k1 c, .int k2 d]) := by rw [h1, h2]
set_option maxRecDepth 1000000 in
theorem finite_any {size : Int} {f ww : Nat} {least : Int} {I : Nat} (h : Ly size f ww least I) (p : Nat) (w : World) (hp : p < I) :
    Calls Tryz.prog 46 #[.agg #[.int .i64 ww, .int .i64 f, .int .i64 least], .int .u64 p] w fun x w' => x = .returned (.tuple #[.int .u64 (pm f p), .int .i64 (least + pk f p)]) ∧ Below w.heap.size w w' := by
  rcases h with ⟨rfl, rfl, rfl, rfl, rfl⟩ | ⟨rfl, rfl, rfl, rfl, rfl⟩
  · have e1 : pm 23 p = if p / 8388608 = 0 then p % 8388608 else 8388608 + p % 8388608 := rfl
    have e2 : pk 23 p = p / 8388608 - 1 := rfl
    rw [e1, e2]
    by_cases hz : p < 8388608
    · rw [if_pos (by omega)]
      clear e1 e2
      go_enter Tryz.func46, Tryz.ntmps46
      go_wp2
      go_region
      all_goals (try go_wp2)
      all_goals (try go_region)
      all_goals (try go_wp2)
      all_goals go_ret2
      all_goals exact ⟨ret2 (by omega) (by omega), by go_grown⟩
    · rw [if_neg (by omega)]
      clear e1 e2
      go_enter Tryz.func46, Tryz.ntmps46
      go_wp2
      go_region
      all_goals (try go_wp2)
      all_goals (try go_region)
      all_goals (try go_wp2)
      all_goals go_ret2
      all_goals exact ⟨ret2 (by omega) (by omega), by go_grown⟩
  · have e1 : pm 52 p = if p / 4503599627370496 = 0 then p % 4503599627370496 else 4503599627370496 + p % 4503599627370496 := rfl
    have e2 : pk 52 p = p / 4503599627370496 - 1 := rfl
    rw [e1, e2]
    by_cases hz : p < 4503599627370496
    · rw [if_pos (by omega)]
      clear e1 e2
      go_enter Tryz.func46, Tryz.ntmps46
      go_wp2
      go_region
      all_goals (try go_wp2)
      all_goals (try go_region)
      all_goals (try go_wp2)
      all_goals go_ret2
      all_goals exact ⟨ret2 (by omega) (by omega), by go_grown⟩
    · rw [if_neg (by omega)]
      clear e1 e2
      go_enter Tryz.func46, Tryz.ntmps46
      go_wp2
      go_region
      all_goals (try go_wp2)
      all_goals (try go_region)
      all_goals (try go_wp2)
      all_goals go_ret2
      all_goals exact ⟨ret2 (by omega) (by omega), by go_grown⟩
end Go.Proofs.YthbabhbfpcfenaaGreatDoor
