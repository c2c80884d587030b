/- FWalkD, SWalkA, SWalkB, SWalkC, SWalkD, SWalkE: these texts in one. -/
import Derived.Test.YtiagjheifblkiaaGreatDoorShelfF
import Derived.Test.YtiagjheifblkiaaGreatDoorPt28
import Derived.Test.YtiagjheifblkiaaGreatDoorPt27
import Derived.Laws.BitsAllLaws
namespace Go.Proofs.YtiagjheifblkiaaGreatDoor
open Go.RowKit
set_option linter.unusedVariables false
set_option linter.unusedSimpArgs false
abbrev RbC (m : Nat) (P : Int) (r : Nat) : Prop := ∀ w, Calls Tryz.prog 359 #[.int .u64 (m : Nat), .int .i64 P] w fun x w' => x = .returned (.int .u64 (r : Nat)) ∧ Below w.heap.size w w'
set_option maxRecDepth 1000000 in
theorem rb_keep {m : Nat} {P : Int} (h : P < 0 ∨ 13 ≤ P) : RbC m P m := fun w => by
 rcases Int.lt_or_le P 0 with h1 | h1
 ·go_enter Tryz.func359, Tryz.ntmps359
  go_wp2
  go_ret
  exact ⟨rfl, Below.refl _ _⟩
 ·have h2 : 13 ≤ P := by omega
  have h3 : ¬ P < 0 := by omega
  clear h h1
  go_enter Tryz.func359, Tryz.ntmps359
  go_wp2
  go_ret
  exact ⟨rfl, Below.refl _ _⟩
set_option maxRecDepth 1000000 in
set_option maxHeartbeats 1000000 in
theorem rb_cut {m U q r h X0 X1 : Nat} {P : Int} (hP0 : 0 ≤ P) (hP : P < 13) (hk : IntKind.u64.wrap (2 ^ (4 * (13 - P)).toNat) = (U : Int)) (hU : 0 < U) (hq : (m : Int) / U = (q : Nat)) (hr : (m : Int) % U = (r : Nat)) (hh : (U : Int) / 2 = (h : Nat)) (hX0 : (q : Int) * (U : Int) = (X0 : Nat)) (hX1 : ((q : Int) + 1) * (U : Int) = (X1 : Nat)) (b0 : (X0 : Int) ≤ 9223372036854775807) (b1 : (X1 : Int) ≤ 9223372036854775807) (b2 : (q : Int) ≤ 9223372036854775807) (b3 : (r : Int) ≤ 9223372036854775807) (b4 : (h : Int) ≤ 9223372036854775807) (w : World) :
  Calls Tryz.prog 359 #[.int .u64 (m : Nat), .int .i64 P] w fun x w' => x = .returned (.int .u64 ((if r > h ∨ (r = h ∧ q % 2 = 1) then X1 else X0 : Nat) : Int)) ∧ Below w.heap.size w w' := by
 have h3 : ¬ P < 0 := by omega
 have h4 : ¬ 13 ≤ P := by omega
 have hUI : (U : Int) ≠ 0 := by omega
 have hUp : 0 < (U : Int) := by omega
 by_cases c1 : h < r
 ·have c1I : (h : Int) < r := by omega
  rw [if_pos (.inl c1)]
  go_enter Tryz.func359, Tryz.ntmps359
  go_wp2
  clear hk
  go_region
  all_goals clear hU hX0 b0 c1
  all_goals go_wp2
  all_goals go_ret
  all_goals first | exact ⟨rfl, (Below.refl _ _).drew⟩ | (exfalso; omega)
 ·have c1I : ¬ (h : Int) < r := by omega
  by_cases c2 : r = h
  ·subst c2
   rcases Nat.mod_two_eq_zero_or_one q with c3 | c3
   ·have c3I : ((q : Int) % 2 == 1) = false := by simp; omega
    rw [if_neg (by omega)]
    go_enter Tryz.func359, Tryz.ntmps359
    go_wp2
    clear hk
    go_region
    all_goals clear hU hX1 b1 c1 c3
    all_goals go_wp2
    all_goals go_ret
    all_goals first | exact ⟨rfl, (Below.refl _ _).drew⟩ | (exfalso; omega)
   ·have c3I : ((q : Int) % 2 == 1) = true := by simp; omega
    rw [if_pos (.inr ⟨rfl, c3⟩)]
    go_enter Tryz.func359, Tryz.ntmps359
    go_wp2
    clear hk
    go_region
    all_goals clear hU hX0 b0 c1 c3
    all_goals go_wp2
    all_goals go_ret
    all_goals first | exact ⟨rfl, (Below.refl _ _).drew⟩ | (exfalso; omega)
  ·have c2I : ((r : Int) == (h : Int)) = false := by simp; omega
   rw [if_neg (by omega)]
   go_enter Tryz.func359, Tryz.ntmps359
   go_wp2
   clear hk
   go_region
   all_goals clear hU hX1 b1 c1 c2
   all_goals go_wp2
   all_goals go_ret
   all_goals first | exact ⟨rfl, (Below.refl _ _).drew⟩ | (exfalso; omega)
theorem wrapU (n : Int) : IntKind.u64.wrap n = n % 18446744073709551616 := by
 unfold IntKind.wrap
 simp [IntKind.bits, IntKind.signed]
theorem wrap_pow {k : Nat} (hk : k ≤ 63) : IntKind.u64.wrap (2 ^ k) = ((2 ^ k : Nat) : Int) := by
 have h1 : (2 : Nat) ^ k ≤ 2 ^ 63 := Nat.pow_le_pow_right (by decide) hk
 have e : (2 : Nat) ^ 63 = 9223372036854775808 := by decide
 have h2 : ((2 : Int) ^ k) = ((2 ^ k : Nat) : Int) := by push_cast; rfl
 rw [h2, wrapU]
 generalize 2 ^ k = X at *
 omega
theorem rbC {N : Nat} {P : Int} (hN : N < 2 * 2 ^ 52) : RbC N P (rb N P) := by
 by_cases h : P < 0 ∨ 13 ≤ P
 ·have e : rb N P = N := by unfold rb; rw [if_pos h]
  rw [e]; exact rb_keep h
 ·intro w
  obtain ⟨n, rfl⟩ := Int.eq_ofNat_of_zero_le (show 0 ≤ P by omega)
  have hn : n < 13 := by omega
  have e : rb N n = rbW N n * rbU n := by unfold rb; rw [if_neg (by omega), Int.toNat_natCast]
  have hu : rbU n = 2 ^ (4 * (13 - n)) := rfl
  have hup : 0 < rbU n := by rw [hu]; exact Nat.pow_pos (by decide)
  have hul : rbU n ≤ 2 ^ 52 := by rw [hu]; exact Nat.pow_le_pow_right (by decide) (by omega)
  have hw : IntKind.u64.wrap (2 ^ ((4 : Int) * (13 - (n : Int))).toNat) = ((rbU n : Nat) : Int) := by
   rw [hu, show ((4 : Int) * (13 - (n : Int))).toNat = 4 * (13 - n) by omega]
   exact wrap_pow (by omega)
  have e52 : (2 : Nat) ^ 52 = 4503599627370496 := by decide
  have hdB := Nat.div_mul_le_self N (rbU n)
  have hq : N / rbU n ≤ N := Nat.div_le_self _ _
  have hr := Nat.mod_lt N hup
  have := rb_cut (m := N) (U := rbU n) (q := N / rbU n) (r := N % rbU n) (h := rbU n / 2) (X0 := N / rbU n * rbU n) (X1 := (N / rbU n + 1) * rbU n) (by omega) (by omega) hw hup (by push_cast; rfl) (by push_cast; rfl) (by push_cast; rfl) (by push_cast; rfl) (by push_cast; rfl) (by omega) (by rw [Nat.add_mul, Nat.one_mul]; omega) (by omega) (by omega) (by omega) w
  rw [e]
  have e2 : rbW N n * rbU n = if N % rbU n > rbU n / 2 ∨ (N % rbU n = rbU n / 2 ∧ N / rbU n % 2 = 1) then (N / rbU n + 1) * rbU n else N / rbU n * rbU n := by
   unfold rbW
   split <;> rfl
  rw [e2]
  exact this
abbrev NmC (bits m : Nat) (size e P : Int) (sh : Bool) (M : Nat) (x : Int) : Prop := ∀ w, Calls Tryz.prog 350 #[.agg #[.int .u64 (bits : Nat), .int .i64 size, .int .u64 (m : Nat), .int .i64 e, .int .i64 P, .bool sh]] w fun y w' => y = .returned (.tuple #[.int .u64 (M : Nat), .int .i64 x]) ∧ Below w.heap.size w w'
set_option maxRecDepth 1000000 in
theorem normal_0 {bits : Nat} {size e P : Int} {sh : Bool} : NmC bits 0 size e P sh 0 0 := fun w => by
 go_enter Tryz.func350, Tryz.ntmps350
 go_wp2
 go_returns
 exact ⟨rfl, by go_grown⟩
set_option maxRecDepth 1000000 in
set_option maxHeartbeats 1000000 in
theorem normal_1 {bits m N R s : Nat} {size e P : Int} {sh : Bool} (hm : m ≠ 0) (hs : s ≤ 52) (hL : ∀ w, Calls Tryz.prog 275 #[.int .u64 (m : Nat)] w fun y w' => y = .returned (.int .i64 (53 - (s : Int))) ∧ w' = w) (hsh : IntKind.u64.wrap ((m : Int) * 2 ^ s) = (N : Nat)) (hR : RbC N P R) (hR2 : ¬ R / 4503599627370496 = 2) (he0 : -100000 ≤ e) (he1 : e ≤ 100000) : NmC bits m size e P sh R (e + 52 - s) := fun w => by
 have hbA : Below w.heap.size w (w.alloc (.cells #[.int .u64 (bits : Nat), .int .i64 size, .int .u64 (m : Nat), .int .i64 e, .int .i64 P, .bool sh] 390)) := (Below.refl _ _).alloc (Nat.le_refl _) _
 have f0 : ∀ x : Cl (w.alloc (.cells #[.int .u64 (bits : Nat), .int .i64 size, .int .u64 (m : Nat), .int .i64 e, .int .i64 P, .bool sh] 390)), x.w.cell? ⟨w.heap.size, 0, none⟩ = some (.int .u64 (bits : Nat)) := fun x => x.cell (by simp)
 have f1 : ∀ x : Cl (w.alloc (.cells #[.int .u64 (bits : Nat), .int .i64 size, .int .u64 (m : Nat), .int .i64 e, .int .i64 P, .bool sh] 390)), x.w.cell? ⟨w.heap.size, 1, none⟩ = some (.int .i64 size) := fun x => x.cell (by simp)
 have f2 : ∀ x : Cl (w.alloc (.cells #[.int .u64 (bits : Nat), .int .i64 size, .int .u64 (m : Nat), .int .i64 e, .int .i64 P, .bool sh] 390)), x.w.cell? ⟨w.heap.size, 2, none⟩ = some (.int .u64 (m : Nat)) := fun x => x.cell (by simp)
 have f3 : ∀ x : Cl (w.alloc (.cells #[.int .u64 (bits : Nat), .int .i64 size, .int .u64 (m : Nat), .int .i64 e, .int .i64 P, .bool sh] 390)), x.w.cell? ⟨w.heap.size, 3, none⟩ = some (.int .i64 e) := fun x => x.cell (by simp)
 have f4 : ∀ x : Cl (w.alloc (.cells #[.int .u64 (bits : Nat), .int .i64 size, .int .u64 (m : Nat), .int .i64 e, .int .i64 P, .bool sh] 390)), x.w.cell? ⟨w.heap.size, 4, none⟩ = some (.int .i64 P) := fun x => x.cell (by simp)
 have f5 : ∀ x : Cl (w.alloc (.cells #[.int .u64 (bits : Nat), .int .i64 size, .int .u64 (m : Nat), .int .i64 e, .int .i64 P, .bool sh] 390)), x.w.cell? ⟨w.heap.size, 5, none⟩ = some (.bool sh) := fun x => x.cell (by simp)
 have b1 : ((m : Int) == 0) = false := by simp; omega
 have b2 : ((R : Int) / 4503599627370496 == 2) = false := by simp; omega
 have hs2 : (52 : Int) - (53 - (s : Int) - 1) = s := by omega
 have hsI : (s : Int) ≤ 52 := by omega
 have hsI0 : 0 ≤ (s : Int) := by omega
 go_enter Tryz.func350, Tryz.ntmps350
 go_wp2_with (go_at_call 275; (with_reducible refine (hL _).mono ?_); rintro x w1 ⟨rfl, rfl⟩)
 refine wp_region_above (w.alloc (.cells #[.int .u64 (bits : Nat), .int .i64 size, .int .u64 (m : Nat), .int .i64 e, .int .i64 P, .bool sh] 390)) (Below.refl _ _) (by kernel_rfl) (by kernel_rfl) ?_
 intro hCl
 repeat (go_big_quiet_step ((go_at_call 359; exact Cl.call (hR _))))
 refine wpQuiet_nil ?_
 intro _ hw'
 obtain ⟨z, hz⟩ := hw'
 subst hz
 go_wp2
 go_returns
 exact ⟨rfl, bel_call hbA z.below (Nat.le_refl _)⟩
set_option maxRecDepth 1000000 in
set_option maxHeartbeats 1000000 in
theorem normal_2 {bits m N R s : Nat} {size e P : Int} {sh : Bool} (hm : m ≠ 0) (hs : s ≤ 52) (hL : ∀ w, Calls Tryz.prog 275 #[.int .u64 (m : Nat)] w fun y w' => y = .returned (.int .i64 (53 - (s : Int))) ∧ w' = w) (hsh : IntKind.u64.wrap ((m : Int) * 2 ^ s) = (N : Nat)) (hR : RbC N P R) (hR2 : R / 4503599627370496 = 2) (hRb : R < 18446744073709551616) (he0 : -100000 ≤ e) (he1 : e ≤ 100000) : NmC bits m size e P sh (R / 2) (e + 52 - s + 1) := fun w => by
 have hbA : Below w.heap.size w (w.alloc (.cells #[.int .u64 (bits : Nat), .int .i64 size, .int .u64 (m : Nat), .int .i64 e, .int .i64 P, .bool sh] 390)) := (Below.refl _ _).alloc (Nat.le_refl _) _
 have f0 : ∀ x : Cl (w.alloc (.cells #[.int .u64 (bits : Nat), .int .i64 size, .int .u64 (m : Nat), .int .i64 e, .int .i64 P, .bool sh] 390)), x.w.cell? ⟨w.heap.size, 0, none⟩ = some (.int .u64 (bits : Nat)) := fun x => x.cell (by simp)
 have f1 : ∀ x : Cl (w.alloc (.cells #[.int .u64 (bits : Nat), .int .i64 size, .int .u64 (m : Nat), .int .i64 e, .int .i64 P, .bool sh] 390)), x.w.cell? ⟨w.heap.size, 1, none⟩ = some (.int .i64 size) := fun x => x.cell (by simp)
 have f2 : ∀ x : Cl (w.alloc (.cells #[.int .u64 (bits : Nat), .int .i64 size, .int .u64 (m : Nat), .int .i64 e, .int .i64 P, .bool sh] 390)), x.w.cell? ⟨w.heap.size, 2, none⟩ = some (.int .u64 (m : Nat)) := fun x => x.cell (by simp)
 have f3 : ∀ x : Cl (w.alloc (.cells #[.int .u64 (bits : Nat), .int .i64 size, .int .u64 (m : Nat), .int .i64 e, .int .i64 P, .bool sh] 390)), x.w.cell? ⟨w.heap.size, 3, none⟩ = some (.int .i64 e) := fun x => x.cell (by simp)
 have f4 : ∀ x : Cl (w.alloc (.cells #[.int .u64 (bits : Nat), .int .i64 size, .int .u64 (m : Nat), .int .i64 e, .int .i64 P, .bool sh] 390)), x.w.cell? ⟨w.heap.size, 4, none⟩ = some (.int .i64 P) := fun x => x.cell (by simp)
 have f5 : ∀ x : Cl (w.alloc (.cells #[.int .u64 (bits : Nat), .int .i64 size, .int .u64 (m : Nat), .int .i64 e, .int .i64 P, .bool sh] 390)), x.w.cell? ⟨w.heap.size, 5, none⟩ = some (.bool sh) := fun x => x.cell (by simp)
 have b1 : ((m : Int) == 0) = false := by simp; omega
 have b2 : ((R : Int) / 4503599627370496 == 2) = true := by simp; omega
 have hs2 : (52 : Int) - (53 - (s : Int) - 1) = s := by omega
 have hsI : (s : Int) ≤ 52 := by omega
 have hsI0 : 0 ≤ (s : Int) := by omega
 have hh : (R : Int) / 2 = ((R / 2 : Nat) : Int) := by omega
 have hRb2 : ((R / 2 : Nat) : Int) < 18446744073709551616 := by omega
 clear hR2
 generalize R / 2 = R2 at *
 go_enter Tryz.func350, Tryz.ntmps350
 go_wp2_with (go_at_call 275; (with_reducible refine (hL _).mono ?_); rintro x w1 ⟨rfl, rfl⟩)
 refine wp_region_above (w.alloc (.cells #[.int .u64 (bits : Nat), .int .i64 size, .int .u64 (m : Nat), .int .i64 e, .int .i64 P, .bool sh] 390)) (Below.refl _ _) (by kernel_rfl) (by kernel_rfl) ?_
 intro hCl
 repeat (go_big_quiet_step ((go_at_call 359; exact Cl.call (hR _))))
 refine wpQuiet_nil ?_
 intro _ hw'
 obtain ⟨z, hz⟩ := hw'
 subst hz
 go_wp2
 go_returns
 exact ⟨rfl, bel_call hbA z.below (Nat.le_refl _)⟩
theorem fnormal_any {bits m : Nat} {size e P : Int} {sh : Bool} (hm : m < 2 ^ 53) (he0 : -100000 ≤ e) (he1 : e ≤ 100000) : NmC bits m size e P sh (nmM m P) (nmE m e P) := by
 by_cases h0 : m = 0
 ·subst h0
  have e1 : nmM 0 P = 0 := by simp [nmM]
  have e2 : nmE 0 e P = 0 := by simp [nmE]
  rw [e1, e2]
  exact normal_0
 ·obtain ⟨hs, p, hN, hp⟩ := nm_in h0 hm
  have e53 : (2 : Nat) ^ 53 = 9007199254740992 := by decide
  have e52 : (2 : Nat) ^ 52 = 4503599627370496 := by decide
  have hL : ∀ w, Calls Tryz.prog 275 #[.int .u64 (m : Nat)] w fun y w' => y = .returned (.int .i64 (53 - (nmS m : Int))) ∧ w' = w := fun w => by
   have := Tryz.bits_Len64 (m : Int) w (by omega) (by omega)
   have hb : ((Lib.bitLen ((m : Int)).toNat : Nat) : Int) = 53 - (nmS m : Int) := by
    obtain ⟨L, e, a, b⟩ := bit_in m h0 (Nat.lt_of_lt_of_le hm (Nat.pow_le_pow_right (by decide) (by decide)))
    have hL : L ≤ 52 := by
     rcases Nat.lt_or_ge L 53 with h1 | h1
     ·omega
     ·have := Nat.pow_le_pow_right (show 0 < 2 by decide) h1; omega
    rw [Int.toNat_natCast]
    unfold nmS
    omega
   rw [hb] at this
   exact this
  have hlt : m * 2 ^ nmS m < 2 * 2 ^ 52 := by rw [hN, ← p13]; omega
  have hsh : IntKind.u64.wrap ((m : Int) * 2 ^ nmS m) = ((m * 2 ^ nmS m : Nat) : Int) := by
   have h2 : ((m : Int) * 2 ^ nmS m) = ((m * 2 ^ nmS m : Nat) : Int) := by push_cast; rfl
   rw [h2, wrapU]
   generalize m * 2 ^ nmS m = X at *
   omega
  have hR := rbC (P := P) hlt
  by_cases h2 : rb (m * 2 ^ nmS m) P / 2 ^ 52 = 2
  ·have e1 : nmM m P = rb (m * 2 ^ nmS m) P / 2 := by unfold nmM; rw [if_neg h0, if_pos h2]
   have e2 : nmE m e P = e + 52 - nmS m + 1 := by unfold nmE; rw [if_neg h0, if_pos h2]
   rw [e1, e2]
   exact normal_2 h0 hs hL hsh hR h2 (by omega) he0 he1
  ·have e1 : nmM m P = rb (m * 2 ^ nmS m) P := by unfold nmM; rw [if_neg h0, if_neg h2]
   have e2 : nmE m e P = e + 52 - nmS m := by unfold nmE; rw [if_neg h0, if_neg h2]
   rw [e1, e2]
   exact normal_1 h0 hs hL hsh hR h2 he0 he1
abbrev HpC (bits m : Nat) (size e P : Int) (sh : Bool) (d r : ByteArray) : Prop := ∀ w, Calls Tryz.prog 351 #[.agg #[.int .u64 (bits : Nat), .int .i64 size, .int .u64 (m : Nat), .int .i64 e, .int .i64 P, .bool sh], .string d] w fun y w' => y = .returned (.string r) ∧ Below w.heap.size w w'
set_option maxRecDepth 1000000 in
set_option maxHeartbeats 4000000 in
theorem hexPart_any {bits m : Nat} {size e P : Int} {sh : Bool} {d : ByteArray} (hdB : d.size = 13) (hP : P ≤ 100000) : HpC bits m size e P sh d (hxP d P) := fun w => by
 unfold hxP
 by_cases h : P < 0
 ·have hT : ∀ w, Calls Tryz.prog 60 #[.string d, .string ⟨#[48]⟩] w fun e w' => e = .returned (.string ⟨(rtr d.data.toList).toArray⟩) ∧ w' = w := fun w => Tryz.strings_TrimRight_one d 48 (by decide) w (by omega)
  rw [if_pos h]
  generalize (⟨(rtr d.data.toList).toArray⟩ : ByteArray) = r at *
  go_enter Tryz.func351, Tryz.ntmps351
  go_wp2_with (go_at_call 60; (with_reducible refine (hT _).mono ?_); rintro x w1 ⟨rfl, rfl⟩)
  go_ret
  exact ⟨rfl, by go_grown⟩
 ·obtain ⟨n, rfl⟩ := Int.eq_ofNat_of_zero_le (show 0 ≤ P by omega)
  rw [if_neg h]
  have hz : (d.extract 0 (min (n : Int) 13).toNat).size ≤ 13 := by rw [ByteArray.size_extract]; omega
  have hL : LbC (d.extract 0 (min (n : Int) 13).toNat) n (lnB (d.extract 0 (min (n : Int) 13).toNat) n) := fun w => flenB_any _ _ w (by omega) (by omega) (by omega)
  have hbA : Below w.heap.size w (w.alloc (.cells #[.int .u64 (bits : Nat), .int .i64 size, .int .u64 (m : Nat), .int .i64 e, .int .i64 (n : Int), .bool sh] 390)) := (Below.refl _ _).alloc (Nat.le_refl _) _
  have h1 : min (n : Int) 13 ≤ d.size := by omega
  have h2 : 0 ≤ min (n : Int) 13 := by omega
  clear hz
  generalize lnB (d.extract 0 (min (n : Int) 13).toNat) n = r at *
  obtain ⟨c, hc⟩ : ∃ c : Int, min (n : Int) 13 = c := ⟨_, rfl⟩
  rw [hc] at hL h1 h2
  go_enter Tryz.func351, Tryz.ntmps351
  go_wp2
  go_region_with (go_at_call 344; (with_reducible refine (hL _).mono ?_); rintro x w3 ⟨rfl, hb3⟩)
  all_goals go_wp2
  all_goals go_ret
  all_goals exact ⟨rfl, bel_call hbA.drew hb3 (Nat.le_refl _)⟩
set_option maxRecDepth 1000000 in
set_option maxHeartbeats 2000000 in
theorem hex_walk {bits m M : Nat} {size e P x : Int} {sh : Bool} {D1 D A B B2 T G : ByteArray} (hN : NmC bits m size e P sh M x) (hD : DgC (M : Nat) 16 D1) (hL : LaC D1 14 D) (hdB : 1 ≤ D.size) (hA : D.extract 0 1 = A) (hB : D.extract 1 D.size = B) (hH : HpC bits m size e P sh B B2) (hT : PtdC bits m size e P sh A B2 T) (hG : SgdC x 2 G) (hz : T.size + G.size ≤ 1000000) (w : World) :
  Calls Tryz.prog 325 #[.agg #[.int .u64 (bits : Nat), .int .i64 size, .int .u64 (m : Nat), .int .i64 e, .int .i64 P, .bool sh]] w fun y w' => y = .returned (.string ((((⟨#[48, 120]⟩ : ByteArray) ++ T) ++ ⟨#[112]⟩) ++ G)) ∧ Below w.heap.size w w' := by
 have hbA : Below w.heap.size w (w.alloc (.cells #[.int .u64 (bits : Nat), .int .i64 size, .int .u64 (m : Nat), .int .i64 e, .int .i64 P, .bool sh] 390)) := (Below.refl _ _).alloc (Nat.le_refl _) _
 have f0 : ∀ x : Cl (w.alloc (.cells #[.int .u64 (bits : Nat), .int .i64 size, .int .u64 (m : Nat), .int .i64 e, .int .i64 P, .bool sh] 390)), x.w.cell? ⟨w.heap.size, 0, none⟩ = some (.int .u64 (bits : Nat)) := fun x => x.cell (by simp)
 have f1 : ∀ x : Cl (w.alloc (.cells #[.int .u64 (bits : Nat), .int .i64 size, .int .u64 (m : Nat), .int .i64 e, .int .i64 P, .bool sh] 390)), x.w.cell? ⟨w.heap.size, 1, none⟩ = some (.int .i64 size) := fun x => x.cell (by simp)
 have f2 : ∀ x : Cl (w.alloc (.cells #[.int .u64 (bits : Nat), .int .i64 size, .int .u64 (m : Nat), .int .i64 e, .int .i64 P, .bool sh] 390)), x.w.cell? ⟨w.heap.size, 2, none⟩ = some (.int .u64 (m : Nat)) := fun x => x.cell (by simp)
 have f3 : ∀ x : Cl (w.alloc (.cells #[.int .u64 (bits : Nat), .int .i64 size, .int .u64 (m : Nat), .int .i64 e, .int .i64 P, .bool sh] 390)), x.w.cell? ⟨w.heap.size, 3, none⟩ = some (.int .i64 e) := fun x => x.cell (by simp)
 have f4 : ∀ x : Cl (w.alloc (.cells #[.int .u64 (bits : Nat), .int .i64 size, .int .u64 (m : Nat), .int .i64 e, .int .i64 P, .bool sh] 390)), x.w.cell? ⟨w.heap.size, 4, none⟩ = some (.int .i64 P) := fun x => x.cell (by simp)
 have f5 : ∀ x : Cl (w.alloc (.cells #[.int .u64 (bits : Nat), .int .i64 size, .int .u64 (m : Nat), .int .i64 e, .int .i64 P, .bool sh] 390)), x.w.cell? ⟨w.heap.size, 5, none⟩ = some (.bool sh) := fun x => x.cell (by simp)
 have h1 : (⟨#[48, 120]⟩ : ByteArray).size = 2 := rfl
 have h2 : (⟨#[112]⟩ : ByteArray).size = 1 := rfl
 have hz2 : (⟨#[48, 120]⟩ : ByteArray).size + T.size + (⟨#[112]⟩ : ByteArray).size + G.size ≤ 10000000 := by omega
 have hdI : (1 : Int) ≤ D.size := by omega
 subst hA hB
 have hn1 : ∀ (W : World) (y : Cl W) w5, Below y.w.drew.heap.size y.w.drew w5 → ∃ z : Cl W, w5 = z.w := fun W y w5 hb => ⟨⟨w5, bel_call y.below.drew hb (Nat.le_refl _)⟩, rfl⟩
 go_enter Tryz.func325, Tryz.ntmps325
 go_wp2_with (first
  | (go_at_call 350; (with_reducible refine (hN _).mono ?_); rintro x w1 ⟨rfl, hb1⟩; obtain ⟨y1, rfl⟩ := Cl.start hb1)
  | (go_at_call 336; (with_reducible refine (hD _).mono ?_); rintro x w2 ⟨rfl, hb2⟩; obtain ⟨y2, rfl⟩ := Cl.next hb2)
  | (go_at_call 328; (with_reducible refine (hL _).mono ?_); rintro x w3 ⟨rfl, hb3⟩; obtain ⟨y3, rfl⟩ := Cl.next hb3))
 go_region_with (first
  | (go_at_call 351; (with_reducible refine (hH _).mono ?_); rintro x w4 ⟨rfl, hb4⟩; obtain ⟨y4, rfl⟩ := hn1 _ _ _ hb4)
  | (go_at_call 347; (with_reducible refine (hT _).mono ?_); rintro x w5 ⟨rfl, hb5⟩; obtain ⟨y5, rfl⟩ := Cl.next hb5)
  | (go_at_call 349; (with_reducible refine (hG _).mono ?_); rintro x w6 ⟨rfl, hb6⟩; obtain ⟨y6, rfl⟩ := Cl.next hb6)
  | (go_at_call 286; refine (together4 (a := ⟨#[48, 120]⟩) (b := T) (c := ⟨#[112]⟩) (d := G) _ (by simp) (by simp) (by simp) (by simp) hz2).mono ?_; rintro x w7 ⟨rfl, hb7⟩; obtain ⟨y7, rfl⟩ := Cl.after hb7))
 all_goals go_wp2
 all_goals go_ret
 all_goals exact ⟨rfl, bel_call hbA y7.below (Nat.le_refl _)⟩
end Go.Proofs.YtiagjheifblkiaaGreatDoor
namespace Go.Proofs.YtiagjheifblkiaaGreatDoor
open Go.RowKit
set_option linter.unusedVariables false
set_option linter.unusedSimpArgs false
theorem and_top (a n : Nat) : a &&& 2 ^ n = a / 2 ^ n % 2 * 2 ^ n := by
 apply Nat.eq_of_testBit_eq
 intro i
 rw [Nat.testBit_and, Nat.testBit_two_pow]
 rcases Nat.mod_two_eq_zero_or_one (a / 2 ^ n) with h | h
 ·rw [h, Nat.zero_mul, Nat.zero_testBit]
  by_cases hi : n = i
  ·subst hi
   rw [Nat.testBit_eq_decide_div_mod_eq, h]; rfl
  ·simp [hi]
 ·rw [h, Nat.one_mul, Nat.testBit_two_pow]
  by_cases hi : n = i
  ·subst hi
   rw [Nat.testBit_eq_decide_div_mod_eq, h]; simp
  ·simp [hi]
theorem bits_top (a n T : Nat) (h : a < 18446744073709551616) (hT : T = 2 ^ n) (hT2 : T < 18446744073709551616) : bits .and .u64 (a : Int) (T : Int) = ((a / T % 2 * T : Nat) : Int) := by
 rw [u64_and_nat a T h hT2, hT, and_top]
theorem bits_low (a n T : Nat) (h : a < 18446744073709551616) (hT : T + 1 = 2 ^ n) (hT2 : T < 18446744073709551616) : bits .and .u64 (a : Int) (T : Int) = ((a % (T + 1) : Nat) : Int) := by
 rw [u64_and_nat a T h hT2, show T = 2 ^ n - 1 by omega, Nat.and_two_pow_sub_one_eq_mod, show 2 ^ n - 1 + 1 = 2 ^ n by omega]
def Ly (size : Int) (f w : Nat) (least : Int) (I : Nat) : Prop := (size = 32 ∧ f = 23 ∧ w = 8 ∧ least = -149 ∧ I = 2139095040) ∨ (size = 64 ∧ f = 52 ∧ w = 11 ∧ least = -1074 ∧ I = 9218868437227405312)
set_option maxRecDepth 1000000 in
theorem layout_any {size : Int} {f ww : Nat} {least : Int} {I : Nat} (h : Ly size f ww least I) (w : World) :
  Calls Tryz.prog 25 #[.int .i64 size] w fun e w' => e = .returned (.tuple #[.agg #[.int .i64 ww, .int .i64 f, .int .i64 least], .bool true]) ∧ Below w.heap.size w w' := by
 rcases h with ⟨rfl, rfl, rfl, rfl, -⟩ | ⟨rfl, rfl, rfl, rfl, -⟩
 ·go_enter Tryz.func25, Tryz.ntmps25
  go_wp2
  go_returns
  exact ⟨rfl, by go_grown⟩
 ·go_enter Tryz.func25, Tryz.ntmps25
  go_wp2
  go_returns
  exact ⟨rfl, by go_grown⟩
set_option maxRecDepth 1000000 in
theorem split_any {size : Int} {f ww : Nat} {least : Int} {I : Nat} (h : Ly size f ww least I) (bits : Nat) (w : World) (hb : bits < 18446744073709551616) :
  Calls Tryz.prog 34 #[.agg #[.int .i64 ww, .int .i64 f, .int .i64 least], .int .u64 bits] w fun e w' => e = .returned (.tuple #[.bool (decide (bits / 2 ^ (f + ww) % 2 = 1)), .int .u64 ((bits % 2 ^ (f + ww) : Nat) : Int)]) ∧ Below w.heap.size w w' := by
 rcases h with ⟨rfl, rfl, rfl, rfl, -⟩ | ⟨rfl, rfl, rfl, rfl, -⟩
 ·go_enter Tryz.func34, Tryz.ntmps34
  go_wp2
  go_ret2
  refine ⟨?_, by go_grown⟩
  have b1 : Go.bits BinOp.and IntKind.u64 (bits : Int) 2147483648 = ((bits / 2147483648 % 2 * 2147483648 : Nat) : Int) := bits_top bits 31 2147483648 hb rfl (by decide)
  have b2 : Go.bits BinOp.and IntKind.u64 (bits : Int) 2147483647 = ((bits % (2147483647 + 1) : Nat) : Int) := bits_low bits 31 2147483647 hb rfl (by decide)
  have e1 : (((bits / 2147483648 % 2 * 2147483648 : Nat) : Int) != 0) = decide (bits / 2147483648 % 2 = 1) := by
   rcases Nat.mod_two_eq_zero_or_one (bits / 2147483648) with h | h <;> simp [h]
  rw [b1, b2, e1]
  rfl
 ·go_enter Tryz.func34, Tryz.ntmps34
  go_wp2
  go_ret2
  refine ⟨?_, by go_grown⟩
  have b1 : Go.bits BinOp.and IntKind.u64 (bits : Int) 9223372036854775808 = ((bits / 9223372036854775808 % 2 * 9223372036854775808 : Nat) : Int) := bits_top bits 63 9223372036854775808 hb rfl (by decide)
  have b2 : Go.bits BinOp.and IntKind.u64 (bits : Int) 9223372036854775807 = ((bits % (9223372036854775807 + 1) : Nat) : Int) := bits_low bits 63 9223372036854775807 hb rfl (by decide)
  have e1 : (((bits / 9223372036854775808 % 2 * 9223372036854775808 : Nat) : Int) != 0) = decide (bits / 9223372036854775808 % 2 = 1) := by
   rcases Nat.mod_two_eq_zero_or_one (bits / 9223372036854775808) with h | h <;> simp [h]
  rw [b1, b2, e1]
  rfl
set_option maxRecDepth 1000000 in
theorem inf_any {size : Int} {f ww : Nat} {least : Int} {I : Nat} (h : Ly size f ww least I) (w : World) :
  Calls Tryz.prog 31 #[.agg #[.int .i64 ww, .int .i64 f, .int .i64 least]] w fun e w' => e = .returned (.int .u64 I) ∧ Below w.heap.size w w' := by
 rcases h with ⟨rfl, rfl, rfl, rfl, rfl⟩ | ⟨rfl, rfl, rfl, rfl, rfl⟩
 ·go_enter Tryz.func31, Tryz.ntmps31
  go_wp2
  go_region
  all_goals (try go_wp2)
  all_goals go_ret
  all_goals exact ⟨rfl, by go_grown⟩
 ·go_enter Tryz.func31, Tryz.ntmps31
  go_wp2
  go_region
  all_goals (try go_wp2)
  all_goals go_ret
  all_goals exact ⟨rfl, by go_grown⟩
end Go.Proofs.YtiagjheifblkiaaGreatDoor
namespace Go.Proofs.YtiagjheifblkiaaGreatDoor
open Go.RowKit
set_option linter.unusedVariables false
set_option linter.unusedSimpArgs false
theorem Ly.pk {size : Int} {f ww : Nat} {least : Int} {I : Nat} (h : Ly size f ww least I) : -1199 ≤ least ∧ least ≤ -149 ∧ I < 9300000000000000000 ∧ 2 ≤ I ∧ I % 2 = 0 ∧ 1 ≤ f ∧ f ≤ 52 ∧ I = (2 ^ ww - 1) * 2 ^ f ∧ (∀ p, p < I → least + pk f p ≤ 1000) := by
 rcases h with ⟨rfl, rfl, rfl, rfl, rfl⟩ | ⟨rfl, rfl, rfl, rfl, rfl⟩
 ·refine ⟨by decide, by decide, by decide, by decide, by decide, by decide, by decide, by decide, fun p hp => ?_⟩
  have : Go.Proofs.YtiagjheifblkiaaGreatDoor.pk 23 p = p / 8388608 - 1 := rfl
  rw [this]; omega
 ·refine ⟨by decide, by decide, by decide, by decide, by decide, by decide, by decide, by decide, fun p hp => ?_⟩
  have : Go.Proofs.YtiagjheifblkiaaGreatDoor.pk 52 p = p / 4503599627370496 - 1 := rfl
  rw [this]; omega
theorem Ly.pm {size : Int} {f ww : Nat} {least : Int} {I : Nat} (h : Ly size f ww least I) (p : Nat) : Go.Proofs.YtiagjheifblkiaaGreatDoor.pm f p < 9007199254740992 := by
 have := pm_lt f p
 rcases h with ⟨-, rfl, -, -, -⟩ | ⟨-, rfl, -, -, -⟩
 ·have e : (2 : Nat) ^ (23 + 1) = 16777216 := rfl
  omega
 ·have e : (2 : Nat) ^ (52 + 1) = 9007199254740992 := rfl
  omega
def un (least : Int) : Nat := exU 1 (least - 1)
theorem un_pos (least : Int) : 0 < un least := exU_pos _
set_option maxRecDepth 1000000 in
theorem sexact_any (m : Nat) (e : Int) (w : World) (hm : m < 18446744073709551616) (h0 : -1200 ≤ e) (h1 : e ≤ 1200) :
  Calls Tryz.prog 51 #[.int .u64 m, .int .i64 e] w fun x w' => x = .returned (.agg #[.string (oS (exU m e)), .int .i64 (oP (exU m e))]) ∧ Below w.heap.size w w' := by
 have hX : ∀ w, Calls Tryz.prog 18 #[.int .u64 m, .int .i64 e] w fun x w' => x = .returned (.tuple #[.agg #[.string (oS (exU m e)), .int .i64 (oP (exU m e))], .int .i64 0]) ∧ Below w.heap.size w w' := fun w => by
  have := exact_any m e w hm
  have e1 : xE e = 0 := if_neg (by omega)
  have e2 : xV m e = exU m e := if_pos e1
  rw [e1, e2] at this; exact this
 generalize oS (exU m e) = S at *
 generalize oP (exU m e) = P at *
 go_enter Tryz.func51, Tryz.ntmps51
 go_wp2_with (go_at_call 18; refine (hX _).mono ?_; rintro x w2 ⟨rfl, hb2⟩; have bR := keepb hb2 (B := w.heap.size) (x := .string ⟨#[]⟩) (y := .int .i64 0) (by simp [BoxDe, go_sem]); obtain ⟨r0, r1, r2, r3⟩ := id bR; have hlt : w.heap.size < w2.heap.size := World.block_lt_of_cell? w2 _ r0)
 refine bodyPost_ret (by simp [results, Tryz.results51, go_sem, cs_same, r0, r1, hlt]; rfl) rfl ?_
 refine ⟨rfl, ?_⟩
 have h := bel_call (B := w.heap.size) (w := w) (by go_grown) hb2 (Nat.le_refl _)
 have hs := (h.setCell (p := ⟨w.heap.size, 0, none⟩) (Nat.le_refl _) (.string S)).setCell (p := ⟨w.heap.size, 1, none⟩) (Nat.le_refl _) (.int .i64 P)
 exact hs.alloc hs.size _
set_option maxRecDepth 1000000 in
theorem scompare_any {s1 s2 : ByteArray} {p1 p2 r E : Int} (hC : CmpC s1 p1 s2 p2 r E) (w : World) :
  Calls Tryz.prog 27 #[.agg #[.string s1, .int .i64 p1], .agg #[.string s2, .int .i64 p2]] w fun x w' => x = .returned (.int .i64 r) ∧ Below w.heap.size w w' := by
 go_enter Tryz.func27, Tryz.ntmps27
 go_wp2_with (go_at_call 50; refine (hC _).mono ?_; rintro x w2 ⟨rfl, hb2⟩)
 go_ret
 exact ⟨rfl, bel_call (B := w.heap.size) (w := w) (by go_grown) hb2 (Nat.le_refl _)⟩
set_option maxRecDepth 1000000 in
theorem iseven_any (p : Nat) (w : World) (hp : p < 18446744073709551616) :
  Calls Tryz.prog 29 #[.int .u64 p] w fun x w' => x = .returned (.bool (decide (p % 2 = 0))) ∧ w' = w := by
 go_enter Tryz.func29, Tryz.ntmps29
 go_wp2
 go_ret
 refine ⟨?_, rfl⟩
 rcases Nat.mod_two_eq_zero_or_one p with h | h
 ·have e : ((p : Int) % 2) = 0 := by omega
  simp [h, e]
 ·have e : ((p : Int) % 2) = 1 := by omega
  simp [h, e]
theorem ret2 {a b c d : Int} {k1 k2 : IntKind} (h1 : a = c) (h2 : b = d) : Ending.returned (.tuple #[.int k1 a, .int k2 b]) = .returned (.tuple #[.int k1 c, .int k2 d]) := by rw [h1, h2]
set_option maxRecDepth 1000000 in
theorem finite_any {size : Int} {f ww : Nat} {least : Int} {I : Nat} (h : Ly size f ww least I) (p : Nat) (w : World) (hp : p < I) :
  Calls Tryz.prog 35 #[.agg #[.int .i64 ww, .int .i64 f, .int .i64 least], .int .u64 p] w fun x w' => x = .returned (.tuple #[.int .u64 (pm f p), .int .i64 (least + pk f p)]) ∧ Below w.heap.size w w' := by
 rcases h with ⟨rfl, rfl, rfl, rfl, rfl⟩ | ⟨rfl, rfl, rfl, rfl, rfl⟩
 ·have e1 : pm 23 p = if p / 8388608 = 0 then p % 8388608 else 8388608 + p % 8388608 := rfl
  have e2 : pk 23 p = p / 8388608 - 1 := rfl
  rw [e1, e2]
  by_cases hz : p < 8388608
  ·rw [if_pos (by omega)]
   clear e1 e2
   go_enter Tryz.func35, Tryz.ntmps35
   go_wp2
   go_region
   all_goals (try go_wp2)
   all_goals (try go_region)
   all_goals (try go_wp2)
   all_goals go_ret2
   all_goals exact ⟨ret2 (by omega) (by omega), by go_grown⟩
  ·rw [if_neg (by omega)]
   clear e1 e2
   go_enter Tryz.func35, Tryz.ntmps35
   go_wp2
   go_region
   all_goals (try go_wp2)
   all_goals (try go_region)
   all_goals (try go_wp2)
   all_goals go_ret2
   all_goals exact ⟨ret2 (by omega) (by omega), by go_grown⟩
 ·have e1 : pm 52 p = if p / 4503599627370496 = 0 then p % 4503599627370496 else 4503599627370496 + p % 4503599627370496 := rfl
  have e2 : pk 52 p = p / 4503599627370496 - 1 := rfl
  rw [e1, e2]
  by_cases hz : p < 4503599627370496
  ·rw [if_pos (by omega)]
   clear e1 e2
   go_enter Tryz.func35, Tryz.ntmps35
   go_wp2
   go_region
   all_goals (try go_wp2)
   all_goals (try go_region)
   all_goals (try go_wp2)
   all_goals go_ret2
   all_goals exact ⟨ret2 (by omega) (by omega), by go_grown⟩
  ·rw [if_neg (by omega)]
   clear e1 e2
   go_enter Tryz.func35, Tryz.ntmps35
   go_wp2
   go_region
   all_goals (try go_wp2)
   all_goals (try go_region)
   all_goals (try go_wp2)
   all_goals go_ret2
   all_goals exact ⟨ret2 (by omega) (by omega), by go_grown⟩
end Go.Proofs.YtiagjheifblkiaaGreatDoor
namespace Go.Proofs.YtiagjheifblkiaaGreatDoor
open Go.RowKit
set_option linter.unusedVariables false
set_option linter.unusedSimpArgs false
theorem Cl.froz {w0 : World} (x : Cl w0) {p : Addr} (hp : p.block < w0.heap.size) (h : w0.frozen? p = false) : x.w.frozen? p = false := (x.below.frozen hp).trans h
def midS (f : Nat) (least : Int) (p : Nat) : Nat := pa f p * un least
theorem mid_good {size : Int} {f ww : Nat} {least : Int} {I : Nat} (h : Ly size f ww least I) {p : Nat} (hp : p < I) : Good (midS f least p) := by
 obtain ⟨h0, h1, -, -, -, -, -, -, h2⟩ := h.pk
 have h3 := h2 p hp
 have h4 := h.pm p
 have := (exU_good (m := 2 * pm f p + 1) (e := least + pk f p - 1) (by omega) (by omega) (by omega)).1
 rw [exU_mid (by omega) (by omega)] at this
 exact this
set_option maxRecDepth 1000000 in
theorem above_any {size : Int} {f ww : Nat} {least : Int} {I : Nat} (h : Ly size f ww least I) (p : Nat) (w : World) (hp : p < I) :
  Calls Tryz.prog 28 #[.agg #[.int .i64 ww, .int .i64 f, .int .i64 least], .int .u64 p] w fun x w' => x = .returned (.agg #[.string (oS (midS f least p)), .int .i64 (oP (midS f least p))]) ∧ Below w.heap.size w w' := by
 have hF := fun w => finite_any h p w hp
 obtain ⟨h0, h1, -, -, -, -, -, -, h2⟩ := h.pk
 have h3 := h2 p hp
 have h4 := h.pm p
 have hX := fun w => sexact_any (2 * pm f p + 1) (least + pk f p - 1) w (by omega) (by omega) (by omega)
 rw [exU_mid (by omega) (by omega)] at hX
 have em : pa f p * exU 1 (least - 1) = midS f least p := rfl
 rw [em] at hX
 generalize oS (midS f least p) = S at *
 generalize oP (midS f least p) = P at *
 have e0 : -1199 ≤ least + (pk f p : Int) := by omega
 generalize pm f p = m at *
 generalize hE : least + (pk f p : Int) = e at *
 have hX' : ∀ w, Calls Tryz.prog 51 #[.int .u64 (2 * (m : Int) + 1), .int .i64 (e - 1)] w fun x w' => x = .returned (.agg #[.string S, .int .i64 P]) ∧ Below w.heap.size w w' := fun w => by
  have := hX w
  rw [show ((2 * m + 1 : Nat) : Int) = 2 * (m : Int) + 1 by omega] at this
  exact this
 clear hX hE h2 em
 go_enter Tryz.func28, Tryz.ntmps28
 go_wp2_with (first
  | (go_at_call 35; refine (hF _).mono ?_; rintro x w2 ⟨rfl, hb2⟩; have bR := keepb hb2 (B := w.heap.size + 1) (x := .string ⟨#[]⟩) (y := .int .i64 0) (by simp [BoxDe, go_sem]))
  | (go_at_call 51; refine (hX' _).mono ?_; rintro x w3 ⟨rfl, hb3⟩; have bS := keepb hb3 bR; obtain ⟨r0, r1, r2, r3⟩ := id bS))
 refine bodyPost_ret (by simp [results, Tryz.results28, go_sem, cs_same, r0, r1]; rfl) rfl ?_
 refine ⟨rfl, ?_⟩
 have h := bel_call (bel_call (B := w.heap.size) (w := w) (by go_grown) hb2 (Nat.le_refl _)) hb3 (Nat.le_refl _)
 exact (h.setCell (p := ⟨w.heap.size + 1, 0, none⟩) (Nat.le_succ _) (.string S)).setCell (p := ⟨w.heap.size + 1, 1, none⟩) (Nat.le_succ _) (.int .i64 P)
abbrev AbC (f ww : Nat) (least : Int) (q : Int) (S : ByteArray) (P : Int) : Prop := ∀ w, Calls Tryz.prog 28 #[.agg #[.int .i64 ww, .int .i64 f, .int .i64 least], .int .u64 q] w fun x w' => x = .returned (.agg #[.string S, .int .i64 P]) ∧ Below w.heap.size w w'
abbrev CpC (s1 : ByteArray) (p1 : Int) (s2 : ByteArray) (p2 r : Int) : Prop := ∀ w, Calls Tryz.prog 27 #[.agg #[.string s1, .int .i64 p1], .agg #[.string s2, .int .i64 p2]] w fun x w' => x = .returned (.int .i64 r) ∧ Below w.heap.size w w'
set_option maxRecDepth 1000000 in
set_option maxHeartbeats 1600000 in
theorem bounds_walk {f ww : Nat} {least : Int} {p : Nat} {S1 S2 : ByteArray} {P1 P2 : Int} (h1 : AbC f ww least ((p : Int) - 1) S1 P1) (h2 : AbC f ww least p S2 P2) (hp0 : 1 ≤ p) (hp : p < 9300000000000000000) (w : World) :
  Calls Tryz.prog 363 #[.agg #[.int .i64 ww, .int .i64 f, .int .i64 least], .int .u64 p] w fun x w' => x = .returned (.agg #[.string S1, .int .i64 P1, .string S2, .int .i64 P2, .bool (decide (p % 2 = 0))]) ∧ Below w.heap.size w w' := by
 have h3 := fun w => iseven_any p w (by omega)
 generalize decide (p % 2 = 0) = ev at *
 have hpI : 1 ≤ (p : Int) := by omega
 have hwr : IntKind.u64.wrap ((p : Int) - 1) = (p : Int) - 1 := by rw [IntKind.wrap_u64]; omega
 have h1' : AbC f ww least (IntKind.u64.wrap ((p : Int) - 1)) S1 P1 := by rw [hwr]; exact h1
 clear hwr
 obtain ⟨W2, hW2⟩ : ∃ W2, (w.alloc (.cells #[.int .i64 ww, .int .i64 f, .int .i64 least] 66)).alloc (.cells #[.string ⟨#[]⟩, .int .i64 0, .string ⟨#[]⟩, .int .i64 0, .bool false] 438) = W2 := ⟨_, rfl⟩
 have hbW : Below w.heap.size w W2 := by rw [← hW2]; go_grown
 have d0 : W2.cell? ⟨w.heap.size, 0, none⟩ = some (.int .i64 ww) := by rw [← hW2]; simp [go_sem]
 have c0 : ∀ x : Cl W2, x.w.cell? ⟨w.heap.size, 0, none⟩ = some (.int .i64 ww) := fun x => x.cell d0
 have d1 : W2.cell? ⟨w.heap.size, 1, none⟩ = some (.int .i64 f) := by rw [← hW2]; simp [go_sem]
 have c1 : ∀ x : Cl W2, x.w.cell? ⟨w.heap.size, 1, none⟩ = some (.int .i64 f) := fun x => x.cell d1
 have d2 : W2.cell? ⟨w.heap.size, 2, none⟩ = some (.int .i64 least) := by rw [← hW2]; simp [go_sem]
 have c2 : ∀ x : Cl W2, x.w.cell? ⟨w.heap.size, 2, none⟩ = some (.int .i64 least) := fun x => x.cell d2
 have d3 : W2.cell? ⟨w.heap.size + 1, 0, none⟩ = some (.string ⟨#[]⟩) := by rw [← hW2]; simp [go_sem]
 have c3 : ∀ x : Cl W2, x.w.cell? ⟨w.heap.size + 1, 0, none⟩ = some (.string ⟨#[]⟩) := fun x => x.cell d3
 have d4 : W2.cell? ⟨w.heap.size + 1, 1, none⟩ = some (.int .i64 0) := by rw [← hW2]; simp [go_sem]
 have c4 : ∀ x : Cl W2, x.w.cell? ⟨w.heap.size + 1, 1, none⟩ = some (.int .i64 0) := fun x => x.cell d4
 have d5 : W2.cell? ⟨w.heap.size + 1, 2, none⟩ = some (.string ⟨#[]⟩) := by rw [← hW2]; simp [go_sem]
 have c5 : ∀ x : Cl W2, x.w.cell? ⟨w.heap.size + 1, 2, none⟩ = some (.string ⟨#[]⟩) := fun x => x.cell d5
 have d6 : W2.cell? ⟨w.heap.size + 1, 3, none⟩ = some (.int .i64 0) := by rw [← hW2]; simp [go_sem]
 have c6 : ∀ x : Cl W2, x.w.cell? ⟨w.heap.size + 1, 3, none⟩ = some (.int .i64 0) := fun x => x.cell d6
 have d7 : W2.cell? ⟨w.heap.size + 1, 4, none⟩ = some (.bool false) := by rw [← hW2]; simp [go_sem]
 have c7 : ∀ x : Cl W2, x.w.cell? ⟨w.heap.size + 1, 4, none⟩ = some (.bool false) := fun x => x.cell d7
 have hz : w.heap.size + 1 < W2.heap.size := World.block_lt_of_cell? W2 _ d3
 have f0 : ∀ x : Cl W2, x.w.frozen? ⟨w.heap.size + 1, 0, none⟩ = false := fun x => x.froz hz (by rw [← hW2]; simp [go_sem])
 have f1 : ∀ x : Cl W2, x.w.frozen? ⟨w.heap.size + 1, 1, none⟩ = false := fun x => x.froz hz (by rw [← hW2]; simp [go_sem])
 have f2 : ∀ x : Cl W2, x.w.frozen? ⟨w.heap.size + 1, 2, none⟩ = false := fun x => x.froz hz (by rw [← hW2]; simp [go_sem])
 have f3 : ∀ x : Cl W2, x.w.frozen? ⟨w.heap.size + 1, 3, none⟩ = false := fun x => x.froz hz (by rw [← hW2]; simp [go_sem])
 have f4 : ∀ x : Cl W2, x.w.frozen? ⟨w.heap.size + 1, 4, none⟩ = false := fun x => x.froz hz (by rw [← hW2]; simp [go_sem])
 have hnx : ∀ w5, Below W2.drew.heap.size W2.drew w5 → ∃ y : Cl W2, w5 = y.w := fun w5 hb => ⟨⟨w5, bel_call (Below.refl _ _).drew hb (Nat.le_refl _)⟩, rfl⟩
 go_enter Tryz.func363, Tryz.ntmps363
 go_wp2
 go_region_with (first
  | (go_at_call 28; (with_reducible refine (h1' _).mono ?_); rintro x w3 ⟨rfl, hb3⟩; obtain ⟨y3, rfl⟩ := hnx _ hb3)
  | (go_at_call 28; (with_reducible refine (h2 _).mono ?_); rintro x w4 ⟨rfl, hb4⟩; obtain ⟨y4, rfl⟩ := Cl.next hb4)
  | (go_at_call 29; refine (h3 _).mono ?_; rintro x w5 ⟨rfl, rfl⟩))
 all_goals go_wp2
 all_goals refine bodyPost_ret (by simp [results, Tryz.results363, go_sem, cs_same, c3 y4, c4 y4, c5 y4, c6 y4, c7 y4]; rfl) rfl ?_
 all_goals
  refine ⟨rfl, ?_⟩
  have hh := bel_call hbW y4.below (Nat.le_refl _)
  iterate 5 (refine Below.setCell ?_ (Nat.le_succ _) _)
  exact hh
end Go.Proofs.YtiagjheifblkiaaGreatDoor
namespace Go.Proofs.YtiagjheifblkiaaGreatDoor
open Go.RowKit
set_option linter.unusedVariables false
set_option linter.unusedSimpArgs false
def hasB (ev : Bool) (r1 r2 : Int) : Bool := if ev then decide (0 ≤ r1) && decide (r2 ≤ 0) else decide (0 < r1) && decide (r2 < 0)
set_option maxRecDepth 1000000 in
set_option maxHeartbeats 1600000 in
theorem has_walk {s S1 S2 : ByteArray} {p P1 P2 r1 r2 : Int} {ev : Bool} (h1 : CpC s p S1 P1 r1) (h2 : CpC s p S2 P2 r2) (w : World) :
  Calls Tryz.prog 364 #[.agg #[.string S1, .int .i64 P1, .string S2, .int .i64 P2, .bool ev], .agg #[.string s, .int .i64 p]] w fun x w' => x = .returned (.bool (hasB ev r1 r2)) ∧ Below w.heap.size w w' := by
 obtain ⟨W2, hW2⟩ : ∃ W2, (w.alloc (.cells #[.string S1, .int .i64 P1, .string S2, .int .i64 P2, .bool ev] 438)).alloc (.cells #[.string s, .int .i64 p] 31) = W2 := ⟨_, rfl⟩
 have hbW : Below w.heap.size w W2 := by rw [← hW2]; go_grown
 have c0 : ∀ x : Cl W2, x.w.cell? ⟨w.heap.size, 0, none⟩ = some (.string S1) := fun x => x.cell (by rw [← hW2]; simp [go_sem])
 have c1 : ∀ x : Cl W2, x.w.cell? ⟨w.heap.size, 1, none⟩ = some (.int .i64 P1) := fun x => x.cell (by rw [← hW2]; simp [go_sem])
 have c2 : ∀ x : Cl W2, x.w.cell? ⟨w.heap.size, 2, none⟩ = some (.string S2) := fun x => x.cell (by rw [← hW2]; simp [go_sem])
 have c3 : ∀ x : Cl W2, x.w.cell? ⟨w.heap.size, 3, none⟩ = some (.int .i64 P2) := fun x => x.cell (by rw [← hW2]; simp [go_sem])
 have c4 : ∀ x : Cl W2, x.w.cell? ⟨w.heap.size, 4, none⟩ = some (.bool ev) := fun x => x.cell (by rw [← hW2]; simp [go_sem])
 have c5 : ∀ x : Cl W2, x.w.cell? ⟨w.heap.size + 1, 0, none⟩ = some (.string s) := fun x => x.cell (by rw [← hW2]; simp [go_sem])
 have c6 : ∀ x : Cl W2, x.w.cell? ⟨w.heap.size + 1, 1, none⟩ = some (.int .i64 p) := fun x => x.cell (by rw [← hW2]; simp [go_sem])
 go_enter Tryz.func364, Tryz.ntmps364
 go_wp2
 refine wp_region_above W2 (Below.refl _ _) (by kernel_rfl) (by kernel_rfl) ?_
 intro hCl
 repeat (go_big_quiet_step ((first | (go_at_call 27; with_reducible exact Cl.call (h1 _)) | (go_at_call 27; with_reducible exact Cl.call (h2 _)))))
 refine wpQuiet_nil ?_
 intro _ hw'
 obtain ⟨y, hx⟩ := hw'
 subst hx
 have hb := bel_call hbW y.below (Nat.le_refl _)
 cases ev
 ·by_cases k1 : 0 < r1
  ·go_wp2
   go_ret
   refine ⟨?_, hb⟩
   simp [hasB, k1] <;> omega
  ·go_wp2
   go_ret
   refine ⟨?_, hb⟩
   simp [hasB, k1] <;> omega
 ·by_cases k1 : 0 ≤ r1
  ·go_wp2
   go_ret
   refine ⟨?_, hb⟩
   simp [hasB, k1] <;> omega
  ·go_wp2
   go_ret
   refine ⟨?_, hb⟩
   simp [hasB, k1] <;> omega
end Go.Proofs.YtiagjheifblkiaaGreatDoor
namespace Go.Proofs.YtiagjheifblkiaaGreatDoor
open Go.RowKit
set_option linter.unusedVariables false
set_option linter.unusedSimpArgs false
end Go.Proofs.YtiagjheifblkiaaGreatDoor
