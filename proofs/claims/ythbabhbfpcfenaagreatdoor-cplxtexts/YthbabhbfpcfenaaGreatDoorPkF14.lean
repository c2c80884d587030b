/- FWalkD: these texts in one. -/
import Derived.Test.YthbabhbfpcfenaaGreatDoorPkF12
import Derived.Test.YthbabhbfpcfenaaGreatDoorPkF13
/- The walks of package floats: x. -/
namespace Go.Proofs.YthbabhbfpcfenaaGreatDoor
open Go.RowKit
set_option linter.unusedVariables false
set_option linter.unusedSimpArgs false

abbrev RbC (m : Nat) (P : Int) (r : Nat) : Prop := ∀ w, Calls Tryz.prog 118 #[.int .u64 (m : Nat), .int .i64 P] w fun x w' => x = .returned (.int .u64 (r : Nat)) ∧ Below w.heap.size w w'
set_option maxRecDepth 1000000 in
theorem rb_keep {m : Nat} {P : Int} (h : P < 0 ∨ 13 ≤ P) : RbC m P m := fun w => by
  rcases Int.lt_or_le P 0 with h1 | h1
  · go_enter Tryz.func118, Tryz.ntmps118
    go_wp2
    go_ret
    exact ⟨rfl, Below.refl _ _⟩
  · have h2 : 13 ≤ P := by omega
    have h3 : ¬ P < 0 := by omega
    clear h h1
    go_enter Tryz.func118, Tryz.ntmps118
    go_wp2
    go_ret
    exact ⟨rfl, Below.refl _ _⟩
set_option maxRecDepth 1000000 in
set_option maxHeartbeats 1000000 in
theorem rb_cut {m U q r h X0 X1 : Nat} {P : Int} (hP0 : 0 ≤ P) (hP : P < 13) (hk : IntKind.u64.wrap (2 ^ (4 * (13 - P)).toNat) = (U : Int)) (hU : 0 < U) (hq : (m : Int) / U = (q : Nat)) (hr : (m : Int) % U = (r : Nat)) (hh : (U : Int) / 2 = (h : Nat)) (hX0 : (q : Int) * (U : Int) = (X0 : Nat)) (hX1 : ((q : Int) + 1) * (U : Int) = (X1 : Nat)) (b0 : (X0 : Int) ≤ 9223372036854775807) (b1 : (X1 : Int) ≤ 9223372036854775807) (b2 : (q : Int) ≤ 9223372036854775807) (b3 : (r : Int) ≤ 9223372036854775807) (b4 : (h : Int) ≤ 9223372036854775807) (w : World) :
    Calls Tryz.prog 118 #[.int .u64 (m : Nat), .int .i64 P] w fun x w' => x = .returned (.int .u64 ((if r > h ∨ (r = h ∧ q % 2 = 1) then X1 else X0 : Nat) : Int)) ∧ Below w.heap.size w w' := by
  have h3 : ¬ P < 0 := by omega
  have h4 : ¬ 13 ≤ P := by omega
  have hUI : (U : Int) ≠ 0 := by omega
  have hUp : 0 < (U : Int) := by omega
  by_cases c1 : h < r
  · have c1I : (h : Int) < r := by omega
    rw [if_pos (.inl c1)]
    go_enter Tryz.func118, Tryz.ntmps118
    go_wp2
    clear hk
    go_region
    all_goals clear hU hX0 b0 c1
    all_goals go_wp2
    all_goals go_ret
    all_goals first | exact ⟨rfl, (Below.refl _ _).drew⟩ | (exfalso; omega)
  · have c1I : ¬ (h : Int) < r := by omega
    by_cases c2 : r = h
    · subst c2
      rcases Nat.mod_two_eq_zero_or_one q with c3 | c3
      · have c3I : ((q : Int) % 2 == 1) = false := by simp; omega
        rw [if_neg (by omega)]
        go_enter Tryz.func118, Tryz.ntmps118
        go_wp2
        clear hk
        go_region
        all_goals clear hU hX1 b1 c1 c3
        all_goals go_wp2
        all_goals go_ret
        all_goals first | exact ⟨rfl, (Below.refl _ _).drew⟩ | (exfalso; omega)
      · have c3I : ((q : Int) % 2 == 1) = true := by simp; omega
        rw [if_pos (.inr ⟨rfl, c3⟩)]
        go_enter Tryz.func118, Tryz.ntmps118
        go_wp2
        clear hk
        go_region
        all_goals clear hU hX0 b0 c1 c3
        all_goals go_wp2
        all_goals go_ret
        all_goals first | exact ⟨rfl, (Below.refl _ _).drew⟩ | (exfalso; omega)
    · have c2I : ((r : Int) == (h : Int)) = false := by simp; omega
      rw [if_neg (by omega)]
      go_enter Tryz.func118, Tryz.ntmps118
      go_wp2
      clear hk
      go_region
      all_goals clear hU hX1 b1 c1 c2
      all_goals go_wp2
      all_goals go_ret
      all_goals first | exact ⟨rfl, (Below.refl _ _).drew⟩ | (exfalso; omega)
theorem wrapU (n : Int) : IntKind.u64.wrap n = n % 18446744073709551616 := by
  unfold IntKind.wrap
  simp [IntKind.bits, IntKind.signed]
theorem wrap_pow {k : Nat} (hk : k ≤ 63) : IntKind.u64.wrap (2 ^ k) = ((2 ^ k : Nat) : Int) := by
  have h1 : (2 : Nat) ^ k ≤ 2 ^ 63 := Nat.pow_le_pow_right (by decide) hk
  have e : (2 : Nat) ^ 63 = 9223372036854775808 := by decide
  have h2 : ((2 : Int) ^ k) = ((2 ^ k : Nat) : Int) := by push_cast; rfl
  rw [h2, wrapU]
  generalize 2 ^ k = X at *
  omega
theorem rbC {N : Nat} {P : Int} (hN : N < 2 * 2 ^ 52) : RbC N P (rb N P) := by
  by_cases h : P < 0 ∨ 13 ≤ P
  · have e : rb N P = N := by unfold rb; rw [if_pos h]
    rw [e]; exact rb_keep h
  · intro w
    obtain ⟨n, rfl⟩ := Int.eq_ofNat_of_zero_le (show 0 ≤ P by omega)
    have hn : n < 13 := by omega
    have e : rb N n = rbW N n * rbU n := by unfold rb; rw [if_neg (by omega), Int.toNat_natCast]
    have hu : rbU n = 2 ^ (4 * (13 - n)) := rfl
    have hup : 0 < rbU n := by rw [hu]; exact Nat.pow_pos (by decide)
    have hul : rbU n ≤ 2 ^ 52 := by rw [hu]; exact Nat.pow_le_pow_right (by decide) (by omega)
    have hw : IntKind.u64.wrap (2 ^ ((4 : Int) * (13 - (n : Int))).toNat) = ((rbU n : Nat) : Int) := by
      rw [hu, show ((4 : Int) * (13 - (n : Int))).toNat = 4 * (13 - n) by omega]
      exact wrap_pow (by omega)
    have e52 : (2 : Nat) ^ 52 = 4503599627370496 := by decide
    have hd := Nat.div_mul_le_self N (rbU n)
    have hq : N / rbU n ≤ N := Nat.div_le_self _ _
    have hr := Nat.mod_lt N hup
    have := rb_cut (m := N) (U := rbU n) (q := N / rbU n) (r := N % rbU n) (h := rbU n / 2) (X0 := N / rbU n * rbU n) (X1 := (N / rbU n + 1) * rbU n) (by omega) (by omega) hw hup (by push_cast; rfl) (by push_cast; rfl) (by push_cast; rfl) (by push_cast; rfl) (by push_cast; rfl) (by omega) (by rw [Nat.add_mul, Nat.one_mul]; omega) (by omega) (by omega) (by omega) w
    rw [e]
    have e2 : rbW N n * rbU n = if N % rbU n > rbU n / 2 ∨ (N % rbU n = rbU n / 2 ∧ N / rbU n % 2 = 1) then (N / rbU n + 1) * rbU n else N / rbU n * rbU n := by
      unfold rbW
      split <;> rfl
    rw [e2]
    exact this
abbrev NmC (bits m : Nat) (size e P : Int) (sh : Bool) (M : Nat) (x : Int) : Prop := ∀ w, Calls Tryz.prog 86 #[.agg #[.int .u64 (bits : Nat), .int .i64 size, .int .u64 (m : Nat), .int .i64 e, .int .i64 P, .bool sh]] w fun y w' => y = .returned (.tuple #[.int .u64 (M : Nat), .int .i64 x]) ∧ Below w.heap.size w w'
set_option maxRecDepth 1000000 in
theorem normal_0 {bits : Nat} {size e P : Int} {sh : Bool} : NmC bits 0 size e P sh 0 0 := fun w => by
  go_enter Tryz.func86, Tryz.ntmps86
  go_wp2
  go_returns
  exact ⟨rfl, by go_grown⟩
set_option maxRecDepth 1000000 in
set_option maxHeartbeats 1000000 in
theorem normal_1 {bits m N R s : Nat} {size e P : Int} {sh : Bool} (hm : m ≠ 0) (hs : s ≤ 52) (hL : ∀ w, Calls Tryz.prog 117 #[.int .u64 (m : Nat)] w fun y w' => y = .returned (.int .i64 (53 - (s : Int))) ∧ w' = w) (hsh : IntKind.u64.wrap ((m : Int) * 2 ^ s) = (N : Nat)) (hR : RbC N P R) (hR2 : ¬ R / 4503599627370496 = 2) (he0 : -100000 ≤ e) (he1 : e ≤ 100000) : NmC bits m size e P sh R (e + 52 - s) := fun w => by
  have hbA : Below w.heap.size w (w.alloc (.cells #[.int .u64 (bits : Nat), .int .i64 size, .int .u64 (m : Nat), .int .i64 e, .int .i64 P, .bool sh] 54)) := (Below.refl _ _).alloc (Nat.le_refl _) _
  have f0 : ∀ x : Cl (w.alloc (.cells #[.int .u64 (bits : Nat), .int .i64 size, .int .u64 (m : Nat), .int .i64 e, .int .i64 P, .bool sh] 54)), x.w.cell? ⟨w.heap.size, 0, none⟩ = some (.int .u64 (bits : Nat)) := fun x => x.cell (by simp)
  have f1 : ∀ x : Cl (w.alloc (.cells #[.int .u64 (bits : Nat), .int .i64 size, .int .u64 (m : Nat), .int .i64 e, .int .i64 P, .bool sh] 54)), x.w.cell? ⟨w.heap.size, 1, none⟩ = some (.int .i64 size) := fun x => x.cell (by simp)
  have f2 : ∀ x : Cl (w.alloc (.cells #[.int .u64 (bits : Nat), .int .i64 size, .int .u64 (m : Nat), .int .i64 e, .int .i64 P, .bool sh] 54)), x.w.cell? ⟨w.heap.size, 2, none⟩ = some (.int .u64 (m : Nat)) := fun x => x.cell (by simp)
  have f3 : ∀ x : Cl (w.alloc (.cells #[.int .u64 (bits : Nat), .int .i64 size, .int .u64 (m : Nat), .int .i64 e, .int .i64 P, .bool sh] 54)), x.w.cell? ⟨w.heap.size, 3, none⟩ = some (.int .i64 e) := fun x => x.cell (by simp)
  have f4 : ∀ x : Cl (w.alloc (.cells #[.int .u64 (bits : Nat), .int .i64 size, .int .u64 (m : Nat), .int .i64 e, .int .i64 P, .bool sh] 54)), x.w.cell? ⟨w.heap.size, 4, none⟩ = some (.int .i64 P) := fun x => x.cell (by simp)
  have f5 : ∀ x : Cl (w.alloc (.cells #[.int .u64 (bits : Nat), .int .i64 size, .int .u64 (m : Nat), .int .i64 e, .int .i64 P, .bool sh] 54)), x.w.cell? ⟨w.heap.size, 5, none⟩ = some (.bool sh) := fun x => x.cell (by simp)
  have b1 : ((m : Int) == 0) = false := by simp; omega
  have b2 : ((R : Int) / 4503599627370496 == 2) = false := by simp; omega
  have hs2 : (52 : Int) - (53 - (s : Int) - 1) = s := by omega
  have hsI : (s : Int) ≤ 52 := by omega
  have hsI0 : 0 ≤ (s : Int) := by omega
  go_enter Tryz.func86, Tryz.ntmps86
  go_wp2_with (go_at_call 117; (with_reducible refine (hL _).mono ?_); rintro x w1 ⟨rfl, rfl⟩)
  refine wp_region_above (w.alloc (.cells #[.int .u64 (bits : Nat), .int .i64 size, .int .u64 (m : Nat), .int .i64 e, .int .i64 P, .bool sh] 54)) (Below.refl _ _) (by kernel_rfl) (by kernel_rfl) ?_
  intro hCl
  repeat (go_big_quiet_step ((go_at_call 118; exact Cl.call (hR _))))
  refine wpQuiet_nil ?_
  intro _ hw'
  obtain ⟨z, hz⟩ := hw'
  subst hz
  go_wp2
  go_returns
  exact ⟨rfl, bel_call hbA z.below (Nat.le_refl _)⟩
set_option maxRecDepth 1000000 in
set_option maxHeartbeats 1000000 in
theorem normal_2 {bits m N R s : Nat} {size e P : Int} {sh : Bool} (hm : m ≠ 0) (hs : s ≤ 52) (hL : ∀ w, Calls Tryz.prog 117 #[.int .u64 (m : Nat)] w fun y w' => y = .returned (.int .i64 (53 - (s : Int))) ∧ w' = w) (hsh : IntKind.u64.wrap ((m : Int) * 2 ^ s) = (N : Nat)) (hR : RbC N P R) (hR2 : R / 4503599627370496 = 2) (hRb : R < 18446744073709551616) (he0 : -100000 ≤ e) (he1 : e ≤ 100000) : NmC bits m size e P sh (R / 2) (e + 52 - s + 1) := fun w => by
  have hbA : Below w.heap.size w (w.alloc (.cells #[.int .u64 (bits : Nat), .int .i64 size, .int .u64 (m : Nat), .int .i64 e, .int .i64 P, .bool sh] 54)) := (Below.refl _ _).alloc (Nat.le_refl _) _
  have f0 : ∀ x : Cl (w.alloc (.cells #[.int .u64 (bits : Nat), .int .i64 size, .int .u64 (m : Nat), .int .i64 e, .int .i64 P, .bool sh] 54)), x.w.cell? ⟨w.heap.size, 0, none⟩ = some (.int .u64 (bits : Nat)) := fun x => x.cell (by simp)
  have f1 : ∀ x : Cl (w.alloc (.cells #[.int .u64 (bits : Nat), .int .i64 size, .int .u64 (m : Nat), .int .i64 e, .int .i64 P, .bool sh] 54)), x.w.cell? ⟨w.heap.size, 1, none⟩ = some (.int .i64 size) := fun x => x.cell (by simp)
  have f2 : ∀ x : Cl (w.alloc (.cells #[.int .u64 (bits : Nat), .int .i64 size, .int .u64 (m : Nat), .int .i64 e, .int .i64 P, .bool sh] 54)), x.w.cell? ⟨w.heap.size, 2, none⟩ = some (.int .u64 (m : Nat)) := fun x => x.cell (by simp)
  have f3 : ∀ x : Cl (w.alloc (.cells #[.int .u64 (bits : Nat), .int .i64 size, .int .u64 (m : Nat), .int .i64 e, .int .i64 P, .bool sh] 54)), x.w.cell? ⟨w.heap.size, 3, none⟩ = some (.int .i64 e) := fun x => x.cell (by simp)
  have f4 : ∀ x : Cl (w.alloc (.cells #[.int .u64 (bits : Nat), .int .i64 size, .int .u64 (m : Nat), .int .i64 e, .int .i64 P, .bool sh] 54)), x.w.cell? ⟨w.heap.size, 4, none⟩ = some (.int .i64 P) := fun x => x.cell (by simp)
  have f5 : ∀ x : Cl (w.alloc (.cells #[.int .u64 (bits : Nat), .int .i64 size, .int .u64 (m : Nat), .int .i64 e, .int .i64 P, .bool sh] 54)), x.w.cell? ⟨w.heap.size, 5, none⟩ = some (.bool sh) := fun x => x.cell (by simp)
  have b1 : ((m : Int) == 0) = false := by simp; omega
  have b2 : ((R : Int) / 4503599627370496 == 2) = true := by simp; omega
  have hs2 : (52 : Int) - (53 - (s : Int) - 1) = s := by omega
  have hsI : (s : Int) ≤ 52 := by omega
  have hsI0 : 0 ≤ (s : Int) := by omega
  have hh : (R : Int) / 2 = ((R / 2 : Nat) : Int) := by omega
  have hRb2 : ((R / 2 : Nat) : Int) < 18446744073709551616 := by omega
  clear hR2
  generalize R / 2 = R2 at *
  go_enter Tryz.func86, Tryz.ntmps86
  go_wp2_with (go_at_call 117; (with_reducible refine (hL _).mono ?_); rintro x w1 ⟨rfl, rfl⟩)
  refine wp_region_above (w.alloc (.cells #[.int .u64 (bits : Nat), .int .i64 size, .int .u64 (m : Nat), .int .i64 e, .int .i64 P, .bool sh] 54)) (Below.refl _ _) (by kernel_rfl) (by kernel_rfl) ?_
  intro hCl
  repeat (go_big_quiet_step ((go_at_call 118; exact Cl.call (hR _))))
  refine wpQuiet_nil ?_
  intro _ hw'
  obtain ⟨z, hz⟩ := hw'
  subst hz
  go_wp2
  go_returns
  exact ⟨rfl, bel_call hbA z.below (Nat.le_refl _)⟩
theorem fnormal_any {bits m : Nat} {size e P : Int} {sh : Bool} (hm : m < 2 ^ 53) (he0 : -100000 ≤ e) (he1 : e ≤ 100000) : NmC bits m size e P sh (nmM m P) (nmE m e P) := by
  by_cases h0 : m = 0
  · subst h0
    have e1 : nmM 0 P = 0 := by simp [nmM]
    have e2 : nmE 0 e P = 0 := by simp [nmE]
    rw [e1, e2]
    exact normal_0
  · obtain ⟨hs, p, hN, hp⟩ := nm_in h0 hm
    have e53 : (2 : Nat) ^ 53 = 9007199254740992 := by decide
    have e52 : (2 : Nat) ^ 52 = 4503599627370496 := by decide
    have hL : ∀ w, Calls Tryz.prog 117 #[.int .u64 (m : Nat)] w fun y w' => y = .returned (.int .i64 (53 - (nmS m : Int))) ∧ w' = w := fun w => by
      have := Tryz.bits_Len64 (m : Int) w (by omega) (by omega)
      have hb : ((Lib.bitLen ((m : Int)).toNat : Nat) : Int) = 53 - (nmS m : Int) := by
        obtain ⟨L, e, a, b⟩ := bit_in m h0 (Nat.lt_of_lt_of_le hm (Nat.pow_le_pow_right (by decide) (by decide)))
        have hL : L ≤ 52 := by
          rcases Nat.lt_or_ge L 53 with h1 | h1
          · omega
          · have := Nat.pow_le_pow_right (show 0 < 2 by decide) h1; omega
        rw [Int.toNat_natCast]
        unfold nmS
        omega
      rw [hb] at this
      exact this
    have hlt : m * 2 ^ nmS m < 2 * 2 ^ 52 := by rw [hN, ← p13]; omega
    have hsh : IntKind.u64.wrap ((m : Int) * 2 ^ nmS m) = ((m * 2 ^ nmS m : Nat) : Int) := by
      have h2 : ((m : Int) * 2 ^ nmS m) = ((m * 2 ^ nmS m : Nat) : Int) := by push_cast; rfl
      rw [h2, wrapU]
      generalize m * 2 ^ nmS m = X at *
      omega
    have hR := rbC (P := P) hlt
    by_cases h2 : rb (m * 2 ^ nmS m) P / 2 ^ 52 = 2
    · have e1 : nmM m P = rb (m * 2 ^ nmS m) P / 2 := by unfold nmM; rw [if_neg h0, if_pos h2]
      have e2 : nmE m e P = e + 52 - nmS m + 1 := by unfold nmE; rw [if_neg h0, if_pos h2]
      rw [e1, e2]
      exact normal_2 h0 hs hL hsh hR h2 (by omega) he0 he1
    · have e1 : nmM m P = rb (m * 2 ^ nmS m) P := by unfold nmM; rw [if_neg h0, if_neg h2]
      have e2 : nmE m e P = e + 52 - nmS m := by unfold nmE; rw [if_neg h0, if_neg h2]
      rw [e1, e2]
      exact normal_1 h0 hs hL hsh hR h2 he0 he1
abbrev HpC (bits m : Nat) (size e P : Int) (sh : Bool) (d r : ByteArray) : Prop := ∀ w, Calls Tryz.prog 87 #[.agg #[.int .u64 (bits : Nat), .int .i64 size, .int .u64 (m : Nat), .int .i64 e, .int .i64 P, .bool sh], .string d] w fun y w' => y = .returned (.string r) ∧ Below w.heap.size w w'
set_option maxRecDepth 1000000 in
set_option maxHeartbeats 4000000 in
theorem hexPart_any {bits m : Nat} {size e P : Int} {sh : Bool} {d : ByteArray} (hd : d.size = 13) (hP : P ≤ 100000) : HpC bits m size e P sh d (hxP d P) := fun w => by
  unfold hxP
  by_cases h : P < 0
  · have hT : ∀ w, Calls Tryz.prog 119 #[.string d, .string ⟨#[48]⟩] w fun e w' => e = .returned (.string ⟨(rtr d.data.toList).toArray⟩) ∧ w' = w := fun w => Tryz.strings_TrimRight_one d 48 (by decide) w (by omega)
    rw [if_pos h]
    generalize (⟨(rtr d.data.toList).toArray⟩ : ByteArray) = r at *
    go_enter Tryz.func87, Tryz.ntmps87
    go_wp2_with (go_at_call 119; (with_reducible refine (hT _).mono ?_); rintro x w1 ⟨rfl, rfl⟩)
    go_ret
    exact ⟨rfl, by go_grown⟩
  · obtain ⟨n, rfl⟩ := Int.eq_ofNat_of_zero_le (show 0 ≤ P by omega)
    rw [if_neg h]
    have hz : (d.extract 0 (min (n : Int) 13).toNat).size ≤ 13 := by rw [ByteArray.size_extract]; omega
    have hL : LbC (d.extract 0 (min (n : Int) 13).toNat) n (lnB (d.extract 0 (min (n : Int) 13).toNat) n) := fun w => flenB_any _ _ w (by omega) (by omega) (by omega)
    have hbA : Below w.heap.size w (w.alloc (.cells #[.int .u64 (bits : Nat), .int .i64 size, .int .u64 (m : Nat), .int .i64 e, .int .i64 (n : Int), .bool sh] 54)) := (Below.refl _ _).alloc (Nat.le_refl _) _
    have h1 : min (n : Int) 13 ≤ d.size := by omega
    have h2 : 0 ≤ min (n : Int) 13 := by omega
    clear hz
    generalize lnB (d.extract 0 (min (n : Int) 13).toNat) n = r at *
    obtain ⟨c, hc⟩ : ∃ c : Int, min (n : Int) 13 = c := ⟨_, rfl⟩
    rw [hc] at hL h1 h2
    go_enter Tryz.func87, Tryz.ntmps87
    go_wp2
    go_region_with (go_at_call 78; (with_reducible refine (hL _).mono ?_); rintro x w3 ⟨rfl, hb3⟩)
    all_goals go_wp2
    all_goals go_ret
    all_goals exact ⟨rfl, bel_call hbA.drew hb3 (Nat.le_refl _)⟩
set_option maxRecDepth 1000000 in
set_option maxHeartbeats 2000000 in
theorem hex_walk {bits m M : Nat} {size e P x : Int} {sh : Bool} {D1 D A B B2 T G : ByteArray} (hN : NmC bits m size e P sh M x) (hD : DgC (M : Nat) 16 D1) (hL : LaC D1 14 D) (hd : 1 ≤ D.size) (hA : D.extract 0 1 = A) (hB : D.extract 1 D.size = B) (hH : HpC bits m size e P sh B B2) (hT : PtdC bits m size e P sh A B2 T) (hG : SgdC x 2 G) (hz : T.size + G.size ≤ 1000000) (w : World) :
    Calls Tryz.prog 42 #[.agg #[.int .u64 (bits : Nat), .int .i64 size, .int .u64 (m : Nat), .int .i64 e, .int .i64 P, .bool sh]] w fun y w' => y = .returned (.string ((((⟨#[48, 120]⟩ : ByteArray) ++ T) ++ ⟨#[112]⟩) ++ G)) ∧ Below w.heap.size w w' := by
  have hbA : Below w.heap.size w (w.alloc (.cells #[.int .u64 (bits : Nat), .int .i64 size, .int .u64 (m : Nat), .int .i64 e, .int .i64 P, .bool sh] 54)) := (Below.refl _ _).alloc (Nat.le_refl _) _
  have f0 : ∀ x : Cl (w.alloc (.cells #[.int .u64 (bits : Nat), .int .i64 size, .int .u64 (m : Nat), .int .i64 e, .int .i64 P, .bool sh] 54)), x.w.cell? ⟨w.heap.size, 0, none⟩ = some (.int .u64 (bits : Nat)) := fun x => x.cell (by simp)
  have f1 : ∀ x : Cl (w.alloc (.cells #[.int .u64 (bits : Nat), .int .i64 size, .int .u64 (m : Nat), .int .i64 e, .int .i64 P, .bool sh] 54)), x.w.cell? ⟨w.heap.size, 1, none⟩ = some (.int .i64 size) := fun x => x.cell (by simp)
  have f2 : ∀ x : Cl (w.alloc (.cells #[.int .u64 (bits : Nat), .int .i64 size, .int .u64 (m : Nat), .int .i64 e, .int .i64 P, .bool sh] 54)), x.w.cell? ⟨w.heap.size, 2, none⟩ = some (.int .u64 (m : Nat)) := fun x => x.cell (by simp)
  have f3 : ∀ x : Cl (w.alloc (.cells #[.int .u64 (bits : Nat), .int .i64 size, .int .u64 (m : Nat), .int .i64 e, .int .i64 P, .bool sh] 54)), x.w.cell? ⟨w.heap.size, 3, none⟩ = some (.int .i64 e) := fun x => x.cell (by simp)
  have f4 : ∀ x : Cl (w.alloc (.cells #[.int .u64 (bits : Nat), .int .i64 size, .int .u64 (m : Nat), .int .i64 e, .int .i64 P, .bool sh] 54)), x.w.cell? ⟨w.heap.size, 4, none⟩ = some (.int .i64 P) := fun x => x.cell (by simp)
  have f5 : ∀ x : Cl (w.alloc (.cells #[.int .u64 (bits : Nat), .int .i64 size, .int .u64 (m : Nat), .int .i64 e, .int .i64 P, .bool sh] 54)), x.w.cell? ⟨w.heap.size, 5, none⟩ = some (.bool sh) := fun x => x.cell (by simp)
  have h1 : (⟨#[48, 120]⟩ : ByteArray).size = 2 := rfl
  have h2 : (⟨#[112]⟩ : ByteArray).size = 1 := rfl
  have hz2 : (⟨#[48, 120]⟩ : ByteArray).size + T.size + (⟨#[112]⟩ : ByteArray).size + G.size ≤ 10000000 := by omega
  have hdI : (1 : Int) ≤ D.size := by omega
  subst hA hB
  have hn1 : ∀ (W : World) (y : Cl W) w5, Below y.w.drew.heap.size y.w.drew w5 → ∃ z : Cl W, w5 = z.w := fun W y w5 hb => ⟨⟨w5, bel_call y.below.drew hb (Nat.le_refl _)⟩, rfl⟩
  go_enter Tryz.func42, Tryz.ntmps42
  go_wp2_with (first
    | (go_at_call 86; (with_reducible refine (hN _).mono ?_); rintro x w1 ⟨rfl, hb1⟩; obtain ⟨y1, rfl⟩ := Cl.start hb1)
    | (go_at_call 84; (with_reducible refine (hD _).mono ?_); rintro x w2 ⟨rfl, hb2⟩; obtain ⟨y2, rfl⟩ := Cl.next hb2)
    | (go_at_call 55; (with_reducible refine (hL _).mono ?_); rintro x w3 ⟨rfl, hb3⟩; obtain ⟨y3, rfl⟩ := Cl.next hb3))
  go_region_with (first
    | (go_at_call 87; (with_reducible refine (hH _).mono ?_); rintro x w4 ⟨rfl, hb4⟩; obtain ⟨y4, rfl⟩ := hn1 _ _ _ hb4)
    | (go_at_call 82; (with_reducible refine (hT _).mono ?_); rintro x w5 ⟨rfl, hb5⟩; obtain ⟨y5, rfl⟩ := Cl.next hb5)
    | (go_at_call 85; (with_reducible refine (hG _).mono ?_); rintro x w6 ⟨rfl, hb6⟩; obtain ⟨y6, rfl⟩ := Cl.next hb6)
    | (go_at_call 24; refine (together4 (a := ⟨#[48, 120]⟩) (b := T) (c := ⟨#[112]⟩) (d := G) _ (by simp) (by simp) (by simp) (by simp) hz2).mono ?_; rintro x w7 ⟨rfl, hb7⟩; obtain ⟨y7, rfl⟩ := Cl.after hb7))
  all_goals go_wp2
  all_goals go_ret
  all_goals exact ⟨rfl, bel_call hbA y7.below (Nat.le_refl _)⟩
end Go.Proofs.YthbabhbfpcfenaaGreatDoor
