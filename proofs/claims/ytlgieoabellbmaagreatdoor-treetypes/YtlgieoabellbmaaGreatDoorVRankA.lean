/- rankOf at each of the values' types. -/
import Derived.Test.YtlgieoabellbmaaGreatDoorVCmp
import Derived.Test.YtlgieoabellbmaaGreatDoorVRaw
import Derived.Deep.RegionWith
namespace Go.Proofs.YtlgieoabellbmaaGreatDoor
open Go.RowKit
set_option linter.unusedVariables false
set_option linter.unusedSimpArgs false
theorem set4 {V : World} {b : Nat} {x0 x1 x2 x3 : Value} (h0 : V.cell? ⟨b, 0, none⟩ = some x0) (h1 : V.cell? ⟨b, 1, none⟩ = some x1) (h2 : V.cell? ⟨b, 2, none⟩ = some x2) (h3 : V.cell? ⟨b, 3, none⟩ = some x3) (y0 y1 y2 y3 : Value) :
  ((((V.setCell ⟨b, 0, none⟩ y0).setCell ⟨b, 1, none⟩ y1).setCell ⟨b, 2, none⟩ y2).setCell ⟨b, 3, none⟩ y3).cell? ⟨b, 0, none⟩ = some y0 ∧ ((((V.setCell ⟨b, 0, none⟩ y0).setCell ⟨b, 1, none⟩ y1).setCell ⟨b, 2, none⟩ y2).setCell ⟨b, 3, none⟩ y3).cell? ⟨b, 1, none⟩ = some y1 ∧ ((((V.setCell ⟨b, 0, none⟩ y0).setCell ⟨b, 1, none⟩ y1).setCell ⟨b, 2, none⟩ y2).setCell ⟨b, 3, none⟩ y3).cell? ⟨b, 2, none⟩ = some y2 ∧ ((((V.setCell ⟨b, 0, none⟩ y0).setCell ⟨b, 1, none⟩ y1).setCell ⟨b, 2, none⟩ y2).setCell ⟨b, 3, none⟩ y3).cell? ⟨b, 3, none⟩ = some y3 := by
 refine ⟨?_, ?_, ?_, ?_⟩
 all_goals simp [go_sem, h0, h1, h2, h3]
theorem xor_low (c : Nat) (h : c < 2 ^ 63) : c ^^^ 2 ^ 63 = 2 ^ 63 + c := by
 apply Nat.eq_of_testBit_eq
 intro i
 rw [Nat.testBit_xor, Nat.testBit_two_pow]
 rcases Nat.lt_trichotomy i 63 with hi | hi | hi
 ·rw [Nat.testBit_two_pow_add_gt hi]
  have : ¬ 63 = i := by omega
  simp [this]
 ·subst hi
  rw [Nat.testBit_two_pow_add_eq]
  simp
 ·have h1 : c.testBit i = false := Nat.testBit_lt_two_pow (Nat.lt_of_lt_of_le h (Nat.pow_le_pow_right (by decide) (by omega)))
  have h2 : (2 ^ 63 + c).testBit i = false := by
   refine Nat.testBit_lt_two_pow (Nat.lt_of_lt_of_le (m := 2 ^ 64) ?_ (Nat.pow_le_pow_right (by decide) (by omega)))
   have : (2 : Nat) ^ 64 = 2 ^ 63 + 2 ^ 63 := by decide
   omega
  have : ¬ 63 = i := by omega
  rw [h1, h2]
  simp [this]
theorem xor_sign (n : Int) (h0 : -9223372036854775808 ≤ n) (h1 : n ≤ 9223372036854775807) : bits .xor .u64 (IntKind.u64.wrap n) 9223372036854775808 = n + 9223372036854775808 := by
 have hw : IntKind.u64.wrap n = n % 18446744073709551616 := by simp [IntKind.wrap, IntKind.bits, IntKind.signed]
 obtain ⟨m, hm⟩ : ∃ m : Nat, n % 18446744073709551616 = (m : Int) := ⟨(n % 18446744073709551616).toNat, by omega⟩
 have hml : m < 18446744073709551616 := by omega
 rw [hw, hm]
 unfold bits
 show IntKind.u64.wrap (((BitVec.ofInt 64 (m : Int)) ^^^ (BitVec.ofInt 64 9223372036854775808)).toNat : Int) = _
 have ea : (BitVec.ofInt 64 (m : Int)).toNat = m := by
  rw [BitVec.ofInt_natCast, BitVec.toNat_ofNat]
  exact Nat.mod_eq_of_lt hml
 have eb : (BitVec.ofInt 64 9223372036854775808).toNat = 2 ^ 63 := by decide
 rw [BitVec.toNat_xor, ea, eb]
 have hwr : ∀ k : Nat, k < 18446744073709551616 → IntKind.u64.wrap (k : Int) = k := fun k hk => by
  have : IntKind.u64.wrap (k : Int) = (k : Int) % 18446744073709551616 := by simp [IntKind.wrap, IntKind.bits, IntKind.signed]
  rw [this]; omega
 have p63 : (2 : Nat) ^ 63 = 9223372036854775808 := by decide
 by_cases hc : m < 9223372036854775808
 ·rw [xor_low m (by rw [p63]; exact hc), p63, hwr _ (by omega)]
  omega
 ·obtain ⟨c, rfl⟩ : ∃ c, m = 2 ^ 63 + c := ⟨m - 2 ^ 63, by rw [p63]; omega⟩
  have hcl : c < 2 ^ 63 := by rw [p63] at hml ⊢; omega
  rw [← xor_low c hcl, Nat.xor_assoc, Nat.xor_self, Nat.xor_zero, hwr _ (by rw [p63] at hcl; omega)]
  rw [p63] at hm
  omega
set_option maxRecDepth 1000000 in
set_option maxHeartbeats 4000000 in
theorem rankof_truth (k h : Int) (ty : ByteArray) (b : Bool) : RkC (.iface 101 (.agg #[.int .i64 k, .string ty, .int .i64 h, .bool b])) ⟨k, (if b then 1 else 0), ⟨#[]⟩, ty⟩ := by
 have ho := fun W => oneif_any b W
 generalize (if b then (1 : Int) else 0) = z at ho ⊢
 intro w
 have h0 := ta_truth_truth
 have h1 := ta_truth_signed
 have h2 := ta_truth_unsigned
 have h3 := ta_truth_text
 have hm := fun W => markof_truth k h ty b W
 obtain ⟨W1, hW1⟩ : ∃ W1, W1 = w.alloc (.cells #[.int .i64 0, .int .u64 0, .string ⟨#[]⟩, .string ⟨#[]⟩] 214) := ⟨_, rfl⟩
 have hb1 : Below w.heap.size w W1 := by rw [hW1]; exact (Below.refl _ _).alloc (Nat.le_refl _) _
 have c0 : W1.cell? ⟨w.heap.size, 0, none⟩ = some (.int .i64 0) ∧ W1.cell? ⟨w.heap.size, 1, none⟩ = some (.int .u64 0) ∧ W1.cell? ⟨w.heap.size, 2, none⟩ = some (.string ⟨#[]⟩) ∧ W1.cell? ⟨w.heap.size, 3, none⟩ = some (.string ⟨#[]⟩) := by rw [hW1]; simp
 have fz : ∀ i, W1.frozen? ⟨w.heap.size, i, none⟩ = false := fun i => by rw [hW1, frozen?_alloc_cells]; exact frozen_none _ _ (Nat.le_refl _)
 have hz1 : w.heap.size < W1.heap.size := by rw [hW1]; simp
 go_enter Tryz.func143, Tryz.ntmps143
 go_wp2_with fail
 rw [← hW1]
 refine (hm _).mono ?_
 rintro e V ⟨rfl, hV⟩
 have d0 := up_cell hV c0.1
 have d1 := up_cell hV c0.2.1
 have d2 := up_cell hV c0.2.2.1
 have d3 := up_cell hV c0.2.2.2
 have ez : ∀ i, V.frozen? ⟨w.heap.size, i, none⟩ = false := fun i => (hV.frozen (p := ⟨w.heap.size, i, none⟩) hz1).trans (fz i)
 have e0 := ez 0
 have e1 := ez 1
 have e2 := ez 2
 have e3 := ez 3
 have hzV : w.heap.size < V.heap.size := Nat.lt_of_lt_of_le hz1 hV.size
 have hbV : Below w.heap.size w V := hb1.trans (hV.mono hb1.size)
 clear hm c0 fz ez hW1 hb1 hz1 hV
 obtain ⟨W3, hW3⟩ : ∃ W3, W3 = (V.alloc (.cells #[.int .i64 k, .string ty, .int .i64 h] 60)).alloc (.cells #[.int .i64 k, .string ty, .int .i64 h, .bool b] 101) := ⟨_, rfl⟩
 have hbW : Below V.heap.size V W3 := by rw [hW3]; exact ((Below.refl _ _).alloc (Nat.le_refl _) _).alloc (by simp) _
 have f0 : (fun w' => w'.cell? ⟨V.heap.size, 0, none⟩ = some (.int .i64 k) ∧ w'.cell? ⟨V.heap.size, 1, none⟩ = some (.string ty) ∧ w'.cell? ⟨V.heap.size + 1, 3, none⟩ = some (.bool b)) W3 := by
  rw [hW3]
  refine ⟨?_, ?_, ?_⟩
  all_goals simp [go_sem]
 have hd : Below V.heap.size V W3 := hbW
 have z0 := up_cell hd d0
 have z1 := up_cell hd d1
 have z2 := up_cell hd d2
 have z3 := up_cell hd d3
 have y0 := (hd.frozen (p := ⟨w.heap.size, 0, none⟩) hzV).trans e0
 have y1 := (hd.frozen (p := ⟨w.heap.size, 1, none⟩) hzV).trans e1
 have y2 := (hd.frozen (p := ⟨w.heap.size, 2, none⟩) hzV).trans e2
 have y3 := (hd.frozen (p := ⟨w.heap.size, 3, none⟩) hzV).trans e3
 go_wp2
 rw [← hW3]
 clear hW3 d0 d1 d2 d3 e0 e1 e2 e3 h0 h1 h2 h3
 refine wp_region_held_drew (S := fun w' => w'.cell? ⟨V.heap.size, 0, none⟩ = some (.int .i64 k) ∧ w'.cell? ⟨V.heap.size, 1, none⟩ = some (.string ty) ∧ w'.cell? ⟨V.heap.size + 1, 3, none⟩ = some (.bool b)) (by kernel_rfl) f0 ?_
 intro hS
 refine tk 0 (.pointer (some ⟨V.heap.size, 0, none⟩)) rfl (by kernel_rfl) (fun _ _ _ h => h) (by rfl) (by assumption) ?_ ?_
 ·intro w5 hSw
  obtain ⟨s0, s1, s2⟩ := hSw
  go_simp
 simp only [Act.put, List.setIfInBounds_toArray, List.set_cons_zero, List.set_cons_succ]
 refine tk 1 (.int .i64 k) rfl (by kernel_rfl) (fun _ _ _ h => h) (by rfl) (by assumption) ?_ ?_
 ·intro w5 hSw
  obtain ⟨s0, s1, s2⟩ := hSw
  go_simp
 simp only [Act.put, List.setIfInBounds_toArray, List.set_cons_zero, List.set_cons_succ]
 refine tk 2 (.pointer (some ⟨V.heap.size + 1, 3, none⟩)) rfl (by kernel_rfl) (fun _ _ _ h => h) (by rfl) (by assumption) ?_ ?_
 ·intro w5 hSw
  obtain ⟨s0, s1, s2⟩ := hSw
  go_simp
 simp only [Act.put, List.setIfInBounds_toArray, List.set_cons_zero, List.set_cons_succ]
 refine tk 3 (.bool b) rfl (by kernel_rfl) (fun _ _ _ h => h) (by rfl) (by assumption) ?_ ?_
 ·intro w5 hSw
  obtain ⟨s0, s1, s2⟩ := hSw
  go_simp
 simp only [Act.put, List.setIfInBounds_toArray, List.set_cons_zero, List.set_cons_succ]
 refine tk 5 (.pointer (some ⟨V.heap.size, 1, none⟩)) rfl (by kernel_rfl) (fun _ _ _ h => h) (by rfl) (by assumption) ?_ ?_
 ·intro w5 hSw
  obtain ⟨s0, s1, s2⟩ := hSw
  go_simp
 simp only [Act.put, List.setIfInBounds_toArray, List.set_cons_zero, List.set_cons_succ]
 refine tk 6 (.string ty) rfl (by kernel_rfl) (fun _ _ _ h => h) (by rfl) (by assumption) ?_ ?_
 ·intro w5 hSw
  obtain ⟨s0, s1, s2⟩ := hSw
  go_simp
 simp only [Act.put, List.setIfInBounds_toArray, List.set_cons_zero, List.set_cons_succ]
 refine rd1 4 (by kernel_rfl) rfl fun K hK => ?_
 go_simp
 refine (ho _).mono ?_
 rintro e Z ⟨rfl, hZ⟩
 rw [hZ]
 clear hZ Z ho
 refine hK.out _ _ f0 (fun _ => ?_)
 refine rd1 7 (by kernel_rfl) rfl fun K1 hK1 => ?_
 go_simp
 refine hK1.out _ _ f0 (fun _ => ?_)
 refine rd1 8 (by kernel_rfl) rfl fun K2 hK2 => ?_
 go_simp
 have hf2 : ∀ y0 y1 y2 y3 : Value, ((fun (w' : World) => w'.cell? ⟨V.heap.size, 0, none⟩ = some (.int .i64 k) ∧ w'.cell? ⟨V.heap.size, 1, none⟩ = some (.string ty) ∧ w'.cell? ⟨V.heap.size + 1, 3, none⟩ = some (.bool b)) ((((W3.setCell ⟨w.heap.size, 0, none⟩ y0).setCell ⟨w.heap.size, 1, none⟩ y1).setCell ⟨w.heap.size, 2, none⟩ y2).setCell ⟨w.heap.size, 3, none⟩ y3)) := by
  intro y0 y1 y2 y3
  have ne1 : ∀ o : Nat, ∀ b : Nat, w.heap.size ≠ b → ((((W3.setCell ⟨w.heap.size, 0, none⟩ y0).setCell ⟨w.heap.size, 1, none⟩ y1).setCell ⟨w.heap.size, 2, none⟩ y2).setCell ⟨w.heap.size, 3, none⟩ y3).cell? ⟨b, o, none⟩ = W3.cell? ⟨b, o, none⟩ := by
   intro o b hb
   refine World.cell?_of_block ?_
   show _ = _
   rw [Below.heap_setCell _ _ _ _ (Ne.symm hb), Below.heap_setCell _ _ _ _ (Ne.symm hb), Below.heap_setCell _ _ _ _ (Ne.symm hb), Below.heap_setCell _ _ _ _ (Ne.symm hb)]
  refine ⟨?_, ?_, ?_⟩
  ·rw [ne1 _ _ (by omega)]; exact f0.1
  ·rw [ne1 _ _ (by omega)]; exact f0.2.1
  ·rw [ne1 _ _ (by omega)]; exact f0.2.2
 refine hK2.out _ _ (hf2 _ _ _ _) (fun _ => ?_)
 refine wpAnyH_done (by kernel_rfl) ?_ _
 have d0 := z0
 have d1 := z1
 have d2 := z2
 have d3 := z3
 have hbV2 : Below w.heap.size w W3 := hbV.trans (hbW.mono hbV.size)
 clear hK hK1 hK2 z0 z1 z2 z3
 go_wp2
 all_goals obtain ⟨r0, r1, r2, r3⟩ := set4 d0 d1 d2 d3 (.int .i64 k) (.int .u64 z) (.string ⟨#[]⟩) (.string ty)
 all_goals refine bodyPost_ret (v := .agg #[.int .i64 k, .int .u64 z, .string ⟨#[]⟩, .string ty]) (by simp [results, Tryz.results143, go_sem, r0, r1, r2, r3, hzV]) rfl ?_
 all_goals refine ⟨rfl, ?_⟩
 all_goals have hb4 : Below w.heap.size w ((((W3.setCell ⟨w.heap.size, 0, none⟩ (.int .i64 k)).setCell ⟨w.heap.size, 1, none⟩ (.int .u64 z)).setCell ⟨w.heap.size, 2, none⟩ (.string ⟨#[]⟩)).setCell ⟨w.heap.size, 3, none⟩ (.string ty)) := (((hbV2.setCell (Nat.le_refl _) _).setCell (Nat.le_refl _) _).setCell (Nat.le_refl _) _).setCell (Nat.le_refl _) _
 all_goals first | exact (hb4.alloc hb4.size _).alloc (by have := hb4.size; simp; omega) _ | exact hb4.alloc hb4.size _ | exact hb4.drew
set_option maxRecDepth 1000000 in
set_option maxHeartbeats 4000000 in
theorem rankof_signed (k h : Int) (ty : ByteArray) (n : Int) (hk : -9223372036854775808 ≤ n ∧ n ≤ 9223372036854775807) : RkC (.iface 104 (.agg #[.int .i64 k, .string ty, .int .i64 h, .int .i64 n])) ⟨k, (n + 9223372036854775808), ⟨#[]⟩, ty⟩ := by
 intro w
 have h0 := ta_signed_truth
 have h1 := ta_signed_signed
 have h2 := ta_signed_unsigned
 have h3 := ta_signed_text
 have hm := fun W => markof_signed k h ty n W
 obtain ⟨W1, hW1⟩ : ∃ W1, W1 = w.alloc (.cells #[.int .i64 0, .int .u64 0, .string ⟨#[]⟩, .string ⟨#[]⟩] 214) := ⟨_, rfl⟩
 have hb1 : Below w.heap.size w W1 := by rw [hW1]; exact (Below.refl _ _).alloc (Nat.le_refl _) _
 have c0 : W1.cell? ⟨w.heap.size, 0, none⟩ = some (.int .i64 0) ∧ W1.cell? ⟨w.heap.size, 1, none⟩ = some (.int .u64 0) ∧ W1.cell? ⟨w.heap.size, 2, none⟩ = some (.string ⟨#[]⟩) ∧ W1.cell? ⟨w.heap.size, 3, none⟩ = some (.string ⟨#[]⟩) := by rw [hW1]; simp
 have fz : ∀ i, W1.frozen? ⟨w.heap.size, i, none⟩ = false := fun i => by rw [hW1, frozen?_alloc_cells]; exact frozen_none _ _ (Nat.le_refl _)
 have hz1 : w.heap.size < W1.heap.size := by rw [hW1]; simp
 go_enter Tryz.func143, Tryz.ntmps143
 go_wp2_with fail
 rw [← hW1]
 refine (hm _).mono ?_
 rintro e V ⟨rfl, hV⟩
 have d0 := up_cell hV c0.1
 have d1 := up_cell hV c0.2.1
 have d2 := up_cell hV c0.2.2.1
 have d3 := up_cell hV c0.2.2.2
 have ez : ∀ i, V.frozen? ⟨w.heap.size, i, none⟩ = false := fun i => (hV.frozen (p := ⟨w.heap.size, i, none⟩) hz1).trans (fz i)
 have e0 := ez 0
 have e1 := ez 1
 have e2 := ez 2
 have e3 := ez 3
 have hzV : w.heap.size < V.heap.size := Nat.lt_of_lt_of_le hz1 hV.size
 have hbV : Below w.heap.size w V := hb1.trans (hV.mono hb1.size)
 clear hm c0 fz ez hW1 hb1 hz1 hV
 go_wp2
 all_goals obtain ⟨r0, r1, r2, r3⟩ := set4 d0 d1 d2 d3 (.int .i64 k) (.int .u64 (bits .xor .u64 (IntKind.u64.wrap n) 9223372036854775808)) (.string ⟨#[]⟩) (.string ty)
 all_goals refine bodyPost_ret (v := .agg #[.int .i64 k, .int .u64 (bits .xor .u64 (IntKind.u64.wrap n) 9223372036854775808), .string ⟨#[]⟩, .string ty]) (by simp [results, Tryz.results143, go_sem, r0, r1, r2, r3, hzV]) rfl ?_
 all_goals refine ⟨by rw [xor_sign n hk.1 hk.2], ?_⟩
 all_goals have hb4 : Below w.heap.size w ((((V.setCell ⟨w.heap.size, 0, none⟩ (.int .i64 k)).setCell ⟨w.heap.size, 1, none⟩ (.int .u64 (bits .xor .u64 (IntKind.u64.wrap n) 9223372036854775808))).setCell ⟨w.heap.size, 2, none⟩ (.string ⟨#[]⟩)).setCell ⟨w.heap.size, 3, none⟩ (.string ty)) := (((hbV.setCell (Nat.le_refl _) _).setCell (Nat.le_refl _) _).setCell (Nat.le_refl _) _).setCell (Nat.le_refl _) _
 all_goals first | exact (hb4.alloc hb4.size _).alloc (by have := hb4.size; simp; omega) _ | exact hb4.alloc hb4.size _ | exact hb4.drew
set_option maxRecDepth 1000000 in
set_option maxHeartbeats 4000000 in
theorem rankof_unsigned (k h : Int) (ty : ByteArray) (n : Int) : RkC (.iface 107 (.agg #[.int .i64 k, .string ty, .int .i64 h, .int .u64 n])) ⟨k, n, ⟨#[]⟩, ty⟩ := by
 intro w
 have h0 := ta_unsigned_truth
 have h1 := ta_unsigned_signed
 have h2 := ta_unsigned_unsigned
 have h3 := ta_unsigned_text
 have hm := fun W => markof_unsigned k h ty n W
 obtain ⟨W1, hW1⟩ : ∃ W1, W1 = w.alloc (.cells #[.int .i64 0, .int .u64 0, .string ⟨#[]⟩, .string ⟨#[]⟩] 214) := ⟨_, rfl⟩
 have hb1 : Below w.heap.size w W1 := by rw [hW1]; exact (Below.refl _ _).alloc (Nat.le_refl _) _
 have c0 : W1.cell? ⟨w.heap.size, 0, none⟩ = some (.int .i64 0) ∧ W1.cell? ⟨w.heap.size, 1, none⟩ = some (.int .u64 0) ∧ W1.cell? ⟨w.heap.size, 2, none⟩ = some (.string ⟨#[]⟩) ∧ W1.cell? ⟨w.heap.size, 3, none⟩ = some (.string ⟨#[]⟩) := by rw [hW1]; simp
 have fz : ∀ i, W1.frozen? ⟨w.heap.size, i, none⟩ = false := fun i => by rw [hW1, frozen?_alloc_cells]; exact frozen_none _ _ (Nat.le_refl _)
 have hz1 : w.heap.size < W1.heap.size := by rw [hW1]; simp
 go_enter Tryz.func143, Tryz.ntmps143
 go_wp2_with fail
 rw [← hW1]
 refine (hm _).mono ?_
 rintro e V ⟨rfl, hV⟩
 have d0 := up_cell hV c0.1
 have d1 := up_cell hV c0.2.1
 have d2 := up_cell hV c0.2.2.1
 have d3 := up_cell hV c0.2.2.2
 have ez : ∀ i, V.frozen? ⟨w.heap.size, i, none⟩ = false := fun i => (hV.frozen (p := ⟨w.heap.size, i, none⟩) hz1).trans (fz i)
 have e0 := ez 0
 have e1 := ez 1
 have e2 := ez 2
 have e3 := ez 3
 have hzV : w.heap.size < V.heap.size := Nat.lt_of_lt_of_le hz1 hV.size
 have hbV : Below w.heap.size w V := hb1.trans (hV.mono hb1.size)
 clear hm c0 fz ez hW1 hb1 hz1 hV
 go_wp2
 all_goals obtain ⟨r0, r1, r2, r3⟩ := set4 d0 d1 d2 d3 (.int .i64 k) (.int .u64 n) (.string ⟨#[]⟩) (.string ty)
 all_goals refine bodyPost_ret (v := .agg #[.int .i64 k, .int .u64 n, .string ⟨#[]⟩, .string ty]) (by simp [results, Tryz.results143, go_sem, r0, r1, r2, r3, hzV]) rfl ?_
 all_goals refine ⟨rfl, ?_⟩
 all_goals have hb4 : Below w.heap.size w ((((V.setCell ⟨w.heap.size, 0, none⟩ (.int .i64 k)).setCell ⟨w.heap.size, 1, none⟩ (.int .u64 n)).setCell ⟨w.heap.size, 2, none⟩ (.string ⟨#[]⟩)).setCell ⟨w.heap.size, 3, none⟩ (.string ty)) := (((hbV.setCell (Nat.le_refl _) _).setCell (Nat.le_refl _) _).setCell (Nat.le_refl _) _).setCell (Nat.le_refl _) _
 all_goals first | exact (hb4.alloc hb4.size _).alloc (by have := hb4.size; simp; omega) _ | exact hb4.alloc hb4.size _ | exact hb4.drew
set_option maxRecDepth 1000000 in
set_option maxHeartbeats 4000000 in
theorem rankof_text (k h : Int) (ty : ByteArray) (s : ByteArray) : RkC (.iface 114 (.agg #[.int .i64 k, .string ty, .int .i64 h, .string s])) ⟨k, 0, s, ty⟩ := by
 intro w
 have h0 := ta_text_truth
 have h1 := ta_text_signed
 have h2 := ta_text_unsigned
 have h3 := ta_text_text
 have hm := fun W => markof_text k h ty s W
 obtain ⟨W1, hW1⟩ : ∃ W1, W1 = w.alloc (.cells #[.int .i64 0, .int .u64 0, .string ⟨#[]⟩, .string ⟨#[]⟩] 214) := ⟨_, rfl⟩
 have hb1 : Below w.heap.size w W1 := by rw [hW1]; exact (Below.refl _ _).alloc (Nat.le_refl _) _
 have c0 : W1.cell? ⟨w.heap.size, 0, none⟩ = some (.int .i64 0) ∧ W1.cell? ⟨w.heap.size, 1, none⟩ = some (.int .u64 0) ∧ W1.cell? ⟨w.heap.size, 2, none⟩ = some (.string ⟨#[]⟩) ∧ W1.cell? ⟨w.heap.size, 3, none⟩ = some (.string ⟨#[]⟩) := by rw [hW1]; simp
 have fz : ∀ i, W1.frozen? ⟨w.heap.size, i, none⟩ = false := fun i => by rw [hW1, frozen?_alloc_cells]; exact frozen_none _ _ (Nat.le_refl _)
 have hz1 : w.heap.size < W1.heap.size := by rw [hW1]; simp
 go_enter Tryz.func143, Tryz.ntmps143
 go_wp2_with fail
 rw [← hW1]
 refine (hm _).mono ?_
 rintro e V ⟨rfl, hV⟩
 have d0 := up_cell hV c0.1
 have d1 := up_cell hV c0.2.1
 have d2 := up_cell hV c0.2.2.1
 have d3 := up_cell hV c0.2.2.2
 have ez : ∀ i, V.frozen? ⟨w.heap.size, i, none⟩ = false := fun i => (hV.frozen (p := ⟨w.heap.size, i, none⟩) hz1).trans (fz i)
 have e0 := ez 0
 have e1 := ez 1
 have e2 := ez 2
 have e3 := ez 3
 have hzV : w.heap.size < V.heap.size := Nat.lt_of_lt_of_le hz1 hV.size
 have hbV : Below w.heap.size w V := hb1.trans (hV.mono hb1.size)
 clear hm c0 fz ez hW1 hb1 hz1 hV
 go_wp2
 all_goals obtain ⟨r0, r1, r2, r3⟩ := set4 d0 d1 d2 d3 (.int .i64 k) (.int .u64 0) (.string s) (.string ty)
 all_goals refine bodyPost_ret (v := .agg #[.int .i64 k, .int .u64 0, .string s, .string ty]) (by simp [results, Tryz.results143, go_sem, r0, r1, r2, r3, hzV]) rfl ?_
 all_goals refine ⟨rfl, ?_⟩
 all_goals have hb4 : Below w.heap.size w ((((V.setCell ⟨w.heap.size, 0, none⟩ (.int .i64 k)).setCell ⟨w.heap.size, 1, none⟩ (.int .u64 0)).setCell ⟨w.heap.size, 2, none⟩ (.string s)).setCell ⟨w.heap.size, 3, none⟩ (.string ty)) := (((hbV.setCell (Nat.le_refl _) _).setCell (Nat.le_refl _) _).setCell (Nat.le_refl _) _).setCell (Nat.le_refl _) _
 all_goals first | exact (hb4.alloc hb4.size _).alloc (by have := hb4.size; simp; omega) _ | exact hb4.alloc hb4.size _ | exact hb4.drew
set_option maxRecDepth 1000000 in
set_option maxHeartbeats 4000000 in
theorem rankof_nothing (k h : Int) (ty : ByteArray)  : RkC (.iface 121 (.agg #[.int .i64 k, .string ty, .int .i64 h])) ⟨k, 0, ⟨#[]⟩, ⟨#[]⟩⟩ := by
 intro w
 have h0 := ta_nothing_truth
 have h1 := ta_nothing_signed
 have h2 := ta_nothing_unsigned
 have h3 := ta_nothing_text
 have hm := fun W => markof_nothing k h ty  W
 obtain ⟨W1, hW1⟩ : ∃ W1, W1 = w.alloc (.cells #[.int .i64 0, .int .u64 0, .string ⟨#[]⟩, .string ⟨#[]⟩] 214) := ⟨_, rfl⟩
 have hb1 : Below w.heap.size w W1 := by rw [hW1]; exact (Below.refl _ _).alloc (Nat.le_refl _) _
 have c0 : W1.cell? ⟨w.heap.size, 0, none⟩ = some (.int .i64 0) ∧ W1.cell? ⟨w.heap.size, 1, none⟩ = some (.int .u64 0) ∧ W1.cell? ⟨w.heap.size, 2, none⟩ = some (.string ⟨#[]⟩) ∧ W1.cell? ⟨w.heap.size, 3, none⟩ = some (.string ⟨#[]⟩) := by rw [hW1]; simp
 have fz : ∀ i, W1.frozen? ⟨w.heap.size, i, none⟩ = false := fun i => by rw [hW1, frozen?_alloc_cells]; exact frozen_none _ _ (Nat.le_refl _)
 have hz1 : w.heap.size < W1.heap.size := by rw [hW1]; simp
 go_enter Tryz.func143, Tryz.ntmps143
 go_wp2_with fail
 rw [← hW1]
 refine (hm _).mono ?_
 rintro e V ⟨rfl, hV⟩
 have d0 := up_cell hV c0.1
 have d1 := up_cell hV c0.2.1
 have d2 := up_cell hV c0.2.2.1
 have d3 := up_cell hV c0.2.2.2
 have ez : ∀ i, V.frozen? ⟨w.heap.size, i, none⟩ = false := fun i => (hV.frozen (p := ⟨w.heap.size, i, none⟩) hz1).trans (fz i)
 have e0 := ez 0
 have e1 := ez 1
 have e2 := ez 2
 have e3 := ez 3
 have hzV : w.heap.size < V.heap.size := Nat.lt_of_lt_of_le hz1 hV.size
 have hbV : Below w.heap.size w V := hb1.trans (hV.mono hb1.size)
 clear hm c0 fz ez hW1 hb1 hz1 hV
 go_wp2
 all_goals obtain ⟨r0, r1, r2, r3⟩ := set4 d0 d1 d2 d3 (.int .i64 k) (.int .u64 0) (.string ⟨#[]⟩) (.string ⟨#[]⟩)
 all_goals refine bodyPost_ret (v := .agg #[.int .i64 k, .int .u64 0, .string ⟨#[]⟩, .string ⟨#[]⟩]) (by simp [results, Tryz.results143, go_sem, r0, r1, r2, r3, hzV]) rfl ?_
 all_goals refine ⟨rfl, ?_⟩
 all_goals have hb4 : Below w.heap.size w ((((V.setCell ⟨w.heap.size, 0, none⟩ (.int .i64 k)).setCell ⟨w.heap.size, 1, none⟩ (.int .u64 0)).setCell ⟨w.heap.size, 2, none⟩ (.string ⟨#[]⟩)).setCell ⟨w.heap.size, 3, none⟩ (.string ⟨#[]⟩)) := (((hbV.setCell (Nat.le_refl _) _).setCell (Nat.le_refl _) _).setCell (Nat.le_refl _) _).setCell (Nat.le_refl _) _
 all_goals first | exact (hb4.alloc hb4.size _).alloc (by have := hb4.size; simp; omega) _ | exact hb4.alloc hb4.size _ | exact hb4.drew
set_option maxRecDepth 1000000 in
set_option maxHeartbeats 4000000 in
theorem rankof_float (k h : Int) (ty : ByteArray) (n : Int) : RkC (.iface 110 (.agg #[.int .i64 k, .string ty, .int .i64 h, .int .u64 n])) ⟨k, 0, ⟨#[]⟩, ⟨#[]⟩⟩ := by
 intro w
 have h0 := ta_float_truth
 have h1 := ta_float_signed
 have h2 := ta_float_unsigned
 have h3 := ta_float_text
 have hm := fun W => markof_float k h ty n W
 obtain ⟨W1, hW1⟩ : ∃ W1, W1 = w.alloc (.cells #[.int .i64 0, .int .u64 0, .string ⟨#[]⟩, .string ⟨#[]⟩] 214) := ⟨_, rfl⟩
 have hb1 : Below w.heap.size w W1 := by rw [hW1]; exact (Below.refl _ _).alloc (Nat.le_refl _) _
 have c0 : W1.cell? ⟨w.heap.size, 0, none⟩ = some (.int .i64 0) ∧ W1.cell? ⟨w.heap.size, 1, none⟩ = some (.int .u64 0) ∧ W1.cell? ⟨w.heap.size, 2, none⟩ = some (.string ⟨#[]⟩) ∧ W1.cell? ⟨w.heap.size, 3, none⟩ = some (.string ⟨#[]⟩) := by rw [hW1]; simp
 have fz : ∀ i, W1.frozen? ⟨w.heap.size, i, none⟩ = false := fun i => by rw [hW1, frozen?_alloc_cells]; exact frozen_none _ _ (Nat.le_refl _)
 have hz1 : w.heap.size < W1.heap.size := by rw [hW1]; simp
 go_enter Tryz.func143, Tryz.ntmps143
 go_wp2_with fail
 rw [← hW1]
 refine (hm _).mono ?_
 rintro e V ⟨rfl, hV⟩
 have d0 := up_cell hV c0.1
 have d1 := up_cell hV c0.2.1
 have d2 := up_cell hV c0.2.2.1
 have d3 := up_cell hV c0.2.2.2
 have ez : ∀ i, V.frozen? ⟨w.heap.size, i, none⟩ = false := fun i => (hV.frozen (p := ⟨w.heap.size, i, none⟩) hz1).trans (fz i)
 have e0 := ez 0
 have e1 := ez 1
 have e2 := ez 2
 have e3 := ez 3
 have hzV : w.heap.size < V.heap.size := Nat.lt_of_lt_of_le hz1 hV.size
 have hbV : Below w.heap.size w V := hb1.trans (hV.mono hb1.size)
 clear hm c0 fz ez hW1 hb1 hz1 hV
 go_wp2
 all_goals obtain ⟨r0, r1, r2, r3⟩ := set4 d0 d1 d2 d3 (.int .i64 k) (.int .u64 0) (.string ⟨#[]⟩) (.string ⟨#[]⟩)
 all_goals refine bodyPost_ret (v := .agg #[.int .i64 k, .int .u64 0, .string ⟨#[]⟩, .string ⟨#[]⟩]) (by simp [results, Tryz.results143, go_sem, r0, r1, r2, r3, hzV]) rfl ?_
 all_goals refine ⟨rfl, ?_⟩
 all_goals have hb4 : Below w.heap.size w ((((V.setCell ⟨w.heap.size, 0, none⟩ (.int .i64 k)).setCell ⟨w.heap.size, 1, none⟩ (.int .u64 0)).setCell ⟨w.heap.size, 2, none⟩ (.string ⟨#[]⟩)).setCell ⟨w.heap.size, 3, none⟩ (.string ⟨#[]⟩)) := (((hbV.setCell (Nat.le_refl _) _).setCell (Nat.le_refl _) _).setCell (Nat.le_refl _) _).setCell (Nat.le_refl _) _
 all_goals first | exact (hb4.alloc hb4.size _).alloc (by have := hb4.size; simp; omega) _ | exact hb4.alloc hb4.size _ | exact hb4.drew
end Go.Proofs.YtlgieoabellbmaaGreatDoor
