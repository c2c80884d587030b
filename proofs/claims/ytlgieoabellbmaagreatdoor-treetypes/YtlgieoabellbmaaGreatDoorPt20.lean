/- GtZ, GtW: these texts in one. -/
import Derived.Test.YtlgieoabellbmaaGreatDoorPt19
namespace Go.Proofs.YtlgieoabellbmaaGreatDoor
open Go.RowKit
set_option linter.unusedVariables false
set_option linter.unusedSimpArgs false
set_option maxRecDepth 1000000 in
theorem mark_nil (w : World) : Calls Tryz.prog 26 #[.nilIface] w fun e w' => e = .returned (.agg #[.int .i64 0, .string ⟨#[]⟩, .int .i64 0]) ∧ Below w.heap.size w w' := by
 have ht : ∀ w, (Instr.typeAssert .nilIface 28 80 true).run Tryz.prog w = .ok (.tuple #[.nilIface, .bool false]) w := fun w => by kernel_rfl
 go_enter Tryz.func26, Tryz.ntmps26
 go_wp2
 go_returns
 exact ⟨rfl, by go_grown⟩
set_option maxRecDepth 1000000 in
theorem parts_nil (w : World) : Calls Tryz.prog 28 #[.nilIface] w fun e w' => e = .returned (.slice none 0 0) ∧ Below w.heap.size w w' := by
 have t_structure : ∀ w, (Instr.typeAssert .nilIface 28 86 true).run Tryz.prog w = .ok (.tuple #[.agg #[.int .i64 0, .string ⟨#[]⟩, .int .i64 0, .slice none 0 0, .slice none 0 0], .bool false]) w := fun w => by kernel_rfl
 have t_list : ∀ w, (Instr.typeAssert .nilIface 28 88 true).run Tryz.prog w = .ok (.tuple #[.agg #[.int .i64 0, .string ⟨#[]⟩, .int .i64 0, .slice none 0 0], .bool false]) w := fun w => by kernel_rfl
 have t_dictionary : ∀ w, (Instr.typeAssert .nilIface 28 91 true).run Tryz.prog w = .ok (.tuple #[.agg #[.int .i64 0, .string ⟨#[]⟩, .int .i64 0, .slice none 0 0], .bool false]) w := fun w => by kernel_rfl
 have t_pointer : ∀ w, (Instr.typeAssert .nilIface 28 95 true).run Tryz.prog w = .ok (.tuple #[.agg #[.int .i64 0, .string ⟨#[]⟩, .int .i64 0, .int .u64 0, .slice none 0 0], .bool false]) w := fun w => by kernel_rfl
 go_enter Tryz.func28, Tryz.ntmps28
 go_wp2
 go_ret
 exact ⟨rfl, Below.refl _ _⟩
set_option maxRecDepth 1000000 in
set_option maxHeartbeats 2000000 in
theorem rawOf_nil (w : World) : Calls Tryz.prog 115 #[.nilIface] w fun e w' => e = .returned (.agg #[.int .i64 0, .string ⟨#[]⟩, .int .u64 0, .int .u64 0, .string ⟨#[]⟩, .slice none 0 0, .slice none 0 0, .int .i64 0]) ∧ Below w.heap.size w w' := by
 have t_truth : ∀ w, (Instr.typeAssert .nilIface 28 101 true).run Tryz.prog w = .ok (.tuple #[.agg #[.int .i64 0, .string ⟨#[]⟩, .int .i64 0, .bool false], .bool false]) w := fun w => by kernel_rfl
 have t_signed : ∀ w, (Instr.typeAssert .nilIface 28 104 true).run Tryz.prog w = .ok (.tuple #[.agg #[.int .i64 0, .string ⟨#[]⟩, .int .i64 0, .int .i64 0], .bool false]) w := fun w => by kernel_rfl
 have t_unsigned : ∀ w, (Instr.typeAssert .nilIface 28 107 true).run Tryz.prog w = .ok (.tuple #[.agg #[.int .i64 0, .string ⟨#[]⟩, .int .i64 0, .int .u64 0], .bool false]) w := fun w => by kernel_rfl
 have t_float : ∀ w, (Instr.typeAssert .nilIface 28 110 true).run Tryz.prog w = .ok (.tuple #[.agg #[.int .i64 0, .string ⟨#[]⟩, .int .i64 0, .int .u64 0], .bool false]) w := fun w => by kernel_rfl
 have t_pair : ∀ w, (Instr.typeAssert .nilIface 28 112 true).run Tryz.prog w = .ok (.tuple #[.agg #[.int .i64 0, .string ⟨#[]⟩, .int .i64 0, .int .u64 0, .int .u64 0], .bool false]) w := fun w => by kernel_rfl
 have t_text : ∀ w, (Instr.typeAssert .nilIface 28 114 true).run Tryz.prog w = .ok (.tuple #[.agg #[.int .i64 0, .string ⟨#[]⟩, .int .i64 0, .string ⟨#[]⟩], .bool false]) w := fun w => by kernel_rfl
 have t_octets : ∀ w, (Instr.typeAssert .nilIface 28 115 true).run Tryz.prog w = .ok (.tuple #[.agg #[.int .i64 0, .string ⟨#[]⟩, .int .i64 0, .string ⟨#[]⟩], .bool false]) w := fun w => by kernel_rfl
 have t_structure : ∀ w, (Instr.typeAssert .nilIface 28 86 true).run Tryz.prog w = .ok (.tuple #[.agg #[.int .i64 0, .string ⟨#[]⟩, .int .i64 0, .slice none 0 0, .slice none 0 0], .bool false]) w := fun w => by kernel_rfl
 have t_list : ∀ w, (Instr.typeAssert .nilIface 28 88 true).run Tryz.prog w = .ok (.tuple #[.agg #[.int .i64 0, .string ⟨#[]⟩, .int .i64 0, .slice none 0 0], .bool false]) w := fun w => by kernel_rfl
 have t_dictionary : ∀ w, (Instr.typeAssert .nilIface 28 91 true).run Tryz.prog w = .ok (.tuple #[.agg #[.int .i64 0, .string ⟨#[]⟩, .int .i64 0, .slice none 0 0], .bool false]) w := fun w => by kernel_rfl
 have t_pointer : ∀ w, (Instr.typeAssert .nilIface 28 95 true).run Tryz.prog w = .ok (.tuple #[.agg #[.int .i64 0, .string ⟨#[]⟩, .int .i64 0, .int .u64 0, .slice none 0 0], .bool false]) w := fun w => by kernel_rfl
 have hm := fun W => mark_nil W
 have hp := fun W => parts_nil W
 obtain ⟨W1, hW1⟩ : ∃ W1, W1 = w.alloc (.cells #[.int .i64 0, .string ⟨#[]⟩, .int .u64 0, .int .u64 0, .string ⟨#[]⟩, .slice none 0 0, .slice none 0 0, .int .i64 0] 26) := ⟨_, rfl⟩
 have b1 : Below w.heap.size w W1 := by rw [hW1]; exact (Below.refl _ _).alloc (Nat.le_refl _) _
 have zz1 : Zero8 W1 w.heap.size := by
  rw [hW1]
  refine ⟨by simp, fun i => ?_⟩
  rw [frozen?_alloc_cells]; exact frozen_none _ _ (Nat.le_refl _)
 go_enter Tryz.func115, Tryz.ntmps115
 go_upto_region 1 with fail
 rw [← hW1]
 clear hW1
 go_upto_region 2 with (go_at_call 26; refine (hm _).mono ?_; rintro e W2 ⟨rfl, b2⟩)
 obtain ⟨W4, hW4⟩ : ∃ W4, W4 = (W2.alloc (.cells #[.int .i64 0, .string ⟨#[]⟩, .int .i64 0] 60)).alloc (.cells #[.int .i64 0, .string ⟨#[]⟩, .int .u64 0, .int .u64 0, .string ⟨#[]⟩, .slice none 0 0, .slice none 0 0, .int .i64 0] 26) := ⟨_, rfl⟩
 have b4 : Below W2.heap.size W2 W4 := by rw [hW4]; exact ((Below.refl _ _).alloc (Nat.le_refl _) _).alloc (by simp) _
 have a4 : At8 W4 (W2.heap.size + 1) 0 ⟨0, ⟨#[]⟩, 0, 0, ⟨#[]⟩, [], [], 0⟩ (.slice none 0 0) (.slice none 0 0) := by
  rw [hW4]
  refine ⟨?_, ?_, ?_, ?_, ?_, ?_, ?_, ?_⟩
  all_goals simp [go_sem]
 go_upto_region 3 with fail
 rw [← hW4]
 clear hW4
 obtain ⟨X, hX⟩ : ∃ X, W2.heap.size = X := ⟨_, rfl⟩
 rw [hX] at a4
 simp only [hX]
 clear hX hm
 have b14 : Below W1.heap.size W1 W4 := b2.trans (b4.mono b2.size)
 have z4 := zz1.up b14
 go_upto_region 32 with (go_at_call 28; refine (hp _).mono ?_; rintro e W5 ⟨rfl, b5⟩)
 have a5 := a4.up b5
 obtain ⟨⟨z0, z1, z2, z3, z4', z5, z6, z7⟩, zf⟩ := z4.up b5
 obtain ⟨c0, c1, c2, c3, c4, c5, c6, c7⟩ := a5
 simp only [Nat.zero_add] at c0 c1 c2 c3 c4 c5 c6 c7
 have y0 := zf 0
 have y1 := zf 1
 have y2 := zf 2
 have y3 := zf 3
 have y4 := zf 4
 have y5 := zf 5
 have y6 := zf 6
 have y7 := zf 7
 have bW5 : Below w.heap.size w W5 := (b1.trans (b14.mono b1.size)).trans (b5.mono (by have := b1.size; have := b14.size; omega))
 refine wp_loop_rounds 1 ?_
 rw [rounds_succ]
 go_wp2
 obtain ⟨r0, r1, r2, r3, r4, r5, r6, r7⟩ := set8 z0 z1 z2 z3 z4' z5 z6 z7 (.int .i64 0) (.string ⟨#[]⟩) (.int .u64 0) (.int .u64 0) (.string ⟨#[]⟩) (.slice none 0 0) (.slice none 0 0) (.int .i64 0)
 refine bodyPost_ret (v := .agg #[.int .i64 0, .string ⟨#[]⟩, .int .u64 0, .int .u64 0, .string ⟨#[]⟩, .slice none 0 0, .slice none 0 0, .int .i64 0]) (by simp [results, Tryz.results115, go_sem, r0, r1, r2, r3, r4, r5, r6, r7]) rfl ?_
 exact ⟨rfl, set8_below bW5 (Nat.le_refl _)⟩
set_option maxRecDepth 1000000 in
theorem vraw_nil (w : World) : Calls Tryz.prog 80 #[.nilIface] w fun e w' => e = .returned (.agg #[.int .i64 0, .string ⟨#[]⟩, .int .u64 0, .int .u64 0, .string ⟨#[]⟩, .slice none 0 0, .slice none 0 0, .int .i64 0]) ∧ Below w.heap.size w w' := by
 obtain ⟨W1, hW1⟩ : ∃ W1, W1 = w.alloc (.cells #[.int .i64 0, .string ⟨#[]⟩, .int .u64 0, .int .u64 0, .string ⟨#[]⟩, .slice none 0 0, .slice none 0 0, .int .i64 0] 26) := ⟨_, rfl⟩
 have hb1 : Below w.heap.size w W1 := by rw [hW1]; exact (Below.refl _ _).alloc (Nat.le_refl _) _
 have zz1 : Zero8 W1 w.heap.size := by
  rw [hW1]
  refine ⟨by simp, fun i => ?_⟩
  rw [frozen?_alloc_cells]; exact frozen_none _ _ (Nat.le_refl _)
 have hm := rawOf_nil W1
 go_enter Tryz.func80, Tryz.ntmps80
 go_wp2_with fail
 rw [← hW1]
 refine hm.mono ?_
 rintro e V ⟨rfl, hV⟩
 obtain ⟨⟨z0, z1, z2, z3, z4, z5, z6, z7⟩, zf⟩ := zz1.up hV
 have y0 := zf 0
 have y1 := zf 1
 have y2 := zf 2
 have y3 := zf 3
 have y4 := zf 4
 have y5 := zf 5
 have y6 := zf 6
 have y7 := zf 7
 have hbV : Below w.heap.size w V := hb1.trans (hV.mono hb1.size)
 clear hm hW1 hb1
 go_wp2
 obtain ⟨r0, r1, r2, r3, r4, r5, r6, r7⟩ := set8 z0 z1 z2 z3 z4 z5 z6 z7 (.int .i64 0) (.string ⟨#[]⟩) (.int .u64 0) (.int .u64 0) (.string ⟨#[]⟩) (.slice none 0 0) (.slice none 0 0) (.int .i64 0)
 refine bodyPost_ret (v := .agg #[.int .i64 0, .string ⟨#[]⟩, .int .u64 0, .int .u64 0, .string ⟨#[]⟩, .slice none 0 0, .slice none 0 0, .int .i64 0]) (by simp [results, Tryz.results80, go_sem, r0, r1, r2, r3, r4, r5, r6, r7]) rfl ?_
 exact ⟨rfl, set8_below hbV (Nat.le_refl _)⟩
set_option maxRecDepth 1000000 in
theorem shapeOf_nil (w : World) : Calls Tryz.prog 42 #[.nilIface] w fun e w' => e = .returned .nilIface ∧ Below w.heap.size w w' := by
 have hR := vraw_nil w
 go_enter Tryz.func42, Tryz.ntmps42
 go_wp2_with (go_at_call 80; refine hR.mono ?_; rintro e W2 ⟨rfl, b2⟩)
 go_ret
 exact ⟨rfl, b2.alloc b2.size _⟩
set_option maxRecDepth 1000000 in
theorem bad_nil (w : World) : Calls Tryz.prog 27 #[.nilIface, .int .i32 100] w fun e w' => e = .returned (.string ⟨#[37, 33, 100, 40, 60, 110, 105, 108, 62, 41]⟩) ∧ Below w.heap.size w w' := by
 have hne : ∀ w, (binOp .eql 20 .nilIface .nilIface).run Tryz.prog w = .ok (.bool true) w := fun w => by kernel_rfl
 have hS := shapeOf_nil w
 have hN := fun W => bnil_any 100 W
 have e : bT (vB 100) ([60, 110, 105, 108, 62]) = ⟨#[37, 33, 100, 40, 60, 110, 105, 108, 62, 41]⟩ := by decide +kernel
 simp only [e] at hN
 clear e
 go_enter Tryz.func27, Tryz.ntmps27
 go_wp2_with (first
  | (go_at_call 42; refine hS.mono ?_; rintro e W2 ⟨rfl, b2⟩)
  | (go_at_call 46; refine (hN _).mono ?_; rintro e W3 ⟨rfl, b3⟩))
 go_ret
 exact ⟨rfl, b2.trans (b3.mono b2.size)⟩
end Go.Proofs.YtlgieoabellbmaaGreatDoor
namespace Go.Proofs.YtlgieoabellbmaaGreatDoor
open Go.RowKit
set_option linter.unusedVariables false
set_option linter.unusedSimpArgs false
theorem fit_of {d : D} (h1 : -9223372036854775808 ≤ d.kind) (h2 : d.kind ≤ 9223372036854775807) (h3 : 0 ≤ d.bits) (h4 : d.bits ≤ 18446744073709551615) (h5 : d.imag = 0) (h6 : d.hook = 0) (h7 : d.ty.size ≤ 100) (h8 : d.text.size ≤ 100) : Fit d :=
 ⟨⟨h1, h2⟩, ⟨h3, h4⟩, ⟨by omega, by omega⟩, ⟨by omega, by omega⟩, by unfold maxLen; omega, by unfold maxLen; omega⟩
theorem fit_I : Fit dI := fit_of (by decide) (by decide) (by decide) (by decide) rfl rfl (by decide) (by decide)
theorem fit_X : Fit dX := fit_of (by decide) (by decide) (by decide) (by decide) rfl rfl (by decide) (by decide)
theorem fit_S : Fit dS := fit_of (by decide) (by decide) (by decide) (by decide) rfl rfl (by decide) (by decide)
theorem fit_P : Fit dP := fit_of (by decide) (by decide) (by decide) (by decide) rfl rfl (by decide) (by decide)
theorem rd_leaf (W : World) (d : D) (hf : Fit d) (hn : d.names = []) (hp : d.parts = []) : RdC 1 W (.slice none 0 0) (.slice none 0 0) d := by
 refine ⟨hf, ⟨none, 0, by rw [hn]; rfl, by rw [hn]; exact Nat.le_refl _, Nat.zero_le _, fun i s h => by rw [hn] at h; simp at h⟩, none, 0, by rw [hp]; rfl, by rw [hp]; exact Nat.le_refl _, Nat.zero_le _, fun i x h => by rw [hp] at h; simp at h⟩
theorem rd_S (W : World) (bn bp : Nat) (h0 : W.cell? ⟨bn, 0, none⟩ = some (.string ⟨#[65]⟩)) (h1 : W.cell? ⟨bn, 1, none⟩ = some (.string ⟨#[66]⟩)) (hI : At8 W bp 0 dI (.slice none 0 0) (.slice none 0 0)) (hX : At8 W bp 8 dX (.slice none 0 0) (.slice none 0 0)) :
  RdC 2 W (.slice (some ⟨bn, 0, none⟩) 2 2) (.slice (some ⟨bp, 0, none⟩) 2 2) dS := by
 refine ⟨fit_S, ⟨_, 2, rfl, Nat.le_refl _, by decide, fun i s h => ?_⟩, _, 2, rfl, Nat.le_refl _, by decide, fun i x h => ?_⟩
 ·match i, h with
  | 0, h => obtain rfl : (⟨#[65]⟩ : ByteArray) = s := Option.some.inj h; exact ⟨by decide, bn, 0, rfl, h0⟩
  | 1, h => obtain rfl : (⟨#[66]⟩ : ByteArray) = s := Option.some.inj h; exact ⟨by decide, bn, 0, rfl, h1⟩
  | i + 2, h => cases h
 ·match i, h with
  | 0, h => obtain rfl : dI = x := Option.some.inj h; exact ⟨bp, 0, _, _, rfl, hI, rd_leaf W dI fit_I rfl rfl⟩
  | 1, h => obtain rfl : dX = x := Option.some.inj h; exact ⟨bp, 0, _, _, rfl, hX, rd_leaf W dX fit_X rfl rfl⟩
  | i + 2, h => cases h
theorem rd_P (W : World) (bn bp bq : Nat) (hS : RdC 2 W (.slice (some ⟨bn, 0, none⟩) 2 2) (.slice (some ⟨bp, 0, none⟩) 2 2) dS) (hq : At8 W bq 0 dS (.slice (some ⟨bn, 0, none⟩) 2 2) (.slice (some ⟨bp, 0, none⟩) 2 2)) :
  RdC 3 W (.slice none 0 0) (.slice (some ⟨bq, 0, none⟩) 1 1) dP := by
 refine ⟨fit_P, ⟨none, 0, rfl, Nat.le_refl _, Nat.zero_le _, fun i s h => by cases h⟩, _, 1, rfl, Nat.le_refl _, by decide, fun i x h => ?_⟩
 match i, h with
 | 0, h => obtain rfl : dS = x := Option.some.inj h; exact ⟨bq, 0, _, _, rfl, hq, hS⟩
 | i + 1, h => cases h
set_option maxRecDepth 1000000 in
set_option maxHeartbeats 4000000 in
theorem lives12_any (w : World) (hE : Esc w) (hK : KN w) : Calls Tryz.prog 15 #[] w fun e w' => e = .returned (.bool true) ∧ Below w.heap.size w w' := by
 obtain ⟨W3, hW3⟩ : ∃ W3, W3 = ((w.alloc (.cells #[.string ⟨#[65]⟩, .string ⟨#[66]⟩] 9)).alloc (.cells #[.int .i64 6, .string ⟨#[]⟩, .int .u64 1, .int .u64 0, .string ⟨#[]⟩, .slice none 0 0, .slice none 0 0, .int .i64 0, .int .i64 16, .string ⟨#[]⟩, .int .u64 0, .int .u64 0, .string ⟨#[120]⟩, .slice none 0 0, .slice none 0 0, .int .i64 0] 26)).alloc (.cells #[.int .i64 18, .string ⟨#[84]⟩, .int .u64 0, .int .u64 0, .string ⟨#[]⟩, .slice (some ⟨w.heap.size, 0, none⟩) 2 2, .slice (some ⟨w.heap.size + 1, 0, none⟩) 2 2, .int .i64 0] 26) := ⟨_, rfl⟩
 have b3 : Below w.heap.size w W3 := by rw [hW3]; exact (((Below.refl _ _).alloc (Nat.le_refl _) _).alloc (by simp [go_sem]) _).alloc (by simp [go_sem]; omega) _
 have z3 : w.heap.size + 1 + 1 < W3.heap.size := by rw [hW3]; simp [go_sem]
 have n0 : W3.cell? ⟨w.heap.size, 0, none⟩ = some (.string ⟨#[65]⟩) := by rw [hW3]; simp [go_sem]
 have n1 : W3.cell? ⟨w.heap.size, 1, none⟩ = some (.string ⟨#[66]⟩) := by rw [hW3]; simp [go_sem]
 have aI : At8 W3 (w.heap.size + 1) 0 dI (.slice none 0 0) (.slice none 0 0) := by
  rw [hW3]
  refine ⟨?_, ?_, ?_, ?_, ?_, ?_, ?_, ?_⟩
  all_goals simp [go_sem, dI]
 have aX : At8 W3 (w.heap.size + 1) 8 dX (.slice none 0 0) (.slice none 0 0) := by
  rw [hW3]
  refine ⟨?_, ?_, ?_, ?_, ?_, ?_, ?_, ?_⟩
  all_goals simp [go_sem, dX]
 have aS : At8 W3 (w.heap.size + 1 + 1) 0 dS (.slice (some ⟨w.heap.size, 0, none⟩) 2 2) (.slice (some ⟨w.heap.size + 1, 0, none⟩) 2 2) := by
  rw [hW3]
  refine ⟨?_, ?_, ?_, ?_, ?_, ?_, ?_, ?_⟩
  all_goals simp [go_sem, dS]
 have rS := rd_S W3 _ _ n0 n1 aI aX
 have gS := (good_of rS bErr_S).1
 obtain ⟨W4, hW4⟩ : ∃ W4, W4 = W3.alloc (.cells #[.int .i64 18, .string ⟨#[84]⟩, .int .u64 0, .int .u64 0, .string ⟨#[]⟩, .slice (some ⟨w.heap.size, 0, none⟩) 2 2, .slice (some ⟨w.heap.size + 1, 0, none⟩) 2 2, .int .i64 0] 26) := ⟨_, rfl⟩
 have b4 : Below W3.heap.size W3 W4 := by rw [hW4]; exact (Below.refl _ _).alloc (Nat.le_refl _) _
 have aq : At8 W4 W3.heap.size 0 dS (.slice (some ⟨w.heap.size, 0, none⟩) 2 2) (.slice (some ⟨w.heap.size + 1, 0, none⟩) 2 2) := by
  rw [hW4]
  refine ⟨?_, ?_, ?_, ?_, ?_, ?_, ?_, ?_⟩
  all_goals simp [go_sem, dS]
 have rP := rd_P W4 _ _ _ (rS.up b4) aq
 have gP := (good_of rP bErr_P).1
 have hBP := (buildA 3 dP _ _ W4 rP (by omega)).mono fun e w' h => (⟨h.1, h.2.elim (fun q => q.2) (fun q => absurd bErr_P q.1)⟩ : _ ∧ _)
 have cS : ∀ V : World, Below W3.heap.size W3 V → V.cell? ⟨w.heap.size + 1 + 1, 0, none⟩ = some (.int .i64 18) ∧ V.cell? ⟨w.heap.size + 1 + 1, 1, none⟩ = some (.string ⟨#[84]⟩) ∧ V.cell? ⟨w.heap.size + 1 + 1, 2, none⟩ = some (.int .u64 0) ∧ V.cell? ⟨w.heap.size + 1 + 1, 3, none⟩ = some (.int .u64 0) ∧ V.cell? ⟨w.heap.size + 1 + 1, 4, none⟩ = some (.string ⟨#[]⟩) ∧ V.cell? ⟨w.heap.size + 1 + 1, 5, none⟩ = some (.slice (some ⟨w.heap.size, 0, none⟩) 2 2) ∧ V.cell? ⟨w.heap.size + 1 + 1, 6, none⟩ = some (.slice (some ⟨w.heap.size + 1, 0, none⟩) 2 2) ∧ V.cell? ⟨w.heap.size + 1 + 1, 7, none⟩ = some (.int .i64 0) := by
  intro V hV
  obtain ⟨c0, c1, c2, c3, c4, c5, c6, c7⟩ := aS
  refine ⟨?_, ?_, ?_, ?_, ?_, ?_, ?_, ?_⟩
  all_goals (rw [hV.cell z3]; assumption)
 have cS0 := cS W3 (Below.refl _ _)
 go_enter Tryz.func15, Tryz.ntmps15
 go_upto_region 2 with fail
 rw [← hW3]
 clear hW3
 obtain ⟨c0, c1, c2, c3, c4, c5, c6, c7⟩ := cS0
 go_upto_region 3 with (go_at_call 20; rw [← hW4]; clear hW4; refine hBP.mono ?_; rintro e W5 ⟨b5, t, y, rfl, hv⟩)
 have b35 : Below W3.heap.size W3 W5 := b4.trans (b5.mono b4.size)
 have hBS := (buildA 2 dS _ _ W5 (rS.up b35) (by omega)).mono fun e w' h => (⟨h.1, h.2.elim (fun q => q.2) (fun q => absurd bErr_S q.1)⟩ : _ ∧ _)
 obtain ⟨d0, d1, d2, d3, d4, d5, d6, d7⟩ := cS W5 b35
 clear c0 c1 c2 c3 c4 c5 c6 c7
 go_upto_region 4 with (go_at_call 20; refine hBS.mono ?_; rintro e W6 ⟨b6, t2, y2, rfl, hv2⟩)
 clear hBS hBP d0 d1 d2 d3 d4 d5 d6 d7 cS
 have b03 : Below w.heap.size w W5 := b3.trans (b35.mono b3.size)
 have gI : Good8 dI := gS.part (by decide) (List.mem_cons_self ..)
 have gX : Good8 dX := gS.part (by decide) (List.mem_cons_of_mem _ (List.mem_cons_self ..))
 have hSP : ∀ V, Below W5.heap.size W5 V → Calls Tryz.prog 10 #[.iface t y, .agg #[.bool false, .bool false, .bool false, .bool false, .bool false, .int .i64 (-1), .int .i64 (-1), .int .i32 118], .nilFunc] V fun e V' => e = .returned (.string ⟨#[38, 123, 49, 32, 120, 125]⟩) ∧ Below V.heap.size V V' := by
  intro V hV
  refine show_nil (bareQ 118) (by decide) _ _ V fun U hU => ?_
  have h5 : Below W5.heap.size W5 U := hV.trans (hU.mono hV.size)
  have h0 := b03.trans (h5.mono b03.size)
  exact lw_P 1 (by omega) gP gS gI gX U _ (hE.below h0) (hK.up h0) (hv.turn (Kept.below h5 fun _ _ _ => trivial))
 have b06 : Below w.heap.size w W6 := b03.trans (b6.mono b03.size)
 have hSS : ∀ V, Below W6.heap.size W6 V → Calls Tryz.prog 10 #[.iface t2 y2, .agg #[.bool false, .bool false, .bool true, .bool false, .bool false, .int .i64 (-1), .int .i64 (-1), .int .i32 118], .nilFunc] V fun e V' => e = .returned (.string ⟨#[84, 123, 65, 58, 49, 44, 32, 66, 58, 34, 120, 34, 125]⟩) ∧ Below V.heap.size V V' := by
  intro V hV
  refine show_nil sB (by decide) _ _ V fun U hU => ?_
  have h6 : Below W6.heap.size W6 U := hV.trans (hU.mono hV.size)
  have h0 := b06.trans (h6.mono b06.size)
  exact lw_S0 1 (by omega) gS gI gX U _ (hE.below h0) (hK.up h0) (hv2.turn (Kept.below h6 fun _ _ _ => trivial))
 have hBa : ∀ W, Calls Tryz.prog 11 #[.int .i32 118] W fun e W' => e = .returned (.agg #[.bool false, .bool false, .bool false, .bool false, .bool false, .int .i64 (-1), .int .i64 (-1), .int .i32 118]) ∧ Below W.heap.size W W' := fun W => bare_any 118 W
 have hBd := fun W => bad_nil W
 clear hv hv2 aS aI aX n0 n1 rS rP aq gS gI gX gP
 go_upto_region 5 with (go_at_call 11; refine (hBa _).mono ?_; rintro e W7 ⟨rfl, b7⟩)
 obtain ⟨W8, hW8⟩ : ∃ W8, W8 = W7.alloc (.cells #[.bool false, .bool false, .bool true, .bool false, .bool false, .int .i64 (-1), .int .i64 (-1), .int .i32 118] 33) := ⟨_, rfl⟩
 have b8 : Below W7.heap.size W7 W8 := by rw [hW8]; exact (Below.refl _ _).alloc (Nat.le_refl _) _
 have qS0 : (fun V : World => V.cell? ⟨W7.heap.size, 0, none⟩ = some (.bool false) ∧ V.cell? ⟨W7.heap.size, 1, none⟩ = some (.bool false) ∧ V.cell? ⟨W7.heap.size, 2, none⟩ = some (.bool true) ∧ V.cell? ⟨W7.heap.size, 3, none⟩ = some (.bool false) ∧ V.cell? ⟨W7.heap.size, 4, none⟩ = some (.bool false) ∧ V.cell? ⟨W7.heap.size, 5, none⟩ = some (.int .i64 (-1)) ∧ V.cell? ⟨W7.heap.size, 6, none⟩ = some (.int .i64 (-1)) ∧ V.cell? ⟨W7.heap.size, 7, none⟩ = some (.int .i32 118)) W8 := by
  rw [hW8]
  refine ⟨?_, ?_, ?_, ?_, ?_, ?_, ?_, ?_⟩
  all_goals simp [go_sem]
 have z8 : W7.heap.size < W8.heap.size := by rw [hW8]; simp [go_sem]
 have qS : ∀ V, Below W8.heap.size W8 V → V.cell? ⟨W7.heap.size, 0, none⟩ = some (.bool false) ∧ V.cell? ⟨W7.heap.size, 1, none⟩ = some (.bool false) ∧ V.cell? ⟨W7.heap.size, 2, none⟩ = some (.bool true) ∧ V.cell? ⟨W7.heap.size, 3, none⟩ = some (.bool false) ∧ V.cell? ⟨W7.heap.size, 4, none⟩ = some (.bool false) ∧ V.cell? ⟨W7.heap.size, 5, none⟩ = some (.int .i64 (-1)) ∧ V.cell? ⟨W7.heap.size, 6, none⟩ = some (.int .i64 (-1)) ∧ V.cell? ⟨W7.heap.size, 7, none⟩ = some (.int .i32 118) := by
  intro V hV
  obtain ⟨f0, f1, f2, f3, f4, f5, f6, f7⟩ := qS0
  refine ⟨?_, ?_, ?_, ?_, ?_, ?_, ?_, ?_⟩
  all_goals (rw [hV.cell z8]; assumption)
 have b68 : Below W6.heap.size W6 W8 := b7.trans (b8.mono b7.size)
 have b58 : Below W5.heap.size W5 W8 := b6.trans (b68.mono b6.size)
 have b08 : Below w.heap.size w W8 := b06.trans (b68.mono b06.size)
 clear qS0
 go_upto_region 6 with fail
 rw [← hW8]
 clear hW8
 go_wp2_with (first
  | (go_at_call 11; refine (hBa _).mono ?_; rintro e W9 ⟨rfl, b9⟩)
  | (go_at_call 27; refine (hBd _).mono ?_; rintro e W12 ⟨rfl, b12⟩)
  | (go_at_call 10; refine (hSP _ (b58.trans (b9.mono b58.size))).mono ?_; clear hSP; rintro e W10 ⟨rfl, b10⟩; have bA : Below W8.heap.size W8 W10 := b9.trans (b10.mono b9.size); obtain ⟨f0, f1, f2, f3, f4, f5, f6, f7⟩ := qS W10 bA)
  | (go_at_call 10; refine (hSS _ (b68.trans (bA.mono b68.size))).mono ?_; rintro e W11 ⟨rfl, b11⟩))
 go_ret
 refine ⟨by simp, ?_⟩
 have bB := bA.trans (b11.mono bA.size)
 have bC := bB.trans (b12.mono bB.size)
 exact b08.trans (bC.mono b08.size)
end Go.Proofs.YtlgieoabellbmaaGreatDoor
