/- partsOf and rawOf at the values without parts. -/
import Derived.Test.YtdlnmnipnkeabaaGreatDoorVMark
import Derived.Deep.LoopGhost
import Derived.Deep.DeepCutAuto
import Derived.Deep.CutBlock
import Derived.Deep.RegionWith
import Derived.BigQuiet
namespace Go.Proofs.YtdlnmnipnkeabaaGreatDoor
open Go.RowKit
set_option linter.unusedVariables false
theorem oneif_any (b : Bool) (w : World) : Calls Tryz.prog 200 #[.bool b] w fun e w' => e = .returned (.int .u64 (if b then 1 else 0)) ∧ w' = w := by
 cases b
 all_goals
  go_enter Tryz.func200, Tryz.ntmps200
  go_wp2
  go_ret
  exact ⟨rfl, rfl⟩
theorem set8 {V : World} {b : Nat} {x0 x1 x2 x3 x4 x5 x6 x7 : Value} (h0 : V.cell? ⟨b, 0, none⟩ = some x0) (h1 : V.cell? ⟨b, 1, none⟩ = some x1) (h2 : V.cell? ⟨b, 2, none⟩ = some x2) (h3 : V.cell? ⟨b, 3, none⟩ = some x3) (h4 : V.cell? ⟨b, 4, none⟩ = some x4) (h5 : V.cell? ⟨b, 5, none⟩ = some x5) (h6 : V.cell? ⟨b, 6, none⟩ = some x6) (h7 : V.cell? ⟨b, 7, none⟩ = some x7) (y0 y1 y2 y3 y4 y5 y6 y7 : Value) :
  ((((((((V.setCell ⟨b, 0, none⟩ y0).setCell ⟨b, 1, none⟩ y1).setCell ⟨b, 2, none⟩ y2).setCell ⟨b, 3, none⟩ y3).setCell ⟨b, 4, none⟩ y4).setCell ⟨b, 5, none⟩ y5).setCell ⟨b, 6, none⟩ y6).setCell ⟨b, 7, none⟩ y7).cell? ⟨b, 0, none⟩ = some y0 ∧ ((((((((V.setCell ⟨b, 0, none⟩ y0).setCell ⟨b, 1, none⟩ y1).setCell ⟨b, 2, none⟩ y2).setCell ⟨b, 3, none⟩ y3).setCell ⟨b, 4, none⟩ y4).setCell ⟨b, 5, none⟩ y5).setCell ⟨b, 6, none⟩ y6).setCell ⟨b, 7, none⟩ y7).cell? ⟨b, 1, none⟩ = some y1 ∧ ((((((((V.setCell ⟨b, 0, none⟩ y0).setCell ⟨b, 1, none⟩ y1).setCell ⟨b, 2, none⟩ y2).setCell ⟨b, 3, none⟩ y3).setCell ⟨b, 4, none⟩ y4).setCell ⟨b, 5, none⟩ y5).setCell ⟨b, 6, none⟩ y6).setCell ⟨b, 7, none⟩ y7).cell? ⟨b, 2, none⟩ = some y2 ∧ ((((((((V.setCell ⟨b, 0, none⟩ y0).setCell ⟨b, 1, none⟩ y1).setCell ⟨b, 2, none⟩ y2).setCell ⟨b, 3, none⟩ y3).setCell ⟨b, 4, none⟩ y4).setCell ⟨b, 5, none⟩ y5).setCell ⟨b, 6, none⟩ y6).setCell ⟨b, 7, none⟩ y7).cell? ⟨b, 3, none⟩ = some y3 ∧ ((((((((V.setCell ⟨b, 0, none⟩ y0).setCell ⟨b, 1, none⟩ y1).setCell ⟨b, 2, none⟩ y2).setCell ⟨b, 3, none⟩ y3).setCell ⟨b, 4, none⟩ y4).setCell ⟨b, 5, none⟩ y5).setCell ⟨b, 6, none⟩ y6).setCell ⟨b, 7, none⟩ y7).cell? ⟨b, 4, none⟩ = some y4 ∧ ((((((((V.setCell ⟨b, 0, none⟩ y0).setCell ⟨b, 1, none⟩ y1).setCell ⟨b, 2, none⟩ y2).setCell ⟨b, 3, none⟩ y3).setCell ⟨b, 4, none⟩ y4).setCell ⟨b, 5, none⟩ y5).setCell ⟨b, 6, none⟩ y6).setCell ⟨b, 7, none⟩ y7).cell? ⟨b, 5, none⟩ = some y5 ∧ ((((((((V.setCell ⟨b, 0, none⟩ y0).setCell ⟨b, 1, none⟩ y1).setCell ⟨b, 2, none⟩ y2).setCell ⟨b, 3, none⟩ y3).setCell ⟨b, 4, none⟩ y4).setCell ⟨b, 5, none⟩ y5).setCell ⟨b, 6, none⟩ y6).setCell ⟨b, 7, none⟩ y7).cell? ⟨b, 6, none⟩ = some y6 ∧ ((((((((V.setCell ⟨b, 0, none⟩ y0).setCell ⟨b, 1, none⟩ y1).setCell ⟨b, 2, none⟩ y2).setCell ⟨b, 3, none⟩ y3).setCell ⟨b, 4, none⟩ y4).setCell ⟨b, 5, none⟩ y5).setCell ⟨b, 6, none⟩ y6).setCell ⟨b, 7, none⟩ y7).cell? ⟨b, 7, none⟩ = some y7 := by
 refine ⟨?_, ?_, ?_, ?_, ?_, ?_, ?_, ?_⟩
 all_goals simp [go_sem, h0, h1, h2, h3, h4, h5, h6, h7]
theorem set8_below {B : Nat} {w V : World} {b : Nat} {y0 y1 y2 y3 y4 y5 y6 y7 : Value} (h : Below B w V) (hb : B ≤ b) : Below B w ((((((((V.setCell ⟨b, 0, none⟩ y0).setCell ⟨b, 1, none⟩ y1).setCell ⟨b, 2, none⟩ y2).setCell ⟨b, 3, none⟩ y3).setCell ⟨b, 4, none⟩ y4).setCell ⟨b, 5, none⟩ y5).setCell ⟨b, 6, none⟩ y6).setCell ⟨b, 7, none⟩ y7) :=
 (((((((h.setCell hb _).setCell hb _).setCell hb _).setCell hb _).setCell hb _).setCell hb _).setCell hb _).setCell hb _
theorem wrap_u64 (n : Int) : IntKind.u64.wrap n = n % 18446744073709551616 := by simp [IntKind.wrap, IntKind.bits, IntKind.signed]
def Zero8 (W : World) (b : Nat) : Prop :=
 (W.cell? ⟨b, 0, none⟩ = some (.int .i64 0) ∧ W.cell? ⟨b, 1, none⟩ = some (.string ⟨#[]⟩) ∧ W.cell? ⟨b, 2, none⟩ = some (.int .u64 0) ∧ W.cell? ⟨b, 3, none⟩ = some (.int .u64 0) ∧ W.cell? ⟨b, 4, none⟩ = some (.string ⟨#[]⟩) ∧ W.cell? ⟨b, 5, none⟩ = some (.slice none 0 0) ∧ W.cell? ⟨b, 6, none⟩ = some (.slice none 0 0) ∧ W.cell? ⟨b, 7, none⟩ = some (.int .i64 0)) ∧ ∀ i, W.frozen? ⟨b, i, none⟩ = false
theorem Zero8.up {W W' : World} {b : Nat} (h : Zero8 W b) (hb : Below W.heap.size W W') : Zero8 W' b := by
 obtain ⟨⟨h0, h1, h2, h3, h4, h5, h6, h7⟩, hf⟩ := h
 exact ⟨⟨up_cell hb h0, up_cell hb h1, up_cell hb h2, up_cell hb h3, up_cell hb h4, up_cell hb h5, up_cell hb h6, up_cell hb h7⟩, fun i => (hb.frozen (p := ⟨b, i, none⟩) (show b < _ from lt_of_cell h0)).trans (hf i)⟩
set_option maxRecDepth 1000000 in
set_option maxHeartbeats 1000000 in
theorem partsof_signed (v : Value) (w : World) : Calls Tryz.prog 235 #[.iface 160 v] w fun e w' => e = .returned (.slice none 0 0) ∧ w' = w := by
 have h1 := ta_signed_structure
 have h2 := ta_signed_list
 have h3 := ta_signed_dictionary
 have h4 := ta_signed_pointer
 go_enter Tryz.func235, Tryz.ntmps235
 go_wp2
 go_ret
 exact ⟨rfl, rfl⟩
set_option maxRecDepth 1000000 in
set_option maxHeartbeats 4000000 in
theorem rawof_signed (k h : Int) (ty : ByteArray) (n : Int) (w : World) : Calls Tryz.prog 187 #[.iface 160 (.agg #[.int .i64 k, .string ty, .int .i64 h, .int .i64 n])] w fun e w' => e = .returned (.agg #[.int .i64 k, .string ty, .int .u64 (n % 18446744073709551616), .int .u64 0, .string ⟨#[]⟩, .slice none 0 0, .slice none 0 0, .int .i64 h]) ∧ Below w.heap.size w w' := by
 have h0 := ta_signed_truth
 have h1 := ta_signed_signed
 have h2 := ta_signed_unsigned
 have h3 := ta_signed_float
 have h4 := ta_signed_pair
 have h5 := ta_signed_text
 have h6 := ta_signed_octets
 have h7 := ta_signed_structure
 have h8 := ta_signed_pointer
 have hm := fun W => markof_signed k h ty n W
 have hp := fun v W => partsof_signed v W
 obtain ⟨W1, hW1⟩ : ∃ W1, W1 = w.alloc (.cells #[.int .i64 0, .string ⟨#[]⟩, .int .u64 0, .int .u64 0, .string ⟨#[]⟩, .slice none 0 0, .slice none 0 0, .int .i64 0] 29) := ⟨_, rfl⟩
 have hb1 : Below w.heap.size w W1 := by rw [hW1]; exact (Below.refl _ _).alloc (Nat.le_refl _) _
 have c0 : W1.cell? ⟨w.heap.size, 0, none⟩ = some (.int .i64 0) ∧ W1.cell? ⟨w.heap.size, 1, none⟩ = some (.string ⟨#[]⟩) ∧ W1.cell? ⟨w.heap.size, 2, none⟩ = some (.int .u64 0) ∧ W1.cell? ⟨w.heap.size, 3, none⟩ = some (.int .u64 0) ∧ W1.cell? ⟨w.heap.size, 4, none⟩ = some (.string ⟨#[]⟩) ∧ W1.cell? ⟨w.heap.size, 5, none⟩ = some (.slice none 0 0) ∧ W1.cell? ⟨w.heap.size, 6, none⟩ = some (.slice none 0 0) ∧ W1.cell? ⟨w.heap.size, 7, none⟩ = some (.int .i64 0) := by rw [hW1]; simp
 have fz : ∀ i, W1.frozen? ⟨w.heap.size, i, none⟩ = false := fun i => by rw [hW1, frozen?_alloc_cells]; exact frozen_none _ _ (Nat.le_refl _)
 have hz1 : w.heap.size < W1.heap.size := by rw [hW1]; simp
 go_enter Tryz.func187, Tryz.ntmps187
 go_wp2_with fail
 rw [← hW1]
 refine (hm _).mono ?_
 rintro e V ⟨rfl, hV⟩
 have d0 := up_cell hV c0.1
 have d1 := up_cell hV c0.2.1
 have d2 := up_cell hV c0.2.2.1
 have d3 := up_cell hV c0.2.2.2.1
 have d4 := up_cell hV c0.2.2.2.2.1
 have d5 := up_cell hV c0.2.2.2.2.2.1
 have d6 := up_cell hV c0.2.2.2.2.2.2.1
 have d7 := up_cell hV c0.2.2.2.2.2.2.2
 have ez : ∀ i, V.frozen? ⟨w.heap.size, i, none⟩ = false := fun i => (hV.frozen (p := ⟨w.heap.size, i, none⟩) hz1).trans (fz i)
 have hzV : w.heap.size < V.heap.size := Nat.lt_of_lt_of_le hz1 hV.size
 clear hm c0 fz
 have zV : Zero8 V w.heap.size := ⟨⟨d0, d1, d2, d3, d4, d5, d6, d7⟩, ez⟩
 have hbV : Below w.heap.size w V := hb1.trans (hV.mono hb1.size)
 clear d0 d1 d2 d3 d4 d5 d6 d7 ez hW1 hb1 hz1 hV
 go_upto_block 1 with (first | (go_at_call 200; refine (oneif_any _ _).mono ?_; rintro e w1 ⟨rfl, rfl⟩) | (go_at_call 235; refine (hp _ _).mono ?_; rintro e w1 ⟨rfl, rfl⟩))
 go_cut [15, 91] (fun z i wx => At8 wx (V.heap.size + 1) 0 ⟨k, ty, (n % 18446744073709551616), 0, ⟨#[]⟩, [], [], h⟩ (.slice none 0 0) (.slice none 0 0) ∧ Zero8 wx w.heap.size ∧ Below w.heap.size w wx)
 case first =>
  go_wp2
  refine wp_loop_rounds 1 ?_
  rw [rounds_succ]
  go_wp2
  go_meet
  refine ⟨⟨?_, ?_, ?_, ?_, ?_, ?_, ?_, ?_⟩, ((zV.up ((((Below.refl _ _).alloc (Nat.le_refl _) _).alloc (by simp) _).alloc (by simp; omega) _))), (((hbV.alloc hbV.size _).alloc (by have := hbV.size; simp; omega) _).alloc (by have := hbV.size; simp; omega) _)⟩
  all_goals (simp [go_sem]; try exact wrap_u64 n)
 case rest =>
  obtain ⟨⟨a0, a1, a2, a3, a4, a5, a6, a7⟩, ⟨⟨z0, z1, z2, z3, z4, z5, z6, z7⟩, zf⟩, hbx⟩ := hcut
  have y0 := zf 0
  have y1 := zf 1
  have y2 := zf 2
  have y3 := zf 3
  have y4 := zf 4
  have y5 := zf 5
  have y6 := zf 6
  have y7 := zf 7
  go_wp2
  obtain ⟨r0, r1, r2, r3, r4, r5, r6, r7⟩ := set8 z0 z1 z2 z3 z4 z5 z6 z7 (.int .i64 k) (.string ty) (.int .u64 (n % 18446744073709551616)) (.int .u64 0) (.string ⟨#[]⟩) (.slice none 0 0) (.slice none 0 0) (.int .i64 h)
  refine bodyPost_ret (v := .agg #[.int .i64 k, .string ty, .int .u64 (n % 18446744073709551616), .int .u64 0, .string ⟨#[]⟩, .slice none 0 0, .slice none 0 0, .int .i64 h]) (by simp [results, Tryz.results187, go_sem, r0, r1, r2, r3, r4, r5, r6, r7]) rfl ?_
  exact ⟨rfl, set8_below hbx (Nat.le_refl _)⟩
set_option maxRecDepth 1000000 in
set_option maxHeartbeats 1000000 in
theorem partsof_float (v : Value) (w : World) : Calls Tryz.prog 235 #[.iface 166 v] w fun e w' => e = .returned (.slice none 0 0) ∧ w' = w := by
 have h1 := ta_float_structure
 have h2 := ta_float_list
 have h3 := ta_float_dictionary
 have h4 := ta_float_pointer
 go_enter Tryz.func235, Tryz.ntmps235
 go_wp2
 go_ret
 exact ⟨rfl, rfl⟩
set_option maxRecDepth 1000000 in
set_option maxHeartbeats 4000000 in
theorem rawof_float (k h : Int) (ty : ByteArray) (n : Int) (w : World) : Calls Tryz.prog 187 #[.iface 166 (.agg #[.int .i64 k, .string ty, .int .i64 h, .int .u64 n])] w fun e w' => e = .returned (.agg #[.int .i64 k, .string ty, .int .u64 n, .int .u64 0, .string ⟨#[]⟩, .slice none 0 0, .slice none 0 0, .int .i64 h]) ∧ Below w.heap.size w w' := by
 have h0 := ta_float_truth
 have h1 := ta_float_signed
 have h2 := ta_float_unsigned
 have h3 := ta_float_float
 have h4 := ta_float_pair
 have h5 := ta_float_text
 have h6 := ta_float_octets
 have h7 := ta_float_structure
 have h8 := ta_float_pointer
 have hm := fun W => markof_float k h ty n W
 have hp := fun v W => partsof_float v W
 obtain ⟨W1, hW1⟩ : ∃ W1, W1 = w.alloc (.cells #[.int .i64 0, .string ⟨#[]⟩, .int .u64 0, .int .u64 0, .string ⟨#[]⟩, .slice none 0 0, .slice none 0 0, .int .i64 0] 29) := ⟨_, rfl⟩
 have hb1 : Below w.heap.size w W1 := by rw [hW1]; exact (Below.refl _ _).alloc (Nat.le_refl _) _
 have c0 : W1.cell? ⟨w.heap.size, 0, none⟩ = some (.int .i64 0) ∧ W1.cell? ⟨w.heap.size, 1, none⟩ = some (.string ⟨#[]⟩) ∧ W1.cell? ⟨w.heap.size, 2, none⟩ = some (.int .u64 0) ∧ W1.cell? ⟨w.heap.size, 3, none⟩ = some (.int .u64 0) ∧ W1.cell? ⟨w.heap.size, 4, none⟩ = some (.string ⟨#[]⟩) ∧ W1.cell? ⟨w.heap.size, 5, none⟩ = some (.slice none 0 0) ∧ W1.cell? ⟨w.heap.size, 6, none⟩ = some (.slice none 0 0) ∧ W1.cell? ⟨w.heap.size, 7, none⟩ = some (.int .i64 0) := by rw [hW1]; simp
 have fz : ∀ i, W1.frozen? ⟨w.heap.size, i, none⟩ = false := fun i => by rw [hW1, frozen?_alloc_cells]; exact frozen_none _ _ (Nat.le_refl _)
 have hz1 : w.heap.size < W1.heap.size := by rw [hW1]; simp
 go_enter Tryz.func187, Tryz.ntmps187
 go_wp2_with fail
 rw [← hW1]
 refine (hm _).mono ?_
 rintro e V ⟨rfl, hV⟩
 have d0 := up_cell hV c0.1
 have d1 := up_cell hV c0.2.1
 have d2 := up_cell hV c0.2.2.1
 have d3 := up_cell hV c0.2.2.2.1
 have d4 := up_cell hV c0.2.2.2.2.1
 have d5 := up_cell hV c0.2.2.2.2.2.1
 have d6 := up_cell hV c0.2.2.2.2.2.2.1
 have d7 := up_cell hV c0.2.2.2.2.2.2.2
 have ez : ∀ i, V.frozen? ⟨w.heap.size, i, none⟩ = false := fun i => (hV.frozen (p := ⟨w.heap.size, i, none⟩) hz1).trans (fz i)
 have hzV : w.heap.size < V.heap.size := Nat.lt_of_lt_of_le hz1 hV.size
 clear hm c0 fz
 have zV : Zero8 V w.heap.size := ⟨⟨d0, d1, d2, d3, d4, d5, d6, d7⟩, ez⟩
 have hbV : Below w.heap.size w V := hb1.trans (hV.mono hb1.size)
 clear d0 d1 d2 d3 d4 d5 d6 d7 ez hW1 hb1 hz1 hV
 go_upto_block 1 with (first | (go_at_call 200; refine (oneif_any _ _).mono ?_; rintro e w1 ⟨rfl, rfl⟩) | (go_at_call 235; refine (hp _ _).mono ?_; rintro e w1 ⟨rfl, rfl⟩))
 go_cut [15, 91] (fun z i wx => At8 wx (V.heap.size + 1) 0 ⟨k, ty, n, 0, ⟨#[]⟩, [], [], h⟩ (.slice none 0 0) (.slice none 0 0) ∧ Zero8 wx w.heap.size ∧ Below w.heap.size w wx)
 case first =>
  go_wp2
  refine wp_loop_rounds 1 ?_
  rw [rounds_succ]
  go_wp2
  go_meet
  refine ⟨⟨?_, ?_, ?_, ?_, ?_, ?_, ?_, ?_⟩, ((zV.up ((((Below.refl _ _).alloc (Nat.le_refl _) _).alloc (by simp) _).alloc (by simp; omega) _))), (((hbV.alloc hbV.size _).alloc (by have := hbV.size; simp; omega) _).alloc (by have := hbV.size; simp; omega) _)⟩
  all_goals (simp [go_sem])
 case rest =>
  obtain ⟨⟨a0, a1, a2, a3, a4, a5, a6, a7⟩, ⟨⟨z0, z1, z2, z3, z4, z5, z6, z7⟩, zf⟩, hbx⟩ := hcut
  have y0 := zf 0
  have y1 := zf 1
  have y2 := zf 2
  have y3 := zf 3
  have y4 := zf 4
  have y5 := zf 5
  have y6 := zf 6
  have y7 := zf 7
  go_wp2
  obtain ⟨r0, r1, r2, r3, r4, r5, r6, r7⟩ := set8 z0 z1 z2 z3 z4 z5 z6 z7 (.int .i64 k) (.string ty) (.int .u64 n) (.int .u64 0) (.string ⟨#[]⟩) (.slice none 0 0) (.slice none 0 0) (.int .i64 h)
  refine bodyPost_ret (v := .agg #[.int .i64 k, .string ty, .int .u64 n, .int .u64 0, .string ⟨#[]⟩, .slice none 0 0, .slice none 0 0, .int .i64 h]) (by simp [results, Tryz.results187, go_sem, r0, r1, r2, r3, r4, r5, r6, r7]) rfl ?_
  exact ⟨rfl, set8_below hbx (Nat.le_refl _)⟩
set_option maxRecDepth 1000000 in
set_option maxHeartbeats 1000000 in
theorem partsof_text (v : Value) (w : World) : Calls Tryz.prog 235 #[.iface 170 v] w fun e w' => e = .returned (.slice none 0 0) ∧ w' = w := by
 have h1 := ta_text_structure
 have h2 := ta_text_list
 have h3 := ta_text_dictionary
 have h4 := ta_text_pointer
 go_enter Tryz.func235, Tryz.ntmps235
 go_wp2
 go_ret
 exact ⟨rfl, rfl⟩
set_option maxRecDepth 1000000 in
set_option maxHeartbeats 4000000 in
theorem rawof_text (k h : Int) (ty : ByteArray) (s : ByteArray) (w : World) : Calls Tryz.prog 187 #[.iface 170 (.agg #[.int .i64 k, .string ty, .int .i64 h, .string s])] w fun e w' => e = .returned (.agg #[.int .i64 k, .string ty, .int .u64 0, .int .u64 0, .string s, .slice none 0 0, .slice none 0 0, .int .i64 h]) ∧ Below w.heap.size w w' := by
 have h0 := ta_text_truth
 have h1 := ta_text_signed
 have h2 := ta_text_unsigned
 have h3 := ta_text_float
 have h4 := ta_text_pair
 have h5 := ta_text_text
 have h6 := ta_text_octets
 have h7 := ta_text_structure
 have h8 := ta_text_pointer
 have hm := fun W => markof_text k h ty s W
 have hp := fun v W => partsof_text v W
 obtain ⟨W1, hW1⟩ : ∃ W1, W1 = w.alloc (.cells #[.int .i64 0, .string ⟨#[]⟩, .int .u64 0, .int .u64 0, .string ⟨#[]⟩, .slice none 0 0, .slice none 0 0, .int .i64 0] 29) := ⟨_, rfl⟩
 have hb1 : Below w.heap.size w W1 := by rw [hW1]; exact (Below.refl _ _).alloc (Nat.le_refl _) _
 have c0 : W1.cell? ⟨w.heap.size, 0, none⟩ = some (.int .i64 0) ∧ W1.cell? ⟨w.heap.size, 1, none⟩ = some (.string ⟨#[]⟩) ∧ W1.cell? ⟨w.heap.size, 2, none⟩ = some (.int .u64 0) ∧ W1.cell? ⟨w.heap.size, 3, none⟩ = some (.int .u64 0) ∧ W1.cell? ⟨w.heap.size, 4, none⟩ = some (.string ⟨#[]⟩) ∧ W1.cell? ⟨w.heap.size, 5, none⟩ = some (.slice none 0 0) ∧ W1.cell? ⟨w.heap.size, 6, none⟩ = some (.slice none 0 0) ∧ W1.cell? ⟨w.heap.size, 7, none⟩ = some (.int .i64 0) := by rw [hW1]; simp
 have fz : ∀ i, W1.frozen? ⟨w.heap.size, i, none⟩ = false := fun i => by rw [hW1, frozen?_alloc_cells]; exact frozen_none _ _ (Nat.le_refl _)
 have hz1 : w.heap.size < W1.heap.size := by rw [hW1]; simp
 go_enter Tryz.func187, Tryz.ntmps187
 go_wp2_with fail
 rw [← hW1]
 refine (hm _).mono ?_
 rintro e V ⟨rfl, hV⟩
 have d0 := up_cell hV c0.1
 have d1 := up_cell hV c0.2.1
 have d2 := up_cell hV c0.2.2.1
 have d3 := up_cell hV c0.2.2.2.1
 have d4 := up_cell hV c0.2.2.2.2.1
 have d5 := up_cell hV c0.2.2.2.2.2.1
 have d6 := up_cell hV c0.2.2.2.2.2.2.1
 have d7 := up_cell hV c0.2.2.2.2.2.2.2
 have ez : ∀ i, V.frozen? ⟨w.heap.size, i, none⟩ = false := fun i => (hV.frozen (p := ⟨w.heap.size, i, none⟩) hz1).trans (fz i)
 have hzV : w.heap.size < V.heap.size := Nat.lt_of_lt_of_le hz1 hV.size
 clear hm c0 fz
 have zV : Zero8 V w.heap.size := ⟨⟨d0, d1, d2, d3, d4, d5, d6, d7⟩, ez⟩
 have hbV : Below w.heap.size w V := hb1.trans (hV.mono hb1.size)
 clear d0 d1 d2 d3 d4 d5 d6 d7 ez hW1 hb1 hz1 hV
 go_upto_block 1 with (first | (go_at_call 200; refine (oneif_any _ _).mono ?_; rintro e w1 ⟨rfl, rfl⟩) | (go_at_call 235; refine (hp _ _).mono ?_; rintro e w1 ⟨rfl, rfl⟩))
 go_cut [15, 91] (fun z i wx => At8 wx (V.heap.size + 1) 0 ⟨k, ty, 0, 0, s, [], [], h⟩ (.slice none 0 0) (.slice none 0 0) ∧ Zero8 wx w.heap.size ∧ Below w.heap.size w wx)
 case first =>
  go_wp2
  refine wp_loop_rounds 1 ?_
  rw [rounds_succ]
  go_wp2
  go_meet
  refine ⟨⟨?_, ?_, ?_, ?_, ?_, ?_, ?_, ?_⟩, ((zV.up ((((Below.refl _ _).alloc (Nat.le_refl _) _).alloc (by simp) _).alloc (by simp; omega) _))), (((hbV.alloc hbV.size _).alloc (by have := hbV.size; simp; omega) _).alloc (by have := hbV.size; simp; omega) _)⟩
  all_goals (simp [go_sem])
 case rest =>
  obtain ⟨⟨a0, a1, a2, a3, a4, a5, a6, a7⟩, ⟨⟨z0, z1, z2, z3, z4, z5, z6, z7⟩, zf⟩, hbx⟩ := hcut
  have y0 := zf 0
  have y1 := zf 1
  have y2 := zf 2
  have y3 := zf 3
  have y4 := zf 4
  have y5 := zf 5
  have y6 := zf 6
  have y7 := zf 7
  go_wp2
  obtain ⟨r0, r1, r2, r3, r4, r5, r6, r7⟩ := set8 z0 z1 z2 z3 z4 z5 z6 z7 (.int .i64 k) (.string ty) (.int .u64 0) (.int .u64 0) (.string s) (.slice none 0 0) (.slice none 0 0) (.int .i64 h)
  refine bodyPost_ret (v := .agg #[.int .i64 k, .string ty, .int .u64 0, .int .u64 0, .string s, .slice none 0 0, .slice none 0 0, .int .i64 h]) (by simp [results, Tryz.results187, go_sem, r0, r1, r2, r3, r4, r5, r6, r7]) rfl ?_
  exact ⟨rfl, set8_below hbx (Nat.le_refl _)⟩
end Go.Proofs.YtdlnmnipnkeabaaGreatDoor
