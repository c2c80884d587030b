/- rankOf at each of the values' types. -/
import Derived.Test.YtjphklhfigammaaDoorVRankA
namespace Go.Proofs.YtjphklhfigammaaDoor
open Go.RowKit
set_option linter.unusedVariables false
set_option linter.unusedSimpArgs false

set_option maxRecDepth 1000000 in
set_option maxHeartbeats 4000000 in
theorem rankof_pair (k h : Int) (ty : ByteArray) (n m : Int) : RkC (.iface 78 (.agg #[.int .i64 k, .string ty, .int .i64 h, .int .u64 n, .int .u64 m])) ⟨k, 0, ⟨#[]⟩, ⟨#[]⟩⟩ := by
  intro w
  have h0 := ta_pair_truth
  have h1 := ta_pair_signed
  have h2 := ta_pair_unsigned
  have h3 := ta_pair_text
  have hm := fun W => markof_pair k h ty n m W
  obtain ⟨W1, hW1⟩ : ∃ W1, W1 = w.alloc (.cells #[.int .i64 0, .int .u64 0, .string ⟨#[]⟩, .string ⟨#[]⟩] 59) := ⟨_, rfl⟩
  have hb1 : Below w.heap.size w W1 := by rw [hW1]; exact (Below.refl _ _).alloc (Nat.le_refl _) _
  have c0 : W1.cell? ⟨w.heap.size, 0, none⟩ = some (.int .i64 0) ∧ W1.cell? ⟨w.heap.size, 1, none⟩ = some (.int .u64 0) ∧ W1.cell? ⟨w.heap.size, 2, none⟩ = some (.string ⟨#[]⟩) ∧ W1.cell? ⟨w.heap.size, 3, none⟩ = some (.string ⟨#[]⟩) := by rw [hW1]; simp
  have fz : ∀ i, W1.frozen? ⟨w.heap.size, i, none⟩ = false := fun i => by rw [hW1, frozen?_alloc_cells]; exact frozen_none _ _ (Nat.le_refl _)
  have hz1 : w.heap.size < W1.heap.size := by rw [hW1]; simp
  go_enter Tryd.func29, Tryd.ntmps29
  go_wp2_with fail
  rw [← hW1]
  refine (hm _).mono ?_
  rintro e V ⟨rfl, hV⟩
  have d0 := up_cell hV c0.1
  have d1 := up_cell hV c0.2.1
  have d2 := up_cell hV c0.2.2.1
  have d3 := up_cell hV c0.2.2.2
  have ez : ∀ i, V.frozen? ⟨w.heap.size, i, none⟩ = false := fun i => (hV.frozen (p := ⟨w.heap.size, i, none⟩) hz1).trans (fz i)
  have e0 := ez 0
  have e1 := ez 1
  have e2 := ez 2
  have e3 := ez 3
  have hzV : w.heap.size < V.heap.size := Nat.lt_of_lt_of_le hz1 hV.size
  have hbV : Below w.heap.size w V := hb1.trans (hV.mono hb1.size)
  clear hm c0 fz ez hW1 hb1 hz1 hV
  go_wp2
  all_goals obtain ⟨r0, r1, r2, r3⟩ := set4 d0 d1 d2 d3 (.int .i64 k) (.int .u64 0) (.string ⟨#[]⟩) (.string ⟨#[]⟩)
  all_goals refine bodyPost_ret (v := .agg #[.int .i64 k, .int .u64 0, .string ⟨#[]⟩, .string ⟨#[]⟩]) (by simp [results, Tryd.results29, go_sem, r0, r1, r2, r3, hzV]) rfl ?_
  all_goals refine ⟨rfl, ?_⟩
  all_goals have hb4 : Below w.heap.size w ((((V.setCell ⟨w.heap.size, 0, none⟩ (.int .i64 k)).setCell ⟨w.heap.size, 1, none⟩ (.int .u64 0)).setCell ⟨w.heap.size, 2, none⟩ (.string ⟨#[]⟩)).setCell ⟨w.heap.size, 3, none⟩ (.string ⟨#[]⟩)) := (((hbV.setCell (Nat.le_refl _) _).setCell (Nat.le_refl _) _).setCell (Nat.le_refl _) _).setCell (Nat.le_refl _) _
  all_goals first | exact (hb4.alloc hb4.size _).alloc (by have := hb4.size; simp; omega) _ | exact hb4.alloc hb4.size _ | exact hb4.drew
set_option maxRecDepth 1000000 in
set_option maxHeartbeats 4000000 in
theorem rankof_octets (k h : Int) (ty : ByteArray) (s : ByteArray) : RkC (.iface 81 (.agg #[.int .i64 k, .string ty, .int .i64 h, .string s])) ⟨k, 0, ⟨#[]⟩, ⟨#[]⟩⟩ := by
  intro w
  have h0 := ta_octets_truth
  have h1 := ta_octets_signed
  have h2 := ta_octets_unsigned
  have h3 := ta_octets_text
  have hm := fun W => markof_octets k h ty s W
  obtain ⟨W1, hW1⟩ : ∃ W1, W1 = w.alloc (.cells #[.int .i64 0, .int .u64 0, .string ⟨#[]⟩, .string ⟨#[]⟩] 59) := ⟨_, rfl⟩
  have hb1 : Below w.heap.size w W1 := by rw [hW1]; exact (Below.refl _ _).alloc (Nat.le_refl _) _
  have c0 : W1.cell? ⟨w.heap.size, 0, none⟩ = some (.int .i64 0) ∧ W1.cell? ⟨w.heap.size, 1, none⟩ = some (.int .u64 0) ∧ W1.cell? ⟨w.heap.size, 2, none⟩ = some (.string ⟨#[]⟩) ∧ W1.cell? ⟨w.heap.size, 3, none⟩ = some (.string ⟨#[]⟩) := by rw [hW1]; simp
  have fz : ∀ i, W1.frozen? ⟨w.heap.size, i, none⟩ = false := fun i => by rw [hW1, frozen?_alloc_cells]; exact frozen_none _ _ (Nat.le_refl _)
  have hz1 : w.heap.size < W1.heap.size := by rw [hW1]; simp
  go_enter Tryd.func29, Tryd.ntmps29
  go_wp2_with fail
  rw [← hW1]
  refine (hm _).mono ?_
  rintro e V ⟨rfl, hV⟩
  have d0 := up_cell hV c0.1
  have d1 := up_cell hV c0.2.1
  have d2 := up_cell hV c0.2.2.1
  have d3 := up_cell hV c0.2.2.2
  have ez : ∀ i, V.frozen? ⟨w.heap.size, i, none⟩ = false := fun i => (hV.frozen (p := ⟨w.heap.size, i, none⟩) hz1).trans (fz i)
  have e0 := ez 0
  have e1 := ez 1
  have e2 := ez 2
  have e3 := ez 3
  have hzV : w.heap.size < V.heap.size := Nat.lt_of_lt_of_le hz1 hV.size
  have hbV : Below w.heap.size w V := hb1.trans (hV.mono hb1.size)
  clear hm c0 fz ez hW1 hb1 hz1 hV
  go_wp2
  all_goals obtain ⟨r0, r1, r2, r3⟩ := set4 d0 d1 d2 d3 (.int .i64 k) (.int .u64 0) (.string ⟨#[]⟩) (.string ⟨#[]⟩)
  all_goals refine bodyPost_ret (v := .agg #[.int .i64 k, .int .u64 0, .string ⟨#[]⟩, .string ⟨#[]⟩]) (by simp [results, Tryd.results29, go_sem, r0, r1, r2, r3, hzV]) rfl ?_
  all_goals refine ⟨rfl, ?_⟩
  all_goals have hb4 : Below w.heap.size w ((((V.setCell ⟨w.heap.size, 0, none⟩ (.int .i64 k)).setCell ⟨w.heap.size, 1, none⟩ (.int .u64 0)).setCell ⟨w.heap.size, 2, none⟩ (.string ⟨#[]⟩)).setCell ⟨w.heap.size, 3, none⟩ (.string ⟨#[]⟩)) := (((hbV.setCell (Nat.le_refl _) _).setCell (Nat.le_refl _) _).setCell (Nat.le_refl _) _).setCell (Nat.le_refl _) _
  all_goals first | exact (hb4.alloc hb4.size _).alloc (by have := hb4.size; simp; omega) _ | exact hb4.alloc hb4.size _ | exact hb4.drew
set_option maxRecDepth 1000000 in
set_option maxHeartbeats 4000000 in
theorem rankof_structure (k h : Int) (ty : ByteArray) (a1 a2 : Option Addr) (n1 n2 c1 c2 : Nat) : RkC (.iface 83 (.agg #[.int .i64 k, .string ty, .int .i64 h, .slice a1 n1 c1, .slice a2 n2 c2])) ⟨k, 0, ⟨#[]⟩, ⟨#[]⟩⟩ := by
  intro w
  have h0 := ta_structure_truth
  have h1 := ta_structure_signed
  have h2 := ta_structure_unsigned
  have h3 := ta_structure_text
  have hm := fun W => markof_structure k h ty a1 a2 n1 n2 c1 c2 W
  obtain ⟨W1, hW1⟩ : ∃ W1, W1 = w.alloc (.cells #[.int .i64 0, .int .u64 0, .string ⟨#[]⟩, .string ⟨#[]⟩] 59) := ⟨_, rfl⟩
  have hb1 : Below w.heap.size w W1 := by rw [hW1]; exact (Below.refl _ _).alloc (Nat.le_refl _) _
  have c0 : W1.cell? ⟨w.heap.size, 0, none⟩ = some (.int .i64 0) ∧ W1.cell? ⟨w.heap.size, 1, none⟩ = some (.int .u64 0) ∧ W1.cell? ⟨w.heap.size, 2, none⟩ = some (.string ⟨#[]⟩) ∧ W1.cell? ⟨w.heap.size, 3, none⟩ = some (.string ⟨#[]⟩) := by rw [hW1]; simp
  have fz : ∀ i, W1.frozen? ⟨w.heap.size, i, none⟩ = false := fun i => by rw [hW1, frozen?_alloc_cells]; exact frozen_none _ _ (Nat.le_refl _)
  have hz1 : w.heap.size < W1.heap.size := by rw [hW1]; simp
  go_enter Tryd.func29, Tryd.ntmps29
  go_wp2_with fail
  rw [← hW1]
  refine (hm _).mono ?_
  rintro e V ⟨rfl, hV⟩
  have d0 := up_cell hV c0.1
  have d1 := up_cell hV c0.2.1
  have d2 := up_cell hV c0.2.2.1
  have d3 := up_cell hV c0.2.2.2
  have ez : ∀ i, V.frozen? ⟨w.heap.size, i, none⟩ = false := fun i => (hV.frozen (p := ⟨w.heap.size, i, none⟩) hz1).trans (fz i)
  have e0 := ez 0
  have e1 := ez 1
  have e2 := ez 2
  have e3 := ez 3
  have hzV : w.heap.size < V.heap.size := Nat.lt_of_lt_of_le hz1 hV.size
  have hbV : Below w.heap.size w V := hb1.trans (hV.mono hb1.size)
  clear hm c0 fz ez hW1 hb1 hz1 hV
  go_wp2
  all_goals obtain ⟨r0, r1, r2, r3⟩ := set4 d0 d1 d2 d3 (.int .i64 k) (.int .u64 0) (.string ⟨#[]⟩) (.string ⟨#[]⟩)
  all_goals refine bodyPost_ret (v := .agg #[.int .i64 k, .int .u64 0, .string ⟨#[]⟩, .string ⟨#[]⟩]) (by simp [results, Tryd.results29, go_sem, r0, r1, r2, r3, hzV]) rfl ?_
  all_goals refine ⟨rfl, ?_⟩
  all_goals have hb4 : Below w.heap.size w ((((V.setCell ⟨w.heap.size, 0, none⟩ (.int .i64 k)).setCell ⟨w.heap.size, 1, none⟩ (.int .u64 0)).setCell ⟨w.heap.size, 2, none⟩ (.string ⟨#[]⟩)).setCell ⟨w.heap.size, 3, none⟩ (.string ⟨#[]⟩)) := (((hbV.setCell (Nat.le_refl _) _).setCell (Nat.le_refl _) _).setCell (Nat.le_refl _) _).setCell (Nat.le_refl _) _
  all_goals first | exact (hb4.alloc hb4.size _).alloc (by have := hb4.size; simp; omega) _ | exact hb4.alloc hb4.size _ | exact hb4.drew
set_option maxRecDepth 1000000 in
set_option maxHeartbeats 4000000 in
theorem rankof_list (k h : Int) (ty : ByteArray) (a1 : Option Addr) (n1 c1 : Nat) : RkC (.iface 96 (.agg #[.int .i64 k, .string ty, .int .i64 h, .slice a1 n1 c1])) ⟨k, 0, ⟨#[]⟩, ⟨#[]⟩⟩ := by
  intro w
  have h0 := ta_list_truth
  have h1 := ta_list_signed
  have h2 := ta_list_unsigned
  have h3 := ta_list_text
  have hm := fun W => markof_list k h ty a1 n1 c1 W
  obtain ⟨W1, hW1⟩ : ∃ W1, W1 = w.alloc (.cells #[.int .i64 0, .int .u64 0, .string ⟨#[]⟩, .string ⟨#[]⟩] 59) := ⟨_, rfl⟩
  have hb1 : Below w.heap.size w W1 := by rw [hW1]; exact (Below.refl _ _).alloc (Nat.le_refl _) _
  have c0 : W1.cell? ⟨w.heap.size, 0, none⟩ = some (.int .i64 0) ∧ W1.cell? ⟨w.heap.size, 1, none⟩ = some (.int .u64 0) ∧ W1.cell? ⟨w.heap.size, 2, none⟩ = some (.string ⟨#[]⟩) ∧ W1.cell? ⟨w.heap.size, 3, none⟩ = some (.string ⟨#[]⟩) := by rw [hW1]; simp
  have fz : ∀ i, W1.frozen? ⟨w.heap.size, i, none⟩ = false := fun i => by rw [hW1, frozen?_alloc_cells]; exact frozen_none _ _ (Nat.le_refl _)
  have hz1 : w.heap.size < W1.heap.size := by rw [hW1]; simp
  go_enter Tryd.func29, Tryd.ntmps29
  go_wp2_with fail
  rw [← hW1]
  refine (hm _).mono ?_
  rintro e V ⟨rfl, hV⟩
  have d0 := up_cell hV c0.1
  have d1 := up_cell hV c0.2.1
  have d2 := up_cell hV c0.2.2.1
  have d3 := up_cell hV c0.2.2.2
  have ez : ∀ i, V.frozen? ⟨w.heap.size, i, none⟩ = false := fun i => (hV.frozen (p := ⟨w.heap.size, i, none⟩) hz1).trans (fz i)
  have e0 := ez 0
  have e1 := ez 1
  have e2 := ez 2
  have e3 := ez 3
  have hzV : w.heap.size < V.heap.size := Nat.lt_of_lt_of_le hz1 hV.size
  have hbV : Below w.heap.size w V := hb1.trans (hV.mono hb1.size)
  clear hm c0 fz ez hW1 hb1 hz1 hV
  go_wp2
  all_goals obtain ⟨r0, r1, r2, r3⟩ := set4 d0 d1 d2 d3 (.int .i64 k) (.int .u64 0) (.string ⟨#[]⟩) (.string ⟨#[]⟩)
  all_goals refine bodyPost_ret (v := .agg #[.int .i64 k, .int .u64 0, .string ⟨#[]⟩, .string ⟨#[]⟩]) (by simp [results, Tryd.results29, go_sem, r0, r1, r2, r3, hzV]) rfl ?_
  all_goals refine ⟨rfl, ?_⟩
  all_goals have hb4 : Below w.heap.size w ((((V.setCell ⟨w.heap.size, 0, none⟩ (.int .i64 k)).setCell ⟨w.heap.size, 1, none⟩ (.int .u64 0)).setCell ⟨w.heap.size, 2, none⟩ (.string ⟨#[]⟩)).setCell ⟨w.heap.size, 3, none⟩ (.string ⟨#[]⟩)) := (((hbV.setCell (Nat.le_refl _) _).setCell (Nat.le_refl _) _).setCell (Nat.le_refl _) _).setCell (Nat.le_refl _) _
  all_goals first | exact (hb4.alloc hb4.size _).alloc (by have := hb4.size; simp; omega) _ | exact hb4.alloc hb4.size _ | exact hb4.drew
set_option maxRecDepth 1000000 in
set_option maxHeartbeats 4000000 in
theorem rankof_dictionary (k h : Int) (ty : ByteArray) (a1 : Option Addr) (n1 c1 : Nat) : RkC (.iface 100 (.agg #[.int .i64 k, .string ty, .int .i64 h, .slice a1 n1 c1])) ⟨k, 0, ⟨#[]⟩, ⟨#[]⟩⟩ := by
  intro w
  have h0 := ta_dictionary_truth
  have h1 := ta_dictionary_signed
  have h2 := ta_dictionary_unsigned
  have h3 := ta_dictionary_text
  have hm := fun W => markof_dictionary k h ty a1 n1 c1 W
  obtain ⟨W1, hW1⟩ : ∃ W1, W1 = w.alloc (.cells #[.int .i64 0, .int .u64 0, .string ⟨#[]⟩, .string ⟨#[]⟩] 59) := ⟨_, rfl⟩
  have hb1 : Below w.heap.size w W1 := by rw [hW1]; exact (Below.refl _ _).alloc (Nat.le_refl _) _
  have c0 : W1.cell? ⟨w.heap.size, 0, none⟩ = some (.int .i64 0) ∧ W1.cell? ⟨w.heap.size, 1, none⟩ = some (.int .u64 0) ∧ W1.cell? ⟨w.heap.size, 2, none⟩ = some (.string ⟨#[]⟩) ∧ W1.cell? ⟨w.heap.size, 3, none⟩ = some (.string ⟨#[]⟩) := by rw [hW1]; simp
  have fz : ∀ i, W1.frozen? ⟨w.heap.size, i, none⟩ = false := fun i => by rw [hW1, frozen?_alloc_cells]; exact frozen_none _ _ (Nat.le_refl _)
  have hz1 : w.heap.size < W1.heap.size := by rw [hW1]; simp
  go_enter Tryd.func29, Tryd.ntmps29
  go_wp2_with fail
  rw [← hW1]
  refine (hm _).mono ?_
  rintro e V ⟨rfl, hV⟩
  have d0 := up_cell hV c0.1
  have d1 := up_cell hV c0.2.1
  have d2 := up_cell hV c0.2.2.1
  have d3 := up_cell hV c0.2.2.2
  have ez : ∀ i, V.frozen? ⟨w.heap.size, i, none⟩ = false := fun i => (hV.frozen (p := ⟨w.heap.size, i, none⟩) hz1).trans (fz i)
  have e0 := ez 0
  have e1 := ez 1
  have e2 := ez 2
  have e3 := ez 3
  have hzV : w.heap.size < V.heap.size := Nat.lt_of_lt_of_le hz1 hV.size
  have hbV : Below w.heap.size w V := hb1.trans (hV.mono hb1.size)
  clear hm c0 fz ez hW1 hb1 hz1 hV
  go_wp2
  all_goals obtain ⟨r0, r1, r2, r3⟩ := set4 d0 d1 d2 d3 (.int .i64 k) (.int .u64 0) (.string ⟨#[]⟩) (.string ⟨#[]⟩)
  all_goals refine bodyPost_ret (v := .agg #[.int .i64 k, .int .u64 0, .string ⟨#[]⟩, .string ⟨#[]⟩]) (by simp [results, Tryd.results29, go_sem, r0, r1, r2, r3, hzV]) rfl ?_
  all_goals refine ⟨rfl, ?_⟩
  all_goals have hb4 : Below w.heap.size w ((((V.setCell ⟨w.heap.size, 0, none⟩ (.int .i64 k)).setCell ⟨w.heap.size, 1, none⟩ (.int .u64 0)).setCell ⟨w.heap.size, 2, none⟩ (.string ⟨#[]⟩)).setCell ⟨w.heap.size, 3, none⟩ (.string ⟨#[]⟩)) := (((hbV.setCell (Nat.le_refl _) _).setCell (Nat.le_refl _) _).setCell (Nat.le_refl _) _).setCell (Nat.le_refl _) _
  all_goals first | exact (hb4.alloc hb4.size _).alloc (by have := hb4.size; simp; omega) _ | exact hb4.alloc hb4.size _ | exact hb4.drew
set_option maxRecDepth 1000000 in
set_option maxHeartbeats 4000000 in
theorem rankof_pointer (k h : Int) (ty : ByteArray) (n : Int) (a1 : Option Addr) (n1 c1 : Nat) : RkC (.iface 85 (.agg #[.int .i64 k, .string ty, .int .i64 h, .int .u64 n, .slice a1 n1 c1])) ⟨k, 0, ⟨#[]⟩, ⟨#[]⟩⟩ := by
  intro w
  have h0 := ta_pointer_truth
  have h1 := ta_pointer_signed
  have h2 := ta_pointer_unsigned
  have h3 := ta_pointer_text
  have hm := fun W => markof_pointer k h ty n a1 n1 c1 W
  obtain ⟨W1, hW1⟩ : ∃ W1, W1 = w.alloc (.cells #[.int .i64 0, .int .u64 0, .string ⟨#[]⟩, .string ⟨#[]⟩] 59) := ⟨_, rfl⟩
  have hb1 : Below w.heap.size w W1 := by rw [hW1]; exact (Below.refl _ _).alloc (Nat.le_refl _) _
  have c0 : W1.cell? ⟨w.heap.size, 0, none⟩ = some (.int .i64 0) ∧ W1.cell? ⟨w.heap.size, 1, none⟩ = some (.int .u64 0) ∧ W1.cell? ⟨w.heap.size, 2, none⟩ = some (.string ⟨#[]⟩) ∧ W1.cell? ⟨w.heap.size, 3, none⟩ = some (.string ⟨#[]⟩) := by rw [hW1]; simp
  have fz : ∀ i, W1.frozen? ⟨w.heap.size, i, none⟩ = false := fun i => by rw [hW1, frozen?_alloc_cells]; exact frozen_none _ _ (Nat.le_refl _)
  have hz1 : w.heap.size < W1.heap.size := by rw [hW1]; simp
  go_enter Tryd.func29, Tryd.ntmps29
  go_wp2_with fail
  rw [← hW1]
  refine (hm _).mono ?_
  rintro e V ⟨rfl, hV⟩
  have d0 := up_cell hV c0.1
  have d1 := up_cell hV c0.2.1
  have d2 := up_cell hV c0.2.2.1
  have d3 := up_cell hV c0.2.2.2
  have ez : ∀ i, V.frozen? ⟨w.heap.size, i, none⟩ = false := fun i => (hV.frozen (p := ⟨w.heap.size, i, none⟩) hz1).trans (fz i)
  have e0 := ez 0
  have e1 := ez 1
  have e2 := ez 2
  have e3 := ez 3
  have hzV : w.heap.size < V.heap.size := Nat.lt_of_lt_of_le hz1 hV.size
  have hbV : Below w.heap.size w V := hb1.trans (hV.mono hb1.size)
  clear hm c0 fz ez hW1 hb1 hz1 hV
  go_wp2
  all_goals obtain ⟨r0, r1, r2, r3⟩ := set4 d0 d1 d2 d3 (.int .i64 k) (.int .u64 0) (.string ⟨#[]⟩) (.string ⟨#[]⟩)
  all_goals refine bodyPost_ret (v := .agg #[.int .i64 k, .int .u64 0, .string ⟨#[]⟩, .string ⟨#[]⟩]) (by simp [results, Tryd.results29, go_sem, r0, r1, r2, r3, hzV]) rfl ?_
  all_goals refine ⟨rfl, ?_⟩
  all_goals have hb4 : Below w.heap.size w ((((V.setCell ⟨w.heap.size, 0, none⟩ (.int .i64 k)).setCell ⟨w.heap.size, 1, none⟩ (.int .u64 0)).setCell ⟨w.heap.size, 2, none⟩ (.string ⟨#[]⟩)).setCell ⟨w.heap.size, 3, none⟩ (.string ⟨#[]⟩)) := (((hbV.setCell (Nat.le_refl _) _).setCell (Nat.le_refl _) _).setCell (Nat.le_refl _) _).setCell (Nat.le_refl _) _
  all_goals first | exact (hb4.alloc hb4.size _).alloc (by have := hb4.size; simp; omega) _ | exact hb4.alloc hb4.size _ | exact hb4.drew
end Go.Proofs.YtjphklhfigammaaDoor
