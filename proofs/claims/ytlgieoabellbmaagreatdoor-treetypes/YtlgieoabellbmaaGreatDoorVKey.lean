/- markOf, rankOf and Cmp at the keys' types, told with the draws. -/
import Derived.Test.YtlgieoabellbmaaGreatDoorVRankA
import Derived.Sort.Grow
import Derived.Deep.Draws
namespace Go.Proofs.YtlgieoabellbmaaGreatDoor
open Go.RowKit
set_option linter.unusedVariables false
set_option linter.unusedSimpArgs false
theorem gr_of {W W' : World} (h : Below W.heap.size W W') (hd : W.drawn ≤ W'.drawn) : ∃ q os, W' = Sort.grow (W.drewN q) os := by
 refine ⟨W'.drawn - W.drawn, W'.heap.extract W.heap.size W'.heap.size, ?_⟩
 have hh : W'.heap = W.heap ++ W'.heap.extract W.heap.size W'.heap.size := by
  apply Array.ext_getElem?
  intro i
  have hs := h.size
  by_cases hi : i < W.heap.size
  ·rw [Array.getElem?_append_left hi]
   exact h.block i hi
  ·rw [Array.getElem?_append_right (by omega), Array.getElem?_extract]
   split
   ·congr 1; omega
   ·exact Array.getElem?_eq_none (by omega)
 obtain ⟨he, ta, dr, os, ou⟩ := W'
 obtain ⟨he2, ta2, dr2, os2, ou2⟩ := W
 have h1 := h.os; have h2 := h.tape; have h3 := h.output
 simp only at h1 h2 h3 hd hh
 subst h1 h2 h3
 unfold Sort.grow World.drewN
 simp only [World.mk.injEq]
 refine ⟨hh, trivial, by omega, trivial, trivial⟩
set_option maxRecDepth 1000000 in
theorem itselfD (k h : Int) (ty : ByteArray) (w : World) : Calls Tryz.prog 305 #[.agg #[.int .i64 k, .string ty, .int .i64 h]] w fun e w' => e = .returned (.agg #[.int .i64 k, .string ty, .int .i64 h]) ∧ Below w.heap.size w w' ∧ w.drawn ≤ w'.drawn := by
 go_enter Tryz.func305, Tryz.ntmps305
 go_wp2
 go_returns
 exact ⟨rfl, ((Below.refl _ _).alloc (Nat.le_refl _) _).alloc (by simp) _, Nat.le_refl _⟩
set_option maxRecDepth 1000000 in
set_option maxHeartbeats 1000000 in
theorem markofD_truth (k h : Int) (ty : ByteArray) (b : Bool) (w : World) : Calls Tryz.prog 26 #[.iface 101 (.agg #[.int .i64 k, .string ty, .int .i64 h, .bool b])] w fun e w' => e = .returned (.agg #[.int .i64 k, .string ty, .int .i64 h]) ∧ Below w.heap.size w w' ∧ w.drawn ≤ w'.drawn := by
 have ha := tm_truth
 have hit := fun W => itselfD k h ty W
 have hsz := mark_sz
 obtain ⟨W1, hW1⟩ : ∃ W1, W1 = w.alloc (.cells #[.int .i64 0, .string ⟨#[]⟩, .int .i64 0] 60) := ⟨_, rfl⟩
 have hb1 : Below w.heap.size w W1 := by rw [hW1]; exact (Below.refl _ _).alloc (Nat.le_refl _) _
 have c0 : W1.cell? ⟨w.heap.size, 0, none⟩ = some (.int .i64 0) ∧ W1.cell? ⟨w.heap.size, 1, none⟩ = some (.string ⟨#[]⟩) ∧ W1.cell? ⟨w.heap.size, 2, none⟩ = some (.int .i64 0) := by rw [hW1]; simp
 have fz : ∀ i, W1.frozen? ⟨w.heap.size, i, none⟩ = false := fun i => by rw [hW1, frozen?_alloc_cells]; exact frozen_none _ _ (Nat.le_refl _)
 have hd1 : W1.drawn = w.drawn := by rw [hW1]; rfl
 have hz1 : w.heap.size < W1.heap.size := by rw [hW1]; simp
 go_enter Tryz.func26, Tryz.ntmps26
 go_wp2_with fail
 rw [← hW1]
 first | rw [hsz] | skip
 refine (hit _).mono ?_
 rintro e V ⟨rfl, hV, hdV⟩
 rw [hd1] at hdV
 have d0 := up_cell hV c0.1
 have d1 := up_cell hV c0.2.1
 have d2 := up_cell hV c0.2.2
 have e0 := (hV.frozen (p := ⟨w.heap.size, 0, none⟩) hz1).trans (fz 0)
 have e1 := (hV.frozen (p := ⟨w.heap.size, 1, none⟩) hz1).trans (fz 1)
 have e2 := (hV.frozen (p := ⟨w.heap.size, 2, none⟩) hz1).trans (fz 2)
 clear ha hit hsz c0 fz
 go_wp2
 obtain ⟨r0, r1, r2⟩ := set3 d0 d1 d2 (.int .i64 k) (.string ty) (.int .i64 h)
 refine bodyPost_ret (v := .agg #[.int .i64 k, .string ty, .int .i64 h]) (by simp [results, Tryz.results26, go_sem, r0, r1, r2]) rfl ?_
 exact ⟨rfl, set3_below (hb1.trans (hV.mono hb1.size)) (Nat.le_refl _), hdV⟩
set_option maxRecDepth 1000000 in
set_option maxHeartbeats 1000000 in
theorem markofD_signed (k h : Int) (ty : ByteArray) (n : Int) (w : World) : Calls Tryz.prog 26 #[.iface 104 (.agg #[.int .i64 k, .string ty, .int .i64 h, .int .i64 n])] w fun e w' => e = .returned (.agg #[.int .i64 k, .string ty, .int .i64 h]) ∧ Below w.heap.size w w' ∧ w.drawn ≤ w'.drawn := by
 have ha := tm_signed
 have hit := fun W => itselfD k h ty W
 have hsz := mark_sz
 obtain ⟨W1, hW1⟩ : ∃ W1, W1 = w.alloc (.cells #[.int .i64 0, .string ⟨#[]⟩, .int .i64 0] 60) := ⟨_, rfl⟩
 have hb1 : Below w.heap.size w W1 := by rw [hW1]; exact (Below.refl _ _).alloc (Nat.le_refl _) _
 have c0 : W1.cell? ⟨w.heap.size, 0, none⟩ = some (.int .i64 0) ∧ W1.cell? ⟨w.heap.size, 1, none⟩ = some (.string ⟨#[]⟩) ∧ W1.cell? ⟨w.heap.size, 2, none⟩ = some (.int .i64 0) := by rw [hW1]; simp
 have fz : ∀ i, W1.frozen? ⟨w.heap.size, i, none⟩ = false := fun i => by rw [hW1, frozen?_alloc_cells]; exact frozen_none _ _ (Nat.le_refl _)
 have hd1 : W1.drawn = w.drawn := by rw [hW1]; rfl
 have hz1 : w.heap.size < W1.heap.size := by rw [hW1]; simp
 go_enter Tryz.func26, Tryz.ntmps26
 go_wp2_with fail
 rw [← hW1]
 first | rw [hsz] | skip
 refine (hit _).mono ?_
 rintro e V ⟨rfl, hV, hdV⟩
 rw [hd1] at hdV
 have d0 := up_cell hV c0.1
 have d1 := up_cell hV c0.2.1
 have d2 := up_cell hV c0.2.2
 have e0 := (hV.frozen (p := ⟨w.heap.size, 0, none⟩) hz1).trans (fz 0)
 have e1 := (hV.frozen (p := ⟨w.heap.size, 1, none⟩) hz1).trans (fz 1)
 have e2 := (hV.frozen (p := ⟨w.heap.size, 2, none⟩) hz1).trans (fz 2)
 clear ha hit hsz c0 fz
 go_wp2
 obtain ⟨r0, r1, r2⟩ := set3 d0 d1 d2 (.int .i64 k) (.string ty) (.int .i64 h)
 refine bodyPost_ret (v := .agg #[.int .i64 k, .string ty, .int .i64 h]) (by simp [results, Tryz.results26, go_sem, r0, r1, r2]) rfl ?_
 exact ⟨rfl, set3_below (hb1.trans (hV.mono hb1.size)) (Nat.le_refl _), hdV⟩
set_option maxRecDepth 1000000 in
set_option maxHeartbeats 1000000 in
theorem markofD_unsigned (k h : Int) (ty : ByteArray) (n : Int) (w : World) : Calls Tryz.prog 26 #[.iface 107 (.agg #[.int .i64 k, .string ty, .int .i64 h, .int .u64 n])] w fun e w' => e = .returned (.agg #[.int .i64 k, .string ty, .int .i64 h]) ∧ Below w.heap.size w w' ∧ w.drawn ≤ w'.drawn := by
 have ha := tm_unsigned
 have hit := fun W => itselfD k h ty W
 have hsz := mark_sz
 obtain ⟨W1, hW1⟩ : ∃ W1, W1 = w.alloc (.cells #[.int .i64 0, .string ⟨#[]⟩, .int .i64 0] 60) := ⟨_, rfl⟩
 have hb1 : Below w.heap.size w W1 := by rw [hW1]; exact (Below.refl _ _).alloc (Nat.le_refl _) _
 have c0 : W1.cell? ⟨w.heap.size, 0, none⟩ = some (.int .i64 0) ∧ W1.cell? ⟨w.heap.size, 1, none⟩ = some (.string ⟨#[]⟩) ∧ W1.cell? ⟨w.heap.size, 2, none⟩ = some (.int .i64 0) := by rw [hW1]; simp
 have fz : ∀ i, W1.frozen? ⟨w.heap.size, i, none⟩ = false := fun i => by rw [hW1, frozen?_alloc_cells]; exact frozen_none _ _ (Nat.le_refl _)
 have hd1 : W1.drawn = w.drawn := by rw [hW1]; rfl
 have hz1 : w.heap.size < W1.heap.size := by rw [hW1]; simp
 go_enter Tryz.func26, Tryz.ntmps26
 go_wp2_with fail
 rw [← hW1]
 first | rw [hsz] | skip
 refine (hit _).mono ?_
 rintro e V ⟨rfl, hV, hdV⟩
 rw [hd1] at hdV
 have d0 := up_cell hV c0.1
 have d1 := up_cell hV c0.2.1
 have d2 := up_cell hV c0.2.2
 have e0 := (hV.frozen (p := ⟨w.heap.size, 0, none⟩) hz1).trans (fz 0)
 have e1 := (hV.frozen (p := ⟨w.heap.size, 1, none⟩) hz1).trans (fz 1)
 have e2 := (hV.frozen (p := ⟨w.heap.size, 2, none⟩) hz1).trans (fz 2)
 clear ha hit hsz c0 fz
 go_wp2
 obtain ⟨r0, r1, r2⟩ := set3 d0 d1 d2 (.int .i64 k) (.string ty) (.int .i64 h)
 refine bodyPost_ret (v := .agg #[.int .i64 k, .string ty, .int .i64 h]) (by simp [results, Tryz.results26, go_sem, r0, r1, r2]) rfl ?_
 exact ⟨rfl, set3_below (hb1.trans (hV.mono hb1.size)) (Nat.le_refl _), hdV⟩
set_option maxRecDepth 1000000 in
set_option maxHeartbeats 1000000 in
theorem markofD_text (k h : Int) (ty : ByteArray) (s : ByteArray) (w : World) : Calls Tryz.prog 26 #[.iface 114 (.agg #[.int .i64 k, .string ty, .int .i64 h, .string s])] w fun e w' => e = .returned (.agg #[.int .i64 k, .string ty, .int .i64 h]) ∧ Below w.heap.size w w' ∧ w.drawn ≤ w'.drawn := by
 have ha := tm_text
 have hit := fun W => itselfD k h ty W
 have hsz := mark_sz
 obtain ⟨W1, hW1⟩ : ∃ W1, W1 = w.alloc (.cells #[.int .i64 0, .string ⟨#[]⟩, .int .i64 0] 60) := ⟨_, rfl⟩
 have hb1 : Below w.heap.size w W1 := by rw [hW1]; exact (Below.refl _ _).alloc (Nat.le_refl _) _
 have c0 : W1.cell? ⟨w.heap.size, 0, none⟩ = some (.int .i64 0) ∧ W1.cell? ⟨w.heap.size, 1, none⟩ = some (.string ⟨#[]⟩) ∧ W1.cell? ⟨w.heap.size, 2, none⟩ = some (.int .i64 0) := by rw [hW1]; simp
 have fz : ∀ i, W1.frozen? ⟨w.heap.size, i, none⟩ = false := fun i => by rw [hW1, frozen?_alloc_cells]; exact frozen_none _ _ (Nat.le_refl _)
 have hd1 : W1.drawn = w.drawn := by rw [hW1]; rfl
 have hz1 : w.heap.size < W1.heap.size := by rw [hW1]; simp
 go_enter Tryz.func26, Tryz.ntmps26
 go_wp2_with fail
 rw [← hW1]
 first | rw [hsz] | skip
 refine (hit _).mono ?_
 rintro e V ⟨rfl, hV, hdV⟩
 rw [hd1] at hdV
 have d0 := up_cell hV c0.1
 have d1 := up_cell hV c0.2.1
 have d2 := up_cell hV c0.2.2
 have e0 := (hV.frozen (p := ⟨w.heap.size, 0, none⟩) hz1).trans (fz 0)
 have e1 := (hV.frozen (p := ⟨w.heap.size, 1, none⟩) hz1).trans (fz 1)
 have e2 := (hV.frozen (p := ⟨w.heap.size, 2, none⟩) hz1).trans (fz 2)
 clear ha hit hsz c0 fz
 go_wp2
 obtain ⟨r0, r1, r2⟩ := set3 d0 d1 d2 (.int .i64 k) (.string ty) (.int .i64 h)
 refine bodyPost_ret (v := .agg #[.int .i64 k, .string ty, .int .i64 h]) (by simp [results, Tryz.results26, go_sem, r0, r1, r2]) rfl ?_
 exact ⟨rfl, set3_below (hb1.trans (hV.mono hb1.size)) (Nat.le_refl _), hdV⟩
def RkD (v : Value) (r : Rk) : Prop := ∀ W, Calls Tryz.prog 143 #[v] W fun e w' => e = .returned (.agg #[.int .i64 r.k, .int .u64 r.n, .string r.s, .string r.t]) ∧ Below W.heap.size W w' ∧ W.drawn ≤ w'.drawn
set_option maxRecDepth 1000000 in
set_option maxHeartbeats 4000000 in
theorem rankofD_truth (k h : Int) (ty : ByteArray) (b : Bool) : RkD (.iface 101 (.agg #[.int .i64 k, .string ty, .int .i64 h, .bool b])) ⟨k, (if b then 1 else 0), ⟨#[]⟩, ty⟩ := by
 have ho := fun W => oneif_any b W
 generalize (if b then (1 : Int) else 0) = z at ho ⊢
 intro w
 have h0 := ta_truth_truth
 have h1 := ta_truth_signed
 have h2 := ta_truth_unsigned
 have h3 := ta_truth_text
 have hm := fun W => markofD_truth k h ty b W
 obtain ⟨W1, hW1⟩ : ∃ W1, W1 = w.alloc (.cells #[.int .i64 0, .int .u64 0, .string ⟨#[]⟩, .string ⟨#[]⟩] 214) := ⟨_, rfl⟩
 have hb1 : Below w.heap.size w W1 := by rw [hW1]; exact (Below.refl _ _).alloc (Nat.le_refl _) _
 have c0 : W1.cell? ⟨w.heap.size, 0, none⟩ = some (.int .i64 0) ∧ W1.cell? ⟨w.heap.size, 1, none⟩ = some (.int .u64 0) ∧ W1.cell? ⟨w.heap.size, 2, none⟩ = some (.string ⟨#[]⟩) ∧ W1.cell? ⟨w.heap.size, 3, none⟩ = some (.string ⟨#[]⟩) := by rw [hW1]; simp
 have fz : ∀ i, W1.frozen? ⟨w.heap.size, i, none⟩ = false := fun i => by rw [hW1, frozen?_alloc_cells]; exact frozen_none _ _ (Nat.le_refl _)
 have hd1 : W1.drawn = w.drawn := by rw [hW1]; rfl
 have hz1 : w.heap.size < W1.heap.size := by rw [hW1]; simp
 go_enter Tryz.func143, Tryz.ntmps143
 go_wp2_with fail
 rw [← hW1]
 refine (hm _).mono ?_
 rintro e V ⟨rfl, hV, hdV⟩
 rw [hd1] at hdV
 have d0 := up_cell hV c0.1
 have d1 := up_cell hV c0.2.1
 have d2 := up_cell hV c0.2.2.1
 have d3 := up_cell hV c0.2.2.2
 have ez : ∀ i, V.frozen? ⟨w.heap.size, i, none⟩ = false := fun i => (hV.frozen (p := ⟨w.heap.size, i, none⟩) hz1).trans (fz i)
 have e0 := ez 0
 have e1 := ez 1
 have e2 := ez 2
 have e3 := ez 3
 have hzV : w.heap.size < V.heap.size := Nat.lt_of_lt_of_le hz1 hV.size
 have hbV : Below w.heap.size w V := hb1.trans (hV.mono hb1.size)
 clear hm c0 fz ez hW1 hb1 hz1 hV
 obtain ⟨W3, hW3⟩ : ∃ W3, W3 = (V.alloc (.cells #[.int .i64 k, .string ty, .int .i64 h] 60)).alloc (.cells #[.int .i64 k, .string ty, .int .i64 h, .bool b] 101) := ⟨_, rfl⟩
 have hbW : Below V.heap.size V W3 := by rw [hW3]; exact ((Below.refl _ _).alloc (Nat.le_refl _) _).alloc (by simp) _
 have f0 : (fun w' => w'.cell? ⟨V.heap.size, 0, none⟩ = some (.int .i64 k) ∧ w'.cell? ⟨V.heap.size, 1, none⟩ = some (.string ty) ∧ w'.cell? ⟨V.heap.size + 1, 3, none⟩ = some (.bool b)) W3 := by
  rw [hW3]
  refine ⟨?_, ?_, ?_⟩
  all_goals simp [go_sem]
 have hd : Below V.heap.size V W3 := hbW
 have hd3 : V.drawn = W3.drawn := by rw [hW3]; rfl
 have z0 := up_cell hd d0
 have z1 := up_cell hd d1
 have z2 := up_cell hd d2
 have z3 := up_cell hd d3
 have y0 := (hd.frozen (p := ⟨w.heap.size, 0, none⟩) hzV).trans e0
 have y1 := (hd.frozen (p := ⟨w.heap.size, 1, none⟩) hzV).trans e1
 have y2 := (hd.frozen (p := ⟨w.heap.size, 2, none⟩) hzV).trans e2
 have y3 := (hd.frozen (p := ⟨w.heap.size, 3, none⟩) hzV).trans e3
 go_wp2
 rw [← hW3]
 clear hW3 d0 d1 d2 d3 e0 e1 e2 e3 h0 h1 h2 h3
 refine wp_region_held_drew (S := fun w' => w'.cell? ⟨V.heap.size, 0, none⟩ = some (.int .i64 k) ∧ w'.cell? ⟨V.heap.size, 1, none⟩ = some (.string ty) ∧ w'.cell? ⟨V.heap.size + 1, 3, none⟩ = some (.bool b)) (by kernel_rfl) f0 ?_
 intro hS
 refine tk 0 (.pointer (some ⟨V.heap.size, 0, none⟩)) rfl (by kernel_rfl) (fun _ _ _ h => h) (by rfl) (by assumption) ?_ ?_
 ·intro w5 hSw
  obtain ⟨s0, s1, s2⟩ := hSw
  go_simp
 simp only [Act.put, List.setIfInBounds_toArray, List.set_cons_zero, List.set_cons_succ]
 refine tk 1 (.int .i64 k) rfl (by kernel_rfl) (fun _ _ _ h => h) (by rfl) (by assumption) ?_ ?_
 ·intro w5 hSw
  obtain ⟨s0, s1, s2⟩ := hSw
  go_simp
 simp only [Act.put, List.setIfInBounds_toArray, List.set_cons_zero, List.set_cons_succ]
 refine tk 2 (.pointer (some ⟨V.heap.size + 1, 3, none⟩)) rfl (by kernel_rfl) (fun _ _ _ h => h) (by rfl) (by assumption) ?_ ?_
 ·intro w5 hSw
  obtain ⟨s0, s1, s2⟩ := hSw
  go_simp
 simp only [Act.put, List.setIfInBounds_toArray, List.set_cons_zero, List.set_cons_succ]
 refine tk 3 (.bool b) rfl (by kernel_rfl) (fun _ _ _ h => h) (by rfl) (by assumption) ?_ ?_
 ·intro w5 hSw
  obtain ⟨s0, s1, s2⟩ := hSw
  go_simp
 simp only [Act.put, List.setIfInBounds_toArray, List.set_cons_zero, List.set_cons_succ]
 refine tk 5 (.pointer (some ⟨V.heap.size, 1, none⟩)) rfl (by kernel_rfl) (fun _ _ _ h => h) (by rfl) (by assumption) ?_ ?_
 ·intro w5 hSw
  obtain ⟨s0, s1, s2⟩ := hSw
  go_simp
 simp only [Act.put, List.setIfInBounds_toArray, List.set_cons_zero, List.set_cons_succ]
 refine tk 6 (.string ty) rfl (by kernel_rfl) (fun _ _ _ h => h) (by rfl) (by assumption) ?_ ?_
 ·intro w5 hSw
  obtain ⟨s0, s1, s2⟩ := hSw
  go_simp
 simp only [Act.put, List.setIfInBounds_toArray, List.set_cons_zero, List.set_cons_succ]
 refine rd1 4 (by kernel_rfl) rfl fun K hK => ?_
 go_simp
 refine (ho _).mono ?_
 rintro e Z ⟨rfl, hZ⟩
 rw [hZ]
 clear hZ Z ho
 refine hK.out _ _ f0 (fun _ => ?_)
 refine rd1 7 (by kernel_rfl) rfl fun K1 hK1 => ?_
 go_simp
 refine hK1.out _ _ f0 (fun _ => ?_)
 refine rd1 8 (by kernel_rfl) rfl fun K2 hK2 => ?_
 go_simp
 have hf2 : ∀ y0 y1 y2 y3 : Value, ((fun (w' : World) => w'.cell? ⟨V.heap.size, 0, none⟩ = some (.int .i64 k) ∧ w'.cell? ⟨V.heap.size, 1, none⟩ = some (.string ty) ∧ w'.cell? ⟨V.heap.size + 1, 3, none⟩ = some (.bool b)) ((((W3.setCell ⟨w.heap.size, 0, none⟩ y0).setCell ⟨w.heap.size, 1, none⟩ y1).setCell ⟨w.heap.size, 2, none⟩ y2).setCell ⟨w.heap.size, 3, none⟩ y3)) := by
  intro y0 y1 y2 y3
  have ne1 : ∀ o : Nat, ∀ b : Nat, w.heap.size ≠ b → ((((W3.setCell ⟨w.heap.size, 0, none⟩ y0).setCell ⟨w.heap.size, 1, none⟩ y1).setCell ⟨w.heap.size, 2, none⟩ y2).setCell ⟨w.heap.size, 3, none⟩ y3).cell? ⟨b, o, none⟩ = W3.cell? ⟨b, o, none⟩ := by
   intro o b hb
   refine World.cell?_of_block ?_
   show _ = _
   rw [Below.heap_setCell _ _ _ _ (Ne.symm hb), Below.heap_setCell _ _ _ _ (Ne.symm hb), Below.heap_setCell _ _ _ _ (Ne.symm hb), Below.heap_setCell _ _ _ _ (Ne.symm hb)]
  refine ⟨?_, ?_, ?_⟩
  ·rw [ne1 _ _ (by omega)]; exact f0.1
  ·rw [ne1 _ _ (by omega)]; exact f0.2.1
  ·rw [ne1 _ _ (by omega)]; exact f0.2.2
 refine hK2.out _ _ (hf2 _ _ _ _) (fun _ => ?_)
 refine wpAnyH_done (by kernel_rfl) ?_ _
 have d0 := z0
 have d1 := z1
 have d2 := z2
 have d3 := z3
 have hbV2 : Below w.heap.size w W3 := hbV.trans (hbW.mono hbV.size)
 clear hK hK1 hK2 z0 z1 z2 z3
 go_wp2
 all_goals obtain ⟨r0, r1, r2, r3⟩ := set4 d0 d1 d2 d3 (.int .i64 k) (.int .u64 z) (.string ⟨#[]⟩) (.string ty)
 all_goals refine bodyPost_ret (v := .agg #[.int .i64 k, .int .u64 z, .string ⟨#[]⟩, .string ty]) (by simp [results, Tryz.results143, go_sem, r0, r1, r2, r3, hzV]) rfl ?_
 all_goals refine ⟨rfl, ?_, ?_⟩
 rotate_left
 ·exact Nat.le_succ_of_le (hd3 ▸ hdV)
 all_goals have hb4 : Below w.heap.size w ((((W3.setCell ⟨w.heap.size, 0, none⟩ (.int .i64 k)).setCell ⟨w.heap.size, 1, none⟩ (.int .u64 z)).setCell ⟨w.heap.size, 2, none⟩ (.string ⟨#[]⟩)).setCell ⟨w.heap.size, 3, none⟩ (.string ty)) := (((hbV2.setCell (Nat.le_refl _) _).setCell (Nat.le_refl _) _).setCell (Nat.le_refl _) _).setCell (Nat.le_refl _) _
 all_goals first | exact (hb4.alloc hb4.size _).alloc (by have := hb4.size; simp; omega) _ | exact hb4.alloc hb4.size _ | exact hb4.drew
set_option maxRecDepth 1000000 in
set_option maxHeartbeats 4000000 in
theorem rankofD_signed (k h : Int) (ty : ByteArray) (n : Int) (hk : -9223372036854775808 ≤ n ∧ n ≤ 9223372036854775807) : RkD (.iface 104 (.agg #[.int .i64 k, .string ty, .int .i64 h, .int .i64 n])) ⟨k, (n + 9223372036854775808), ⟨#[]⟩, ty⟩ := by
 intro w
 have h0 := ta_signed_truth
 have h1 := ta_signed_signed
 have h2 := ta_signed_unsigned
 have h3 := ta_signed_text
 have hm := fun W => markofD_signed k h ty n W
 obtain ⟨W1, hW1⟩ : ∃ W1, W1 = w.alloc (.cells #[.int .i64 0, .int .u64 0, .string ⟨#[]⟩, .string ⟨#[]⟩] 214) := ⟨_, rfl⟩
 have hb1 : Below w.heap.size w W1 := by rw [hW1]; exact (Below.refl _ _).alloc (Nat.le_refl _) _
 have c0 : W1.cell? ⟨w.heap.size, 0, none⟩ = some (.int .i64 0) ∧ W1.cell? ⟨w.heap.size, 1, none⟩ = some (.int .u64 0) ∧ W1.cell? ⟨w.heap.size, 2, none⟩ = some (.string ⟨#[]⟩) ∧ W1.cell? ⟨w.heap.size, 3, none⟩ = some (.string ⟨#[]⟩) := by rw [hW1]; simp
 have fz : ∀ i, W1.frozen? ⟨w.heap.size, i, none⟩ = false := fun i => by rw [hW1, frozen?_alloc_cells]; exact frozen_none _ _ (Nat.le_refl _)
 have hd1 : W1.drawn = w.drawn := by rw [hW1]; rfl
 have hz1 : w.heap.size < W1.heap.size := by rw [hW1]; simp
 go_enter Tryz.func143, Tryz.ntmps143
 go_wp2_with fail
 rw [← hW1]
 refine (hm _).mono ?_
 rintro e V ⟨rfl, hV, hdV⟩
 rw [hd1] at hdV
 have d0 := up_cell hV c0.1
 have d1 := up_cell hV c0.2.1
 have d2 := up_cell hV c0.2.2.1
 have d3 := up_cell hV c0.2.2.2
 have ez : ∀ i, V.frozen? ⟨w.heap.size, i, none⟩ = false := fun i => (hV.frozen (p := ⟨w.heap.size, i, none⟩) hz1).trans (fz i)
 have e0 := ez 0
 have e1 := ez 1
 have e2 := ez 2
 have e3 := ez 3
 have hzV : w.heap.size < V.heap.size := Nat.lt_of_lt_of_le hz1 hV.size
 have hbV : Below w.heap.size w V := hb1.trans (hV.mono hb1.size)
 clear hm c0 fz ez hW1 hb1 hz1 hV
 go_wp2
 all_goals obtain ⟨r0, r1, r2, r3⟩ := set4 d0 d1 d2 d3 (.int .i64 k) (.int .u64 (bits .xor .u64 (IntKind.u64.wrap n) 9223372036854775808)) (.string ⟨#[]⟩) (.string ty)
 all_goals refine bodyPost_ret (v := .agg #[.int .i64 k, .int .u64 (bits .xor .u64 (IntKind.u64.wrap n) 9223372036854775808), .string ⟨#[]⟩, .string ty]) (by simp [results, Tryz.results143, go_sem, r0, r1, r2, r3, hzV]) rfl ?_
 all_goals refine ⟨by rw [xor_sign n hk.1 hk.2], ?_, ?_⟩
 rotate_left
 ·exact hdV
 all_goals have hb4 : Below w.heap.size w ((((V.setCell ⟨w.heap.size, 0, none⟩ (.int .i64 k)).setCell ⟨w.heap.size, 1, none⟩ (.int .u64 (bits .xor .u64 (IntKind.u64.wrap n) 9223372036854775808))).setCell ⟨w.heap.size, 2, none⟩ (.string ⟨#[]⟩)).setCell ⟨w.heap.size, 3, none⟩ (.string ty)) := (((hbV.setCell (Nat.le_refl _) _).setCell (Nat.le_refl _) _).setCell (Nat.le_refl _) _).setCell (Nat.le_refl _) _
 all_goals first | exact (hb4.alloc hb4.size _).alloc (by have := hb4.size; simp; omega) _ | exact hb4.alloc hb4.size _ | exact hb4.drew
set_option maxRecDepth 1000000 in
set_option maxHeartbeats 4000000 in
theorem rankofD_unsigned (k h : Int) (ty : ByteArray) (n : Int) : RkD (.iface 107 (.agg #[.int .i64 k, .string ty, .int .i64 h, .int .u64 n])) ⟨k, n, ⟨#[]⟩, ty⟩ := by
 intro w
 have h0 := ta_unsigned_truth
 have h1 := ta_unsigned_signed
 have h2 := ta_unsigned_unsigned
 have h3 := ta_unsigned_text
 have hm := fun W => markofD_unsigned k h ty n W
 obtain ⟨W1, hW1⟩ : ∃ W1, W1 = w.alloc (.cells #[.int .i64 0, .int .u64 0, .string ⟨#[]⟩, .string ⟨#[]⟩] 214) := ⟨_, rfl⟩
 have hb1 : Below w.heap.size w W1 := by rw [hW1]; exact (Below.refl _ _).alloc (Nat.le_refl _) _
 have c0 : W1.cell? ⟨w.heap.size, 0, none⟩ = some (.int .i64 0) ∧ W1.cell? ⟨w.heap.size, 1, none⟩ = some (.int .u64 0) ∧ W1.cell? ⟨w.heap.size, 2, none⟩ = some (.string ⟨#[]⟩) ∧ W1.cell? ⟨w.heap.size, 3, none⟩ = some (.string ⟨#[]⟩) := by rw [hW1]; simp
 have fz : ∀ i, W1.frozen? ⟨w.heap.size, i, none⟩ = false := fun i => by rw [hW1, frozen?_alloc_cells]; exact frozen_none _ _ (Nat.le_refl _)
 have hd1 : W1.drawn = w.drawn := by rw [hW1]; rfl
 have hz1 : w.heap.size < W1.heap.size := by rw [hW1]; simp
 go_enter Tryz.func143, Tryz.ntmps143
 go_wp2_with fail
 rw [← hW1]
 refine (hm _).mono ?_
 rintro e V ⟨rfl, hV, hdV⟩
 rw [hd1] at hdV
 have d0 := up_cell hV c0.1
 have d1 := up_cell hV c0.2.1
 have d2 := up_cell hV c0.2.2.1
 have d3 := up_cell hV c0.2.2.2
 have ez : ∀ i, V.frozen? ⟨w.heap.size, i, none⟩ = false := fun i => (hV.frozen (p := ⟨w.heap.size, i, none⟩) hz1).trans (fz i)
 have e0 := ez 0
 have e1 := ez 1
 have e2 := ez 2
 have e3 := ez 3
 have hzV : w.heap.size < V.heap.size := Nat.lt_of_lt_of_le hz1 hV.size
 have hbV : Below w.heap.size w V := hb1.trans (hV.mono hb1.size)
 clear hm c0 fz ez hW1 hb1 hz1 hV
 go_wp2
 all_goals obtain ⟨r0, r1, r2, r3⟩ := set4 d0 d1 d2 d3 (.int .i64 k) (.int .u64 n) (.string ⟨#[]⟩) (.string ty)
 all_goals refine bodyPost_ret (v := .agg #[.int .i64 k, .int .u64 n, .string ⟨#[]⟩, .string ty]) (by simp [results, Tryz.results143, go_sem, r0, r1, r2, r3, hzV]) rfl ?_
 all_goals refine ⟨rfl, ?_, ?_⟩
 rotate_left
 ·exact hdV
 all_goals have hb4 : Below w.heap.size w ((((V.setCell ⟨w.heap.size, 0, none⟩ (.int .i64 k)).setCell ⟨w.heap.size, 1, none⟩ (.int .u64 n)).setCell ⟨w.heap.size, 2, none⟩ (.string ⟨#[]⟩)).setCell ⟨w.heap.size, 3, none⟩ (.string ty)) := (((hbV.setCell (Nat.le_refl _) _).setCell (Nat.le_refl _) _).setCell (Nat.le_refl _) _).setCell (Nat.le_refl _) _
 all_goals first | exact (hb4.alloc hb4.size _).alloc (by have := hb4.size; simp; omega) _ | exact hb4.alloc hb4.size _ | exact hb4.drew
set_option maxRecDepth 1000000 in
set_option maxHeartbeats 4000000 in
theorem rankofD_text (k h : Int) (ty : ByteArray) (s : ByteArray) : RkD (.iface 114 (.agg #[.int .i64 k, .string ty, .int .i64 h, .string s])) ⟨k, 0, s, ty⟩ := by
 intro w
 have h0 := ta_text_truth
 have h1 := ta_text_signed
 have h2 := ta_text_unsigned
 have h3 := ta_text_text
 have hm := fun W => markofD_text k h ty s W
 obtain ⟨W1, hW1⟩ : ∃ W1, W1 = w.alloc (.cells #[.int .i64 0, .int .u64 0, .string ⟨#[]⟩, .string ⟨#[]⟩] 214) := ⟨_, rfl⟩
 have hb1 : Below w.heap.size w W1 := by rw [hW1]; exact (Below.refl _ _).alloc (Nat.le_refl _) _
 have c0 : W1.cell? ⟨w.heap.size, 0, none⟩ = some (.int .i64 0) ∧ W1.cell? ⟨w.heap.size, 1, none⟩ = some (.int .u64 0) ∧ W1.cell? ⟨w.heap.size, 2, none⟩ = some (.string ⟨#[]⟩) ∧ W1.cell? ⟨w.heap.size, 3, none⟩ = some (.string ⟨#[]⟩) := by rw [hW1]; simp
 have fz : ∀ i, W1.frozen? ⟨w.heap.size, i, none⟩ = false := fun i => by rw [hW1, frozen?_alloc_cells]; exact frozen_none _ _ (Nat.le_refl _)
 have hd1 : W1.drawn = w.drawn := by rw [hW1]; rfl
 have hz1 : w.heap.size < W1.heap.size := by rw [hW1]; simp
 go_enter Tryz.func143, Tryz.ntmps143
 go_wp2_with fail
 rw [← hW1]
 refine (hm _).mono ?_
 rintro e V ⟨rfl, hV, hdV⟩
 rw [hd1] at hdV
 have d0 := up_cell hV c0.1
 have d1 := up_cell hV c0.2.1
 have d2 := up_cell hV c0.2.2.1
 have d3 := up_cell hV c0.2.2.2
 have ez : ∀ i, V.frozen? ⟨w.heap.size, i, none⟩ = false := fun i => (hV.frozen (p := ⟨w.heap.size, i, none⟩) hz1).trans (fz i)
 have e0 := ez 0
 have e1 := ez 1
 have e2 := ez 2
 have e3 := ez 3
 have hzV : w.heap.size < V.heap.size := Nat.lt_of_lt_of_le hz1 hV.size
 have hbV : Below w.heap.size w V := hb1.trans (hV.mono hb1.size)
 clear hm c0 fz ez hW1 hb1 hz1 hV
 go_wp2
 all_goals obtain ⟨r0, r1, r2, r3⟩ := set4 d0 d1 d2 d3 (.int .i64 k) (.int .u64 0) (.string s) (.string ty)
 all_goals refine bodyPost_ret (v := .agg #[.int .i64 k, .int .u64 0, .string s, .string ty]) (by simp [results, Tryz.results143, go_sem, r0, r1, r2, r3, hzV]) rfl ?_
 all_goals refine ⟨rfl, ?_, ?_⟩
 rotate_left
 ·exact hdV
 all_goals have hb4 : Below w.heap.size w ((((V.setCell ⟨w.heap.size, 0, none⟩ (.int .i64 k)).setCell ⟨w.heap.size, 1, none⟩ (.int .u64 0)).setCell ⟨w.heap.size, 2, none⟩ (.string s)).setCell ⟨w.heap.size, 3, none⟩ (.string ty)) := (((hbV.setCell (Nat.le_refl _) _).setCell (Nat.le_refl _) _).setCell (Nat.le_refl _) _).setCell (Nat.le_refl _) _
 all_goals first | exact (hb4.alloc hb4.size _).alloc (by have := hb4.size; simp; omega) _ | exact hb4.alloc hb4.size _ | exact hb4.drew
set_option maxRecDepth 1000000 in
set_option maxHeartbeats 4000000 in
theorem cmpD_any (v1 v2 : Value) (x y : Rk) (h1 : RkD v1 x) (h2 : RkD v2 y) (w : World) :
  Calls Tryz.prog 104 #[v1, v2] w fun e w' => e = .returned (.int .i64 (cmpR x y)) ∧ Below w.heap.size w w' ∧ w.drawn ≤ w'.drawn := by
 go_enter Tryz.func104, Tryz.ntmps104
 go_wp2_with fail
 refine (h1 _).mono ?_
 rintro e V1 ⟨rfl, hV1, hdA⟩
 go_wp2_with fail
 refine (h2 _).mono ?_
 rintro e V2 ⟨rfl, hV2, hdB⟩
 have hb2 : Below w.heap.size w V2 := hV1.trans (hV2.mono hV1.size)
 clear h1 h2 hV1 hV2
 obtain ⟨W2, hW2⟩ : ∃ W2, W2 = (V2.alloc (.cells #[.int .i64 x.k, .int .u64 x.n, .string x.s, .string x.t] 214)).alloc (.cells #[.int .i64 y.k, .int .u64 y.n, .string y.s, .string y.t] 214) := ⟨_, rfl⟩
 have hbW : Below w.heap.size w W2 := by rw [hW2]; exact (hb2.alloc hb2.size _).alloc (by have := hb2.size; simp; omega) _
 have hd2 : W2.drawn = V2.drawn := by rw [hW2]; rfl
 have f0 : ∀ V, Below W2.heap.size W2 V → (fun w' => w'.cell? ⟨V2.heap.size, 0, none⟩ = some (.int .i64 x.k) ∧ w'.cell? ⟨V2.heap.size, 1, none⟩ = some (.int .u64 x.n) ∧ w'.cell? ⟨V2.heap.size, 2, none⟩ = some (.string x.s) ∧ w'.cell? ⟨V2.heap.size, 3, none⟩ = some (.string x.t) ∧ w'.cell? ⟨V2.heap.size + 1, 0, none⟩ = some (.int .i64 y.k) ∧ w'.cell? ⟨V2.heap.size + 1, 1, none⟩ = some (.int .u64 y.n) ∧ w'.cell? ⟨V2.heap.size + 1, 2, none⟩ = some (.string y.s) ∧ w'.cell? ⟨V2.heap.size + 1, 3, none⟩ = some (.string y.t)) V := by
  intro V hV
  refine ⟨?_, ?_, ?_, ?_, ?_, ?_, ?_, ?_⟩
  all_goals exact up_cell hV (by rw [hW2]; simp [go_sem])
 go_wp2
 rw [← hW2]
 clear hW2
 refine wp_region_held_drew (S := fun w' => w'.cell? ⟨V2.heap.size, 0, none⟩ = some (.int .i64 x.k) ∧ w'.cell? ⟨V2.heap.size, 1, none⟩ = some (.int .u64 x.n) ∧ w'.cell? ⟨V2.heap.size, 2, none⟩ = some (.string x.s) ∧ w'.cell? ⟨V2.heap.size, 3, none⟩ = some (.string x.t) ∧ w'.cell? ⟨V2.heap.size + 1, 0, none⟩ = some (.int .i64 y.k) ∧ w'.cell? ⟨V2.heap.size + 1, 1, none⟩ = some (.int .u64 y.n) ∧ w'.cell? ⟨V2.heap.size + 1, 2, none⟩ = some (.string y.s) ∧ w'.cell? ⟨V2.heap.size + 1, 3, none⟩ = some (.string y.t)) (by kernel_rfl) (f0 _ (Below.refl W2.heap.size W2).drew) ?_
 intro hS
 refine tk 0 (.pointer (some ⟨V2.heap.size, 0, none⟩)) rfl (by kernel_rfl) (fun _ _ _ h => h) (by rfl) (by assumption) ?_ ?_
 ·intro w5 hSw
  obtain ⟨x0, x1, x2, x3, y0, y1, y2, y3⟩ := hSw
  go_simp
 simp only [Act.put, List.setIfInBounds_toArray, List.set_cons_zero, List.set_cons_succ]
 refine tk 1 (.int .i64 x.k) rfl (by kernel_rfl) (fun _ _ _ h => h) (by rfl) (by assumption) ?_ ?_
 ·intro w5 hSw
  obtain ⟨x0, x1, x2, x3, y0, y1, y2, y3⟩ := hSw
  go_simp
 simp only [Act.put, List.setIfInBounds_toArray, List.set_cons_zero, List.set_cons_succ]
 refine tk 2 (.pointer (some ⟨V2.heap.size + 1, 0, none⟩)) rfl (by kernel_rfl) (fun _ _ _ h => h) (by rfl) (by assumption) ?_ ?_
 ·intro w5 hSw
  obtain ⟨x0, x1, x2, x3, y0, y1, y2, y3⟩ := hSw
  go_simp
 simp only [Act.put, List.setIfInBounds_toArray, List.set_cons_zero, List.set_cons_succ]
 refine tk 3 (.int .i64 y.k) rfl (by kernel_rfl) (fun _ _ _ h => h) (by rfl) (by assumption) ?_ ?_
 ·intro w5 hSw
  obtain ⟨x0, x1, x2, x3, y0, y1, y2, y3⟩ := hSw
  go_simp
 simp only [Act.put, List.setIfInBounds_toArray, List.set_cons_zero, List.set_cons_succ]
 refine tk 5 (.pointer (some ⟨V2.heap.size, 1, none⟩)) rfl (by kernel_rfl) (fun _ _ _ h => h) (by rfl) (by assumption) ?_ ?_
 ·intro w5 hSw
  obtain ⟨x0, x1, x2, x3, y0, y1, y2, y3⟩ := hSw
  go_simp
 simp only [Act.put, List.setIfInBounds_toArray, List.set_cons_zero, List.set_cons_succ]
 refine tk 6 (.int .u64 x.n) rfl (by kernel_rfl) (fun _ _ _ h => h) (by rfl) (by assumption) ?_ ?_
 ·intro w5 hSw
  obtain ⟨x0, x1, x2, x3, y0, y1, y2, y3⟩ := hSw
  go_simp
 simp only [Act.put, List.setIfInBounds_toArray, List.set_cons_zero, List.set_cons_succ]
 refine tk 7 (.pointer (some ⟨V2.heap.size + 1, 1, none⟩)) rfl (by kernel_rfl) (fun _ _ _ h => h) (by rfl) (by assumption) ?_ ?_
 ·intro w5 hSw
  obtain ⟨x0, x1, x2, x3, y0, y1, y2, y3⟩ := hSw
  go_simp
 simp only [Act.put, List.setIfInBounds_toArray, List.set_cons_zero, List.set_cons_succ]
 refine tk 8 (.int .u64 y.n) rfl (by kernel_rfl) (fun _ _ _ h => h) (by rfl) (by assumption) ?_ ?_
 ·intro w5 hSw
  obtain ⟨x0, x1, x2, x3, y0, y1, y2, y3⟩ := hSw
  go_simp
 simp only [Act.put, List.setIfInBounds_toArray, List.set_cons_zero, List.set_cons_succ]
 refine tk 10 (.pointer (some ⟨V2.heap.size, 2, none⟩)) rfl (by kernel_rfl) (fun _ _ _ h => h) (by rfl) (by assumption) ?_ ?_
 ·intro w5 hSw
  obtain ⟨x0, x1, x2, x3, y0, y1, y2, y3⟩ := hSw
  go_simp
 simp only [Act.put, List.setIfInBounds_toArray, List.set_cons_zero, List.set_cons_succ]
 refine tk 11 (.string x.s) rfl (by kernel_rfl) (fun _ _ _ h => h) (by rfl) (by assumption) ?_ ?_
 ·intro w5 hSw
  obtain ⟨x0, x1, x2, x3, y0, y1, y2, y3⟩ := hSw
  go_simp
 simp only [Act.put, List.setIfInBounds_toArray, List.set_cons_zero, List.set_cons_succ]
 refine tk 12 (.pointer (some ⟨V2.heap.size + 1, 2, none⟩)) rfl (by kernel_rfl) (fun _ _ _ h => h) (by rfl) (by assumption) ?_ ?_
 ·intro w5 hSw
  obtain ⟨x0, x1, x2, x3, y0, y1, y2, y3⟩ := hSw
  go_simp
 simp only [Act.put, List.setIfInBounds_toArray, List.set_cons_zero, List.set_cons_succ]
 refine tk 13 (.string y.s) rfl (by kernel_rfl) (fun _ _ _ h => h) (by rfl) (by assumption) ?_ ?_
 ·intro w5 hSw
  obtain ⟨x0, x1, x2, x3, y0, y1, y2, y3⟩ := hSw
  go_simp
 simp only [Act.put, List.setIfInBounds_toArray, List.set_cons_zero, List.set_cons_succ]
 refine tk 15 (.pointer (some ⟨V2.heap.size, 3, none⟩)) rfl (by kernel_rfl) (fun _ _ _ h => h) (by rfl) (by assumption) ?_ ?_
 ·intro w5 hSw
  obtain ⟨x0, x1, x2, x3, y0, y1, y2, y3⟩ := hSw
  go_simp
 simp only [Act.put, List.setIfInBounds_toArray, List.set_cons_zero, List.set_cons_succ]
 refine tk 16 (.string x.t) rfl (by kernel_rfl) (fun _ _ _ h => h) (by rfl) (by assumption) ?_ ?_
 ·intro w5 hSw
  obtain ⟨x0, x1, x2, x3, y0, y1, y2, y3⟩ := hSw
  go_simp
 simp only [Act.put, List.setIfInBounds_toArray, List.set_cons_zero, List.set_cons_succ]
 refine tk 17 (.pointer (some ⟨V2.heap.size + 1, 3, none⟩)) rfl (by kernel_rfl) (fun _ _ _ h => h) (by rfl) (by assumption) ?_ ?_
 ·intro w5 hSw
  obtain ⟨x0, x1, x2, x3, y0, y1, y2, y3⟩ := hSw
  go_simp
 simp only [Act.put, List.setIfInBounds_toArray, List.set_cons_zero, List.set_cons_succ]
 refine tk 18 (.string y.t) rfl (by kernel_rfl) (fun _ _ _ h => h) (by rfl) (by assumption) ?_ ?_
 ·intro w5 hSw
  obtain ⟨x0, x1, x2, x3, y0, y1, y2, y3⟩ := hSw
  go_simp
 simp only [Act.put, List.setIfInBounds_toArray, List.set_cons_zero, List.set_cons_succ]
 refine rd1 4 (by kernel_rfl) rfl fun K1 hK1 => ?_
 go_simp
 refine (ccmpI_any _ _ _).mono ?_
 rintro e Z1 ⟨rfl, hZ⟩
 rw [hZ]
 clear hZ Z1
 refine hK1.out _ _ (f0 _ (Below.refl W2.heap.size W2).drew) (fun _ => ?_)
 refine rd1 9 (by kernel_rfl) rfl fun K2 hK2 => ?_
 go_simp
 refine (ccmpU_any _ _ _).mono ?_
 rintro e Z2 ⟨rfl, hZ⟩
 rw [hZ]
 clear hZ Z2
 refine hK2.out _ _ (f0 _ (Below.refl W2.heap.size W2).drew) (fun _ => ?_)
 refine rd1 14 (by kernel_rfl) rfl fun K3 hK3 => ?_
 go_simp
 refine (ccmpS_any _ _ _).mono ?_
 rintro e Z3 ⟨rfl, hZ⟩
 rw [hZ]
 clear hZ Z3
 refine hK3.out _ _ (f0 _ (Below.refl W2.heap.size W2).drew) (fun _ => ?_)
 refine rd1 19 (by kernel_rfl) rfl fun K4 hK4 => ?_
 go_simp
 refine (ccmpS_any _ _ _).mono ?_
 rintro e Z4 ⟨rfl, hZ⟩
 rw [hZ]
 clear hZ Z4
 refine hK4.out _ _ (f0 _ (Below.refl W2.heap.size W2).drew) (fun _ => ?_)
 refine rd1 20 (by kernel_rfl) rfl fun K5 hK5 => ?_
 go_simp
 obtain ⟨W4, hW4⟩ : ∃ W4, W4 = (W2.alloc (.cells #[.int .i64 (cmpI x.k y.k), .int .i64 (cmpI x.n y.n), .int .i64 (cmpS x.s y.s), .int .i64 (cmpS x.t y.t)] 3)).drew := ⟨_, rfl⟩
 have hd4 : W2.drawn ≤ W4.drawn := by rw [hW4]; show W2.drawn ≤ W2.drawn + 1; omega
 have hb4 : Below W2.heap.size W2 W4 := by rw [hW4]; exact ((Below.refl _ _).alloc (Nat.le_refl _) _).drew
 have ho := cor_any (cmpI x.k y.k) (cmpI x.n y.n) (cmpS x.s y.s) (cmpS x.t y.t) W2.heap.size W4 (by rw [hW4]; simp [go_sem]) (by rw [hW4]; simp [go_sem]) (by rw [hW4]; simp [go_sem]) (by rw [hW4]; simp [go_sem])
 rw [← hW4]
 clear hW4
 refine hK5.out _ _ (f0 W4 hb4) (fun _ => ?_)
 refine rd1 21 (by kernel_rfl) rfl fun K6 hK6 => ?_
 go_simp
 refine ho.mono ?_
 rintro e Z6 ⟨rfl, hZ⟩
 rw [hZ]
 clear hZ Z6
 refine hK6.out _ _ (f0 W4 hb4) (fun _ => ?_)
 refine rd1 22 (by kernel_rfl) rfl fun K7 hK7 => ?_
 go_simp
 refine hK7.out _ _ (f0 W4 hb4) (fun _ => ?_)
 refine wpAnyH_done (by kernel_rfl) ?_ _
 clear hK1 hK2 hK3 hK4 hK5 hK6 hK7 ho
 go_wp2
 go_ret
 exact ⟨rfl, hbW.trans (hb4.mono hbW.size), by omega⟩
end Go.Proofs.YtlgieoabellbmaaGreatDoor
