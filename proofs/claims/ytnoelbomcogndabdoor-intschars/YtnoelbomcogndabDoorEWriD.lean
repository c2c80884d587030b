/- The walks of the document's Signed and Unsigned of layer 3. -/
import Derived.Test.YtnoelbomcogndabDoorEWriC
namespace Go.Proofs.YtnoelbomcogndabDoor
open Go.RowKit
set_option linter.unusedVariables false

set_option maxRecDepth 1000000 in
set_option maxHeartbeats 1000000 in
theorem ewr_no (neg : Bool) (size bits : Nat) (p mi sh sp z : Bool) (wid prec verb : Int) (w : World) (h1 : ¬ verb = 99) (h2 : ¬ verb = 113) (h3 : ¬ verb = 85) (hb : baseV verb = 0) :
    Calls Tryd.prog 24 #[.bool neg, .int .u64 size, .int .u64 bits, .agg #[.bool p, .bool mi, .bool sh, .bool sp, .bool z, .int .i64 wid, .int .i64 prec, .int .i32 verb]] w fun e w' => e = .returned (.tuple #[.string ⟨#[]⟩, .bool false]) ∧ Below w.heap.size w w' := by
  have hbA : Below w.heap.size w (w.alloc (.cells #[.bool p, .bool mi, .bool sh, .bool sp, .bool z, .int .i64 wid, .int .i64 prec, .int .i32 verb] 27)) := (Below.refl _ _).alloc (Nat.le_refl _) _
  have hBs : ∀ w, Calls Tryd.prog 43 #[.int .i32 verb] w fun e w' => e = .returned (.tuple #[.int .i64 0, .string (mark0 verb), .bool (decide (verb = 79))]) ∧ w' = w := fun w => by
    have := ebases_any verb w
    rw [hb] at this
    exact this
  generalize mark0 verb = MV at *
  generalize decide (verb = 79) = al at *
  clear hb
  go_enter Tryd.func24, Tryd.ntmps24
  go_wp2_with (go_at_call 43; refine (hBs _).mono ?_; rintro e w9 ⟨rfl, rfl⟩)
  go_ret2
  exact ⟨rfl, hbA⟩
theorem ewrite_any (neg : Bool) (size bits : Nat) (p mi sh sp z : Bool) (wid prec verb : Int) (w : World) (hn : bits < 18446744073709551616) (hn2 : size < 18446744073709551616) :
    Calls Tryd.prog 24 #[.bool neg, .int .u64 size, .int .u64 bits, .agg #[.bool p, .bool mi, .bool sh, .bool sp, .bool z, .int .i64 wid, .int .i64 prec, .int .i32 verb]] w fun e w' => e = .returned (.tuple #[.string (numS bits size (sgE neg p sp) p mi sh z wid prec verb), .bool (numK verb)]) ∧ Below w.heap.size w w' := by
  by_cases h1 : verb = 99
  · subst h1; exact ewr_c neg size bits p mi sh sp z wid prec w hn
  by_cases h2 : verb = 113
  · subst h2; exact ewr_q neg size bits p mi sh sp z wid prec w hn
  by_cases h3 : verb = 85
  · subst h3; exact ewr_U neg size bits p mi sh sp z wid prec w hn
  by_cases h4 : baseV verb = 0
  · have e1 : numS bits size (sgE neg p sp) p mi sh z wid prec verb = ⟨#[]⟩ := by unfold numS numO; rw [if_neg h1, if_neg h2, if_neg h3, if_pos h4]
    have e2 : numK verb = false := by simp [numK, h1, h2, h3, h4]
    rw [e1, e2]
    exact ewr_no neg size bits p mi sh sp z wid prec verb w h1 h2 h3 h4
  · have e1 : numS bits size (sgE neg p sp) p mi sh z wid prec verb = padS (coreB size (baseV verb) (sgE neg p sp) mi sh z wid prec verb) mi false wid := by unfold numS numO; rw [if_neg h1, if_neg h2, if_neg h3, if_neg h4]
    have e2 : numK verb = true := by simp [numK, h4]
    rw [e1, e2]
    exact ewr_b neg size bits p mi sh sp z wid prec verb w hn2 h1 h2 h3 h4

set_option maxRecDepth 1000000 in
set_option maxHeartbeats 1000000 in
theorem esigned_any (v : Int) (p mi sh sp z : Bool) (wid prec verb : Int) (w : World) (hv1 : -9223372036854775808 ≤ v) (hv2 : v ≤ 9223372036854775807) :
    Calls Tryd.prog 13 #[.int .i64 v, .agg #[.bool p, .bool mi, .bool sh, .bool sp, .bool z, .int .i64 wid, .int .i64 prec, .int .i32 verb]] w fun e w' => e = .returned (.tuple #[.string (numS (uN v) v.natAbs (sgS v p sp) p mi sh z wid prec verb), .bool (numK verb)]) ∧ Below w.heap.size w w' := by
  have hbA : Below w.heap.size w (w.alloc (.cells #[.bool p, .bool mi, .bool sh, .bool sp, .bool z, .int .i64 wid, .int .i64 prec, .int .i32 verb] 27)) := (Below.refl _ _).alloc (Nat.le_refl _) _
  have f0 : ∀ x : Cl (w.alloc (.cells #[.bool p, .bool mi, .bool sh, .bool sp, .bool z, .int .i64 wid, .int .i64 prec, .int .i32 verb] 27)), x.w.cell? ⟨w.heap.size, 0, none⟩ = some (.bool p) := fun x => x.cell (by simp)
  have f1 : ∀ x : Cl (w.alloc (.cells #[.bool p, .bool mi, .bool sh, .bool sp, .bool z, .int .i64 wid, .int .i64 prec, .int .i32 verb] 27)), x.w.cell? ⟨w.heap.size, 1, none⟩ = some (.bool mi) := fun x => x.cell (by simp)
  have f2 : ∀ x : Cl (w.alloc (.cells #[.bool p, .bool mi, .bool sh, .bool sp, .bool z, .int .i64 wid, .int .i64 prec, .int .i32 verb] 27)), x.w.cell? ⟨w.heap.size, 2, none⟩ = some (.bool sh) := fun x => x.cell (by simp)
  have f3 : ∀ x : Cl (w.alloc (.cells #[.bool p, .bool mi, .bool sh, .bool sp, .bool z, .int .i64 wid, .int .i64 prec, .int .i32 verb] 27)), x.w.cell? ⟨w.heap.size, 3, none⟩ = some (.bool sp) := fun x => x.cell (by simp)
  have f4 : ∀ x : Cl (w.alloc (.cells #[.bool p, .bool mi, .bool sh, .bool sp, .bool z, .int .i64 wid, .int .i64 prec, .int .i32 verb] 27)), x.w.cell? ⟨w.heap.size, 4, none⟩ = some (.bool z) := fun x => x.cell (by simp)
  have f5 : ∀ x : Cl (w.alloc (.cells #[.bool p, .bool mi, .bool sh, .bool sp, .bool z, .int .i64 wid, .int .i64 prec, .int .i32 verb] 27)), x.w.cell? ⟨w.heap.size, 5, none⟩ = some (.int .i64 wid) := fun x => x.cell (by simp)
  have f6 : ∀ x : Cl (w.alloc (.cells #[.bool p, .bool mi, .bool sh, .bool sp, .bool z, .int .i64 wid, .int .i64 prec, .int .i32 verb] 27)), x.w.cell? ⟨w.heap.size, 6, none⟩ = some (.int .i64 prec) := fun x => x.cell (by simp)
  have f7 : ∀ x : Cl (w.alloc (.cells #[.bool p, .bool mi, .bool sh, .bool sp, .bool z, .int .i64 wid, .int .i64 prec, .int .i32 verb] 27)), x.w.cell? ⟨w.heap.size, 7, none⟩ = some (.int .i32 verb) := fun x => x.cell (by simp)
  have hW := wrap_uN v
  have hM := fun w => emag_any v w hv1 hv2
  have hsg : sgS v p sp = sgE (decide (v < 0)) p sp := by
    unfold sgS sgE
    by_cases h : v < 0
    · rw [if_pos h, if_pos (by simp [h])]
    · rw [if_neg h, if_neg (by simp [h])]
  rw [hsg]
  have hN : ∀ w, Calls Tryd.prog 24 #[.bool (decide (v < 0)), .int .u64 (v.natAbs : Nat), .int .u64 (uN v : Nat), .agg #[.bool p, .bool mi, .bool sh, .bool sp, .bool z, .int .i64 wid, .int .i64 prec, .int .i32 verb]] w fun e w' => e = .returned (.tuple #[.string (numS (uN v) v.natAbs (sgE (decide (v < 0)) p sp) p mi sh z wid prec verb), .bool (numK verb)]) ∧ Below w.heap.size w w' := fun w => ewrite_any _ _ _ p mi sh sp z wid prec verb w (uN_lt v) (by omega)
  clear hsg
  generalize numS (uN v) v.natAbs (sgE (decide (v < 0)) p sp) p mi sh z wid prec verb = r at *
  generalize numK verb = kk at *
  generalize uN v = u at *
  generalize v.natAbs = m at *
  go_enter Tryd.func13, Tryd.ntmps13
  go_wp2
  refine wp_region_above (w.alloc (.cells #[.bool p, .bool mi, .bool sh, .bool sp, .bool z, .int .i64 wid, .int .i64 prec, .int .i32 verb] 27)) (Below.refl _ _) (by kernel_rfl) (by kernel_rfl) ?_
  intro hCl
  repeat (go_big_quiet_step ((first | (go_at_call 25; exact Cl.call_same (hM _)) | (go_at_call 24; exact Cl.call (hN _)))))
  refine wpQuiet_nil ?_
  intro _ hw'
  obtain ⟨y, hx⟩ := hw'
  subst hx
  go_wp2
  go_ret2
  exact ⟨rfl, hbA.trans (y.below.mono hbA.size)⟩

set_option maxRecDepth 1000000 in
set_option maxHeartbeats 1000000 in
theorem euns_v1 (u : Nat) (p mi sp z : Bool) (wid prec : Int) (w : World) (hu : u < 18446744073709551616) :
    Calls Tryd.prog 15 #[.int .u64 u, .agg #[.bool p, .bool mi, .bool true, .bool sp, .bool z, .int .i64 wid, .int .i64 prec, .int .i32 118]] w fun e w' => e = .returned (.tuple #[.string (numS u u (signA p sp) p mi true z wid prec 120), .bool (numK 120)]) ∧ Below w.heap.size w w' := by
  have hbA : Below w.heap.size w (w.alloc (.cells #[.bool p, .bool mi, .bool true, .bool sp, .bool z, .int .i64 wid, .int .i64 prec, .int .i32 120] 27)) := (Below.refl _ _).alloc (Nat.le_refl _) _
  have f0 : ∀ x : Cl (w.alloc (.cells #[.bool p, .bool mi, .bool true, .bool sp, .bool z, .int .i64 wid, .int .i64 prec, .int .i32 120] 27)), x.w.cell? ⟨w.heap.size, 0, none⟩ = some (.bool p) := fun x => x.cell (by simp)
  have f1 : ∀ x : Cl (w.alloc (.cells #[.bool p, .bool mi, .bool true, .bool sp, .bool z, .int .i64 wid, .int .i64 prec, .int .i32 120] 27)), x.w.cell? ⟨w.heap.size, 1, none⟩ = some (.bool mi) := fun x => x.cell (by simp)
  have f2 : ∀ x : Cl (w.alloc (.cells #[.bool p, .bool mi, .bool true, .bool sp, .bool z, .int .i64 wid, .int .i64 prec, .int .i32 120] 27)), x.w.cell? ⟨w.heap.size, 2, none⟩ = some (.bool true) := fun x => x.cell (by simp)
  have f3 : ∀ x : Cl (w.alloc (.cells #[.bool p, .bool mi, .bool true, .bool sp, .bool z, .int .i64 wid, .int .i64 prec, .int .i32 120] 27)), x.w.cell? ⟨w.heap.size, 3, none⟩ = some (.bool sp) := fun x => x.cell (by simp)
  have f4 : ∀ x : Cl (w.alloc (.cells #[.bool p, .bool mi, .bool true, .bool sp, .bool z, .int .i64 wid, .int .i64 prec, .int .i32 120] 27)), x.w.cell? ⟨w.heap.size, 4, none⟩ = some (.bool z) := fun x => x.cell (by simp)
  have f5 : ∀ x : Cl (w.alloc (.cells #[.bool p, .bool mi, .bool true, .bool sp, .bool z, .int .i64 wid, .int .i64 prec, .int .i32 120] 27)), x.w.cell? ⟨w.heap.size, 5, none⟩ = some (.int .i64 wid) := fun x => x.cell (by simp)
  have f6 : ∀ x : Cl (w.alloc (.cells #[.bool p, .bool mi, .bool true, .bool sp, .bool z, .int .i64 wid, .int .i64 prec, .int .i32 120] 27)), x.w.cell? ⟨w.heap.size, 6, none⟩ = some (.int .i64 prec) := fun x => x.cell (by simp)
  have f7 : ∀ x : Cl (w.alloc (.cells #[.bool p, .bool mi, .bool true, .bool sp, .bool z, .int .i64 wid, .int .i64 prec, .int .i32 120] 27)), x.w.cell? ⟨w.heap.size, 7, none⟩ = some (.int .i32 120) := fun x => x.cell (by simp)
  have hN : ∀ w, Calls Tryd.prog 24 #[.bool false, .int .u64 u, .int .u64 u, .agg #[.bool p, .bool mi, .bool true, .bool sp, .bool z, .int .i64 wid, .int .i64 prec, .int .i32 120]] w fun e w' => e = .returned (.tuple #[.string (numS u u (signA p sp) p mi true z wid prec 120), .bool (numK 120)]) ∧ Below w.heap.size w w' := fun w => ewrite_any false _ _ p mi true sp z wid prec 120 w hu hu
  generalize numS u u (signA p sp) p mi true z wid prec 120 = r at *
  generalize numK 120 = k at *
  go_enter Tryd.func15, Tryd.ntmps15
  go_wp2_with (go_at_call 24; refine (Cl.go0 (hN _)).mono ?_; rintro e w9 ⟨y, rfl, rfl⟩)
  go_ret2
  exact ⟨rfl, hbA.trans (y.below.mono hbA.size)⟩

set_option maxRecDepth 1000000 in
set_option maxHeartbeats 1000000 in
theorem euns_v0 (u : Nat) (p mi sp z : Bool) (wid prec : Int) (w : World) (hu : u < 18446744073709551616) :
    Calls Tryd.prog 15 #[.int .u64 u, .agg #[.bool p, .bool mi, .bool false, .bool sp, .bool z, .int .i64 wid, .int .i64 prec, .int .i32 118]] w fun e w' => e = .returned (.tuple #[.string (numS u u (signA p sp) p mi false z wid prec 118), .bool (numK 118)]) ∧ Below w.heap.size w w' := by
  have hbA : Below w.heap.size w (w.alloc (.cells #[.bool p, .bool mi, .bool false, .bool sp, .bool z, .int .i64 wid, .int .i64 prec, .int .i32 118] 27)) := (Below.refl _ _).alloc (Nat.le_refl _) _
  have f0 : ∀ x : Cl (w.alloc (.cells #[.bool p, .bool mi, .bool false, .bool sp, .bool z, .int .i64 wid, .int .i64 prec, .int .i32 118] 27)), x.w.cell? ⟨w.heap.size, 0, none⟩ = some (.bool p) := fun x => x.cell (by simp)
  have f1 : ∀ x : Cl (w.alloc (.cells #[.bool p, .bool mi, .bool false, .bool sp, .bool z, .int .i64 wid, .int .i64 prec, .int .i32 118] 27)), x.w.cell? ⟨w.heap.size, 1, none⟩ = some (.bool mi) := fun x => x.cell (by simp)
  have f2 : ∀ x : Cl (w.alloc (.cells #[.bool p, .bool mi, .bool false, .bool sp, .bool z, .int .i64 wid, .int .i64 prec, .int .i32 118] 27)), x.w.cell? ⟨w.heap.size, 2, none⟩ = some (.bool false) := fun x => x.cell (by simp)
  have f3 : ∀ x : Cl (w.alloc (.cells #[.bool p, .bool mi, .bool false, .bool sp, .bool z, .int .i64 wid, .int .i64 prec, .int .i32 118] 27)), x.w.cell? ⟨w.heap.size, 3, none⟩ = some (.bool sp) := fun x => x.cell (by simp)
  have f4 : ∀ x : Cl (w.alloc (.cells #[.bool p, .bool mi, .bool false, .bool sp, .bool z, .int .i64 wid, .int .i64 prec, .int .i32 118] 27)), x.w.cell? ⟨w.heap.size, 4, none⟩ = some (.bool z) := fun x => x.cell (by simp)
  have f5 : ∀ x : Cl (w.alloc (.cells #[.bool p, .bool mi, .bool false, .bool sp, .bool z, .int .i64 wid, .int .i64 prec, .int .i32 118] 27)), x.w.cell? ⟨w.heap.size, 5, none⟩ = some (.int .i64 wid) := fun x => x.cell (by simp)
  have f6 : ∀ x : Cl (w.alloc (.cells #[.bool p, .bool mi, .bool false, .bool sp, .bool z, .int .i64 wid, .int .i64 prec, .int .i32 118] 27)), x.w.cell? ⟨w.heap.size, 6, none⟩ = some (.int .i64 prec) := fun x => x.cell (by simp)
  have f7 : ∀ x : Cl (w.alloc (.cells #[.bool p, .bool mi, .bool false, .bool sp, .bool z, .int .i64 wid, .int .i64 prec, .int .i32 118] 27)), x.w.cell? ⟨w.heap.size, 7, none⟩ = some (.int .i32 118) := fun x => x.cell (by simp)
  have hN : ∀ w, Calls Tryd.prog 24 #[.bool false, .int .u64 u, .int .u64 u, .agg #[.bool p, .bool mi, .bool false, .bool sp, .bool z, .int .i64 wid, .int .i64 prec, .int .i32 118]] w fun e w' => e = .returned (.tuple #[.string (numS u u (signA p sp) p mi false z wid prec 118), .bool (numK 118)]) ∧ Below w.heap.size w w' := fun w => ewrite_any false _ _ p mi false sp z wid prec 118 w hu hu
  generalize numS u u (signA p sp) p mi false z wid prec 118 = r at *
  generalize numK 118 = k at *
  go_enter Tryd.func15, Tryd.ntmps15
  go_wp2_with (go_at_call 24; refine (Cl.go0 (hN _)).mono ?_; rintro e w9 ⟨y, rfl, rfl⟩)
  go_ret2
  exact ⟨rfl, hbA.trans (y.below.mono hbA.size)⟩

set_option maxRecDepth 1000000 in
set_option maxHeartbeats 1000000 in
theorem euns_o (u : Nat) (p mi sh sp z : Bool) (wid prec verb : Int) (w : World) (hu : u < 18446744073709551616) (hv : ¬ verb = 118) :
    Calls Tryd.prog 15 #[.int .u64 u, .agg #[.bool p, .bool mi, .bool sh, .bool sp, .bool z, .int .i64 wid, .int .i64 prec, .int .i32 verb]] w fun e w' => e = .returned (.tuple #[.string (numS u u (signA p sp) p mi sh z wid prec verb), .bool (numK verb)]) ∧ Below w.heap.size w w' := by
  have hbA : Below w.heap.size w (w.alloc (.cells #[.bool p, .bool mi, .bool sh, .bool sp, .bool z, .int .i64 wid, .int .i64 prec, .int .i32 verb] 27)) := (Below.refl _ _).alloc (Nat.le_refl _) _
  have f0 : ∀ x : Cl (w.alloc (.cells #[.bool p, .bool mi, .bool sh, .bool sp, .bool z, .int .i64 wid, .int .i64 prec, .int .i32 verb] 27)), x.w.cell? ⟨w.heap.size, 0, none⟩ = some (.bool p) := fun x => x.cell (by simp)
  have f1 : ∀ x : Cl (w.alloc (.cells #[.bool p, .bool mi, .bool sh, .bool sp, .bool z, .int .i64 wid, .int .i64 prec, .int .i32 verb] 27)), x.w.cell? ⟨w.heap.size, 1, none⟩ = some (.bool mi) := fun x => x.cell (by simp)
  have f2 : ∀ x : Cl (w.alloc (.cells #[.bool p, .bool mi, .bool sh, .bool sp, .bool z, .int .i64 wid, .int .i64 prec, .int .i32 verb] 27)), x.w.cell? ⟨w.heap.size, 2, none⟩ = some (.bool sh) := fun x => x.cell (by simp)
  have f3 : ∀ x : Cl (w.alloc (.cells #[.bool p, .bool mi, .bool sh, .bool sp, .bool z, .int .i64 wid, .int .i64 prec, .int .i32 verb] 27)), x.w.cell? ⟨w.heap.size, 3, none⟩ = some (.bool sp) := fun x => x.cell (by simp)
  have f4 : ∀ x : Cl (w.alloc (.cells #[.bool p, .bool mi, .bool sh, .bool sp, .bool z, .int .i64 wid, .int .i64 prec, .int .i32 verb] 27)), x.w.cell? ⟨w.heap.size, 4, none⟩ = some (.bool z) := fun x => x.cell (by simp)
  have f5 : ∀ x : Cl (w.alloc (.cells #[.bool p, .bool mi, .bool sh, .bool sp, .bool z, .int .i64 wid, .int .i64 prec, .int .i32 verb] 27)), x.w.cell? ⟨w.heap.size, 5, none⟩ = some (.int .i64 wid) := fun x => x.cell (by simp)
  have f6 : ∀ x : Cl (w.alloc (.cells #[.bool p, .bool mi, .bool sh, .bool sp, .bool z, .int .i64 wid, .int .i64 prec, .int .i32 verb] 27)), x.w.cell? ⟨w.heap.size, 6, none⟩ = some (.int .i64 prec) := fun x => x.cell (by simp)
  have f7 : ∀ x : Cl (w.alloc (.cells #[.bool p, .bool mi, .bool sh, .bool sp, .bool z, .int .i64 wid, .int .i64 prec, .int .i32 verb] 27)), x.w.cell? ⟨w.heap.size, 7, none⟩ = some (.int .i32 verb) := fun x => x.cell (by simp)
  have hN : ∀ w, Calls Tryd.prog 24 #[.bool false, .int .u64 u, .int .u64 u, .agg #[.bool p, .bool mi, .bool sh, .bool sp, .bool z, .int .i64 wid, .int .i64 prec, .int .i32 verb]] w fun e w' => e = .returned (.tuple #[.string (numS u u (signA p sp) p mi sh z wid prec verb), .bool (numK verb)]) ∧ Below w.heap.size w w' := fun w => ewrite_any false _ _ p mi sh sp z wid prec verb w hu hu
  generalize numS u u (signA p sp) p mi sh z wid prec verb = r at *
  generalize numK verb = k at *
  go_enter Tryd.func15, Tryd.ntmps15
  go_wp2_with (go_at_call 24; refine (Cl.go0 (hN _)).mono ?_; rintro e w9 ⟨y, rfl, rfl⟩)
  go_ret2
  exact ⟨rfl, hbA.trans (y.below.mono hbA.size)⟩

theorem eunsigned_any (u : Nat) (p mi sh sp z : Bool) (wid prec verb : Int) (w : World) (hu : u < 18446744073709551616) :
    Calls Tryd.prog 15 #[.int .u64 u, .agg #[.bool p, .bool mi, .bool sh, .bool sp, .bool z, .int .i64 wid, .int .i64 prec, .int .i32 verb]] w fun e w' => e = .returned (.tuple #[.string (numS u u (signA p sp) p mi sh z wid prec (uVerb sh verb)), .bool (numK (uVerb sh verb))]) ∧ Below w.heap.size w w' := by
  by_cases hv : verb = 118
  · subst hv
    cases sh with
    | true => exact euns_v1 u p mi sp z wid prec w hu
    | false =>
      have e : uVerb false 118 = 118 := by simp [uVerb]
      rw [e]; exact euns_v0 u p mi sp z wid prec w hu
  · have e : uVerb sh verb = verb := by simp [uVerb, hv]
    rw [e]; exact euns_o u p mi sh sp z wid prec verb w hu hv
end Go.Proofs.YtnoelbomcogndabDoor
