/- FFin1, FFin2, FFin3: these texts in one. -/
import Derived.Test.YtiagjheifblkiaaGreatDoorPt31
namespace Go.Proofs.YtiagjheifblkiaaGreatDoor
open Go.RowKit
set_option linter.unusedVariables false
set_option linter.unusedSimpArgs false
set_option maxRecDepth 1000000 in
set_option maxHeartbeats 4000000 in
theorem fin_101_true {bits m : Nat} {size e : Int} {sg : Bool} {T S R : ByteArray} {P : Int} (p mi sp z : Bool) (wid prec : Int) (hP : PtC bits size sg m e 0) (hmin : min prec 1000 = P)
  (hN : ∀ w, Calls Tryz.prog 321 #[.agg #[.int .u64 bits, .int .i64 size, .int .u64 m, .int .i64 e, .int .i64 P, .bool true]] w fun x w' => x = .returned (.string T) ∧ Below w.heap.size w w')
  (hS : ∀ w, Calls Tryz.prog 287 #[.bool sg, .agg #[.bool p, .bool mi, .bool true, .bool sp, .bool z, .int .i64 wid, .int .i64 prec, .int .i32 101]] w fun x w' => x = .returned (.string S) ∧ Below w.heap.size w w')
  (hF : ∀ w, Calls Tryz.prog 291 #[.string S, .string T, .agg #[.bool p, .bool mi, .bool true, .bool sp, .bool z, .int .i64 wid, .int .i64 prec, .int .i32 101]] w fun x w' => x = .returned (.string R) ∧ Below w.heap.size w w') : FlCq bits size p mi true sp z wid prec 101 R true := fun w => by
 have hbA : Below w.heap.size w (w.alloc (.cells #[.bool p, .bool mi, .bool true, .bool sp, .bool z, .int .i64 wid, .int .i64 prec, .int .i32 101] 198)) := (Below.refl _ _).alloc (Nat.le_refl _) _
 have f0 : ∀ x : Cl (w.alloc (.cells #[.bool p, .bool mi, .bool true, .bool sp, .bool z, .int .i64 wid, .int .i64 prec, .int .i32 101] 198)), x.w.cell? ⟨w.heap.size, 0, none⟩ = some (.bool p) := fun x => x.cell (by simp)
 have f1 : ∀ x : Cl (w.alloc (.cells #[.bool p, .bool mi, .bool true, .bool sp, .bool z, .int .i64 wid, .int .i64 prec, .int .i32 101] 198)), x.w.cell? ⟨w.heap.size, 1, none⟩ = some (.bool mi) := fun x => x.cell (by simp)
 have f2 : ∀ x : Cl (w.alloc (.cells #[.bool p, .bool mi, .bool true, .bool sp, .bool z, .int .i64 wid, .int .i64 prec, .int .i32 101] 198)), x.w.cell? ⟨w.heap.size, 2, none⟩ = some (.bool true) := fun x => x.cell (by simp)
 have f3 : ∀ x : Cl (w.alloc (.cells #[.bool p, .bool mi, .bool true, .bool sp, .bool z, .int .i64 wid, .int .i64 prec, .int .i32 101] 198)), x.w.cell? ⟨w.heap.size, 3, none⟩ = some (.bool sp) := fun x => x.cell (by simp)
 have f4 : ∀ x : Cl (w.alloc (.cells #[.bool p, .bool mi, .bool true, .bool sp, .bool z, .int .i64 wid, .int .i64 prec, .int .i32 101] 198)), x.w.cell? ⟨w.heap.size, 4, none⟩ = some (.bool z) := fun x => x.cell (by simp)
 have f5 : ∀ x : Cl (w.alloc (.cells #[.bool p, .bool mi, .bool true, .bool sp, .bool z, .int .i64 wid, .int .i64 prec, .int .i32 101] 198)), x.w.cell? ⟨w.heap.size, 5, none⟩ = some (.int .i64 wid) := fun x => x.cell (by simp)
 have f6 : ∀ x : Cl (w.alloc (.cells #[.bool p, .bool mi, .bool true, .bool sp, .bool z, .int .i64 wid, .int .i64 prec, .int .i32 101] 198)), x.w.cell? ⟨w.heap.size, 6, none⟩ = some (.int .i64 prec) := fun x => x.cell (by simp)
 have f7 : ∀ x : Cl (w.alloc (.cells #[.bool p, .bool mi, .bool true, .bool sp, .bool z, .int .i64 wid, .int .i64 prec, .int .i32 101] 198)), x.w.cell? ⟨w.heap.size, 7, none⟩ = some (.int .i32 101) := fun x => x.cell (by simp)
 have hW : WrC 101 (.func (.func 321) #[] #[]) true := writer_yes (verb := 101) (by decide)
 have hG : ∀ w, Calls Tryz.prog 289 #[.int .i32 101] w fun e w' => e = .returned (.bool false) ∧ w' = w := fun w => great_any 101 w
 go_enter Tryz.func246, Tryz.ntmps246
 go_wp2_with (first
  | (go_at_call 284; (with_reducible refine (hW _).mono ?_); rintro x w1 ⟨rfl, rfl⟩)
  | (go_at_call 16; (with_reducible refine (hP _).mono ?_); rintro x w2 ⟨rfl, hb2⟩; obtain ⟨y2, rfl⟩ := Cl.start hb2)
  | (go_at_call 321; (with_reducible refine (hN _).mono ?_); rintro x w4 ⟨rfl, hb4⟩; obtain ⟨y4, rfl⟩ := Cl.next hb4)
  | (go_at_call 289; (with_reducible refine (hG _).mono ?_); rintro x w1 ⟨rfl, rfl⟩))
 refine wp_region_above (w.alloc (.cells #[.bool p, .bool mi, .bool true, .bool sp, .bool z, .int .i64 wid, .int .i64 prec, .int .i32 101] 198)) y4.below (by kernel_rfl) (by kernel_rfl) ?_
 intro hCl
 repeat (go_big_quiet_step ((first | (go_at_call 287; exact Cl.call (hS _)) | (go_at_call 291; exact Cl.call (hF _)))))
 refine wpQuiet_nil ?_
 intro _ hw'
 obtain ⟨z9, hz⟩ := hw'
 subst hz
 go_wp2
 go_returns
 exact ⟨rfl, bel_call hbA z9.below (Nat.le_refl _)⟩
set_option maxRecDepth 1000000 in
set_option maxHeartbeats 4000000 in
theorem fin_101_false {bits m : Nat} {size e : Int} {sg : Bool} {T S R : ByteArray} {P : Int} (p mi sp z : Bool) (wid prec : Int) (hP : PtC bits size sg m e 0) (hmin : min prec 1000 = P)
  (hN : ∀ w, Calls Tryz.prog 321 #[.agg #[.int .u64 bits, .int .i64 size, .int .u64 m, .int .i64 e, .int .i64 P, .bool false]] w fun x w' => x = .returned (.string T) ∧ Below w.heap.size w w')
  (hS : ∀ w, Calls Tryz.prog 287 #[.bool sg, .agg #[.bool p, .bool mi, .bool false, .bool sp, .bool z, .int .i64 wid, .int .i64 prec, .int .i32 101]] w fun x w' => x = .returned (.string S) ∧ Below w.heap.size w w')
  (hF : ∀ w, Calls Tryz.prog 291 #[.string S, .string T, .agg #[.bool p, .bool mi, .bool false, .bool sp, .bool z, .int .i64 wid, .int .i64 prec, .int .i32 101]] w fun x w' => x = .returned (.string R) ∧ Below w.heap.size w w') : FlCq bits size p mi false sp z wid prec 101 R true := fun w => by
 have hbA : Below w.heap.size w (w.alloc (.cells #[.bool p, .bool mi, .bool false, .bool sp, .bool z, .int .i64 wid, .int .i64 prec, .int .i32 101] 198)) := (Below.refl _ _).alloc (Nat.le_refl _) _
 have f0 : ∀ x : Cl (w.alloc (.cells #[.bool p, .bool mi, .bool false, .bool sp, .bool z, .int .i64 wid, .int .i64 prec, .int .i32 101] 198)), x.w.cell? ⟨w.heap.size, 0, none⟩ = some (.bool p) := fun x => x.cell (by simp)
 have f1 : ∀ x : Cl (w.alloc (.cells #[.bool p, .bool mi, .bool false, .bool sp, .bool z, .int .i64 wid, .int .i64 prec, .int .i32 101] 198)), x.w.cell? ⟨w.heap.size, 1, none⟩ = some (.bool mi) := fun x => x.cell (by simp)
 have f2 : ∀ x : Cl (w.alloc (.cells #[.bool p, .bool mi, .bool false, .bool sp, .bool z, .int .i64 wid, .int .i64 prec, .int .i32 101] 198)), x.w.cell? ⟨w.heap.size, 2, none⟩ = some (.bool false) := fun x => x.cell (by simp)
 have f3 : ∀ x : Cl (w.alloc (.cells #[.bool p, .bool mi, .bool false, .bool sp, .bool z, .int .i64 wid, .int .i64 prec, .int .i32 101] 198)), x.w.cell? ⟨w.heap.size, 3, none⟩ = some (.bool sp) := fun x => x.cell (by simp)
 have f4 : ∀ x : Cl (w.alloc (.cells #[.bool p, .bool mi, .bool false, .bool sp, .bool z, .int .i64 wid, .int .i64 prec, .int .i32 101] 198)), x.w.cell? ⟨w.heap.size, 4, none⟩ = some (.bool z) := fun x => x.cell (by simp)
 have f5 : ∀ x : Cl (w.alloc (.cells #[.bool p, .bool mi, .bool false, .bool sp, .bool z, .int .i64 wid, .int .i64 prec, .int .i32 101] 198)), x.w.cell? ⟨w.heap.size, 5, none⟩ = some (.int .i64 wid) := fun x => x.cell (by simp)
 have f6 : ∀ x : Cl (w.alloc (.cells #[.bool p, .bool mi, .bool false, .bool sp, .bool z, .int .i64 wid, .int .i64 prec, .int .i32 101] 198)), x.w.cell? ⟨w.heap.size, 6, none⟩ = some (.int .i64 prec) := fun x => x.cell (by simp)
 have f7 : ∀ x : Cl (w.alloc (.cells #[.bool p, .bool mi, .bool false, .bool sp, .bool z, .int .i64 wid, .int .i64 prec, .int .i32 101] 198)), x.w.cell? ⟨w.heap.size, 7, none⟩ = some (.int .i32 101) := fun x => x.cell (by simp)
 have hW : WrC 101 (.func (.func 321) #[] #[]) true := writer_yes (verb := 101) (by decide)
 have hG : ∀ w, Calls Tryz.prog 289 #[.int .i32 101] w fun e w' => e = .returned (.bool false) ∧ w' = w := fun w => great_any 101 w
 go_enter Tryz.func246, Tryz.ntmps246
 go_wp2_with (first
  | (go_at_call 284; (with_reducible refine (hW _).mono ?_); rintro x w1 ⟨rfl, rfl⟩)
  | (go_at_call 16; (with_reducible refine (hP _).mono ?_); rintro x w2 ⟨rfl, hb2⟩; obtain ⟨y2, rfl⟩ := Cl.start hb2)
  | (go_at_call 321; (with_reducible refine (hN _).mono ?_); rintro x w4 ⟨rfl, hb4⟩; obtain ⟨y4, rfl⟩ := Cl.next hb4)
  | (go_at_call 289; (with_reducible refine (hG _).mono ?_); rintro x w1 ⟨rfl, rfl⟩))
 refine wp_region_above (w.alloc (.cells #[.bool p, .bool mi, .bool false, .bool sp, .bool z, .int .i64 wid, .int .i64 prec, .int .i32 101] 198)) y4.below (by kernel_rfl) (by kernel_rfl) ?_
 intro hCl
 repeat (go_big_quiet_step ((first | (go_at_call 287; exact Cl.call (hS _)) | (go_at_call 291; exact Cl.call (hF _)))))
 refine wpQuiet_nil ?_
 intro _ hw'
 obtain ⟨z9, hz⟩ := hw'
 subst hz
 go_wp2
 go_returns
 exact ⟨rfl, bel_call hbA z9.below (Nat.le_refl _)⟩
set_option maxRecDepth 1000000 in
set_option maxHeartbeats 4000000 in
theorem fin_69_true {bits m : Nat} {size e : Int} {sg : Bool} {T U S R : ByteArray} {P : Int} (p mi sp z : Bool) (wid prec : Int) (hP : PtC bits size sg m e 0) (hmin : min prec 1000 = P)
  (hN : ∀ w, Calls Tryz.prog 321 #[.agg #[.int .u64 bits, .int .i64 size, .int .u64 m, .int .i64 e, .int .i64 P, .bool true]] w fun x w' => x = .returned (.string T) ∧ Below w.heap.size w w') (hU : ∀ w, Calls Tryz.prog 290 #[.string T] w fun x w' => x = .returned (.string U) ∧ Below w.heap.size w w')
  (hS : ∀ w, Calls Tryz.prog 287 #[.bool sg, .agg #[.bool p, .bool mi, .bool true, .bool sp, .bool z, .int .i64 wid, .int .i64 prec, .int .i32 69]] w fun x w' => x = .returned (.string S) ∧ Below w.heap.size w w')
  (hF : ∀ w, Calls Tryz.prog 291 #[.string S, .string U, .agg #[.bool p, .bool mi, .bool true, .bool sp, .bool z, .int .i64 wid, .int .i64 prec, .int .i32 69]] w fun x w' => x = .returned (.string R) ∧ Below w.heap.size w w') : FlCq bits size p mi true sp z wid prec 69 R true := fun w => by
 have hbA : Below w.heap.size w (w.alloc (.cells #[.bool p, .bool mi, .bool true, .bool sp, .bool z, .int .i64 wid, .int .i64 prec, .int .i32 69] 198)) := (Below.refl _ _).alloc (Nat.le_refl _) _
 have f0 : ∀ x : Cl (w.alloc (.cells #[.bool p, .bool mi, .bool true, .bool sp, .bool z, .int .i64 wid, .int .i64 prec, .int .i32 69] 198)), x.w.cell? ⟨w.heap.size, 0, none⟩ = some (.bool p) := fun x => x.cell (by simp)
 have f1 : ∀ x : Cl (w.alloc (.cells #[.bool p, .bool mi, .bool true, .bool sp, .bool z, .int .i64 wid, .int .i64 prec, .int .i32 69] 198)), x.w.cell? ⟨w.heap.size, 1, none⟩ = some (.bool mi) := fun x => x.cell (by simp)
 have f2 : ∀ x : Cl (w.alloc (.cells #[.bool p, .bool mi, .bool true, .bool sp, .bool z, .int .i64 wid, .int .i64 prec, .int .i32 69] 198)), x.w.cell? ⟨w.heap.size, 2, none⟩ = some (.bool true) := fun x => x.cell (by simp)
 have f3 : ∀ x : Cl (w.alloc (.cells #[.bool p, .bool mi, .bool true, .bool sp, .bool z, .int .i64 wid, .int .i64 prec, .int .i32 69] 198)), x.w.cell? ⟨w.heap.size, 3, none⟩ = some (.bool sp) := fun x => x.cell (by simp)
 have f4 : ∀ x : Cl (w.alloc (.cells #[.bool p, .bool mi, .bool true, .bool sp, .bool z, .int .i64 wid, .int .i64 prec, .int .i32 69] 198)), x.w.cell? ⟨w.heap.size, 4, none⟩ = some (.bool z) := fun x => x.cell (by simp)
 have f5 : ∀ x : Cl (w.alloc (.cells #[.bool p, .bool mi, .bool true, .bool sp, .bool z, .int .i64 wid, .int .i64 prec, .int .i32 69] 198)), x.w.cell? ⟨w.heap.size, 5, none⟩ = some (.int .i64 wid) := fun x => x.cell (by simp)
 have f6 : ∀ x : Cl (w.alloc (.cells #[.bool p, .bool mi, .bool true, .bool sp, .bool z, .int .i64 wid, .int .i64 prec, .int .i32 69] 198)), x.w.cell? ⟨w.heap.size, 6, none⟩ = some (.int .i64 prec) := fun x => x.cell (by simp)
 have f7 : ∀ x : Cl (w.alloc (.cells #[.bool p, .bool mi, .bool true, .bool sp, .bool z, .int .i64 wid, .int .i64 prec, .int .i32 69] 198)), x.w.cell? ⟨w.heap.size, 7, none⟩ = some (.int .i32 69) := fun x => x.cell (by simp)
 have hW : WrC 69 (.func (.func 321) #[] #[]) true := writer_yes (verb := 69) (by decide)
 have hG : ∀ w, Calls Tryz.prog 289 #[.int .i32 69] w fun e w' => e = .returned (.bool true) ∧ w' = w := fun w => great_any 69 w
 go_enter Tryz.func246, Tryz.ntmps246
 go_wp2_with (first
  | (go_at_call 284; (with_reducible refine (hW _).mono ?_); rintro x w1 ⟨rfl, rfl⟩)
  | (go_at_call 16; (with_reducible refine (hP _).mono ?_); rintro x w2 ⟨rfl, hb2⟩; obtain ⟨y2, rfl⟩ := Cl.start hb2)
  | (go_at_call 321; (with_reducible refine (hN _).mono ?_); rintro x w4 ⟨rfl, hb4⟩; obtain ⟨y4, rfl⟩ := Cl.next hb4)
  | (go_at_call 289; (with_reducible refine (hG _).mono ?_); rintro x w1 ⟨rfl, rfl⟩)
  | (go_at_call 290; (with_reducible refine (hU _).mono ?_); rintro x w5 ⟨rfl, hb5⟩; obtain ⟨y5, rfl⟩ := Cl.next hb5))
 refine wp_region_above (w.alloc (.cells #[.bool p, .bool mi, .bool true, .bool sp, .bool z, .int .i64 wid, .int .i64 prec, .int .i32 69] 198)) y5.below (by kernel_rfl) (by kernel_rfl) ?_
 intro hCl
 repeat (go_big_quiet_step ((first | (go_at_call 287; exact Cl.call (hS _)) | (go_at_call 291; exact Cl.call (hF _)))))
 refine wpQuiet_nil ?_
 intro _ hw'
 obtain ⟨z9, hz⟩ := hw'
 subst hz
 go_wp2
 go_returns
 exact ⟨rfl, bel_call hbA z9.below (Nat.le_refl _)⟩
set_option maxRecDepth 1000000 in
set_option maxHeartbeats 4000000 in
theorem fin_69_false {bits m : Nat} {size e : Int} {sg : Bool} {T U S R : ByteArray} {P : Int} (p mi sp z : Bool) (wid prec : Int) (hP : PtC bits size sg m e 0) (hmin : min prec 1000 = P)
  (hN : ∀ w, Calls Tryz.prog 321 #[.agg #[.int .u64 bits, .int .i64 size, .int .u64 m, .int .i64 e, .int .i64 P, .bool false]] w fun x w' => x = .returned (.string T) ∧ Below w.heap.size w w') (hU : ∀ w, Calls Tryz.prog 290 #[.string T] w fun x w' => x = .returned (.string U) ∧ Below w.heap.size w w')
  (hS : ∀ w, Calls Tryz.prog 287 #[.bool sg, .agg #[.bool p, .bool mi, .bool false, .bool sp, .bool z, .int .i64 wid, .int .i64 prec, .int .i32 69]] w fun x w' => x = .returned (.string S) ∧ Below w.heap.size w w')
  (hF : ∀ w, Calls Tryz.prog 291 #[.string S, .string U, .agg #[.bool p, .bool mi, .bool false, .bool sp, .bool z, .int .i64 wid, .int .i64 prec, .int .i32 69]] w fun x w' => x = .returned (.string R) ∧ Below w.heap.size w w') : FlCq bits size p mi false sp z wid prec 69 R true := fun w => by
 have hbA : Below w.heap.size w (w.alloc (.cells #[.bool p, .bool mi, .bool false, .bool sp, .bool z, .int .i64 wid, .int .i64 prec, .int .i32 69] 198)) := (Below.refl _ _).alloc (Nat.le_refl _) _
 have f0 : ∀ x : Cl (w.alloc (.cells #[.bool p, .bool mi, .bool false, .bool sp, .bool z, .int .i64 wid, .int .i64 prec, .int .i32 69] 198)), x.w.cell? ⟨w.heap.size, 0, none⟩ = some (.bool p) := fun x => x.cell (by simp)
 have f1 : ∀ x : Cl (w.alloc (.cells #[.bool p, .bool mi, .bool false, .bool sp, .bool z, .int .i64 wid, .int .i64 prec, .int .i32 69] 198)), x.w.cell? ⟨w.heap.size, 1, none⟩ = some (.bool mi) := fun x => x.cell (by simp)
 have f2 : ∀ x : Cl (w.alloc (.cells #[.bool p, .bool mi, .bool false, .bool sp, .bool z, .int .i64 wid, .int .i64 prec, .int .i32 69] 198)), x.w.cell? ⟨w.heap.size, 2, none⟩ = some (.bool false) := fun x => x.cell (by simp)
 have f3 : ∀ x : Cl (w.alloc (.cells #[.bool p, .bool mi, .bool false, .bool sp, .bool z, .int .i64 wid, .int .i64 prec, .int .i32 69] 198)), x.w.cell? ⟨w.heap.size, 3, none⟩ = some (.bool sp) := fun x => x.cell (by simp)
 have f4 : ∀ x : Cl (w.alloc (.cells #[.bool p, .bool mi, .bool false, .bool sp, .bool z, .int .i64 wid, .int .i64 prec, .int .i32 69] 198)), x.w.cell? ⟨w.heap.size, 4, none⟩ = some (.bool z) := fun x => x.cell (by simp)
 have f5 : ∀ x : Cl (w.alloc (.cells #[.bool p, .bool mi, .bool false, .bool sp, .bool z, .int .i64 wid, .int .i64 prec, .int .i32 69] 198)), x.w.cell? ⟨w.heap.size, 5, none⟩ = some (.int .i64 wid) := fun x => x.cell (by simp)
 have f6 : ∀ x : Cl (w.alloc (.cells #[.bool p, .bool mi, .bool false, .bool sp, .bool z, .int .i64 wid, .int .i64 prec, .int .i32 69] 198)), x.w.cell? ⟨w.heap.size, 6, none⟩ = some (.int .i64 prec) := fun x => x.cell (by simp)
 have f7 : ∀ x : Cl (w.alloc (.cells #[.bool p, .bool mi, .bool false, .bool sp, .bool z, .int .i64 wid, .int .i64 prec, .int .i32 69] 198)), x.w.cell? ⟨w.heap.size, 7, none⟩ = some (.int .i32 69) := fun x => x.cell (by simp)
 have hW : WrC 69 (.func (.func 321) #[] #[]) true := writer_yes (verb := 69) (by decide)
 have hG : ∀ w, Calls Tryz.prog 289 #[.int .i32 69] w fun e w' => e = .returned (.bool true) ∧ w' = w := fun w => great_any 69 w
 go_enter Tryz.func246, Tryz.ntmps246
 go_wp2_with (first
  | (go_at_call 284; (with_reducible refine (hW _).mono ?_); rintro x w1 ⟨rfl, rfl⟩)
  | (go_at_call 16; (with_reducible refine (hP _).mono ?_); rintro x w2 ⟨rfl, hb2⟩; obtain ⟨y2, rfl⟩ := Cl.start hb2)
  | (go_at_call 321; (with_reducible refine (hN _).mono ?_); rintro x w4 ⟨rfl, hb4⟩; obtain ⟨y4, rfl⟩ := Cl.next hb4)
  | (go_at_call 289; (with_reducible refine (hG _).mono ?_); rintro x w1 ⟨rfl, rfl⟩)
  | (go_at_call 290; (with_reducible refine (hU _).mono ?_); rintro x w5 ⟨rfl, hb5⟩; obtain ⟨y5, rfl⟩ := Cl.next hb5))
 refine wp_region_above (w.alloc (.cells #[.bool p, .bool mi, .bool false, .bool sp, .bool z, .int .i64 wid, .int .i64 prec, .int .i32 69] 198)) y5.below (by kernel_rfl) (by kernel_rfl) ?_
 intro hCl
 repeat (go_big_quiet_step ((first | (go_at_call 287; exact Cl.call (hS _)) | (go_at_call 291; exact Cl.call (hF _)))))
 refine wpQuiet_nil ?_
 intro _ hw'
 obtain ⟨z9, hz⟩ := hw'
 subst hz
 go_wp2
 go_returns
 exact ⟨rfl, bel_call hbA z9.below (Nat.le_refl _)⟩
set_option maxRecDepth 1000000 in
set_option maxHeartbeats 4000000 in
theorem fin_102_true {bits m : Nat} {size e : Int} {sg : Bool} {T S R : ByteArray} {P : Int} (p mi sp z : Bool) (wid prec : Int) (hP : PtC bits size sg m e 0) (hmin : min prec 1000 = P)
  (hN : ∀ w, Calls Tryz.prog 322 #[.agg #[.int .u64 bits, .int .i64 size, .int .u64 m, .int .i64 e, .int .i64 P, .bool true]] w fun x w' => x = .returned (.string T) ∧ Below w.heap.size w w')
  (hS : ∀ w, Calls Tryz.prog 287 #[.bool sg, .agg #[.bool p, .bool mi, .bool true, .bool sp, .bool z, .int .i64 wid, .int .i64 prec, .int .i32 102]] w fun x w' => x = .returned (.string S) ∧ Below w.heap.size w w')
  (hF : ∀ w, Calls Tryz.prog 291 #[.string S, .string T, .agg #[.bool p, .bool mi, .bool true, .bool sp, .bool z, .int .i64 wid, .int .i64 prec, .int .i32 102]] w fun x w' => x = .returned (.string R) ∧ Below w.heap.size w w') : FlCq bits size p mi true sp z wid prec 102 R true := fun w => by
 have hbA : Below w.heap.size w (w.alloc (.cells #[.bool p, .bool mi, .bool true, .bool sp, .bool z, .int .i64 wid, .int .i64 prec, .int .i32 102] 198)) := (Below.refl _ _).alloc (Nat.le_refl _) _
 have f0 : ∀ x : Cl (w.alloc (.cells #[.bool p, .bool mi, .bool true, .bool sp, .bool z, .int .i64 wid, .int .i64 prec, .int .i32 102] 198)), x.w.cell? ⟨w.heap.size, 0, none⟩ = some (.bool p) := fun x => x.cell (by simp)
 have f1 : ∀ x : Cl (w.alloc (.cells #[.bool p, .bool mi, .bool true, .bool sp, .bool z, .int .i64 wid, .int .i64 prec, .int .i32 102] 198)), x.w.cell? ⟨w.heap.size, 1, none⟩ = some (.bool mi) := fun x => x.cell (by simp)
 have f2 : ∀ x : Cl (w.alloc (.cells #[.bool p, .bool mi, .bool true, .bool sp, .bool z, .int .i64 wid, .int .i64 prec, .int .i32 102] 198)), x.w.cell? ⟨w.heap.size, 2, none⟩ = some (.bool true) := fun x => x.cell (by simp)
 have f3 : ∀ x : Cl (w.alloc (.cells #[.bool p, .bool mi, .bool true, .bool sp, .bool z, .int .i64 wid, .int .i64 prec, .int .i32 102] 198)), x.w.cell? ⟨w.heap.size, 3, none⟩ = some (.bool sp) := fun x => x.cell (by simp)
 have f4 : ∀ x : Cl (w.alloc (.cells #[.bool p, .bool mi, .bool true, .bool sp, .bool z, .int .i64 wid, .int .i64 prec, .int .i32 102] 198)), x.w.cell? ⟨w.heap.size, 4, none⟩ = some (.bool z) := fun x => x.cell (by simp)
 have f5 : ∀ x : Cl (w.alloc (.cells #[.bool p, .bool mi, .bool true, .bool sp, .bool z, .int .i64 wid, .int .i64 prec, .int .i32 102] 198)), x.w.cell? ⟨w.heap.size, 5, none⟩ = some (.int .i64 wid) := fun x => x.cell (by simp)
 have f6 : ∀ x : Cl (w.alloc (.cells #[.bool p, .bool mi, .bool true, .bool sp, .bool z, .int .i64 wid, .int .i64 prec, .int .i32 102] 198)), x.w.cell? ⟨w.heap.size, 6, none⟩ = some (.int .i64 prec) := fun x => x.cell (by simp)
 have f7 : ∀ x : Cl (w.alloc (.cells #[.bool p, .bool mi, .bool true, .bool sp, .bool z, .int .i64 wid, .int .i64 prec, .int .i32 102] 198)), x.w.cell? ⟨w.heap.size, 7, none⟩ = some (.int .i32 102) := fun x => x.cell (by simp)
 have hW : WrC 102 (.func (.func 322) #[] #[]) true := writer_yes (verb := 102) (by decide)
 have hG : ∀ w, Calls Tryz.prog 289 #[.int .i32 102] w fun e w' => e = .returned (.bool false) ∧ w' = w := fun w => great_any 102 w
 go_enter Tryz.func246, Tryz.ntmps246
 go_wp2_with (first
  | (go_at_call 284; (with_reducible refine (hW _).mono ?_); rintro x w1 ⟨rfl, rfl⟩)
  | (go_at_call 16; (with_reducible refine (hP _).mono ?_); rintro x w2 ⟨rfl, hb2⟩; obtain ⟨y2, rfl⟩ := Cl.start hb2)
  | (go_at_call 322; (with_reducible refine (hN _).mono ?_); rintro x w4 ⟨rfl, hb4⟩; obtain ⟨y4, rfl⟩ := Cl.next hb4)
  | (go_at_call 289; (with_reducible refine (hG _).mono ?_); rintro x w1 ⟨rfl, rfl⟩))
 refine wp_region_above (w.alloc (.cells #[.bool p, .bool mi, .bool true, .bool sp, .bool z, .int .i64 wid, .int .i64 prec, .int .i32 102] 198)) y4.below (by kernel_rfl) (by kernel_rfl) ?_
 intro hCl
 repeat (go_big_quiet_step ((first | (go_at_call 287; exact Cl.call (hS _)) | (go_at_call 291; exact Cl.call (hF _)))))
 refine wpQuiet_nil ?_
 intro _ hw'
 obtain ⟨z9, hz⟩ := hw'
 subst hz
 go_wp2
 go_returns
 exact ⟨rfl, bel_call hbA z9.below (Nat.le_refl _)⟩
set_option maxRecDepth 1000000 in
set_option maxHeartbeats 4000000 in
theorem fin_102_false {bits m : Nat} {size e : Int} {sg : Bool} {T S R : ByteArray} {P : Int} (p mi sp z : Bool) (wid prec : Int) (hP : PtC bits size sg m e 0) (hmin : min prec 1000 = P)
  (hN : ∀ w, Calls Tryz.prog 322 #[.agg #[.int .u64 bits, .int .i64 size, .int .u64 m, .int .i64 e, .int .i64 P, .bool false]] w fun x w' => x = .returned (.string T) ∧ Below w.heap.size w w')
  (hS : ∀ w, Calls Tryz.prog 287 #[.bool sg, .agg #[.bool p, .bool mi, .bool false, .bool sp, .bool z, .int .i64 wid, .int .i64 prec, .int .i32 102]] w fun x w' => x = .returned (.string S) ∧ Below w.heap.size w w')
  (hF : ∀ w, Calls Tryz.prog 291 #[.string S, .string T, .agg #[.bool p, .bool mi, .bool false, .bool sp, .bool z, .int .i64 wid, .int .i64 prec, .int .i32 102]] w fun x w' => x = .returned (.string R) ∧ Below w.heap.size w w') : FlCq bits size p mi false sp z wid prec 102 R true := fun w => by
 have hbA : Below w.heap.size w (w.alloc (.cells #[.bool p, .bool mi, .bool false, .bool sp, .bool z, .int .i64 wid, .int .i64 prec, .int .i32 102] 198)) := (Below.refl _ _).alloc (Nat.le_refl _) _
 have f0 : ∀ x : Cl (w.alloc (.cells #[.bool p, .bool mi, .bool false, .bool sp, .bool z, .int .i64 wid, .int .i64 prec, .int .i32 102] 198)), x.w.cell? ⟨w.heap.size, 0, none⟩ = some (.bool p) := fun x => x.cell (by simp)
 have f1 : ∀ x : Cl (w.alloc (.cells #[.bool p, .bool mi, .bool false, .bool sp, .bool z, .int .i64 wid, .int .i64 prec, .int .i32 102] 198)), x.w.cell? ⟨w.heap.size, 1, none⟩ = some (.bool mi) := fun x => x.cell (by simp)
 have f2 : ∀ x : Cl (w.alloc (.cells #[.bool p, .bool mi, .bool false, .bool sp, .bool z, .int .i64 wid, .int .i64 prec, .int .i32 102] 198)), x.w.cell? ⟨w.heap.size, 2, none⟩ = some (.bool false) := fun x => x.cell (by simp)
 have f3 : ∀ x : Cl (w.alloc (.cells #[.bool p, .bool mi, .bool false, .bool sp, .bool z, .int .i64 wid, .int .i64 prec, .int .i32 102] 198)), x.w.cell? ⟨w.heap.size, 3, none⟩ = some (.bool sp) := fun x => x.cell (by simp)
 have f4 : ∀ x : Cl (w.alloc (.cells #[.bool p, .bool mi, .bool false, .bool sp, .bool z, .int .i64 wid, .int .i64 prec, .int .i32 102] 198)), x.w.cell? ⟨w.heap.size, 4, none⟩ = some (.bool z) := fun x => x.cell (by simp)
 have f5 : ∀ x : Cl (w.alloc (.cells #[.bool p, .bool mi, .bool false, .bool sp, .bool z, .int .i64 wid, .int .i64 prec, .int .i32 102] 198)), x.w.cell? ⟨w.heap.size, 5, none⟩ = some (.int .i64 wid) := fun x => x.cell (by simp)
 have f6 : ∀ x : Cl (w.alloc (.cells #[.bool p, .bool mi, .bool false, .bool sp, .bool z, .int .i64 wid, .int .i64 prec, .int .i32 102] 198)), x.w.cell? ⟨w.heap.size, 6, none⟩ = some (.int .i64 prec) := fun x => x.cell (by simp)
 have f7 : ∀ x : Cl (w.alloc (.cells #[.bool p, .bool mi, .bool false, .bool sp, .bool z, .int .i64 wid, .int .i64 prec, .int .i32 102] 198)), x.w.cell? ⟨w.heap.size, 7, none⟩ = some (.int .i32 102) := fun x => x.cell (by simp)
 have hW : WrC 102 (.func (.func 322) #[] #[]) true := writer_yes (verb := 102) (by decide)
 have hG : ∀ w, Calls Tryz.prog 289 #[.int .i32 102] w fun e w' => e = .returned (.bool false) ∧ w' = w := fun w => great_any 102 w
 go_enter Tryz.func246, Tryz.ntmps246
 go_wp2_with (first
  | (go_at_call 284; (with_reducible refine (hW _).mono ?_); rintro x w1 ⟨rfl, rfl⟩)
  | (go_at_call 16; (with_reducible refine (hP _).mono ?_); rintro x w2 ⟨rfl, hb2⟩; obtain ⟨y2, rfl⟩ := Cl.start hb2)
  | (go_at_call 322; (with_reducible refine (hN _).mono ?_); rintro x w4 ⟨rfl, hb4⟩; obtain ⟨y4, rfl⟩ := Cl.next hb4)
  | (go_at_call 289; (with_reducible refine (hG _).mono ?_); rintro x w1 ⟨rfl, rfl⟩))
 refine wp_region_above (w.alloc (.cells #[.bool p, .bool mi, .bool false, .bool sp, .bool z, .int .i64 wid, .int .i64 prec, .int .i32 102] 198)) y4.below (by kernel_rfl) (by kernel_rfl) ?_
 intro hCl
 repeat (go_big_quiet_step ((first | (go_at_call 287; exact Cl.call (hS _)) | (go_at_call 291; exact Cl.call (hF _)))))
 refine wpQuiet_nil ?_
 intro _ hw'
 obtain ⟨z9, hz⟩ := hw'
 subst hz
 go_wp2
 go_returns
 exact ⟨rfl, bel_call hbA z9.below (Nat.le_refl _)⟩
end Go.Proofs.YtiagjheifblkiaaGreatDoor
namespace Go.Proofs.YtiagjheifblkiaaGreatDoor
open Go.RowKit
set_option linter.unusedVariables false
set_option linter.unusedSimpArgs false
set_option maxRecDepth 1000000 in
set_option maxHeartbeats 4000000 in
theorem fin_70_true {bits m : Nat} {size e : Int} {sg : Bool} {T S R : ByteArray} {P : Int} (p mi sp z : Bool) (wid prec : Int) (hP : PtC bits size sg m e 0) (hmin : min prec 1000 = P)
  (hN : ∀ w, Calls Tryz.prog 322 #[.agg #[.int .u64 bits, .int .i64 size, .int .u64 m, .int .i64 e, .int .i64 P, .bool true]] w fun x w' => x = .returned (.string T) ∧ Below w.heap.size w w')
  (hS : ∀ w, Calls Tryz.prog 287 #[.bool sg, .agg #[.bool p, .bool mi, .bool true, .bool sp, .bool z, .int .i64 wid, .int .i64 prec, .int .i32 70]] w fun x w' => x = .returned (.string S) ∧ Below w.heap.size w w')
  (hF : ∀ w, Calls Tryz.prog 291 #[.string S, .string T, .agg #[.bool p, .bool mi, .bool true, .bool sp, .bool z, .int .i64 wid, .int .i64 prec, .int .i32 70]] w fun x w' => x = .returned (.string R) ∧ Below w.heap.size w w') : FlCq bits size p mi true sp z wid prec 70 R true := fun w => by
 have hbA : Below w.heap.size w (w.alloc (.cells #[.bool p, .bool mi, .bool true, .bool sp, .bool z, .int .i64 wid, .int .i64 prec, .int .i32 70] 198)) := (Below.refl _ _).alloc (Nat.le_refl _) _
 have f0 : ∀ x : Cl (w.alloc (.cells #[.bool p, .bool mi, .bool true, .bool sp, .bool z, .int .i64 wid, .int .i64 prec, .int .i32 70] 198)), x.w.cell? ⟨w.heap.size, 0, none⟩ = some (.bool p) := fun x => x.cell (by simp)
 have f1 : ∀ x : Cl (w.alloc (.cells #[.bool p, .bool mi, .bool true, .bool sp, .bool z, .int .i64 wid, .int .i64 prec, .int .i32 70] 198)), x.w.cell? ⟨w.heap.size, 1, none⟩ = some (.bool mi) := fun x => x.cell (by simp)
 have f2 : ∀ x : Cl (w.alloc (.cells #[.bool p, .bool mi, .bool true, .bool sp, .bool z, .int .i64 wid, .int .i64 prec, .int .i32 70] 198)), x.w.cell? ⟨w.heap.size, 2, none⟩ = some (.bool true) := fun x => x.cell (by simp)
 have f3 : ∀ x : Cl (w.alloc (.cells #[.bool p, .bool mi, .bool true, .bool sp, .bool z, .int .i64 wid, .int .i64 prec, .int .i32 70] 198)), x.w.cell? ⟨w.heap.size, 3, none⟩ = some (.bool sp) := fun x => x.cell (by simp)
 have f4 : ∀ x : Cl (w.alloc (.cells #[.bool p, .bool mi, .bool true, .bool sp, .bool z, .int .i64 wid, .int .i64 prec, .int .i32 70] 198)), x.w.cell? ⟨w.heap.size, 4, none⟩ = some (.bool z) := fun x => x.cell (by simp)
 have f5 : ∀ x : Cl (w.alloc (.cells #[.bool p, .bool mi, .bool true, .bool sp, .bool z, .int .i64 wid, .int .i64 prec, .int .i32 70] 198)), x.w.cell? ⟨w.heap.size, 5, none⟩ = some (.int .i64 wid) := fun x => x.cell (by simp)
 have f6 : ∀ x : Cl (w.alloc (.cells #[.bool p, .bool mi, .bool true, .bool sp, .bool z, .int .i64 wid, .int .i64 prec, .int .i32 70] 198)), x.w.cell? ⟨w.heap.size, 6, none⟩ = some (.int .i64 prec) := fun x => x.cell (by simp)
 have f7 : ∀ x : Cl (w.alloc (.cells #[.bool p, .bool mi, .bool true, .bool sp, .bool z, .int .i64 wid, .int .i64 prec, .int .i32 70] 198)), x.w.cell? ⟨w.heap.size, 7, none⟩ = some (.int .i32 70) := fun x => x.cell (by simp)
 have hW : WrC 70 (.func (.func 322) #[] #[]) true := writer_yes (verb := 70) (by decide)
 have hG : ∀ w, Calls Tryz.prog 289 #[.int .i32 70] w fun e w' => e = .returned (.bool false) ∧ w' = w := fun w => great_any 70 w
 go_enter Tryz.func246, Tryz.ntmps246
 go_wp2_with (first
  | (go_at_call 284; (with_reducible refine (hW _).mono ?_); rintro x w1 ⟨rfl, rfl⟩)
  | (go_at_call 16; (with_reducible refine (hP _).mono ?_); rintro x w2 ⟨rfl, hb2⟩; obtain ⟨y2, rfl⟩ := Cl.start hb2)
  | (go_at_call 322; (with_reducible refine (hN _).mono ?_); rintro x w4 ⟨rfl, hb4⟩; obtain ⟨y4, rfl⟩ := Cl.next hb4)
  | (go_at_call 289; (with_reducible refine (hG _).mono ?_); rintro x w1 ⟨rfl, rfl⟩))
 refine wp_region_above (w.alloc (.cells #[.bool p, .bool mi, .bool true, .bool sp, .bool z, .int .i64 wid, .int .i64 prec, .int .i32 70] 198)) y4.below (by kernel_rfl) (by kernel_rfl) ?_
 intro hCl
 repeat (go_big_quiet_step ((first | (go_at_call 287; exact Cl.call (hS _)) | (go_at_call 291; exact Cl.call (hF _)))))
 refine wpQuiet_nil ?_
 intro _ hw'
 obtain ⟨z9, hz⟩ := hw'
 subst hz
 go_wp2
 go_returns
 exact ⟨rfl, bel_call hbA z9.below (Nat.le_refl _)⟩
set_option maxRecDepth 1000000 in
set_option maxHeartbeats 4000000 in
theorem fin_70_false {bits m : Nat} {size e : Int} {sg : Bool} {T S R : ByteArray} {P : Int} (p mi sp z : Bool) (wid prec : Int) (hP : PtC bits size sg m e 0) (hmin : min prec 1000 = P)
  (hN : ∀ w, Calls Tryz.prog 322 #[.agg #[.int .u64 bits, .int .i64 size, .int .u64 m, .int .i64 e, .int .i64 P, .bool false]] w fun x w' => x = .returned (.string T) ∧ Below w.heap.size w w')
  (hS : ∀ w, Calls Tryz.prog 287 #[.bool sg, .agg #[.bool p, .bool mi, .bool false, .bool sp, .bool z, .int .i64 wid, .int .i64 prec, .int .i32 70]] w fun x w' => x = .returned (.string S) ∧ Below w.heap.size w w')
  (hF : ∀ w, Calls Tryz.prog 291 #[.string S, .string T, .agg #[.bool p, .bool mi, .bool false, .bool sp, .bool z, .int .i64 wid, .int .i64 prec, .int .i32 70]] w fun x w' => x = .returned (.string R) ∧ Below w.heap.size w w') : FlCq bits size p mi false sp z wid prec 70 R true := fun w => by
 have hbA : Below w.heap.size w (w.alloc (.cells #[.bool p, .bool mi, .bool false, .bool sp, .bool z, .int .i64 wid, .int .i64 prec, .int .i32 70] 198)) := (Below.refl _ _).alloc (Nat.le_refl _) _
 have f0 : ∀ x : Cl (w.alloc (.cells #[.bool p, .bool mi, .bool false, .bool sp, .bool z, .int .i64 wid, .int .i64 prec, .int .i32 70] 198)), x.w.cell? ⟨w.heap.size, 0, none⟩ = some (.bool p) := fun x => x.cell (by simp)
 have f1 : ∀ x : Cl (w.alloc (.cells #[.bool p, .bool mi, .bool false, .bool sp, .bool z, .int .i64 wid, .int .i64 prec, .int .i32 70] 198)), x.w.cell? ⟨w.heap.size, 1, none⟩ = some (.bool mi) := fun x => x.cell (by simp)
 have f2 : ∀ x : Cl (w.alloc (.cells #[.bool p, .bool mi, .bool false, .bool sp, .bool z, .int .i64 wid, .int .i64 prec, .int .i32 70] 198)), x.w.cell? ⟨w.heap.size, 2, none⟩ = some (.bool false) := fun x => x.cell (by simp)
 have f3 : ∀ x : Cl (w.alloc (.cells #[.bool p, .bool mi, .bool false, .bool sp, .bool z, .int .i64 wid, .int .i64 prec, .int .i32 70] 198)), x.w.cell? ⟨w.heap.size, 3, none⟩ = some (.bool sp) := fun x => x.cell (by simp)
 have f4 : ∀ x : Cl (w.alloc (.cells #[.bool p, .bool mi, .bool false, .bool sp, .bool z, .int .i64 wid, .int .i64 prec, .int .i32 70] 198)), x.w.cell? ⟨w.heap.size, 4, none⟩ = some (.bool z) := fun x => x.cell (by simp)
 have f5 : ∀ x : Cl (w.alloc (.cells #[.bool p, .bool mi, .bool false, .bool sp, .bool z, .int .i64 wid, .int .i64 prec, .int .i32 70] 198)), x.w.cell? ⟨w.heap.size, 5, none⟩ = some (.int .i64 wid) := fun x => x.cell (by simp)
 have f6 : ∀ x : Cl (w.alloc (.cells #[.bool p, .bool mi, .bool false, .bool sp, .bool z, .int .i64 wid, .int .i64 prec, .int .i32 70] 198)), x.w.cell? ⟨w.heap.size, 6, none⟩ = some (.int .i64 prec) := fun x => x.cell (by simp)
 have f7 : ∀ x : Cl (w.alloc (.cells #[.bool p, .bool mi, .bool false, .bool sp, .bool z, .int .i64 wid, .int .i64 prec, .int .i32 70] 198)), x.w.cell? ⟨w.heap.size, 7, none⟩ = some (.int .i32 70) := fun x => x.cell (by simp)
 have hW : WrC 70 (.func (.func 322) #[] #[]) true := writer_yes (verb := 70) (by decide)
 have hG : ∀ w, Calls Tryz.prog 289 #[.int .i32 70] w fun e w' => e = .returned (.bool false) ∧ w' = w := fun w => great_any 70 w
 go_enter Tryz.func246, Tryz.ntmps246
 go_wp2_with (first
  | (go_at_call 284; (with_reducible refine (hW _).mono ?_); rintro x w1 ⟨rfl, rfl⟩)
  | (go_at_call 16; (with_reducible refine (hP _).mono ?_); rintro x w2 ⟨rfl, hb2⟩; obtain ⟨y2, rfl⟩ := Cl.start hb2)
  | (go_at_call 322; (with_reducible refine (hN _).mono ?_); rintro x w4 ⟨rfl, hb4⟩; obtain ⟨y4, rfl⟩ := Cl.next hb4)
  | (go_at_call 289; (with_reducible refine (hG _).mono ?_); rintro x w1 ⟨rfl, rfl⟩))
 refine wp_region_above (w.alloc (.cells #[.bool p, .bool mi, .bool false, .bool sp, .bool z, .int .i64 wid, .int .i64 prec, .int .i32 70] 198)) y4.below (by kernel_rfl) (by kernel_rfl) ?_
 intro hCl
 repeat (go_big_quiet_step ((first | (go_at_call 287; exact Cl.call (hS _)) | (go_at_call 291; exact Cl.call (hF _)))))
 refine wpQuiet_nil ?_
 intro _ hw'
 obtain ⟨z9, hz⟩ := hw'
 subst hz
 go_wp2
 go_returns
 exact ⟨rfl, bel_call hbA z9.below (Nat.le_refl _)⟩
set_option maxRecDepth 1000000 in
set_option maxHeartbeats 4000000 in
theorem fin_98_true {bits m : Nat} {size e : Int} {sg : Bool} {T S R : ByteArray} {P : Int} (p mi sp z : Bool) (wid prec : Int) (hP : PtC bits size sg m e 0) (hmin : min prec 1000 = P)
  (hN : ∀ w, Calls Tryz.prog 324 #[.agg #[.int .u64 bits, .int .i64 size, .int .u64 m, .int .i64 e, .int .i64 P, .bool true]] w fun x w' => x = .returned (.string T) ∧ Below w.heap.size w w')
  (hS : ∀ w, Calls Tryz.prog 287 #[.bool sg, .agg #[.bool p, .bool mi, .bool true, .bool sp, .bool z, .int .i64 wid, .int .i64 prec, .int .i32 98]] w fun x w' => x = .returned (.string S) ∧ Below w.heap.size w w')
  (hF : ∀ w, Calls Tryz.prog 291 #[.string S, .string T, .agg #[.bool p, .bool mi, .bool true, .bool sp, .bool z, .int .i64 wid, .int .i64 prec, .int .i32 98]] w fun x w' => x = .returned (.string R) ∧ Below w.heap.size w w') : FlCq bits size p mi true sp z wid prec 98 R true := fun w => by
 have hbA : Below w.heap.size w (w.alloc (.cells #[.bool p, .bool mi, .bool true, .bool sp, .bool z, .int .i64 wid, .int .i64 prec, .int .i32 98] 198)) := (Below.refl _ _).alloc (Nat.le_refl _) _
 have f0 : ∀ x : Cl (w.alloc (.cells #[.bool p, .bool mi, .bool true, .bool sp, .bool z, .int .i64 wid, .int .i64 prec, .int .i32 98] 198)), x.w.cell? ⟨w.heap.size, 0, none⟩ = some (.bool p) := fun x => x.cell (by simp)
 have f1 : ∀ x : Cl (w.alloc (.cells #[.bool p, .bool mi, .bool true, .bool sp, .bool z, .int .i64 wid, .int .i64 prec, .int .i32 98] 198)), x.w.cell? ⟨w.heap.size, 1, none⟩ = some (.bool mi) := fun x => x.cell (by simp)
 have f2 : ∀ x : Cl (w.alloc (.cells #[.bool p, .bool mi, .bool true, .bool sp, .bool z, .int .i64 wid, .int .i64 prec, .int .i32 98] 198)), x.w.cell? ⟨w.heap.size, 2, none⟩ = some (.bool true) := fun x => x.cell (by simp)
 have f3 : ∀ x : Cl (w.alloc (.cells #[.bool p, .bool mi, .bool true, .bool sp, .bool z, .int .i64 wid, .int .i64 prec, .int .i32 98] 198)), x.w.cell? ⟨w.heap.size, 3, none⟩ = some (.bool sp) := fun x => x.cell (by simp)
 have f4 : ∀ x : Cl (w.alloc (.cells #[.bool p, .bool mi, .bool true, .bool sp, .bool z, .int .i64 wid, .int .i64 prec, .int .i32 98] 198)), x.w.cell? ⟨w.heap.size, 4, none⟩ = some (.bool z) := fun x => x.cell (by simp)
 have f5 : ∀ x : Cl (w.alloc (.cells #[.bool p, .bool mi, .bool true, .bool sp, .bool z, .int .i64 wid, .int .i64 prec, .int .i32 98] 198)), x.w.cell? ⟨w.heap.size, 5, none⟩ = some (.int .i64 wid) := fun x => x.cell (by simp)
 have f6 : ∀ x : Cl (w.alloc (.cells #[.bool p, .bool mi, .bool true, .bool sp, .bool z, .int .i64 wid, .int .i64 prec, .int .i32 98] 198)), x.w.cell? ⟨w.heap.size, 6, none⟩ = some (.int .i64 prec) := fun x => x.cell (by simp)
 have f7 : ∀ x : Cl (w.alloc (.cells #[.bool p, .bool mi, .bool true, .bool sp, .bool z, .int .i64 wid, .int .i64 prec, .int .i32 98] 198)), x.w.cell? ⟨w.heap.size, 7, none⟩ = some (.int .i32 98) := fun x => x.cell (by simp)
 have hW : WrC 98 (.func (.func 324) #[] #[]) true := writer_yes (verb := 98) (by decide)
 have hG : ∀ w, Calls Tryz.prog 289 #[.int .i32 98] w fun e w' => e = .returned (.bool false) ∧ w' = w := fun w => great_any 98 w
 go_enter Tryz.func246, Tryz.ntmps246
 go_wp2_with (first
  | (go_at_call 284; (with_reducible refine (hW _).mono ?_); rintro x w1 ⟨rfl, rfl⟩)
  | (go_at_call 16; (with_reducible refine (hP _).mono ?_); rintro x w2 ⟨rfl, hb2⟩; obtain ⟨y2, rfl⟩ := Cl.start hb2)
  | (go_at_call 324; (with_reducible refine (hN _).mono ?_); rintro x w4 ⟨rfl, hb4⟩; obtain ⟨y4, rfl⟩ := Cl.next hb4)
  | (go_at_call 289; (with_reducible refine (hG _).mono ?_); rintro x w1 ⟨rfl, rfl⟩))
 refine wp_region_above (w.alloc (.cells #[.bool p, .bool mi, .bool true, .bool sp, .bool z, .int .i64 wid, .int .i64 prec, .int .i32 98] 198)) y4.below (by kernel_rfl) (by kernel_rfl) ?_
 intro hCl
 repeat (go_big_quiet_step ((first | (go_at_call 287; exact Cl.call (hS _)) | (go_at_call 291; exact Cl.call (hF _)))))
 refine wpQuiet_nil ?_
 intro _ hw'
 obtain ⟨z9, hz⟩ := hw'
 subst hz
 go_wp2
 go_returns
 exact ⟨rfl, bel_call hbA z9.below (Nat.le_refl _)⟩
set_option maxRecDepth 1000000 in
set_option maxHeartbeats 4000000 in
theorem fin_98_false {bits m : Nat} {size e : Int} {sg : Bool} {T S R : ByteArray} {P : Int} (p mi sp z : Bool) (wid prec : Int) (hP : PtC bits size sg m e 0) (hmin : min prec 1000 = P)
  (hN : ∀ w, Calls Tryz.prog 324 #[.agg #[.int .u64 bits, .int .i64 size, .int .u64 m, .int .i64 e, .int .i64 P, .bool false]] w fun x w' => x = .returned (.string T) ∧ Below w.heap.size w w')
  (hS : ∀ w, Calls Tryz.prog 287 #[.bool sg, .agg #[.bool p, .bool mi, .bool false, .bool sp, .bool z, .int .i64 wid, .int .i64 prec, .int .i32 98]] w fun x w' => x = .returned (.string S) ∧ Below w.heap.size w w')
  (hF : ∀ w, Calls Tryz.prog 291 #[.string S, .string T, .agg #[.bool p, .bool mi, .bool false, .bool sp, .bool z, .int .i64 wid, .int .i64 prec, .int .i32 98]] w fun x w' => x = .returned (.string R) ∧ Below w.heap.size w w') : FlCq bits size p mi false sp z wid prec 98 R true := fun w => by
 have hbA : Below w.heap.size w (w.alloc (.cells #[.bool p, .bool mi, .bool false, .bool sp, .bool z, .int .i64 wid, .int .i64 prec, .int .i32 98] 198)) := (Below.refl _ _).alloc (Nat.le_refl _) _
 have f0 : ∀ x : Cl (w.alloc (.cells #[.bool p, .bool mi, .bool false, .bool sp, .bool z, .int .i64 wid, .int .i64 prec, .int .i32 98] 198)), x.w.cell? ⟨w.heap.size, 0, none⟩ = some (.bool p) := fun x => x.cell (by simp)
 have f1 : ∀ x : Cl (w.alloc (.cells #[.bool p, .bool mi, .bool false, .bool sp, .bool z, .int .i64 wid, .int .i64 prec, .int .i32 98] 198)), x.w.cell? ⟨w.heap.size, 1, none⟩ = some (.bool mi) := fun x => x.cell (by simp)
 have f2 : ∀ x : Cl (w.alloc (.cells #[.bool p, .bool mi, .bool false, .bool sp, .bool z, .int .i64 wid, .int .i64 prec, .int .i32 98] 198)), x.w.cell? ⟨w.heap.size, 2, none⟩ = some (.bool false) := fun x => x.cell (by simp)
 have f3 : ∀ x : Cl (w.alloc (.cells #[.bool p, .bool mi, .bool false, .bool sp, .bool z, .int .i64 wid, .int .i64 prec, .int .i32 98] 198)), x.w.cell? ⟨w.heap.size, 3, none⟩ = some (.bool sp) := fun x => x.cell (by simp)
 have f4 : ∀ x : Cl (w.alloc (.cells #[.bool p, .bool mi, .bool false, .bool sp, .bool z, .int .i64 wid, .int .i64 prec, .int .i32 98] 198)), x.w.cell? ⟨w.heap.size, 4, none⟩ = some (.bool z) := fun x => x.cell (by simp)
 have f5 : ∀ x : Cl (w.alloc (.cells #[.bool p, .bool mi, .bool false, .bool sp, .bool z, .int .i64 wid, .int .i64 prec, .int .i32 98] 198)), x.w.cell? ⟨w.heap.size, 5, none⟩ = some (.int .i64 wid) := fun x => x.cell (by simp)
 have f6 : ∀ x : Cl (w.alloc (.cells #[.bool p, .bool mi, .bool false, .bool sp, .bool z, .int .i64 wid, .int .i64 prec, .int .i32 98] 198)), x.w.cell? ⟨w.heap.size, 6, none⟩ = some (.int .i64 prec) := fun x => x.cell (by simp)
 have f7 : ∀ x : Cl (w.alloc (.cells #[.bool p, .bool mi, .bool false, .bool sp, .bool z, .int .i64 wid, .int .i64 prec, .int .i32 98] 198)), x.w.cell? ⟨w.heap.size, 7, none⟩ = some (.int .i32 98) := fun x => x.cell (by simp)
 have hW : WrC 98 (.func (.func 324) #[] #[]) true := writer_yes (verb := 98) (by decide)
 have hG : ∀ w, Calls Tryz.prog 289 #[.int .i32 98] w fun e w' => e = .returned (.bool false) ∧ w' = w := fun w => great_any 98 w
 go_enter Tryz.func246, Tryz.ntmps246
 go_wp2_with (first
  | (go_at_call 284; (with_reducible refine (hW _).mono ?_); rintro x w1 ⟨rfl, rfl⟩)
  | (go_at_call 16; (with_reducible refine (hP _).mono ?_); rintro x w2 ⟨rfl, hb2⟩; obtain ⟨y2, rfl⟩ := Cl.start hb2)
  | (go_at_call 324; (with_reducible refine (hN _).mono ?_); rintro x w4 ⟨rfl, hb4⟩; obtain ⟨y4, rfl⟩ := Cl.next hb4)
  | (go_at_call 289; (with_reducible refine (hG _).mono ?_); rintro x w1 ⟨rfl, rfl⟩))
 refine wp_region_above (w.alloc (.cells #[.bool p, .bool mi, .bool false, .bool sp, .bool z, .int .i64 wid, .int .i64 prec, .int .i32 98] 198)) y4.below (by kernel_rfl) (by kernel_rfl) ?_
 intro hCl
 repeat (go_big_quiet_step ((first | (go_at_call 287; exact Cl.call (hS _)) | (go_at_call 291; exact Cl.call (hF _)))))
 refine wpQuiet_nil ?_
 intro _ hw'
 obtain ⟨z9, hz⟩ := hw'
 subst hz
 go_wp2
 go_returns
 exact ⟨rfl, bel_call hbA z9.below (Nat.le_refl _)⟩
end Go.Proofs.YtiagjheifblkiaaGreatDoor
namespace Go.Proofs.YtiagjheifblkiaaGreatDoor
open Go.RowKit
set_option linter.unusedVariables false
set_option linter.unusedSimpArgs false
set_option maxRecDepth 1000000 in
set_option maxHeartbeats 4000000 in
theorem fin_103_true {bits m : Nat} {size e : Int} {sg : Bool} {T S R : ByteArray} {P : Int} (p mi sp z : Bool) (wid prec : Int) (hP : PtC bits size sg m e 0) (hmin : min prec 1000 = P)
  (hN : ∀ w, Calls Tryz.prog 323 #[.agg #[.int .u64 bits, .int .i64 size, .int .u64 m, .int .i64 e, .int .i64 P, .bool true]] w fun x w' => x = .returned (.string T) ∧ Below w.heap.size w w')
  (hS : ∀ w, Calls Tryz.prog 287 #[.bool sg, .agg #[.bool p, .bool mi, .bool true, .bool sp, .bool z, .int .i64 wid, .int .i64 prec, .int .i32 103]] w fun x w' => x = .returned (.string S) ∧ Below w.heap.size w w')
  (hF : ∀ w, Calls Tryz.prog 291 #[.string S, .string T, .agg #[.bool p, .bool mi, .bool true, .bool sp, .bool z, .int .i64 wid, .int .i64 prec, .int .i32 103]] w fun x w' => x = .returned (.string R) ∧ Below w.heap.size w w') : FlCq bits size p mi true sp z wid prec 103 R true := fun w => by
 have hbA : Below w.heap.size w (w.alloc (.cells #[.bool p, .bool mi, .bool true, .bool sp, .bool z, .int .i64 wid, .int .i64 prec, .int .i32 103] 198)) := (Below.refl _ _).alloc (Nat.le_refl _) _
 have f0 : ∀ x : Cl (w.alloc (.cells #[.bool p, .bool mi, .bool true, .bool sp, .bool z, .int .i64 wid, .int .i64 prec, .int .i32 103] 198)), x.w.cell? ⟨w.heap.size, 0, none⟩ = some (.bool p) := fun x => x.cell (by simp)
 have f1 : ∀ x : Cl (w.alloc (.cells #[.bool p, .bool mi, .bool true, .bool sp, .bool z, .int .i64 wid, .int .i64 prec, .int .i32 103] 198)), x.w.cell? ⟨w.heap.size, 1, none⟩ = some (.bool mi) := fun x => x.cell (by simp)
 have f2 : ∀ x : Cl (w.alloc (.cells #[.bool p, .bool mi, .bool true, .bool sp, .bool z, .int .i64 wid, .int .i64 prec, .int .i32 103] 198)), x.w.cell? ⟨w.heap.size, 2, none⟩ = some (.bool true) := fun x => x.cell (by simp)
 have f3 : ∀ x : Cl (w.alloc (.cells #[.bool p, .bool mi, .bool true, .bool sp, .bool z, .int .i64 wid, .int .i64 prec, .int .i32 103] 198)), x.w.cell? ⟨w.heap.size, 3, none⟩ = some (.bool sp) := fun x => x.cell (by simp)
 have f4 : ∀ x : Cl (w.alloc (.cells #[.bool p, .bool mi, .bool true, .bool sp, .bool z, .int .i64 wid, .int .i64 prec, .int .i32 103] 198)), x.w.cell? ⟨w.heap.size, 4, none⟩ = some (.bool z) := fun x => x.cell (by simp)
 have f5 : ∀ x : Cl (w.alloc (.cells #[.bool p, .bool mi, .bool true, .bool sp, .bool z, .int .i64 wid, .int .i64 prec, .int .i32 103] 198)), x.w.cell? ⟨w.heap.size, 5, none⟩ = some (.int .i64 wid) := fun x => x.cell (by simp)
 have f6 : ∀ x : Cl (w.alloc (.cells #[.bool p, .bool mi, .bool true, .bool sp, .bool z, .int .i64 wid, .int .i64 prec, .int .i32 103] 198)), x.w.cell? ⟨w.heap.size, 6, none⟩ = some (.int .i64 prec) := fun x => x.cell (by simp)
 have f7 : ∀ x : Cl (w.alloc (.cells #[.bool p, .bool mi, .bool true, .bool sp, .bool z, .int .i64 wid, .int .i64 prec, .int .i32 103] 198)), x.w.cell? ⟨w.heap.size, 7, none⟩ = some (.int .i32 103) := fun x => x.cell (by simp)
 have hW : WrC 103 (.func (.func 323) #[] #[]) true := writer_yes (verb := 103) (by decide)
 have hG : ∀ w, Calls Tryz.prog 289 #[.int .i32 103] w fun e w' => e = .returned (.bool false) ∧ w' = w := fun w => great_any 103 w
 go_enter Tryz.func246, Tryz.ntmps246
 go_wp2_with (first
  | (go_at_call 284; (with_reducible refine (hW _).mono ?_); rintro x w1 ⟨rfl, rfl⟩)
  | (go_at_call 16; (with_reducible refine (hP _).mono ?_); rintro x w2 ⟨rfl, hb2⟩; obtain ⟨y2, rfl⟩ := Cl.start hb2)
  | (go_at_call 323; (with_reducible refine (hN _).mono ?_); rintro x w4 ⟨rfl, hb4⟩; obtain ⟨y4, rfl⟩ := Cl.next hb4)
  | (go_at_call 289; (with_reducible refine (hG _).mono ?_); rintro x w1 ⟨rfl, rfl⟩))
 refine wp_region_above (w.alloc (.cells #[.bool p, .bool mi, .bool true, .bool sp, .bool z, .int .i64 wid, .int .i64 prec, .int .i32 103] 198)) y4.below (by kernel_rfl) (by kernel_rfl) ?_
 intro hCl
 repeat (go_big_quiet_step ((first | (go_at_call 287; exact Cl.call (hS _)) | (go_at_call 291; exact Cl.call (hF _)))))
 refine wpQuiet_nil ?_
 intro _ hw'
 obtain ⟨z9, hz⟩ := hw'
 subst hz
 go_wp2
 go_returns
 exact ⟨rfl, bel_call hbA z9.below (Nat.le_refl _)⟩
set_option maxRecDepth 1000000 in
set_option maxHeartbeats 4000000 in
theorem fin_103_false {bits m : Nat} {size e : Int} {sg : Bool} {T S R : ByteArray} {P : Int} (p mi sp z : Bool) (wid prec : Int) (hP : PtC bits size sg m e 0) (hmin : min prec 1000 = P)
  (hN : ∀ w, Calls Tryz.prog 323 #[.agg #[.int .u64 bits, .int .i64 size, .int .u64 m, .int .i64 e, .int .i64 P, .bool false]] w fun x w' => x = .returned (.string T) ∧ Below w.heap.size w w')
  (hS : ∀ w, Calls Tryz.prog 287 #[.bool sg, .agg #[.bool p, .bool mi, .bool false, .bool sp, .bool z, .int .i64 wid, .int .i64 prec, .int .i32 103]] w fun x w' => x = .returned (.string S) ∧ Below w.heap.size w w')
  (hF : ∀ w, Calls Tryz.prog 291 #[.string S, .string T, .agg #[.bool p, .bool mi, .bool false, .bool sp, .bool z, .int .i64 wid, .int .i64 prec, .int .i32 103]] w fun x w' => x = .returned (.string R) ∧ Below w.heap.size w w') : FlCq bits size p mi false sp z wid prec 103 R true := fun w => by
 have hbA : Below w.heap.size w (w.alloc (.cells #[.bool p, .bool mi, .bool false, .bool sp, .bool z, .int .i64 wid, .int .i64 prec, .int .i32 103] 198)) := (Below.refl _ _).alloc (Nat.le_refl _) _
 have f0 : ∀ x : Cl (w.alloc (.cells #[.bool p, .bool mi, .bool false, .bool sp, .bool z, .int .i64 wid, .int .i64 prec, .int .i32 103] 198)), x.w.cell? ⟨w.heap.size, 0, none⟩ = some (.bool p) := fun x => x.cell (by simp)
 have f1 : ∀ x : Cl (w.alloc (.cells #[.bool p, .bool mi, .bool false, .bool sp, .bool z, .int .i64 wid, .int .i64 prec, .int .i32 103] 198)), x.w.cell? ⟨w.heap.size, 1, none⟩ = some (.bool mi) := fun x => x.cell (by simp)
 have f2 : ∀ x : Cl (w.alloc (.cells #[.bool p, .bool mi, .bool false, .bool sp, .bool z, .int .i64 wid, .int .i64 prec, .int .i32 103] 198)), x.w.cell? ⟨w.heap.size, 2, none⟩ = some (.bool false) := fun x => x.cell (by simp)
 have f3 : ∀ x : Cl (w.alloc (.cells #[.bool p, .bool mi, .bool false, .bool sp, .bool z, .int .i64 wid, .int .i64 prec, .int .i32 103] 198)), x.w.cell? ⟨w.heap.size, 3, none⟩ = some (.bool sp) := fun x => x.cell (by simp)
 have f4 : ∀ x : Cl (w.alloc (.cells #[.bool p, .bool mi, .bool false, .bool sp, .bool z, .int .i64 wid, .int .i64 prec, .int .i32 103] 198)), x.w.cell? ⟨w.heap.size, 4, none⟩ = some (.bool z) := fun x => x.cell (by simp)
 have f5 : ∀ x : Cl (w.alloc (.cells #[.bool p, .bool mi, .bool false, .bool sp, .bool z, .int .i64 wid, .int .i64 prec, .int .i32 103] 198)), x.w.cell? ⟨w.heap.size, 5, none⟩ = some (.int .i64 wid) := fun x => x.cell (by simp)
 have f6 : ∀ x : Cl (w.alloc (.cells #[.bool p, .bool mi, .bool false, .bool sp, .bool z, .int .i64 wid, .int .i64 prec, .int .i32 103] 198)), x.w.cell? ⟨w.heap.size, 6, none⟩ = some (.int .i64 prec) := fun x => x.cell (by simp)
 have f7 : ∀ x : Cl (w.alloc (.cells #[.bool p, .bool mi, .bool false, .bool sp, .bool z, .int .i64 wid, .int .i64 prec, .int .i32 103] 198)), x.w.cell? ⟨w.heap.size, 7, none⟩ = some (.int .i32 103) := fun x => x.cell (by simp)
 have hW : WrC 103 (.func (.func 323) #[] #[]) true := writer_yes (verb := 103) (by decide)
 have hG : ∀ w, Calls Tryz.prog 289 #[.int .i32 103] w fun e w' => e = .returned (.bool false) ∧ w' = w := fun w => great_any 103 w
 go_enter Tryz.func246, Tryz.ntmps246
 go_wp2_with (first
  | (go_at_call 284; (with_reducible refine (hW _).mono ?_); rintro x w1 ⟨rfl, rfl⟩)
  | (go_at_call 16; (with_reducible refine (hP _).mono ?_); rintro x w2 ⟨rfl, hb2⟩; obtain ⟨y2, rfl⟩ := Cl.start hb2)
  | (go_at_call 323; (with_reducible refine (hN _).mono ?_); rintro x w4 ⟨rfl, hb4⟩; obtain ⟨y4, rfl⟩ := Cl.next hb4)
  | (go_at_call 289; (with_reducible refine (hG _).mono ?_); rintro x w1 ⟨rfl, rfl⟩))
 refine wp_region_above (w.alloc (.cells #[.bool p, .bool mi, .bool false, .bool sp, .bool z, .int .i64 wid, .int .i64 prec, .int .i32 103] 198)) y4.below (by kernel_rfl) (by kernel_rfl) ?_
 intro hCl
 repeat (go_big_quiet_step ((first | (go_at_call 287; exact Cl.call (hS _)) | (go_at_call 291; exact Cl.call (hF _)))))
 refine wpQuiet_nil ?_
 intro _ hw'
 obtain ⟨z9, hz⟩ := hw'
 subst hz
 go_wp2
 go_returns
 exact ⟨rfl, bel_call hbA z9.below (Nat.le_refl _)⟩
set_option maxRecDepth 1000000 in
set_option maxHeartbeats 4000000 in
theorem fin_71_true {bits m : Nat} {size e : Int} {sg : Bool} {T U S R : ByteArray} {P : Int} (p mi sp z : Bool) (wid prec : Int) (hP : PtC bits size sg m e 0) (hmin : min prec 1000 = P)
  (hN : ∀ w, Calls Tryz.prog 323 #[.agg #[.int .u64 bits, .int .i64 size, .int .u64 m, .int .i64 e, .int .i64 P, .bool true]] w fun x w' => x = .returned (.string T) ∧ Below w.heap.size w w') (hU : ∀ w, Calls Tryz.prog 290 #[.string T] w fun x w' => x = .returned (.string U) ∧ Below w.heap.size w w')
  (hS : ∀ w, Calls Tryz.prog 287 #[.bool sg, .agg #[.bool p, .bool mi, .bool true, .bool sp, .bool z, .int .i64 wid, .int .i64 prec, .int .i32 71]] w fun x w' => x = .returned (.string S) ∧ Below w.heap.size w w')
  (hF : ∀ w, Calls Tryz.prog 291 #[.string S, .string U, .agg #[.bool p, .bool mi, .bool true, .bool sp, .bool z, .int .i64 wid, .int .i64 prec, .int .i32 71]] w fun x w' => x = .returned (.string R) ∧ Below w.heap.size w w') : FlCq bits size p mi true sp z wid prec 71 R true := fun w => by
 have hbA : Below w.heap.size w (w.alloc (.cells #[.bool p, .bool mi, .bool true, .bool sp, .bool z, .int .i64 wid, .int .i64 prec, .int .i32 71] 198)) := (Below.refl _ _).alloc (Nat.le_refl _) _
 have f0 : ∀ x : Cl (w.alloc (.cells #[.bool p, .bool mi, .bool true, .bool sp, .bool z, .int .i64 wid, .int .i64 prec, .int .i32 71] 198)), x.w.cell? ⟨w.heap.size, 0, none⟩ = some (.bool p) := fun x => x.cell (by simp)
 have f1 : ∀ x : Cl (w.alloc (.cells #[.bool p, .bool mi, .bool true, .bool sp, .bool z, .int .i64 wid, .int .i64 prec, .int .i32 71] 198)), x.w.cell? ⟨w.heap.size, 1, none⟩ = some (.bool mi) := fun x => x.cell (by simp)
 have f2 : ∀ x : Cl (w.alloc (.cells #[.bool p, .bool mi, .bool true, .bool sp, .bool z, .int .i64 wid, .int .i64 prec, .int .i32 71] 198)), x.w.cell? ⟨w.heap.size, 2, none⟩ = some (.bool true) := fun x => x.cell (by simp)
 have f3 : ∀ x : Cl (w.alloc (.cells #[.bool p, .bool mi, .bool true, .bool sp, .bool z, .int .i64 wid, .int .i64 prec, .int .i32 71] 198)), x.w.cell? ⟨w.heap.size, 3, none⟩ = some (.bool sp) := fun x => x.cell (by simp)
 have f4 : ∀ x : Cl (w.alloc (.cells #[.bool p, .bool mi, .bool true, .bool sp, .bool z, .int .i64 wid, .int .i64 prec, .int .i32 71] 198)), x.w.cell? ⟨w.heap.size, 4, none⟩ = some (.bool z) := fun x => x.cell (by simp)
 have f5 : ∀ x : Cl (w.alloc (.cells #[.bool p, .bool mi, .bool true, .bool sp, .bool z, .int .i64 wid, .int .i64 prec, .int .i32 71] 198)), x.w.cell? ⟨w.heap.size, 5, none⟩ = some (.int .i64 wid) := fun x => x.cell (by simp)
 have f6 : ∀ x : Cl (w.alloc (.cells #[.bool p, .bool mi, .bool true, .bool sp, .bool z, .int .i64 wid, .int .i64 prec, .int .i32 71] 198)), x.w.cell? ⟨w.heap.size, 6, none⟩ = some (.int .i64 prec) := fun x => x.cell (by simp)
 have f7 : ∀ x : Cl (w.alloc (.cells #[.bool p, .bool mi, .bool true, .bool sp, .bool z, .int .i64 wid, .int .i64 prec, .int .i32 71] 198)), x.w.cell? ⟨w.heap.size, 7, none⟩ = some (.int .i32 71) := fun x => x.cell (by simp)
 have hW : WrC 71 (.func (.func 323) #[] #[]) true := writer_yes (verb := 71) (by decide)
 have hG : ∀ w, Calls Tryz.prog 289 #[.int .i32 71] w fun e w' => e = .returned (.bool true) ∧ w' = w := fun w => great_any 71 w
 go_enter Tryz.func246, Tryz.ntmps246
 go_wp2_with (first
  | (go_at_call 284; (with_reducible refine (hW _).mono ?_); rintro x w1 ⟨rfl, rfl⟩)
  | (go_at_call 16; (with_reducible refine (hP _).mono ?_); rintro x w2 ⟨rfl, hb2⟩; obtain ⟨y2, rfl⟩ := Cl.start hb2)
  | (go_at_call 323; (with_reducible refine (hN _).mono ?_); rintro x w4 ⟨rfl, hb4⟩; obtain ⟨y4, rfl⟩ := Cl.next hb4)
  | (go_at_call 289; (with_reducible refine (hG _).mono ?_); rintro x w1 ⟨rfl, rfl⟩)
  | (go_at_call 290; (with_reducible refine (hU _).mono ?_); rintro x w5 ⟨rfl, hb5⟩; obtain ⟨y5, rfl⟩ := Cl.next hb5))
 refine wp_region_above (w.alloc (.cells #[.bool p, .bool mi, .bool true, .bool sp, .bool z, .int .i64 wid, .int .i64 prec, .int .i32 71] 198)) y5.below (by kernel_rfl) (by kernel_rfl) ?_
 intro hCl
 repeat (go_big_quiet_step ((first | (go_at_call 287; exact Cl.call (hS _)) | (go_at_call 291; exact Cl.call (hF _)))))
 refine wpQuiet_nil ?_
 intro _ hw'
 obtain ⟨z9, hz⟩ := hw'
 subst hz
 go_wp2
 go_returns
 exact ⟨rfl, bel_call hbA z9.below (Nat.le_refl _)⟩
set_option maxRecDepth 1000000 in
set_option maxHeartbeats 4000000 in
theorem fin_71_false {bits m : Nat} {size e : Int} {sg : Bool} {T U S R : ByteArray} {P : Int} (p mi sp z : Bool) (wid prec : Int) (hP : PtC bits size sg m e 0) (hmin : min prec 1000 = P)
  (hN : ∀ w, Calls Tryz.prog 323 #[.agg #[.int .u64 bits, .int .i64 size, .int .u64 m, .int .i64 e, .int .i64 P, .bool false]] w fun x w' => x = .returned (.string T) ∧ Below w.heap.size w w') (hU : ∀ w, Calls Tryz.prog 290 #[.string T] w fun x w' => x = .returned (.string U) ∧ Below w.heap.size w w')
  (hS : ∀ w, Calls Tryz.prog 287 #[.bool sg, .agg #[.bool p, .bool mi, .bool false, .bool sp, .bool z, .int .i64 wid, .int .i64 prec, .int .i32 71]] w fun x w' => x = .returned (.string S) ∧ Below w.heap.size w w')
  (hF : ∀ w, Calls Tryz.prog 291 #[.string S, .string U, .agg #[.bool p, .bool mi, .bool false, .bool sp, .bool z, .int .i64 wid, .int .i64 prec, .int .i32 71]] w fun x w' => x = .returned (.string R) ∧ Below w.heap.size w w') : FlCq bits size p mi false sp z wid prec 71 R true := fun w => by
 have hbA : Below w.heap.size w (w.alloc (.cells #[.bool p, .bool mi, .bool false, .bool sp, .bool z, .int .i64 wid, .int .i64 prec, .int .i32 71] 198)) := (Below.refl _ _).alloc (Nat.le_refl _) _
 have f0 : ∀ x : Cl (w.alloc (.cells #[.bool p, .bool mi, .bool false, .bool sp, .bool z, .int .i64 wid, .int .i64 prec, .int .i32 71] 198)), x.w.cell? ⟨w.heap.size, 0, none⟩ = some (.bool p) := fun x => x.cell (by simp)
 have f1 : ∀ x : Cl (w.alloc (.cells #[.bool p, .bool mi, .bool false, .bool sp, .bool z, .int .i64 wid, .int .i64 prec, .int .i32 71] 198)), x.w.cell? ⟨w.heap.size, 1, none⟩ = some (.bool mi) := fun x => x.cell (by simp)
 have f2 : ∀ x : Cl (w.alloc (.cells #[.bool p, .bool mi, .bool false, .bool sp, .bool z, .int .i64 wid, .int .i64 prec, .int .i32 71] 198)), x.w.cell? ⟨w.heap.size, 2, none⟩ = some (.bool false) := fun x => x.cell (by simp)
 have f3 : ∀ x : Cl (w.alloc (.cells #[.bool p, .bool mi, .bool false, .bool sp, .bool z, .int .i64 wid, .int .i64 prec, .int .i32 71] 198)), x.w.cell? ⟨w.heap.size, 3, none⟩ = some (.bool sp) := fun x => x.cell (by simp)
 have f4 : ∀ x : Cl (w.alloc (.cells #[.bool p, .bool mi, .bool false, .bool sp, .bool z, .int .i64 wid, .int .i64 prec, .int .i32 71] 198)), x.w.cell? ⟨w.heap.size, 4, none⟩ = some (.bool z) := fun x => x.cell (by simp)
 have f5 : ∀ x : Cl (w.alloc (.cells #[.bool p, .bool mi, .bool false, .bool sp, .bool z, .int .i64 wid, .int .i64 prec, .int .i32 71] 198)), x.w.cell? ⟨w.heap.size, 5, none⟩ = some (.int .i64 wid) := fun x => x.cell (by simp)
 have f6 : ∀ x : Cl (w.alloc (.cells #[.bool p, .bool mi, .bool false, .bool sp, .bool z, .int .i64 wid, .int .i64 prec, .int .i32 71] 198)), x.w.cell? ⟨w.heap.size, 6, none⟩ = some (.int .i64 prec) := fun x => x.cell (by simp)
 have f7 : ∀ x : Cl (w.alloc (.cells #[.bool p, .bool mi, .bool false, .bool sp, .bool z, .int .i64 wid, .int .i64 prec, .int .i32 71] 198)), x.w.cell? ⟨w.heap.size, 7, none⟩ = some (.int .i32 71) := fun x => x.cell (by simp)
 have hW : WrC 71 (.func (.func 323) #[] #[]) true := writer_yes (verb := 71) (by decide)
 have hG : ∀ w, Calls Tryz.prog 289 #[.int .i32 71] w fun e w' => e = .returned (.bool true) ∧ w' = w := fun w => great_any 71 w
 go_enter Tryz.func246, Tryz.ntmps246
 go_wp2_with (first
  | (go_at_call 284; (with_reducible refine (hW _).mono ?_); rintro x w1 ⟨rfl, rfl⟩)
  | (go_at_call 16; (with_reducible refine (hP _).mono ?_); rintro x w2 ⟨rfl, hb2⟩; obtain ⟨y2, rfl⟩ := Cl.start hb2)
  | (go_at_call 323; (with_reducible refine (hN _).mono ?_); rintro x w4 ⟨rfl, hb4⟩; obtain ⟨y4, rfl⟩ := Cl.next hb4)
  | (go_at_call 289; (with_reducible refine (hG _).mono ?_); rintro x w1 ⟨rfl, rfl⟩)
  | (go_at_call 290; (with_reducible refine (hU _).mono ?_); rintro x w5 ⟨rfl, hb5⟩; obtain ⟨y5, rfl⟩ := Cl.next hb5))
 refine wp_region_above (w.alloc (.cells #[.bool p, .bool mi, .bool false, .bool sp, .bool z, .int .i64 wid, .int .i64 prec, .int .i32 71] 198)) y5.below (by kernel_rfl) (by kernel_rfl) ?_
 intro hCl
 repeat (go_big_quiet_step ((first | (go_at_call 287; exact Cl.call (hS _)) | (go_at_call 291; exact Cl.call (hF _)))))
 refine wpQuiet_nil ?_
 intro _ hw'
 obtain ⟨z9, hz⟩ := hw'
 subst hz
 go_wp2
 go_returns
 exact ⟨rfl, bel_call hbA z9.below (Nat.le_refl _)⟩
end Go.Proofs.YtiagjheifblkiaaGreatDoor
