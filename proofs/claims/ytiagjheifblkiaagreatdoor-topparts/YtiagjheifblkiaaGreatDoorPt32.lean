/- FFin3, FFin4, SLaw: these texts in one. -/
import Derived.Test.YtiagjheifblkiaaGreatDoorPt31
import Derived.Test.YtiagjheifblkiaaGreatDoorPt30
namespace Go.Proofs.YtiagjheifblkiaaGreatDoor
open Go.RowKit
set_option linter.unusedVariables false
set_option linter.unusedSimpArgs false
set_option maxRecDepth 1000000 in
set_option maxHeartbeats 4000000 in
theorem fin_103_true {bits m : Nat} {size e : Int} {sg : Bool} {T S R : ByteArray} {P : Int} (p mi sp z : Bool) (wid prec : Int) (hP : PtC bits size sg m e 0) (hmin : min prec 1000 = P)
  (hN : ∀ w, Calls Tryz.prog 323 #[.agg #[.int .u64 bits, .int .i64 size, .int .u64 m, .int .i64 e, .int .i64 P, .bool true]] w fun x w' => x = .returned (.string T) ∧ Below w.heap.size w w')
  (hS : ∀ w, Calls Tryz.prog 287 #[.bool sg, .agg #[.bool p, .bool mi, .bool true, .bool sp, .bool z, .int .i64 wid, .int .i64 prec, .int .i32 103]] w fun x w' => x = .returned (.string S) ∧ Below w.heap.size w w')
  (hF : ∀ w, Calls Tryz.prog 291 #[.string S, .string T, .agg #[.bool p, .bool mi, .bool true, .bool sp, .bool z, .int .i64 wid, .int .i64 prec, .int .i32 103]] w fun x w' => x = .returned (.string R) ∧ Below w.heap.size w w') : FlCq bits size p mi true sp z wid prec 103 R true := fun w => by
 have hbA : Below w.heap.size w (w.alloc (.cells #[.bool p, .bool mi, .bool true, .bool sp, .bool z, .int .i64 wid, .int .i64 prec, .int .i32 103] 198)) := (Below.refl _ _).alloc (Nat.le_refl _) _
 have f0 : ∀ x : Cl (w.alloc (.cells #[.bool p, .bool mi, .bool true, .bool sp, .bool z, .int .i64 wid, .int .i64 prec, .int .i32 103] 198)), x.w.cell? ⟨w.heap.size, 0, none⟩ = some (.bool p) := fun x => x.cell (by simp)
 have f1 : ∀ x : Cl (w.alloc (.cells #[.bool p, .bool mi, .bool true, .bool sp, .bool z, .int .i64 wid, .int .i64 prec, .int .i32 103] 198)), x.w.cell? ⟨w.heap.size, 1, none⟩ = some (.bool mi) := fun x => x.cell (by simp)
 have f2 : ∀ x : Cl (w.alloc (.cells #[.bool p, .bool mi, .bool true, .bool sp, .bool z, .int .i64 wid, .int .i64 prec, .int .i32 103] 198)), x.w.cell? ⟨w.heap.size, 2, none⟩ = some (.bool true) := fun x => x.cell (by simp)
 have f3 : ∀ x : Cl (w.alloc (.cells #[.bool p, .bool mi, .bool true, .bool sp, .bool z, .int .i64 wid, .int .i64 prec, .int .i32 103] 198)), x.w.cell? ⟨w.heap.size, 3, none⟩ = some (.bool sp) := fun x => x.cell (by simp)
 have f4 : ∀ x : Cl (w.alloc (.cells #[.bool p, .bool mi, .bool true, .bool sp, .bool z, .int .i64 wid, .int .i64 prec, .int .i32 103] 198)), x.w.cell? ⟨w.heap.size, 4, none⟩ = some (.bool z) := fun x => x.cell (by simp)
 have f5 : ∀ x : Cl (w.alloc (.cells #[.bool p, .bool mi, .bool true, .bool sp, .bool z, .int .i64 wid, .int .i64 prec, .int .i32 103] 198)), x.w.cell? ⟨w.heap.size, 5, none⟩ = some (.int .i64 wid) := fun x => x.cell (by simp)
 have f6 : ∀ x : Cl (w.alloc (.cells #[.bool p, .bool mi, .bool true, .bool sp, .bool z, .int .i64 wid, .int .i64 prec, .int .i32 103] 198)), x.w.cell? ⟨w.heap.size, 6, none⟩ = some (.int .i64 prec) := fun x => x.cell (by simp)
 have f7 : ∀ x : Cl (w.alloc (.cells #[.bool p, .bool mi, .bool true, .bool sp, .bool z, .int .i64 wid, .int .i64 prec, .int .i32 103] 198)), x.w.cell? ⟨w.heap.size, 7, none⟩ = some (.int .i32 103) := fun x => x.cell (by simp)
 have hW : WrC 103 (.func (.func 323) #[] #[]) true := writer_yes (verb := 103) (by decide)
 have hG : ∀ w, Calls Tryz.prog 289 #[.int .i32 103] w fun e w' => e = .returned (.bool false) ∧ w' = w := fun w => great_any 103 w
 go_enter Tryz.func246, Tryz.ntmps246
 go_wp2_with (first
  | (go_at_call 284; (with_reducible refine (hW _).mono ?_); rintro x w1 ⟨rfl, rfl⟩)
  | (go_at_call 16; (with_reducible refine (hP _).mono ?_); rintro x w2 ⟨rfl, hb2⟩; obtain ⟨y2, rfl⟩ := Cl.start hb2)
  | (go_at_call 323; (with_reducible refine (hN _).mono ?_); rintro x w4 ⟨rfl, hb4⟩; obtain ⟨y4, rfl⟩ := Cl.next hb4)
  | (go_at_call 289; (with_reducible refine (hG _).mono ?_); rintro x w1 ⟨rfl, rfl⟩))
 refine wp_region_above (w.alloc (.cells #[.bool p, .bool mi, .bool true, .bool sp, .bool z, .int .i64 wid, .int .i64 prec, .int .i32 103] 198)) y4.below (by kernel_rfl) (by kernel_rfl) ?_
 intro hCl
 repeat (go_big_quiet_step ((first | (go_at_call 287; exact Cl.call (hS _)) | (go_at_call 291; exact Cl.call (hF _)))))
 refine wpQuiet_nil ?_
 intro _ hw'
 obtain ⟨z9, hz⟩ := hw'
 subst hz
 go_wp2
 go_returns
 exact ⟨rfl, bel_call hbA z9.below (Nat.le_refl _)⟩
set_option maxRecDepth 1000000 in
set_option maxHeartbeats 4000000 in
theorem fin_103_false {bits m : Nat} {size e : Int} {sg : Bool} {T S R : ByteArray} {P : Int} (p mi sp z : Bool) (wid prec : Int) (hP : PtC bits size sg m e 0) (hmin : min prec 1000 = P)
  (hN : ∀ w, Calls Tryz.prog 323 #[.agg #[.int .u64 bits, .int .i64 size, .int .u64 m, .int .i64 e, .int .i64 P, .bool false]] w fun x w' => x = .returned (.string T) ∧ Below w.heap.size w w')
  (hS : ∀ w, Calls Tryz.prog 287 #[.bool sg, .agg #[.bool p, .bool mi, .bool false, .bool sp, .bool z, .int .i64 wid, .int .i64 prec, .int .i32 103]] w fun x w' => x = .returned (.string S) ∧ Below w.heap.size w w')
  (hF : ∀ w, Calls Tryz.prog 291 #[.string S, .string T, .agg #[.bool p, .bool mi, .bool false, .bool sp, .bool z, .int .i64 wid, .int .i64 prec, .int .i32 103]] w fun x w' => x = .returned (.string R) ∧ Below w.heap.size w w') : FlCq bits size p mi false sp z wid prec 103 R true := fun w => by
 have hbA : Below w.heap.size w (w.alloc (.cells #[.bool p, .bool mi, .bool false, .bool sp, .bool z, .int .i64 wid, .int .i64 prec, .int .i32 103] 198)) := (Below.refl _ _).alloc (Nat.le_refl _) _
 have f0 : ∀ x : Cl (w.alloc (.cells #[.bool p, .bool mi, .bool false, .bool sp, .bool z, .int .i64 wid, .int .i64 prec, .int .i32 103] 198)), x.w.cell? ⟨w.heap.size, 0, none⟩ = some (.bool p) := fun x => x.cell (by simp)
 have f1 : ∀ x : Cl (w.alloc (.cells #[.bool p, .bool mi, .bool false, .bool sp, .bool z, .int .i64 wid, .int .i64 prec, .int .i32 103] 198)), x.w.cell? ⟨w.heap.size, 1, none⟩ = some (.bool mi) := fun x => x.cell (by simp)
 have f2 : ∀ x : Cl (w.alloc (.cells #[.bool p, .bool mi, .bool false, .bool sp, .bool z, .int .i64 wid, .int .i64 prec, .int .i32 103] 198)), x.w.cell? ⟨w.heap.size, 2, none⟩ = some (.bool false) := fun x => x.cell (by simp)
 have f3 : ∀ x : Cl (w.alloc (.cells #[.bool p, .bool mi, .bool false, .bool sp, .bool z, .int .i64 wid, .int .i64 prec, .int .i32 103] 198)), x.w.cell? ⟨w.heap.size, 3, none⟩ = some (.bool sp) := fun x => x.cell (by simp)
 have f4 : ∀ x : Cl (w.alloc (.cells #[.bool p, .bool mi, .bool false, .bool sp, .bool z, .int .i64 wid, .int .i64 prec, .int .i32 103] 198)), x.w.cell? ⟨w.heap.size, 4, none⟩ = some (.bool z) := fun x => x.cell (by simp)
 have f5 : ∀ x : Cl (w.alloc (.cells #[.bool p, .bool mi, .bool false, .bool sp, .bool z, .int .i64 wid, .int .i64 prec, .int .i32 103] 198)), x.w.cell? ⟨w.heap.size, 5, none⟩ = some (.int .i64 wid) := fun x => x.cell (by simp)
 have f6 : ∀ x : Cl (w.alloc (.cells #[.bool p, .bool mi, .bool false, .bool sp, .bool z, .int .i64 wid, .int .i64 prec, .int .i32 103] 198)), x.w.cell? ⟨w.heap.size, 6, none⟩ = some (.int .i64 prec) := fun x => x.cell (by simp)
 have f7 : ∀ x : Cl (w.alloc (.cells #[.bool p, .bool mi, .bool false, .bool sp, .bool z, .int .i64 wid, .int .i64 prec, .int .i32 103] 198)), x.w.cell? ⟨w.heap.size, 7, none⟩ = some (.int .i32 103) := fun x => x.cell (by simp)
 have hW : WrC 103 (.func (.func 323) #[] #[]) true := writer_yes (verb := 103) (by decide)
 have hG : ∀ w, Calls Tryz.prog 289 #[.int .i32 103] w fun e w' => e = .returned (.bool false) ∧ w' = w := fun w => great_any 103 w
 go_enter Tryz.func246, Tryz.ntmps246
 go_wp2_with (first
  | (go_at_call 284; (with_reducible refine (hW _).mono ?_); rintro x w1 ⟨rfl, rfl⟩)
  | (go_at_call 16; (with_reducible refine (hP _).mono ?_); rintro x w2 ⟨rfl, hb2⟩; obtain ⟨y2, rfl⟩ := Cl.start hb2)
  | (go_at_call 323; (with_reducible refine (hN _).mono ?_); rintro x w4 ⟨rfl, hb4⟩; obtain ⟨y4, rfl⟩ := Cl.next hb4)
  | (go_at_call 289; (with_reducible refine (hG _).mono ?_); rintro x w1 ⟨rfl, rfl⟩))
 refine wp_region_above (w.alloc (.cells #[.bool p, .bool mi, .bool false, .bool sp, .bool z, .int .i64 wid, .int .i64 prec, .int .i32 103] 198)) y4.below (by kernel_rfl) (by kernel_rfl) ?_
 intro hCl
 repeat (go_big_quiet_step ((first | (go_at_call 287; exact Cl.call (hS _)) | (go_at_call 291; exact Cl.call (hF _)))))
 refine wpQuiet_nil ?_
 intro _ hw'
 obtain ⟨z9, hz⟩ := hw'
 subst hz
 go_wp2
 go_returns
 exact ⟨rfl, bel_call hbA z9.below (Nat.le_refl _)⟩
set_option maxRecDepth 1000000 in
set_option maxHeartbeats 4000000 in
theorem fin_71_true {bits m : Nat} {size e : Int} {sg : Bool} {T U S R : ByteArray} {P : Int} (p mi sp z : Bool) (wid prec : Int) (hP : PtC bits size sg m e 0) (hmin : min prec 1000 = P)
  (hN : ∀ w, Calls Tryz.prog 323 #[.agg #[.int .u64 bits, .int .i64 size, .int .u64 m, .int .i64 e, .int .i64 P, .bool true]] w fun x w' => x = .returned (.string T) ∧ Below w.heap.size w w') (hU : ∀ w, Calls Tryz.prog 290 #[.string T] w fun x w' => x = .returned (.string U) ∧ Below w.heap.size w w')
  (hS : ∀ w, Calls Tryz.prog 287 #[.bool sg, .agg #[.bool p, .bool mi, .bool true, .bool sp, .bool z, .int .i64 wid, .int .i64 prec, .int .i32 71]] w fun x w' => x = .returned (.string S) ∧ Below w.heap.size w w')
  (hF : ∀ w, Calls Tryz.prog 291 #[.string S, .string U, .agg #[.bool p, .bool mi, .bool true, .bool sp, .bool z, .int .i64 wid, .int .i64 prec, .int .i32 71]] w fun x w' => x = .returned (.string R) ∧ Below w.heap.size w w') : FlCq bits size p mi true sp z wid prec 71 R true := fun w => by
 have hbA : Below w.heap.size w (w.alloc (.cells #[.bool p, .bool mi, .bool true, .bool sp, .bool z, .int .i64 wid, .int .i64 prec, .int .i32 71] 198)) := (Below.refl _ _).alloc (Nat.le_refl _) _
 have f0 : ∀ x : Cl (w.alloc (.cells #[.bool p, .bool mi, .bool true, .bool sp, .bool z, .int .i64 wid, .int .i64 prec, .int .i32 71] 198)), x.w.cell? ⟨w.heap.size, 0, none⟩ = some (.bool p) := fun x => x.cell (by simp)
 have f1 : ∀ x : Cl (w.alloc (.cells #[.bool p, .bool mi, .bool true, .bool sp, .bool z, .int .i64 wid, .int .i64 prec, .int .i32 71] 198)), x.w.cell? ⟨w.heap.size, 1, none⟩ = some (.bool mi) := fun x => x.cell (by simp)
 have f2 : ∀ x : Cl (w.alloc (.cells #[.bool p, .bool mi, .bool true, .bool sp, .bool z, .int .i64 wid, .int .i64 prec, .int .i32 71] 198)), x.w.cell? ⟨w.heap.size, 2, none⟩ = some (.bool true) := fun x => x.cell (by simp)
 have f3 : ∀ x : Cl (w.alloc (.cells #[.bool p, .bool mi, .bool true, .bool sp, .bool z, .int .i64 wid, .int .i64 prec, .int .i32 71] 198)), x.w.cell? ⟨w.heap.size, 3, none⟩ = some (.bool sp) := fun x => x.cell (by simp)
 have f4 : ∀ x : Cl (w.alloc (.cells #[.bool p, .bool mi, .bool true, .bool sp, .bool z, .int .i64 wid, .int .i64 prec, .int .i32 71] 198)), x.w.cell? ⟨w.heap.size, 4, none⟩ = some (.bool z) := fun x => x.cell (by simp)
 have f5 : ∀ x : Cl (w.alloc (.cells #[.bool p, .bool mi, .bool true, .bool sp, .bool z, .int .i64 wid, .int .i64 prec, .int .i32 71] 198)), x.w.cell? ⟨w.heap.size, 5, none⟩ = some (.int .i64 wid) := fun x => x.cell (by simp)
 have f6 : ∀ x : Cl (w.alloc (.cells #[.bool p, .bool mi, .bool true, .bool sp, .bool z, .int .i64 wid, .int .i64 prec, .int .i32 71] 198)), x.w.cell? ⟨w.heap.size, 6, none⟩ = some (.int .i64 prec) := fun x => x.cell (by simp)
 have f7 : ∀ x : Cl (w.alloc (.cells #[.bool p, .bool mi, .bool true, .bool sp, .bool z, .int .i64 wid, .int .i64 prec, .int .i32 71] 198)), x.w.cell? ⟨w.heap.size, 7, none⟩ = some (.int .i32 71) := fun x => x.cell (by simp)
 have hW : WrC 71 (.func (.func 323) #[] #[]) true := writer_yes (verb := 71) (by decide)
 have hG : ∀ w, Calls Tryz.prog 289 #[.int .i32 71] w fun e w' => e = .returned (.bool true) ∧ w' = w := fun w => great_any 71 w
 go_enter Tryz.func246, Tryz.ntmps246
 go_wp2_with (first
  | (go_at_call 284; (with_reducible refine (hW _).mono ?_); rintro x w1 ⟨rfl, rfl⟩)
  | (go_at_call 16; (with_reducible refine (hP _).mono ?_); rintro x w2 ⟨rfl, hb2⟩; obtain ⟨y2, rfl⟩ := Cl.start hb2)
  | (go_at_call 323; (with_reducible refine (hN _).mono ?_); rintro x w4 ⟨rfl, hb4⟩; obtain ⟨y4, rfl⟩ := Cl.next hb4)
  | (go_at_call 289; (with_reducible refine (hG _).mono ?_); rintro x w1 ⟨rfl, rfl⟩)
  | (go_at_call 290; (with_reducible refine (hU _).mono ?_); rintro x w5 ⟨rfl, hb5⟩; obtain ⟨y5, rfl⟩ := Cl.next hb5))
 refine wp_region_above (w.alloc (.cells #[.bool p, .bool mi, .bool true, .bool sp, .bool z, .int .i64 wid, .int .i64 prec, .int .i32 71] 198)) y5.below (by kernel_rfl) (by kernel_rfl) ?_
 intro hCl
 repeat (go_big_quiet_step ((first | (go_at_call 287; exact Cl.call (hS _)) | (go_at_call 291; exact Cl.call (hF _)))))
 refine wpQuiet_nil ?_
 intro _ hw'
 obtain ⟨z9, hz⟩ := hw'
 subst hz
 go_wp2
 go_returns
 exact ⟨rfl, bel_call hbA z9.below (Nat.le_refl _)⟩
set_option maxRecDepth 1000000 in
set_option maxHeartbeats 4000000 in
theorem fin_71_false {bits m : Nat} {size e : Int} {sg : Bool} {T U S R : ByteArray} {P : Int} (p mi sp z : Bool) (wid prec : Int) (hP : PtC bits size sg m e 0) (hmin : min prec 1000 = P)
  (hN : ∀ w, Calls Tryz.prog 323 #[.agg #[.int .u64 bits, .int .i64 size, .int .u64 m, .int .i64 e, .int .i64 P, .bool false]] w fun x w' => x = .returned (.string T) ∧ Below w.heap.size w w') (hU : ∀ w, Calls Tryz.prog 290 #[.string T] w fun x w' => x = .returned (.string U) ∧ Below w.heap.size w w')
  (hS : ∀ w, Calls Tryz.prog 287 #[.bool sg, .agg #[.bool p, .bool mi, .bool false, .bool sp, .bool z, .int .i64 wid, .int .i64 prec, .int .i32 71]] w fun x w' => x = .returned (.string S) ∧ Below w.heap.size w w')
  (hF : ∀ w, Calls Tryz.prog 291 #[.string S, .string U, .agg #[.bool p, .bool mi, .bool false, .bool sp, .bool z, .int .i64 wid, .int .i64 prec, .int .i32 71]] w fun x w' => x = .returned (.string R) ∧ Below w.heap.size w w') : FlCq bits size p mi false sp z wid prec 71 R true := fun w => by
 have hbA : Below w.heap.size w (w.alloc (.cells #[.bool p, .bool mi, .bool false, .bool sp, .bool z, .int .i64 wid, .int .i64 prec, .int .i32 71] 198)) := (Below.refl _ _).alloc (Nat.le_refl _) _
 have f0 : ∀ x : Cl (w.alloc (.cells #[.bool p, .bool mi, .bool false, .bool sp, .bool z, .int .i64 wid, .int .i64 prec, .int .i32 71] 198)), x.w.cell? ⟨w.heap.size, 0, none⟩ = some (.bool p) := fun x => x.cell (by simp)
 have f1 : ∀ x : Cl (w.alloc (.cells #[.bool p, .bool mi, .bool false, .bool sp, .bool z, .int .i64 wid, .int .i64 prec, .int .i32 71] 198)), x.w.cell? ⟨w.heap.size, 1, none⟩ = some (.bool mi) := fun x => x.cell (by simp)
 have f2 : ∀ x : Cl (w.alloc (.cells #[.bool p, .bool mi, .bool false, .bool sp, .bool z, .int .i64 wid, .int .i64 prec, .int .i32 71] 198)), x.w.cell? ⟨w.heap.size, 2, none⟩ = some (.bool false) := fun x => x.cell (by simp)
 have f3 : ∀ x : Cl (w.alloc (.cells #[.bool p, .bool mi, .bool false, .bool sp, .bool z, .int .i64 wid, .int .i64 prec, .int .i32 71] 198)), x.w.cell? ⟨w.heap.size, 3, none⟩ = some (.bool sp) := fun x => x.cell (by simp)
 have f4 : ∀ x : Cl (w.alloc (.cells #[.bool p, .bool mi, .bool false, .bool sp, .bool z, .int .i64 wid, .int .i64 prec, .int .i32 71] 198)), x.w.cell? ⟨w.heap.size, 4, none⟩ = some (.bool z) := fun x => x.cell (by simp)
 have f5 : ∀ x : Cl (w.alloc (.cells #[.bool p, .bool mi, .bool false, .bool sp, .bool z, .int .i64 wid, .int .i64 prec, .int .i32 71] 198)), x.w.cell? ⟨w.heap.size, 5, none⟩ = some (.int .i64 wid) := fun x => x.cell (by simp)
 have f6 : ∀ x : Cl (w.alloc (.cells #[.bool p, .bool mi, .bool false, .bool sp, .bool z, .int .i64 wid, .int .i64 prec, .int .i32 71] 198)), x.w.cell? ⟨w.heap.size, 6, none⟩ = some (.int .i64 prec) := fun x => x.cell (by simp)
 have f7 : ∀ x : Cl (w.alloc (.cells #[.bool p, .bool mi, .bool false, .bool sp, .bool z, .int .i64 wid, .int .i64 prec, .int .i32 71] 198)), x.w.cell? ⟨w.heap.size, 7, none⟩ = some (.int .i32 71) := fun x => x.cell (by simp)
 have hW : WrC 71 (.func (.func 323) #[] #[]) true := writer_yes (verb := 71) (by decide)
 have hG : ∀ w, Calls Tryz.prog 289 #[.int .i32 71] w fun e w' => e = .returned (.bool true) ∧ w' = w := fun w => great_any 71 w
 go_enter Tryz.func246, Tryz.ntmps246
 go_wp2_with (first
  | (go_at_call 284; (with_reducible refine (hW _).mono ?_); rintro x w1 ⟨rfl, rfl⟩)
  | (go_at_call 16; (with_reducible refine (hP _).mono ?_); rintro x w2 ⟨rfl, hb2⟩; obtain ⟨y2, rfl⟩ := Cl.start hb2)
  | (go_at_call 323; (with_reducible refine (hN _).mono ?_); rintro x w4 ⟨rfl, hb4⟩; obtain ⟨y4, rfl⟩ := Cl.next hb4)
  | (go_at_call 289; (with_reducible refine (hG _).mono ?_); rintro x w1 ⟨rfl, rfl⟩)
  | (go_at_call 290; (with_reducible refine (hU _).mono ?_); rintro x w5 ⟨rfl, hb5⟩; obtain ⟨y5, rfl⟩ := Cl.next hb5))
 refine wp_region_above (w.alloc (.cells #[.bool p, .bool mi, .bool false, .bool sp, .bool z, .int .i64 wid, .int .i64 prec, .int .i32 71] 198)) y5.below (by kernel_rfl) (by kernel_rfl) ?_
 intro hCl
 repeat (go_big_quiet_step ((first | (go_at_call 287; exact Cl.call (hS _)) | (go_at_call 291; exact Cl.call (hF _)))))
 refine wpQuiet_nil ?_
 intro _ hw'
 obtain ⟨z9, hz⟩ := hw'
 subst hz
 go_wp2
 go_returns
 exact ⟨rfl, bel_call hbA z9.below (Nat.le_refl _)⟩
end Go.Proofs.YtiagjheifblkiaaGreatDoor
namespace Go.Proofs.YtiagjheifblkiaaGreatDoor
open Go.RowKit
set_option linter.unusedVariables false
set_option linter.unusedSimpArgs false
set_option maxRecDepth 1000000 in
set_option maxHeartbeats 4000000 in
theorem fin_118_true {bits m : Nat} {size e : Int} {sg : Bool} {T S R : ByteArray} {P : Int} (p mi sp z : Bool) (wid prec : Int) (hP : PtC bits size sg m e 0) (hmin : min prec 1000 = P)
  (hN : ∀ w, Calls Tryz.prog 323 #[.agg #[.int .u64 bits, .int .i64 size, .int .u64 m, .int .i64 e, .int .i64 P, .bool false]] w fun x w' => x = .returned (.string T) ∧ Below w.heap.size w w')
  (hS : ∀ w, Calls Tryz.prog 287 #[.bool sg, .agg #[.bool p, .bool mi, .bool true, .bool sp, .bool z, .int .i64 wid, .int .i64 prec, .int .i32 118]] w fun x w' => x = .returned (.string S) ∧ Below w.heap.size w w')
  (hF : ∀ w, Calls Tryz.prog 291 #[.string S, .string T, .agg #[.bool p, .bool mi, .bool true, .bool sp, .bool z, .int .i64 wid, .int .i64 prec, .int .i32 118]] w fun x w' => x = .returned (.string R) ∧ Below w.heap.size w w') : FlCq bits size p mi true sp z wid prec 118 R true := fun w => by
 have hbA : Below w.heap.size w (w.alloc (.cells #[.bool p, .bool mi, .bool true, .bool sp, .bool z, .int .i64 wid, .int .i64 prec, .int .i32 118] 198)) := (Below.refl _ _).alloc (Nat.le_refl _) _
 have f0 : ∀ x : Cl (w.alloc (.cells #[.bool p, .bool mi, .bool true, .bool sp, .bool z, .int .i64 wid, .int .i64 prec, .int .i32 118] 198)), x.w.cell? ⟨w.heap.size, 0, none⟩ = some (.bool p) := fun x => x.cell (by simp)
 have f1 : ∀ x : Cl (w.alloc (.cells #[.bool p, .bool mi, .bool true, .bool sp, .bool z, .int .i64 wid, .int .i64 prec, .int .i32 118] 198)), x.w.cell? ⟨w.heap.size, 1, none⟩ = some (.bool mi) := fun x => x.cell (by simp)
 have f2 : ∀ x : Cl (w.alloc (.cells #[.bool p, .bool mi, .bool true, .bool sp, .bool z, .int .i64 wid, .int .i64 prec, .int .i32 118] 198)), x.w.cell? ⟨w.heap.size, 2, none⟩ = some (.bool true) := fun x => x.cell (by simp)
 have f3 : ∀ x : Cl (w.alloc (.cells #[.bool p, .bool mi, .bool true, .bool sp, .bool z, .int .i64 wid, .int .i64 prec, .int .i32 118] 198)), x.w.cell? ⟨w.heap.size, 3, none⟩ = some (.bool sp) := fun x => x.cell (by simp)
 have f4 : ∀ x : Cl (w.alloc (.cells #[.bool p, .bool mi, .bool true, .bool sp, .bool z, .int .i64 wid, .int .i64 prec, .int .i32 118] 198)), x.w.cell? ⟨w.heap.size, 4, none⟩ = some (.bool z) := fun x => x.cell (by simp)
 have f5 : ∀ x : Cl (w.alloc (.cells #[.bool p, .bool mi, .bool true, .bool sp, .bool z, .int .i64 wid, .int .i64 prec, .int .i32 118] 198)), x.w.cell? ⟨w.heap.size, 5, none⟩ = some (.int .i64 wid) := fun x => x.cell (by simp)
 have f6 : ∀ x : Cl (w.alloc (.cells #[.bool p, .bool mi, .bool true, .bool sp, .bool z, .int .i64 wid, .int .i64 prec, .int .i32 118] 198)), x.w.cell? ⟨w.heap.size, 6, none⟩ = some (.int .i64 prec) := fun x => x.cell (by simp)
 have f7 : ∀ x : Cl (w.alloc (.cells #[.bool p, .bool mi, .bool true, .bool sp, .bool z, .int .i64 wid, .int .i64 prec, .int .i32 118] 198)), x.w.cell? ⟨w.heap.size, 7, none⟩ = some (.int .i32 118) := fun x => x.cell (by simp)
 have hW : WrC 118 (.func (.func 323) #[] #[]) true := writer_yes (verb := 118) (by decide)
 have hG : ∀ w, Calls Tryz.prog 289 #[.int .i32 118] w fun e w' => e = .returned (.bool false) ∧ w' = w := fun w => great_any 118 w
 go_enter Tryz.func246, Tryz.ntmps246
 go_wp2_with (first
  | (go_at_call 284; (with_reducible refine (hW _).mono ?_); rintro x w1 ⟨rfl, rfl⟩)
  | (go_at_call 16; (with_reducible refine (hP _).mono ?_); rintro x w2 ⟨rfl, hb2⟩; obtain ⟨y2, rfl⟩ := Cl.start hb2)
  | (go_at_call 323; (with_reducible refine (hN _).mono ?_); rintro x w4 ⟨rfl, hb4⟩; obtain ⟨y4, rfl⟩ := Cl.next hb4)
  | (go_at_call 289; (with_reducible refine (hG _).mono ?_); rintro x w1 ⟨rfl, rfl⟩))
 refine wp_region_above (w.alloc (.cells #[.bool p, .bool mi, .bool true, .bool sp, .bool z, .int .i64 wid, .int .i64 prec, .int .i32 118] 198)) y4.below (by kernel_rfl) (by kernel_rfl) ?_
 intro hCl
 repeat (go_big_quiet_step ((first | (go_at_call 287; exact Cl.call (hS _)) | (go_at_call 291; exact Cl.call (hF _)))))
 refine wpQuiet_nil ?_
 intro _ hw'
 obtain ⟨z9, hz⟩ := hw'
 subst hz
 go_wp2
 go_returns
 exact ⟨rfl, bel_call hbA z9.below (Nat.le_refl _)⟩
set_option maxRecDepth 1000000 in
set_option maxHeartbeats 4000000 in
theorem fin_118_false {bits m : Nat} {size e : Int} {sg : Bool} {T S R : ByteArray} {P : Int} (p mi sp z : Bool) (wid prec : Int) (hP : PtC bits size sg m e 0) (hmin : min prec 1000 = P)
  (hN : ∀ w, Calls Tryz.prog 323 #[.agg #[.int .u64 bits, .int .i64 size, .int .u64 m, .int .i64 e, .int .i64 P, .bool false]] w fun x w' => x = .returned (.string T) ∧ Below w.heap.size w w')
  (hS : ∀ w, Calls Tryz.prog 287 #[.bool sg, .agg #[.bool p, .bool mi, .bool false, .bool sp, .bool z, .int .i64 wid, .int .i64 prec, .int .i32 118]] w fun x w' => x = .returned (.string S) ∧ Below w.heap.size w w')
  (hF : ∀ w, Calls Tryz.prog 291 #[.string S, .string T, .agg #[.bool p, .bool mi, .bool false, .bool sp, .bool z, .int .i64 wid, .int .i64 prec, .int .i32 118]] w fun x w' => x = .returned (.string R) ∧ Below w.heap.size w w') : FlCq bits size p mi false sp z wid prec 118 R true := fun w => by
 have hbA : Below w.heap.size w (w.alloc (.cells #[.bool p, .bool mi, .bool false, .bool sp, .bool z, .int .i64 wid, .int .i64 prec, .int .i32 118] 198)) := (Below.refl _ _).alloc (Nat.le_refl _) _
 have f0 : ∀ x : Cl (w.alloc (.cells #[.bool p, .bool mi, .bool false, .bool sp, .bool z, .int .i64 wid, .int .i64 prec, .int .i32 118] 198)), x.w.cell? ⟨w.heap.size, 0, none⟩ = some (.bool p) := fun x => x.cell (by simp)
 have f1 : ∀ x : Cl (w.alloc (.cells #[.bool p, .bool mi, .bool false, .bool sp, .bool z, .int .i64 wid, .int .i64 prec, .int .i32 118] 198)), x.w.cell? ⟨w.heap.size, 1, none⟩ = some (.bool mi) := fun x => x.cell (by simp)
 have f2 : ∀ x : Cl (w.alloc (.cells #[.bool p, .bool mi, .bool false, .bool sp, .bool z, .int .i64 wid, .int .i64 prec, .int .i32 118] 198)), x.w.cell? ⟨w.heap.size, 2, none⟩ = some (.bool false) := fun x => x.cell (by simp)
 have f3 : ∀ x : Cl (w.alloc (.cells #[.bool p, .bool mi, .bool false, .bool sp, .bool z, .int .i64 wid, .int .i64 prec, .int .i32 118] 198)), x.w.cell? ⟨w.heap.size, 3, none⟩ = some (.bool sp) := fun x => x.cell (by simp)
 have f4 : ∀ x : Cl (w.alloc (.cells #[.bool p, .bool mi, .bool false, .bool sp, .bool z, .int .i64 wid, .int .i64 prec, .int .i32 118] 198)), x.w.cell? ⟨w.heap.size, 4, none⟩ = some (.bool z) := fun x => x.cell (by simp)
 have f5 : ∀ x : Cl (w.alloc (.cells #[.bool p, .bool mi, .bool false, .bool sp, .bool z, .int .i64 wid, .int .i64 prec, .int .i32 118] 198)), x.w.cell? ⟨w.heap.size, 5, none⟩ = some (.int .i64 wid) := fun x => x.cell (by simp)
 have f6 : ∀ x : Cl (w.alloc (.cells #[.bool p, .bool mi, .bool false, .bool sp, .bool z, .int .i64 wid, .int .i64 prec, .int .i32 118] 198)), x.w.cell? ⟨w.heap.size, 6, none⟩ = some (.int .i64 prec) := fun x => x.cell (by simp)
 have f7 : ∀ x : Cl (w.alloc (.cells #[.bool p, .bool mi, .bool false, .bool sp, .bool z, .int .i64 wid, .int .i64 prec, .int .i32 118] 198)), x.w.cell? ⟨w.heap.size, 7, none⟩ = some (.int .i32 118) := fun x => x.cell (by simp)
 have hW : WrC 118 (.func (.func 323) #[] #[]) true := writer_yes (verb := 118) (by decide)
 have hG : ∀ w, Calls Tryz.prog 289 #[.int .i32 118] w fun e w' => e = .returned (.bool false) ∧ w' = w := fun w => great_any 118 w
 go_enter Tryz.func246, Tryz.ntmps246
 go_wp2_with (first
  | (go_at_call 284; (with_reducible refine (hW _).mono ?_); rintro x w1 ⟨rfl, rfl⟩)
  | (go_at_call 16; (with_reducible refine (hP _).mono ?_); rintro x w2 ⟨rfl, hb2⟩; obtain ⟨y2, rfl⟩ := Cl.start hb2)
  | (go_at_call 323; (with_reducible refine (hN _).mono ?_); rintro x w4 ⟨rfl, hb4⟩; obtain ⟨y4, rfl⟩ := Cl.next hb4)
  | (go_at_call 289; (with_reducible refine (hG _).mono ?_); rintro x w1 ⟨rfl, rfl⟩))
 refine wp_region_above (w.alloc (.cells #[.bool p, .bool mi, .bool false, .bool sp, .bool z, .int .i64 wid, .int .i64 prec, .int .i32 118] 198)) y4.below (by kernel_rfl) (by kernel_rfl) ?_
 intro hCl
 repeat (go_big_quiet_step ((first | (go_at_call 287; exact Cl.call (hS _)) | (go_at_call 291; exact Cl.call (hF _)))))
 refine wpQuiet_nil ?_
 intro _ hw'
 obtain ⟨z9, hz⟩ := hw'
 subst hz
 go_wp2
 go_returns
 exact ⟨rfl, bel_call hbA z9.below (Nat.le_refl _)⟩
set_option maxRecDepth 1000000 in
set_option maxHeartbeats 4000000 in
theorem fin_120_true {bits m : Nat} {size e : Int} {sg : Bool} {T S R : ByteArray} {P : Int} (p mi sp z : Bool) (wid prec : Int) (hP : PtC bits size sg m e 0) (hmin : min prec 1000 = P)
  (hN : ∀ w, Calls Tryz.prog 325 #[.agg #[.int .u64 bits, .int .i64 size, .int .u64 m, .int .i64 e, .int .i64 P, .bool true]] w fun x w' => x = .returned (.string T) ∧ Below w.heap.size w w')
  (hS : ∀ w, Calls Tryz.prog 287 #[.bool sg, .agg #[.bool p, .bool mi, .bool true, .bool sp, .bool z, .int .i64 wid, .int .i64 prec, .int .i32 120]] w fun x w' => x = .returned (.string S) ∧ Below w.heap.size w w')
  (hF : ∀ w, Calls Tryz.prog 291 #[.string S, .string T, .agg #[.bool p, .bool mi, .bool true, .bool sp, .bool z, .int .i64 wid, .int .i64 prec, .int .i32 120]] w fun x w' => x = .returned (.string R) ∧ Below w.heap.size w w') : FlCq bits size p mi true sp z wid prec 120 R true := fun w => by
 have hbA : Below w.heap.size w (w.alloc (.cells #[.bool p, .bool mi, .bool true, .bool sp, .bool z, .int .i64 wid, .int .i64 prec, .int .i32 120] 198)) := (Below.refl _ _).alloc (Nat.le_refl _) _
 have f0 : ∀ x : Cl (w.alloc (.cells #[.bool p, .bool mi, .bool true, .bool sp, .bool z, .int .i64 wid, .int .i64 prec, .int .i32 120] 198)), x.w.cell? ⟨w.heap.size, 0, none⟩ = some (.bool p) := fun x => x.cell (by simp)
 have f1 : ∀ x : Cl (w.alloc (.cells #[.bool p, .bool mi, .bool true, .bool sp, .bool z, .int .i64 wid, .int .i64 prec, .int .i32 120] 198)), x.w.cell? ⟨w.heap.size, 1, none⟩ = some (.bool mi) := fun x => x.cell (by simp)
 have f2 : ∀ x : Cl (w.alloc (.cells #[.bool p, .bool mi, .bool true, .bool sp, .bool z, .int .i64 wid, .int .i64 prec, .int .i32 120] 198)), x.w.cell? ⟨w.heap.size, 2, none⟩ = some (.bool true) := fun x => x.cell (by simp)
 have f3 : ∀ x : Cl (w.alloc (.cells #[.bool p, .bool mi, .bool true, .bool sp, .bool z, .int .i64 wid, .int .i64 prec, .int .i32 120] 198)), x.w.cell? ⟨w.heap.size, 3, none⟩ = some (.bool sp) := fun x => x.cell (by simp)
 have f4 : ∀ x : Cl (w.alloc (.cells #[.bool p, .bool mi, .bool true, .bool sp, .bool z, .int .i64 wid, .int .i64 prec, .int .i32 120] 198)), x.w.cell? ⟨w.heap.size, 4, none⟩ = some (.bool z) := fun x => x.cell (by simp)
 have f5 : ∀ x : Cl (w.alloc (.cells #[.bool p, .bool mi, .bool true, .bool sp, .bool z, .int .i64 wid, .int .i64 prec, .int .i32 120] 198)), x.w.cell? ⟨w.heap.size, 5, none⟩ = some (.int .i64 wid) := fun x => x.cell (by simp)
 have f6 : ∀ x : Cl (w.alloc (.cells #[.bool p, .bool mi, .bool true, .bool sp, .bool z, .int .i64 wid, .int .i64 prec, .int .i32 120] 198)), x.w.cell? ⟨w.heap.size, 6, none⟩ = some (.int .i64 prec) := fun x => x.cell (by simp)
 have f7 : ∀ x : Cl (w.alloc (.cells #[.bool p, .bool mi, .bool true, .bool sp, .bool z, .int .i64 wid, .int .i64 prec, .int .i32 120] 198)), x.w.cell? ⟨w.heap.size, 7, none⟩ = some (.int .i32 120) := fun x => x.cell (by simp)
 have hW : WrC 120 (.func (.func 325) #[] #[]) true := writer_yes (verb := 120) (by decide)
 have hG : ∀ w, Calls Tryz.prog 289 #[.int .i32 120] w fun e w' => e = .returned (.bool false) ∧ w' = w := fun w => great_any 120 w
 go_enter Tryz.func246, Tryz.ntmps246
 go_wp2_with (first
  | (go_at_call 284; (with_reducible refine (hW _).mono ?_); rintro x w1 ⟨rfl, rfl⟩)
  | (go_at_call 16; (with_reducible refine (hP _).mono ?_); rintro x w2 ⟨rfl, hb2⟩; obtain ⟨y2, rfl⟩ := Cl.start hb2)
  | (go_at_call 325; (with_reducible refine (hN _).mono ?_); rintro x w4 ⟨rfl, hb4⟩; obtain ⟨y4, rfl⟩ := Cl.next hb4)
  | (go_at_call 289; (with_reducible refine (hG _).mono ?_); rintro x w1 ⟨rfl, rfl⟩))
 refine wp_region_above (w.alloc (.cells #[.bool p, .bool mi, .bool true, .bool sp, .bool z, .int .i64 wid, .int .i64 prec, .int .i32 120] 198)) y4.below (by kernel_rfl) (by kernel_rfl) ?_
 intro hCl
 repeat (go_big_quiet_step ((first | (go_at_call 287; exact Cl.call (hS _)) | (go_at_call 291; exact Cl.call (hF _)))))
 refine wpQuiet_nil ?_
 intro _ hw'
 obtain ⟨z9, hz⟩ := hw'
 subst hz
 go_wp2
 go_returns
 exact ⟨rfl, bel_call hbA z9.below (Nat.le_refl _)⟩
set_option maxRecDepth 1000000 in
set_option maxHeartbeats 4000000 in
theorem fin_120_false {bits m : Nat} {size e : Int} {sg : Bool} {T S R : ByteArray} {P : Int} (p mi sp z : Bool) (wid prec : Int) (hP : PtC bits size sg m e 0) (hmin : min prec 1000 = P)
  (hN : ∀ w, Calls Tryz.prog 325 #[.agg #[.int .u64 bits, .int .i64 size, .int .u64 m, .int .i64 e, .int .i64 P, .bool false]] w fun x w' => x = .returned (.string T) ∧ Below w.heap.size w w')
  (hS : ∀ w, Calls Tryz.prog 287 #[.bool sg, .agg #[.bool p, .bool mi, .bool false, .bool sp, .bool z, .int .i64 wid, .int .i64 prec, .int .i32 120]] w fun x w' => x = .returned (.string S) ∧ Below w.heap.size w w')
  (hF : ∀ w, Calls Tryz.prog 291 #[.string S, .string T, .agg #[.bool p, .bool mi, .bool false, .bool sp, .bool z, .int .i64 wid, .int .i64 prec, .int .i32 120]] w fun x w' => x = .returned (.string R) ∧ Below w.heap.size w w') : FlCq bits size p mi false sp z wid prec 120 R true := fun w => by
 have hbA : Below w.heap.size w (w.alloc (.cells #[.bool p, .bool mi, .bool false, .bool sp, .bool z, .int .i64 wid, .int .i64 prec, .int .i32 120] 198)) := (Below.refl _ _).alloc (Nat.le_refl _) _
 have f0 : ∀ x : Cl (w.alloc (.cells #[.bool p, .bool mi, .bool false, .bool sp, .bool z, .int .i64 wid, .int .i64 prec, .int .i32 120] 198)), x.w.cell? ⟨w.heap.size, 0, none⟩ = some (.bool p) := fun x => x.cell (by simp)
 have f1 : ∀ x : Cl (w.alloc (.cells #[.bool p, .bool mi, .bool false, .bool sp, .bool z, .int .i64 wid, .int .i64 prec, .int .i32 120] 198)), x.w.cell? ⟨w.heap.size, 1, none⟩ = some (.bool mi) := fun x => x.cell (by simp)
 have f2 : ∀ x : Cl (w.alloc (.cells #[.bool p, .bool mi, .bool false, .bool sp, .bool z, .int .i64 wid, .int .i64 prec, .int .i32 120] 198)), x.w.cell? ⟨w.heap.size, 2, none⟩ = some (.bool false) := fun x => x.cell (by simp)
 have f3 : ∀ x : Cl (w.alloc (.cells #[.bool p, .bool mi, .bool false, .bool sp, .bool z, .int .i64 wid, .int .i64 prec, .int .i32 120] 198)), x.w.cell? ⟨w.heap.size, 3, none⟩ = some (.bool sp) := fun x => x.cell (by simp)
 have f4 : ∀ x : Cl (w.alloc (.cells #[.bool p, .bool mi, .bool false, .bool sp, .bool z, .int .i64 wid, .int .i64 prec, .int .i32 120] 198)), x.w.cell? ⟨w.heap.size, 4, none⟩ = some (.bool z) := fun x => x.cell (by simp)
 have f5 : ∀ x : Cl (w.alloc (.cells #[.bool p, .bool mi, .bool false, .bool sp, .bool z, .int .i64 wid, .int .i64 prec, .int .i32 120] 198)), x.w.cell? ⟨w.heap.size, 5, none⟩ = some (.int .i64 wid) := fun x => x.cell (by simp)
 have f6 : ∀ x : Cl (w.alloc (.cells #[.bool p, .bool mi, .bool false, .bool sp, .bool z, .int .i64 wid, .int .i64 prec, .int .i32 120] 198)), x.w.cell? ⟨w.heap.size, 6, none⟩ = some (.int .i64 prec) := fun x => x.cell (by simp)
 have f7 : ∀ x : Cl (w.alloc (.cells #[.bool p, .bool mi, .bool false, .bool sp, .bool z, .int .i64 wid, .int .i64 prec, .int .i32 120] 198)), x.w.cell? ⟨w.heap.size, 7, none⟩ = some (.int .i32 120) := fun x => x.cell (by simp)
 have hW : WrC 120 (.func (.func 325) #[] #[]) true := writer_yes (verb := 120) (by decide)
 have hG : ∀ w, Calls Tryz.prog 289 #[.int .i32 120] w fun e w' => e = .returned (.bool false) ∧ w' = w := fun w => great_any 120 w
 go_enter Tryz.func246, Tryz.ntmps246
 go_wp2_with (first
  | (go_at_call 284; (with_reducible refine (hW _).mono ?_); rintro x w1 ⟨rfl, rfl⟩)
  | (go_at_call 16; (with_reducible refine (hP _).mono ?_); rintro x w2 ⟨rfl, hb2⟩; obtain ⟨y2, rfl⟩ := Cl.start hb2)
  | (go_at_call 325; (with_reducible refine (hN _).mono ?_); rintro x w4 ⟨rfl, hb4⟩; obtain ⟨y4, rfl⟩ := Cl.next hb4)
  | (go_at_call 289; (with_reducible refine (hG _).mono ?_); rintro x w1 ⟨rfl, rfl⟩))
 refine wp_region_above (w.alloc (.cells #[.bool p, .bool mi, .bool false, .bool sp, .bool z, .int .i64 wid, .int .i64 prec, .int .i32 120] 198)) y4.below (by kernel_rfl) (by kernel_rfl) ?_
 intro hCl
 repeat (go_big_quiet_step ((first | (go_at_call 287; exact Cl.call (hS _)) | (go_at_call 291; exact Cl.call (hF _)))))
 refine wpQuiet_nil ?_
 intro _ hw'
 obtain ⟨z9, hz⟩ := hw'
 subst hz
 go_wp2
 go_returns
 exact ⟨rfl, bel_call hbA z9.below (Nat.le_refl _)⟩
set_option maxRecDepth 1000000 in
set_option maxHeartbeats 4000000 in
theorem fin_88_true {bits m : Nat} {size e : Int} {sg : Bool} {T U S R : ByteArray} {P : Int} (p mi sp z : Bool) (wid prec : Int) (hP : PtC bits size sg m e 0) (hmin : min prec 1000 = P)
  (hN : ∀ w, Calls Tryz.prog 325 #[.agg #[.int .u64 bits, .int .i64 size, .int .u64 m, .int .i64 e, .int .i64 P, .bool true]] w fun x w' => x = .returned (.string T) ∧ Below w.heap.size w w') (hU : ∀ w, Calls Tryz.prog 290 #[.string T] w fun x w' => x = .returned (.string U) ∧ Below w.heap.size w w')
  (hS : ∀ w, Calls Tryz.prog 287 #[.bool sg, .agg #[.bool p, .bool mi, .bool true, .bool sp, .bool z, .int .i64 wid, .int .i64 prec, .int .i32 88]] w fun x w' => x = .returned (.string S) ∧ Below w.heap.size w w')
  (hF : ∀ w, Calls Tryz.prog 291 #[.string S, .string U, .agg #[.bool p, .bool mi, .bool true, .bool sp, .bool z, .int .i64 wid, .int .i64 prec, .int .i32 88]] w fun x w' => x = .returned (.string R) ∧ Below w.heap.size w w') : FlCq bits size p mi true sp z wid prec 88 R true := fun w => by
 have hbA : Below w.heap.size w (w.alloc (.cells #[.bool p, .bool mi, .bool true, .bool sp, .bool z, .int .i64 wid, .int .i64 prec, .int .i32 88] 198)) := (Below.refl _ _).alloc (Nat.le_refl _) _
 have f0 : ∀ x : Cl (w.alloc (.cells #[.bool p, .bool mi, .bool true, .bool sp, .bool z, .int .i64 wid, .int .i64 prec, .int .i32 88] 198)), x.w.cell? ⟨w.heap.size, 0, none⟩ = some (.bool p) := fun x => x.cell (by simp)
 have f1 : ∀ x : Cl (w.alloc (.cells #[.bool p, .bool mi, .bool true, .bool sp, .bool z, .int .i64 wid, .int .i64 prec, .int .i32 88] 198)), x.w.cell? ⟨w.heap.size, 1, none⟩ = some (.bool mi) := fun x => x.cell (by simp)
 have f2 : ∀ x : Cl (w.alloc (.cells #[.bool p, .bool mi, .bool true, .bool sp, .bool z, .int .i64 wid, .int .i64 prec, .int .i32 88] 198)), x.w.cell? ⟨w.heap.size, 2, none⟩ = some (.bool true) := fun x => x.cell (by simp)
 have f3 : ∀ x : Cl (w.alloc (.cells #[.bool p, .bool mi, .bool true, .bool sp, .bool z, .int .i64 wid, .int .i64 prec, .int .i32 88] 198)), x.w.cell? ⟨w.heap.size, 3, none⟩ = some (.bool sp) := fun x => x.cell (by simp)
 have f4 : ∀ x : Cl (w.alloc (.cells #[.bool p, .bool mi, .bool true, .bool sp, .bool z, .int .i64 wid, .int .i64 prec, .int .i32 88] 198)), x.w.cell? ⟨w.heap.size, 4, none⟩ = some (.bool z) := fun x => x.cell (by simp)
 have f5 : ∀ x : Cl (w.alloc (.cells #[.bool p, .bool mi, .bool true, .bool sp, .bool z, .int .i64 wid, .int .i64 prec, .int .i32 88] 198)), x.w.cell? ⟨w.heap.size, 5, none⟩ = some (.int .i64 wid) := fun x => x.cell (by simp)
 have f6 : ∀ x : Cl (w.alloc (.cells #[.bool p, .bool mi, .bool true, .bool sp, .bool z, .int .i64 wid, .int .i64 prec, .int .i32 88] 198)), x.w.cell? ⟨w.heap.size, 6, none⟩ = some (.int .i64 prec) := fun x => x.cell (by simp)
 have f7 : ∀ x : Cl (w.alloc (.cells #[.bool p, .bool mi, .bool true, .bool sp, .bool z, .int .i64 wid, .int .i64 prec, .int .i32 88] 198)), x.w.cell? ⟨w.heap.size, 7, none⟩ = some (.int .i32 88) := fun x => x.cell (by simp)
 have hW : WrC 88 (.func (.func 325) #[] #[]) true := writer_yes (verb := 88) (by decide)
 have hG : ∀ w, Calls Tryz.prog 289 #[.int .i32 88] w fun e w' => e = .returned (.bool true) ∧ w' = w := fun w => great_any 88 w
 go_enter Tryz.func246, Tryz.ntmps246
 go_wp2_with (first
  | (go_at_call 284; (with_reducible refine (hW _).mono ?_); rintro x w1 ⟨rfl, rfl⟩)
  | (go_at_call 16; (with_reducible refine (hP _).mono ?_); rintro x w2 ⟨rfl, hb2⟩; obtain ⟨y2, rfl⟩ := Cl.start hb2)
  | (go_at_call 325; (with_reducible refine (hN _).mono ?_); rintro x w4 ⟨rfl, hb4⟩; obtain ⟨y4, rfl⟩ := Cl.next hb4)
  | (go_at_call 289; (with_reducible refine (hG _).mono ?_); rintro x w1 ⟨rfl, rfl⟩)
  | (go_at_call 290; (with_reducible refine (hU _).mono ?_); rintro x w5 ⟨rfl, hb5⟩; obtain ⟨y5, rfl⟩ := Cl.next hb5))
 refine wp_region_above (w.alloc (.cells #[.bool p, .bool mi, .bool true, .bool sp, .bool z, .int .i64 wid, .int .i64 prec, .int .i32 88] 198)) y5.below (by kernel_rfl) (by kernel_rfl) ?_
 intro hCl
 repeat (go_big_quiet_step ((first | (go_at_call 287; exact Cl.call (hS _)) | (go_at_call 291; exact Cl.call (hF _)))))
 refine wpQuiet_nil ?_
 intro _ hw'
 obtain ⟨z9, hz⟩ := hw'
 subst hz
 go_wp2
 go_returns
 exact ⟨rfl, bel_call hbA z9.below (Nat.le_refl _)⟩
set_option maxRecDepth 1000000 in
set_option maxHeartbeats 4000000 in
theorem fin_88_false {bits m : Nat} {size e : Int} {sg : Bool} {T U S R : ByteArray} {P : Int} (p mi sp z : Bool) (wid prec : Int) (hP : PtC bits size sg m e 0) (hmin : min prec 1000 = P)
  (hN : ∀ w, Calls Tryz.prog 325 #[.agg #[.int .u64 bits, .int .i64 size, .int .u64 m, .int .i64 e, .int .i64 P, .bool false]] w fun x w' => x = .returned (.string T) ∧ Below w.heap.size w w') (hU : ∀ w, Calls Tryz.prog 290 #[.string T] w fun x w' => x = .returned (.string U) ∧ Below w.heap.size w w')
  (hS : ∀ w, Calls Tryz.prog 287 #[.bool sg, .agg #[.bool p, .bool mi, .bool false, .bool sp, .bool z, .int .i64 wid, .int .i64 prec, .int .i32 88]] w fun x w' => x = .returned (.string S) ∧ Below w.heap.size w w')
  (hF : ∀ w, Calls Tryz.prog 291 #[.string S, .string U, .agg #[.bool p, .bool mi, .bool false, .bool sp, .bool z, .int .i64 wid, .int .i64 prec, .int .i32 88]] w fun x w' => x = .returned (.string R) ∧ Below w.heap.size w w') : FlCq bits size p mi false sp z wid prec 88 R true := fun w => by
 have hbA : Below w.heap.size w (w.alloc (.cells #[.bool p, .bool mi, .bool false, .bool sp, .bool z, .int .i64 wid, .int .i64 prec, .int .i32 88] 198)) := (Below.refl _ _).alloc (Nat.le_refl _) _
 have f0 : ∀ x : Cl (w.alloc (.cells #[.bool p, .bool mi, .bool false, .bool sp, .bool z, .int .i64 wid, .int .i64 prec, .int .i32 88] 198)), x.w.cell? ⟨w.heap.size, 0, none⟩ = some (.bool p) := fun x => x.cell (by simp)
 have f1 : ∀ x : Cl (w.alloc (.cells #[.bool p, .bool mi, .bool false, .bool sp, .bool z, .int .i64 wid, .int .i64 prec, .int .i32 88] 198)), x.w.cell? ⟨w.heap.size, 1, none⟩ = some (.bool mi) := fun x => x.cell (by simp)
 have f2 : ∀ x : Cl (w.alloc (.cells #[.bool p, .bool mi, .bool false, .bool sp, .bool z, .int .i64 wid, .int .i64 prec, .int .i32 88] 198)), x.w.cell? ⟨w.heap.size, 2, none⟩ = some (.bool false) := fun x => x.cell (by simp)
 have f3 : ∀ x : Cl (w.alloc (.cells #[.bool p, .bool mi, .bool false, .bool sp, .bool z, .int .i64 wid, .int .i64 prec, .int .i32 88] 198)), x.w.cell? ⟨w.heap.size, 3, none⟩ = some (.bool sp) := fun x => x.cell (by simp)
 have f4 : ∀ x : Cl (w.alloc (.cells #[.bool p, .bool mi, .bool false, .bool sp, .bool z, .int .i64 wid, .int .i64 prec, .int .i32 88] 198)), x.w.cell? ⟨w.heap.size, 4, none⟩ = some (.bool z) := fun x => x.cell (by simp)
 have f5 : ∀ x : Cl (w.alloc (.cells #[.bool p, .bool mi, .bool false, .bool sp, .bool z, .int .i64 wid, .int .i64 prec, .int .i32 88] 198)), x.w.cell? ⟨w.heap.size, 5, none⟩ = some (.int .i64 wid) := fun x => x.cell (by simp)
 have f6 : ∀ x : Cl (w.alloc (.cells #[.bool p, .bool mi, .bool false, .bool sp, .bool z, .int .i64 wid, .int .i64 prec, .int .i32 88] 198)), x.w.cell? ⟨w.heap.size, 6, none⟩ = some (.int .i64 prec) := fun x => x.cell (by simp)
 have f7 : ∀ x : Cl (w.alloc (.cells #[.bool p, .bool mi, .bool false, .bool sp, .bool z, .int .i64 wid, .int .i64 prec, .int .i32 88] 198)), x.w.cell? ⟨w.heap.size, 7, none⟩ = some (.int .i32 88) := fun x => x.cell (by simp)
 have hW : WrC 88 (.func (.func 325) #[] #[]) true := writer_yes (verb := 88) (by decide)
 have hG : ∀ w, Calls Tryz.prog 289 #[.int .i32 88] w fun e w' => e = .returned (.bool true) ∧ w' = w := fun w => great_any 88 w
 go_enter Tryz.func246, Tryz.ntmps246
 go_wp2_with (first
  | (go_at_call 284; (with_reducible refine (hW _).mono ?_); rintro x w1 ⟨rfl, rfl⟩)
  | (go_at_call 16; (with_reducible refine (hP _).mono ?_); rintro x w2 ⟨rfl, hb2⟩; obtain ⟨y2, rfl⟩ := Cl.start hb2)
  | (go_at_call 325; (with_reducible refine (hN _).mono ?_); rintro x w4 ⟨rfl, hb4⟩; obtain ⟨y4, rfl⟩ := Cl.next hb4)
  | (go_at_call 289; (with_reducible refine (hG _).mono ?_); rintro x w1 ⟨rfl, rfl⟩)
  | (go_at_call 290; (with_reducible refine (hU _).mono ?_); rintro x w5 ⟨rfl, hb5⟩; obtain ⟨y5, rfl⟩ := Cl.next hb5))
 refine wp_region_above (w.alloc (.cells #[.bool p, .bool mi, .bool false, .bool sp, .bool z, .int .i64 wid, .int .i64 prec, .int .i32 88] 198)) y5.below (by kernel_rfl) (by kernel_rfl) ?_
 intro hCl
 repeat (go_big_quiet_step ((first | (go_at_call 287; exact Cl.call (hS _)) | (go_at_call 291; exact Cl.call (hF _)))))
 refine wpQuiet_nil ?_
 intro _ hw'
 obtain ⟨z9, hz⟩ := hw'
 subst hz
 go_wp2
 go_returns
 exact ⟨rfl, bel_call hbA z9.below (Nat.le_refl _)⟩
end Go.Proofs.YtiagjheifblkiaaGreatDoor
namespace Go.Proofs.YtiagjheifblkiaaGreatDoor
open Go.RowKit
set_option linter.unusedVariables false
set_option linter.unusedSimpArgs false
abbrev ExC (m : Nat) (e : Int) (S : ByteArray) (P : Int) : Prop := ∀ w, Calls Tryz.prog 18 #[.int .u64 m, .int .i64 e] w fun x w' => x = .returned (.tuple #[.agg #[.string S, .int .i64 P], .int .i64 0]) ∧ Below w.heap.size w w'
theorem exC {m : Nat} {e : Int} (hm : m < 18446744073709551616) (h0 : -1200 ≤ e) (h1 : e ≤ 1200) : ExC m e (oS (exU m e)) (oP (exU m e)) := fun w => by
 have := exact_any m e w hm
 have e1 : xE e = 0 := if_neg (by omega)
 have e2 : xV m e = exU m e := if_pos e1
 rw [e1, e2] at this; exact this
theorem exactD {size : Int} {f ww : Nat} {least : Int} {I p : Nat} (h : Ly size f ww least I) (hp : p < I) : ExC (pm f p) (least + pk f p) (oS (val f least p)) (oP (val f least p)) := by
 obtain ⟨h0, h1, -, -, -, -, -, -, h2⟩ := h.pk
 have h3 := h2 p hp
 have h4 := h.pm p
 have := exC (m := pm f p) (e := least + pk f p) (by omega) (by omega) (by omega)
 rw [(val_ex h hp).1] at this
 exact this
end Go.Proofs.YtiagjheifblkiaaGreatDoor
