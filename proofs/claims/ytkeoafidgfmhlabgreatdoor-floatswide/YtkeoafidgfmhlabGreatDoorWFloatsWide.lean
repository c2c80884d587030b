/- The walk of the law FloatsWide. -/
import Derived.Test.YtkeoafidgfmhlabGreatDoorPkF26
namespace Go.Proofs.YtkeoafidgfmhlabGreatDoor
open Go.RowKit
set_option linter.unusedVariables false
set_option linter.unusedSimpArgs false

set_option maxRecDepth 1000000 in
set_option maxHeartbeats 8000000 in
theorem wide_no {bits : Nat} {n x k : Int} {b sg : Bool} {S T N R : ByteArray} (p mi sh sp z : Bool) (wid prec verb : Int) (hZ : Si6 b n) (hA : FlC bits n p mi sh sp z wid prec verb ⟨#[]⟩ false) (hB : FlC bits n p mi sh sp z (-1) prec verb ⟨#[]⟩ false) (w : World) :
    Calls Tryz.prog 5 #[.int .u64 bits, .bool b, .agg #[.bool p, .bool mi, .bool sh, .bool sp, .bool z, .int .i64 wid, .int .i64 prec, .int .i32 verb]] w fun e w' => e = .returned (.bool true) ∧ Below w.heap.size w w' := by
  have hL := lives6_any
  have hbA : Below w.heap.size w (w.alloc (.cells #[.bool p, .bool mi, .bool sh, .bool sp, .bool z, .int .i64 wid, .int .i64 prec, .int .i32 verb] 24)) := (Below.refl _ _).alloc (Nat.le_refl _) _
  have f0 : ∀ x : Cl (w.alloc (.cells #[.bool p, .bool mi, .bool sh, .bool sp, .bool z, .int .i64 wid, .int .i64 prec, .int .i32 verb] 24)), x.w.cell? ⟨w.heap.size, 0, none⟩ = some (.bool p) := fun x => x.cell (by simp)
  have f1 : ∀ x : Cl (w.alloc (.cells #[.bool p, .bool mi, .bool sh, .bool sp, .bool z, .int .i64 wid, .int .i64 prec, .int .i32 verb] 24)), x.w.cell? ⟨w.heap.size, 1, none⟩ = some (.bool mi) := fun x => x.cell (by simp)
  have f2 : ∀ x : Cl (w.alloc (.cells #[.bool p, .bool mi, .bool sh, .bool sp, .bool z, .int .i64 wid, .int .i64 prec, .int .i32 verb] 24)), x.w.cell? ⟨w.heap.size, 2, none⟩ = some (.bool sh) := fun x => x.cell (by simp)
  have f3 : ∀ x : Cl (w.alloc (.cells #[.bool p, .bool mi, .bool sh, .bool sp, .bool z, .int .i64 wid, .int .i64 prec, .int .i32 verb] 24)), x.w.cell? ⟨w.heap.size, 3, none⟩ = some (.bool sp) := fun x => x.cell (by simp)
  have f4 : ∀ x : Cl (w.alloc (.cells #[.bool p, .bool mi, .bool sh, .bool sp, .bool z, .int .i64 wid, .int .i64 prec, .int .i32 verb] 24)), x.w.cell? ⟨w.heap.size, 4, none⟩ = some (.bool z) := fun x => x.cell (by simp)
  have f5 : ∀ x : Cl (w.alloc (.cells #[.bool p, .bool mi, .bool sh, .bool sp, .bool z, .int .i64 wid, .int .i64 prec, .int .i32 verb] 24)), x.w.cell? ⟨w.heap.size, 5, none⟩ = some (.int .i64 wid) := fun x => x.cell (by simp)
  have f6 : ∀ x : Cl (w.alloc (.cells #[.bool p, .bool mi, .bool sh, .bool sp, .bool z, .int .i64 wid, .int .i64 prec, .int .i32 verb] 24)), x.w.cell? ⟨w.heap.size, 6, none⟩ = some (.int .i64 prec) := fun x => x.cell (by simp)
  have f7 : ∀ x : Cl (w.alloc (.cells #[.bool p, .bool mi, .bool sh, .bool sp, .bool z, .int .i64 wid, .int .i64 prec, .int .i32 verb] 24)), x.w.cell? ⟨w.heap.size, 7, none⟩ = some (.int .i32 verb) := fun x => x.cell (by simp)
  go_enter Tryz.func5, Tryz.ntmps5
  go_wp2_with (first
    | (go_at_call 9; (with_reducible refine (hZ _).mono ?_); rintro x w2 ⟨rfl, rfl⟩)
    | (go_at_call_of 12 wid; (with_reducible refine (hA _).mono ?_); rintro x w3 ⟨rfl, hb3⟩; obtain ⟨y2, rfl⟩ := Cl.start hb3; have g0 := Cl.up y2 (.cells #[.bool p, .bool mi, .bool sh, .bool sp, .bool z, .int .i64 (-1), .int .i64 prec, .int .i32 verb] 24) f0; have g1 := Cl.up y2 (.cells #[.bool p, .bool mi, .bool sh, .bool sp, .bool z, .int .i64 (-1), .int .i64 prec, .int .i32 verb] 24) f1; have g2 := Cl.up y2 (.cells #[.bool p, .bool mi, .bool sh, .bool sp, .bool z, .int .i64 (-1), .int .i64 prec, .int .i32 verb] 24) f2; have g3 := Cl.up y2 (.cells #[.bool p, .bool mi, .bool sh, .bool sp, .bool z, .int .i64 (-1), .int .i64 prec, .int .i32 verb] 24) f3; have g4 := Cl.up y2 (.cells #[.bool p, .bool mi, .bool sh, .bool sp, .bool z, .int .i64 (-1), .int .i64 prec, .int .i32 verb] 24) f4; have g5 := Cl.up y2 (.cells #[.bool p, .bool mi, .bool sh, .bool sp, .bool z, .int .i64 (-1), .int .i64 prec, .int .i32 verb] 24) f5; have g6 := Cl.up y2 (.cells #[.bool p, .bool mi, .bool sh, .bool sp, .bool z, .int .i64 (-1), .int .i64 prec, .int .i32 verb] 24) f6; have g7 := Cl.up y2 (.cells #[.bool p, .bool mi, .bool sh, .bool sp, .bool z, .int .i64 (-1), .int .i64 prec, .int .i32 verb] 24) f7)
    | (go_at_call 12; (with_reducible refine (hB _).mono ?_); rintro x w4 ⟨rfl, hb4⟩; obtain ⟨y4, rfl⟩ := Cl.start hb4)
    | (go_at_call 11; refine (hL _).mono ?_; rintro x w6 ⟨rfl, hb6⟩; obtain ⟨y6, rfl⟩ := Cl.next hb6))
  go_ret
  exact ⟨rfl, bel_call hbA (Cl.out y6) (Nat.le_refl _)⟩
set_option maxRecDepth 1000000 in
set_option maxHeartbeats 8000000 in
theorem wide_minus {bits m j : Nat} {n x k : Int} {b sg : Bool} {S T N R : ByteArray} (p sh sp z : Bool) (wid prec verb : Int) (hZ : Si6 b n) (hA : FlC bits n p true sh sp z wid prec verb S true) (hB : FlC bits n p true sh sp z (-1) prec verb T true) (hP : PtC bits n sg m x k) (hsz : max (T.size : Int) (min wid 1000) = (S.size : Int)) (hlk : (S.size : Int) - (T.size : Int) = (j : Nat)) (hT9 : (T.size : Int) ≤ 1000000) (hS9 : (S.size : Int) ≤ 1000000) (hFi : ∀ w, Calls Tryz.prog 14 #[.int .u8 32, .int .i64 (j : Nat)] w fun e w' => e = .returned (.string N) ∧ Below w.heap.size w w') (hS : T ++ N = S) (z1 : ¬ 9223372036854775807 < T.size + N.size) (w : World) :
    Calls Tryz.prog 5 #[.int .u64 bits, .bool b, .agg #[.bool p, .bool true, .bool sh, .bool sp, .bool z, .int .i64 wid, .int .i64 prec, .int .i32 verb]] w fun e w' => e = .returned (.bool true) ∧ Below w.heap.size w w' := by
  have hL := lives6_any
  have hbA : Below w.heap.size w (w.alloc (.cells #[.bool p, .bool true, .bool sh, .bool sp, .bool z, .int .i64 wid, .int .i64 prec, .int .i32 verb] 24)) := (Below.refl _ _).alloc (Nat.le_refl _) _
  have f0 : ∀ x : Cl (w.alloc (.cells #[.bool p, .bool true, .bool sh, .bool sp, .bool z, .int .i64 wid, .int .i64 prec, .int .i32 verb] 24)), x.w.cell? ⟨w.heap.size, 0, none⟩ = some (.bool p) := fun x => x.cell (by simp)
  have f1 : ∀ x : Cl (w.alloc (.cells #[.bool p, .bool true, .bool sh, .bool sp, .bool z, .int .i64 wid, .int .i64 prec, .int .i32 verb] 24)), x.w.cell? ⟨w.heap.size, 1, none⟩ = some (.bool true) := fun x => x.cell (by simp)
  have f2 : ∀ x : Cl (w.alloc (.cells #[.bool p, .bool true, .bool sh, .bool sp, .bool z, .int .i64 wid, .int .i64 prec, .int .i32 verb] 24)), x.w.cell? ⟨w.heap.size, 2, none⟩ = some (.bool sh) := fun x => x.cell (by simp)
  have f3 : ∀ x : Cl (w.alloc (.cells #[.bool p, .bool true, .bool sh, .bool sp, .bool z, .int .i64 wid, .int .i64 prec, .int .i32 verb] 24)), x.w.cell? ⟨w.heap.size, 3, none⟩ = some (.bool sp) := fun x => x.cell (by simp)
  have f4 : ∀ x : Cl (w.alloc (.cells #[.bool p, .bool true, .bool sh, .bool sp, .bool z, .int .i64 wid, .int .i64 prec, .int .i32 verb] 24)), x.w.cell? ⟨w.heap.size, 4, none⟩ = some (.bool z) := fun x => x.cell (by simp)
  have f5 : ∀ x : Cl (w.alloc (.cells #[.bool p, .bool true, .bool sh, .bool sp, .bool z, .int .i64 wid, .int .i64 prec, .int .i32 verb] 24)), x.w.cell? ⟨w.heap.size, 5, none⟩ = some (.int .i64 wid) := fun x => x.cell (by simp)
  have f6 : ∀ x : Cl (w.alloc (.cells #[.bool p, .bool true, .bool sh, .bool sp, .bool z, .int .i64 wid, .int .i64 prec, .int .i32 verb] 24)), x.w.cell? ⟨w.heap.size, 6, none⟩ = some (.int .i64 prec) := fun x => x.cell (by simp)
  have f7 : ∀ x : Cl (w.alloc (.cells #[.bool p, .bool true, .bool sh, .bool sp, .bool z, .int .i64 wid, .int .i64 prec, .int .i32 verb] 24)), x.w.cell? ⟨w.heap.size, 7, none⟩ = some (.int .i32 verb) := fun x => x.cell (by simp)
  go_enter Tryz.func5, Tryz.ntmps5
  go_wp2_with (first
    | (go_at_call 9; (with_reducible refine (hZ _).mono ?_); rintro x w2 ⟨rfl, rfl⟩)
    | (go_at_call_of 12 wid; (with_reducible refine (hA _).mono ?_); rintro x w3 ⟨rfl, hb3⟩; obtain ⟨y2, rfl⟩ := Cl.start hb3; have g0 := Cl.up y2 (.cells #[.bool p, .bool true, .bool sh, .bool sp, .bool z, .int .i64 (-1), .int .i64 prec, .int .i32 verb] 24) f0; have g1 := Cl.up y2 (.cells #[.bool p, .bool true, .bool sh, .bool sp, .bool z, .int .i64 (-1), .int .i64 prec, .int .i32 verb] 24) f1; have g2 := Cl.up y2 (.cells #[.bool p, .bool true, .bool sh, .bool sp, .bool z, .int .i64 (-1), .int .i64 prec, .int .i32 verb] 24) f2; have g3 := Cl.up y2 (.cells #[.bool p, .bool true, .bool sh, .bool sp, .bool z, .int .i64 (-1), .int .i64 prec, .int .i32 verb] 24) f3; have g4 := Cl.up y2 (.cells #[.bool p, .bool true, .bool sh, .bool sp, .bool z, .int .i64 (-1), .int .i64 prec, .int .i32 verb] 24) f4; have g5 := Cl.up y2 (.cells #[.bool p, .bool true, .bool sh, .bool sp, .bool z, .int .i64 (-1), .int .i64 prec, .int .i32 verb] 24) f5; have g6 := Cl.up y2 (.cells #[.bool p, .bool true, .bool sh, .bool sp, .bool z, .int .i64 (-1), .int .i64 prec, .int .i32 verb] 24) f6; have g7 := Cl.up y2 (.cells #[.bool p, .bool true, .bool sh, .bool sp, .bool z, .int .i64 (-1), .int .i64 prec, .int .i32 verb] 24) f7)
    | (go_at_call 12; (with_reducible refine (hB _).mono ?_); rintro x w4 ⟨rfl, hb4⟩; obtain ⟨y4, rfl⟩ := Cl.start hb4)
    | (go_at_call 10; (with_reducible refine (hP _).mono ?_); rintro x w5 ⟨rfl, hb5⟩; obtain ⟨y5, rfl⟩ := Cl.next hb5)
    | (go_at_call 14; (with_reducible refine (hFi _).mono ?_); rintro x w7 ⟨rfl, hb7⟩; obtain ⟨y7, rfl⟩ := Cl.next hb7)
    | (go_at_call 11; refine (hL _).mono ?_; rintro x w6 ⟨rfl, hb6⟩; obtain ⟨y6, rfl⟩ := Cl.next hb6))
  go_ret
  exact ⟨rfl, bel_call hbA (Cl.out y6) (Nat.le_refl _)⟩
set_option maxRecDepth 1000000 in
set_option maxHeartbeats 8000000 in
theorem wide_plain {bits m j : Nat} {n x k : Int} {b sg : Bool} {S T N R : ByteArray} (p sh sp : Bool) (wid prec verb : Int) (hZ : Si6 b n) (hA : FlC bits n p false sh sp false wid prec verb S true) (hB : FlC bits n p false sh sp false (-1) prec verb T true) (hP : PtC bits n sg m x k) (hsz : max (T.size : Int) (min wid 1000) = (S.size : Int)) (hlk : (S.size : Int) - (T.size : Int) = (j : Nat)) (hT9 : (T.size : Int) ≤ 1000000) (hS9 : (S.size : Int) ≤ 1000000) (hFi : ∀ w, Calls Tryz.prog 14 #[.int .u8 32, .int .i64 (j : Nat)] w fun e w' => e = .returned (.string N) ∧ Below w.heap.size w w') (hS : N ++ T = S) (z1 : ¬ 9223372036854775807 < N.size + T.size) (w : World) :
    Calls Tryz.prog 5 #[.int .u64 bits, .bool b, .agg #[.bool p, .bool false, .bool sh, .bool sp, .bool false, .int .i64 wid, .int .i64 prec, .int .i32 verb]] w fun e w' => e = .returned (.bool true) ∧ Below w.heap.size w w' := by
  have hL := lives6_any
  have hbA : Below w.heap.size w (w.alloc (.cells #[.bool p, .bool false, .bool sh, .bool sp, .bool false, .int .i64 wid, .int .i64 prec, .int .i32 verb] 24)) := (Below.refl _ _).alloc (Nat.le_refl _) _
  have f0 : ∀ x : Cl (w.alloc (.cells #[.bool p, .bool false, .bool sh, .bool sp, .bool false, .int .i64 wid, .int .i64 prec, .int .i32 verb] 24)), x.w.cell? ⟨w.heap.size, 0, none⟩ = some (.bool p) := fun x => x.cell (by simp)
  have f1 : ∀ x : Cl (w.alloc (.cells #[.bool p, .bool false, .bool sh, .bool sp, .bool false, .int .i64 wid, .int .i64 prec, .int .i32 verb] 24)), x.w.cell? ⟨w.heap.size, 1, none⟩ = some (.bool false) := fun x => x.cell (by simp)
  have f2 : ∀ x : Cl (w.alloc (.cells #[.bool p, .bool false, .bool sh, .bool sp, .bool false, .int .i64 wid, .int .i64 prec, .int .i32 verb] 24)), x.w.cell? ⟨w.heap.size, 2, none⟩ = some (.bool sh) := fun x => x.cell (by simp)
  have f3 : ∀ x : Cl (w.alloc (.cells #[.bool p, .bool false, .bool sh, .bool sp, .bool false, .int .i64 wid, .int .i64 prec, .int .i32 verb] 24)), x.w.cell? ⟨w.heap.size, 3, none⟩ = some (.bool sp) := fun x => x.cell (by simp)
  have f4 : ∀ x : Cl (w.alloc (.cells #[.bool p, .bool false, .bool sh, .bool sp, .bool false, .int .i64 wid, .int .i64 prec, .int .i32 verb] 24)), x.w.cell? ⟨w.heap.size, 4, none⟩ = some (.bool false) := fun x => x.cell (by simp)
  have f5 : ∀ x : Cl (w.alloc (.cells #[.bool p, .bool false, .bool sh, .bool sp, .bool false, .int .i64 wid, .int .i64 prec, .int .i32 verb] 24)), x.w.cell? ⟨w.heap.size, 5, none⟩ = some (.int .i64 wid) := fun x => x.cell (by simp)
  have f6 : ∀ x : Cl (w.alloc (.cells #[.bool p, .bool false, .bool sh, .bool sp, .bool false, .int .i64 wid, .int .i64 prec, .int .i32 verb] 24)), x.w.cell? ⟨w.heap.size, 6, none⟩ = some (.int .i64 prec) := fun x => x.cell (by simp)
  have f7 : ∀ x : Cl (w.alloc (.cells #[.bool p, .bool false, .bool sh, .bool sp, .bool false, .int .i64 wid, .int .i64 prec, .int .i32 verb] 24)), x.w.cell? ⟨w.heap.size, 7, none⟩ = some (.int .i32 verb) := fun x => x.cell (by simp)
  go_enter Tryz.func5, Tryz.ntmps5
  go_wp2_with (first
    | (go_at_call 9; (with_reducible refine (hZ _).mono ?_); rintro x w2 ⟨rfl, rfl⟩)
    | (go_at_call_of 12 wid; (with_reducible refine (hA _).mono ?_); rintro x w3 ⟨rfl, hb3⟩; obtain ⟨y2, rfl⟩ := Cl.start hb3; have g0 := Cl.up y2 (.cells #[.bool p, .bool false, .bool sh, .bool sp, .bool false, .int .i64 (-1), .int .i64 prec, .int .i32 verb] 24) f0; have g1 := Cl.up y2 (.cells #[.bool p, .bool false, .bool sh, .bool sp, .bool false, .int .i64 (-1), .int .i64 prec, .int .i32 verb] 24) f1; have g2 := Cl.up y2 (.cells #[.bool p, .bool false, .bool sh, .bool sp, .bool false, .int .i64 (-1), .int .i64 prec, .int .i32 verb] 24) f2; have g3 := Cl.up y2 (.cells #[.bool p, .bool false, .bool sh, .bool sp, .bool false, .int .i64 (-1), .int .i64 prec, .int .i32 verb] 24) f3; have g4 := Cl.up y2 (.cells #[.bool p, .bool false, .bool sh, .bool sp, .bool false, .int .i64 (-1), .int .i64 prec, .int .i32 verb] 24) f4; have g5 := Cl.up y2 (.cells #[.bool p, .bool false, .bool sh, .bool sp, .bool false, .int .i64 (-1), .int .i64 prec, .int .i32 verb] 24) f5; have g6 := Cl.up y2 (.cells #[.bool p, .bool false, .bool sh, .bool sp, .bool false, .int .i64 (-1), .int .i64 prec, .int .i32 verb] 24) f6; have g7 := Cl.up y2 (.cells #[.bool p, .bool false, .bool sh, .bool sp, .bool false, .int .i64 (-1), .int .i64 prec, .int .i32 verb] 24) f7)
    | (go_at_call 12; (with_reducible refine (hB _).mono ?_); rintro x w4 ⟨rfl, hb4⟩; obtain ⟨y4, rfl⟩ := Cl.start hb4)
    | (go_at_call 10; (with_reducible refine (hP _).mono ?_); rintro x w5 ⟨rfl, hb5⟩; obtain ⟨y5, rfl⟩ := Cl.next hb5)
    | (go_at_call 14; (with_reducible refine (hFi _).mono ?_); rintro x w7 ⟨rfl, hb7⟩; obtain ⟨y7, rfl⟩ := Cl.next hb7)
    | (go_at_call 11; refine (hL _).mono ?_; rintro x w6 ⟨rfl, hb6⟩; obtain ⟨y6, rfl⟩ := Cl.next hb6))
  go_ret
  exact ⟨rfl, bel_call hbA (Cl.out y6) (Nat.le_refl _)⟩
set_option maxRecDepth 1000000 in
set_option maxHeartbeats 8000000 in
theorem wide_odd {bits m j : Nat} {n x k : Int} {b sg : Bool} {S T N R : ByteArray} (p sh sp : Bool) (wid prec verb : Int) (hZ : Si6 b n) (hA : FlC bits n p false sh sp true wid prec verb S true) (hB : FlC bits n p false sh sp true (-1) prec verb T true) (hP : PtC bits n sg m x k) (hsz : max (T.size : Int) (min wid 1000) = (S.size : Int)) (hlk : (S.size : Int) - (T.size : Int) = (j : Nat)) (hT9 : (T.size : Int) ≤ 1000000) (hS9 : (S.size : Int) ≤ 1000000) (hk : ¬ k = 0) (hFi : ∀ w, Calls Tryz.prog 14 #[.int .u8 32, .int .i64 (j : Nat)] w fun e w' => e = .returned (.string N) ∧ Below w.heap.size w w') (hS : N ++ T = S) (z1 : ¬ 9223372036854775807 < N.size + T.size) (w : World) :
    Calls Tryz.prog 5 #[.int .u64 bits, .bool b, .agg #[.bool p, .bool false, .bool sh, .bool sp, .bool true, .int .i64 wid, .int .i64 prec, .int .i32 verb]] w fun e w' => e = .returned (.bool true) ∧ Below w.heap.size w w' := by
  have hL := lives6_any
  have hbA : Below w.heap.size w (w.alloc (.cells #[.bool p, .bool false, .bool sh, .bool sp, .bool true, .int .i64 wid, .int .i64 prec, .int .i32 verb] 24)) := (Below.refl _ _).alloc (Nat.le_refl _) _
  have f0 : ∀ x : Cl (w.alloc (.cells #[.bool p, .bool false, .bool sh, .bool sp, .bool true, .int .i64 wid, .int .i64 prec, .int .i32 verb] 24)), x.w.cell? ⟨w.heap.size, 0, none⟩ = some (.bool p) := fun x => x.cell (by simp)
  have f1 : ∀ x : Cl (w.alloc (.cells #[.bool p, .bool false, .bool sh, .bool sp, .bool true, .int .i64 wid, .int .i64 prec, .int .i32 verb] 24)), x.w.cell? ⟨w.heap.size, 1, none⟩ = some (.bool false) := fun x => x.cell (by simp)
  have f2 : ∀ x : Cl (w.alloc (.cells #[.bool p, .bool false, .bool sh, .bool sp, .bool true, .int .i64 wid, .int .i64 prec, .int .i32 verb] 24)), x.w.cell? ⟨w.heap.size, 2, none⟩ = some (.bool sh) := fun x => x.cell (by simp)
  have f3 : ∀ x : Cl (w.alloc (.cells #[.bool p, .bool false, .bool sh, .bool sp, .bool true, .int .i64 wid, .int .i64 prec, .int .i32 verb] 24)), x.w.cell? ⟨w.heap.size, 3, none⟩ = some (.bool sp) := fun x => x.cell (by simp)
  have f4 : ∀ x : Cl (w.alloc (.cells #[.bool p, .bool false, .bool sh, .bool sp, .bool true, .int .i64 wid, .int .i64 prec, .int .i32 verb] 24)), x.w.cell? ⟨w.heap.size, 4, none⟩ = some (.bool true) := fun x => x.cell (by simp)
  have f5 : ∀ x : Cl (w.alloc (.cells #[.bool p, .bool false, .bool sh, .bool sp, .bool true, .int .i64 wid, .int .i64 prec, .int .i32 verb] 24)), x.w.cell? ⟨w.heap.size, 5, none⟩ = some (.int .i64 wid) := fun x => x.cell (by simp)
  have f6 : ∀ x : Cl (w.alloc (.cells #[.bool p, .bool false, .bool sh, .bool sp, .bool true, .int .i64 wid, .int .i64 prec, .int .i32 verb] 24)), x.w.cell? ⟨w.heap.size, 6, none⟩ = some (.int .i64 prec) := fun x => x.cell (by simp)
  have f7 : ∀ x : Cl (w.alloc (.cells #[.bool p, .bool false, .bool sh, .bool sp, .bool true, .int .i64 wid, .int .i64 prec, .int .i32 verb] 24)), x.w.cell? ⟨w.heap.size, 7, none⟩ = some (.int .i32 verb) := fun x => x.cell (by simp)
  have b1 : (k == 0) = false := by simp [hk]
  go_enter Tryz.func5, Tryz.ntmps5
  go_wp2_with (first
    | (go_at_call 9; (with_reducible refine (hZ _).mono ?_); rintro x w2 ⟨rfl, rfl⟩)
    | (go_at_call_of 12 wid; (with_reducible refine (hA _).mono ?_); rintro x w3 ⟨rfl, hb3⟩; obtain ⟨y2, rfl⟩ := Cl.start hb3; have g0 := Cl.up y2 (.cells #[.bool p, .bool false, .bool sh, .bool sp, .bool true, .int .i64 (-1), .int .i64 prec, .int .i32 verb] 24) f0; have g1 := Cl.up y2 (.cells #[.bool p, .bool false, .bool sh, .bool sp, .bool true, .int .i64 (-1), .int .i64 prec, .int .i32 verb] 24) f1; have g2 := Cl.up y2 (.cells #[.bool p, .bool false, .bool sh, .bool sp, .bool true, .int .i64 (-1), .int .i64 prec, .int .i32 verb] 24) f2; have g3 := Cl.up y2 (.cells #[.bool p, .bool false, .bool sh, .bool sp, .bool true, .int .i64 (-1), .int .i64 prec, .int .i32 verb] 24) f3; have g4 := Cl.up y2 (.cells #[.bool p, .bool false, .bool sh, .bool sp, .bool true, .int .i64 (-1), .int .i64 prec, .int .i32 verb] 24) f4; have g5 := Cl.up y2 (.cells #[.bool p, .bool false, .bool sh, .bool sp, .bool true, .int .i64 (-1), .int .i64 prec, .int .i32 verb] 24) f5; have g6 := Cl.up y2 (.cells #[.bool p, .bool false, .bool sh, .bool sp, .bool true, .int .i64 (-1), .int .i64 prec, .int .i32 verb] 24) f6; have g7 := Cl.up y2 (.cells #[.bool p, .bool false, .bool sh, .bool sp, .bool true, .int .i64 (-1), .int .i64 prec, .int .i32 verb] 24) f7)
    | (go_at_call 12; (with_reducible refine (hB _).mono ?_); rintro x w4 ⟨rfl, hb4⟩; obtain ⟨y4, rfl⟩ := Cl.start hb4)
    | (go_at_call 10; (with_reducible refine (hP _).mono ?_); rintro x w5 ⟨rfl, hb5⟩; obtain ⟨y5, rfl⟩ := Cl.next hb5)
    | (go_at_call 14; (with_reducible refine (hFi _).mono ?_); rintro x w7 ⟨rfl, hb7⟩; obtain ⟨y7, rfl⟩ := Cl.next hb7)
    | (go_at_call 11; refine (hL _).mono ?_; rintro x w6 ⟨rfl, hb6⟩; obtain ⟨y6, rfl⟩ := Cl.next hb6))
  go_ret
  exact ⟨rfl, bel_call hbA (Cl.out y6) (Nat.le_refl _)⟩
set_option maxRecDepth 1000000 in
set_option maxHeartbeats 8000000 in
theorem wide_z45 {bits m j : Nat} {n x k : Int} {b sg : Bool} {S T N R A B : ByteArray} (p sh sp : Bool) (wid prec verb : Int) (hZ : Si6 b n) (hA : FlC bits n p false sh sp true wid prec verb S true) (hB : FlC bits n p false sh sp true (-1) prec verb T true) (hP : PtC bits n sg m x 0) (hsz : max (T.size : Int) (min wid 1000) = (S.size : Int)) (hlk : (S.size : Int) - (T.size : Int) = (j : Nat)) (hT9 : (T.size : Int) ≤ 1000000) (hS9 : (S.size : Int) ≤ 1000000) (hFi : ∀ w, Calls Tryz.prog 14 #[.int .u8 48, .int .i64 (j : Nat)] w fun e w' => e = .returned (.string N) ∧ Below w.heap.size w w') (h0 : 0 < T.size) (hc : (T[0]'h0).toNat = 45) (h1 : T.extract 0 1 = A) (h2 : T.extract 1 T.size = B) (h3 : A ++ N = R) (h4 : R ++ B = S) (z1 : ¬ 9223372036854775807 < A.size + N.size) (z2 : ¬ 9223372036854775807 < R.size + B.size) (w : World) :
    Calls Tryz.prog 5 #[.int .u64 bits, .bool b, .agg #[.bool p, .bool false, .bool sh, .bool sp, .bool true, .int .i64 wid, .int .i64 prec, .int .i32 verb]] w fun e w' => e = .returned (.bool true) ∧ Below w.heap.size w w' := by
  have hL := lives6_any
  have hbA : Below w.heap.size w (w.alloc (.cells #[.bool p, .bool false, .bool sh, .bool sp, .bool true, .int .i64 wid, .int .i64 prec, .int .i32 verb] 24)) := (Below.refl _ _).alloc (Nat.le_refl _) _
  have f0 : ∀ x : Cl (w.alloc (.cells #[.bool p, .bool false, .bool sh, .bool sp, .bool true, .int .i64 wid, .int .i64 prec, .int .i32 verb] 24)), x.w.cell? ⟨w.heap.size, 0, none⟩ = some (.bool p) := fun x => x.cell (by simp)
  have f1 : ∀ x : Cl (w.alloc (.cells #[.bool p, .bool false, .bool sh, .bool sp, .bool true, .int .i64 wid, .int .i64 prec, .int .i32 verb] 24)), x.w.cell? ⟨w.heap.size, 1, none⟩ = some (.bool false) := fun x => x.cell (by simp)
  have f2 : ∀ x : Cl (w.alloc (.cells #[.bool p, .bool false, .bool sh, .bool sp, .bool true, .int .i64 wid, .int .i64 prec, .int .i32 verb] 24)), x.w.cell? ⟨w.heap.size, 2, none⟩ = some (.bool sh) := fun x => x.cell (by simp)
  have f3 : ∀ x : Cl (w.alloc (.cells #[.bool p, .bool false, .bool sh, .bool sp, .bool true, .int .i64 wid, .int .i64 prec, .int .i32 verb] 24)), x.w.cell? ⟨w.heap.size, 3, none⟩ = some (.bool sp) := fun x => x.cell (by simp)
  have f4 : ∀ x : Cl (w.alloc (.cells #[.bool p, .bool false, .bool sh, .bool sp, .bool true, .int .i64 wid, .int .i64 prec, .int .i32 verb] 24)), x.w.cell? ⟨w.heap.size, 4, none⟩ = some (.bool true) := fun x => x.cell (by simp)
  have f5 : ∀ x : Cl (w.alloc (.cells #[.bool p, .bool false, .bool sh, .bool sp, .bool true, .int .i64 wid, .int .i64 prec, .int .i32 verb] 24)), x.w.cell? ⟨w.heap.size, 5, none⟩ = some (.int .i64 wid) := fun x => x.cell (by simp)
  have f6 : ∀ x : Cl (w.alloc (.cells #[.bool p, .bool false, .bool sh, .bool sp, .bool true, .int .i64 wid, .int .i64 prec, .int .i32 verb] 24)), x.w.cell? ⟨w.heap.size, 6, none⟩ = some (.int .i64 prec) := fun x => x.cell (by simp)
  have f7 : ∀ x : Cl (w.alloc (.cells #[.bool p, .bool false, .bool sh, .bool sp, .bool true, .int .i64 wid, .int .i64 prec, .int .i32 verb] 24)), x.w.cell? ⟨w.heap.size, 7, none⟩ = some (.int .i32 verb) := fun x => x.cell (by simp)
  have hue : T.toList.isEmpty = false := empty_no T h0
  have h0I : (0 : Int) < T.size := by omega
  have h0J : (1 : Int) ≤ T.size := by omega
  go_enter Tryz.func5, Tryz.ntmps5
  go_wp2_with (first
    | (go_at_call 9; (with_reducible refine (hZ _).mono ?_); rintro x w2 ⟨rfl, rfl⟩)
    | (go_at_call_of 12 wid; (with_reducible refine (hA _).mono ?_); rintro x w3 ⟨rfl, hb3⟩; obtain ⟨y2, rfl⟩ := Cl.start hb3; have g0 := Cl.up y2 (.cells #[.bool p, .bool false, .bool sh, .bool sp, .bool true, .int .i64 (-1), .int .i64 prec, .int .i32 verb] 24) f0; have g1 := Cl.up y2 (.cells #[.bool p, .bool false, .bool sh, .bool sp, .bool true, .int .i64 (-1), .int .i64 prec, .int .i32 verb] 24) f1; have g2 := Cl.up y2 (.cells #[.bool p, .bool false, .bool sh, .bool sp, .bool true, .int .i64 (-1), .int .i64 prec, .int .i32 verb] 24) f2; have g3 := Cl.up y2 (.cells #[.bool p, .bool false, .bool sh, .bool sp, .bool true, .int .i64 (-1), .int .i64 prec, .int .i32 verb] 24) f3; have g4 := Cl.up y2 (.cells #[.bool p, .bool false, .bool sh, .bool sp, .bool true, .int .i64 (-1), .int .i64 prec, .int .i32 verb] 24) f4; have g5 := Cl.up y2 (.cells #[.bool p, .bool false, .bool sh, .bool sp, .bool true, .int .i64 (-1), .int .i64 prec, .int .i32 verb] 24) f5; have g6 := Cl.up y2 (.cells #[.bool p, .bool false, .bool sh, .bool sp, .bool true, .int .i64 (-1), .int .i64 prec, .int .i32 verb] 24) f6; have g7 := Cl.up y2 (.cells #[.bool p, .bool false, .bool sh, .bool sp, .bool true, .int .i64 (-1), .int .i64 prec, .int .i32 verb] 24) f7)
    | (go_at_call 12; (with_reducible refine (hB _).mono ?_); rintro x w4 ⟨rfl, hb4⟩; obtain ⟨y4, rfl⟩ := Cl.start hb4)
    | (go_at_call 10; (with_reducible refine (hP _).mono ?_); rintro x w5 ⟨rfl, hb5⟩; obtain ⟨y5, rfl⟩ := Cl.next hb5)
    | (go_at_call 11; refine (hL _).mono ?_; rintro x w6 ⟨rfl, hb6⟩; obtain ⟨y6, rfl⟩ := Cl.next hb6))
  refine wp_region_above (y2.w.alloc (.cells #[.bool p, .bool false, .bool sh, .bool sp, .bool true, .int .i64 (-1), .int .i64 prec, .int .i32 verb] 24)) y5.below (by kernel_rfl) (by kernel_rfl) ?_
  intro hCl
  repeat (go_big_quiet_step ((first | (go_at_call 14; exact Cl.call (hFi _)) | (go_at_call 11; exact Cl.call (hL _)))))
  refine wpQuiet_nil ?_
  intro _ hw'
  obtain ⟨y6, hz⟩ := hw'
  subst hz
  go_wp2
  go_ret
  exact ⟨rfl, bel_call hbA (Cl.out y6) (Nat.le_refl _)⟩
set_option maxRecDepth 1000000 in
set_option maxHeartbeats 8000000 in
theorem wide_z43 {bits m j : Nat} {n x k : Int} {b sg : Bool} {S T N R A B : ByteArray} (p sh sp : Bool) (wid prec verb : Int) (hZ : Si6 b n) (hA : FlC bits n p false sh sp true wid prec verb S true) (hB : FlC bits n p false sh sp true (-1) prec verb T true) (hP : PtC bits n sg m x 0) (hsz : max (T.size : Int) (min wid 1000) = (S.size : Int)) (hlk : (S.size : Int) - (T.size : Int) = (j : Nat)) (hT9 : (T.size : Int) ≤ 1000000) (hS9 : (S.size : Int) ≤ 1000000) (hFi : ∀ w, Calls Tryz.prog 14 #[.int .u8 48, .int .i64 (j : Nat)] w fun e w' => e = .returned (.string N) ∧ Below w.heap.size w w') (h0 : 0 < T.size) (hc : (T[0]'h0).toNat = 43) (h1 : T.extract 0 1 = A) (h2 : T.extract 1 T.size = B) (h3 : A ++ N = R) (h4 : R ++ B = S) (z1 : ¬ 9223372036854775807 < A.size + N.size) (z2 : ¬ 9223372036854775807 < R.size + B.size) (w : World) :
    Calls Tryz.prog 5 #[.int .u64 bits, .bool b, .agg #[.bool p, .bool false, .bool sh, .bool sp, .bool true, .int .i64 wid, .int .i64 prec, .int .i32 verb]] w fun e w' => e = .returned (.bool true) ∧ Below w.heap.size w w' := by
  have hL := lives6_any
  have hbA : Below w.heap.size w (w.alloc (.cells #[.bool p, .bool false, .bool sh, .bool sp, .bool true, .int .i64 wid, .int .i64 prec, .int .i32 verb] 24)) := (Below.refl _ _).alloc (Nat.le_refl _) _
  have f0 : ∀ x : Cl (w.alloc (.cells #[.bool p, .bool false, .bool sh, .bool sp, .bool true, .int .i64 wid, .int .i64 prec, .int .i32 verb] 24)), x.w.cell? ⟨w.heap.size, 0, none⟩ = some (.bool p) := fun x => x.cell (by simp)
  have f1 : ∀ x : Cl (w.alloc (.cells #[.bool p, .bool false, .bool sh, .bool sp, .bool true, .int .i64 wid, .int .i64 prec, .int .i32 verb] 24)), x.w.cell? ⟨w.heap.size, 1, none⟩ = some (.bool false) := fun x => x.cell (by simp)
  have f2 : ∀ x : Cl (w.alloc (.cells #[.bool p, .bool false, .bool sh, .bool sp, .bool true, .int .i64 wid, .int .i64 prec, .int .i32 verb] 24)), x.w.cell? ⟨w.heap.size, 2, none⟩ = some (.bool sh) := fun x => x.cell (by simp)
  have f3 : ∀ x : Cl (w.alloc (.cells #[.bool p, .bool false, .bool sh, .bool sp, .bool true, .int .i64 wid, .int .i64 prec, .int .i32 verb] 24)), x.w.cell? ⟨w.heap.size, 3, none⟩ = some (.bool sp) := fun x => x.cell (by simp)
  have f4 : ∀ x : Cl (w.alloc (.cells #[.bool p, .bool false, .bool sh, .bool sp, .bool true, .int .i64 wid, .int .i64 prec, .int .i32 verb] 24)), x.w.cell? ⟨w.heap.size, 4, none⟩ = some (.bool true) := fun x => x.cell (by simp)
  have f5 : ∀ x : Cl (w.alloc (.cells #[.bool p, .bool false, .bool sh, .bool sp, .bool true, .int .i64 wid, .int .i64 prec, .int .i32 verb] 24)), x.w.cell? ⟨w.heap.size, 5, none⟩ = some (.int .i64 wid) := fun x => x.cell (by simp)
  have f6 : ∀ x : Cl (w.alloc (.cells #[.bool p, .bool false, .bool sh, .bool sp, .bool true, .int .i64 wid, .int .i64 prec, .int .i32 verb] 24)), x.w.cell? ⟨w.heap.size, 6, none⟩ = some (.int .i64 prec) := fun x => x.cell (by simp)
  have f7 : ∀ x : Cl (w.alloc (.cells #[.bool p, .bool false, .bool sh, .bool sp, .bool true, .int .i64 wid, .int .i64 prec, .int .i32 verb] 24)), x.w.cell? ⟨w.heap.size, 7, none⟩ = some (.int .i32 verb) := fun x => x.cell (by simp)
  have hue : T.toList.isEmpty = false := empty_no T h0
  have h0I : (0 : Int) < T.size := by omega
  have h0J : (1 : Int) ≤ T.size := by omega
  go_enter Tryz.func5, Tryz.ntmps5
  go_wp2_with (first
    | (go_at_call 9; (with_reducible refine (hZ _).mono ?_); rintro x w2 ⟨rfl, rfl⟩)
    | (go_at_call_of 12 wid; (with_reducible refine (hA _).mono ?_); rintro x w3 ⟨rfl, hb3⟩; obtain ⟨y2, rfl⟩ := Cl.start hb3; have g0 := Cl.up y2 (.cells #[.bool p, .bool false, .bool sh, .bool sp, .bool true, .int .i64 (-1), .int .i64 prec, .int .i32 verb] 24) f0; have g1 := Cl.up y2 (.cells #[.bool p, .bool false, .bool sh, .bool sp, .bool true, .int .i64 (-1), .int .i64 prec, .int .i32 verb] 24) f1; have g2 := Cl.up y2 (.cells #[.bool p, .bool false, .bool sh, .bool sp, .bool true, .int .i64 (-1), .int .i64 prec, .int .i32 verb] 24) f2; have g3 := Cl.up y2 (.cells #[.bool p, .bool false, .bool sh, .bool sp, .bool true, .int .i64 (-1), .int .i64 prec, .int .i32 verb] 24) f3; have g4 := Cl.up y2 (.cells #[.bool p, .bool false, .bool sh, .bool sp, .bool true, .int .i64 (-1), .int .i64 prec, .int .i32 verb] 24) f4; have g5 := Cl.up y2 (.cells #[.bool p, .bool false, .bool sh, .bool sp, .bool true, .int .i64 (-1), .int .i64 prec, .int .i32 verb] 24) f5; have g6 := Cl.up y2 (.cells #[.bool p, .bool false, .bool sh, .bool sp, .bool true, .int .i64 (-1), .int .i64 prec, .int .i32 verb] 24) f6; have g7 := Cl.up y2 (.cells #[.bool p, .bool false, .bool sh, .bool sp, .bool true, .int .i64 (-1), .int .i64 prec, .int .i32 verb] 24) f7)
    | (go_at_call 12; (with_reducible refine (hB _).mono ?_); rintro x w4 ⟨rfl, hb4⟩; obtain ⟨y4, rfl⟩ := Cl.start hb4)
    | (go_at_call 10; (with_reducible refine (hP _).mono ?_); rintro x w5 ⟨rfl, hb5⟩; obtain ⟨y5, rfl⟩ := Cl.next hb5)
    | (go_at_call 11; refine (hL _).mono ?_; rintro x w6 ⟨rfl, hb6⟩; obtain ⟨y6, rfl⟩ := Cl.next hb6))
  refine wp_region_above (y2.w.alloc (.cells #[.bool p, .bool false, .bool sh, .bool sp, .bool true, .int .i64 (-1), .int .i64 prec, .int .i32 verb] 24)) y5.below (by kernel_rfl) (by kernel_rfl) ?_
  intro hCl
  repeat (go_big_quiet_step ((first | (go_at_call 14; exact Cl.call (hFi _)) | (go_at_call 11; exact Cl.call (hL _)))))
  refine wpQuiet_nil ?_
  intro _ hw'
  obtain ⟨y6, hz⟩ := hw'
  subst hz
  go_wp2
  go_ret
  exact ⟨rfl, bel_call hbA (Cl.out y6) (Nat.le_refl _)⟩
set_option maxRecDepth 1000000 in
set_option maxHeartbeats 8000000 in
theorem wide_z32 {bits m j : Nat} {n x k : Int} {b sg : Bool} {S T N R A B : ByteArray} (p sh sp : Bool) (wid prec verb : Int) (hZ : Si6 b n) (hA : FlC bits n p false sh sp true wid prec verb S true) (hB : FlC bits n p false sh sp true (-1) prec verb T true) (hP : PtC bits n sg m x 0) (hsz : max (T.size : Int) (min wid 1000) = (S.size : Int)) (hlk : (S.size : Int) - (T.size : Int) = (j : Nat)) (hT9 : (T.size : Int) ≤ 1000000) (hS9 : (S.size : Int) ≤ 1000000) (hFi : ∀ w, Calls Tryz.prog 14 #[.int .u8 48, .int .i64 (j : Nat)] w fun e w' => e = .returned (.string N) ∧ Below w.heap.size w w') (h0 : 0 < T.size) (hc : (T[0]'h0).toNat = 32) (h1 : T.extract 0 1 = A) (h2 : T.extract 1 T.size = B) (h3 : A ++ N = R) (h4 : R ++ B = S) (z1 : ¬ 9223372036854775807 < A.size + N.size) (z2 : ¬ 9223372036854775807 < R.size + B.size) (w : World) :
    Calls Tryz.prog 5 #[.int .u64 bits, .bool b, .agg #[.bool p, .bool false, .bool sh, .bool sp, .bool true, .int .i64 wid, .int .i64 prec, .int .i32 verb]] w fun e w' => e = .returned (.bool true) ∧ Below w.heap.size w w' := by
  have hL := lives6_any
  have hbA : Below w.heap.size w (w.alloc (.cells #[.bool p, .bool false, .bool sh, .bool sp, .bool true, .int .i64 wid, .int .i64 prec, .int .i32 verb] 24)) := (Below.refl _ _).alloc (Nat.le_refl _) _
  have f0 : ∀ x : Cl (w.alloc (.cells #[.bool p, .bool false, .bool sh, .bool sp, .bool true, .int .i64 wid, .int .i64 prec, .int .i32 verb] 24)), x.w.cell? ⟨w.heap.size, 0, none⟩ = some (.bool p) := fun x => x.cell (by simp)
  have f1 : ∀ x : Cl (w.alloc (.cells #[.bool p, .bool false, .bool sh, .bool sp, .bool true, .int .i64 wid, .int .i64 prec, .int .i32 verb] 24)), x.w.cell? ⟨w.heap.size, 1, none⟩ = some (.bool false) := fun x => x.cell (by simp)
  have f2 : ∀ x : Cl (w.alloc (.cells #[.bool p, .bool false, .bool sh, .bool sp, .bool true, .int .i64 wid, .int .i64 prec, .int .i32 verb] 24)), x.w.cell? ⟨w.heap.size, 2, none⟩ = some (.bool sh) := fun x => x.cell (by simp)
  have f3 : ∀ x : Cl (w.alloc (.cells #[.bool p, .bool false, .bool sh, .bool sp, .bool true, .int .i64 wid, .int .i64 prec, .int .i32 verb] 24)), x.w.cell? ⟨w.heap.size, 3, none⟩ = some (.bool sp) := fun x => x.cell (by simp)
  have f4 : ∀ x : Cl (w.alloc (.cells #[.bool p, .bool false, .bool sh, .bool sp, .bool true, .int .i64 wid, .int .i64 prec, .int .i32 verb] 24)), x.w.cell? ⟨w.heap.size, 4, none⟩ = some (.bool true) := fun x => x.cell (by simp)
  have f5 : ∀ x : Cl (w.alloc (.cells #[.bool p, .bool false, .bool sh, .bool sp, .bool true, .int .i64 wid, .int .i64 prec, .int .i32 verb] 24)), x.w.cell? ⟨w.heap.size, 5, none⟩ = some (.int .i64 wid) := fun x => x.cell (by simp)
  have f6 : ∀ x : Cl (w.alloc (.cells #[.bool p, .bool false, .bool sh, .bool sp, .bool true, .int .i64 wid, .int .i64 prec, .int .i32 verb] 24)), x.w.cell? ⟨w.heap.size, 6, none⟩ = some (.int .i64 prec) := fun x => x.cell (by simp)
  have f7 : ∀ x : Cl (w.alloc (.cells #[.bool p, .bool false, .bool sh, .bool sp, .bool true, .int .i64 wid, .int .i64 prec, .int .i32 verb] 24)), x.w.cell? ⟨w.heap.size, 7, none⟩ = some (.int .i32 verb) := fun x => x.cell (by simp)
  have hue : T.toList.isEmpty = false := empty_no T h0
  have h0I : (0 : Int) < T.size := by omega
  have h0J : (1 : Int) ≤ T.size := by omega
  go_enter Tryz.func5, Tryz.ntmps5
  go_wp2_with (first
    | (go_at_call 9; (with_reducible refine (hZ _).mono ?_); rintro x w2 ⟨rfl, rfl⟩)
    | (go_at_call_of 12 wid; (with_reducible refine (hA _).mono ?_); rintro x w3 ⟨rfl, hb3⟩; obtain ⟨y2, rfl⟩ := Cl.start hb3; have g0 := Cl.up y2 (.cells #[.bool p, .bool false, .bool sh, .bool sp, .bool true, .int .i64 (-1), .int .i64 prec, .int .i32 verb] 24) f0; have g1 := Cl.up y2 (.cells #[.bool p, .bool false, .bool sh, .bool sp, .bool true, .int .i64 (-1), .int .i64 prec, .int .i32 verb] 24) f1; have g2 := Cl.up y2 (.cells #[.bool p, .bool false, .bool sh, .bool sp, .bool true, .int .i64 (-1), .int .i64 prec, .int .i32 verb] 24) f2; have g3 := Cl.up y2 (.cells #[.bool p, .bool false, .bool sh, .bool sp, .bool true, .int .i64 (-1), .int .i64 prec, .int .i32 verb] 24) f3; have g4 := Cl.up y2 (.cells #[.bool p, .bool false, .bool sh, .bool sp, .bool true, .int .i64 (-1), .int .i64 prec, .int .i32 verb] 24) f4; have g5 := Cl.up y2 (.cells #[.bool p, .bool false, .bool sh, .bool sp, .bool true, .int .i64 (-1), .int .i64 prec, .int .i32 verb] 24) f5; have g6 := Cl.up y2 (.cells #[.bool p, .bool false, .bool sh, .bool sp, .bool true, .int .i64 (-1), .int .i64 prec, .int .i32 verb] 24) f6; have g7 := Cl.up y2 (.cells #[.bool p, .bool false, .bool sh, .bool sp, .bool true, .int .i64 (-1), .int .i64 prec, .int .i32 verb] 24) f7)
    | (go_at_call 12; (with_reducible refine (hB _).mono ?_); rintro x w4 ⟨rfl, hb4⟩; obtain ⟨y4, rfl⟩ := Cl.start hb4)
    | (go_at_call 10; (with_reducible refine (hP _).mono ?_); rintro x w5 ⟨rfl, hb5⟩; obtain ⟨y5, rfl⟩ := Cl.next hb5)
    | (go_at_call 11; refine (hL _).mono ?_; rintro x w6 ⟨rfl, hb6⟩; obtain ⟨y6, rfl⟩ := Cl.next hb6))
  refine wp_region_above (y2.w.alloc (.cells #[.bool p, .bool false, .bool sh, .bool sp, .bool true, .int .i64 (-1), .int .i64 prec, .int .i32 verb] 24)) y5.below (by kernel_rfl) (by kernel_rfl) ?_
  intro hCl
  repeat (go_big_quiet_step ((first | (go_at_call 14; exact Cl.call (hFi _)) | (go_at_call 11; exact Cl.call (hL _)))))
  refine wpQuiet_nil ?_
  intro _ hw'
  obtain ⟨y6, hz⟩ := hw'
  subst hz
  go_wp2
  go_ret
  exact ⟨rfl, bel_call hbA (Cl.out y6) (Nat.le_refl _)⟩
set_option maxRecDepth 1000000 in
set_option maxHeartbeats 8000000 in
theorem wide_z0 {bits m j : Nat} {n x k : Int} {b sg : Bool} {S T N R A B : ByteArray} (p sh sp : Bool) (wid prec verb : Int) (hZ : Si6 b n) (hA : FlC bits n p false sh sp true wid prec verb S true) (hB : FlC bits n p false sh sp true (-1) prec verb T true) (hP : PtC bits n sg m x 0) (hsz : max (T.size : Int) (min wid 1000) = (S.size : Int)) (hlk : (S.size : Int) - (T.size : Int) = (j : Nat)) (hT9 : (T.size : Int) ≤ 1000000) (hS9 : (S.size : Int) ≤ 1000000) (hFi : ∀ w, Calls Tryz.prog 14 #[.int .u8 48, .int .i64 (j : Nat)] w fun e w' => e = .returned (.string N) ∧ Below w.heap.size w w') (h0 : 0 < T.size) (hc0 : 48 ≤ (T[0]'h0).toNat) (h4 : N ++ T = S) (z1 : ¬ 9223372036854775807 < N.size) (z2 : ¬ 9223372036854775807 < N.size + T.size) (w : World) :
    Calls Tryz.prog 5 #[.int .u64 bits, .bool b, .agg #[.bool p, .bool false, .bool sh, .bool sp, .bool true, .int .i64 wid, .int .i64 prec, .int .i32 verb]] w fun e w' => e = .returned (.bool true) ∧ Below w.heap.size w w' := by
  have hL := lives6_any
  have hbA : Below w.heap.size w (w.alloc (.cells #[.bool p, .bool false, .bool sh, .bool sp, .bool true, .int .i64 wid, .int .i64 prec, .int .i32 verb] 24)) := (Below.refl _ _).alloc (Nat.le_refl _) _
  have f0 : ∀ x : Cl (w.alloc (.cells #[.bool p, .bool false, .bool sh, .bool sp, .bool true, .int .i64 wid, .int .i64 prec, .int .i32 verb] 24)), x.w.cell? ⟨w.heap.size, 0, none⟩ = some (.bool p) := fun x => x.cell (by simp)
  have f1 : ∀ x : Cl (w.alloc (.cells #[.bool p, .bool false, .bool sh, .bool sp, .bool true, .int .i64 wid, .int .i64 prec, .int .i32 verb] 24)), x.w.cell? ⟨w.heap.size, 1, none⟩ = some (.bool false) := fun x => x.cell (by simp)
  have f2 : ∀ x : Cl (w.alloc (.cells #[.bool p, .bool false, .bool sh, .bool sp, .bool true, .int .i64 wid, .int .i64 prec, .int .i32 verb] 24)), x.w.cell? ⟨w.heap.size, 2, none⟩ = some (.bool sh) := fun x => x.cell (by simp)
  have f3 : ∀ x : Cl (w.alloc (.cells #[.bool p, .bool false, .bool sh, .bool sp, .bool true, .int .i64 wid, .int .i64 prec, .int .i32 verb] 24)), x.w.cell? ⟨w.heap.size, 3, none⟩ = some (.bool sp) := fun x => x.cell (by simp)
  have f4 : ∀ x : Cl (w.alloc (.cells #[.bool p, .bool false, .bool sh, .bool sp, .bool true, .int .i64 wid, .int .i64 prec, .int .i32 verb] 24)), x.w.cell? ⟨w.heap.size, 4, none⟩ = some (.bool true) := fun x => x.cell (by simp)
  have f5 : ∀ x : Cl (w.alloc (.cells #[.bool p, .bool false, .bool sh, .bool sp, .bool true, .int .i64 wid, .int .i64 prec, .int .i32 verb] 24)), x.w.cell? ⟨w.heap.size, 5, none⟩ = some (.int .i64 wid) := fun x => x.cell (by simp)
  have f6 : ∀ x : Cl (w.alloc (.cells #[.bool p, .bool false, .bool sh, .bool sp, .bool true, .int .i64 wid, .int .i64 prec, .int .i32 verb] 24)), x.w.cell? ⟨w.heap.size, 6, none⟩ = some (.int .i64 prec) := fun x => x.cell (by simp)
  have f7 : ∀ x : Cl (w.alloc (.cells #[.bool p, .bool false, .bool sh, .bool sp, .bool true, .int .i64 wid, .int .i64 prec, .int .i32 verb] 24)), x.w.cell? ⟨w.heap.size, 7, none⟩ = some (.int .i32 verb) := fun x => x.cell (by simp)
  have hue : T.toList.isEmpty = false := empty_no T h0
  have h0I : (0 : Int) < T.size := by omega
  have h0J : (1 : Int) ≤ T.size := by omega
  have b1 : (((T[0]'h0).toNat : Int) == 45) = false := by simp; omega
  have b2 : (((T[0]'h0).toNat : Int) == 43) = false := by simp; omega
  have b3 : (((T[0]'h0).toNat : Int) == 32) = false := by simp; omega
  go_enter Tryz.func5, Tryz.ntmps5
  go_wp2_with (first
    | (go_at_call 9; (with_reducible refine (hZ _).mono ?_); rintro x w2 ⟨rfl, rfl⟩)
    | (go_at_call_of 12 wid; (with_reducible refine (hA _).mono ?_); rintro x w3 ⟨rfl, hb3⟩; obtain ⟨y2, rfl⟩ := Cl.start hb3; have g0 := Cl.up y2 (.cells #[.bool p, .bool false, .bool sh, .bool sp, .bool true, .int .i64 (-1), .int .i64 prec, .int .i32 verb] 24) f0; have g1 := Cl.up y2 (.cells #[.bool p, .bool false, .bool sh, .bool sp, .bool true, .int .i64 (-1), .int .i64 prec, .int .i32 verb] 24) f1; have g2 := Cl.up y2 (.cells #[.bool p, .bool false, .bool sh, .bool sp, .bool true, .int .i64 (-1), .int .i64 prec, .int .i32 verb] 24) f2; have g3 := Cl.up y2 (.cells #[.bool p, .bool false, .bool sh, .bool sp, .bool true, .int .i64 (-1), .int .i64 prec, .int .i32 verb] 24) f3; have g4 := Cl.up y2 (.cells #[.bool p, .bool false, .bool sh, .bool sp, .bool true, .int .i64 (-1), .int .i64 prec, .int .i32 verb] 24) f4; have g5 := Cl.up y2 (.cells #[.bool p, .bool false, .bool sh, .bool sp, .bool true, .int .i64 (-1), .int .i64 prec, .int .i32 verb] 24) f5; have g6 := Cl.up y2 (.cells #[.bool p, .bool false, .bool sh, .bool sp, .bool true, .int .i64 (-1), .int .i64 prec, .int .i32 verb] 24) f6; have g7 := Cl.up y2 (.cells #[.bool p, .bool false, .bool sh, .bool sp, .bool true, .int .i64 (-1), .int .i64 prec, .int .i32 verb] 24) f7)
    | (go_at_call 12; (with_reducible refine (hB _).mono ?_); rintro x w4 ⟨rfl, hb4⟩; obtain ⟨y4, rfl⟩ := Cl.start hb4)
    | (go_at_call 10; (with_reducible refine (hP _).mono ?_); rintro x w5 ⟨rfl, hb5⟩; obtain ⟨y5, rfl⟩ := Cl.next hb5)
    | (go_at_call 11; refine (hL _).mono ?_; rintro x w6 ⟨rfl, hb6⟩; obtain ⟨y6, rfl⟩ := Cl.next hb6))
  refine wp_region_above (y2.w.alloc (.cells #[.bool p, .bool false, .bool sh, .bool sp, .bool true, .int .i64 (-1), .int .i64 prec, .int .i32 verb] 24)) y5.below (by kernel_rfl) (by kernel_rfl) ?_
  intro hCl
  repeat (go_big_quiet_step ((first | (go_at_call 14; exact Cl.call (hFi _)) | (go_at_call 11; exact Cl.call (hL _)))))
  refine wpQuiet_nil ?_
  intro _ hw'
  obtain ⟨y6, hz⟩ := hw'
  subst hz
  go_wp2
  go_ret
  exact ⟨rfl, bel_call hbA (Cl.out y6) (Nat.le_refl _)⟩
/-- The first byte is a digit. -/
def Dg1 (s : ByteArray) : Prop := ∃ x l, s.data.toList = x :: l ∧ isD x = true
theorem Dg1.app {a b : ByteArray} (h : Dg1 a) : Dg1 (a ++ b) := by
  obtain ⟨x, l, h1, h2⟩ := h
  exact ⟨x, l ++ b.data.toList, by rw [app_list, h1]; rfl, h2⟩
theorem dg1_all {s : ByteArray} (h : allD s.data.toList = true) (hz : 1 ≤ s.size) : Dg1 s := by
  rw [← list_len] at hz
  cases hl : s.data.toList with
  | nil => rw [hl] at hz; simp at hz
  | cons x l => exact ⟨x, l, hl, allD_mem h (by rw [hl]; simp)⟩
theorem allD_run (k : Nat) : allD (run 48 k).data.toList = true := by
  rw [run_list]
  exact allD_of fun x hx => by rw [List.eq_of_mem_replicate hx]; decide
theorem allD_lnB {s : ByteArray} (h : allD s.data.toList = true) (n : Int) : allD (lnB s n).data.toList = true := by
  unfold lnB; rw [app_list, allD_append, h, allD_run]; rfl
theorem allD_ext {s : ByteArray} (h : allD s.data.toList = true) (a b : Nat) : allD (s.extract a b).data.toList = true := by
  rw [ext_li]
  exact allD_of fun x hx => allD_mem h (List.mem_of_mem_take (List.mem_of_mem_drop hx))
theorem Dg1.ptd {a b : ByteArray} (h : Dg1 a) (sh : Bool) : Dg1 (ptd sh a b) := by
  unfold Go.Proofs.YtkeoafidgfmhlabGreatDoor.ptd
  split
  · exact h
  · exact h.app.app
theorem dg1_sci {d : ByteArray} (h : allD d.data.toList = true) (hz : 1 ≤ d.size) (sh : Bool) (x : Int) : Dg1 (sci sh d x) := ((dg1_all (allD_ext h 0 1) (by rw [ByteArray.size_extract]; omega)).ptd sh).app.app
theorem dg1_arA {d : ByteArray} (h : allD d.data.toList = true) (p : Int) : Dg1 (arA d p) := by
  have hz := lnB_size d p
  unfold arA
  split
  · exact ⟨48, [], rfl, by decide⟩
  · exact dg1_all (allD_ext (allD_lnB h p) _ _) (by rw [ByteArray.size_extract]; omega)
theorem dg1_genG (sh : Bool) (d : Nat) (t c : Int) : Dg1 (genG sh d t c) := by
  have hD : allD (genD sh d c).data.toList = true ∧ 1 ≤ (genD sh d c).size := by
    unfold genD
    split
    · exact ⟨allD_lnB (allD_lnB (o_dig d) _) _, by rw [lnB_size, lnB_size]; omega⟩
    · exact ⟨allD_lnB (o_dig d) _, by rw [lnB_size]; omega⟩
  unfold genG
  split
  · exact dg1_sci hD.1 hD.2 _ _
  · exact (dg1_arA hD.1 _).ptd sh
theorem allD_dig (n : Nat) : allD (digT false 10 n).data.toList = true := allD_of fun x hx => by
  obtain ⟨d, hd, rfl⟩ := digS_mem false 10 n (by decide) x hx
  have : ∀ d : Fin 10, isD (hexB false d.val) = true := by decide
  exact this ⟨d, hd⟩
theorem dg1_num (sh : Bool) (P : Int) (m : Nat) (e : Int) (v d : Nat) (verb : Int) : Dg1 (numT sh P m e v d verb) := by
  unfold numT
  split
  · refine dg1_sci (allD_lnB (o_dig _) _) ?_ _ _
    rw [lnB_size]
    have : 1 ≤ cntE P := by unfold cntE; split <;> omega
    omega
  · split
    · exact (dg1_arA (o_dig _) _).ptd sh
    · split
      · exact ((dg1_all (allD_dig m) (digT_size false 10 m).2).app).app
      · split
        · have : Dg1 (⟨#[48, 120]⟩ : ByteArray) := ⟨48, [120], rfl, by decide⟩
          exact this.app.app.app
        · unfold genT
          split <;> exact dg1_genG _ _ _ _
theorem dg1_fin (sh : Bool) (prec : Int) (m : Nat) (e : Int) (v d : Nat) (verb : Int) : Dg1 (finT sh prec m e v d verb) := by
  obtain ⟨x, l, h1, h2⟩ := dg1_num (sh && decide (verb ≠ 118)) (min prec 1000) m e v d verb
  unfold finT bigT
  split
  · refine ⟨Lib.upperB x, Lib.toUpperA l, by show Lib.toUpperA _ = _; rw [h1]; rfl, ?_⟩
    have h3 := (isD_iff x).1 h2
    have : ∀ y : Fin 256, isD (UInt8.ofNat y.val) = true → isD (Lib.upperB (UInt8.ofNat y.val)) = true := by decide +kernel
    have h4 := this ⟨x.toNat, x.toNat_lt⟩
    simpa [h2] using h4
  · exact ⟨x, l, h1, h2⟩
theorem fill_is (c : Nat) (j : Nat) (w : World) (hj : j ≤ 1000) : Calls Tryz.prog 14 #[.int .u8 c, .int .i64 (j : Nat)] w fun e w' => e = .returned (.string (run c j)) ∧ Below w.heap.size w w' := by
  have := fill_any c (j : Int) w
  rw [show wdt (j : Int) = j by unfold wdt; omega] at this
  exact this
theorem lk_is (W : ByteArray) (wid : Int) : lk W wid ≤ 1000 ∧ max (W.size : Int) (min wid 1000) = ((W.size + lk W wid : Nat) : Int) := by
  unfold lk wdt
  omega
/-- What is filled with blanks. -/
theorem wide_pad {bits m : Nat} {n x k : Int} {b sg : Bool} {W : ByteArray} (p mi sh sp z : Bool) (wid prec verb : Int) (hZ : Si6 b n) (aW : Asc W) (zW : W.size ≤ 200000) (hP : PtC bits n sg m x k) (hk : ¬ k = 0 ∨ ¬ (z = true ∧ mi = false)) (hA : FlC bits n p mi sh sp z wid prec verb (padS W mi false wid) true) (hB : FlC bits n p mi sh sp z (-1) prec verb (padS W mi false (-1)) true) (w : World) :
    Calls Tryz.prog 5 #[.int .u64 bits, .bool b, .agg #[.bool p, .bool mi, .bool sh, .bool sp, .bool z, .int .i64 wid, .int .i64 prec, .int .i32 verb]] w fun e w' => e = .returned (.bool true) ∧ Below w.heap.size w w' := by
  obtain ⟨l1, l2⟩ := lk_is W wid
  rw [padS_off] at hB
  rw [padS_asc aW] at hA
  have hr := run_size 32 (lk W wid)
  cases mi with
  | true =>
    simp only [if_true] at hA
    have hz : (W ++ run 32 (lk W wid)).size = W.size + lk W wid := by rw [app_size, hr]
    exact wide_minus (R := ⟨#[]⟩) p sh sp z wid prec verb hZ hA hB hP (by rw [hz]; exact l2) (j := lk W wid) (by rw [hz]; omega) (by omega) (by rw [hz]; omega) (fun w => fill_is 32 _ w l1) rfl (by omega) w
  | false =>
    simp only [Bool.false_eq_true, if_false] at hA
    have hz : (run 32 (lk W wid) ++ W).size = W.size + lk W wid := by rw [app_size, hr]; omega
    cases z with
    | false => exact wide_plain (R := ⟨#[]⟩) p sh sp wid prec verb hZ hA hB hP (by rw [hz]; exact l2) (j := lk W wid) (by rw [hz]; omega) (by omega) (by rw [hz]; omega) (fun w => fill_is 32 _ w l1) rfl (by omega) w
    | true =>
      have hk0 : ¬ k = 0 := by rcases hk with h | h; · exact h
                               · exact absurd ⟨rfl, rfl⟩ h
      exact wide_odd (R := ⟨#[]⟩) p sh sp wid prec verb hZ hA hB hP (by rw [hz]; exact l2) (j := lk W wid) (by rw [hz]; omega) (by omega) (by rw [hz]; omega) hk0 (fun w => fill_is 32 _ w l1) rfl (by omega) w
theorem app_ext1 {c : UInt8} (T : ByteArray) : ((⟨#[c]⟩ : ByteArray) ++ T).extract 0 1 = ⟨#[c]⟩ ∧ ((⟨#[c]⟩ : ByteArray) ++ T).extract 1 ((⟨#[c]⟩ : ByteArray) ++ T).size = T := by
  have h1 := app_head (⟨#[c]⟩ : ByteArray) T
  have h2 := app_rest (⟨#[c]⟩ : ByteArray) T
  exact ⟨h1, h2⟩
/-- What is filled with noughts. -/
theorem wide_zero {bits m : Nat} {n x : Int} {b sg : Bool} {s T : ByteArray} (p sh sp : Bool) (wid prec verb : Int) (hZ : Si6 b n) (hs : s = ⟨#[]⟩ ∨ s = ⟨#[45]⟩ ∨ s = ⟨#[43]⟩ ∨ s = ⟨#[32]⟩) (aT : Asc T) (aS : Asc s) (dT : Dg1 T) (zT : T.size ≤ 150000) (hP : PtC bits n sg m x 0) (hA : FlC bits n p false sh sp true wid prec verb (filT s T false true wid) true) (hB : FlC bits n p false sh sp true (-1) prec verb (filT s T false true (-1)) true) (w : World) :
    Calls Tryz.prog 5 #[.int .u64 bits, .bool b, .agg #[.bool p, .bool false, .bool sh, .bool sp, .bool true, .int .i64 wid, .int .i64 prec, .int .i32 verb]] w fun e w' => e = .returned (.bool true) ∧ Below w.heap.size w w' := by
  have hs1 : s.size ≤ 1 := by rcases hs with rfl | rfl | rfl | rfl <;> decide
  rw [filT_off _ _ _ _ hs1] at hB
  have hwl := wdt_le wid
  obtain ⟨j, hj⟩ : ∃ j : Nat, j = (((wdt wid : Nat) : Int) - (s.size : Nat) - (T.size : Nat)).toNat := ⟨_, rfl⟩
  have hj1 : j ≤ 1000 := by omega
  have hfl : filT s T false true wid = (s ++ run 48 j) ++ T := by
    have e1 : lnA T ((wdt wid : Nat) - (s.size : Nat)) = run 48 j ++ T := by unfold lnA; rw [hj]
    have ha : Asc (s ++ (run 48 j ++ T)) := aS.app ((Asc.run (by decide) _).app aT)
    unfold filT
    rw [if_pos ⟨rfl, rfl⟩, e1, padS_asc ha, if_neg (by simp)]
    have hz : lk (s ++ (run 48 j ++ T)) wid = 0 := by
      unfold lk
      rw [app_size, app_size, run_size]
      unfold wdt at *
      omega
    rw [hz, run_zero]
    apply ByteArray.ext; apply Array.ext'
    rw [app_list, app_list, app_list, app_list, app_list]
    simp
  rw [hfl] at hA
  have hr := run_size 48 j
  have hzS : ((s ++ run 48 j) ++ T).size = s.size + j + T.size := by rw [app_size, app_size, hr]
  have hzT : (s ++ T).size = s.size + T.size := app_size _ _
  have hmx : max ((s ++ T).size : Int) (min wid 1000) = (((s ++ run 48 j) ++ T).size : Int) := by
    rw [hzS, hzT, hj]
    unfold wdt
    omega
  have hlk : (((s ++ run 48 j) ++ T).size : Int) - ((s ++ T).size : Int) = (j : Nat) := by rw [hzS, hzT]; omega
  obtain ⟨x0, l0, d1, d2⟩ := dT
  have hT1 : 1 ≤ T.size := by rw [← list_len, d1]; simp
  have d3 := (isD_iff x0).1 d2
  have hT0 : (T[0]'(by omega)).toNat = x0.toNat := by
    have : T[0]'(by omega) = T.data.toList[0]'(by rw [list_len]; omega) := rfl
    rw [this]
    simp only [d1]
    rfl
  rcases hs with rfl | rfl | rfl | rfl
  · have e0 : (⟨#[]⟩ : ByteArray) ++ T = T := by
      apply ByteArray.ext; apply Array.ext'
      rw [app_list]; rfl
    rw [e0] at hB hmx hlk
    have e1 : ((⟨#[]⟩ : ByteArray) ++ run 48 j) ++ T = run 48 j ++ T := by
      apply ByteArray.ext; apply Array.ext'
      rw [app_list, app_list, app_list]; rfl
    rw [e1] at hA hmx hlk hzS
    exact wide_z0 (k := 0) (R := ⟨#[]⟩) (A := ⟨#[]⟩) (B := ⟨#[]⟩) p sh sp wid prec verb hZ hA hB hP hmx hlk (by omega) (by rw [hzS]; show ((0 + j + T.size : Nat) : Int) ≤ _; omega) (fun w => fill_is 48 j w hj1) (by omega) (by rw [hT0]; omega) rfl (by omega) (by omega) w
  · obtain ⟨x1, x2⟩ := app_ext1 (c := 45) T
    exact wide_z45 (k := 0) p sh sp wid prec verb hZ hA hB hP hmx hlk (by rw [hzT]; show ((1 + T.size : Nat) : Int) ≤ _; omega) (by rw [hzS]; show ((1 + j + T.size : Nat) : Int) ≤ _; omega) (fun w => fill_is 48 j w hj1) (by rw [hzT]; show 0 < 1 + T.size; omega) (by rw [bt_at, get_app_left _ _ _ (by decide)]; rfl) x1 x2 rfl rfl (by rw [hr]; show ¬ 9223372036854775807 < 1 + j; omega) (by rw [app_size, hr]; show ¬ 9223372036854775807 < 1 + j + T.size; omega) w
  · obtain ⟨x1, x2⟩ := app_ext1 (c := 43) T
    exact wide_z43 (k := 0) p sh sp wid prec verb hZ hA hB hP hmx hlk (by rw [hzT]; show ((1 + T.size : Nat) : Int) ≤ _; omega) (by rw [hzS]; show ((1 + j + T.size : Nat) : Int) ≤ _; omega) (fun w => fill_is 48 j w hj1) (by rw [hzT]; show 0 < 1 + T.size; omega) (by rw [bt_at, get_app_left _ _ _ (by decide)]; rfl) x1 x2 rfl rfl (by rw [hr]; show ¬ 9223372036854775807 < 1 + j; omega) (by rw [app_size, hr]; show ¬ 9223372036854775807 < 1 + j + T.size; omega) w
  · obtain ⟨x1, x2⟩ := app_ext1 (c := 32) T
    exact wide_z32 (k := 0) p sh sp wid prec verb hZ hA hB hP hmx hlk (by rw [hzT]; show ((1 + T.size : Nat) : Int) ≤ _; omega) (by rw [hzS]; show ((1 + j + T.size : Nat) : Int) ≤ _; omega) (fun w => fill_is 48 j w hj1) (by rw [hzT]; show 0 < 1 + T.size; omega) (by rw [bt_at, get_app_left _ _ _ (by decide)]; rfl) x1 x2 rfl rfl (by rw [hr]; show ¬ 9223372036854775807 < 1 + j; omega) (by rw [app_size, hr]; show ¬ 9223372036854775807 < 1 + j + T.size; omega) w
theorem sgF_is (neg p sp : Bool) : sgF neg p sp = ⟨#[]⟩ ∨ sgF neg p sp = ⟨#[45]⟩ ∨ sgF neg p sp = ⟨#[43]⟩ ∨ sgF neg p sp = ⟨#[32]⟩ := by
  cases neg <;> cases p <;> cases sp <;> simp [sgF, signA]
theorem floatsWide_walk (m0 : Int) (hm0 : (Lit.int .u64 m0).wf = true) (b : Bool) (p mi sh sp z : Bool) (wid prec verb : Int) (_h5 : (Lit.int .i64 wid).wf = true) (_h6 : (Lit.int .i64 prec).wf = true) (w : World) :
    Calls Tryz.prog 5 #[.int .u64 m0, .bool b, .agg #[.bool p, .bool mi, .bool sh, .bool sp, .bool z, .int .i64 wid, .int .i64 prec, .int .i32 verb]] w fun e w' => e = .returned (.bool true) ∧ Below w.heap.size w w' := by
  obtain ⟨h0, h1⟩ := wfu64 m0 hm0
  obtain ⟨bits, rfl⟩ := Int.eq_ofNat_of_zero_le h0
  have hb : bits < 18446744073709551616 := by omega
  obtain ⟨f, ww, least, I, hly, -, -⟩ := ly_of b
  have hZ := sized6_any b
  have hpt := ptc_any hly hb
  cases hv : fVerb verb with
  | false => exact wide_no (k := 0) (x := 0) (sg := false) (S := ⟨#[]⟩) (T := ⟨#[]⟩) (N := ⟨#[]⟩) (R := ⟨#[]⟩) p mi sh sp z wid prec verb hZ (float_none hb p mi sh sp z wid prec verb (.inl hv)) (float_none hb p mi sh sp z (-1) prec verb (.inl hv)) w
  | true =>
    rcases Nat.lt_trichotomy (bare f ww bits) I with hp | hp | hp
    · have e3 : ptK f ww I bits = 0 := by unfold ptK; rw [if_pos hp]
      rw [e3] at hpt
      obtain ⟨d, hd, gd, hF⟩ := fin_of hly hb hp
      have A := float_fin hF p mi sh sp z wid prec verb hv
      have B := float_fin hF p mi sh sp z (-1) prec verb hv
      have hz := (fin_size (sh := sh) (prec := prec) (e := least + pk f (bare f ww bits)) (verb := verb) hF.fv hF.dl hF.dp hF.m53).2
      have aT := asc_fin sh prec (pm f (bare f ww bits)) (least + pk f (bare f ww bits)) (val f least (bare f ww bits)) d verb
      have dT := dg1_fin sh prec (pm f (bare f ww bits)) (least + pk f (bare f ww bits)) (val f least (bare f ww bits)) d verb
      have hs := sgF_size (sgn f ww bits) p sp
      have hsi := sgF_is (sgn f ww bits) p sp
      have aS := asc_sgF (sgn f ww bits) p sp
      generalize finT sh prec (pm f (bare f ww bits)) (least + pk f (bare f ww bits)) (val f least (bare f ww bits)) d verb = T at *
      generalize sgF (sgn f ww bits) p sp = s at *
      by_cases hzm : z = true ∧ mi = false
      · obtain ⟨rfl, rfl⟩ := hzm
        exact wide_zero p sh sp wid prec verb hZ hsi aT aS dT hz hpt A B w
      · have e1 : ∀ wid, filT s T mi z wid = padS (s ++ T) mi false wid := fun wid => by unfold filT; rw [if_neg hzm]
        rw [e1] at A B
        exact wide_pad p mi sh sp z wid prec verb hZ (aS.app aT) (by rw [app_size]; omega) hpt (.inr hzm) A B w
    · have e3 : ptK f ww I bits = 1 := by unfold ptK; rw [if_neg (by omega), if_pos hp]
      rw [e3] at hpt
      exact wide_pad p mi sh sp z wid prec verb hZ ((asc_sgI _ _ _).app (Asc.lit (l := [73, 110, 102]) (by decide))) (by rw [app_size, sgI_size]; decide) hpt (.inl (by decide)) ((float_odd hly hb p mi sh sp z wid prec verb hv).1 hp) ((float_odd hly hb p mi sh sp z (-1) prec verb hv).1 hp) w
    · have e3 : ptK f ww I bits = 2 := by unfold ptK; rw [if_neg (by omega), if_neg (by omega)]
      rw [e3] at hpt
      have hs := sgF_size false p sp
      exact wide_pad p mi sh sp z wid prec verb hZ ((asc_sgF _ _ _).app (Asc.lit (l := [78, 97, 78]) (by decide))) (by rw [app_size, show (⟨#[78, 97, 78]⟩ : ByteArray).size = 3 from rfl]; omega) hpt (.inl (by decide)) ((float_odd hly hb p mi sh sp z wid prec verb hv).2 hp) ((float_odd hly hb p mi sh sp z (-1) prec verb hv).2 hp) w
end Go.Proofs.YtkeoafidgfmhlabGreatDoor
