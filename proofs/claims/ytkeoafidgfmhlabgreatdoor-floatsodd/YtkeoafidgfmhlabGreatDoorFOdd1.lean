/- The walk of the law FloatsOdd: what is no number. -/
import Derived.Test.YtkeoafidgfmhlabGreatDoorPkF26
namespace Go.Proofs.YtkeoafidgfmhlabGreatDoor
open Go.RowKit
set_option linter.unusedVariables false
set_option linter.unusedSimpArgs false

set_option maxRecDepth 1000000 in
set_option maxHeartbeats 4000000 in
theorem odd_n00_true {bits m : Nat} {n x : Int} {b sg : Bool} {S N : ByteArray} (sh z : Bool) (wid prec verb : Int) (hZ : Si6 b n) (hP : PtC bits n sg m x 2) (hF : FlC bits n false true sh false z wid prec verb S true) (hFi : ∀ w, Calls Tryz.prog 14 #[.int .u8 32, .int .i64 (max 0 (min wid 1000) - 3)] w fun e w' => e = .returned (.string N) ∧ Below w.heap.size w w') (hS : (⟨#[78, 97, 78]⟩ : ByteArray) ++ N = S) (z1 : ¬ 9223372036854775807 < (⟨#[78, 97, 78]⟩ : ByteArray).size + N.size) (w : World) :
    Calls Tryz.prog 3 #[.int .u64 bits, .bool b, .agg #[.bool false, .bool true, .bool sh, .bool false, .bool z, .int .i64 wid, .int .i64 prec, .int .i32 verb]] w fun e w' => e = .returned (.bool true) ∧ Below w.heap.size w w' := by
  have hL := lives6_any
  have hbA : Below w.heap.size w (w.alloc (.cells #[.bool false, .bool true, .bool sh, .bool false, .bool z, .int .i64 wid, .int .i64 prec, .int .i32 verb] 24)) := (Below.refl _ _).alloc (Nat.le_refl _) _
  have f0 : ∀ x : Cl (w.alloc (.cells #[.bool false, .bool true, .bool sh, .bool false, .bool z, .int .i64 wid, .int .i64 prec, .int .i32 verb] 24)), x.w.cell? ⟨w.heap.size, 0, none⟩ = some (.bool false) := fun x => x.cell (by simp)
  have f1 : ∀ x : Cl (w.alloc (.cells #[.bool false, .bool true, .bool sh, .bool false, .bool z, .int .i64 wid, .int .i64 prec, .int .i32 verb] 24)), x.w.cell? ⟨w.heap.size, 1, none⟩ = some (.bool true) := fun x => x.cell (by simp)
  have f2 : ∀ x : Cl (w.alloc (.cells #[.bool false, .bool true, .bool sh, .bool false, .bool z, .int .i64 wid, .int .i64 prec, .int .i32 verb] 24)), x.w.cell? ⟨w.heap.size, 2, none⟩ = some (.bool sh) := fun x => x.cell (by simp)
  have f3 : ∀ x : Cl (w.alloc (.cells #[.bool false, .bool true, .bool sh, .bool false, .bool z, .int .i64 wid, .int .i64 prec, .int .i32 verb] 24)), x.w.cell? ⟨w.heap.size, 3, none⟩ = some (.bool false) := fun x => x.cell (by simp)
  have f4 : ∀ x : Cl (w.alloc (.cells #[.bool false, .bool true, .bool sh, .bool false, .bool z, .int .i64 wid, .int .i64 prec, .int .i32 verb] 24)), x.w.cell? ⟨w.heap.size, 4, none⟩ = some (.bool z) := fun x => x.cell (by simp)
  have f5 : ∀ x : Cl (w.alloc (.cells #[.bool false, .bool true, .bool sh, .bool false, .bool z, .int .i64 wid, .int .i64 prec, .int .i32 verb] 24)), x.w.cell? ⟨w.heap.size, 5, none⟩ = some (.int .i64 wid) := fun x => x.cell (by simp)
  have f6 : ∀ x : Cl (w.alloc (.cells #[.bool false, .bool true, .bool sh, .bool false, .bool z, .int .i64 wid, .int .i64 prec, .int .i32 verb] 24)), x.w.cell? ⟨w.heap.size, 6, none⟩ = some (.int .i64 prec) := fun x => x.cell (by simp)
  have f7 : ∀ x : Cl (w.alloc (.cells #[.bool false, .bool true, .bool sh, .bool false, .bool z, .int .i64 wid, .int .i64 prec, .int .i32 verb] 24)), x.w.cell? ⟨w.heap.size, 7, none⟩ = some (.int .i32 verb) := fun x => x.cell (by simp)
  have hm1 : max 0 (min wid 1000) ≤ 1000 := by omega
  have hm2 : 0 ≤ max 0 (min wid 1000) := by omega
  go_enter Tryz.func3, Tryz.ntmps3
  go_wp2_with (first
    | (go_at_call 9; (with_reducible refine (hZ _).mono ?_); rintro x w2 ⟨rfl, rfl⟩)
    | (go_at_call 10; (with_reducible refine (hP _).mono ?_); rintro x w3 ⟨rfl, hb3⟩; obtain ⟨y3, rfl⟩ := Cl.start hb3)
    | (go_at_call 12; refine (hF _).mono ?_; rintro x w4 ⟨rfl, hb4⟩; obtain ⟨y4, rfl⟩ := Cl.next hb4)
    | (go_at_call 14; refine (hFi _).mono ?_; rintro x w5 ⟨rfl, hb5⟩; obtain ⟨y5, rfl⟩ := Cl.next hb5)
    | (go_at_call 11; refine (hL _).mono ?_; rintro x w6 ⟨rfl, hb6⟩; obtain ⟨y6, rfl⟩ := Cl.next hb6))
  go_ret
  exact ⟨rfl, bel_call hbA y6.below (Nat.le_refl _)⟩
set_option maxRecDepth 1000000 in
set_option maxHeartbeats 4000000 in
theorem odd_n00_false {bits m : Nat} {n x : Int} {b sg : Bool} {S N : ByteArray} (sh z : Bool) (wid prec verb : Int) (hZ : Si6 b n) (hP : PtC bits n sg m x 2) (hF : FlC bits n false false sh false z wid prec verb S true) (hFi : ∀ w, Calls Tryz.prog 14 #[.int .u8 32, .int .i64 (max 0 (min wid 1000) - 3)] w fun e w' => e = .returned (.string N) ∧ Below w.heap.size w w') (hS : N ++ (⟨#[78, 97, 78]⟩ : ByteArray) = S) (z1 : ¬ 9223372036854775807 < N.size + (⟨#[78, 97, 78]⟩ : ByteArray).size) (w : World) :
    Calls Tryz.prog 3 #[.int .u64 bits, .bool b, .agg #[.bool false, .bool false, .bool sh, .bool false, .bool z, .int .i64 wid, .int .i64 prec, .int .i32 verb]] w fun e w' => e = .returned (.bool true) ∧ Below w.heap.size w w' := by
  have hL := lives6_any
  have hbA : Below w.heap.size w (w.alloc (.cells #[.bool false, .bool false, .bool sh, .bool false, .bool z, .int .i64 wid, .int .i64 prec, .int .i32 verb] 24)) := (Below.refl _ _).alloc (Nat.le_refl _) _
  have f0 : ∀ x : Cl (w.alloc (.cells #[.bool false, .bool false, .bool sh, .bool false, .bool z, .int .i64 wid, .int .i64 prec, .int .i32 verb] 24)), x.w.cell? ⟨w.heap.size, 0, none⟩ = some (.bool false) := fun x => x.cell (by simp)
  have f1 : ∀ x : Cl (w.alloc (.cells #[.bool false, .bool false, .bool sh, .bool false, .bool z, .int .i64 wid, .int .i64 prec, .int .i32 verb] 24)), x.w.cell? ⟨w.heap.size, 1, none⟩ = some (.bool false) := fun x => x.cell (by simp)
  have f2 : ∀ x : Cl (w.alloc (.cells #[.bool false, .bool false, .bool sh, .bool false, .bool z, .int .i64 wid, .int .i64 prec, .int .i32 verb] 24)), x.w.cell? ⟨w.heap.size, 2, none⟩ = some (.bool sh) := fun x => x.cell (by simp)
  have f3 : ∀ x : Cl (w.alloc (.cells #[.bool false, .bool false, .bool sh, .bool false, .bool z, .int .i64 wid, .int .i64 prec, .int .i32 verb] 24)), x.w.cell? ⟨w.heap.size, 3, none⟩ = some (.bool false) := fun x => x.cell (by simp)
  have f4 : ∀ x : Cl (w.alloc (.cells #[.bool false, .bool false, .bool sh, .bool false, .bool z, .int .i64 wid, .int .i64 prec, .int .i32 verb] 24)), x.w.cell? ⟨w.heap.size, 4, none⟩ = some (.bool z) := fun x => x.cell (by simp)
  have f5 : ∀ x : Cl (w.alloc (.cells #[.bool false, .bool false, .bool sh, .bool false, .bool z, .int .i64 wid, .int .i64 prec, .int .i32 verb] 24)), x.w.cell? ⟨w.heap.size, 5, none⟩ = some (.int .i64 wid) := fun x => x.cell (by simp)
  have f6 : ∀ x : Cl (w.alloc (.cells #[.bool false, .bool false, .bool sh, .bool false, .bool z, .int .i64 wid, .int .i64 prec, .int .i32 verb] 24)), x.w.cell? ⟨w.heap.size, 6, none⟩ = some (.int .i64 prec) := fun x => x.cell (by simp)
  have f7 : ∀ x : Cl (w.alloc (.cells #[.bool false, .bool false, .bool sh, .bool false, .bool z, .int .i64 wid, .int .i64 prec, .int .i32 verb] 24)), x.w.cell? ⟨w.heap.size, 7, none⟩ = some (.int .i32 verb) := fun x => x.cell (by simp)
  have hm1 : max 0 (min wid 1000) ≤ 1000 := by omega
  have hm2 : 0 ≤ max 0 (min wid 1000) := by omega
  go_enter Tryz.func3, Tryz.ntmps3
  go_wp2_with (first
    | (go_at_call 9; (with_reducible refine (hZ _).mono ?_); rintro x w2 ⟨rfl, rfl⟩)
    | (go_at_call 10; (with_reducible refine (hP _).mono ?_); rintro x w3 ⟨rfl, hb3⟩; obtain ⟨y3, rfl⟩ := Cl.start hb3)
    | (go_at_call 12; refine (hF _).mono ?_; rintro x w4 ⟨rfl, hb4⟩; obtain ⟨y4, rfl⟩ := Cl.next hb4)
    | (go_at_call 14; refine (hFi _).mono ?_; rintro x w5 ⟨rfl, hb5⟩; obtain ⟨y5, rfl⟩ := Cl.next hb5)
    | (go_at_call 11; refine (hL _).mono ?_; rintro x w6 ⟨rfl, hb6⟩; obtain ⟨y6, rfl⟩ := Cl.next hb6))
  go_ret
  exact ⟨rfl, bel_call hbA y6.below (Nat.le_refl _)⟩
set_option maxRecDepth 1000000 in
set_option maxHeartbeats 4000000 in
theorem odd_n01_true {bits m : Nat} {n x : Int} {b sg : Bool} {S N : ByteArray} (sh z : Bool) (wid prec verb : Int) (hZ : Si6 b n) (hP : PtC bits n sg m x 2) (hF : FlC bits n false true sh true z wid prec verb S true) (hFi : ∀ w, Calls Tryz.prog 14 #[.int .u8 32, .int .i64 (max 0 (min wid 1000) - 4)] w fun e w' => e = .returned (.string N) ∧ Below w.heap.size w w') (hS : (⟨#[32, 78, 97, 78]⟩ : ByteArray) ++ N = S) (z1 : ¬ 9223372036854775807 < (⟨#[32, 78, 97, 78]⟩ : ByteArray).size + N.size) (w : World) :
    Calls Tryz.prog 3 #[.int .u64 bits, .bool b, .agg #[.bool false, .bool true, .bool sh, .bool true, .bool z, .int .i64 wid, .int .i64 prec, .int .i32 verb]] w fun e w' => e = .returned (.bool true) ∧ Below w.heap.size w w' := by
  have hL := lives6_any
  have hbA : Below w.heap.size w (w.alloc (.cells #[.bool false, .bool true, .bool sh, .bool true, .bool z, .int .i64 wid, .int .i64 prec, .int .i32 verb] 24)) := (Below.refl _ _).alloc (Nat.le_refl _) _
  have f0 : ∀ x : Cl (w.alloc (.cells #[.bool false, .bool true, .bool sh, .bool true, .bool z, .int .i64 wid, .int .i64 prec, .int .i32 verb] 24)), x.w.cell? ⟨w.heap.size, 0, none⟩ = some (.bool false) := fun x => x.cell (by simp)
  have f1 : ∀ x : Cl (w.alloc (.cells #[.bool false, .bool true, .bool sh, .bool true, .bool z, .int .i64 wid, .int .i64 prec, .int .i32 verb] 24)), x.w.cell? ⟨w.heap.size, 1, none⟩ = some (.bool true) := fun x => x.cell (by simp)
  have f2 : ∀ x : Cl (w.alloc (.cells #[.bool false, .bool true, .bool sh, .bool true, .bool z, .int .i64 wid, .int .i64 prec, .int .i32 verb] 24)), x.w.cell? ⟨w.heap.size, 2, none⟩ = some (.bool sh) := fun x => x.cell (by simp)
  have f3 : ∀ x : Cl (w.alloc (.cells #[.bool false, .bool true, .bool sh, .bool true, .bool z, .int .i64 wid, .int .i64 prec, .int .i32 verb] 24)), x.w.cell? ⟨w.heap.size, 3, none⟩ = some (.bool true) := fun x => x.cell (by simp)
  have f4 : ∀ x : Cl (w.alloc (.cells #[.bool false, .bool true, .bool sh, .bool true, .bool z, .int .i64 wid, .int .i64 prec, .int .i32 verb] 24)), x.w.cell? ⟨w.heap.size, 4, none⟩ = some (.bool z) := fun x => x.cell (by simp)
  have f5 : ∀ x : Cl (w.alloc (.cells #[.bool false, .bool true, .bool sh, .bool true, .bool z, .int .i64 wid, .int .i64 prec, .int .i32 verb] 24)), x.w.cell? ⟨w.heap.size, 5, none⟩ = some (.int .i64 wid) := fun x => x.cell (by simp)
  have f6 : ∀ x : Cl (w.alloc (.cells #[.bool false, .bool true, .bool sh, .bool true, .bool z, .int .i64 wid, .int .i64 prec, .int .i32 verb] 24)), x.w.cell? ⟨w.heap.size, 6, none⟩ = some (.int .i64 prec) := fun x => x.cell (by simp)
  have f7 : ∀ x : Cl (w.alloc (.cells #[.bool false, .bool true, .bool sh, .bool true, .bool z, .int .i64 wid, .int .i64 prec, .int .i32 verb] 24)), x.w.cell? ⟨w.heap.size, 7, none⟩ = some (.int .i32 verb) := fun x => x.cell (by simp)
  have hm1 : max 0 (min wid 1000) ≤ 1000 := by omega
  have hm2 : 0 ≤ max 0 (min wid 1000) := by omega
  go_enter Tryz.func3, Tryz.ntmps3
  go_wp2_with (first
    | (go_at_call 9; (with_reducible refine (hZ _).mono ?_); rintro x w2 ⟨rfl, rfl⟩)
    | (go_at_call 10; (with_reducible refine (hP _).mono ?_); rintro x w3 ⟨rfl, hb3⟩; obtain ⟨y3, rfl⟩ := Cl.start hb3)
    | (go_at_call 12; refine (hF _).mono ?_; rintro x w4 ⟨rfl, hb4⟩; obtain ⟨y4, rfl⟩ := Cl.next hb4)
    | (go_at_call 14; refine (hFi _).mono ?_; rintro x w5 ⟨rfl, hb5⟩; obtain ⟨y5, rfl⟩ := Cl.next hb5)
    | (go_at_call 11; refine (hL _).mono ?_; rintro x w6 ⟨rfl, hb6⟩; obtain ⟨y6, rfl⟩ := Cl.next hb6))
  go_ret
  exact ⟨rfl, bel_call hbA y6.below (Nat.le_refl _)⟩
set_option maxRecDepth 1000000 in
set_option maxHeartbeats 4000000 in
theorem odd_n01_false {bits m : Nat} {n x : Int} {b sg : Bool} {S N : ByteArray} (sh z : Bool) (wid prec verb : Int) (hZ : Si6 b n) (hP : PtC bits n sg m x 2) (hF : FlC bits n false false sh true z wid prec verb S true) (hFi : ∀ w, Calls Tryz.prog 14 #[.int .u8 32, .int .i64 (max 0 (min wid 1000) - 4)] w fun e w' => e = .returned (.string N) ∧ Below w.heap.size w w') (hS : N ++ (⟨#[32, 78, 97, 78]⟩ : ByteArray) = S) (z1 : ¬ 9223372036854775807 < N.size + (⟨#[32, 78, 97, 78]⟩ : ByteArray).size) (w : World) :
    Calls Tryz.prog 3 #[.int .u64 bits, .bool b, .agg #[.bool false, .bool false, .bool sh, .bool true, .bool z, .int .i64 wid, .int .i64 prec, .int .i32 verb]] w fun e w' => e = .returned (.bool true) ∧ Below w.heap.size w w' := by
  have hL := lives6_any
  have hbA : Below w.heap.size w (w.alloc (.cells #[.bool false, .bool false, .bool sh, .bool true, .bool z, .int .i64 wid, .int .i64 prec, .int .i32 verb] 24)) := (Below.refl _ _).alloc (Nat.le_refl _) _
  have f0 : ∀ x : Cl (w.alloc (.cells #[.bool false, .bool false, .bool sh, .bool true, .bool z, .int .i64 wid, .int .i64 prec, .int .i32 verb] 24)), x.w.cell? ⟨w.heap.size, 0, none⟩ = some (.bool false) := fun x => x.cell (by simp)
  have f1 : ∀ x : Cl (w.alloc (.cells #[.bool false, .bool false, .bool sh, .bool true, .bool z, .int .i64 wid, .int .i64 prec, .int .i32 verb] 24)), x.w.cell? ⟨w.heap.size, 1, none⟩ = some (.bool false) := fun x => x.cell (by simp)
  have f2 : ∀ x : Cl (w.alloc (.cells #[.bool false, .bool false, .bool sh, .bool true, .bool z, .int .i64 wid, .int .i64 prec, .int .i32 verb] 24)), x.w.cell? ⟨w.heap.size, 2, none⟩ = some (.bool sh) := fun x => x.cell (by simp)
  have f3 : ∀ x : Cl (w.alloc (.cells #[.bool false, .bool false, .bool sh, .bool true, .bool z, .int .i64 wid, .int .i64 prec, .int .i32 verb] 24)), x.w.cell? ⟨w.heap.size, 3, none⟩ = some (.bool true) := fun x => x.cell (by simp)
  have f4 : ∀ x : Cl (w.alloc (.cells #[.bool false, .bool false, .bool sh, .bool true, .bool z, .int .i64 wid, .int .i64 prec, .int .i32 verb] 24)), x.w.cell? ⟨w.heap.size, 4, none⟩ = some (.bool z) := fun x => x.cell (by simp)
  have f5 : ∀ x : Cl (w.alloc (.cells #[.bool false, .bool false, .bool sh, .bool true, .bool z, .int .i64 wid, .int .i64 prec, .int .i32 verb] 24)), x.w.cell? ⟨w.heap.size, 5, none⟩ = some (.int .i64 wid) := fun x => x.cell (by simp)
  have f6 : ∀ x : Cl (w.alloc (.cells #[.bool false, .bool false, .bool sh, .bool true, .bool z, .int .i64 wid, .int .i64 prec, .int .i32 verb] 24)), x.w.cell? ⟨w.heap.size, 6, none⟩ = some (.int .i64 prec) := fun x => x.cell (by simp)
  have f7 : ∀ x : Cl (w.alloc (.cells #[.bool false, .bool false, .bool sh, .bool true, .bool z, .int .i64 wid, .int .i64 prec, .int .i32 verb] 24)), x.w.cell? ⟨w.heap.size, 7, none⟩ = some (.int .i32 verb) := fun x => x.cell (by simp)
  have hm1 : max 0 (min wid 1000) ≤ 1000 := by omega
  have hm2 : 0 ≤ max 0 (min wid 1000) := by omega
  go_enter Tryz.func3, Tryz.ntmps3
  go_wp2_with (first
    | (go_at_call 9; (with_reducible refine (hZ _).mono ?_); rintro x w2 ⟨rfl, rfl⟩)
    | (go_at_call 10; (with_reducible refine (hP _).mono ?_); rintro x w3 ⟨rfl, hb3⟩; obtain ⟨y3, rfl⟩ := Cl.start hb3)
    | (go_at_call 12; refine (hF _).mono ?_; rintro x w4 ⟨rfl, hb4⟩; obtain ⟨y4, rfl⟩ := Cl.next hb4)
    | (go_at_call 14; refine (hFi _).mono ?_; rintro x w5 ⟨rfl, hb5⟩; obtain ⟨y5, rfl⟩ := Cl.next hb5)
    | (go_at_call 11; refine (hL _).mono ?_; rintro x w6 ⟨rfl, hb6⟩; obtain ⟨y6, rfl⟩ := Cl.next hb6))
  go_ret
  exact ⟨rfl, bel_call hbA y6.below (Nat.le_refl _)⟩
set_option maxRecDepth 1000000 in
set_option maxHeartbeats 4000000 in
theorem odd_n10_true {bits m : Nat} {n x : Int} {b sg : Bool} {S N : ByteArray} (sh z : Bool) (wid prec verb : Int) (hZ : Si6 b n) (hP : PtC bits n sg m x 2) (hF : FlC bits n true true sh false z wid prec verb S true) (hFi : ∀ w, Calls Tryz.prog 14 #[.int .u8 32, .int .i64 (max 0 (min wid 1000) - 4)] w fun e w' => e = .returned (.string N) ∧ Below w.heap.size w w') (hS : (⟨#[43, 78, 97, 78]⟩ : ByteArray) ++ N = S) (z1 : ¬ 9223372036854775807 < (⟨#[43, 78, 97, 78]⟩ : ByteArray).size + N.size) (w : World) :
    Calls Tryz.prog 3 #[.int .u64 bits, .bool b, .agg #[.bool true, .bool true, .bool sh, .bool false, .bool z, .int .i64 wid, .int .i64 prec, .int .i32 verb]] w fun e w' => e = .returned (.bool true) ∧ Below w.heap.size w w' := by
  have hL := lives6_any
  have hbA : Below w.heap.size w (w.alloc (.cells #[.bool true, .bool true, .bool sh, .bool false, .bool z, .int .i64 wid, .int .i64 prec, .int .i32 verb] 24)) := (Below.refl _ _).alloc (Nat.le_refl _) _
  have f0 : ∀ x : Cl (w.alloc (.cells #[.bool true, .bool true, .bool sh, .bool false, .bool z, .int .i64 wid, .int .i64 prec, .int .i32 verb] 24)), x.w.cell? ⟨w.heap.size, 0, none⟩ = some (.bool true) := fun x => x.cell (by simp)
  have f1 : ∀ x : Cl (w.alloc (.cells #[.bool true, .bool true, .bool sh, .bool false, .bool z, .int .i64 wid, .int .i64 prec, .int .i32 verb] 24)), x.w.cell? ⟨w.heap.size, 1, none⟩ = some (.bool true) := fun x => x.cell (by simp)
  have f2 : ∀ x : Cl (w.alloc (.cells #[.bool true, .bool true, .bool sh, .bool false, .bool z, .int .i64 wid, .int .i64 prec, .int .i32 verb] 24)), x.w.cell? ⟨w.heap.size, 2, none⟩ = some (.bool sh) := fun x => x.cell (by simp)
  have f3 : ∀ x : Cl (w.alloc (.cells #[.bool true, .bool true, .bool sh, .bool false, .bool z, .int .i64 wid, .int .i64 prec, .int .i32 verb] 24)), x.w.cell? ⟨w.heap.size, 3, none⟩ = some (.bool false) := fun x => x.cell (by simp)
  have f4 : ∀ x : Cl (w.alloc (.cells #[.bool true, .bool true, .bool sh, .bool false, .bool z, .int .i64 wid, .int .i64 prec, .int .i32 verb] 24)), x.w.cell? ⟨w.heap.size, 4, none⟩ = some (.bool z) := fun x => x.cell (by simp)
  have f5 : ∀ x : Cl (w.alloc (.cells #[.bool true, .bool true, .bool sh, .bool false, .bool z, .int .i64 wid, .int .i64 prec, .int .i32 verb] 24)), x.w.cell? ⟨w.heap.size, 5, none⟩ = some (.int .i64 wid) := fun x => x.cell (by simp)
  have f6 : ∀ x : Cl (w.alloc (.cells #[.bool true, .bool true, .bool sh, .bool false, .bool z, .int .i64 wid, .int .i64 prec, .int .i32 verb] 24)), x.w.cell? ⟨w.heap.size, 6, none⟩ = some (.int .i64 prec) := fun x => x.cell (by simp)
  have f7 : ∀ x : Cl (w.alloc (.cells #[.bool true, .bool true, .bool sh, .bool false, .bool z, .int .i64 wid, .int .i64 prec, .int .i32 verb] 24)), x.w.cell? ⟨w.heap.size, 7, none⟩ = some (.int .i32 verb) := fun x => x.cell (by simp)
  have hm1 : max 0 (min wid 1000) ≤ 1000 := by omega
  have hm2 : 0 ≤ max 0 (min wid 1000) := by omega
  go_enter Tryz.func3, Tryz.ntmps3
  go_wp2_with (first
    | (go_at_call 9; (with_reducible refine (hZ _).mono ?_); rintro x w2 ⟨rfl, rfl⟩)
    | (go_at_call 10; (with_reducible refine (hP _).mono ?_); rintro x w3 ⟨rfl, hb3⟩; obtain ⟨y3, rfl⟩ := Cl.start hb3)
    | (go_at_call 12; refine (hF _).mono ?_; rintro x w4 ⟨rfl, hb4⟩; obtain ⟨y4, rfl⟩ := Cl.next hb4)
    | (go_at_call 14; refine (hFi _).mono ?_; rintro x w5 ⟨rfl, hb5⟩; obtain ⟨y5, rfl⟩ := Cl.next hb5)
    | (go_at_call 11; refine (hL _).mono ?_; rintro x w6 ⟨rfl, hb6⟩; obtain ⟨y6, rfl⟩ := Cl.next hb6))
  go_ret
  exact ⟨rfl, bel_call hbA y6.below (Nat.le_refl _)⟩
set_option maxRecDepth 1000000 in
set_option maxHeartbeats 4000000 in
theorem odd_n10_false {bits m : Nat} {n x : Int} {b sg : Bool} {S N : ByteArray} (sh z : Bool) (wid prec verb : Int) (hZ : Si6 b n) (hP : PtC bits n sg m x 2) (hF : FlC bits n true false sh false z wid prec verb S true) (hFi : ∀ w, Calls Tryz.prog 14 #[.int .u8 32, .int .i64 (max 0 (min wid 1000) - 4)] w fun e w' => e = .returned (.string N) ∧ Below w.heap.size w w') (hS : N ++ (⟨#[43, 78, 97, 78]⟩ : ByteArray) = S) (z1 : ¬ 9223372036854775807 < N.size + (⟨#[43, 78, 97, 78]⟩ : ByteArray).size) (w : World) :
    Calls Tryz.prog 3 #[.int .u64 bits, .bool b, .agg #[.bool true, .bool false, .bool sh, .bool false, .bool z, .int .i64 wid, .int .i64 prec, .int .i32 verb]] w fun e w' => e = .returned (.bool true) ∧ Below w.heap.size w w' := by
  have hL := lives6_any
  have hbA : Below w.heap.size w (w.alloc (.cells #[.bool true, .bool false, .bool sh, .bool false, .bool z, .int .i64 wid, .int .i64 prec, .int .i32 verb] 24)) := (Below.refl _ _).alloc (Nat.le_refl _) _
  have f0 : ∀ x : Cl (w.alloc (.cells #[.bool true, .bool false, .bool sh, .bool false, .bool z, .int .i64 wid, .int .i64 prec, .int .i32 verb] 24)), x.w.cell? ⟨w.heap.size, 0, none⟩ = some (.bool true) := fun x => x.cell (by simp)
  have f1 : ∀ x : Cl (w.alloc (.cells #[.bool true, .bool false, .bool sh, .bool false, .bool z, .int .i64 wid, .int .i64 prec, .int .i32 verb] 24)), x.w.cell? ⟨w.heap.size, 1, none⟩ = some (.bool false) := fun x => x.cell (by simp)
  have f2 : ∀ x : Cl (w.alloc (.cells #[.bool true, .bool false, .bool sh, .bool false, .bool z, .int .i64 wid, .int .i64 prec, .int .i32 verb] 24)), x.w.cell? ⟨w.heap.size, 2, none⟩ = some (.bool sh) := fun x => x.cell (by simp)
  have f3 : ∀ x : Cl (w.alloc (.cells #[.bool true, .bool false, .bool sh, .bool false, .bool z, .int .i64 wid, .int .i64 prec, .int .i32 verb] 24)), x.w.cell? ⟨w.heap.size, 3, none⟩ = some (.bool false) := fun x => x.cell (by simp)
  have f4 : ∀ x : Cl (w.alloc (.cells #[.bool true, .bool false, .bool sh, .bool false, .bool z, .int .i64 wid, .int .i64 prec, .int .i32 verb] 24)), x.w.cell? ⟨w.heap.size, 4, none⟩ = some (.bool z) := fun x => x.cell (by simp)
  have f5 : ∀ x : Cl (w.alloc (.cells #[.bool true, .bool false, .bool sh, .bool false, .bool z, .int .i64 wid, .int .i64 prec, .int .i32 verb] 24)), x.w.cell? ⟨w.heap.size, 5, none⟩ = some (.int .i64 wid) := fun x => x.cell (by simp)
  have f6 : ∀ x : Cl (w.alloc (.cells #[.bool true, .bool false, .bool sh, .bool false, .bool z, .int .i64 wid, .int .i64 prec, .int .i32 verb] 24)), x.w.cell? ⟨w.heap.size, 6, none⟩ = some (.int .i64 prec) := fun x => x.cell (by simp)
  have f7 : ∀ x : Cl (w.alloc (.cells #[.bool true, .bool false, .bool sh, .bool false, .bool z, .int .i64 wid, .int .i64 prec, .int .i32 verb] 24)), x.w.cell? ⟨w.heap.size, 7, none⟩ = some (.int .i32 verb) := fun x => x.cell (by simp)
  have hm1 : max 0 (min wid 1000) ≤ 1000 := by omega
  have hm2 : 0 ≤ max 0 (min wid 1000) := by omega
  go_enter Tryz.func3, Tryz.ntmps3
  go_wp2_with (first
    | (go_at_call 9; (with_reducible refine (hZ _).mono ?_); rintro x w2 ⟨rfl, rfl⟩)
    | (go_at_call 10; (with_reducible refine (hP _).mono ?_); rintro x w3 ⟨rfl, hb3⟩; obtain ⟨y3, rfl⟩ := Cl.start hb3)
    | (go_at_call 12; refine (hF _).mono ?_; rintro x w4 ⟨rfl, hb4⟩; obtain ⟨y4, rfl⟩ := Cl.next hb4)
    | (go_at_call 14; refine (hFi _).mono ?_; rintro x w5 ⟨rfl, hb5⟩; obtain ⟨y5, rfl⟩ := Cl.next hb5)
    | (go_at_call 11; refine (hL _).mono ?_; rintro x w6 ⟨rfl, hb6⟩; obtain ⟨y6, rfl⟩ := Cl.next hb6))
  go_ret
  exact ⟨rfl, bel_call hbA y6.below (Nat.le_refl _)⟩
set_option maxRecDepth 1000000 in
set_option maxHeartbeats 4000000 in
theorem odd_n11_true {bits m : Nat} {n x : Int} {b sg : Bool} {S N : ByteArray} (sh z : Bool) (wid prec verb : Int) (hZ : Si6 b n) (hP : PtC bits n sg m x 2) (hF : FlC bits n true true sh true z wid prec verb S true) (hFi : ∀ w, Calls Tryz.prog 14 #[.int .u8 32, .int .i64 (max 0 (min wid 1000) - 4)] w fun e w' => e = .returned (.string N) ∧ Below w.heap.size w w') (hS : (⟨#[43, 78, 97, 78]⟩ : ByteArray) ++ N = S) (z1 : ¬ 9223372036854775807 < (⟨#[43, 78, 97, 78]⟩ : ByteArray).size + N.size) (w : World) :
    Calls Tryz.prog 3 #[.int .u64 bits, .bool b, .agg #[.bool true, .bool true, .bool sh, .bool true, .bool z, .int .i64 wid, .int .i64 prec, .int .i32 verb]] w fun e w' => e = .returned (.bool true) ∧ Below w.heap.size w w' := by
  have hL := lives6_any
  have hbA : Below w.heap.size w (w.alloc (.cells #[.bool true, .bool true, .bool sh, .bool true, .bool z, .int .i64 wid, .int .i64 prec, .int .i32 verb] 24)) := (Below.refl _ _).alloc (Nat.le_refl _) _
  have f0 : ∀ x : Cl (w.alloc (.cells #[.bool true, .bool true, .bool sh, .bool true, .bool z, .int .i64 wid, .int .i64 prec, .int .i32 verb] 24)), x.w.cell? ⟨w.heap.size, 0, none⟩ = some (.bool true) := fun x => x.cell (by simp)
  have f1 : ∀ x : Cl (w.alloc (.cells #[.bool true, .bool true, .bool sh, .bool true, .bool z, .int .i64 wid, .int .i64 prec, .int .i32 verb] 24)), x.w.cell? ⟨w.heap.size, 1, none⟩ = some (.bool true) := fun x => x.cell (by simp)
  have f2 : ∀ x : Cl (w.alloc (.cells #[.bool true, .bool true, .bool sh, .bool true, .bool z, .int .i64 wid, .int .i64 prec, .int .i32 verb] 24)), x.w.cell? ⟨w.heap.size, 2, none⟩ = some (.bool sh) := fun x => x.cell (by simp)
  have f3 : ∀ x : Cl (w.alloc (.cells #[.bool true, .bool true, .bool sh, .bool true, .bool z, .int .i64 wid, .int .i64 prec, .int .i32 verb] 24)), x.w.cell? ⟨w.heap.size, 3, none⟩ = some (.bool true) := fun x => x.cell (by simp)
  have f4 : ∀ x : Cl (w.alloc (.cells #[.bool true, .bool true, .bool sh, .bool true, .bool z, .int .i64 wid, .int .i64 prec, .int .i32 verb] 24)), x.w.cell? ⟨w.heap.size, 4, none⟩ = some (.bool z) := fun x => x.cell (by simp)
  have f5 : ∀ x : Cl (w.alloc (.cells #[.bool true, .bool true, .bool sh, .bool true, .bool z, .int .i64 wid, .int .i64 prec, .int .i32 verb] 24)), x.w.cell? ⟨w.heap.size, 5, none⟩ = some (.int .i64 wid) := fun x => x.cell (by simp)
  have f6 : ∀ x : Cl (w.alloc (.cells #[.bool true, .bool true, .bool sh, .bool true, .bool z, .int .i64 wid, .int .i64 prec, .int .i32 verb] 24)), x.w.cell? ⟨w.heap.size, 6, none⟩ = some (.int .i64 prec) := fun x => x.cell (by simp)
  have f7 : ∀ x : Cl (w.alloc (.cells #[.bool true, .bool true, .bool sh, .bool true, .bool z, .int .i64 wid, .int .i64 prec, .int .i32 verb] 24)), x.w.cell? ⟨w.heap.size, 7, none⟩ = some (.int .i32 verb) := fun x => x.cell (by simp)
  have hm1 : max 0 (min wid 1000) ≤ 1000 := by omega
  have hm2 : 0 ≤ max 0 (min wid 1000) := by omega
  go_enter Tryz.func3, Tryz.ntmps3
  go_wp2_with (first
    | (go_at_call 9; (with_reducible refine (hZ _).mono ?_); rintro x w2 ⟨rfl, rfl⟩)
    | (go_at_call 10; (with_reducible refine (hP _).mono ?_); rintro x w3 ⟨rfl, hb3⟩; obtain ⟨y3, rfl⟩ := Cl.start hb3)
    | (go_at_call 12; refine (hF _).mono ?_; rintro x w4 ⟨rfl, hb4⟩; obtain ⟨y4, rfl⟩ := Cl.next hb4)
    | (go_at_call 14; refine (hFi _).mono ?_; rintro x w5 ⟨rfl, hb5⟩; obtain ⟨y5, rfl⟩ := Cl.next hb5)
    | (go_at_call 11; refine (hL _).mono ?_; rintro x w6 ⟨rfl, hb6⟩; obtain ⟨y6, rfl⟩ := Cl.next hb6))
  go_ret
  exact ⟨rfl, bel_call hbA y6.below (Nat.le_refl _)⟩
set_option maxRecDepth 1000000 in
set_option maxHeartbeats 4000000 in
theorem odd_n11_false {bits m : Nat} {n x : Int} {b sg : Bool} {S N : ByteArray} (sh z : Bool) (wid prec verb : Int) (hZ : Si6 b n) (hP : PtC bits n sg m x 2) (hF : FlC bits n true false sh true z wid prec verb S true) (hFi : ∀ w, Calls Tryz.prog 14 #[.int .u8 32, .int .i64 (max 0 (min wid 1000) - 4)] w fun e w' => e = .returned (.string N) ∧ Below w.heap.size w w') (hS : N ++ (⟨#[43, 78, 97, 78]⟩ : ByteArray) = S) (z1 : ¬ 9223372036854775807 < N.size + (⟨#[43, 78, 97, 78]⟩ : ByteArray).size) (w : World) :
    Calls Tryz.prog 3 #[.int .u64 bits, .bool b, .agg #[.bool true, .bool false, .bool sh, .bool true, .bool z, .int .i64 wid, .int .i64 prec, .int .i32 verb]] w fun e w' => e = .returned (.bool true) ∧ Below w.heap.size w w' := by
  have hL := lives6_any
  have hbA : Below w.heap.size w (w.alloc (.cells #[.bool true, .bool false, .bool sh, .bool true, .bool z, .int .i64 wid, .int .i64 prec, .int .i32 verb] 24)) := (Below.refl _ _).alloc (Nat.le_refl _) _
  have f0 : ∀ x : Cl (w.alloc (.cells #[.bool true, .bool false, .bool sh, .bool true, .bool z, .int .i64 wid, .int .i64 prec, .int .i32 verb] 24)), x.w.cell? ⟨w.heap.size, 0, none⟩ = some (.bool true) := fun x => x.cell (by simp)
  have f1 : ∀ x : Cl (w.alloc (.cells #[.bool true, .bool false, .bool sh, .bool true, .bool z, .int .i64 wid, .int .i64 prec, .int .i32 verb] 24)), x.w.cell? ⟨w.heap.size, 1, none⟩ = some (.bool false) := fun x => x.cell (by simp)
  have f2 : ∀ x : Cl (w.alloc (.cells #[.bool true, .bool false, .bool sh, .bool true, .bool z, .int .i64 wid, .int .i64 prec, .int .i32 verb] 24)), x.w.cell? ⟨w.heap.size, 2, none⟩ = some (.bool sh) := fun x => x.cell (by simp)
  have f3 : ∀ x : Cl (w.alloc (.cells #[.bool true, .bool false, .bool sh, .bool true, .bool z, .int .i64 wid, .int .i64 prec, .int .i32 verb] 24)), x.w.cell? ⟨w.heap.size, 3, none⟩ = some (.bool true) := fun x => x.cell (by simp)
  have f4 : ∀ x : Cl (w.alloc (.cells #[.bool true, .bool false, .bool sh, .bool true, .bool z, .int .i64 wid, .int .i64 prec, .int .i32 verb] 24)), x.w.cell? ⟨w.heap.size, 4, none⟩ = some (.bool z) := fun x => x.cell (by simp)
  have f5 : ∀ x : Cl (w.alloc (.cells #[.bool true, .bool false, .bool sh, .bool true, .bool z, .int .i64 wid, .int .i64 prec, .int .i32 verb] 24)), x.w.cell? ⟨w.heap.size, 5, none⟩ = some (.int .i64 wid) := fun x => x.cell (by simp)
  have f6 : ∀ x : Cl (w.alloc (.cells #[.bool true, .bool false, .bool sh, .bool true, .bool z, .int .i64 wid, .int .i64 prec, .int .i32 verb] 24)), x.w.cell? ⟨w.heap.size, 6, none⟩ = some (.int .i64 prec) := fun x => x.cell (by simp)
  have f7 : ∀ x : Cl (w.alloc (.cells #[.bool true, .bool false, .bool sh, .bool true, .bool z, .int .i64 wid, .int .i64 prec, .int .i32 verb] 24)), x.w.cell? ⟨w.heap.size, 7, none⟩ = some (.int .i32 verb) := fun x => x.cell (by simp)
  have hm1 : max 0 (min wid 1000) ≤ 1000 := by omega
  have hm2 : 0 ≤ max 0 (min wid 1000) := by omega
  go_enter Tryz.func3, Tryz.ntmps3
  go_wp2_with (first
    | (go_at_call 9; (with_reducible refine (hZ _).mono ?_); rintro x w2 ⟨rfl, rfl⟩)
    | (go_at_call 10; (with_reducible refine (hP _).mono ?_); rintro x w3 ⟨rfl, hb3⟩; obtain ⟨y3, rfl⟩ := Cl.start hb3)
    | (go_at_call 12; refine (hF _).mono ?_; rintro x w4 ⟨rfl, hb4⟩; obtain ⟨y4, rfl⟩ := Cl.next hb4)
    | (go_at_call 14; refine (hFi _).mono ?_; rintro x w5 ⟨rfl, hb5⟩; obtain ⟨y5, rfl⟩ := Cl.next hb5)
    | (go_at_call 11; refine (hL _).mono ?_; rintro x w6 ⟨rfl, hb6⟩; obtain ⟨y6, rfl⟩ := Cl.next hb6))
  go_ret
  exact ⟨rfl, bel_call hbA y6.below (Nat.le_refl _)⟩
end Go.Proofs.YtkeoafidgfmhlabGreatDoor
