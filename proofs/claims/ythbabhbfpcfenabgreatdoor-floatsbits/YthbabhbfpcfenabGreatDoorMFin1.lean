/- The document's Float at a finite number, with noughts. -/
import Derived.Test.YthbabhbfpcfenabGreatDoorPkM12
namespace Go.Proofs.YthbabhbfpcfenabGreatDoor
open Go.RowKit
set_option linter.unusedVariables false
set_option linter.unusedSimpArgs false

set_option maxRecDepth 1000000 in
set_option maxHeartbeats 4000000 in
theorem mfa_fff {bits m : Nat} {size x q : Int} {T N L F R : ByteArray} (sh : Bool) (wid prec verb : Int) (hV : MvC verb true) (hP : KpC bits size false m x 0) (hB : BaC bits size m x false false sh false true wid prec verb T) (hT : (T.size : Int) ≤ 200000) (hW : WdC wid q) (hq1 : q ≤ 1000) (hq0 : -1 ≤ q)
    (hZ : ∀ w, Calls Tryz.prog 66 #[.int .i64 (q - (T.size : Nat))] w fun e w' => e = .returned (.string N) ∧ w' = w) (he : N ++ T = L) (z1 : ¬ 9223372036854775807 < N.size + T.size) (hF : (⟨#[]⟩ : ByteArray) ++ L = F) (z2 : ¬ 9223372036854775807 < (⟨#[]⟩ : ByteArray).size + L.size)
    (hPl : ∀ w, Calls Tryz.prog 64 #[.string F, .agg #[.bool false, .bool false, .bool sh, .bool false, .bool true, .int .i64 wid, .int .i64 prec, .int .i32 verb]] w fun e w' => e = .returned (.string R) ∧ Below w.heap.size w w') : MfC bits size false false sh false true wid prec verb R true := fun w => by
  have hbA : Below w.heap.size w (w.alloc (.cells #[.bool false, .bool false, .bool sh, .bool false, .bool true, .int .i64 wid, .int .i64 prec, .int .i32 verb] 35)) := (Below.refl _ _).alloc (Nat.le_refl _) _
  have f0 : ∀ x : Cl (w.alloc (.cells #[.bool false, .bool false, .bool sh, .bool false, .bool true, .int .i64 wid, .int .i64 prec, .int .i32 verb] 35)), x.w.cell? ⟨w.heap.size, 0, none⟩ = some (.bool false) := fun x => x.cell (by simp)
  have f1 : ∀ x : Cl (w.alloc (.cells #[.bool false, .bool false, .bool sh, .bool false, .bool true, .int .i64 wid, .int .i64 prec, .int .i32 verb] 35)), x.w.cell? ⟨w.heap.size, 1, none⟩ = some (.bool false) := fun x => x.cell (by simp)
  have f2 : ∀ x : Cl (w.alloc (.cells #[.bool false, .bool false, .bool sh, .bool false, .bool true, .int .i64 wid, .int .i64 prec, .int .i32 verb] 35)), x.w.cell? ⟨w.heap.size, 2, none⟩ = some (.bool sh) := fun x => x.cell (by simp)
  have f3 : ∀ x : Cl (w.alloc (.cells #[.bool false, .bool false, .bool sh, .bool false, .bool true, .int .i64 wid, .int .i64 prec, .int .i32 verb] 35)), x.w.cell? ⟨w.heap.size, 3, none⟩ = some (.bool false) := fun x => x.cell (by simp)
  have f4 : ∀ x : Cl (w.alloc (.cells #[.bool false, .bool false, .bool sh, .bool false, .bool true, .int .i64 wid, .int .i64 prec, .int .i32 verb] 35)), x.w.cell? ⟨w.heap.size, 4, none⟩ = some (.bool true) := fun x => x.cell (by simp)
  have f5 : ∀ x : Cl (w.alloc (.cells #[.bool false, .bool false, .bool sh, .bool false, .bool true, .int .i64 wid, .int .i64 prec, .int .i32 verb] 35)), x.w.cell? ⟨w.heap.size, 5, none⟩ = some (.int .i64 wid) := fun x => x.cell (by simp)
  have f6 : ∀ x : Cl (w.alloc (.cells #[.bool false, .bool false, .bool sh, .bool false, .bool true, .int .i64 wid, .int .i64 prec, .int .i32 verb] 35)), x.w.cell? ⟨w.heap.size, 6, none⟩ = some (.int .i64 prec) := fun x => x.cell (by simp)
  have f7 : ∀ x : Cl (w.alloc (.cells #[.bool false, .bool false, .bool sh, .bool false, .bool true, .int .i64 wid, .int .i64 prec, .int .i32 verb] 35)), x.w.cell? ⟨w.heap.size, 7, none⟩ = some (.int .i32 verb) := fun x => x.cell (by simp)
  go_enter Tryz.func33, Tryz.ntmps33
  go_wp2_with (first
    | (go_at_call 23; (with_reducible refine (hP _).mono ?_); rintro x w0 ⟨rfl, hb0⟩; obtain ⟨y0, rfl⟩ := Cl.start hb0)
    | (go_at_call 63; (with_reducible refine (hV _).mono ?_); rintro x w3 ⟨rfl, hb3⟩; obtain ⟨y3, rfl⟩ := Cl.next hb3)
    | (go_at_call 65; (with_reducible refine (hB _).mono ?_); rintro x w4 ⟨rfl, hb4⟩; obtain ⟨y4, rfl⟩ := Cl.next hb4)
    | (go_at_call 67; (with_reducible refine (hW _).mono ?_); rintro x w2 ⟨rfl, rfl⟩)
    | (go_at_call 66; (with_reducible refine (hZ _).mono ?_); rintro x w2 ⟨rfl, rfl⟩)
    | (go_at_call 64; (with_reducible refine (hPl _).mono ?_); rintro x w5 ⟨rfl, hb5⟩; obtain ⟨y5, rfl⟩ := Cl.next hb5))
  go_returns
  exact ⟨rfl, bel_call hbA y5.below (Nat.le_refl _)⟩
set_option maxRecDepth 1000000 in
set_option maxHeartbeats 4000000 in
theorem mfa_fft {bits m : Nat} {size x q : Int} {T N L F R : ByteArray} (sh : Bool) (wid prec verb : Int) (hV : MvC verb true) (hP : KpC bits size false m x 0) (hB : BaC bits size m x false false sh true true wid prec verb T) (hT : (T.size : Int) ≤ 200000) (hW : WdC wid q) (hq1 : q ≤ 1000) (hq0 : -1 ≤ q)
    (hZ : ∀ w, Calls Tryz.prog 66 #[.int .i64 (q - 1 - (T.size : Nat))] w fun e w' => e = .returned (.string N) ∧ w' = w) (he : N ++ T = L) (z1 : ¬ 9223372036854775807 < N.size + T.size) (hF : (⟨#[32]⟩ : ByteArray) ++ L = F) (z2 : ¬ 9223372036854775807 < (⟨#[32]⟩ : ByteArray).size + L.size)
    (hPl : ∀ w, Calls Tryz.prog 64 #[.string F, .agg #[.bool false, .bool false, .bool sh, .bool true, .bool true, .int .i64 wid, .int .i64 prec, .int .i32 verb]] w fun e w' => e = .returned (.string R) ∧ Below w.heap.size w w') : MfC bits size false false sh true true wid prec verb R true := fun w => by
  have hbA : Below w.heap.size w (w.alloc (.cells #[.bool false, .bool false, .bool sh, .bool true, .bool true, .int .i64 wid, .int .i64 prec, .int .i32 verb] 35)) := (Below.refl _ _).alloc (Nat.le_refl _) _
  have f0 : ∀ x : Cl (w.alloc (.cells #[.bool false, .bool false, .bool sh, .bool true, .bool true, .int .i64 wid, .int .i64 prec, .int .i32 verb] 35)), x.w.cell? ⟨w.heap.size, 0, none⟩ = some (.bool false) := fun x => x.cell (by simp)
  have f1 : ∀ x : Cl (w.alloc (.cells #[.bool false, .bool false, .bool sh, .bool true, .bool true, .int .i64 wid, .int .i64 prec, .int .i32 verb] 35)), x.w.cell? ⟨w.heap.size, 1, none⟩ = some (.bool false) := fun x => x.cell (by simp)
  have f2 : ∀ x : Cl (w.alloc (.cells #[.bool false, .bool false, .bool sh, .bool true, .bool true, .int .i64 wid, .int .i64 prec, .int .i32 verb] 35)), x.w.cell? ⟨w.heap.size, 2, none⟩ = some (.bool sh) := fun x => x.cell (by simp)
  have f3 : ∀ x : Cl (w.alloc (.cells #[.bool false, .bool false, .bool sh, .bool true, .bool true, .int .i64 wid, .int .i64 prec, .int .i32 verb] 35)), x.w.cell? ⟨w.heap.size, 3, none⟩ = some (.bool true) := fun x => x.cell (by simp)
  have f4 : ∀ x : Cl (w.alloc (.cells #[.bool false, .bool false, .bool sh, .bool true, .bool true, .int .i64 wid, .int .i64 prec, .int .i32 verb] 35)), x.w.cell? ⟨w.heap.size, 4, none⟩ = some (.bool true) := fun x => x.cell (by simp)
  have f5 : ∀ x : Cl (w.alloc (.cells #[.bool false, .bool false, .bool sh, .bool true, .bool true, .int .i64 wid, .int .i64 prec, .int .i32 verb] 35)), x.w.cell? ⟨w.heap.size, 5, none⟩ = some (.int .i64 wid) := fun x => x.cell (by simp)
  have f6 : ∀ x : Cl (w.alloc (.cells #[.bool false, .bool false, .bool sh, .bool true, .bool true, .int .i64 wid, .int .i64 prec, .int .i32 verb] 35)), x.w.cell? ⟨w.heap.size, 6, none⟩ = some (.int .i64 prec) := fun x => x.cell (by simp)
  have f7 : ∀ x : Cl (w.alloc (.cells #[.bool false, .bool false, .bool sh, .bool true, .bool true, .int .i64 wid, .int .i64 prec, .int .i32 verb] 35)), x.w.cell? ⟨w.heap.size, 7, none⟩ = some (.int .i32 verb) := fun x => x.cell (by simp)
  go_enter Tryz.func33, Tryz.ntmps33
  go_wp2_with (first
    | (go_at_call 23; (with_reducible refine (hP _).mono ?_); rintro x w0 ⟨rfl, hb0⟩; obtain ⟨y0, rfl⟩ := Cl.start hb0)
    | (go_at_call 63; (with_reducible refine (hV _).mono ?_); rintro x w3 ⟨rfl, hb3⟩; obtain ⟨y3, rfl⟩ := Cl.next hb3)
    | (go_at_call 65; (with_reducible refine (hB _).mono ?_); rintro x w4 ⟨rfl, hb4⟩; obtain ⟨y4, rfl⟩ := Cl.next hb4)
    | (go_at_call 67; (with_reducible refine (hW _).mono ?_); rintro x w2 ⟨rfl, rfl⟩)
    | (go_at_call 66; (with_reducible refine (hZ _).mono ?_); rintro x w2 ⟨rfl, rfl⟩)
    | (go_at_call 64; (with_reducible refine (hPl _).mono ?_); rintro x w5 ⟨rfl, hb5⟩; obtain ⟨y5, rfl⟩ := Cl.next hb5))
  go_returns
  exact ⟨rfl, bel_call hbA y5.below (Nat.le_refl _)⟩
set_option maxRecDepth 1000000 in
set_option maxHeartbeats 4000000 in
theorem mfa_ftf {bits m : Nat} {size x q : Int} {T N L F R : ByteArray} (sh : Bool) (wid prec verb : Int) (hV : MvC verb true) (hP : KpC bits size false m x 0) (hB : BaC bits size m x true false sh false true wid prec verb T) (hT : (T.size : Int) ≤ 200000) (hW : WdC wid q) (hq1 : q ≤ 1000) (hq0 : -1 ≤ q)
    (hZ : ∀ w, Calls Tryz.prog 66 #[.int .i64 (q - 1 - (T.size : Nat))] w fun e w' => e = .returned (.string N) ∧ w' = w) (he : N ++ T = L) (z1 : ¬ 9223372036854775807 < N.size + T.size) (hF : (⟨#[43]⟩ : ByteArray) ++ L = F) (z2 : ¬ 9223372036854775807 < (⟨#[43]⟩ : ByteArray).size + L.size)
    (hPl : ∀ w, Calls Tryz.prog 64 #[.string F, .agg #[.bool true, .bool false, .bool sh, .bool false, .bool true, .int .i64 wid, .int .i64 prec, .int .i32 verb]] w fun e w' => e = .returned (.string R) ∧ Below w.heap.size w w') : MfC bits size true false sh false true wid prec verb R true := fun w => by
  have hbA : Below w.heap.size w (w.alloc (.cells #[.bool true, .bool false, .bool sh, .bool false, .bool true, .int .i64 wid, .int .i64 prec, .int .i32 verb] 35)) := (Below.refl _ _).alloc (Nat.le_refl _) _
  have f0 : ∀ x : Cl (w.alloc (.cells #[.bool true, .bool false, .bool sh, .bool false, .bool true, .int .i64 wid, .int .i64 prec, .int .i32 verb] 35)), x.w.cell? ⟨w.heap.size, 0, none⟩ = some (.bool true) := fun x => x.cell (by simp)
  have f1 : ∀ x : Cl (w.alloc (.cells #[.bool true, .bool false, .bool sh, .bool false, .bool true, .int .i64 wid, .int .i64 prec, .int .i32 verb] 35)), x.w.cell? ⟨w.heap.size, 1, none⟩ = some (.bool false) := fun x => x.cell (by simp)
  have f2 : ∀ x : Cl (w.alloc (.cells #[.bool true, .bool false, .bool sh, .bool false, .bool true, .int .i64 wid, .int .i64 prec, .int .i32 verb] 35)), x.w.cell? ⟨w.heap.size, 2, none⟩ = some (.bool sh) := fun x => x.cell (by simp)
  have f3 : ∀ x : Cl (w.alloc (.cells #[.bool true, .bool false, .bool sh, .bool false, .bool true, .int .i64 wid, .int .i64 prec, .int .i32 verb] 35)), x.w.cell? ⟨w.heap.size, 3, none⟩ = some (.bool false) := fun x => x.cell (by simp)
  have f4 : ∀ x : Cl (w.alloc (.cells #[.bool true, .bool false, .bool sh, .bool false, .bool true, .int .i64 wid, .int .i64 prec, .int .i32 verb] 35)), x.w.cell? ⟨w.heap.size, 4, none⟩ = some (.bool true) := fun x => x.cell (by simp)
  have f5 : ∀ x : Cl (w.alloc (.cells #[.bool true, .bool false, .bool sh, .bool false, .bool true, .int .i64 wid, .int .i64 prec, .int .i32 verb] 35)), x.w.cell? ⟨w.heap.size, 5, none⟩ = some (.int .i64 wid) := fun x => x.cell (by simp)
  have f6 : ∀ x : Cl (w.alloc (.cells #[.bool true, .bool false, .bool sh, .bool false, .bool true, .int .i64 wid, .int .i64 prec, .int .i32 verb] 35)), x.w.cell? ⟨w.heap.size, 6, none⟩ = some (.int .i64 prec) := fun x => x.cell (by simp)
  have f7 : ∀ x : Cl (w.alloc (.cells #[.bool true, .bool false, .bool sh, .bool false, .bool true, .int .i64 wid, .int .i64 prec, .int .i32 verb] 35)), x.w.cell? ⟨w.heap.size, 7, none⟩ = some (.int .i32 verb) := fun x => x.cell (by simp)
  go_enter Tryz.func33, Tryz.ntmps33
  go_wp2_with (first
    | (go_at_call 23; (with_reducible refine (hP _).mono ?_); rintro x w0 ⟨rfl, hb0⟩; obtain ⟨y0, rfl⟩ := Cl.start hb0)
    | (go_at_call 63; (with_reducible refine (hV _).mono ?_); rintro x w3 ⟨rfl, hb3⟩; obtain ⟨y3, rfl⟩ := Cl.next hb3)
    | (go_at_call 65; (with_reducible refine (hB _).mono ?_); rintro x w4 ⟨rfl, hb4⟩; obtain ⟨y4, rfl⟩ := Cl.next hb4)
    | (go_at_call 67; (with_reducible refine (hW _).mono ?_); rintro x w2 ⟨rfl, rfl⟩)
    | (go_at_call 66; (with_reducible refine (hZ _).mono ?_); rintro x w2 ⟨rfl, rfl⟩)
    | (go_at_call 64; (with_reducible refine (hPl _).mono ?_); rintro x w5 ⟨rfl, hb5⟩; obtain ⟨y5, rfl⟩ := Cl.next hb5))
  go_returns
  exact ⟨rfl, bel_call hbA y5.below (Nat.le_refl _)⟩
set_option maxRecDepth 1000000 in
set_option maxHeartbeats 4000000 in
theorem mfa_ftt {bits m : Nat} {size x q : Int} {T N L F R : ByteArray} (sh : Bool) (wid prec verb : Int) (hV : MvC verb true) (hP : KpC bits size false m x 0) (hB : BaC bits size m x true false sh true true wid prec verb T) (hT : (T.size : Int) ≤ 200000) (hW : WdC wid q) (hq1 : q ≤ 1000) (hq0 : -1 ≤ q)
    (hZ : ∀ w, Calls Tryz.prog 66 #[.int .i64 (q - 1 - (T.size : Nat))] w fun e w' => e = .returned (.string N) ∧ w' = w) (he : N ++ T = L) (z1 : ¬ 9223372036854775807 < N.size + T.size) (hF : (⟨#[43]⟩ : ByteArray) ++ L = F) (z2 : ¬ 9223372036854775807 < (⟨#[43]⟩ : ByteArray).size + L.size)
    (hPl : ∀ w, Calls Tryz.prog 64 #[.string F, .agg #[.bool true, .bool false, .bool sh, .bool true, .bool true, .int .i64 wid, .int .i64 prec, .int .i32 verb]] w fun e w' => e = .returned (.string R) ∧ Below w.heap.size w w') : MfC bits size true false sh true true wid prec verb R true := fun w => by
  have hbA : Below w.heap.size w (w.alloc (.cells #[.bool true, .bool false, .bool sh, .bool true, .bool true, .int .i64 wid, .int .i64 prec, .int .i32 verb] 35)) := (Below.refl _ _).alloc (Nat.le_refl _) _
  have f0 : ∀ x : Cl (w.alloc (.cells #[.bool true, .bool false, .bool sh, .bool true, .bool true, .int .i64 wid, .int .i64 prec, .int .i32 verb] 35)), x.w.cell? ⟨w.heap.size, 0, none⟩ = some (.bool true) := fun x => x.cell (by simp)
  have f1 : ∀ x : Cl (w.alloc (.cells #[.bool true, .bool false, .bool sh, .bool true, .bool true, .int .i64 wid, .int .i64 prec, .int .i32 verb] 35)), x.w.cell? ⟨w.heap.size, 1, none⟩ = some (.bool false) := fun x => x.cell (by simp)
  have f2 : ∀ x : Cl (w.alloc (.cells #[.bool true, .bool false, .bool sh, .bool true, .bool true, .int .i64 wid, .int .i64 prec, .int .i32 verb] 35)), x.w.cell? ⟨w.heap.size, 2, none⟩ = some (.bool sh) := fun x => x.cell (by simp)
  have f3 : ∀ x : Cl (w.alloc (.cells #[.bool true, .bool false, .bool sh, .bool true, .bool true, .int .i64 wid, .int .i64 prec, .int .i32 verb] 35)), x.w.cell? ⟨w.heap.size, 3, none⟩ = some (.bool true) := fun x => x.cell (by simp)
  have f4 : ∀ x : Cl (w.alloc (.cells #[.bool true, .bool false, .bool sh, .bool true, .bool true, .int .i64 wid, .int .i64 prec, .int .i32 verb] 35)), x.w.cell? ⟨w.heap.size, 4, none⟩ = some (.bool true) := fun x => x.cell (by simp)
  have f5 : ∀ x : Cl (w.alloc (.cells #[.bool true, .bool false, .bool sh, .bool true, .bool true, .int .i64 wid, .int .i64 prec, .int .i32 verb] 35)), x.w.cell? ⟨w.heap.size, 5, none⟩ = some (.int .i64 wid) := fun x => x.cell (by simp)
  have f6 : ∀ x : Cl (w.alloc (.cells #[.bool true, .bool false, .bool sh, .bool true, .bool true, .int .i64 wid, .int .i64 prec, .int .i32 verb] 35)), x.w.cell? ⟨w.heap.size, 6, none⟩ = some (.int .i64 prec) := fun x => x.cell (by simp)
  have f7 : ∀ x : Cl (w.alloc (.cells #[.bool true, .bool false, .bool sh, .bool true, .bool true, .int .i64 wid, .int .i64 prec, .int .i32 verb] 35)), x.w.cell? ⟨w.heap.size, 7, none⟩ = some (.int .i32 verb) := fun x => x.cell (by simp)
  go_enter Tryz.func33, Tryz.ntmps33
  go_wp2_with (first
    | (go_at_call 23; (with_reducible refine (hP _).mono ?_); rintro x w0 ⟨rfl, hb0⟩; obtain ⟨y0, rfl⟩ := Cl.start hb0)
    | (go_at_call 63; (with_reducible refine (hV _).mono ?_); rintro x w3 ⟨rfl, hb3⟩; obtain ⟨y3, rfl⟩ := Cl.next hb3)
    | (go_at_call 65; (with_reducible refine (hB _).mono ?_); rintro x w4 ⟨rfl, hb4⟩; obtain ⟨y4, rfl⟩ := Cl.next hb4)
    | (go_at_call 67; (with_reducible refine (hW _).mono ?_); rintro x w2 ⟨rfl, rfl⟩)
    | (go_at_call 66; (with_reducible refine (hZ _).mono ?_); rintro x w2 ⟨rfl, rfl⟩)
    | (go_at_call 64; (with_reducible refine (hPl _).mono ?_); rintro x w5 ⟨rfl, hb5⟩; obtain ⟨y5, rfl⟩ := Cl.next hb5))
  go_returns
  exact ⟨rfl, bel_call hbA y5.below (Nat.le_refl _)⟩
set_option maxRecDepth 1000000 in
set_option maxHeartbeats 4000000 in
theorem mfa_tff {bits m : Nat} {size x q : Int} {T N L F R : ByteArray} (sh : Bool) (wid prec verb : Int) (hV : MvC verb true) (hP : KpC bits size true m x 0) (hB : BaC bits size m x false false sh false true wid prec verb T) (hT : (T.size : Int) ≤ 200000) (hW : WdC wid q) (hq1 : q ≤ 1000) (hq0 : -1 ≤ q)
    (hZ : ∀ w, Calls Tryz.prog 66 #[.int .i64 (q - 1 - (T.size : Nat))] w fun e w' => e = .returned (.string N) ∧ w' = w) (he : N ++ T = L) (z1 : ¬ 9223372036854775807 < N.size + T.size) (hF : (⟨#[45]⟩ : ByteArray) ++ L = F) (z2 : ¬ 9223372036854775807 < (⟨#[45]⟩ : ByteArray).size + L.size)
    (hPl : ∀ w, Calls Tryz.prog 64 #[.string F, .agg #[.bool false, .bool false, .bool sh, .bool false, .bool true, .int .i64 wid, .int .i64 prec, .int .i32 verb]] w fun e w' => e = .returned (.string R) ∧ Below w.heap.size w w') : MfC bits size false false sh false true wid prec verb R true := fun w => by
  have hbA : Below w.heap.size w (w.alloc (.cells #[.bool false, .bool false, .bool sh, .bool false, .bool true, .int .i64 wid, .int .i64 prec, .int .i32 verb] 35)) := (Below.refl _ _).alloc (Nat.le_refl _) _
  have f0 : ∀ x : Cl (w.alloc (.cells #[.bool false, .bool false, .bool sh, .bool false, .bool true, .int .i64 wid, .int .i64 prec, .int .i32 verb] 35)), x.w.cell? ⟨w.heap.size, 0, none⟩ = some (.bool false) := fun x => x.cell (by simp)
  have f1 : ∀ x : Cl (w.alloc (.cells #[.bool false, .bool false, .bool sh, .bool false, .bool true, .int .i64 wid, .int .i64 prec, .int .i32 verb] 35)), x.w.cell? ⟨w.heap.size, 1, none⟩ = some (.bool false) := fun x => x.cell (by simp)
  have f2 : ∀ x : Cl (w.alloc (.cells #[.bool false, .bool false, .bool sh, .bool false, .bool true, .int .i64 wid, .int .i64 prec, .int .i32 verb] 35)), x.w.cell? ⟨w.heap.size, 2, none⟩ = some (.bool sh) := fun x => x.cell (by simp)
  have f3 : ∀ x : Cl (w.alloc (.cells #[.bool false, .bool false, .bool sh, .bool false, .bool true, .int .i64 wid, .int .i64 prec, .int .i32 verb] 35)), x.w.cell? ⟨w.heap.size, 3, none⟩ = some (.bool false) := fun x => x.cell (by simp)
  have f4 : ∀ x : Cl (w.alloc (.cells #[.bool false, .bool false, .bool sh, .bool false, .bool true, .int .i64 wid, .int .i64 prec, .int .i32 verb] 35)), x.w.cell? ⟨w.heap.size, 4, none⟩ = some (.bool true) := fun x => x.cell (by simp)
  have f5 : ∀ x : Cl (w.alloc (.cells #[.bool false, .bool false, .bool sh, .bool false, .bool true, .int .i64 wid, .int .i64 prec, .int .i32 verb] 35)), x.w.cell? ⟨w.heap.size, 5, none⟩ = some (.int .i64 wid) := fun x => x.cell (by simp)
  have f6 : ∀ x : Cl (w.alloc (.cells #[.bool false, .bool false, .bool sh, .bool false, .bool true, .int .i64 wid, .int .i64 prec, .int .i32 verb] 35)), x.w.cell? ⟨w.heap.size, 6, none⟩ = some (.int .i64 prec) := fun x => x.cell (by simp)
  have f7 : ∀ x : Cl (w.alloc (.cells #[.bool false, .bool false, .bool sh, .bool false, .bool true, .int .i64 wid, .int .i64 prec, .int .i32 verb] 35)), x.w.cell? ⟨w.heap.size, 7, none⟩ = some (.int .i32 verb) := fun x => x.cell (by simp)
  go_enter Tryz.func33, Tryz.ntmps33
  go_wp2_with (first
    | (go_at_call 23; (with_reducible refine (hP _).mono ?_); rintro x w0 ⟨rfl, hb0⟩; obtain ⟨y0, rfl⟩ := Cl.start hb0)
    | (go_at_call 63; (with_reducible refine (hV _).mono ?_); rintro x w3 ⟨rfl, hb3⟩; obtain ⟨y3, rfl⟩ := Cl.next hb3)
    | (go_at_call 65; (with_reducible refine (hB _).mono ?_); rintro x w4 ⟨rfl, hb4⟩; obtain ⟨y4, rfl⟩ := Cl.next hb4)
    | (go_at_call 67; (with_reducible refine (hW _).mono ?_); rintro x w2 ⟨rfl, rfl⟩)
    | (go_at_call 66; (with_reducible refine (hZ _).mono ?_); rintro x w2 ⟨rfl, rfl⟩)
    | (go_at_call 64; (with_reducible refine (hPl _).mono ?_); rintro x w5 ⟨rfl, hb5⟩; obtain ⟨y5, rfl⟩ := Cl.next hb5))
  go_returns
  exact ⟨rfl, bel_call hbA y5.below (Nat.le_refl _)⟩
set_option maxRecDepth 1000000 in
set_option maxHeartbeats 4000000 in
theorem mfa_tft {bits m : Nat} {size x q : Int} {T N L F R : ByteArray} (sh : Bool) (wid prec verb : Int) (hV : MvC verb true) (hP : KpC bits size true m x 0) (hB : BaC bits size m x false false sh true true wid prec verb T) (hT : (T.size : Int) ≤ 200000) (hW : WdC wid q) (hq1 : q ≤ 1000) (hq0 : -1 ≤ q)
    (hZ : ∀ w, Calls Tryz.prog 66 #[.int .i64 (q - 1 - (T.size : Nat))] w fun e w' => e = .returned (.string N) ∧ w' = w) (he : N ++ T = L) (z1 : ¬ 9223372036854775807 < N.size + T.size) (hF : (⟨#[45]⟩ : ByteArray) ++ L = F) (z2 : ¬ 9223372036854775807 < (⟨#[45]⟩ : ByteArray).size + L.size)
    (hPl : ∀ w, Calls Tryz.prog 64 #[.string F, .agg #[.bool false, .bool false, .bool sh, .bool true, .bool true, .int .i64 wid, .int .i64 prec, .int .i32 verb]] w fun e w' => e = .returned (.string R) ∧ Below w.heap.size w w') : MfC bits size false false sh true true wid prec verb R true := fun w => by
  have hbA : Below w.heap.size w (w.alloc (.cells #[.bool false, .bool false, .bool sh, .bool true, .bool true, .int .i64 wid, .int .i64 prec, .int .i32 verb] 35)) := (Below.refl _ _).alloc (Nat.le_refl _) _
  have f0 : ∀ x : Cl (w.alloc (.cells #[.bool false, .bool false, .bool sh, .bool true, .bool true, .int .i64 wid, .int .i64 prec, .int .i32 verb] 35)), x.w.cell? ⟨w.heap.size, 0, none⟩ = some (.bool false) := fun x => x.cell (by simp)
  have f1 : ∀ x : Cl (w.alloc (.cells #[.bool false, .bool false, .bool sh, .bool true, .bool true, .int .i64 wid, .int .i64 prec, .int .i32 verb] 35)), x.w.cell? ⟨w.heap.size, 1, none⟩ = some (.bool false) := fun x => x.cell (by simp)
  have f2 : ∀ x : Cl (w.alloc (.cells #[.bool false, .bool false, .bool sh, .bool true, .bool true, .int .i64 wid, .int .i64 prec, .int .i32 verb] 35)), x.w.cell? ⟨w.heap.size, 2, none⟩ = some (.bool sh) := fun x => x.cell (by simp)
  have f3 : ∀ x : Cl (w.alloc (.cells #[.bool false, .bool false, .bool sh, .bool true, .bool true, .int .i64 wid, .int .i64 prec, .int .i32 verb] 35)), x.w.cell? ⟨w.heap.size, 3, none⟩ = some (.bool true) := fun x => x.cell (by simp)
  have f4 : ∀ x : Cl (w.alloc (.cells #[.bool false, .bool false, .bool sh, .bool true, .bool true, .int .i64 wid, .int .i64 prec, .int .i32 verb] 35)), x.w.cell? ⟨w.heap.size, 4, none⟩ = some (.bool true) := fun x => x.cell (by simp)
  have f5 : ∀ x : Cl (w.alloc (.cells #[.bool false, .bool false, .bool sh, .bool true, .bool true, .int .i64 wid, .int .i64 prec, .int .i32 verb] 35)), x.w.cell? ⟨w.heap.size, 5, none⟩ = some (.int .i64 wid) := fun x => x.cell (by simp)
  have f6 : ∀ x : Cl (w.alloc (.cells #[.bool false, .bool false, .bool sh, .bool true, .bool true, .int .i64 wid, .int .i64 prec, .int .i32 verb] 35)), x.w.cell? ⟨w.heap.size, 6, none⟩ = some (.int .i64 prec) := fun x => x.cell (by simp)
  have f7 : ∀ x : Cl (w.alloc (.cells #[.bool false, .bool false, .bool sh, .bool true, .bool true, .int .i64 wid, .int .i64 prec, .int .i32 verb] 35)), x.w.cell? ⟨w.heap.size, 7, none⟩ = some (.int .i32 verb) := fun x => x.cell (by simp)
  go_enter Tryz.func33, Tryz.ntmps33
  go_wp2_with (first
    | (go_at_call 23; (with_reducible refine (hP _).mono ?_); rintro x w0 ⟨rfl, hb0⟩; obtain ⟨y0, rfl⟩ := Cl.start hb0)
    | (go_at_call 63; (with_reducible refine (hV _).mono ?_); rintro x w3 ⟨rfl, hb3⟩; obtain ⟨y3, rfl⟩ := Cl.next hb3)
    | (go_at_call 65; (with_reducible refine (hB _).mono ?_); rintro x w4 ⟨rfl, hb4⟩; obtain ⟨y4, rfl⟩ := Cl.next hb4)
    | (go_at_call 67; (with_reducible refine (hW _).mono ?_); rintro x w2 ⟨rfl, rfl⟩)
    | (go_at_call 66; (with_reducible refine (hZ _).mono ?_); rintro x w2 ⟨rfl, rfl⟩)
    | (go_at_call 64; (with_reducible refine (hPl _).mono ?_); rintro x w5 ⟨rfl, hb5⟩; obtain ⟨y5, rfl⟩ := Cl.next hb5))
  go_returns
  exact ⟨rfl, bel_call hbA y5.below (Nat.le_refl _)⟩
set_option maxRecDepth 1000000 in
set_option maxHeartbeats 4000000 in
theorem mfa_ttf {bits m : Nat} {size x q : Int} {T N L F R : ByteArray} (sh : Bool) (wid prec verb : Int) (hV : MvC verb true) (hP : KpC bits size true m x 0) (hB : BaC bits size m x true false sh false true wid prec verb T) (hT : (T.size : Int) ≤ 200000) (hW : WdC wid q) (hq1 : q ≤ 1000) (hq0 : -1 ≤ q)
    (hZ : ∀ w, Calls Tryz.prog 66 #[.int .i64 (q - 1 - (T.size : Nat))] w fun e w' => e = .returned (.string N) ∧ w' = w) (he : N ++ T = L) (z1 : ¬ 9223372036854775807 < N.size + T.size) (hF : (⟨#[45]⟩ : ByteArray) ++ L = F) (z2 : ¬ 9223372036854775807 < (⟨#[45]⟩ : ByteArray).size + L.size)
    (hPl : ∀ w, Calls Tryz.prog 64 #[.string F, .agg #[.bool true, .bool false, .bool sh, .bool false, .bool true, .int .i64 wid, .int .i64 prec, .int .i32 verb]] w fun e w' => e = .returned (.string R) ∧ Below w.heap.size w w') : MfC bits size true false sh false true wid prec verb R true := fun w => by
  have hbA : Below w.heap.size w (w.alloc (.cells #[.bool true, .bool false, .bool sh, .bool false, .bool true, .int .i64 wid, .int .i64 prec, .int .i32 verb] 35)) := (Below.refl _ _).alloc (Nat.le_refl _) _
  have f0 : ∀ x : Cl (w.alloc (.cells #[.bool true, .bool false, .bool sh, .bool false, .bool true, .int .i64 wid, .int .i64 prec, .int .i32 verb] 35)), x.w.cell? ⟨w.heap.size, 0, none⟩ = some (.bool true) := fun x => x.cell (by simp)
  have f1 : ∀ x : Cl (w.alloc (.cells #[.bool true, .bool false, .bool sh, .bool false, .bool true, .int .i64 wid, .int .i64 prec, .int .i32 verb] 35)), x.w.cell? ⟨w.heap.size, 1, none⟩ = some (.bool false) := fun x => x.cell (by simp)
  have f2 : ∀ x : Cl (w.alloc (.cells #[.bool true, .bool false, .bool sh, .bool false, .bool true, .int .i64 wid, .int .i64 prec, .int .i32 verb] 35)), x.w.cell? ⟨w.heap.size, 2, none⟩ = some (.bool sh) := fun x => x.cell (by simp)
  have f3 : ∀ x : Cl (w.alloc (.cells #[.bool true, .bool false, .bool sh, .bool false, .bool true, .int .i64 wid, .int .i64 prec, .int .i32 verb] 35)), x.w.cell? ⟨w.heap.size, 3, none⟩ = some (.bool false) := fun x => x.cell (by simp)
  have f4 : ∀ x : Cl (w.alloc (.cells #[.bool true, .bool false, .bool sh, .bool false, .bool true, .int .i64 wid, .int .i64 prec, .int .i32 verb] 35)), x.w.cell? ⟨w.heap.size, 4, none⟩ = some (.bool true) := fun x => x.cell (by simp)
  have f5 : ∀ x : Cl (w.alloc (.cells #[.bool true, .bool false, .bool sh, .bool false, .bool true, .int .i64 wid, .int .i64 prec, .int .i32 verb] 35)), x.w.cell? ⟨w.heap.size, 5, none⟩ = some (.int .i64 wid) := fun x => x.cell (by simp)
  have f6 : ∀ x : Cl (w.alloc (.cells #[.bool true, .bool false, .bool sh, .bool false, .bool true, .int .i64 wid, .int .i64 prec, .int .i32 verb] 35)), x.w.cell? ⟨w.heap.size, 6, none⟩ = some (.int .i64 prec) := fun x => x.cell (by simp)
  have f7 : ∀ x : Cl (w.alloc (.cells #[.bool true, .bool false, .bool sh, .bool false, .bool true, .int .i64 wid, .int .i64 prec, .int .i32 verb] 35)), x.w.cell? ⟨w.heap.size, 7, none⟩ = some (.int .i32 verb) := fun x => x.cell (by simp)
  go_enter Tryz.func33, Tryz.ntmps33
  go_wp2_with (first
    | (go_at_call 23; (with_reducible refine (hP _).mono ?_); rintro x w0 ⟨rfl, hb0⟩; obtain ⟨y0, rfl⟩ := Cl.start hb0)
    | (go_at_call 63; (with_reducible refine (hV _).mono ?_); rintro x w3 ⟨rfl, hb3⟩; obtain ⟨y3, rfl⟩ := Cl.next hb3)
    | (go_at_call 65; (with_reducible refine (hB _).mono ?_); rintro x w4 ⟨rfl, hb4⟩; obtain ⟨y4, rfl⟩ := Cl.next hb4)
    | (go_at_call 67; (with_reducible refine (hW _).mono ?_); rintro x w2 ⟨rfl, rfl⟩)
    | (go_at_call 66; (with_reducible refine (hZ _).mono ?_); rintro x w2 ⟨rfl, rfl⟩)
    | (go_at_call 64; (with_reducible refine (hPl _).mono ?_); rintro x w5 ⟨rfl, hb5⟩; obtain ⟨y5, rfl⟩ := Cl.next hb5))
  go_returns
  exact ⟨rfl, bel_call hbA y5.below (Nat.le_refl _)⟩
set_option maxRecDepth 1000000 in
set_option maxHeartbeats 4000000 in
theorem mfa_ttt {bits m : Nat} {size x q : Int} {T N L F R : ByteArray} (sh : Bool) (wid prec verb : Int) (hV : MvC verb true) (hP : KpC bits size true m x 0) (hB : BaC bits size m x true false sh true true wid prec verb T) (hT : (T.size : Int) ≤ 200000) (hW : WdC wid q) (hq1 : q ≤ 1000) (hq0 : -1 ≤ q)
    (hZ : ∀ w, Calls Tryz.prog 66 #[.int .i64 (q - 1 - (T.size : Nat))] w fun e w' => e = .returned (.string N) ∧ w' = w) (he : N ++ T = L) (z1 : ¬ 9223372036854775807 < N.size + T.size) (hF : (⟨#[45]⟩ : ByteArray) ++ L = F) (z2 : ¬ 9223372036854775807 < (⟨#[45]⟩ : ByteArray).size + L.size)
    (hPl : ∀ w, Calls Tryz.prog 64 #[.string F, .agg #[.bool true, .bool false, .bool sh, .bool true, .bool true, .int .i64 wid, .int .i64 prec, .int .i32 verb]] w fun e w' => e = .returned (.string R) ∧ Below w.heap.size w w') : MfC bits size true false sh true true wid prec verb R true := fun w => by
  have hbA : Below w.heap.size w (w.alloc (.cells #[.bool true, .bool false, .bool sh, .bool true, .bool true, .int .i64 wid, .int .i64 prec, .int .i32 verb] 35)) := (Below.refl _ _).alloc (Nat.le_refl _) _
  have f0 : ∀ x : Cl (w.alloc (.cells #[.bool true, .bool false, .bool sh, .bool true, .bool true, .int .i64 wid, .int .i64 prec, .int .i32 verb] 35)), x.w.cell? ⟨w.heap.size, 0, none⟩ = some (.bool true) := fun x => x.cell (by simp)
  have f1 : ∀ x : Cl (w.alloc (.cells #[.bool true, .bool false, .bool sh, .bool true, .bool true, .int .i64 wid, .int .i64 prec, .int .i32 verb] 35)), x.w.cell? ⟨w.heap.size, 1, none⟩ = some (.bool false) := fun x => x.cell (by simp)
  have f2 : ∀ x : Cl (w.alloc (.cells #[.bool true, .bool false, .bool sh, .bool true, .bool true, .int .i64 wid, .int .i64 prec, .int .i32 verb] 35)), x.w.cell? ⟨w.heap.size, 2, none⟩ = some (.bool sh) := fun x => x.cell (by simp)
  have f3 : ∀ x : Cl (w.alloc (.cells #[.bool true, .bool false, .bool sh, .bool true, .bool true, .int .i64 wid, .int .i64 prec, .int .i32 verb] 35)), x.w.cell? ⟨w.heap.size, 3, none⟩ = some (.bool true) := fun x => x.cell (by simp)
  have f4 : ∀ x : Cl (w.alloc (.cells #[.bool true, .bool false, .bool sh, .bool true, .bool true, .int .i64 wid, .int .i64 prec, .int .i32 verb] 35)), x.w.cell? ⟨w.heap.size, 4, none⟩ = some (.bool true) := fun x => x.cell (by simp)
  have f5 : ∀ x : Cl (w.alloc (.cells #[.bool true, .bool false, .bool sh, .bool true, .bool true, .int .i64 wid, .int .i64 prec, .int .i32 verb] 35)), x.w.cell? ⟨w.heap.size, 5, none⟩ = some (.int .i64 wid) := fun x => x.cell (by simp)
  have f6 : ∀ x : Cl (w.alloc (.cells #[.bool true, .bool false, .bool sh, .bool true, .bool true, .int .i64 wid, .int .i64 prec, .int .i32 verb] 35)), x.w.cell? ⟨w.heap.size, 6, none⟩ = some (.int .i64 prec) := fun x => x.cell (by simp)
  have f7 : ∀ x : Cl (w.alloc (.cells #[.bool true, .bool false, .bool sh, .bool true, .bool true, .int .i64 wid, .int .i64 prec, .int .i32 verb] 35)), x.w.cell? ⟨w.heap.size, 7, none⟩ = some (.int .i32 verb) := fun x => x.cell (by simp)
  go_enter Tryz.func33, Tryz.ntmps33
  go_wp2_with (first
    | (go_at_call 23; (with_reducible refine (hP _).mono ?_); rintro x w0 ⟨rfl, hb0⟩; obtain ⟨y0, rfl⟩ := Cl.start hb0)
    | (go_at_call 63; (with_reducible refine (hV _).mono ?_); rintro x w3 ⟨rfl, hb3⟩; obtain ⟨y3, rfl⟩ := Cl.next hb3)
    | (go_at_call 65; (with_reducible refine (hB _).mono ?_); rintro x w4 ⟨rfl, hb4⟩; obtain ⟨y4, rfl⟩ := Cl.next hb4)
    | (go_at_call 67; (with_reducible refine (hW _).mono ?_); rintro x w2 ⟨rfl, rfl⟩)
    | (go_at_call 66; (with_reducible refine (hZ _).mono ?_); rintro x w2 ⟨rfl, rfl⟩)
    | (go_at_call 64; (with_reducible refine (hPl _).mono ?_); rintro x w5 ⟨rfl, hb5⟩; obtain ⟨y5, rfl⟩ := Cl.next hb5))
  go_returns
  exact ⟨rfl, bel_call hbA y5.below (Nat.le_refl _)⟩
theorem mfl_fin_a {bits m : Nat} {size x : Int} {sg : Bool} {T : ByteArray} (p sh sp : Bool) (wid prec verb : Int) (hV : MvC verb true) (hP : KpC bits size sg m x 0) (hB : BaC bits size m x p false sh sp true wid prec verb T) (hT : T.size ≤ 200000) : MfC bits size p false sh sp true wid prec verb (filT (sgF sg p sp) T false true wid) true := by
  have hs := sgF_size sg p sp
  have hwd := wdE_facts wid
  have hwl := wdt_le wid
  have hW : WdC wid (wdE wid) := fun w => rwidth_any wid w
  have hl := lnA_size T ((wdt wid : Nat) - ((sgF sg p sp).size : Nat))
  have he : run 48 (wdE wid - ((sgF sg p sp).size : Nat) - (T.size : Nat)).toNat ++ T = lnA T ((wdt wid : Nat) - ((sgF sg p sp).size : Nat)) := by
    unfold lnA
    congr 2
    unfold wdE wdt
    split <;> omega
  have hZ : ∀ w, Calls Tryz.prog 66 #[.int .i64 (wdE wid - ((sgF sg p sp).size : Nat) - (T.size : Nat))] w fun e w' => e = .returned (.string (run 48 (wdE wid - ((sgF sg p sp).size : Nat) - (T.size : Nat)).toNat)) ∧ w' = w := fun w => mzeros_any _ w (by omega)
  have hzr : (run 48 (wdE wid - ((sgF sg p sp).size : Nat) - (T.size : Nat)).toNat).size ≤ 1000 := by rw [run_size]; omega
  have eF : filT (sgF sg p sp) T false true wid = padS (sgF sg p sp ++ lnA T ((wdt wid : Nat) - ((sgF sg p sp).size : Nat))) false false wid := by unfold filT; rw [if_pos ⟨rfl, rfl⟩]
  rw [eF]
  have hPl : ∀ w, Calls Tryz.prog 64 #[.string (sgF sg p sp ++ lnA T ((wdt wid : Nat) - ((sgF sg p sp).size : Nat))), .agg #[.bool p, .bool false, .bool sh, .bool sp, .bool true, .int .i64 wid, .int .i64 prec, .int .i32 verb]] w fun e w' => e = .returned (.string (padS (sgF sg p sp ++ lnA T ((wdt wid : Nat) - ((sgF sg p sp).size : Nat))) false false wid)) ∧ Below w.heap.size w w' := fun w => rplain_any _ p false sh sp true wid prec verb w (by rw [app_size]; omega)
  have z1 : ¬ 9223372036854775807 < (run 48 (wdE wid - ((sgF sg p sp).size : Nat) - (T.size : Nat)).toNat).size + T.size := by omega
  have z2 : ¬ 9223372036854775807 < (sgF sg p sp).size + (lnA T ((wdt wid : Nat) - ((sgF sg p sp).size : Nat))).size := by omega
  have hb1 : wdE wid ≤ 1000 := hwd.1
  have hb0 : -1 ≤ wdE wid := hwd.2.1
  have hTI : (T.size : Int) ≤ 200000 := by omega
  generalize wdE wid = q at *
  cases sg <;> cases p <;> cases sp
  · exact mfa_fff sh wid prec verb hV hP hB hTI hW hb1 hb0 (by have e : q - ((sgF false false false).size : Nat) - (T.size : Nat) = q - (T.size : Nat) := (by rw [show (sgF false false false).size = 0 from rfl]; omega); rw [e] at hZ; exact hZ) (by have e : q - ((sgF false false false).size : Nat) - (T.size : Nat) = q - (T.size : Nat) := (by rw [show (sgF false false false).size = 0 from rfl]; omega); rw [e] at he; exact he) (by have e : q - ((sgF false false false).size : Nat) - (T.size : Nat) = q - (T.size : Nat) := (by rw [show (sgF false false false).size = 0 from rfl]; omega); rw [e] at z1; exact z1) rfl z2 hPl
  · exact mfa_fft sh wid prec verb hV hP hB hTI hW hb1 hb0 hZ he z1 rfl z2 hPl
  · exact mfa_ftf sh wid prec verb hV hP hB hTI hW hb1 hb0 hZ he z1 rfl z2 hPl
  · exact mfa_ftt sh wid prec verb hV hP hB hTI hW hb1 hb0 hZ he z1 rfl z2 hPl
  · exact mfa_tff sh wid prec verb hV hP hB hTI hW hb1 hb0 hZ he z1 rfl z2 hPl
  · exact mfa_tft sh wid prec verb hV hP hB hTI hW hb1 hb0 hZ he z1 rfl z2 hPl
  · exact mfa_ttf sh wid prec verb hV hP hB hTI hW hb1 hb0 hZ he z1 rfl z2 hPl
  · exact mfa_ttt sh wid prec verb hV hP hB hTI hW hb1 hb0 hZ he z1 rfl z2 hPl
end Go.Proofs.YthbabhbfpcfenabGreatDoor
