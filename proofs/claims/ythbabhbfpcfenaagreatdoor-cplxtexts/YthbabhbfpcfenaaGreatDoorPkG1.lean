/- MFin1, MFin2, MFin3, MLaw: these texts in one. -/
import Derived.Test.YthbabhbfpcfenaaGreatDoorPkM12
import Derived.Test.YthbabhbfpcfenaaGreatDoorPkF26
/- The document's Float at a finite number, with noughts. -/
namespace Go.Proofs.YthbabhbfpcfenaaGreatDoor
open Go.RowKit
set_option linter.unusedVariables false
set_option linter.unusedSimpArgs false

set_option maxRecDepth 1000000 in
set_option maxHeartbeats 4000000 in
theorem mfa_fff {bits m : Nat} {size x q : Int} {T N L F R : ByteArray} (sh : Bool) (wid prec verb : Int) (hV : MvC verb true) (hP : KpC bits size false m x 0) (hB : BaC bits size m x false false sh false true wid prec verb T) (hT : (T.size : Int) ≤ 200000) (hW : WdC wid q) (hq1 : q ≤ 1000) (hq0 : -1 ≤ q)
    (hZ : ∀ w, Calls Tryz.prog 33 #[.int .i64 (q - (T.size : Nat))] w fun e w' => e = .returned (.string N) ∧ w' = w) (he : N ++ T = L) (z1 : ¬ 9223372036854775807 < N.size + T.size) (hF : (⟨#[]⟩ : ByteArray) ++ L = F) (z2 : ¬ 9223372036854775807 < (⟨#[]⟩ : ByteArray).size + L.size)
    (hPl : ∀ w, Calls Tryz.prog 31 #[.string F, .agg #[.bool false, .bool false, .bool sh, .bool false, .bool true, .int .i64 wid, .int .i64 prec, .int .i32 verb]] w fun e w' => e = .returned (.string R) ∧ Below w.heap.size w w') : MfC bits size false false sh false true wid prec verb R true := fun w => by
  have hbA : Below w.heap.size w (w.alloc (.cells #[.bool false, .bool false, .bool sh, .bool false, .bool true, .int .i64 wid, .int .i64 prec, .int .i32 verb] 26)) := (Below.refl _ _).alloc (Nat.le_refl _) _
  have f0 : ∀ x : Cl (w.alloc (.cells #[.bool false, .bool false, .bool sh, .bool false, .bool true, .int .i64 wid, .int .i64 prec, .int .i32 verb] 26)), x.w.cell? ⟨w.heap.size, 0, none⟩ = some (.bool false) := fun x => x.cell (by simp)
  have f1 : ∀ x : Cl (w.alloc (.cells #[.bool false, .bool false, .bool sh, .bool false, .bool true, .int .i64 wid, .int .i64 prec, .int .i32 verb] 26)), x.w.cell? ⟨w.heap.size, 1, none⟩ = some (.bool false) := fun x => x.cell (by simp)
  have f2 : ∀ x : Cl (w.alloc (.cells #[.bool false, .bool false, .bool sh, .bool false, .bool true, .int .i64 wid, .int .i64 prec, .int .i32 verb] 26)), x.w.cell? ⟨w.heap.size, 2, none⟩ = some (.bool sh) := fun x => x.cell (by simp)
  have f3 : ∀ x : Cl (w.alloc (.cells #[.bool false, .bool false, .bool sh, .bool false, .bool true, .int .i64 wid, .int .i64 prec, .int .i32 verb] 26)), x.w.cell? ⟨w.heap.size, 3, none⟩ = some (.bool false) := fun x => x.cell (by simp)
  have f4 : ∀ x : Cl (w.alloc (.cells #[.bool false, .bool false, .bool sh, .bool false, .bool true, .int .i64 wid, .int .i64 prec, .int .i32 verb] 26)), x.w.cell? ⟨w.heap.size, 4, none⟩ = some (.bool true) := fun x => x.cell (by simp)
  have f5 : ∀ x : Cl (w.alloc (.cells #[.bool false, .bool false, .bool sh, .bool false, .bool true, .int .i64 wid, .int .i64 prec, .int .i32 verb] 26)), x.w.cell? ⟨w.heap.size, 5, none⟩ = some (.int .i64 wid) := fun x => x.cell (by simp)
  have f6 : ∀ x : Cl (w.alloc (.cells #[.bool false, .bool false, .bool sh, .bool false, .bool true, .int .i64 wid, .int .i64 prec, .int .i32 verb] 26)), x.w.cell? ⟨w.heap.size, 6, none⟩ = some (.int .i64 prec) := fun x => x.cell (by simp)
  have f7 : ∀ x : Cl (w.alloc (.cells #[.bool false, .bool false, .bool sh, .bool false, .bool true, .int .i64 wid, .int .i64 prec, .int .i32 verb] 26)), x.w.cell? ⟨w.heap.size, 7, none⟩ = some (.int .i32 verb) := fun x => x.cell (by simp)
  go_enter Tryz.func17, Tryz.ntmps17
  go_wp2_with (first
    | (go_at_call 30; (with_reducible refine (hP _).mono ?_); rintro x w0 ⟨rfl, hb0⟩; obtain ⟨y0, rfl⟩ := Cl.start hb0)
    | (go_at_call 15; (with_reducible refine (hV _).mono ?_); rintro x w3 ⟨rfl, hb3⟩; obtain ⟨y3, rfl⟩ := Cl.next hb3)
    | (go_at_call 32; (with_reducible refine (hB _).mono ?_); rintro x w4 ⟨rfl, hb4⟩; obtain ⟨y4, rfl⟩ := Cl.next hb4)
    | (go_at_call 34; (with_reducible refine (hW _).mono ?_); rintro x w2 ⟨rfl, rfl⟩)
    | (go_at_call 33; (with_reducible refine (hZ _).mono ?_); rintro x w2 ⟨rfl, rfl⟩)
    | (go_at_call 31; (with_reducible refine (hPl _).mono ?_); rintro x w5 ⟨rfl, hb5⟩; obtain ⟨y5, rfl⟩ := Cl.next hb5))
  go_returns
  exact ⟨rfl, bel_call hbA y5.below (Nat.le_refl _)⟩
set_option maxRecDepth 1000000 in
set_option maxHeartbeats 4000000 in
theorem mfa_fft {bits m : Nat} {size x q : Int} {T N L F R : ByteArray} (sh : Bool) (wid prec verb : Int) (hV : MvC verb true) (hP : KpC bits size false m x 0) (hB : BaC bits size m x false false sh true true wid prec verb T) (hT : (T.size : Int) ≤ 200000) (hW : WdC wid q) (hq1 : q ≤ 1000) (hq0 : -1 ≤ q)
    (hZ : ∀ w, Calls Tryz.prog 33 #[.int .i64 (q - 1 - (T.size : Nat))] w fun e w' => e = .returned (.string N) ∧ w' = w) (he : N ++ T = L) (z1 : ¬ 9223372036854775807 < N.size + T.size) (hF : (⟨#[32]⟩ : ByteArray) ++ L = F) (z2 : ¬ 9223372036854775807 < (⟨#[32]⟩ : ByteArray).size + L.size)
    (hPl : ∀ w, Calls Tryz.prog 31 #[.string F, .agg #[.bool false, .bool false, .bool sh, .bool true, .bool true, .int .i64 wid, .int .i64 prec, .int .i32 verb]] w fun e w' => e = .returned (.string R) ∧ Below w.heap.size w w') : MfC bits size false false sh true true wid prec verb R true := fun w => by
  have hbA : Below w.heap.size w (w.alloc (.cells #[.bool false, .bool false, .bool sh, .bool true, .bool true, .int .i64 wid, .int .i64 prec, .int .i32 verb] 26)) := (Below.refl _ _).alloc (Nat.le_refl _) _
  have f0 : ∀ x : Cl (w.alloc (.cells #[.bool false, .bool false, .bool sh, .bool true, .bool true, .int .i64 wid, .int .i64 prec, .int .i32 verb] 26)), x.w.cell? ⟨w.heap.size, 0, none⟩ = some (.bool false) := fun x => x.cell (by simp)
  have f1 : ∀ x : Cl (w.alloc (.cells #[.bool false, .bool false, .bool sh, .bool true, .bool true, .int .i64 wid, .int .i64 prec, .int .i32 verb] 26)), x.w.cell? ⟨w.heap.size, 1, none⟩ = some (.bool false) := fun x => x.cell (by simp)
  have f2 : ∀ x : Cl (w.alloc (.cells #[.bool false, .bool false, .bool sh, .bool true, .bool true, .int .i64 wid, .int .i64 prec, .int .i32 verb] 26)), x.w.cell? ⟨w.heap.size, 2, none⟩ = some (.bool sh) := fun x => x.cell (by simp)
  have f3 : ∀ x : Cl (w.alloc (.cells #[.bool false, .bool false, .bool sh, .bool true, .bool true, .int .i64 wid, .int .i64 prec, .int .i32 verb] 26)), x.w.cell? ⟨w.heap.size, 3, none⟩ = some (.bool true) := fun x => x.cell (by simp)
  have f4 : ∀ x : Cl (w.alloc (.cells #[.bool false, .bool false, .bool sh, .bool true, .bool true, .int .i64 wid, .int .i64 prec, .int .i32 verb] 26)), x.w.cell? ⟨w.heap.size, 4, none⟩ = some (.bool true) := fun x => x.cell (by simp)
  have f5 : ∀ x : Cl (w.alloc (.cells #[.bool false, .bool false, .bool sh, .bool true, .bool true, .int .i64 wid, .int .i64 prec, .int .i32 verb] 26)), x.w.cell? ⟨w.heap.size, 5, none⟩ = some (.int .i64 wid) := fun x => x.cell (by simp)
  have f6 : ∀ x : Cl (w.alloc (.cells #[.bool false, .bool false, .bool sh, .bool true, .bool true, .int .i64 wid, .int .i64 prec, .int .i32 verb] 26)), x.w.cell? ⟨w.heap.size, 6, none⟩ = some (.int .i64 prec) := fun x => x.cell (by simp)
  have f7 : ∀ x : Cl (w.alloc (.cells #[.bool false, .bool false, .bool sh, .bool true, .bool true, .int .i64 wid, .int .i64 prec, .int .i32 verb] 26)), x.w.cell? ⟨w.heap.size, 7, none⟩ = some (.int .i32 verb) := fun x => x.cell (by simp)
  go_enter Tryz.func17, Tryz.ntmps17
  go_wp2_with (first
    | (go_at_call 30; (with_reducible refine (hP _).mono ?_); rintro x w0 ⟨rfl, hb0⟩; obtain ⟨y0, rfl⟩ := Cl.start hb0)
    | (go_at_call 15; (with_reducible refine (hV _).mono ?_); rintro x w3 ⟨rfl, hb3⟩; obtain ⟨y3, rfl⟩ := Cl.next hb3)
    | (go_at_call 32; (with_reducible refine (hB _).mono ?_); rintro x w4 ⟨rfl, hb4⟩; obtain ⟨y4, rfl⟩ := Cl.next hb4)
    | (go_at_call 34; (with_reducible refine (hW _).mono ?_); rintro x w2 ⟨rfl, rfl⟩)
    | (go_at_call 33; (with_reducible refine (hZ _).mono ?_); rintro x w2 ⟨rfl, rfl⟩)
    | (go_at_call 31; (with_reducible refine (hPl _).mono ?_); rintro x w5 ⟨rfl, hb5⟩; obtain ⟨y5, rfl⟩ := Cl.next hb5))
  go_returns
  exact ⟨rfl, bel_call hbA y5.below (Nat.le_refl _)⟩
set_option maxRecDepth 1000000 in
set_option maxHeartbeats 4000000 in
theorem mfa_ftf {bits m : Nat} {size x q : Int} {T N L F R : ByteArray} (sh : Bool) (wid prec verb : Int) (hV : MvC verb true) (hP : KpC bits size false m x 0) (hB : BaC bits size m x true false sh false true wid prec verb T) (hT : (T.size : Int) ≤ 200000) (hW : WdC wid q) (hq1 : q ≤ 1000) (hq0 : -1 ≤ q)
    (hZ : ∀ w, Calls Tryz.prog 33 #[.int .i64 (q - 1 - (T.size : Nat))] w fun e w' => e = .returned (.string N) ∧ w' = w) (he : N ++ T = L) (z1 : ¬ 9223372036854775807 < N.size + T.size) (hF : (⟨#[43]⟩ : ByteArray) ++ L = F) (z2 : ¬ 9223372036854775807 < (⟨#[43]⟩ : ByteArray).size + L.size)
    (hPl : ∀ w, Calls Tryz.prog 31 #[.string F, .agg #[.bool true, .bool false, .bool sh, .bool false, .bool true, .int .i64 wid, .int .i64 prec, .int .i32 verb]] w fun e w' => e = .returned (.string R) ∧ Below w.heap.size w w') : MfC bits size true false sh false true wid prec verb R true := fun w => by
  have hbA : Below w.heap.size w (w.alloc (.cells #[.bool true, .bool false, .bool sh, .bool false, .bool true, .int .i64 wid, .int .i64 prec, .int .i32 verb] 26)) := (Below.refl _ _).alloc (Nat.le_refl _) _
  have f0 : ∀ x : Cl (w.alloc (.cells #[.bool true, .bool false, .bool sh, .bool false, .bool true, .int .i64 wid, .int .i64 prec, .int .i32 verb] 26)), x.w.cell? ⟨w.heap.size, 0, none⟩ = some (.bool true) := fun x => x.cell (by simp)
  have f1 : ∀ x : Cl (w.alloc (.cells #[.bool true, .bool false, .bool sh, .bool false, .bool true, .int .i64 wid, .int .i64 prec, .int .i32 verb] 26)), x.w.cell? ⟨w.heap.size, 1, none⟩ = some (.bool false) := fun x => x.cell (by simp)
  have f2 : ∀ x : Cl (w.alloc (.cells #[.bool true, .bool false, .bool sh, .bool false, .bool true, .int .i64 wid, .int .i64 prec, .int .i32 verb] 26)), x.w.cell? ⟨w.heap.size, 2, none⟩ = some (.bool sh) := fun x => x.cell (by simp)
  have f3 : ∀ x : Cl (w.alloc (.cells #[.bool true, .bool false, .bool sh, .bool false, .bool true, .int .i64 wid, .int .i64 prec, .int .i32 verb] 26)), x.w.cell? ⟨w.heap.size, 3, none⟩ = some (.bool false) := fun x => x.cell (by simp)
  have f4 : ∀ x : Cl (w.alloc (.cells #[.bool true, .bool false, .bool sh, .bool false, .bool true, .int .i64 wid, .int .i64 prec, .int .i32 verb] 26)), x.w.cell? ⟨w.heap.size, 4, none⟩ = some (.bool true) := fun x => x.cell (by simp)
  have f5 : ∀ x : Cl (w.alloc (.cells #[.bool true, .bool false, .bool sh, .bool false, .bool true, .int .i64 wid, .int .i64 prec, .int .i32 verb] 26)), x.w.cell? ⟨w.heap.size, 5, none⟩ = some (.int .i64 wid) := fun x => x.cell (by simp)
  have f6 : ∀ x : Cl (w.alloc (.cells #[.bool true, .bool false, .bool sh, .bool false, .bool true, .int .i64 wid, .int .i64 prec, .int .i32 verb] 26)), x.w.cell? ⟨w.heap.size, 6, none⟩ = some (.int .i64 prec) := fun x => x.cell (by simp)
  have f7 : ∀ x : Cl (w.alloc (.cells #[.bool true, .bool false, .bool sh, .bool false, .bool true, .int .i64 wid, .int .i64 prec, .int .i32 verb] 26)), x.w.cell? ⟨w.heap.size, 7, none⟩ = some (.int .i32 verb) := fun x => x.cell (by simp)
  go_enter Tryz.func17, Tryz.ntmps17
  go_wp2_with (first
    | (go_at_call 30; (with_reducible refine (hP _).mono ?_); rintro x w0 ⟨rfl, hb0⟩; obtain ⟨y0, rfl⟩ := Cl.start hb0)
    | (go_at_call 15; (with_reducible refine (hV _).mono ?_); rintro x w3 ⟨rfl, hb3⟩; obtain ⟨y3, rfl⟩ := Cl.next hb3)
    | (go_at_call 32; (with_reducible refine (hB _).mono ?_); rintro x w4 ⟨rfl, hb4⟩; obtain ⟨y4, rfl⟩ := Cl.next hb4)
    | (go_at_call 34; (with_reducible refine (hW _).mono ?_); rintro x w2 ⟨rfl, rfl⟩)
    | (go_at_call 33; (with_reducible refine (hZ _).mono ?_); rintro x w2 ⟨rfl, rfl⟩)
    | (go_at_call 31; (with_reducible refine (hPl _).mono ?_); rintro x w5 ⟨rfl, hb5⟩; obtain ⟨y5, rfl⟩ := Cl.next hb5))
  go_returns
  exact ⟨rfl, bel_call hbA y5.below (Nat.le_refl _)⟩
set_option maxRecDepth 1000000 in
set_option maxHeartbeats 4000000 in
theorem mfa_ftt {bits m : Nat} {size x q : Int} {T N L F R : ByteArray} (sh : Bool) (wid prec verb : Int) (hV : MvC verb true) (hP : KpC bits size false m x 0) (hB : BaC bits size m x true false sh true true wid prec verb T) (hT : (T.size : Int) ≤ 200000) (hW : WdC wid q) (hq1 : q ≤ 1000) (hq0 : -1 ≤ q)
    (hZ : ∀ w, Calls Tryz.prog 33 #[.int .i64 (q - 1 - (T.size : Nat))] w fun e w' => e = .returned (.string N) ∧ w' = w) (he : N ++ T = L) (z1 : ¬ 9223372036854775807 < N.size + T.size) (hF : (⟨#[43]⟩ : ByteArray) ++ L = F) (z2 : ¬ 9223372036854775807 < (⟨#[43]⟩ : ByteArray).size + L.size)
    (hPl : ∀ w, Calls Tryz.prog 31 #[.string F, .agg #[.bool true, .bool false, .bool sh, .bool true, .bool true, .int .i64 wid, .int .i64 prec, .int .i32 verb]] w fun e w' => e = .returned (.string R) ∧ Below w.heap.size w w') : MfC bits size true false sh true true wid prec verb R true := fun w => by
  have hbA : Below w.heap.size w (w.alloc (.cells #[.bool true, .bool false, .bool sh, .bool true, .bool true, .int .i64 wid, .int .i64 prec, .int .i32 verb] 26)) := (Below.refl _ _).alloc (Nat.le_refl _) _
  have f0 : ∀ x : Cl (w.alloc (.cells #[.bool true, .bool false, .bool sh, .bool true, .bool true, .int .i64 wid, .int .i64 prec, .int .i32 verb] 26)), x.w.cell? ⟨w.heap.size, 0, none⟩ = some (.bool true) := fun x => x.cell (by simp)
  have f1 : ∀ x : Cl (w.alloc (.cells #[.bool true, .bool false, .bool sh, .bool true, .bool true, .int .i64 wid, .int .i64 prec, .int .i32 verb] 26)), x.w.cell? ⟨w.heap.size, 1, none⟩ = some (.bool false) := fun x => x.cell (by simp)
  have f2 : ∀ x : Cl (w.alloc (.cells #[.bool true, .bool false, .bool sh, .bool true, .bool true, .int .i64 wid, .int .i64 prec, .int .i32 verb] 26)), x.w.cell? ⟨w.heap.size, 2, none⟩ = some (.bool sh) := fun x => x.cell (by simp)
  have f3 : ∀ x : Cl (w.alloc (.cells #[.bool true, .bool false, .bool sh, .bool true, .bool true, .int .i64 wid, .int .i64 prec, .int .i32 verb] 26)), x.w.cell? ⟨w.heap.size, 3, none⟩ = some (.bool true) := fun x => x.cell (by simp)
  have f4 : ∀ x : Cl (w.alloc (.cells #[.bool true, .bool false, .bool sh, .bool true, .bool true, .int .i64 wid, .int .i64 prec, .int .i32 verb] 26)), x.w.cell? ⟨w.heap.size, 4, none⟩ = some (.bool true) := fun x => x.cell (by simp)
  have f5 : ∀ x : Cl (w.alloc (.cells #[.bool true, .bool false, .bool sh, .bool true, .bool true, .int .i64 wid, .int .i64 prec, .int .i32 verb] 26)), x.w.cell? ⟨w.heap.size, 5, none⟩ = some (.int .i64 wid) := fun x => x.cell (by simp)
  have f6 : ∀ x : Cl (w.alloc (.cells #[.bool true, .bool false, .bool sh, .bool true, .bool true, .int .i64 wid, .int .i64 prec, .int .i32 verb] 26)), x.w.cell? ⟨w.heap.size, 6, none⟩ = some (.int .i64 prec) := fun x => x.cell (by simp)
  have f7 : ∀ x : Cl (w.alloc (.cells #[.bool true, .bool false, .bool sh, .bool true, .bool true, .int .i64 wid, .int .i64 prec, .int .i32 verb] 26)), x.w.cell? ⟨w.heap.size, 7, none⟩ = some (.int .i32 verb) := fun x => x.cell (by simp)
  go_enter Tryz.func17, Tryz.ntmps17
  go_wp2_with (first
    | (go_at_call 30; (with_reducible refine (hP _).mono ?_); rintro x w0 ⟨rfl, hb0⟩; obtain ⟨y0, rfl⟩ := Cl.start hb0)
    | (go_at_call 15; (with_reducible refine (hV _).mono ?_); rintro x w3 ⟨rfl, hb3⟩; obtain ⟨y3, rfl⟩ := Cl.next hb3)
    | (go_at_call 32; (with_reducible refine (hB _).mono ?_); rintro x w4 ⟨rfl, hb4⟩; obtain ⟨y4, rfl⟩ := Cl.next hb4)
    | (go_at_call 34; (with_reducible refine (hW _).mono ?_); rintro x w2 ⟨rfl, rfl⟩)
    | (go_at_call 33; (with_reducible refine (hZ _).mono ?_); rintro x w2 ⟨rfl, rfl⟩)
    | (go_at_call 31; (with_reducible refine (hPl _).mono ?_); rintro x w5 ⟨rfl, hb5⟩; obtain ⟨y5, rfl⟩ := Cl.next hb5))
  go_returns
  exact ⟨rfl, bel_call hbA y5.below (Nat.le_refl _)⟩
set_option maxRecDepth 1000000 in
set_option maxHeartbeats 4000000 in
theorem mfa_tff {bits m : Nat} {size x q : Int} {T N L F R : ByteArray} (sh : Bool) (wid prec verb : Int) (hV : MvC verb true) (hP : KpC bits size true m x 0) (hB : BaC bits size m x false false sh false true wid prec verb T) (hT : (T.size : Int) ≤ 200000) (hW : WdC wid q) (hq1 : q ≤ 1000) (hq0 : -1 ≤ q)
    (hZ : ∀ w, Calls Tryz.prog 33 #[.int .i64 (q - 1 - (T.size : Nat))] w fun e w' => e = .returned (.string N) ∧ w' = w) (he : N ++ T = L) (z1 : ¬ 9223372036854775807 < N.size + T.size) (hF : (⟨#[45]⟩ : ByteArray) ++ L = F) (z2 : ¬ 9223372036854775807 < (⟨#[45]⟩ : ByteArray).size + L.size)
    (hPl : ∀ w, Calls Tryz.prog 31 #[.string F, .agg #[.bool false, .bool false, .bool sh, .bool false, .bool true, .int .i64 wid, .int .i64 prec, .int .i32 verb]] w fun e w' => e = .returned (.string R) ∧ Below w.heap.size w w') : MfC bits size false false sh false true wid prec verb R true := fun w => by
  have hbA : Below w.heap.size w (w.alloc (.cells #[.bool false, .bool false, .bool sh, .bool false, .bool true, .int .i64 wid, .int .i64 prec, .int .i32 verb] 26)) := (Below.refl _ _).alloc (Nat.le_refl _) _
  have f0 : ∀ x : Cl (w.alloc (.cells #[.bool false, .bool false, .bool sh, .bool false, .bool true, .int .i64 wid, .int .i64 prec, .int .i32 verb] 26)), x.w.cell? ⟨w.heap.size, 0, none⟩ = some (.bool false) := fun x => x.cell (by simp)
  have f1 : ∀ x : Cl (w.alloc (.cells #[.bool false, .bool false, .bool sh, .bool false, .bool true, .int .i64 wid, .int .i64 prec, .int .i32 verb] 26)), x.w.cell? ⟨w.heap.size, 1, none⟩ = some (.bool false) := fun x => x.cell (by simp)
  have f2 : ∀ x : Cl (w.alloc (.cells #[.bool false, .bool false, .bool sh, .bool false, .bool true, .int .i64 wid, .int .i64 prec, .int .i32 verb] 26)), x.w.cell? ⟨w.heap.size, 2, none⟩ = some (.bool sh) := fun x => x.cell (by simp)
  have f3 : ∀ x : Cl (w.alloc (.cells #[.bool false, .bool false, .bool sh, .bool false, .bool true, .int .i64 wid, .int .i64 prec, .int .i32 verb] 26)), x.w.cell? ⟨w.heap.size, 3, none⟩ = some (.bool false) := fun x => x.cell (by simp)
  have f4 : ∀ x : Cl (w.alloc (.cells #[.bool false, .bool false, .bool sh, .bool false, .bool true, .int .i64 wid, .int .i64 prec, .int .i32 verb] 26)), x.w.cell? ⟨w.heap.size, 4, none⟩ = some (.bool true) := fun x => x.cell (by simp)
  have f5 : ∀ x : Cl (w.alloc (.cells #[.bool false, .bool false, .bool sh, .bool false, .bool true, .int .i64 wid, .int .i64 prec, .int .i32 verb] 26)), x.w.cell? ⟨w.heap.size, 5, none⟩ = some (.int .i64 wid) := fun x => x.cell (by simp)
  have f6 : ∀ x : Cl (w.alloc (.cells #[.bool false, .bool false, .bool sh, .bool false, .bool true, .int .i64 wid, .int .i64 prec, .int .i32 verb] 26)), x.w.cell? ⟨w.heap.size, 6, none⟩ = some (.int .i64 prec) := fun x => x.cell (by simp)
  have f7 : ∀ x : Cl (w.alloc (.cells #[.bool false, .bool false, .bool sh, .bool false, .bool true, .int .i64 wid, .int .i64 prec, .int .i32 verb] 26)), x.w.cell? ⟨w.heap.size, 7, none⟩ = some (.int .i32 verb) := fun x => x.cell (by simp)
  go_enter Tryz.func17, Tryz.ntmps17
  go_wp2_with (first
    | (go_at_call 30; (with_reducible refine (hP _).mono ?_); rintro x w0 ⟨rfl, hb0⟩; obtain ⟨y0, rfl⟩ := Cl.start hb0)
    | (go_at_call 15; (with_reducible refine (hV _).mono ?_); rintro x w3 ⟨rfl, hb3⟩; obtain ⟨y3, rfl⟩ := Cl.next hb3)
    | (go_at_call 32; (with_reducible refine (hB _).mono ?_); rintro x w4 ⟨rfl, hb4⟩; obtain ⟨y4, rfl⟩ := Cl.next hb4)
    | (go_at_call 34; (with_reducible refine (hW _).mono ?_); rintro x w2 ⟨rfl, rfl⟩)
    | (go_at_call 33; (with_reducible refine (hZ _).mono ?_); rintro x w2 ⟨rfl, rfl⟩)
    | (go_at_call 31; (with_reducible refine (hPl _).mono ?_); rintro x w5 ⟨rfl, hb5⟩; obtain ⟨y5, rfl⟩ := Cl.next hb5))
  go_returns
  exact ⟨rfl, bel_call hbA y5.below (Nat.le_refl _)⟩
set_option maxRecDepth 1000000 in
set_option maxHeartbeats 4000000 in
theorem mfa_tft {bits m : Nat} {size x q : Int} {T N L F R : ByteArray} (sh : Bool) (wid prec verb : Int) (hV : MvC verb true) (hP : KpC bits size true m x 0) (hB : BaC bits size m x false false sh true true wid prec verb T) (hT : (T.size : Int) ≤ 200000) (hW : WdC wid q) (hq1 : q ≤ 1000) (hq0 : -1 ≤ q)
    (hZ : ∀ w, Calls Tryz.prog 33 #[.int .i64 (q - 1 - (T.size : Nat))] w fun e w' => e = .returned (.string N) ∧ w' = w) (he : N ++ T = L) (z1 : ¬ 9223372036854775807 < N.size + T.size) (hF : (⟨#[45]⟩ : ByteArray) ++ L = F) (z2 : ¬ 9223372036854775807 < (⟨#[45]⟩ : ByteArray).size + L.size)
    (hPl : ∀ w, Calls Tryz.prog 31 #[.string F, .agg #[.bool false, .bool false, .bool sh, .bool true, .bool true, .int .i64 wid, .int .i64 prec, .int .i32 verb]] w fun e w' => e = .returned (.string R) ∧ Below w.heap.size w w') : MfC bits size false false sh true true wid prec verb R true := fun w => by
  have hbA : Below w.heap.size w (w.alloc (.cells #[.bool false, .bool false, .bool sh, .bool true, .bool true, .int .i64 wid, .int .i64 prec, .int .i32 verb] 26)) := (Below.refl _ _).alloc (Nat.le_refl _) _
  have f0 : ∀ x : Cl (w.alloc (.cells #[.bool false, .bool false, .bool sh, .bool true, .bool true, .int .i64 wid, .int .i64 prec, .int .i32 verb] 26)), x.w.cell? ⟨w.heap.size, 0, none⟩ = some (.bool false) := fun x => x.cell (by simp)
  have f1 : ∀ x : Cl (w.alloc (.cells #[.bool false, .bool false, .bool sh, .bool true, .bool true, .int .i64 wid, .int .i64 prec, .int .i32 verb] 26)), x.w.cell? ⟨w.heap.size, 1, none⟩ = some (.bool false) := fun x => x.cell (by simp)
  have f2 : ∀ x : Cl (w.alloc (.cells #[.bool false, .bool false, .bool sh, .bool true, .bool true, .int .i64 wid, .int .i64 prec, .int .i32 verb] 26)), x.w.cell? ⟨w.heap.size, 2, none⟩ = some (.bool sh) := fun x => x.cell (by simp)
  have f3 : ∀ x : Cl (w.alloc (.cells #[.bool false, .bool false, .bool sh, .bool true, .bool true, .int .i64 wid, .int .i64 prec, .int .i32 verb] 26)), x.w.cell? ⟨w.heap.size, 3, none⟩ = some (.bool true) := fun x => x.cell (by simp)
  have f4 : ∀ x : Cl (w.alloc (.cells #[.bool false, .bool false, .bool sh, .bool true, .bool true, .int .i64 wid, .int .i64 prec, .int .i32 verb] 26)), x.w.cell? ⟨w.heap.size, 4, none⟩ = some (.bool true) := fun x => x.cell (by simp)
  have f5 : ∀ x : Cl (w.alloc (.cells #[.bool false, .bool false, .bool sh, .bool true, .bool true, .int .i64 wid, .int .i64 prec, .int .i32 verb] 26)), x.w.cell? ⟨w.heap.size, 5, none⟩ = some (.int .i64 wid) := fun x => x.cell (by simp)
  have f6 : ∀ x : Cl (w.alloc (.cells #[.bool false, .bool false, .bool sh, .bool true, .bool true, .int .i64 wid, .int .i64 prec, .int .i32 verb] 26)), x.w.cell? ⟨w.heap.size, 6, none⟩ = some (.int .i64 prec) := fun x => x.cell (by simp)
  have f7 : ∀ x : Cl (w.alloc (.cells #[.bool false, .bool false, .bool sh, .bool true, .bool true, .int .i64 wid, .int .i64 prec, .int .i32 verb] 26)), x.w.cell? ⟨w.heap.size, 7, none⟩ = some (.int .i32 verb) := fun x => x.cell (by simp)
  go_enter Tryz.func17, Tryz.ntmps17
  go_wp2_with (first
    | (go_at_call 30; (with_reducible refine (hP _).mono ?_); rintro x w0 ⟨rfl, hb0⟩; obtain ⟨y0, rfl⟩ := Cl.start hb0)
    | (go_at_call 15; (with_reducible refine (hV _).mono ?_); rintro x w3 ⟨rfl, hb3⟩; obtain ⟨y3, rfl⟩ := Cl.next hb3)
    | (go_at_call 32; (with_reducible refine (hB _).mono ?_); rintro x w4 ⟨rfl, hb4⟩; obtain ⟨y4, rfl⟩ := Cl.next hb4)
    | (go_at_call 34; (with_reducible refine (hW _).mono ?_); rintro x w2 ⟨rfl, rfl⟩)
    | (go_at_call 33; (with_reducible refine (hZ _).mono ?_); rintro x w2 ⟨rfl, rfl⟩)
    | (go_at_call 31; (with_reducible refine (hPl _).mono ?_); rintro x w5 ⟨rfl, hb5⟩; obtain ⟨y5, rfl⟩ := Cl.next hb5))
  go_returns
  exact ⟨rfl, bel_call hbA y5.below (Nat.le_refl _)⟩
set_option maxRecDepth 1000000 in
set_option maxHeartbeats 4000000 in
theorem mfa_ttf {bits m : Nat} {size x q : Int} {T N L F R : ByteArray} (sh : Bool) (wid prec verb : Int) (hV : MvC verb true) (hP : KpC bits size true m x 0) (hB : BaC bits size m x true false sh false true wid prec verb T) (hT : (T.size : Int) ≤ 200000) (hW : WdC wid q) (hq1 : q ≤ 1000) (hq0 : -1 ≤ q)
    (hZ : ∀ w, Calls Tryz.prog 33 #[.int .i64 (q - 1 - (T.size : Nat))] w fun e w' => e = .returned (.string N) ∧ w' = w) (he : N ++ T = L) (z1 : ¬ 9223372036854775807 < N.size + T.size) (hF : (⟨#[45]⟩ : ByteArray) ++ L = F) (z2 : ¬ 9223372036854775807 < (⟨#[45]⟩ : ByteArray).size + L.size)
    (hPl : ∀ w, Calls Tryz.prog 31 #[.string F, .agg #[.bool true, .bool false, .bool sh, .bool false, .bool true, .int .i64 wid, .int .i64 prec, .int .i32 verb]] w fun e w' => e = .returned (.string R) ∧ Below w.heap.size w w') : MfC bits size true false sh false true wid prec verb R true := fun w => by
  have hbA : Below w.heap.size w (w.alloc (.cells #[.bool true, .bool false, .bool sh, .bool false, .bool true, .int .i64 wid, .int .i64 prec, .int .i32 verb] 26)) := (Below.refl _ _).alloc (Nat.le_refl _) _
  have f0 : ∀ x : Cl (w.alloc (.cells #[.bool true, .bool false, .bool sh, .bool false, .bool true, .int .i64 wid, .int .i64 prec, .int .i32 verb] 26)), x.w.cell? ⟨w.heap.size, 0, none⟩ = some (.bool true) := fun x => x.cell (by simp)
  have f1 : ∀ x : Cl (w.alloc (.cells #[.bool true, .bool false, .bool sh, .bool false, .bool true, .int .i64 wid, .int .i64 prec, .int .i32 verb] 26)), x.w.cell? ⟨w.heap.size, 1, none⟩ = some (.bool false) := fun x => x.cell (by simp)
  have f2 : ∀ x : Cl (w.alloc (.cells #[.bool true, .bool false, .bool sh, .bool false, .bool true, .int .i64 wid, .int .i64 prec, .int .i32 verb] 26)), x.w.cell? ⟨w.heap.size, 2, none⟩ = some (.bool sh) := fun x => x.cell (by simp)
  have f3 : ∀ x : Cl (w.alloc (.cells #[.bool true, .bool false, .bool sh, .bool false, .bool true, .int .i64 wid, .int .i64 prec, .int .i32 verb] 26)), x.w.cell? ⟨w.heap.size, 3, none⟩ = some (.bool false) := fun x => x.cell (by simp)
  have f4 : ∀ x : Cl (w.alloc (.cells #[.bool true, .bool false, .bool sh, .bool false, .bool true, .int .i64 wid, .int .i64 prec, .int .i32 verb] 26)), x.w.cell? ⟨w.heap.size, 4, none⟩ = some (.bool true) := fun x => x.cell (by simp)
  have f5 : ∀ x : Cl (w.alloc (.cells #[.bool true, .bool false, .bool sh, .bool false, .bool true, .int .i64 wid, .int .i64 prec, .int .i32 verb] 26)), x.w.cell? ⟨w.heap.size, 5, none⟩ = some (.int .i64 wid) := fun x => x.cell (by simp)
  have f6 : ∀ x : Cl (w.alloc (.cells #[.bool true, .bool false, .bool sh, .bool false, .bool true, .int .i64 wid, .int .i64 prec, .int .i32 verb] 26)), x.w.cell? ⟨w.heap.size, 6, none⟩ = some (.int .i64 prec) := fun x => x.cell (by simp)
  have f7 : ∀ x : Cl (w.alloc (.cells #[.bool true, .bool false, .bool sh, .bool false, .bool true, .int .i64 wid, .int .i64 prec, .int .i32 verb] 26)), x.w.cell? ⟨w.heap.size, 7, none⟩ = some (.int .i32 verb) := fun x => x.cell (by simp)
  go_enter Tryz.func17, Tryz.ntmps17
  go_wp2_with (first
    | (go_at_call 30; (with_reducible refine (hP _).mono ?_); rintro x w0 ⟨rfl, hb0⟩; obtain ⟨y0, rfl⟩ := Cl.start hb0)
    | (go_at_call 15; (with_reducible refine (hV _).mono ?_); rintro x w3 ⟨rfl, hb3⟩; obtain ⟨y3, rfl⟩ := Cl.next hb3)
    | (go_at_call 32; (with_reducible refine (hB _).mono ?_); rintro x w4 ⟨rfl, hb4⟩; obtain ⟨y4, rfl⟩ := Cl.next hb4)
    | (go_at_call 34; (with_reducible refine (hW _).mono ?_); rintro x w2 ⟨rfl, rfl⟩)
    | (go_at_call 33; (with_reducible refine (hZ _).mono ?_); rintro x w2 ⟨rfl, rfl⟩)
    | (go_at_call 31; (with_reducible refine (hPl _).mono ?_); rintro x w5 ⟨rfl, hb5⟩; obtain ⟨y5, rfl⟩ := Cl.next hb5))
  go_returns
  exact ⟨rfl, bel_call hbA y5.below (Nat.le_refl _)⟩
set_option maxRecDepth 1000000 in
set_option maxHeartbeats 4000000 in
theorem mfa_ttt {bits m : Nat} {size x q : Int} {T N L F R : ByteArray} (sh : Bool) (wid prec verb : Int) (hV : MvC verb true) (hP : KpC bits size true m x 0) (hB : BaC bits size m x true false sh true true wid prec verb T) (hT : (T.size : Int) ≤ 200000) (hW : WdC wid q) (hq1 : q ≤ 1000) (hq0 : -1 ≤ q)
    (hZ : ∀ w, Calls Tryz.prog 33 #[.int .i64 (q - 1 - (T.size : Nat))] w fun e w' => e = .returned (.string N) ∧ w' = w) (he : N ++ T = L) (z1 : ¬ 9223372036854775807 < N.size + T.size) (hF : (⟨#[45]⟩ : ByteArray) ++ L = F) (z2 : ¬ 9223372036854775807 < (⟨#[45]⟩ : ByteArray).size + L.size)
    (hPl : ∀ w, Calls Tryz.prog 31 #[.string F, .agg #[.bool true, .bool false, .bool sh, .bool true, .bool true, .int .i64 wid, .int .i64 prec, .int .i32 verb]] w fun e w' => e = .returned (.string R) ∧ Below w.heap.size w w') : MfC bits size true false sh true true wid prec verb R true := fun w => by
  have hbA : Below w.heap.size w (w.alloc (.cells #[.bool true, .bool false, .bool sh, .bool true, .bool true, .int .i64 wid, .int .i64 prec, .int .i32 verb] 26)) := (Below.refl _ _).alloc (Nat.le_refl _) _
  have f0 : ∀ x : Cl (w.alloc (.cells #[.bool true, .bool false, .bool sh, .bool true, .bool true, .int .i64 wid, .int .i64 prec, .int .i32 verb] 26)), x.w.cell? ⟨w.heap.size, 0, none⟩ = some (.bool true) := fun x => x.cell (by simp)
  have f1 : ∀ x : Cl (w.alloc (.cells #[.bool true, .bool false, .bool sh, .bool true, .bool true, .int .i64 wid, .int .i64 prec, .int .i32 verb] 26)), x.w.cell? ⟨w.heap.size, 1, none⟩ = some (.bool false) := fun x => x.cell (by simp)
  have f2 : ∀ x : Cl (w.alloc (.cells #[.bool true, .bool false, .bool sh, .bool true, .bool true, .int .i64 wid, .int .i64 prec, .int .i32 verb] 26)), x.w.cell? ⟨w.heap.size, 2, none⟩ = some (.bool sh) := fun x => x.cell (by simp)
  have f3 : ∀ x : Cl (w.alloc (.cells #[.bool true, .bool false, .bool sh, .bool true, .bool true, .int .i64 wid, .int .i64 prec, .int .i32 verb] 26)), x.w.cell? ⟨w.heap.size, 3, none⟩ = some (.bool true) := fun x => x.cell (by simp)
  have f4 : ∀ x : Cl (w.alloc (.cells #[.bool true, .bool false, .bool sh, .bool true, .bool true, .int .i64 wid, .int .i64 prec, .int .i32 verb] 26)), x.w.cell? ⟨w.heap.size, 4, none⟩ = some (.bool true) := fun x => x.cell (by simp)
  have f5 : ∀ x : Cl (w.alloc (.cells #[.bool true, .bool false, .bool sh, .bool true, .bool true, .int .i64 wid, .int .i64 prec, .int .i32 verb] 26)), x.w.cell? ⟨w.heap.size, 5, none⟩ = some (.int .i64 wid) := fun x => x.cell (by simp)
  have f6 : ∀ x : Cl (w.alloc (.cells #[.bool true, .bool false, .bool sh, .bool true, .bool true, .int .i64 wid, .int .i64 prec, .int .i32 verb] 26)), x.w.cell? ⟨w.heap.size, 6, none⟩ = some (.int .i64 prec) := fun x => x.cell (by simp)
  have f7 : ∀ x : Cl (w.alloc (.cells #[.bool true, .bool false, .bool sh, .bool true, .bool true, .int .i64 wid, .int .i64 prec, .int .i32 verb] 26)), x.w.cell? ⟨w.heap.size, 7, none⟩ = some (.int .i32 verb) := fun x => x.cell (by simp)
  go_enter Tryz.func17, Tryz.ntmps17
  go_wp2_with (first
    | (go_at_call 30; (with_reducible refine (hP _).mono ?_); rintro x w0 ⟨rfl, hb0⟩; obtain ⟨y0, rfl⟩ := Cl.start hb0)
    | (go_at_call 15; (with_reducible refine (hV _).mono ?_); rintro x w3 ⟨rfl, hb3⟩; obtain ⟨y3, rfl⟩ := Cl.next hb3)
    | (go_at_call 32; (with_reducible refine (hB _).mono ?_); rintro x w4 ⟨rfl, hb4⟩; obtain ⟨y4, rfl⟩ := Cl.next hb4)
    | (go_at_call 34; (with_reducible refine (hW _).mono ?_); rintro x w2 ⟨rfl, rfl⟩)
    | (go_at_call 33; (with_reducible refine (hZ _).mono ?_); rintro x w2 ⟨rfl, rfl⟩)
    | (go_at_call 31; (with_reducible refine (hPl _).mono ?_); rintro x w5 ⟨rfl, hb5⟩; obtain ⟨y5, rfl⟩ := Cl.next hb5))
  go_returns
  exact ⟨rfl, bel_call hbA y5.below (Nat.le_refl _)⟩
theorem mfl_fin_a {bits m : Nat} {size x : Int} {sg : Bool} {T : ByteArray} (p sh sp : Bool) (wid prec verb : Int) (hV : MvC verb true) (hP : KpC bits size sg m x 0) (hB : BaC bits size m x p false sh sp true wid prec verb T) (hT : T.size ≤ 200000) : MfC bits size p false sh sp true wid prec verb (filT (sgF sg p sp) T false true wid) true := by
  have hs := sgF_size sg p sp
  have hwd := wdE_facts wid
  have hwl := wdt_le wid
  have hW : WdC wid (wdE wid) := fun w => rwidth_any wid w
  have hl := lnA_size T ((wdt wid : Nat) - ((sgF sg p sp).size : Nat))
  have he : run 48 (wdE wid - ((sgF sg p sp).size : Nat) - (T.size : Nat)).toNat ++ T = lnA T ((wdt wid : Nat) - ((sgF sg p sp).size : Nat)) := by
    unfold lnA
    congr 2
    unfold wdE wdt
    split <;> omega
  have hZ : ∀ w, Calls Tryz.prog 33 #[.int .i64 (wdE wid - ((sgF sg p sp).size : Nat) - (T.size : Nat))] w fun e w' => e = .returned (.string (run 48 (wdE wid - ((sgF sg p sp).size : Nat) - (T.size : Nat)).toNat)) ∧ w' = w := fun w => mzeros_any _ w (by omega)
  have hzr : (run 48 (wdE wid - ((sgF sg p sp).size : Nat) - (T.size : Nat)).toNat).size ≤ 1000 := by rw [run_size]; omega
  have eF : filT (sgF sg p sp) T false true wid = padS (sgF sg p sp ++ lnA T ((wdt wid : Nat) - ((sgF sg p sp).size : Nat))) false false wid := by unfold filT; rw [if_pos ⟨rfl, rfl⟩]
  rw [eF]
  have hPl : ∀ w, Calls Tryz.prog 31 #[.string (sgF sg p sp ++ lnA T ((wdt wid : Nat) - ((sgF sg p sp).size : Nat))), .agg #[.bool p, .bool false, .bool sh, .bool sp, .bool true, .int .i64 wid, .int .i64 prec, .int .i32 verb]] w fun e w' => e = .returned (.string (padS (sgF sg p sp ++ lnA T ((wdt wid : Nat) - ((sgF sg p sp).size : Nat))) false false wid)) ∧ Below w.heap.size w w' := fun w => rplain_any _ p false sh sp true wid prec verb w (by rw [app_size]; omega)
  have z1 : ¬ 9223372036854775807 < (run 48 (wdE wid - ((sgF sg p sp).size : Nat) - (T.size : Nat)).toNat).size + T.size := by omega
  have z2 : ¬ 9223372036854775807 < (sgF sg p sp).size + (lnA T ((wdt wid : Nat) - ((sgF sg p sp).size : Nat))).size := by omega
  have hb1 : wdE wid ≤ 1000 := hwd.1
  have hb0 : -1 ≤ wdE wid := hwd.2.1
  have hTI : (T.size : Int) ≤ 200000 := by omega
  generalize wdE wid = q at *
  cases sg <;> cases p <;> cases sp
  · exact mfa_fff sh wid prec verb hV hP hB hTI hW hb1 hb0 (by have e : q - ((sgF false false false).size : Nat) - (T.size : Nat) = q - (T.size : Nat) := (by rw [show (sgF false false false).size = 0 from rfl]; omega); rw [e] at hZ; exact hZ) (by have e : q - ((sgF false false false).size : Nat) - (T.size : Nat) = q - (T.size : Nat) := (by rw [show (sgF false false false).size = 0 from rfl]; omega); rw [e] at he; exact he) (by have e : q - ((sgF false false false).size : Nat) - (T.size : Nat) = q - (T.size : Nat) := (by rw [show (sgF false false false).size = 0 from rfl]; omega); rw [e] at z1; exact z1) rfl z2 hPl
  · exact mfa_fft sh wid prec verb hV hP hB hTI hW hb1 hb0 hZ he z1 rfl z2 hPl
  · exact mfa_ftf sh wid prec verb hV hP hB hTI hW hb1 hb0 hZ he z1 rfl z2 hPl
  · exact mfa_ftt sh wid prec verb hV hP hB hTI hW hb1 hb0 hZ he z1 rfl z2 hPl
  · exact mfa_tff sh wid prec verb hV hP hB hTI hW hb1 hb0 hZ he z1 rfl z2 hPl
  · exact mfa_tft sh wid prec verb hV hP hB hTI hW hb1 hb0 hZ he z1 rfl z2 hPl
  · exact mfa_ttf sh wid prec verb hV hP hB hTI hW hb1 hb0 hZ he z1 rfl z2 hPl
  · exact mfa_ttt sh wid prec verb hV hP hB hTI hW hb1 hb0 hZ he z1 rfl z2 hPl
end Go.Proofs.YthbabhbfpcfenaaGreatDoor

/- The document's Float at a finite number, without Zero. -/
namespace Go.Proofs.YthbabhbfpcfenaaGreatDoor
open Go.RowKit
set_option linter.unusedVariables false
set_option linter.unusedSimpArgs false

set_option maxRecDepth 1000000 in
set_option maxHeartbeats 20000000 in
theorem mfl_fin_b {bits m : Nat} {size x : Int} {sg : Bool} {T : ByteArray} (p mi sh sp : Bool) (wid prec verb : Int) (hV : MvC verb true) (hP : KpC bits size sg m x 0) (hB : BaC bits size m x p mi sh sp false wid prec verb T) (hT : T.size ≤ 200000) : MfC bits size p mi sh sp false wid prec verb (filT (sgF sg p sp) T mi false wid) true := fun w => by
  have hbA : Below w.heap.size w (w.alloc (.cells #[.bool p, .bool mi, .bool sh, .bool sp, .bool false, .int .i64 wid, .int .i64 prec, .int .i32 verb] 26)) := (Below.refl _ _).alloc (Nat.le_refl _) _
  have f0 : ∀ x : Cl (w.alloc (.cells #[.bool p, .bool mi, .bool sh, .bool sp, .bool false, .int .i64 wid, .int .i64 prec, .int .i32 verb] 26)), x.w.cell? ⟨w.heap.size, 0, none⟩ = some (.bool p) := fun x => x.cell (by simp)
  have f1 : ∀ x : Cl (w.alloc (.cells #[.bool p, .bool mi, .bool sh, .bool sp, .bool false, .int .i64 wid, .int .i64 prec, .int .i32 verb] 26)), x.w.cell? ⟨w.heap.size, 1, none⟩ = some (.bool mi) := fun x => x.cell (by simp)
  have f2 : ∀ x : Cl (w.alloc (.cells #[.bool p, .bool mi, .bool sh, .bool sp, .bool false, .int .i64 wid, .int .i64 prec, .int .i32 verb] 26)), x.w.cell? ⟨w.heap.size, 2, none⟩ = some (.bool sh) := fun x => x.cell (by simp)
  have f3 : ∀ x : Cl (w.alloc (.cells #[.bool p, .bool mi, .bool sh, .bool sp, .bool false, .int .i64 wid, .int .i64 prec, .int .i32 verb] 26)), x.w.cell? ⟨w.heap.size, 3, none⟩ = some (.bool sp) := fun x => x.cell (by simp)
  have f4 : ∀ x : Cl (w.alloc (.cells #[.bool p, .bool mi, .bool sh, .bool sp, .bool false, .int .i64 wid, .int .i64 prec, .int .i32 verb] 26)), x.w.cell? ⟨w.heap.size, 4, none⟩ = some (.bool false) := fun x => x.cell (by simp)
  have f5 : ∀ x : Cl (w.alloc (.cells #[.bool p, .bool mi, .bool sh, .bool sp, .bool false, .int .i64 wid, .int .i64 prec, .int .i32 verb] 26)), x.w.cell? ⟨w.heap.size, 5, none⟩ = some (.int .i64 wid) := fun x => x.cell (by simp)
  have f6 : ∀ x : Cl (w.alloc (.cells #[.bool p, .bool mi, .bool sh, .bool sp, .bool false, .int .i64 wid, .int .i64 prec, .int .i32 verb] 26)), x.w.cell? ⟨w.heap.size, 6, none⟩ = some (.int .i64 prec) := fun x => x.cell (by simp)
  have f7 : ∀ x : Cl (w.alloc (.cells #[.bool p, .bool mi, .bool sh, .bool sp, .bool false, .int .i64 wid, .int .i64 prec, .int .i32 verb] 26)), x.w.cell? ⟨w.heap.size, 7, none⟩ = some (.int .i32 verb) := fun x => x.cell (by simp)
  have hs := sgF_size sg p sp
  have eF : filT (sgF sg p sp) T mi false wid = padS (sgF sg p sp ++ T) mi false wid := by unfold filT; rw [if_neg (by simp)]
  rw [eF]
  have hPl : ∀ w, Calls Tryz.prog 31 #[.string (sgF sg p sp ++ T), .agg #[.bool p, .bool mi, .bool sh, .bool sp, .bool false, .int .i64 wid, .int .i64 prec, .int .i32 verb]] w fun e w' => e = .returned (.string (padS (sgF sg p sp ++ T) mi false wid)) ∧ Below w.heap.size w w' := fun w => rplain_any _ p mi sh sp false wid prec verb w (by rw [app_size]; omega)
  have z2 : ¬ 9223372036854775807 < (sgF sg p sp).size + T.size := by omega
  clear eF
  generalize padS (sgF sg p sp ++ T) mi false wid = R at *
  obtain ⟨F, hF⟩ : ∃ F, sgF sg p sp ++ T = F := ⟨_, rfl⟩
  rw [hF] at hPl
  cases sg <;> cases p <;> cases sp
  all_goals
    simp only [sgF, signA, Bool.false_eq_true, if_true, if_false, ↓reduceIte] at hF z2 hs
    go_enter Tryz.func17, Tryz.ntmps17
    go_wp2_with (first
      | (go_at_call 30; (with_reducible refine (hP _).mono ?_); rintro x w0 ⟨rfl, hb0⟩; obtain ⟨y0, rfl⟩ := Cl.start hb0)
      | (go_at_call 15; (with_reducible refine (hV _).mono ?_); rintro x w3 ⟨rfl, hb3⟩; obtain ⟨y3, rfl⟩ := Cl.next hb3)
      | (go_at_call 32; (with_reducible refine (hB _).mono ?_); rintro x w4 ⟨rfl, hb4⟩; obtain ⟨y4, rfl⟩ := Cl.next hb4)
      | (go_at_call 31; refine (hPl _).mono ?_; rintro x w5 ⟨rfl, hb5⟩; obtain ⟨y5, rfl⟩ := Cl.next hb5))
    go_returns
    exact ⟨rfl, bel_call hbA y5.below (Nat.le_refl _)⟩
end Go.Proofs.YthbabhbfpcfenaaGreatDoor

/- The document's Float at a finite number, with Zero and Minus. -/
namespace Go.Proofs.YthbabhbfpcfenaaGreatDoor
open Go.RowKit
set_option linter.unusedVariables false
set_option linter.unusedSimpArgs false

set_option maxRecDepth 1000000 in
set_option maxHeartbeats 20000000 in
theorem mfl_fin_c {bits m : Nat} {size x : Int} {sg : Bool} {T : ByteArray} (p sh sp : Bool) (wid prec verb : Int) (hV : MvC verb true) (hP : KpC bits size sg m x 0) (hB : BaC bits size m x p true sh sp true wid prec verb T) (hT : T.size ≤ 200000) : MfC bits size p true sh sp true wid prec verb (filT (sgF sg p sp) T true true wid) true := fun w => by
  have hbA : Below w.heap.size w (w.alloc (.cells #[.bool p, .bool true, .bool sh, .bool sp, .bool true, .int .i64 wid, .int .i64 prec, .int .i32 verb] 26)) := (Below.refl _ _).alloc (Nat.le_refl _) _
  have f0 : ∀ x : Cl (w.alloc (.cells #[.bool p, .bool true, .bool sh, .bool sp, .bool true, .int .i64 wid, .int .i64 prec, .int .i32 verb] 26)), x.w.cell? ⟨w.heap.size, 0, none⟩ = some (.bool p) := fun x => x.cell (by simp)
  have f1 : ∀ x : Cl (w.alloc (.cells #[.bool p, .bool true, .bool sh, .bool sp, .bool true, .int .i64 wid, .int .i64 prec, .int .i32 verb] 26)), x.w.cell? ⟨w.heap.size, 1, none⟩ = some (.bool true) := fun x => x.cell (by simp)
  have f2 : ∀ x : Cl (w.alloc (.cells #[.bool p, .bool true, .bool sh, .bool sp, .bool true, .int .i64 wid, .int .i64 prec, .int .i32 verb] 26)), x.w.cell? ⟨w.heap.size, 2, none⟩ = some (.bool sh) := fun x => x.cell (by simp)
  have f3 : ∀ x : Cl (w.alloc (.cells #[.bool p, .bool true, .bool sh, .bool sp, .bool true, .int .i64 wid, .int .i64 prec, .int .i32 verb] 26)), x.w.cell? ⟨w.heap.size, 3, none⟩ = some (.bool sp) := fun x => x.cell (by simp)
  have f4 : ∀ x : Cl (w.alloc (.cells #[.bool p, .bool true, .bool sh, .bool sp, .bool true, .int .i64 wid, .int .i64 prec, .int .i32 verb] 26)), x.w.cell? ⟨w.heap.size, 4, none⟩ = some (.bool true) := fun x => x.cell (by simp)
  have f5 : ∀ x : Cl (w.alloc (.cells #[.bool p, .bool true, .bool sh, .bool sp, .bool true, .int .i64 wid, .int .i64 prec, .int .i32 verb] 26)), x.w.cell? ⟨w.heap.size, 5, none⟩ = some (.int .i64 wid) := fun x => x.cell (by simp)
  have f6 : ∀ x : Cl (w.alloc (.cells #[.bool p, .bool true, .bool sh, .bool sp, .bool true, .int .i64 wid, .int .i64 prec, .int .i32 verb] 26)), x.w.cell? ⟨w.heap.size, 6, none⟩ = some (.int .i64 prec) := fun x => x.cell (by simp)
  have f7 : ∀ x : Cl (w.alloc (.cells #[.bool p, .bool true, .bool sh, .bool sp, .bool true, .int .i64 wid, .int .i64 prec, .int .i32 verb] 26)), x.w.cell? ⟨w.heap.size, 7, none⟩ = some (.int .i32 verb) := fun x => x.cell (by simp)
  have hs := sgF_size sg p sp
  have eF : filT (sgF sg p sp) T true true wid = padS (sgF sg p sp ++ T) true false wid := by unfold filT; rw [if_neg (by simp)]
  rw [eF]
  have hPl : ∀ w, Calls Tryz.prog 31 #[.string (sgF sg p sp ++ T), .agg #[.bool p, .bool true, .bool sh, .bool sp, .bool true, .int .i64 wid, .int .i64 prec, .int .i32 verb]] w fun e w' => e = .returned (.string (padS (sgF sg p sp ++ T) true false wid)) ∧ Below w.heap.size w w' := fun w => rplain_any _ p true sh sp true wid prec verb w (by rw [app_size]; omega)
  have z2 : ¬ 9223372036854775807 < (sgF sg p sp).size + T.size := by omega
  clear eF
  generalize padS (sgF sg p sp ++ T) true false wid = R at *
  obtain ⟨F, hF⟩ : ∃ F, sgF sg p sp ++ T = F := ⟨_, rfl⟩
  rw [hF] at hPl
  cases sg <;> cases p <;> cases sp
  all_goals
    simp only [sgF, signA, Bool.false_eq_true, if_true, if_false, ↓reduceIte] at hF z2 hs
    go_enter Tryz.func17, Tryz.ntmps17
    go_wp2_with (first
      | (go_at_call 30; (with_reducible refine (hP _).mono ?_); rintro x w0 ⟨rfl, hb0⟩; obtain ⟨y0, rfl⟩ := Cl.start hb0)
      | (go_at_call 15; (with_reducible refine (hV _).mono ?_); rintro x w3 ⟨rfl, hb3⟩; obtain ⟨y3, rfl⟩ := Cl.next hb3)
      | (go_at_call 32; (with_reducible refine (hB _).mono ?_); rintro x w4 ⟨rfl, hb4⟩; obtain ⟨y4, rfl⟩ := Cl.next hb4)
      | (go_at_call 31; refine (hPl _).mono ?_; rintro x w5 ⟨rfl, hb5⟩; obtain ⟨y5, rfl⟩ := Cl.next hb5))
    go_returns
    exact ⟨rfl, bel_call hbA y5.below (Nat.le_refl _)⟩
end Go.Proofs.YthbabhbfpcfenaaGreatDoor

/- The laws of layer 6 against the document's answer: same, verb. -/
namespace Go.Proofs.YthbabhbfpcfenaaGreatDoor
open Go.RowKit
set_option linter.unusedVariables false
set_option linter.unusedSimpArgs false

theorem mfl_fin {bits m : Nat} {size x : Int} {sg : Bool} {T : ByteArray} (p mi sh sp z : Bool) (wid prec verb : Int) (hV : MvC verb true) (hP : KpC bits size sg m x 0) (hB : BaC bits size m x p mi sh sp z wid prec verb T) (hT : T.size ≤ 200000) : MfC bits size p mi sh sp z wid prec verb (filT (sgF sg p sp) T mi z wid) true := by
  cases z with
  | false => exact mfl_fin_b p mi sh sp wid prec verb hV hP hB hT
  | true =>
    cases mi with
    | false => exact mfl_fin_a p sh sp wid prec verb hV hP hB hT
    | true => exact mfl_fin_c p sh sp wid prec verb hV hP hB hT
theorem kpc_any {bits : Nat} {size : Int} {f ww : Nat} {least : Int} {I : Nat} (h : Ly size f ww least I) (hb : bits < 18446744073709551616) : KpC bits size (sgn f ww bits) (ptM f ww I bits) (ptE f ww I least bits) (ptK f ww I bits) := fun w => kparts_any h hb w
theorem kpc_no {bits : Nat} {size : Int} (h1 : ¬ size = 32) (h2 : ¬ size = 64) : KpC bits size false 0 0 3 := fun w => kparts_size h1 h2 w
/-- What both answer. -/
def SameC (bits : Nat) (size : Int) (p mi sh sp z : Bool) (wid prec verb : Int) : Prop := ∃ s b, FlC bits size p mi sh sp z wid prec verb s b ∧ MfC bits size p mi sh sp z wid prec verb s b
theorem same_none {bits : Nat} {size : Int} (hb : bits < 18446744073709551616) (p mi sh sp z : Bool) (wid prec verb : Int) (h : fVerb verb = false ∨ (¬ size = 32 ∧ ¬ size = 64)) : SameC bits size p mi sh sp z wid prec verb := by
  refine ⟨_, _, float_none hb p mi sh sp z wid prec verb h, ?_⟩
  by_cases hs : size = 32 ∨ size = 64
  · have hv : fVerb verb = false := by rcases h with h | h; · exact h
                                       · omega
    have hV : MvC verb false := by have := mverb_any verb; rw [hv] at this; exact this
    have hk : ∀ f ww I, ¬ ptK f ww I bits = 3 := by intro f ww I; unfold ptK; repeat' split
                                                    all_goals decide
    rcases hs with rfl | rfl
    · exact mfl_verb p mi sh sp z wid prec verb (hk _ _ _) hV (kpc_any lyA hb)
    · exact mfl_verb p mi sh sp z wid prec verb (hk _ _ _) hV (kpc_any lyB hb)
  · exact mfl_size p mi sh sp z wid prec verb (kpc_no (by omega) (by omega))
theorem same_odd {bits : Nat} {size : Int} {f ww : Nat} {least : Int} {I : Nat} (h : Ly size f ww least I) (hb : bits < 18446744073709551616) (hI : I ≤ bare f ww bits) (p mi sh sp z : Bool) (wid prec verb : Int) (hv : fVerb verb = true) : SameC bits size p mi sh sp z wid prec verb := by
  have hV : MvC verb true := by have := mverb_any verb; rw [hv] at this; exact this
  have hpt := kpc_any h hb
  obtain ⟨o1, o2⟩ := float_odd h hb p mi sh sp z wid prec verb hv
  rcases Nat.eq_or_lt_of_le hI with h1 | h1
  · have e3 : ptK f ww I bits = 1 := by unfold ptK; rw [if_neg (by omega), if_pos h1.symm]
    rw [e3] at hpt
    exact ⟨_, _, o1 h1.symm, mfl_inf p mi sh sp z wid prec verb hV hpt⟩
  · have e3 : ptK f ww I bits = 2 := by unfold ptK; rw [if_neg (by omega), if_neg (by omega)]
    rw [e3] at hpt
    exact ⟨_, _, o2 h1, mfl_nan p mi sh sp z wid prec verb hV hpt⟩
/-- A finite number, of which the document's Bare is known. -/
theorem same_fin {bits : Nat} {size : Int} {f ww : Nat} {least : Int} {I : Nat} (h : Ly size f ww least I) (hb : bits < 18446744073709551616) (hp : bare f ww bits < I) (p mi sh sp z : Bool) (wid prec verb : Int) (hv : fVerb verb = true)
    (hB : ∀ d, SH (fun x => RD f I (un least) x (bare f ww bits)) (val f least (bare f ww bits)) d → Good d → FinB bits size (sgn f ww bits) (pm f (bare f ww bits)) (least + pk f (bare f ww bits)) (val f least (bare f ww bits)) d → HxC (pm f (bare f ww bits)) (least + pk f (bare f ww bits)) (oS (val f least (bare f ww bits))) (oP (val f least (bare f ww bits))) → BaC bits size (pm f (bare f ww bits)) (least + pk f (bare f ww bits)) p mi sh sp z wid prec verb (finT sh prec (pm f (bare f ww bits)) (least + pk f (bare f ww bits)) (val f least (bare f ww bits)) d verb)) : SameC bits size p mi sh sp z wid prec verb := by
  obtain ⟨d, hd, gd, hF⟩ := fin_of h hb hp
  have hV : MvC verb true := by have := mverb_any verb; rw [hv] at this; exact this
  have hpt := kpc_any h hb
  have e1 : ptM f ww I bits = pm f (bare f ww bits) := by unfold ptM; rw [if_pos hp]
  have e2 : ptE f ww I least bits = least + pk f (bare f ww bits) := by unfold ptE; rw [if_pos hp]
  have e3 : ptK f ww I bits = 0 := by unfold ptK; rw [if_pos hp]
  rw [e1, e2, e3] at hpt
  obtain ⟨q0, q1, hI, hI2, -, -, -, -, q2⟩ := h.pk
  have q3 := q2 _ hp
  have q4 := h.pm (bare f ww bits)
  have hX : HxC (pm f (bare f ww bits)) (least + pk f (bare f ww bits)) (oS (val f least (bare f ww bits))) (oP (val f least (bare f ww bits))) := hxC (by omega) (by omega) (by omega) (val_ex h hp).1
  have hz := (fin_size (sh := sh) (prec := prec) (e := least + pk f (bare f ww bits)) (verb := verb) hF.fv hF.dl hF.dp hF.m53).2
  exact ⟨_, _, float_fin hF p mi sh sp z wid prec verb hv, mfl_fin p mi sh sp z wid prec verb hV hpt (hB d hd gd hF hX) (by omega)⟩
end Go.Proofs.YthbabhbfpcfenaaGreatDoor
