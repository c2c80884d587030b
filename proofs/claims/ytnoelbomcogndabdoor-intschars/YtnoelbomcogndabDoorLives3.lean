/- The walk of lives of layer 3: the document's examples are as it says. -/
import Derived.Test.YtnoelbomcogndabDoorINumC
namespace Go.Proofs.YtnoelbomcogndabDoor
open Go.RowKit
set_option linter.unusedVariables false

theorem lv3_a : numS (uN (-42)) (Int.natAbs (-42)) (sgS (-42) false false) false false false true 6 4 100 = ⟨#[32, 45, 48, 48, 52, 50]⟩ := by decide +kernel
theorem lv3_b : numS 255 255 (signA false false) false false true true 8 (-1) (uVerb true 120) = ⟨#[48, 120, 48, 48, 48, 48, 102, 102]⟩ := by decide +kernel
theorem lv3_c : numS (uN 65) (Int.natAbs 65) (sgS 65 false false) false false true false (-1) (-1) 85 = ⟨#[85, 43, 48, 48, 52, 49, 32, 39, 65, 39]⟩ := by decide +kernel
theorem lv3_d : (⟨(digS false 2 10).toArray⟩ : ByteArray) = ⟨#[49, 48, 49, 48]⟩ := by decide +kernel

set_option maxRecDepth 1000000 in
set_option maxHeartbeats 400000 in
theorem lives3_any (w : World) (hE : Esc w) :
    Calls Tryd.prog 11 #[] w fun e w' => e = .returned (.bool true) ∧ Below w.heap.size w w' := by
  have hA : ∀ w, Esc w → Calls Tryd.prog 12 #[.int .i64 (-42), .agg #[.bool false, .bool false, .bool false, .bool false, .bool true, .int .i64 6, .int .i64 4, .int .i32 100]] w fun e w' => e = .returned (.tuple #[.string ⟨#[32, 45, 48, 48, 52, 50]⟩, .bool true]) ∧ Below w.heap.size w w' := by
    intro w hE
    have := isigned_any (-42) false false false false true 6 4 100 w hE (by omega) (by omega)
    rw [lv3_a] at this
    exact this
  have hB : ∀ w, Esc w → Calls Tryd.prog 14 #[.int .u64 255, .agg #[.bool false, .bool false, .bool true, .bool false, .bool true, .int .i64 8, .int .i64 (-1), .int .i32 120]] w fun e w' => e = .returned (.tuple #[.string ⟨#[48, 120, 48, 48, 48, 48, 102, 102]⟩, .bool true]) ∧ Below w.heap.size w w' := by
    intro w hE
    have := iunsigned_any 255 false false true false true 8 (-1) 120 w hE (by omega)
    rw [lv3_b] at this
    exact this
  have hC : ∀ w, Esc w → Calls Tryd.prog 12 #[.int .i64 65, .agg #[.bool false, .bool false, .bool true, .bool false, .bool false, .int .i64 (-1), .int .i64 (-1), .int .i32 85]] w fun e w' => e = .returned (.tuple #[.string ⟨#[85, 43, 48, 48, 52, 49, 32, 39, 65, 39]⟩, .bool true]) ∧ Below w.heap.size w w' := by
    intro w hE
    have := isigned_any 65 false false true false false (-1) (-1) 85 w hE (by omega) (by omega)
    rw [lv3_c] at this
    exact this
  have hD : ∀ w, Calls Tryd.prog 9 #[.int .u64 10, .int .i64 2] w fun e w' => e = .returned (.string ⟨#[49, 48, 49, 48]⟩) ∧ Below w.heap.size w w' := by
    intro w
    have := idigits_any 10 2 w (by omega) (by omega)
    rw [lv3_d] at this
    exact this
  have hE1 : ∀ x : Cl w, Esc x.w := fun x => hE.below x.below
  go_enter Tryd.func11, Tryd.ntmps11
  go_wp2_with (first | (go_at_call_of 12 (Value.int IntKind.i32 100); refine (Cl.go0 (hA _ hE)).mono ?_; rintro e w9 ⟨y, rfl, rfl⟩) | (go_at_call_of 12 (Value.int IntKind.i32 85); refine (Cl.go (hC _ (hE1 _))).mono ?_; rintro e w9 ⟨y, rfl, rfl⟩) | (go_at_call 14; refine (Cl.go (hB _ (hE1 _))).mono ?_; rintro e w9 ⟨y, rfl, rfl⟩) | (go_at_call 9; refine (Cl.go (hD _)).mono ?_; rintro e w9 ⟨y, rfl, rfl⟩))
  go_ret
  exact ⟨rfl, y.below⟩
end Go.Proofs.YtnoelbomcogndabDoor
