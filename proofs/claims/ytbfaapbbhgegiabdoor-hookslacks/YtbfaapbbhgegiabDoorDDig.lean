/- The walks of the document's Digit and Digits. -/
import Derived.Test.YtbfaapbbhgegiabDoorHexa
import Derived.Deep.LoopGhost
namespace Go.Proofs.YtbfaapbbhgegiabDoor
open Go.RowKit
set_option linter.unusedVariables false

theorem dig_small (n : Nat) (h : n < 16) : (ByteArray.mk #[48, 49, 50, 51, 52, 53, 54, 55, 56, 57, 97, 98, 99, 100, 101, 102]).extract n (n + 1) = ⟨#[hexB false n]⟩ := by
  have hd : ∀ n, n < 16 → (ByteArray.mk #[48, 49, 50, 51, 52, 53, 54, 55, 56, 57, 97, 98, 99, 100, 101, 102]).extract n (n + 1) = ⟨#[hexB false n]⟩ := by decide +kernel
  exact hd n h
theorem dig_great (n : Nat) (h : n < 16) : (ByteArray.mk #[48, 49, 50, 51, 52, 53, 54, 55, 56, 57, 65, 66, 67, 68, 69, 70]).extract n (n + 1) = ⟨#[hexB true n]⟩ := by
  have hd : ∀ n, n < 16 → (ByteArray.mk #[48, 49, 50, 51, 52, 53, 54, 55, 56, 57, 65, 66, 67, 68, 69, 70]).extract n (n + 1) = ⟨#[hexB true n]⟩ := by decide +kernel
  exact hd n h

set_option maxRecDepth 1000000 in
set_option maxHeartbeats 400000 in
theorem digit_any (n : Nat) (g : Bool) (h : n < 16) (w : World) :
    Calls Tryd.prog 28 #[.int .i64 n, .bool g] w fun e w' => e = .returned (.string ⟨#[hexB g n]⟩) ∧ w' = w := by
  have h1 := dig_small n h
  have h2 := dig_great n h
  have hn : (n : Int) < 16 := by omega
  cases g with
  | true =>
    clear h1
    generalize (⟨#[hexB true n]⟩ : ByteArray) = r at *
    go_enter Tryd.func28, Tryd.ntmps28
    go_wp2
    go_ret
    exact ⟨rfl, rfl⟩
  | false =>
    clear h2
    generalize (⟨#[hexB false n]⟩ : ByteArray) = r at *
    go_enter Tryd.func28, Tryd.ntmps28
    go_wp2
    go_ret
    exact ⟨rfl, rfl⟩
theorem digits_step (n : Nat) (l : List UInt8) : ∃ t : ByteArray, (ByteArray.mk #[hexB false (n % 16)]) = t ∧ t ++ (ByteArray.mk l.toArray) = ⟨(hexB false (n % 16) :: l).toArray⟩ ∧ t.size = 1 :=
  ⟨_, rfl, ba_app [hexB false (n % 16)] l, rfl⟩
theorem tmod16 (n : Nat) : ((n : Int)).tmod 16 = ((n % 16 : Nat) : Int) := by
  rw [Int.tmod_eq_emod_of_nonneg (by omega)]; omega
theorem tdiv16 (n : Nat) : ((n : Int)).tdiv 16 = ((n / 16 : Nat) : Int) := by
  rw [Int.tdiv_eq_ediv_of_nonneg (by omega)]; omega

end Go.Proofs.YtbfaapbbhgegiabDoor
