/- The walks of Plain and of hexadecimal. -/
import Derived.Test.YtkeoafidgfmhlabGreatDoorQPlain
import Derived.Test.YtkeoafidgfmhlabGreatDoorRunes
import Derived.Test.YtkeoafidgfmhlabGreatDoorShelf
import Derived.Deep.LoopGhost
import Derived.Laws.BitsLemmas
namespace Go.Proofs.YtkeoafidgfmhlabGreatDoor
open Go.RowKit

theorem small_at (i : Nat) (h : i < (ByteArray.mk #[48, 49, 50, 51, 52, 53, 54, 55, 56, 57, 97, 98, 99, 100, 101, 102]).size) : ((ByteArray.mk #[48, 49, 50, 51, 52, 53, 54, 55, 56, 57, 97, 98, 99, 100, 101, 102])[i]'h).toNat = hexN false i := by
  match i, h with
  | 0, _ => rfl
  | 1, _ => rfl
  | 2, _ => rfl
  | 3, _ => rfl
  | 4, _ => rfl
  | 5, _ => rfl
  | 6, _ => rfl
  | 7, _ => rfl
  | 8, _ => rfl
  | 9, _ => rfl
  | 10, _ => rfl
  | 11, _ => rfl
  | 12, _ => rfl
  | 13, _ => rfl
  | 14, _ => rfl
  | 15, _ => rfl
  | n + 16, h => exact absurd h (by show ¬ n + 16 < 16; omega)
theorem great_at (i : Nat) (h : i < (ByteArray.mk #[48, 49, 50, 51, 52, 53, 54, 55, 56, 57, 65, 66, 67, 68, 69, 70]).size) : ((ByteArray.mk #[48, 49, 50, 51, 52, 53, 54, 55, 56, 57, 65, 66, 67, 68, 69, 70])[i]'h).toNat = hexN true i := by
  match i, h with
  | 0, _ => rfl
  | 1, _ => rfl
  | 2, _ => rfl
  | 3, _ => rfl
  | 4, _ => rfl
  | 5, _ => rfl
  | 6, _ => rfl
  | 7, _ => rfl
  | 8, _ => rfl
  | 9, _ => rfl
  | 10, _ => rfl
  | 11, _ => rfl
  | 12, _ => rfl
  | 13, _ => rfl
  | 14, _ => rfl
  | 15, _ => rfl
  | n + 16, h => exact absurd h (by show ¬ n + 16 < 16; omega)
theorem wraps_i32_31 (n : Int) (h₀ : 0 ≤ n) (h₁ : n < 2 ^ 31) : IntKind.i32.wrap n = n := by
  have e : (2 : Int) ^ 31 = 2147483648 := by decide
  rw [e] at h₁
  rw [IntKind.wrap_i32]
  omega
theorem bits15 (x : Nat) (h : x < 2147483648) : bits .and .i32 (x : Int) 15 = ((x % 16 : Nat) : Int) := by
  have e := bits_mask .i32 31 (by decide) wraps_i32_31 4 (by decide) (x : Int) (by omega) (by have : (2 : Int) ^ 31 = 2147483648 := by decide
                                                                                              omega)
  have e1 : ((2 : Int) ^ 4 - 1) = 15 := by decide
  have e2 : ((2 : Int) ^ 4) = 16 := by decide
  rw [e1, e2] at e
  rw [e]
  omega
theorem shr_nat (c j : Nat) : (c : Int) / 2 ^ (4 * j) = ((c / 16 ^ j : Nat) : Int) := by
  have : (2 : Int) ^ (4 * j) = ((16 ^ j : Nat) : Int) := by
    rw [Int.pow_mul]; simp
  rw [this]; simp
theorem hexN_lt (g : Bool) (i : Nat) (h : i < 16) : hexN g i < 256 := by unfold hexN; split <;> (try split) <;> omega
theorem hexB_nat (g : Bool) (i : Nat) (h : i < 16) : (hexB g i).toNat = hexN g i := by
  have := hexN_lt g i h
  unfold hexB
  simp
  omega
theorem cells_hex (l : List UInt8) (g : Bool) (i : Nat) (h : i < 16) : Lib.byteCells l ++ [.int .u8 (hexN g i : Nat)] = Lib.byteCells (l ++ [hexB g i]) := by
  rw [Lib.byteCells_append, ← hexB_nat g i h]; rfl

end Go.Proofs.YtkeoafidgfmhlabGreatDoor
