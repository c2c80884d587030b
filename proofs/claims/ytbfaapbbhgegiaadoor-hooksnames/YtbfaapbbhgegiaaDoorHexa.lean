/- The walks of Plain and of hexadecimal. -/
import Derived.Test.YtbfaapbbhgegiaaDoorQPlain
import Derived.Test.YtbfaapbbhgegiaaDoorRunes
import Derived.Test.YtbfaapbbhgegiaaDoorShelf
import Derived.Deep.LoopGhost
import Derived.Laws.BitsLemmas
namespace Go.Proofs.YtbfaapbbhgegiaaDoor
open Go.RowKit

theorem small_at (i : Nat) (h : i < (ByteArray.mk #[48, 49, 50, 51, 52, 53, 54, 55, 56, 57, 97, 98, 99, 100, 101, 102]).size) : ((ByteArray.mk #[48, 49, 50, 51, 52, 53, 54, 55, 56, 57, 97, 98, 99, 100, 101, 102])[i]'h).toNat = hexN false i := by
  match i, h with
  | 0, _ => rfl
  | 1, _ => rfl
  | 2, _ => rfl
  | 3, _ => rfl
  | 4, _ => rfl
  | 5, _ => rfl
  | 6, _ => rfl
  | 7, _ => rfl
  | 8, _ => rfl
  | 9, _ => rfl
  | 10, _ => rfl
  | 11, _ => rfl
  | 12, _ => rfl
  | 13, _ => rfl
  | 14, _ => rfl
  | 15, _ => rfl
  | n + 16, h => exact absurd h (by show ¬ n + 16 < 16; omega)
theorem great_at (i : Nat) (h : i < (ByteArray.mk #[48, 49, 50, 51, 52, 53, 54, 55, 56, 57, 65, 66, 67, 68, 69, 70]).size) : ((ByteArray.mk #[48, 49, 50, 51, 52, 53, 54, 55, 56, 57, 65, 66, 67, 68, 69, 70])[i]'h).toNat = hexN true i := by
  match i, h with
  | 0, _ => rfl
  | 1, _ => rfl
  | 2, _ => rfl
  | 3, _ => rfl
  | 4, _ => rfl
  | 5, _ => rfl
  | 6, _ => rfl
  | 7, _ => rfl
  | 8, _ => rfl
  | 9, _ => rfl
  | 10, _ => rfl
  | 11, _ => rfl
  | 12, _ => rfl
  | 13, _ => rfl
  | 14, _ => rfl
  | 15, _ => rfl
  | n + 16, h => exact absurd h (by show ¬ n + 16 < 16; omega)
theorem wraps_i32_31 (n : Int) (h₀ : 0 ≤ n) (h₁ : n < 2 ^ 31) : IntKind.i32.wrap n = n := by
  have e : (2 : Int) ^ 31 = 2147483648 := by decide
  rw [e] at h₁
  rw [IntKind.wrap_i32]
  omega
theorem bits15 (x : Nat) (h : x < 2147483648) : bits .and .i32 (x : Int) 15 = ((x % 16 : Nat) : Int) := by
  have e := bits_mask .i32 31 (by decide) wraps_i32_31 4 (by decide) (x : Int) (by omega) (by have : (2 : Int) ^ 31 = 2147483648 := by decide
                                                                                              omega)
  have e1 : ((2 : Int) ^ 4 - 1) = 15 := by decide
  have e2 : ((2 : Int) ^ 4) = 16 := by decide
  rw [e1, e2] at e
  rw [e]
  omega
theorem shr_nat (c j : Nat) : (c : Int) / 2 ^ (4 * j) = ((c / 16 ^ j : Nat) : Int) := by
  have : (2 : Int) ^ (4 * j) = ((16 ^ j : Nat) : Int) := by
    rw [Int.pow_mul]; simp
  rw [this]; simp
theorem hexN_lt (g : Bool) (i : Nat) (h : i < 16) : hexN g i < 256 := by unfold hexN; split <;> (try split) <;> omega
theorem hexB_nat (g : Bool) (i : Nat) (h : i < 16) : (hexB g i).toNat = hexN g i := by
  have := hexN_lt g i h
  unfold hexB
  simp
  omega
theorem cells_hex (l : List UInt8) (g : Bool) (i : Nat) (h : i < 16) : Lib.byteCells l ++ [.int .u8 (hexN g i : Nat)] = Lib.byteCells (l ++ [hexB g i]) := by
  rw [Lib.byteCells_append, ← hexB_nat g i h]; rfl

set_option maxHeartbeats 400000 in
theorem plain_any (c : Int) (w : World) :
    Calls Tryd.prog 89 #[.int .i32 c] w fun e w' => e = .returned (.bool (plainP c)) ∧ w' = w := by
  by_cases h1 : c = 173 <;> by_cases h2 : c ≤ 160 <;> by_cases h3 : 32 ≤ c <;> by_cases h4 : c ≤ 126 <;> by_cases h5 : c ≤ 65532 <;> by_cases h6 : c ≤ 55295 <;> by_cases h7 : 57344 ≤ c <;> by_cases h8 : 65536 ≤ c <;> by_cases h9 : c ≤ 1114111
  all_goals first | (exfalso; omega) | skip
  all_goals first | (have hp : plainP c = true := (by rw [plainP_iff]; omega)) | (have hp : plainP c = false := (by rw [plainP_not]; omega))
  all_goals
    rw [hp]
    go_enter Tryd.func89, Tryd.ntmps89
    go_wp2
    go_ret
    exact ⟨rfl, rfl⟩

set_option maxRecDepth 1000000 in
set_option maxHeartbeats 800000 in
theorem hexa_any (c k : Nat) (w : World) (hc : c ≤ 1114111) (hk : k ≤ 8) :
    Calls Tryd.prog 74 #[.int .i32 c, .int .i64 k] w fun e w' => e = .returned (.string ⟨(hexL c k).toArray⟩) ∧ Below w.heap.size w w' := by
  go_enter Tryd.func74, Tryd.ntmps74
  go_wp2
  go_loopg [1] k (fun m n wr => n = .int .i64 ((m : Int) - 1) ∧ m ≤ k ∧ Lib.IsBuilderF 99 5 w.heap.size w.heap.size (Lib.byteCells (hexL (c / 16 ^ m) (k - m))) wr ∧ Below w.heap.size w wr)
  case atStart =>
    refine ⟨rfl, Nat.le_refl _, ?_, (Below.refl _ w).alloc (Nat.le_refl _) _⟩
    rw [Nat.sub_self]
    exact Lib.IsBuilderF.of (Lib.fresh_isBuilder 99 5 w)
  case round =>
    obtain ⟨rfl, hm, hI, hb⟩ := hrel
    have hsz := hb.size
    cases gk with
    | zero =>
      go_wp2_with (go_at_call 76; refine (Tryd.builderString w.heap.size w.heap.size _ _ hI hsz).mono ?_)
      rintro e w1 ⟨rfl, _, hb1, _⟩
      go_wp2
      go_ret
      refine ⟨?_, hb.trans hb1⟩
      simp
    | succ j =>
      have ej : ((j + 1 : Nat) : Int) - 1 = (j : Int) := by omega
      rw [ej]
      have h4 : wrap64 (4 * (j : Int)) = 4 * (j : Int) := by unfold wrap64; omega
      have h16 : c / 16 ^ j % 16 < 16 := Nat.mod_lt _ (by omega)
      have hle : c / 16 ^ j ≤ c := Nat.div_le_self _ _
      have hbits : bits .and .i32 ((c : Int) / 2 ^ (4 * j)) 15 = ((c / 16 ^ j % 16 : Nat) : Int) := by rw [shr_nat, bits15 _ (by omega)]
      obtain ⟨d, hd⟩ : ∃ d, c / 16 ^ j % 16 = d := ⟨_, rfl⟩
      rw [hd] at hbits h16
      have hd' : d < (ByteArray.mk #[48, 49, 50, 51, 52, 53, 54, 55, 56, 57, 97, 98, 99, 100, 101, 102]).size := h16
      go_wp2_with (go_at_call 71; refine (Tryd.writeByte w.heap.size w.heap.size _ _ _ hI (by rw [Lib.byteCells_length, hexL_len]; omega) hsz).mono ?_)
      rintro e w1 ⟨rfl, h1, hb1, _⟩
      rw [small_at, cells_hex _ _ _ h16] at h1
      go_wp2
      go_roundg j
      case measure => omega
      case rel =>
        refine ⟨val_int (by omega), by omega, ?_, hb.trans hb1⟩
        rw [hexL_more c k j hm, hd]
        exact Or.inr h1
end Go.Proofs.YtbfaapbbhgegiaaDoor
