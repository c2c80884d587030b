/- VDocA, VDocC, VOrd: these texts in one. -/
import Derived.Test.YtlgieoabellbmaaGreatDoorVMade
import Derived.Test.YtlgieoabellbmaaGreatDoorPt6
import Derived.Test.YtlgieoabellbmaaGreatDoorVCmp
import Derived.Deep.DeepCutAuto
import Derived.Deep.CutBlock
import Derived.Sort.Walk0
import Derived.Sort.Statements
import Derived.Shelf.SlSortCmp.Insertion
namespace Go.Proofs.YtlgieoabellbmaaGreatDoor
open Go.RowKit
set_option linter.unusedVariables false
set_option linter.unusedSimpArgs false
def whoB (k : Int) : Bool := decide (2 ≤ k) && decide (k ≤ 11)
def sgnB (k : Int) : Bool := decide (2 ≤ k) && decide (k ≤ 6)
theorem owhole_any (k : Int) (w : World) : Calls Tryz.prog 66 #[.int .i64 k] w fun e w' => e = .returned (.bool (whoB k)) ∧ w' = w := by
 unfold whoB
 by_cases h1 : 2 ≤ k <;> by_cases h2 : k ≤ 11
 all_goals first
  | omega
  | (go_enter Tryz.func66, Tryz.ntmps66
     go_wp2
     go_ret
     try (simp [h1, h2]; done))
theorem osigned_any (k : Int) (w : World) : Calls Tryz.prog 109 #[.int .i64 k] w fun e w' => e = .returned (.bool (sgnB k)) ∧ w' = w := by
 unfold sgnB
 by_cases h1 : 2 ≤ k <;> by_cases h2 : k ≤ 6
 all_goals first
  | omega
  | (go_enter Tryz.func109, Tryz.ntmps109
     go_wp2
     go_ret
     try (simp [h1, h2]; done))
theorem ogreat_any (k : Int) (w : World) : Calls Tryz.prog 68 #[.int .i64 k] w fun e w' => e = .returned (.bool (great k)) ∧ w' = w := by
 unfold great
 by_cases h1 : 18 ≤ k <;> by_cases h2 : k ≤ 22
 all_goals first
  | omega
  | (go_enter Tryz.func68, Tryz.ntmps68
     go_wp2
     go_ret
     try (simp [h1, h2]; done))
def sgn2 (l m : Bool) : Int := if l then -1 else if m then 1 else 0
theorem osign_any (l m : Bool) (w : World) : Calls Tryz.prog 149 #[.bool l, .bool m] w fun e w' => e = .returned (.int .i64 (sgn2 l m)) ∧ w' = w := by
 cases l <;> cases m
 all_goals
  go_enter Tryz.func149, Tryz.ntmps149
  go_wp2
  go_ret
  exact ⟨rfl, rfl⟩
def bitN (k : Int) : Int := if k = 2 ∨ k = 7 then 8 else if k = 3 ∨ k = 8 then 16 else if k = 4 ∨ k = 9 then 32 else 64
theorem obits_any (k : Int) (w : World) : Calls Tryz.prog 108 #[.int .i64 k] w fun e w' => e = .returned (.int .i64 (bitN k)) ∧ w' = w := by
 by_cases h : k = 2 ∨ k = 7 ∨ k = 3 ∨ k = 8 ∨ k = 4 ∨ k = 9
 ·rcases h with rfl | rfl | rfl | rfl | rfl | rfl
  all_goals
   go_enter Tryz.func108, Tryz.ntmps108
   go_wp2
   go_ret
   exact ⟨rfl, rfl⟩
 ·have e2 : (k == 2) = false := by simp; omega
  have e3 : (k == 3) = false := by simp; omega
  have e4 : (k == 4) = false := by simp; omega
  have e7 : (k == 7) = false := by simp; omega
  have e8 : (k == 8) = false := by simp; omega
  have e9 : (k == 9) = false := by simp; omega
  have HB : Hid (bitN k = 64) := by
   show bitN k = 64
   unfold bitN
   rw [if_neg (by omega), if_neg (by omega), if_neg (by omega)]
  clear h
  go_enter Tryz.func108, Tryz.ntmps108
  go_wp2
  go_ret
  rw [HB.out]
  exact ⟨rfl, rfl⟩
def numF (k b : Int) : Int := if sgnB k then sgN k b % 18446744073709551616 else unN k b
theorem swr_back8 (b : Int) (h0 : 0 ≤ b) (h1 : b ≤ 18446744073709551615) : swr 18446744073709551616 b % 18446744073709551616 = b := by
 have e : b % 18446744073709551616 = b := Int.emod_eq_of_lt h0 (by omega)
 unfold swr
 rw [e]
 by_cases h : (18446744073709551616 : Int) ≤ 2 * b
 ·rw [if_pos h, Int.sub_emod_right, e]
 ·rw [if_neg h, e]
set_option maxRecDepth 1000000 in
theorem onumber_2 (b : Int) (w : World) (h0 : 0 ≤ b) (h1 : b ≤ 18446744073709551615) :
  Calls Tryz.prog 67 #[.int .i64 2, .int .u64 b] w fun e w' => e = .returned (.int .u64 (numF 2 b)) ∧ w' = w := by
 have hb : ∀ W, Calls Tryz.prog 108 #[.int .i64 2] W fun e w' => e = .returned (.int .i64 8) ∧ w' = W := fun W => obits_any 2 W
 have hs : ∀ W, Calls Tryz.prog 109 #[.int .i64 2] W fun e w' => e = .returned (.bool true) ∧ w' = W := fun W => osigned_any 2 W
 have hm0 : 0 ≤ b % 256 := Int.emod_nonneg _ (by decide)
 have hm1 : b % 256 < 256 := Int.emod_lt_of_pos _ (by decide)
 by_cases hc : 128 ≤ b % 256
 ·have HN : Hid (numF 2 b = (b % 256 - 256) % 18446744073709551616) := by
   show swr 256 b % 18446744073709551616 = _
   unfold swr
   rw [if_pos (by omega)]
  go_enter Tryz.func67, Tryz.ntmps67
  go_wp2_with (first | (go_at_call 108; refine (hb _).mono ?_; rintro e w1 ⟨rfl, hw⟩; rw [hw]; clear hw) | (go_at_call 109; refine (hs _).mono ?_; rintro e w1 ⟨rfl, hw⟩; rw [hw]; clear hw))
  go_ret
  rw [HN.out]
  exact ⟨rfl, rfl⟩
 ·have HN : Hid (numF 2 b = b % 256) := by
   show swr 256 b % 18446744073709551616 = _
   unfold swr
   rw [if_neg (by omega)]
   omega
  go_enter Tryz.func67, Tryz.ntmps67
  go_wp2_with (first | (go_at_call 108; refine (hb _).mono ?_; rintro e w1 ⟨rfl, hw⟩; rw [hw]; clear hw) | (go_at_call 109; refine (hs _).mono ?_; rintro e w1 ⟨rfl, hw⟩; rw [hw]; clear hw))
  go_ret
  rw [HN.out]
  exact ⟨rfl, rfl⟩
set_option maxRecDepth 1000000 in
theorem onumber_3 (b : Int) (w : World) (h0 : 0 ≤ b) (h1 : b ≤ 18446744073709551615) :
  Calls Tryz.prog 67 #[.int .i64 3, .int .u64 b] w fun e w' => e = .returned (.int .u64 (numF 3 b)) ∧ w' = w := by
 have hb : ∀ W, Calls Tryz.prog 108 #[.int .i64 3] W fun e w' => e = .returned (.int .i64 16) ∧ w' = W := fun W => obits_any 3 W
 have hs : ∀ W, Calls Tryz.prog 109 #[.int .i64 3] W fun e w' => e = .returned (.bool true) ∧ w' = W := fun W => osigned_any 3 W
 have hm0 : 0 ≤ b % 65536 := Int.emod_nonneg _ (by decide)
 have hm1 : b % 65536 < 65536 := Int.emod_lt_of_pos _ (by decide)
 by_cases hc : 32768 ≤ b % 65536
 ·have HN : Hid (numF 3 b = (b % 65536 - 65536) % 18446744073709551616) := by
   show swr 65536 b % 18446744073709551616 = _
   unfold swr
   rw [if_pos (by omega)]
  go_enter Tryz.func67, Tryz.ntmps67
  go_wp2_with (first | (go_at_call 108; refine (hb _).mono ?_; rintro e w1 ⟨rfl, hw⟩; rw [hw]; clear hw) | (go_at_call 109; refine (hs _).mono ?_; rintro e w1 ⟨rfl, hw⟩; rw [hw]; clear hw))
  go_ret
  rw [HN.out]
  exact ⟨rfl, rfl⟩
 ·have HN : Hid (numF 3 b = b % 65536) := by
   show swr 65536 b % 18446744073709551616 = _
   unfold swr
   rw [if_neg (by omega)]
   omega
  go_enter Tryz.func67, Tryz.ntmps67
  go_wp2_with (first | (go_at_call 108; refine (hb _).mono ?_; rintro e w1 ⟨rfl, hw⟩; rw [hw]; clear hw) | (go_at_call 109; refine (hs _).mono ?_; rintro e w1 ⟨rfl, hw⟩; rw [hw]; clear hw))
  go_ret
  rw [HN.out]
  exact ⟨rfl, rfl⟩
set_option maxRecDepth 1000000 in
theorem onumber_4 (b : Int) (w : World) (h0 : 0 ≤ b) (h1 : b ≤ 18446744073709551615) :
  Calls Tryz.prog 67 #[.int .i64 4, .int .u64 b] w fun e w' => e = .returned (.int .u64 (numF 4 b)) ∧ w' = w := by
 have hb : ∀ W, Calls Tryz.prog 108 #[.int .i64 4] W fun e w' => e = .returned (.int .i64 32) ∧ w' = W := fun W => obits_any 4 W
 have hs : ∀ W, Calls Tryz.prog 109 #[.int .i64 4] W fun e w' => e = .returned (.bool true) ∧ w' = W := fun W => osigned_any 4 W
 have hm0 : 0 ≤ b % 4294967296 := Int.emod_nonneg _ (by decide)
 have hm1 : b % 4294967296 < 4294967296 := Int.emod_lt_of_pos _ (by decide)
 by_cases hc : 2147483648 ≤ b % 4294967296
 ·have HN : Hid (numF 4 b = (b % 4294967296 - 4294967296) % 18446744073709551616) := by
   show swr 4294967296 b % 18446744073709551616 = _
   unfold swr
   rw [if_pos (by omega)]
  go_enter Tryz.func67, Tryz.ntmps67
  go_wp2_with (first | (go_at_call 108; refine (hb _).mono ?_; rintro e w1 ⟨rfl, hw⟩; rw [hw]; clear hw) | (go_at_call 109; refine (hs _).mono ?_; rintro e w1 ⟨rfl, hw⟩; rw [hw]; clear hw))
  go_ret
  rw [HN.out]
  exact ⟨rfl, rfl⟩
 ·have HN : Hid (numF 4 b = b % 4294967296) := by
   show swr 4294967296 b % 18446744073709551616 = _
   unfold swr
   rw [if_neg (by omega)]
   omega
  go_enter Tryz.func67, Tryz.ntmps67
  go_wp2_with (first | (go_at_call 108; refine (hb _).mono ?_; rintro e w1 ⟨rfl, hw⟩; rw [hw]; clear hw) | (go_at_call 109; refine (hs _).mono ?_; rintro e w1 ⟨rfl, hw⟩; rw [hw]; clear hw))
  go_ret
  rw [HN.out]
  exact ⟨rfl, rfl⟩
set_option maxRecDepth 1000000 in
theorem onumber_5 (b : Int) (w : World) (h0 : 0 ≤ b) (h1 : b ≤ 18446744073709551615) :
  Calls Tryz.prog 67 #[.int .i64 5, .int .u64 b] w fun e w' => e = .returned (.int .u64 (numF 5 b)) ∧ w' = w := by
 have hb : ∀ W, Calls Tryz.prog 108 #[.int .i64 5] W fun e w' => e = .returned (.int .i64 64) ∧ w' = W := fun W => obits_any 5 W
 have hs : ∀ W, Calls Tryz.prog 109 #[.int .i64 5] W fun e w' => e = .returned (.bool true) ∧ w' = W := fun W => osigned_any 5 W
 have HN : Hid (numF 5 b = b) := by
  show numF 5 b = b
  exact swr_back8 b h0 h1
 go_enter Tryz.func67, Tryz.ntmps67
 go_wp2_with (first | (go_at_call 108; refine (hb _).mono ?_; rintro e w1 ⟨rfl, hw⟩; rw [hw]; clear hw) | (go_at_call 109; refine (hs _).mono ?_; rintro e w1 ⟨rfl, hw⟩; rw [hw]; clear hw))
 go_ret
 rw [HN.out]
 exact ⟨rfl, rfl⟩
set_option maxRecDepth 1000000 in
theorem onumber_6 (b : Int) (w : World) (h0 : 0 ≤ b) (h1 : b ≤ 18446744073709551615) :
  Calls Tryz.prog 67 #[.int .i64 6, .int .u64 b] w fun e w' => e = .returned (.int .u64 (numF 6 b)) ∧ w' = w := by
 have hb : ∀ W, Calls Tryz.prog 108 #[.int .i64 6] W fun e w' => e = .returned (.int .i64 64) ∧ w' = W := fun W => obits_any 6 W
 have hs : ∀ W, Calls Tryz.prog 109 #[.int .i64 6] W fun e w' => e = .returned (.bool true) ∧ w' = W := fun W => osigned_any 6 W
 have HN : Hid (numF 6 b = b) := by
  show numF 6 b = b
  exact swr_back8 b h0 h1
 go_enter Tryz.func67, Tryz.ntmps67
 go_wp2_with (first | (go_at_call 108; refine (hb _).mono ?_; rintro e w1 ⟨rfl, hw⟩; rw [hw]; clear hw) | (go_at_call 109; refine (hs _).mono ?_; rintro e w1 ⟨rfl, hw⟩; rw [hw]; clear hw))
 go_ret
 rw [HN.out]
 exact ⟨rfl, rfl⟩
set_option maxRecDepth 1000000 in
theorem onumber_7 (b : Int) (w : World) (h0 : 0 ≤ b) (h1 : b ≤ 18446744073709551615) :
  Calls Tryz.prog 67 #[.int .i64 7, .int .u64 b] w fun e w' => e = .returned (.int .u64 (numF 7 b)) ∧ w' = w := by
 have hb : ∀ W, Calls Tryz.prog 108 #[.int .i64 7] W fun e w' => e = .returned (.int .i64 8) ∧ w' = W := fun W => obits_any 7 W
 have hs : ∀ W, Calls Tryz.prog 109 #[.int .i64 7] W fun e w' => e = .returned (.bool false) ∧ w' = W := fun W => osigned_any 7 W
 have HN : Hid (numF 7 b = b % 256) := rfl
 go_enter Tryz.func67, Tryz.ntmps67
 go_wp2_with (first | (go_at_call 108; refine (hb _).mono ?_; rintro e w1 ⟨rfl, hw⟩; rw [hw]; clear hw) | (go_at_call 109; refine (hs _).mono ?_; rintro e w1 ⟨rfl, hw⟩; rw [hw]; clear hw))
 go_ret
 rw [HN.out]
 exact ⟨rfl, rfl⟩
set_option maxRecDepth 1000000 in
theorem onumber_8 (b : Int) (w : World) (h0 : 0 ≤ b) (h1 : b ≤ 18446744073709551615) :
  Calls Tryz.prog 67 #[.int .i64 8, .int .u64 b] w fun e w' => e = .returned (.int .u64 (numF 8 b)) ∧ w' = w := by
 have hb : ∀ W, Calls Tryz.prog 108 #[.int .i64 8] W fun e w' => e = .returned (.int .i64 16) ∧ w' = W := fun W => obits_any 8 W
 have hs : ∀ W, Calls Tryz.prog 109 #[.int .i64 8] W fun e w' => e = .returned (.bool false) ∧ w' = W := fun W => osigned_any 8 W
 have HN : Hid (numF 8 b = b % 65536) := rfl
 go_enter Tryz.func67, Tryz.ntmps67
 go_wp2_with (first | (go_at_call 108; refine (hb _).mono ?_; rintro e w1 ⟨rfl, hw⟩; rw [hw]; clear hw) | (go_at_call 109; refine (hs _).mono ?_; rintro e w1 ⟨rfl, hw⟩; rw [hw]; clear hw))
 go_ret
 rw [HN.out]
 exact ⟨rfl, rfl⟩
set_option maxRecDepth 1000000 in
theorem onumber_9 (b : Int) (w : World) (h0 : 0 ≤ b) (h1 : b ≤ 18446744073709551615) :
  Calls Tryz.prog 67 #[.int .i64 9, .int .u64 b] w fun e w' => e = .returned (.int .u64 (numF 9 b)) ∧ w' = w := by
 have hb : ∀ W, Calls Tryz.prog 108 #[.int .i64 9] W fun e w' => e = .returned (.int .i64 32) ∧ w' = W := fun W => obits_any 9 W
 have hs : ∀ W, Calls Tryz.prog 109 #[.int .i64 9] W fun e w' => e = .returned (.bool false) ∧ w' = W := fun W => osigned_any 9 W
 have HN : Hid (numF 9 b = b % 4294967296) := rfl
 go_enter Tryz.func67, Tryz.ntmps67
 go_wp2_with (first | (go_at_call 108; refine (hb _).mono ?_; rintro e w1 ⟨rfl, hw⟩; rw [hw]; clear hw) | (go_at_call 109; refine (hs _).mono ?_; rintro e w1 ⟨rfl, hw⟩; rw [hw]; clear hw))
 go_ret
 rw [HN.out]
 exact ⟨rfl, rfl⟩
set_option maxRecDepth 1000000 in
theorem onumber_10 (b : Int) (w : World) (h0 : 0 ≤ b) (h1 : b ≤ 18446744073709551615) :
  Calls Tryz.prog 67 #[.int .i64 10, .int .u64 b] w fun e w' => e = .returned (.int .u64 (numF 10 b)) ∧ w' = w := by
 have hb : ∀ W, Calls Tryz.prog 108 #[.int .i64 10] W fun e w' => e = .returned (.int .i64 64) ∧ w' = W := fun W => obits_any 10 W
 have hs : ∀ W, Calls Tryz.prog 109 #[.int .i64 10] W fun e w' => e = .returned (.bool false) ∧ w' = W := fun W => osigned_any 10 W
 have HN : Hid (numF 10 b = b) := by
  show numF 10 b = b
  rfl
 go_enter Tryz.func67, Tryz.ntmps67
 go_wp2_with (first | (go_at_call 108; refine (hb _).mono ?_; rintro e w1 ⟨rfl, hw⟩; rw [hw]; clear hw) | (go_at_call 109; refine (hs _).mono ?_; rintro e w1 ⟨rfl, hw⟩; rw [hw]; clear hw))
 go_ret
 rw [HN.out]
 exact ⟨rfl, rfl⟩
set_option maxRecDepth 1000000 in
theorem onumber_11 (b : Int) (w : World) (h0 : 0 ≤ b) (h1 : b ≤ 18446744073709551615) :
  Calls Tryz.prog 67 #[.int .i64 11, .int .u64 b] w fun e w' => e = .returned (.int .u64 (numF 11 b)) ∧ w' = w := by
 have hb : ∀ W, Calls Tryz.prog 108 #[.int .i64 11] W fun e w' => e = .returned (.int .i64 64) ∧ w' = W := fun W => obits_any 11 W
 have hs : ∀ W, Calls Tryz.prog 109 #[.int .i64 11] W fun e w' => e = .returned (.bool false) ∧ w' = W := fun W => osigned_any 11 W
 have HN : Hid (numF 11 b = b) := by
  show numF 11 b = b
  rfl
 go_enter Tryz.func67, Tryz.ntmps67
 go_wp2_with (first | (go_at_call 108; refine (hb _).mono ?_; rintro e w1 ⟨rfl, hw⟩; rw [hw]; clear hw) | (go_at_call 109; refine (hs _).mono ?_; rintro e w1 ⟨rfl, hw⟩; rw [hw]; clear hw))
 go_ret
 rw [HN.out]
 exact ⟨rfl, rfl⟩
theorem onumber_any (k b : Int) (w : World) (h0 : 0 ≤ b) (h1 : b ≤ 18446744073709551615) (hk : whoB k = true) :
  Calls Tryz.prog 67 #[.int .i64 k, .int .u64 b] w fun e w' => e = .returned (.int .u64 (numF k b)) ∧ w' = w := by
 have h : k = 2 ∨ k = 3 ∨ k = 4 ∨ k = 5 ∨ k = 6 ∨ k = 7 ∨ k = 8 ∨ k = 9 ∨ k = 10 ∨ k = 11 := by simp [whoB] at hk; omega
 rcases h with rfl | rfl | rfl | rfl | rfl | rfl | rfl | rfl | rfl | rfl
 ·exact onumber_2 b w h0 h1
 ·exact onumber_3 b w h0 h1
 ·exact onumber_4 b w h0 h1
 ·exact onumber_5 b w h0 h1
 ·exact onumber_6 b w h0 h1
 ·exact onumber_7 b w h0 h1
 ·exact onumber_8 b w h0 h1
 ·exact onumber_9 b w h0 h1
 ·exact onumber_10 b w h0 h1
 ·exact onumber_11 b w h0 h1
end Go.Proofs.YtlgieoabellbmaaGreatDoor
namespace Go.Proofs.YtlgieoabellbmaaGreatDoor
open Go.RowKit
set_option linter.unusedVariables false
set_option linter.unusedSimpArgs false
theorem sgn_cmp (x y : Int) : sgn2 (decide (x < y)) (decide (y < x)) = cmpI x y := by
 unfold sgn2 cmpI
 by_cases h1 : x < y <;> by_cases h2 : y < x <;> simp [h1, h2]
theorem sgn_cmpS (a b : ByteArray) : sgn2 (Op.bytesLess a.toList b.toList) (!(Op.bytesLess a.toList b.toList || a.toList == b.toList)) = cmpS a b := by
 unfold sgn2 cmpS
 cases Op.bytesLess a.toList b.toList <;> cases (a.toList == b.toList) <;> rfl
def ownC (a b : D) : Int := if a.kind = 1 ∨ (7 ≤ a.kind ∧ a.kind ≤ 11) then cmpI a.bits b.bits else if 2 ≤ a.kind ∧ a.kind ≤ 6 then cmpI (wrap64 a.bits) (wrap64 b.bits) else cmpS a.text b.text
def dcmp (a b : D) : Int := if a.kind ≠ b.kind then (if a.kind < b.kind then -1 else 1) else if keyB a.kind then (if ownC a b = 0 then cmpS a.ty b.ty else ownC a b) else 0
set_option maxRecDepth 1000000 in
set_option maxHeartbeats 4000000 in
theorem ocmp_other (a b : D) (na pa ma qa : Option Addr) (nc pc mc qc : Nat) (w : World) (hk : a.kind ≠ b.kind) :
  Calls Tryz.prog 107 #[DV a (.slice na a.names.length nc) (.slice pa a.parts.length pc), DV b (.slice ma b.names.length mc) (.slice qa b.parts.length qc)] w fun e w' => e = .returned (.int .i64 (dcmp a b)) ∧ Below w.heap.size w w' := by
 obtain ⟨k1, ty1, bits1, imag1, text1, names1, parts1, hook1⟩ := a
 obtain ⟨k2, ty2, bits2, imag2, text2, names2, parts2, hook2⟩ := b
 simp only at hk ⊢
 have e1 : (k1 != k2) = true := by simp [hk]
 have bel : ∀ cs t cs' t', Below w.heap.size w ((w.alloc (.cells cs t)).alloc (.cells cs' t')) := fun _ _ _ _ => ((Below.refl _ _).alloc (Nat.le_refl _) _).alloc (by simp) _
 have HD : Hid (dcmp ⟨k1, ty1, bits1, imag1, text1, names1, parts1, hook1⟩ ⟨k2, ty2, bits2, imag2, text2, names2, parts2, hook2⟩ = if k1 < k2 then -1 else 1) := by show _ = _; unfold dcmp; rw [if_pos hk]
 clear hk
 by_cases hlt : k1 < k2
 ·have ho := fun W => osign_any true true W
  go_enter Tryz.func107, Tryz.ntmps107
  go_wp2_with (go_at_call 149; refine (ho _).mono ?_; rintro e w1 ⟨rfl, hw⟩; rw [hw]; clear hw)
  go_ret
  exact ⟨by rw [HD.out, if_pos hlt]; rfl, bel _ _ _ _⟩
 ·have ho := fun W => osign_any false true W
  have HE : Hid (dcmp ⟨k1, ty1, bits1, imag1, text1, names1, parts1, hook1⟩ ⟨k2, ty2, bits2, imag2, text2, names2, parts2, hook2⟩ = 1) := by show _ = _; rw [HD.out, if_neg hlt]
  clear HD
  go_enter Tryz.func107, Tryz.ntmps107
  go_wp2_with (go_at_call 149; refine (ho _).mono ?_; rintro e w1 ⟨rfl, hw⟩; rw [hw]; clear hw)
  go_ret
  exact ⟨by rw [HE.out]; rfl, bel _ _ _ _⟩
set_option maxRecDepth 1000000 in
set_option maxHeartbeats 4000000 in
theorem ocmp_uns (k1 : Int) (ty1 ty2 : ByteArray) (bits1 bits2 imag1 imag2 : Int) (text1 text2 : ByteArray) (names1 names2 : List ByteArray) (parts1 parts2 : List D) (hook1 hook2 : Int) (na pa ma qa : Option Addr) (nc pc mc qc : Nat) (w : World) (h0 : (k1 == 1) = false) (h1 : whoB k1 = true) (h2 : sgnB k1 = false) :
  Calls Tryz.prog 107 #[DV ⟨k1, ty1, bits1, imag1, text1, names1, parts1, hook1⟩ (.slice na names1.length nc) (.slice pa parts1.length pc), DV ⟨k1, ty2, bits2, imag2, text2, names2, parts2, hook2⟩ (.slice ma names2.length mc) (.slice qa parts2.length qc)] w fun e w' => e = .returned (.int .i64 (if cmpI bits1 bits2 = 0 then cmpS ty1 ty2 else cmpI bits1 bits2)) ∧ Below w.heap.size w w' := by
 have bel : ∀ cs t cs' t', Below w.heap.size w ((w.alloc (.cells cs t)).alloc (.cells cs' t')) := fun _ _ _ _ => ((Below.refl _ _).alloc (Nat.le_refl _) _).alloc (by simp) _
 have ho := fun l m W => osign_any l m W
 have hwh : ∀ W, Calls Tryz.prog 66 #[.int .i64 k1] W fun e w' => e = .returned (.bool true) ∧ w' = W := fun W => by simpa [h1] using owhole_any k1 W
 have hsg : ∀ W, Calls Tryz.prog 109 #[.int .i64 k1] W fun e w' => e = .returned (.bool false) ∧ w' = W := fun W => by simpa [h2] using osigned_any k1 W
 have hS := sgn_cmp bits1 bits2
 have hT := sgn_cmpS ty1 ty2
 generalize cmpI bits1 bits2 = c at hS ⊢
 generalize cmpS ty1 ty2 = t at hT ⊢
 have hS' : Hid (sgn2 (decide (bits1 < bits2)) (decide (bits2 < bits1)) = c) := by show _ = _; exact hS
 have hT' : Hid (sgn2 (Op.bytesLess ty1.toList ty2.toList) (!Op.bytesLess ty1.toList ty2.toList && !ty1.toList == ty2.toList) = t) := by show _ = _; rw [← hT, Bool.not_or]
 clear hS hT h1 h2
 go_enter Tryz.func107, Tryz.ntmps107
 go_upto_region 11 with (first | (go_at_call 149; refine (ho _ _ _).mono ?_; rintro e w1 ⟨rfl, hw⟩; rw [hw]; clear hw) | (go_at_call 66; refine (hwh _).mono ?_; rintro e w1 ⟨rfl, hw⟩; rw [hw]; clear hw) | (go_at_call 109; refine (hsg _).mono ?_; rintro e w1 ⟨rfl, hw⟩; rw [hw]; clear hw))
 rw [hS'.out]
 clear hS' hwh hsg h0
 by_cases hz : c = 0
 ·subst hz
  go_wp2_with (go_at_call 149; refine (ho _ _ _).mono ?_; rintro e w1 ⟨rfl, hw⟩; rw [hw]; clear hw)
  go_ret
  exact ⟨congrArg (fun z => Ending.returned (.int .i64 z)) hT'.out, bel _ _ _ _⟩
 ·have e9 : (c == 0) = false := by simp [hz]
  clear ho
  go_wp2
  go_ret
  exact ⟨rfl, bel _ _ _ _⟩
set_option maxRecDepth 1000000 in
set_option maxHeartbeats 4000000 in
theorem ocmp_bool (k1 : Int) (ty1 ty2 : ByteArray) (bits1 bits2 imag1 imag2 : Int) (text1 text2 : ByteArray) (names1 names2 : List ByteArray) (parts1 parts2 : List D) (hook1 hook2 : Int) (na pa ma qa : Option Addr) (nc pc mc qc : Nat) (w : World) :
  Calls Tryz.prog 107 #[DV ⟨1, ty1, bits1, imag1, text1, names1, parts1, hook1⟩ (.slice na names1.length nc) (.slice pa parts1.length pc), DV ⟨1, ty2, bits2, imag2, text2, names2, parts2, hook2⟩ (.slice ma names2.length mc) (.slice qa parts2.length qc)] w fun e w' => e = .returned (.int .i64 (if cmpI bits1 bits2 = 0 then cmpS ty1 ty2 else cmpI bits1 bits2)) ∧ Below w.heap.size w w' := by
 have bel : ∀ cs t cs' t', Below w.heap.size w ((w.alloc (.cells cs t)).alloc (.cells cs' t')) := fun _ _ _ _ => ((Below.refl _ _).alloc (Nat.le_refl _) _).alloc (by simp) _
 have ho := fun l m W => osign_any l m W
 have hS := sgn_cmp bits1 bits2
 have hT := sgn_cmpS ty1 ty2
 generalize cmpI bits1 bits2 = c at hS ⊢
 generalize cmpS ty1 ty2 = t at hT ⊢
 have hS' : Hid (sgn2 (decide (bits1 < bits2)) (decide (bits2 < bits1)) = c) := by show _ = _; exact hS
 have hT' : Hid (sgn2 (Op.bytesLess ty1.toList ty2.toList) (!Op.bytesLess ty1.toList ty2.toList && !ty1.toList == ty2.toList) = t) := by show _ = _; rw [← hT, Bool.not_or]
 clear hS hT
 go_enter Tryz.func107, Tryz.ntmps107
 go_upto_region 11 with (first | (go_at_call 149; refine (ho _ _ _).mono ?_; rintro e w1 ⟨rfl, hw⟩; rw [hw]; clear hw))
 rw [hS'.out]
 clear hS'
 by_cases hz : c = 0
 ·subst hz
  go_wp2_with (go_at_call 149; refine (ho _ _ _).mono ?_; rintro e w1 ⟨rfl, hw⟩; rw [hw]; clear hw)
  go_ret
  exact ⟨congrArg (fun z => Ending.returned (.int .i64 z)) hT'.out, bel _ _ _ _⟩
 ·have e9 : (c == 0) = false := by simp [hz]
  clear ho
  go_wp2
  go_ret
  exact ⟨rfl, bel _ _ _ _⟩
set_option maxRecDepth 1000000 in
set_option maxHeartbeats 4000000 in
theorem ocmp_sig (k1 : Int) (ty1 ty2 : ByteArray) (bits1 bits2 imag1 imag2 : Int) (text1 text2 : ByteArray) (names1 names2 : List ByteArray) (parts1 parts2 : List D) (hook1 hook2 : Int) (na pa ma qa : Option Addr) (nc pc mc qc : Nat) (w : World) (h0 : (k1 == 1) = false) (h1 : whoB k1 = true) (h2 : sgnB k1 = true) :
  Calls Tryz.prog 107 #[DV ⟨k1, ty1, bits1, imag1, text1, names1, parts1, hook1⟩ (.slice na names1.length nc) (.slice pa parts1.length pc), DV ⟨k1, ty2, bits2, imag2, text2, names2, parts2, hook2⟩ (.slice ma names2.length mc) (.slice qa parts2.length qc)] w fun e w' => e = .returned (.int .i64 (if cmpI (wrap64 bits1) (wrap64 bits2) = 0 then cmpS ty1 ty2 else cmpI (wrap64 bits1) (wrap64 bits2))) ∧ Below w.heap.size w w' := by
 have bel : ∀ cs t cs' t', Below w.heap.size w ((w.alloc (.cells cs t)).alloc (.cells cs' t')) := fun _ _ _ _ => ((Below.refl _ _).alloc (Nat.le_refl _) _).alloc (by simp) _
 have ho := fun l m W => osign_any l m W
 have hwh : ∀ W, Calls Tryz.prog 66 #[.int .i64 k1] W fun e w' => e = .returned (.bool true) ∧ w' = W := fun W => by simpa [h1] using owhole_any k1 W
 have hsg : ∀ W, Calls Tryz.prog 109 #[.int .i64 k1] W fun e w' => e = .returned (.bool true) ∧ w' = W := fun W => by simpa [h2] using osigned_any k1 W
 have hS := sgn_cmp (wrap64 bits1) (wrap64 bits2)
 have hT := sgn_cmpS ty1 ty2
 generalize cmpI (wrap64 bits1) (wrap64 bits2) = c at hS ⊢
 generalize cmpS ty1 ty2 = t at hT ⊢
 have hS' : Hid (sgn2 (decide (wrap64 bits1 < wrap64 bits2)) (decide (wrap64 bits2 < wrap64 bits1)) = c) := by show _ = _; exact hS
 have hT' : Hid (sgn2 (Op.bytesLess ty1.toList ty2.toList) (!Op.bytesLess ty1.toList ty2.toList && !ty1.toList == ty2.toList) = t) := by show _ = _; rw [← hT, Bool.not_or]
 clear hS hT h1 h2
 go_enter Tryz.func107, Tryz.ntmps107
 go_upto_region 11 with (first | (go_at_call 149; refine (ho _ _ _).mono ?_; rintro e w1 ⟨rfl, hw⟩; rw [hw]; clear hw) | (go_at_call 66; refine (hwh _).mono ?_; rintro e w1 ⟨rfl, hw⟩; rw [hw]; clear hw) | (go_at_call 109; refine (hsg _).mono ?_; rintro e w1 ⟨rfl, hw⟩; rw [hw]; clear hw))
 rw [hS'.out]
 clear hS' hwh hsg h0
 by_cases hz : c = 0
 ·subst hz
  go_wp2_with (go_at_call 149; refine (ho _ _ _).mono ?_; rintro e w1 ⟨rfl, hw⟩; rw [hw]; clear hw)
  go_ret
  exact ⟨congrArg (fun z => Ending.returned (.int .i64 z)) hT'.out, bel _ _ _ _⟩
 ·have e9 : (c == 0) = false := by simp [hz]
  clear ho
  go_wp2
  go_ret
  exact ⟨rfl, bel _ _ _ _⟩
set_option maxRecDepth 1000000 in
set_option maxHeartbeats 4000000 in
theorem ocmp_text (k1 : Int) (ty1 ty2 : ByteArray) (bits1 bits2 imag1 imag2 : Int) (text1 text2 : ByteArray) (names1 names2 : List ByteArray) (parts1 parts2 : List D) (hook1 hook2 : Int) (na pa ma qa : Option Addr) (nc pc mc qc : Nat) (w : World) :
  Calls Tryz.prog 107 #[DV ⟨16, ty1, bits1, imag1, text1, names1, parts1, hook1⟩ (.slice na names1.length nc) (.slice pa parts1.length pc), DV ⟨16, ty2, bits2, imag2, text2, names2, parts2, hook2⟩ (.slice ma names2.length mc) (.slice qa parts2.length qc)] w fun e w' => e = .returned (.int .i64 (if cmpS text1 text2 = 0 then cmpS ty1 ty2 else cmpS text1 text2)) ∧ Below w.heap.size w w' := by
 have bel : ∀ cs t cs' t', Below w.heap.size w ((w.alloc (.cells cs t)).alloc (.cells cs' t')) := fun _ _ _ _ => ((Below.refl _ _).alloc (Nat.le_refl _) _).alloc (by simp) _
 have ho := fun l m W => osign_any l m W
 have hwh : ∀ W, Calls Tryz.prog 66 #[.int .i64 16] W fun e w' => e = .returned (.bool false) ∧ w' = W := fun W => owhole_any 16 W
 have hsg : ∀ W, Calls Tryz.prog 109 #[.int .i64 16] W fun e w' => e = .returned (.bool false) ∧ w' = W := fun W => osigned_any 16 W
 have hS := sgn_cmpS text1 text2
 have hT := sgn_cmpS ty1 ty2
 generalize cmpS text1 text2 = c at hS ⊢
 generalize cmpS ty1 ty2 = t at hT ⊢
 have hS' : Hid (sgn2 (Op.bytesLess text1.toList text2.toList) (!Op.bytesLess text1.toList text2.toList && !text1.toList == text2.toList) = c) := by show _ = _; rw [← hS, Bool.not_or]
 have hT' : Hid (sgn2 (Op.bytesLess ty1.toList ty2.toList) (!Op.bytesLess ty1.toList ty2.toList && !ty1.toList == ty2.toList) = t) := by show _ = _; rw [← hT, Bool.not_or]
 clear hS hT
 go_enter Tryz.func107, Tryz.ntmps107
 go_upto_region 11 with (first | (go_at_call 149; refine (ho _ _ _).mono ?_; rintro e w1 ⟨rfl, hw⟩; rw [hw]; clear hw) | (go_at_call 66; refine (hwh _).mono ?_; rintro e w1 ⟨rfl, hw⟩; rw [hw]; clear hw) | (go_at_call 109; refine (hsg _).mono ?_; rintro e w1 ⟨rfl, hw⟩; rw [hw]; clear hw))
 rw [hS'.out]
 clear hS' hwh hsg
 by_cases hz : c = 0
 ·subst hz
  go_wp2_with (go_at_call 149; refine (ho _ _ _).mono ?_; rintro e w1 ⟨rfl, hw⟩; rw [hw]; clear hw)
  go_ret
  exact ⟨congrArg (fun z => Ending.returned (.int .i64 z)) hT'.out, bel _ _ _ _⟩
 ·have e9 : (c == 0) = false := by simp [hz]
  clear ho
  go_wp2
  go_ret
  exact ⟨rfl, bel _ _ _ _⟩
set_option maxRecDepth 1000000 in
set_option maxHeartbeats 4000000 in
theorem ocmp_none (k1 : Int) (ty1 ty2 : ByteArray) (bits1 bits2 imag1 imag2 : Int) (text1 text2 : ByteArray) (names1 names2 : List ByteArray) (parts1 parts2 : List D) (hook1 hook2 : Int) (na pa ma qa : Option Addr) (nc pc mc qc : Nat) (w : World) (h0 : (k1 == 1) = false) (h16 : (k1 == 16) = false) (h1 : whoB k1 = false) (h2 : sgnB k1 = false) :
  Calls Tryz.prog 107 #[DV ⟨k1, ty1, bits1, imag1, text1, names1, parts1, hook1⟩ (.slice na names1.length nc) (.slice pa parts1.length pc), DV ⟨k1, ty2, bits2, imag2, text2, names2, parts2, hook2⟩ (.slice ma names2.length mc) (.slice qa parts2.length qc)] w fun e w' => e = .returned (.int .i64 0) ∧ Below w.heap.size w w' := by
 have bel : ∀ cs t cs' t', Below w.heap.size w ((w.alloc (.cells cs t)).alloc (.cells cs' t')) := fun _ _ _ _ => ((Below.refl _ _).alloc (Nat.le_refl _) _).alloc (by simp) _
 have hwh : ∀ W, Calls Tryz.prog 66 #[.int .i64 k1] W fun e w' => e = .returned (.bool false) ∧ w' = W := fun W => by simpa [h1] using owhole_any k1 W
 have hsg : ∀ W, Calls Tryz.prog 109 #[.int .i64 k1] W fun e w' => e = .returned (.bool false) ∧ w' = W := fun W => by simpa [h2] using osigned_any k1 W
 clear h1 h2
 go_enter Tryz.func107, Tryz.ntmps107
 go_wp2_with (first | (go_at_call 66; refine (hwh _).mono ?_; rintro e w1 ⟨rfl, hw⟩; rw [hw]; clear hw) | (go_at_call 109; refine (hsg _).mono ?_; rintro e w1 ⟨rfl, hw⟩; rw [hw]; clear hw))
 go_ret
 exact ⟨rfl, bel _ _ _ _⟩
theorem ocmp_any (a b : D) (na pa ma qa : Option Addr) (nc pc mc qc : Nat) (w : World) :
  Calls Tryz.prog 107 #[DV a (.slice na a.names.length nc) (.slice pa a.parts.length pc), DV b (.slice ma b.names.length mc) (.slice qa b.parts.length qc)] w fun e w' => e = .returned (.int .i64 (dcmp a b)) ∧ Below w.heap.size w w' := by
 by_cases hk : a.kind = b.kind
 ·obtain ⟨k1, ty1, bits1, imag1, text1, names1, parts1, hook1⟩ := a
  obtain ⟨k2, ty2, bits2, imag2, text2, names2, parts2, hook2⟩ := b
  simp only at hk ⊢
  subst hk
  unfold dcmp
  simp only [ne_eq, not_true_eq_false, if_false]
  by_cases h1 : k1 = 1
  ·subst h1
   simpa [keyB, ownC] using ocmp_bool 0 ty1 ty2 bits1 bits2 imag1 imag2 text1 text2 names1 names2 parts1 parts2 hook1 hook2 na pa ma qa nc pc mc qc w
  by_cases h2 : 7 ≤ k1 ∧ k1 ≤ 11
  ·have hq : keyB k1 = true := by simp [keyB]; omega
   have ho : ownC ⟨k1, ty1, bits1, imag1, text1, names1, parts1, hook1⟩ ⟨k1, ty2, bits2, imag2, text2, names2, parts2, hook2⟩ = cmpI bits1 bits2 := by unfold ownC; rw [if_pos (Or.inr h2)]
   rw [if_pos hq, ho]
   exact ocmp_uns k1 ty1 ty2 bits1 bits2 imag1 imag2 text1 text2 names1 names2 parts1 parts2 hook1 hook2 na pa ma qa nc pc mc qc w (by simp [h1]) (by simp [whoB]; omega) (by simp [sgnB]; omega)
  by_cases h3 : 2 ≤ k1 ∧ k1 ≤ 6
  ·have hq : keyB k1 = true := by simp [keyB]; omega
   have ho : ownC ⟨k1, ty1, bits1, imag1, text1, names1, parts1, hook1⟩ ⟨k1, ty2, bits2, imag2, text2, names2, parts2, hook2⟩ = cmpI (wrap64 bits1) (wrap64 bits2) := by unfold ownC; rw [if_neg (by dsimp only; omega), if_pos h3]
   rw [if_pos hq, ho]
   exact ocmp_sig k1 ty1 ty2 bits1 bits2 imag1 imag2 text1 text2 names1 names2 parts1 parts2 hook1 hook2 na pa ma qa nc pc mc qc w (by simp [h1]) (by simp [whoB]; omega) (by simp [sgnB]; omega)
  by_cases h4 : k1 = 16
  ·subst h4
   simpa [keyB, ownC] using ocmp_text 0 ty1 ty2 bits1 bits2 imag1 imag2 text1 text2 names1 names2 parts1 parts2 hook1 hook2 na pa ma qa nc pc mc qc w
  ·have hq : ¬ keyB k1 = true := by simp [keyB]; omega
   rw [if_neg hq]
   exact ocmp_none k1 ty1 ty2 bits1 bits2 imag1 imag2 text1 text2 names1 names2 parts1 parts2 hook1 hook2 na pa ma qa nc pc mc qc w (by simp [h1]) (by simp [h4]) (by simp [whoB]; omega) (by simp [sgnB]; omega)
 ·exact ocmp_other a b na pa ma qa nc pc mc qc w hk
end Go.Proofs.YtlgieoabellbmaaGreatDoor
namespace Go.Proofs.YtlgieoabellbmaaGreatDoor
open Go.RowKit
set_option linter.unusedVariables false
set_option linter.unusedSimpArgs false
structure TO {α : Type} (c : α → α → Int) : Prop where
 zero : ∀ x y, c x y = 0 ↔ x = y
 anti : ∀ x y, c y x = - c x y
 trans : ∀ x y z, c x y < 0 → c y z < 0 → c x z < 0
theorem TO.int : TO cmpI := by
 refine ⟨fun x y => ?_, fun x y => ?_, fun x y z => ?_⟩
 all_goals unfold cmpI; (repeat' split) <;> omega
theorem toList_inj {a b : ByteArray} (h : a.toList = b.toList) : a = b := by
 rw [Lib.toList_data, Lib.toList_data] at h
 cases a; cases b
 simp at h
 rw [h]
theorem TO.str : TO cmpS := by
 have hl : ∀ a b : List UInt8, a < b ∨ a = b ∨ b < a := by
  intro a b
  by_cases h1 : a < b
  ·exact Or.inl h1
  by_cases h2 : b < a
  ·exact Or.inr (Or.inr h2)
  ·exact Or.inr (Or.inl (List.le_antisymm (List.not_lt.1 h2) (List.not_lt.1 h1)))
 have hi : ∀ a : List UInt8, ¬ a < a := fun a => List.lt_irrefl a
 have ht : ∀ a b c : List UInt8, a < b → b < c → a < c := fun a b c h1 h2 => List.lt_trans h1 h2
 have e : ∀ a b : ByteArray, cmpS a b = if a.toList < b.toList then -1 else if a.toList = b.toList then 0 else 1 := by
  intro a b
  unfold cmpS
  rw [bytesLess_eq]
  by_cases h1 : a.toList < b.toList <;> by_cases h2 : a.toList = b.toList <;> simp [h1, h2]
 refine ⟨fun x y => ?_, fun x y => ?_, fun x y z => ?_⟩
 ·rw [e]
  constructor
  ·intro h
   split at h
   ·omega
   ·split at h
    ·exact toList_inj (by assumption)
    ·omega
  ·rintro rfl
   simp [hi]
 ·rw [e, e]
  rcases hl x.toList y.toList with h | h | h
  ·have h2 : ¬ y.toList < x.toList := fun h3 => hi _ (ht _ _ _ h h3)
   have h3 : ¬ y.toList = x.toList := fun h3 => hi _ (h3 ▸ h)
   simp [h, h2, h3]
  ·simp [h, hi]
  ·have h2 : ¬ x.toList < y.toList := fun h3 => hi _ (ht _ _ _ h h3)
   have h3 : ¬ x.toList = y.toList := fun h3 => hi _ (h3 ▸ h)
   simp [h, h2, h3]
 ·rw [e, e, e]
  intro h1 h2
  have h3 : x.toList < y.toList := by
   by_cases h : x.toList < y.toList
   ·exact h
   ·rw [if_neg h] at h1; split at h1 <;> omega
  have h4 : y.toList < z.toList := by
   by_cases h : y.toList < z.toList
   ·exact h
   ·rw [if_neg h] at h2; split at h2 <;> omega
  rw [if_pos (ht _ _ _ h3 h4)]
  omega
theorem TO.lex {α β : Type} {c : α → α → Int} {d : β → β → Int} (hc : TO c) (hd : TO d) : TO (fun (p q : α × β) => if c p.1 q.1 = 0 then d p.2 q.2 else c p.1 q.1) := by
 refine ⟨fun x y => ?_, fun x y => ?_, fun x y z => ?_⟩
 ·obtain ⟨a, b⟩ := x; obtain ⟨a', b'⟩ := y
  simp only [Prod.mk.injEq]
  have h1 := hc.zero a a'; have h2 := hd.zero b b'
  split
  ·rw [h2]; exact ⟨fun h => ⟨h1.1 (by assumption), h⟩, fun h => h.2⟩
  ·exact ⟨fun h => absurd h (by assumption), fun h => absurd (h1.2 h.1) (by assumption)⟩
 ·have h1 := hc.anti x.1 y.1; have h2 := hd.anti x.2 y.2
  split <;> split <;> omega
 ·obtain ⟨a, b⟩ := x; obtain ⟨a', b'⟩ := y; obtain ⟨a2, b2⟩ := z
  dsimp only
  intro h1 h2
  by_cases e1 : c a a' = 0
  ·have := (hc.zero _ _).1 e1
   subst this
   rw [if_pos e1] at h1
   by_cases e2 : c a a2 = 0
   ·rw [if_pos e2] at h2 ⊢
    exact hd.trans _ _ _ h1 h2
   ·rw [if_neg e2] at h2 ⊢
    exact h2
  ·rw [if_neg e1] at h1
   by_cases e2 : c a' a2 = 0
   ·have := (hc.zero _ _).1 e2
    subst this
    rw [if_neg e1]
    exact h1
   ·rw [if_neg e2] at h2
    have h3 := hc.trans _ _ _ h1 h2
    rw [if_neg (by omega)]
    exact h3
theorem TO.swo {α β : Type} {c : β → β → Int} (hc : TO c) (f : α → β) : Sort.SWO (ltOf (fun x y => c (f x) (f y))) := by
 refine ⟨fun x => ?_, fun x y z => ?_, fun x y z => ?_⟩
 ·unfold ltOf
  have := (hc.zero (f x) (f x)).2 rfl
  simp [this]
 ·unfold ltOf
  simp only [decide_eq_true_eq]
  exact hc.trans _ _ _
 ·unfold ltOf
  simp only [decide_eq_false_iff_not]
  intro h1 h2 h3
  by_cases e1 : c (f x) (f y) = 0
  ·rw [(hc.zero _ _).1 e1] at h3
   exact h2 h3
  by_cases e2 : c (f y) (f z) = 0
  ·rw [← (hc.zero _ _).1 e2] at h3
   exact h1 h3
  have a1 := hc.anti (f x) (f y)
  have a2 := hc.anti (f y) (f z)
  have a3 := hc.anti (f x) (f z)
  have := hc.trans (f z) (f y) (f x) (by omega) (by omega)
  omega
theorem TO.rk : TO cmpR := by
 have h := TO.lex TO.int (TO.lex TO.int (TO.lex TO.str TO.str))
 have e : ∀ x y : Rk, cmpR x y = (fun (p q : Int × Int × ByteArray × ByteArray) => if cmpI p.1 q.1 = 0 then (if cmpI p.2.1 q.2.1 = 0 then (if cmpS p.2.2.1 q.2.2.1 = 0 then cmpS p.2.2.2 q.2.2.2 else cmpS p.2.2.1 q.2.2.1) else cmpI p.2.1 q.2.1) else cmpI p.1 q.1) (x.k, x.n, x.s, x.t) (y.k, y.n, y.s, y.t) := by
  intro x y
  unfold cmpR or4
  by_cases h1 : cmpI x.k y.k = 0 <;> by_cases h2 : cmpI x.n y.n = 0 <;> by_cases h3 : cmpS x.s y.s = 0 <;> simp [h1, h2, h3]
 refine ⟨fun x y => ?_, fun x y => ?_, fun x y z => ?_⟩
 ·rw [e]
  refine (h.zero _ _).trans ?_
  obtain ⟨a, b, c, d⟩ := x
  obtain ⟨a', b', c', d'⟩ := y
  simp
 ·rw [e, e]
  exact h.anti _ _
 ·rw [e, e, e]
  exact h.trans _ _ _
end Go.Proofs.YtlgieoabellbmaaGreatDoor
