/- The document's small functions: Whole, Signed, Great, sign, Bits, number. -/
import Derived.Test.YtjphklhfigammaaDoorVMade
import Derived.Test.YtjphklhfigammaaDoorVWalkC
namespace Go.Proofs.YtjphklhfigammaaDoor
open Go.RowKit
set_option linter.unusedVariables false
set_option linter.unusedSimpArgs false

def whoB (k : Int) : Bool := decide (2 ≤ k) && decide (k ≤ 11)
def sgnB (k : Int) : Bool := decide (2 ≤ k) && decide (k ≤ 6)
theorem owhole_any (k : Int) (w : World) : Calls Tryd.prog 14 #[.int .i64 k] w fun e w' => e = .returned (.bool (whoB k)) ∧ w' = w := by
  unfold whoB
  by_cases h1 : 2 ≤ k <;> by_cases h2 : k ≤ 11
  all_goals first
    | omega
    | (go_enter Tryd.func14, Tryd.ntmps14
       go_wp2
       go_ret
       try (simp [h1, h2]; done))
theorem osigned_any (k : Int) (w : World) : Calls Tryd.prog 75 #[.int .i64 k] w fun e w' => e = .returned (.bool (sgnB k)) ∧ w' = w := by
  unfold sgnB
  by_cases h1 : 2 ≤ k <;> by_cases h2 : k ≤ 6
  all_goals first
    | omega
    | (go_enter Tryd.func75, Tryd.ntmps75
       go_wp2
       go_ret
       try (simp [h1, h2]; done))
theorem ogreat_any (k : Int) (w : World) : Calls Tryd.prog 62 #[.int .i64 k] w fun e w' => e = .returned (.bool (great k)) ∧ w' = w := by
  unfold great
  by_cases h1 : 18 ≤ k <;> by_cases h2 : k ≤ 22
  all_goals first
    | omega
    | (go_enter Tryd.func62, Tryd.ntmps62
       go_wp2
       go_ret
       try (simp [h1, h2]; done))
def sgn2 (l m : Bool) : Int := if l then -1 else if m then 1 else 0
theorem osign_any (l m : Bool) (w : World) : Calls Tryd.prog 81 #[.bool l, .bool m] w fun e w' => e = .returned (.int .i64 (sgn2 l m)) ∧ w' = w := by
  cases l <;> cases m
  all_goals
    go_enter Tryd.func81, Tryd.ntmps81
    go_wp2
    go_ret
    exact ⟨rfl, rfl⟩
/-- How many bits a kind has. -/
def bitN (k : Int) : Int := if k = 2 ∨ k = 7 then 8 else if k = 3 ∨ k = 8 then 16 else if k = 4 ∨ k = 9 then 32 else 64
theorem obits_any (k : Int) (w : World) : Calls Tryd.prog 74 #[.int .i64 k] w fun e w' => e = .returned (.int .i64 (bitN k)) ∧ w' = w := by
  by_cases h : k = 2 ∨ k = 7 ∨ k = 3 ∨ k = 8 ∨ k = 4 ∨ k = 9
  · rcases h with rfl | rfl | rfl | rfl | rfl | rfl
    all_goals
      go_enter Tryd.func74, Tryd.ntmps74
      go_wp2
      go_ret
      exact ⟨rfl, rfl⟩
  · have e2 : (k == 2) = false := by simp; omega
    have e3 : (k == 3) = false := by simp; omega
    have e4 : (k == 4) = false := by simp; omega
    have e7 : (k == 7) = false := by simp; omega
    have e8 : (k == 8) = false := by simp; omega
    have e9 : (k == 9) = false := by simp; omega
    have HB : Hid (bitN k = 64) := by
      show bitN k = 64
      unfold bitN
      rw [if_neg (by omega), if_neg (by omega), if_neg (by omega)]
    clear h
    go_enter Tryd.func74, Tryd.ntmps74
    go_wp2
    go_ret
    rw [HB.out]
    exact ⟨rfl, rfl⟩
/-- The 64 bits of a whole number. -/
def numF (k b : Int) : Int := if sgnB k then sgN k b % 18446744073709551616 else unN k b
theorem swr_back8 (b : Int) (h0 : 0 ≤ b) (h1 : b ≤ 18446744073709551615) : swr 18446744073709551616 b % 18446744073709551616 = b := by
  have e : b % 18446744073709551616 = b := Int.emod_eq_of_lt h0 (by omega)
  unfold swr
  rw [e]
  by_cases h : (18446744073709551616 : Int) ≤ 2 * b
  · rw [if_pos h, Int.sub_emod_right, e]
  · rw [if_neg h, e]
set_option maxRecDepth 1000000 in
theorem onumber_2 (b : Int) (w : World) (h0 : 0 ≤ b) (h1 : b ≤ 18446744073709551615) :
    Calls Tryd.prog 61 #[.int .i64 2, .int .u64 b] w fun e w' => e = .returned (.int .u64 (numF 2 b)) ∧ w' = w := by
  have hb : ∀ W, Calls Tryd.prog 74 #[.int .i64 2] W fun e w' => e = .returned (.int .i64 8) ∧ w' = W := fun W => obits_any 2 W
  have hs : ∀ W, Calls Tryd.prog 75 #[.int .i64 2] W fun e w' => e = .returned (.bool true) ∧ w' = W := fun W => osigned_any 2 W
  have hm0 : 0 ≤ b % 256 := Int.emod_nonneg _ (by decide)
  have hm1 : b % 256 < 256 := Int.emod_lt_of_pos _ (by decide)
  by_cases hc : 128 ≤ b % 256
  · have HN : Hid (numF 2 b = (b % 256 - 256) % 18446744073709551616) := by
      show swr 256 b % 18446744073709551616 = _
      unfold swr
      rw [if_pos (by omega)]
    go_enter Tryd.func61, Tryd.ntmps61
    go_wp2_with (first | (go_at_call 74; refine (hb _).mono ?_; rintro e w1 ⟨rfl, hw⟩; rw [hw]; clear hw) | (go_at_call 75; refine (hs _).mono ?_; rintro e w1 ⟨rfl, hw⟩; rw [hw]; clear hw))
    go_ret
    rw [HN.out]
    exact ⟨rfl, rfl⟩
  · have HN : Hid (numF 2 b = b % 256) := by
      show swr 256 b % 18446744073709551616 = _
      unfold swr
      rw [if_neg (by omega)]
      omega
    go_enter Tryd.func61, Tryd.ntmps61
    go_wp2_with (first | (go_at_call 74; refine (hb _).mono ?_; rintro e w1 ⟨rfl, hw⟩; rw [hw]; clear hw) | (go_at_call 75; refine (hs _).mono ?_; rintro e w1 ⟨rfl, hw⟩; rw [hw]; clear hw))
    go_ret
    rw [HN.out]
    exact ⟨rfl, rfl⟩
set_option maxRecDepth 1000000 in
theorem onumber_3 (b : Int) (w : World) (h0 : 0 ≤ b) (h1 : b ≤ 18446744073709551615) :
    Calls Tryd.prog 61 #[.int .i64 3, .int .u64 b] w fun e w' => e = .returned (.int .u64 (numF 3 b)) ∧ w' = w := by
  have hb : ∀ W, Calls Tryd.prog 74 #[.int .i64 3] W fun e w' => e = .returned (.int .i64 16) ∧ w' = W := fun W => obits_any 3 W
  have hs : ∀ W, Calls Tryd.prog 75 #[.int .i64 3] W fun e w' => e = .returned (.bool true) ∧ w' = W := fun W => osigned_any 3 W
  have hm0 : 0 ≤ b % 65536 := Int.emod_nonneg _ (by decide)
  have hm1 : b % 65536 < 65536 := Int.emod_lt_of_pos _ (by decide)
  by_cases hc : 32768 ≤ b % 65536
  · have HN : Hid (numF 3 b = (b % 65536 - 65536) % 18446744073709551616) := by
      show swr 65536 b % 18446744073709551616 = _
      unfold swr
      rw [if_pos (by omega)]
    go_enter Tryd.func61, Tryd.ntmps61
    go_wp2_with (first | (go_at_call 74; refine (hb _).mono ?_; rintro e w1 ⟨rfl, hw⟩; rw [hw]; clear hw) | (go_at_call 75; refine (hs _).mono ?_; rintro e w1 ⟨rfl, hw⟩; rw [hw]; clear hw))
    go_ret
    rw [HN.out]
    exact ⟨rfl, rfl⟩
  · have HN : Hid (numF 3 b = b % 65536) := by
      show swr 65536 b % 18446744073709551616 = _
      unfold swr
      rw [if_neg (by omega)]
      omega
    go_enter Tryd.func61, Tryd.ntmps61
    go_wp2_with (first | (go_at_call 74; refine (hb _).mono ?_; rintro e w1 ⟨rfl, hw⟩; rw [hw]; clear hw) | (go_at_call 75; refine (hs _).mono ?_; rintro e w1 ⟨rfl, hw⟩; rw [hw]; clear hw))
    go_ret
    rw [HN.out]
    exact ⟨rfl, rfl⟩
set_option maxRecDepth 1000000 in
theorem onumber_4 (b : Int) (w : World) (h0 : 0 ≤ b) (h1 : b ≤ 18446744073709551615) :
    Calls Tryd.prog 61 #[.int .i64 4, .int .u64 b] w fun e w' => e = .returned (.int .u64 (numF 4 b)) ∧ w' = w := by
  have hb : ∀ W, Calls Tryd.prog 74 #[.int .i64 4] W fun e w' => e = .returned (.int .i64 32) ∧ w' = W := fun W => obits_any 4 W
  have hs : ∀ W, Calls Tryd.prog 75 #[.int .i64 4] W fun e w' => e = .returned (.bool true) ∧ w' = W := fun W => osigned_any 4 W
  have hm0 : 0 ≤ b % 4294967296 := Int.emod_nonneg _ (by decide)
  have hm1 : b % 4294967296 < 4294967296 := Int.emod_lt_of_pos _ (by decide)
  by_cases hc : 2147483648 ≤ b % 4294967296
  · have HN : Hid (numF 4 b = (b % 4294967296 - 4294967296) % 18446744073709551616) := by
      show swr 4294967296 b % 18446744073709551616 = _
      unfold swr
      rw [if_pos (by omega)]
    go_enter Tryd.func61, Tryd.ntmps61
    go_wp2_with (first | (go_at_call 74; refine (hb _).mono ?_; rintro e w1 ⟨rfl, hw⟩; rw [hw]; clear hw) | (go_at_call 75; refine (hs _).mono ?_; rintro e w1 ⟨rfl, hw⟩; rw [hw]; clear hw))
    go_ret
    rw [HN.out]
    exact ⟨rfl, rfl⟩
  · have HN : Hid (numF 4 b = b % 4294967296) := by
      show swr 4294967296 b % 18446744073709551616 = _
      unfold swr
      rw [if_neg (by omega)]
      omega
    go_enter Tryd.func61, Tryd.ntmps61
    go_wp2_with (first | (go_at_call 74; refine (hb _).mono ?_; rintro e w1 ⟨rfl, hw⟩; rw [hw]; clear hw) | (go_at_call 75; refine (hs _).mono ?_; rintro e w1 ⟨rfl, hw⟩; rw [hw]; clear hw))
    go_ret
    rw [HN.out]
    exact ⟨rfl, rfl⟩
set_option maxRecDepth 1000000 in
theorem onumber_5 (b : Int) (w : World) (h0 : 0 ≤ b) (h1 : b ≤ 18446744073709551615) :
    Calls Tryd.prog 61 #[.int .i64 5, .int .u64 b] w fun e w' => e = .returned (.int .u64 (numF 5 b)) ∧ w' = w := by
  have hb : ∀ W, Calls Tryd.prog 74 #[.int .i64 5] W fun e w' => e = .returned (.int .i64 64) ∧ w' = W := fun W => obits_any 5 W
  have hs : ∀ W, Calls Tryd.prog 75 #[.int .i64 5] W fun e w' => e = .returned (.bool true) ∧ w' = W := fun W => osigned_any 5 W
  have HN : Hid (numF 5 b = b) := by
    show numF 5 b = b
    exact swr_back8 b h0 h1
  go_enter Tryd.func61, Tryd.ntmps61
  go_wp2_with (first | (go_at_call 74; refine (hb _).mono ?_; rintro e w1 ⟨rfl, hw⟩; rw [hw]; clear hw) | (go_at_call 75; refine (hs _).mono ?_; rintro e w1 ⟨rfl, hw⟩; rw [hw]; clear hw))
  go_ret
  rw [HN.out]
  exact ⟨rfl, rfl⟩
set_option maxRecDepth 1000000 in
theorem onumber_6 (b : Int) (w : World) (h0 : 0 ≤ b) (h1 : b ≤ 18446744073709551615) :
    Calls Tryd.prog 61 #[.int .i64 6, .int .u64 b] w fun e w' => e = .returned (.int .u64 (numF 6 b)) ∧ w' = w := by
  have hb : ∀ W, Calls Tryd.prog 74 #[.int .i64 6] W fun e w' => e = .returned (.int .i64 64) ∧ w' = W := fun W => obits_any 6 W
  have hs : ∀ W, Calls Tryd.prog 75 #[.int .i64 6] W fun e w' => e = .returned (.bool true) ∧ w' = W := fun W => osigned_any 6 W
  have HN : Hid (numF 6 b = b) := by
    show numF 6 b = b
    exact swr_back8 b h0 h1
  go_enter Tryd.func61, Tryd.ntmps61
  go_wp2_with (first | (go_at_call 74; refine (hb _).mono ?_; rintro e w1 ⟨rfl, hw⟩; rw [hw]; clear hw) | (go_at_call 75; refine (hs _).mono ?_; rintro e w1 ⟨rfl, hw⟩; rw [hw]; clear hw))
  go_ret
  rw [HN.out]
  exact ⟨rfl, rfl⟩
set_option maxRecDepth 1000000 in
theorem onumber_7 (b : Int) (w : World) (h0 : 0 ≤ b) (h1 : b ≤ 18446744073709551615) :
    Calls Tryd.prog 61 #[.int .i64 7, .int .u64 b] w fun e w' => e = .returned (.int .u64 (numF 7 b)) ∧ w' = w := by
  have hb : ∀ W, Calls Tryd.prog 74 #[.int .i64 7] W fun e w' => e = .returned (.int .i64 8) ∧ w' = W := fun W => obits_any 7 W
  have hs : ∀ W, Calls Tryd.prog 75 #[.int .i64 7] W fun e w' => e = .returned (.bool false) ∧ w' = W := fun W => osigned_any 7 W
  have HN : Hid (numF 7 b = b % 256) := rfl
  go_enter Tryd.func61, Tryd.ntmps61
  go_wp2_with (first | (go_at_call 74; refine (hb _).mono ?_; rintro e w1 ⟨rfl, hw⟩; rw [hw]; clear hw) | (go_at_call 75; refine (hs _).mono ?_; rintro e w1 ⟨rfl, hw⟩; rw [hw]; clear hw))
  go_ret
  rw [HN.out]
  exact ⟨rfl, rfl⟩
set_option maxRecDepth 1000000 in
theorem onumber_8 (b : Int) (w : World) (h0 : 0 ≤ b) (h1 : b ≤ 18446744073709551615) :
    Calls Tryd.prog 61 #[.int .i64 8, .int .u64 b] w fun e w' => e = .returned (.int .u64 (numF 8 b)) ∧ w' = w := by
  have hb : ∀ W, Calls Tryd.prog 74 #[.int .i64 8] W fun e w' => e = .returned (.int .i64 16) ∧ w' = W := fun W => obits_any 8 W
  have hs : ∀ W, Calls Tryd.prog 75 #[.int .i64 8] W fun e w' => e = .returned (.bool false) ∧ w' = W := fun W => osigned_any 8 W
  have HN : Hid (numF 8 b = b % 65536) := rfl
  go_enter Tryd.func61, Tryd.ntmps61
  go_wp2_with (first | (go_at_call 74; refine (hb _).mono ?_; rintro e w1 ⟨rfl, hw⟩; rw [hw]; clear hw) | (go_at_call 75; refine (hs _).mono ?_; rintro e w1 ⟨rfl, hw⟩; rw [hw]; clear hw))
  go_ret
  rw [HN.out]
  exact ⟨rfl, rfl⟩
set_option maxRecDepth 1000000 in
theorem onumber_9 (b : Int) (w : World) (h0 : 0 ≤ b) (h1 : b ≤ 18446744073709551615) :
    Calls Tryd.prog 61 #[.int .i64 9, .int .u64 b] w fun e w' => e = .returned (.int .u64 (numF 9 b)) ∧ w' = w := by
  have hb : ∀ W, Calls Tryd.prog 74 #[.int .i64 9] W fun e w' => e = .returned (.int .i64 32) ∧ w' = W := fun W => obits_any 9 W
  have hs : ∀ W, Calls Tryd.prog 75 #[.int .i64 9] W fun e w' => e = .returned (.bool false) ∧ w' = W := fun W => osigned_any 9 W
  have HN : Hid (numF 9 b = b % 4294967296) := rfl
  go_enter Tryd.func61, Tryd.ntmps61
  go_wp2_with (first | (go_at_call 74; refine (hb _).mono ?_; rintro e w1 ⟨rfl, hw⟩; rw [hw]; clear hw) | (go_at_call 75; refine (hs _).mono ?_; rintro e w1 ⟨rfl, hw⟩; rw [hw]; clear hw))
  go_ret
  rw [HN.out]
  exact ⟨rfl, rfl⟩
set_option maxRecDepth 1000000 in
theorem onumber_10 (b : Int) (w : World) (h0 : 0 ≤ b) (h1 : b ≤ 18446744073709551615) :
    Calls Tryd.prog 61 #[.int .i64 10, .int .u64 b] w fun e w' => e = .returned (.int .u64 (numF 10 b)) ∧ w' = w := by
  have hb : ∀ W, Calls Tryd.prog 74 #[.int .i64 10] W fun e w' => e = .returned (.int .i64 64) ∧ w' = W := fun W => obits_any 10 W
  have hs : ∀ W, Calls Tryd.prog 75 #[.int .i64 10] W fun e w' => e = .returned (.bool false) ∧ w' = W := fun W => osigned_any 10 W
  have HN : Hid (numF 10 b = b) := by
    show numF 10 b = b
    rfl
  go_enter Tryd.func61, Tryd.ntmps61
  go_wp2_with (first | (go_at_call 74; refine (hb _).mono ?_; rintro e w1 ⟨rfl, hw⟩; rw [hw]; clear hw) | (go_at_call 75; refine (hs _).mono ?_; rintro e w1 ⟨rfl, hw⟩; rw [hw]; clear hw))
  go_ret
  rw [HN.out]
  exact ⟨rfl, rfl⟩
set_option maxRecDepth 1000000 in
theorem onumber_11 (b : Int) (w : World) (h0 : 0 ≤ b) (h1 : b ≤ 18446744073709551615) :
    Calls Tryd.prog 61 #[.int .i64 11, .int .u64 b] w fun e w' => e = .returned (.int .u64 (numF 11 b)) ∧ w' = w := by
  have hb : ∀ W, Calls Tryd.prog 74 #[.int .i64 11] W fun e w' => e = .returned (.int .i64 64) ∧ w' = W := fun W => obits_any 11 W
  have hs : ∀ W, Calls Tryd.prog 75 #[.int .i64 11] W fun e w' => e = .returned (.bool false) ∧ w' = W := fun W => osigned_any 11 W
  have HN : Hid (numF 11 b = b) := by
    show numF 11 b = b
    rfl
  go_enter Tryd.func61, Tryd.ntmps61
  go_wp2_with (first | (go_at_call 74; refine (hb _).mono ?_; rintro e w1 ⟨rfl, hw⟩; rw [hw]; clear hw) | (go_at_call 75; refine (hs _).mono ?_; rintro e w1 ⟨rfl, hw⟩; rw [hw]; clear hw))
  go_ret
  rw [HN.out]
  exact ⟨rfl, rfl⟩
theorem onumber_any (k b : Int) (w : World) (h0 : 0 ≤ b) (h1 : b ≤ 18446744073709551615) (hk : whoB k = true) :
    Calls Tryd.prog 61 #[.int .i64 k, .int .u64 b] w fun e w' => e = .returned (.int .u64 (numF k b)) ∧ w' = w := by
  have h : k = 2 ∨ k = 3 ∨ k = 4 ∨ k = 5 ∨ k = 6 ∨ k = 7 ∨ k = 8 ∨ k = 9 ∨ k = 10 ∨ k = 11 := by simp [whoB] at hk; omega
  rcases h with rfl | rfl | rfl | rfl | rfl | rfl | rfl | rfl | rfl | rfl
  · exact onumber_2 b w h0 h1
  · exact onumber_3 b w h0 h1
  · exact onumber_4 b w h0 h1
  · exact onumber_5 b w h0 h1
  · exact onumber_6 b w h0 h1
  · exact onumber_7 b w h0 h1
  · exact onumber_8 b w h0 h1
  · exact onumber_9 b w h0 h1
  · exact onumber_10 b w h0 h1
  · exact onumber_11 b w h0 h1
end Go.Proofs.YtjphklhfigammaaDoor
