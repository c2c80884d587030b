/- The walk of number: so many digits behind the first two bytes. -/
import Derived.Test.YtnoelbomcogndaaDoorHexa
namespace Go.Proofs.YtnoelbomcogndaaDoor
open Go.RowKit

theorem hexL_get : ∀ (k x j : Nat), j < k → (hexL x k)[j]? = some (hexB false (x / 16 ^ (k - 1 - j) % 16))
  | 0, _, _, h => absurd h (by omega)
  | k + 1, x, j, h => by
    simp only [hexL]
    by_cases hj : j < k
    · rw [List.getElem?_append_left (by rw [hexL_len]; exact hj), hexL_get k (x / 16) j hj, Nat.div_div_eq_div_mul, show k + 1 - 1 - j = (k - 1 - j) + 1 by omega, Nat.pow_succ, Nat.mul_comm]
    · have : j = k := by omega
      subst this
      rw [List.getElem?_append_right (by rw [hexL_len]; exact Nat.le_refl _), hexL_len]
      simp
theorem index_hex (d : Nat) (h : d < 16) : Lib.indexByte [48, 49, 50, 51, 52, 53, 54, 55, 56, 57, 97, 98, 99, 100, 101, 102] (hexB false d) = (d : Nat) := by
  match d, h with
  | 0, _ => exact (by decide +kernel)
  | 1, _ => exact (by decide +kernel)
  | 2, _ => exact (by decide +kernel)
  | 3, _ => exact (by decide +kernel)
  | 4, _ => exact (by decide +kernel)
  | 5, _ => exact (by decide +kernel)
  | 6, _ => exact (by decide +kernel)
  | 7, _ => exact (by decide +kernel)
  | 8, _ => exact (by decide +kernel)
  | 9, _ => exact (by decide +kernel)
  | 10, _ => exact (by decide +kernel)
  | 11, _ => exact (by decide +kernel)
  | 12, _ => exact (by decide +kernel)
  | 13, _ => exact (by decide +kernel)
  | 14, _ => exact (by decide +kernel)
  | 15, _ => exact (by decide +kernel)
  | n + 16, h => omega
theorem or_nat (y d : Nat) (hy : y ≤ 1114111) (hd : d < 16) : bits .or .i32 (wrap32 ((y : Int) * 16)) (wrap32 (d : Int)) = ((y * 16 + d : Nat) : Int) := by
  have e1 : wrap32 ((y : Int) * 16) = ((y * 16 : Nat) : Int) := by unfold wrap32; omega
  have e2 : wrap32 (d : Int) = (d : Int) := by unfold wrap32; omega
  rw [e1, e2, (bits_nat .i32 31 (by decide) wraps_i32_31 (y * 16) d (by omega) (by omega)).2]
  have := Nat.two_pow_add_eq_or_of_lt (i := 4) (b := d) (by omega) y
  rw [show y * 16 = 2 ^ 4 * y by omega, ← this]
theorem num_step (s : ByteArray) (k n x : Nat) (vi : Int) (rest : List UInt8) (hx : x ≤ 1114111) (h : s.data.toList.drop 2 = hexL x k ++ rest) (hn : 2 ≤ n) (hk : n < 2 + k) (hns : n < s.size) (hv : vi = ((x / 16 ^ (k + 2 - n) : Nat) : Int)) :
    bits .or .i32 (wrap32 (vi * 16)) (wrap32 (Lib.indexByte [48, 49, 50, 51, 52, 53, 54, 55, 56, 57, 97, 98, 99, 100, 101, 102] (s[n]'hns))) = ((x / 16 ^ (k + 2 - (n + 1)) : Nat) : Int) := by
  have e0 : s.data.toList[n]? = some (s[n]'hns) := by
    rw [List.getElem?_eq_getElem (show n < s.data.toList.length by rw [list_len]; exact hns)]
    rfl
  have e1 : (s.data.toList.drop 2)[n - 2]? = some (s[n]'hns) := by
    rw [List.getElem?_drop, show 2 + (n - 2) = n by omega, e0]
  rw [h, List.getElem?_append_left (by rw [hexL_len]; omega), hexL_get k x (n - 2) (by omega)] at e1
  have e2 := Option.some.inj e1
  obtain ⟨m, hm⟩ : ∃ m, k + 2 - (n + 1) = m := ⟨_, rfl⟩
  rw [show k - 1 - (n - 2) = m by omega] at e2
  have hd : x / 16 ^ m % 16 < 16 := Nat.mod_lt _ (by omega)
  have hle : x / 16 ^ (m + 1) ≤ x := Nat.div_le_self _ _
  rw [← e2, index_hex _ hd, hv, show k + 2 - n = m + 1 by omega, or_nat _ _ (by omega) hd, hm]
  have := Nat.div_add_mod (x / 16 ^ m) 16
  have e3 : x / 16 ^ m / 16 = x / 16 ^ (m + 1) := by rw [Nat.div_div_eq_div_mul, Nat.pow_succ]
  rw [e3] at this
  congr 1
  omega

set_option maxRecDepth 1000000 in
set_option maxHeartbeats 400000 in
theorem number_any (s : ByteArray) (k : Nat) (w : World) (hs : 2 ≤ s.size) (hs' : s.size ≤ 10000000) (hk : k ≤ 8) :
    Calls Tryd.prog 58 #[.string s, .int .i64 k] w fun e w' => ∃ v : Int, e = .returned (.tuple #[.int .i32 v, .int .i64 (min (2 + k) s.size : Nat)]) ∧ w' = w ∧ (∀ x rest, x ≤ 1114111 → x < 16 ^ k → s.data.toList.drop 2 = hexL x k ++ rest → v = (x : Nat)) := by
  obtain ⟨E, hE⟩ : ∃ E : Nat, min (2 + k) s.size = E := ⟨_, rfl⟩
  have hE' : min (2 + (k : Int)) (s.size : Int) = (E : Int) := by omega
  have hE1 : 2 ≤ E ∧ E ≤ s.size ∧ E ≤ 2 + k := by omega
  rw [hE]
  go_enter Tryd.func58, Tryd.ntmps58
  go_wp2
  go_loopg [6, 8] (E - 2) (fun g v i wr => wr = w ∧ ∃ (vi : Int) (n : Nat), v = .int .i32 vi ∧ i = .int .i64 n ∧ 2 ≤ n ∧ n + g = E ∧ Hid (∀ x rest, x ≤ 1114111 → x < 16 ^ k → s.data.toList.drop 2 = hexL x k ++ rest → vi = ((x / 16 ^ (k + 2 - n) : Nat) : Int)))
  case atStart =>
    refine ⟨rfl, 0, 2, rfl, rfl, Nat.le_refl _, by omega, ?_⟩
    intro x rest hx hxk h
    rw [show k + 2 - 2 = k by omega, Nat.div_eq_of_lt hxk]; rfl
  case round =>
    obtain ⟨rfl, vi, n, rfl, rfl, hn2, hng, hv⟩ := hrel
    by_cases hlt : n < E
    · have hns : n < s.size := by omega
      have hns' : (n : Int) < E := by omega
      go_wp2_with (go_at_call 65; refine (Tryd.strings_IndexByte _ _ _).mono ?_; rintro e w' ⟨rfl, rfl⟩)
      go_roundg (gk - 1)
      case measure => omega
      case rel =>
        refine ⟨rfl, _, n + 1, rfl, by go_num, by omega, by omega, ?_⟩
        intro x rest hx hxk h
        exact num_step s k n x vi rest hx h hn2 (by omega) hns (hv.out x rest hx hxk h)
    · have hns' : ¬ (n : Int) < E := by omega
      go_wp2
      go_ret2
      refine ⟨vi, rfl, rfl, ?_⟩
      intro x rest hx hxk h
      have hl := congrArg List.length h
      rw [List.length_drop, list_len, List.length_append, hexL_len] at hl
      have := hv.out x rest hx hxk h
      rw [show k + 2 - n = 0 by omega] at this
      simpa using this
end Go.Proofs.YtnoelbomcogndaaDoor
