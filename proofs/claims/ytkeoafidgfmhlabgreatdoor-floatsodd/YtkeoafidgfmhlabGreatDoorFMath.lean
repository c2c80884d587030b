/- Plain mathematics of layer 6: digits around a point, place by place; digits that a rounding leaves. -/
import Derived.Test.YtkeoafidgfmhlabGreatDoorFText
import Derived.Test.YtkeoafidgfmhlabGreatDoorSFacts
namespace Go.Proofs.YtkeoafidgfmhlabGreatDoor
open Go.RowKit
set_option linter.unusedVariables false
set_option linter.unusedSimpArgs false

/-- A text's byte at a place, a nought where it has none. -/
def ch (s : ByteArray) (i : Int) : UInt8 := if 0 ≤ i ∧ i < (s.size : Nat) then s.data.toList.getD i.toNat 0 else 48
def chs (s : ByteArray) (i : Int) (k : Nat) : List UInt8 := (List.range k).map fun j : Nat => ch s (i + j)
theorem chs_len (s : ByteArray) (i : Int) (k : Nat) : (chs s i k).length = k := by simp [chs]
theorem chs_zero (s : ByteArray) (i : Int) : chs s i 0 = [] := rfl
theorem chs_succ (s : ByteArray) (i : Int) (k : Nat) : chs s i (k + 1) = chs s i k ++ [ch s (i + k)] := by simp [chs, List.range_succ]
theorem chs_get (s : ByteArray) (i : Int) (k j : Nat) (h : j < k) : (chs s i k)[j]'(by rw [chs_len]; exact h) = ch s (i + j) := by simp [chs]
theorem ch_in (s : ByteArray) (i : Nat) (h : i < s.size) : ch s i = s.data.toList[i]'(by rw [list_len]; exact h) := by
  unfold ch
  rw [if_pos (by omega), Int.toNat_natCast, List.getD_eq_getElem?_getD, List.getElem?_eq_getElem (by rw [list_len]; exact h), Option.getD_some]
theorem ch_out (s : ByteArray) (i : Int) (h : i < 0 ∨ (s.size : Int) ≤ i) : ch s i = 48 := by unfold ch; rw [if_neg (by omega)]
theorem lnB_list (s : ByteArray) (n : Int) : (lnB s n).data.toList = s.data.toList ++ List.replicate (n - (s.size : Nat)).toNat 48 := by
  unfold lnB; rw [app_list, run_list]; rfl
theorem lnA_list (s : ByteArray) (n : Int) : (lnA s n).data.toList = List.replicate (n - (s.size : Nat)).toNat 48 ++ s.data.toList := by
  unfold lnA; rw [app_list, run_list]; rfl
theorem ch_lnB (s : ByteArray) (n : Int) (i : Int) : ch (lnB s n) i = ch s i := by
  rcases Int.lt_or_le i 0 with h0 | h0
  · rw [ch_out _ _ (.inl h0), ch_out _ _ (.inl h0)]
  · obtain ⟨j, rfl⟩ := Int.eq_ofNat_of_zero_le h0
    have hz := lnB_size s n
    rcases Nat.lt_or_ge j s.size with h1 | h1
    · rw [ch_in s j h1, ch_in (lnB s n) j (by omega)]
      simp only [lnB_list]
      rw [List.getElem_append_left (by rw [list_len]; exact h1)]
    · rw [ch_out s _ (.inr (by omega))]
      rcases Nat.lt_or_ge j (lnB s n).size with h2 | h2
      · rw [ch_in (lnB s n) j h2]
        simp only [lnB_list]
        rw [List.getElem_append_right (by rw [list_len]; exact h1), List.getElem_replicate]
      · rw [ch_out _ _ (.inr (by omega))]
theorem chs_lnB (s : ByteArray) (n : Int) (i : Int) (k : Nat) : chs (lnB s n) i k = chs s i k := by simp [chs, ch_lnB]
theorem ext_li (s : ByteArray) (a b : Nat) : (s.extract a b).data.toList = (s.data.toList.take b).drop a := by
  rw [ByteArray.data_extract, Array.toList_extract, List.extract_eq_take_drop]
  rw [List.drop_take]
theorem chs_all (s : ByteArray) : chs s 0 s.size = s.data.toList := by
  apply List.ext_getElem
  · rw [chs_len, list_len]
  · intro i h1 h2
    rw [chs_get _ _ _ _ (by rw [chs_len] at h1; exact h1)]
    rw [chs_len] at h1
    have := ch_in s i h1
    rw [← this]; congr 1; omega
theorem chs_take (s : ByteArray) (i : Int) (k j : Nat) (h : j ≤ k) : (chs s i k).take j = chs s i j := by
  unfold chs
  rw [← List.map_take, List.take_range, Nat.min_eq_left h]
theorem chs_drop (s : ByteArray) (i : Int) (k j : Nat) (h : j ≤ k) : (chs s i k).drop j = chs s (i + j) (k - j) := by
  apply List.ext_getElem
  · rw [List.length_drop, chs_len, chs_len]
  · intro a h1 h2
    rw [chs_len] at h2
    rw [List.getElem_drop, chs_get _ _ _ _ (by omega), chs_get _ _ _ _ h2]
    congr 1; omega
/-- Digits ahead of the point. -/
theorem arA_chs (s : ByteArray) (p : Int) (hp : 0 < p) : (arA s p).data.toList = chs s 0 p.toNat := by
  have hz := lnB_size s p
  unfold arA
  rw [if_neg (by omega), ext_li, List.drop_zero, ← chs_all, chs_lnB, chs_take _ _ _ _ (by omega)]
theorem arB_size_is (s : ByteArray) (p : Int) : (arB s p).size = ((s.size : Int) - p).toNat := by
  have hz := lnB_size s p
  have hy := lnA_size s ((s.size : Nat) - p)
  unfold arB
  split
  · omega
  · rw [ByteArray.size_extract]; omega
/-- Digits behind the point. -/
theorem arB_chs (s : ByteArray) (p : Int) : (arB s p).data.toList = chs s p (arB s p).size := by
  have hsz := arB_size_is s p
  rcases Int.lt_or_le 0 p with hp | hp
  · have hz := lnB_size s p
    rw [hsz]
    unfold arB
    rw [if_neg (by omega), ext_li, List.take_of_length_le (by rw [list_len]; omega), ← chs_all, chs_lnB, chs_drop _ _ _ _ (by omega)]
    congr 1 <;> omega
  · apply List.ext_getElem
    · rw [chs_len, list_len]
    · intro j h1 h2
      rw [chs_len] at h2
      rw [chs_get _ _ _ _ h2]
      have hl : (arB s p).data.toList = List.replicate (-p).toNat 48 ++ s.data.toList := by
        unfold arB
        rw [if_pos hp, lnA_list]
        congr 2; omega
      rcases Nat.lt_or_ge j (-p).toNat with h3 | h3
      · rw [ch_out _ _ (.inl (by omega))]
        simp only [hl]
        rw [List.getElem_append_left (by rw [List.length_replicate]; exact h3), List.getElem_replicate]
      · have e : p + (j : Int) = ((j - (-p).toNat : Nat) : Int) := by omega
        rw [e, ch_in s _ (by omega)]
        simp only [hl]
        rw [List.getElem_append_right (by rw [List.length_replicate]; exact h3)]
        congr 1; rw [List.length_replicate]
theorem arBn_chs (s : ByteArray) (p : Int) (k : Int) (h : (s.size : Int) - p ≤ k) (hk : 0 ≤ k) : (lnB (arB s p) k).data.toList = chs s p k.toNat := by
  have hsz := arB_size_is s p
  have hz := lnB_size (arB s p) k
  rw [← chs_all, chs_lnB, hz]
  apply List.ext_getElem
  · rw [chs_len, chs_len]; omega
  · intro j h1 h2
    rw [chs_len] at h1 h2
    rw [chs_get _ _ _ _ h1, chs_get _ _ _ _ h2]
    rcases Nat.lt_or_ge j (arB s p).size with h3 | h3
    · have := ch_in (arB s p) j h3
      rw [Int.zero_add, this]
      simp only [arB_chs]
      rw [chs_get _ _ _ _ h3]
    · rw [ch_out _ _ (.inr (by omega)), ch_out _ _ (.inr (by omega))]
theorem lnB_lnB (s : ByteArray) (a b : Int) : lnB (lnB s a) b = lnB s (max a b) := by
  apply ByteArray.ext; apply Array.ext'
  rw [lnB_list, lnB_list, lnB_list, lnB_size, List.append_assoc, List.replicate_append_replicate]
  congr 2; omega
theorem lnB_same (s : ByteArray) (a b : Int) (h : max (s.size : Int) a = max (s.size : Int) b) : lnB s a = lnB s b := by
  unfold lnB
  congr 2; omega
theorem lnB_none (s : ByteArray) (a : Int) (h : a ≤ (s.size : Int)) : lnB s a = s := by
  apply ByteArray.ext; apply Array.ext'
  rw [lnB_list, show (a - (s.size : Nat)).toNat = 0 by omega]; simp
theorem lnA_none (s : ByteArray) (a : Int) (h : a ≤ (s.size : Int)) : lnA s a = s := by
  apply ByteArray.ext; apply Array.ext'
  rw [lnA_list, show (a - (s.size : Nat)).toNat = 0 by omega]; simp
theorem lenS_lnA (s : ByteArray) (n : Int) (h : n ≤ 1000) : lenS s n = lnA s n := by
  have : wdt (n - (s.size : Nat)) = (n - (s.size : Nat)).toNat := by unfold wdt; omega
  unfold lenS lnA; rw [this]
/-- What has nothing below a place has its digits above it. -/
theorem low_of {d J : Nat} (h : d % 10 ^ J = 0) : d = 0 ∨ (J : Int) ≤ oP d - (oL d).length + 10000 := by
  by_cases hd : d = 0
  · exact .inl hd
  · refine .inr ?_
    have k := o_dec d
    have hne := k.ne hd
    have hv : num (oL d) * 10 ^ (oP d - (oL d).length + 10000).toNat = d := o_val d
    have hl := num_last k.dig k.lst hne
    have hlow := o_low d
    rcases Int.lt_or_le (oP d - (oL d).length + 10000) (J : Int) with h1 | h1
    · exfalso
      have h2 : d = d / 10 ^ J * 10 ^ J := by have := Nat.div_add_mod d (10 ^ J); rw [h, Nat.mul_comm] at this; omega
      exact pow_split hl (show (oP d - (oL d).length + 10000).toNat < J by omega) (hv.trans h2)
    · exact h1
theorem near_mod (v P : Nat) : near v P % 10 ^ P = 0 := by
  unfold near
  split
  · exact Nat.mul_mod_left _ _
  · rw [Nat.add_mod_right]; exact Nat.mul_mod_left _ _
/-- What is rounded to places has no more of them. -/
theorem plc_low {v : Nat} {k : Int} (h0 : 0 ≤ k) (h1 : k ≤ 1000) : ((oL (plc v k)).length : Int) - oP (plc v k) ≤ k := by
  have e : plc v k = rnd v (oP v + k) := by unfold plc; congr 1; omega
  rw [e]
  unfold rnd
  split
  · rw [o_zero.1, o_zero.2]; simpa using h0
  · split
    · omega
    · rename_i h2 h3
      rcases low_of (near_mod v (oP v - (oP v + k) + 10000).toNat) with h | h
      · rw [h, o_zero.1, o_zero.2]; simpa using h0
      · omega
/-- What is rounded to digits has no more of them. -/
theorem rnd_len {v : Nat} {c : Int} (h0 : 1 ≤ c) : ((oL (rnd v c)).length : Int) ≤ c := by
  unfold rnd
  rw [if_neg (by omega)]
  split
  · assumption
  · rename_i h
    obtain ⟨n, rfl⟩ := Int.eq_ofNat_of_zero_le (show 0 ≤ c by omega)
    have hn : n ≤ (oL v).length := by omega
    obtain ⟨x, hx, hB, hA⟩ := Bn_form (v := v) hn
    have e : (oP v - (n : Int) + 10000).toNat = Qn v n := rfl
    rw [e]
    rcases near_is v n with k | ⟨k, -, -⟩
    · rw [k]
      have := form_len hB (Nat.le_of_lt hx) (by omega)
      omega
    · rw [k]
      have := form_len hA hx (by omega)
      omega
end Go.Proofs.YtkeoafidgfmhlabGreatDoor
