/- Plain mathematics: a little more and a little less than a middle. -/
import Derived.Test.YtgcdmeonoiaplabDoorSFacts
namespace Go.Proofs.YtgcdmeonoiaplabDoor
open Go.RowKit
set_option linter.unusedVariables false

theorem five_odd (E : Nat) : 5 ^ E % 2 = 1 := by
  induction E with
  | zero => rfl
  | succ E ih => rw [Nat.pow_succ]; omega
theorem odd_mul {a b : Nat} (ha : a % 2 = 1) (hb : b % 2 = 1) : a * b % 2 = 1 := by rw [Nat.mul_mod, ha, hb]
theorem strip1 {C t y : Nat} (hC : C % 2 = 1) (h : t * 2 = C * y) : t = C * (y / 2) := by
  have h1 : C * y % 2 = y % 2 := by rw [Nat.mul_mod, hC, Nat.one_mul, Nat.mod_mod]
  have h2 : y % 2 = 0 := by rw [← h1, ← h]; exact Nat.mul_mod_left _ _
  have h3 : y = y / 2 * 2 := by omega
  have h4 : t * 2 = C * (y / 2) * 2 := by rw [h, Nat.mul_assoc, ← h3]
  exact Nat.eq_of_mul_eq_mul_right (by decide) h4
theorem strip2 {C x y E : Nat} (hC : C % 2 = 1) (h : x * 2 ^ E = C * y) : ∃ z, x = C * z := by
  induction E generalizing y with
  | zero => exact ⟨y, by rw [← h, Nat.pow_zero, Nat.mul_one]⟩
  | succ E ih =>
    rw [Nat.pow_succ, ← Nat.mul_assoc] at h
    exact ih (y := y / 2) (strip1 hC h)
theorem small0 {C x z : Nat} (h : x = C * z) (hx : x < C) : x = 0 := by
  rcases Nat.eq_zero_or_pos z with h1 | h1
  · rw [h, h1, Nat.mul_zero]
  · have := Nat.mul_le_mul_left C h1
    omega
theorem ten24 : ∃ C D : Nat, (10 : Nat) ^ 24 = C * D ∧ C % 2 = 1 ∧ 18014398509481984 < C := ⟨59604644775390625, 16777216, by decide +kernel, by decide +kernel, by decide +kernel⟩
/-- The last digit of a middle stands where a unit of it, by 10 to the power of 25, is less than a half of the gap. -/
theorem mid_last {m K n : Nat} {E : Int} (hm : 2 * m + 1 < 18014398509481984) (h0 : -1200 ≤ E) (h : exU (2 * m + 1) E = n * 10 ^ K) (hK : 25 ≤ K) : 10 ^ (K - 25) < exU 1 E := by
  by_cases hE : 0 ≤ E
  · rw [exU_up _ hE] at h
    rw [exU_up _ hE, Nat.one_mul]
    obtain ⟨T, hT⟩ : ∃ T : Nat, T = ((0 : Int) + 10000).toNat := ⟨_, rfl⟩
    have hT1 : T = 10000 := hT
    rw [← hT] at h ⊢
    have hK2 : K < T + 24 := by
      rcases Nat.lt_or_ge K (T + 24) with h1 | h1
      · exact h1
      · exfalso
        obtain ⟨c, hc⟩ : ∃ c, K = c + 24 + T := ⟨K - 24 - T, by omega⟩
        rw [hc, Nat.pow_add, ← Nat.mul_assoc] at h
        have h2 := Nat.eq_of_mul_eq_mul_right (pow_pos10 T) h
        obtain ⟨C, D, e10, hC, hC2⟩ := ten24
        obtain ⟨z, hz⟩ := strip2 (x := 2 * m + 1) (E := E.toNat) (y := n * 10 ^ c * D) hC (by
          rw [h2, Nat.pow_add, e10, ← Nat.mul_assoc, Nat.mul_comm C D, ← Nat.mul_assoc, Nat.mul_comm _ C])
        have := small0 hz (by omega)
        omega
    have a1 : (10 : Nat) ^ (K - 25) < 10 ^ T := Nat.pow_lt_pow_right (by decide) (by omega)
    have a2 : 1 * 10 ^ T ≤ 2 ^ E.toNat * 10 ^ T := Nat.mul_le_mul_right _ (pow_pos2 _)
    omega
  · rw [exU_dn _ hE] at h
    rw [exU_dn _ hE, Nat.one_mul]
    obtain ⟨T, hT⟩ : ∃ T : Nat, T = (E + 10000).toNat := ⟨_, rfl⟩
    rw [← hT] at h ⊢
    have hK2 : K ≤ T := by
      rcases Nat.lt_or_ge T K with h1 | h1
      · exfalso
        have ho : (2 * m + 1) * 5 ^ (-E).toNat % 2 = 1 := odd_mul (by omega) (five_odd _)
        refine pow_split (x := (2 * m + 1) * 5 ^ (-E).toNat) ?_ h1 h
        omega
      · exact h1
    have a1 : (10 : Nat) ^ (K - 25) < 10 ^ T := Nat.pow_lt_pow_right (by decide) (by omega)
    have a2 : 1 * 10 ^ T ≤ 5 ^ (-E).toNat * 10 ^ T := Nat.mul_le_mul_right _ (Nat.pow_pos (by decide))
    omega
theorem mid_more {f p u T : Nat} (hT : T < 2 ^ pk f p * u) : pa f p * u + T < pa f (p + 1) * u := by
  have h1 := pa_up f p
  have h2 := pa_eq f (p + 1)
  have hp0 := pow_pos2 (pk f (p + 1))
  have h3 : (pa f p + 2 ^ pk f p) * u ≤ pa f (p + 1) * u := Nat.mul_le_mul_right _ (by omega)
  rw [Nat.add_mul] at h3
  omega
theorem mid_less {f p u T : Nat} (hp : p ≠ 0) (hT : T < 2 ^ pk f p * u) : pa f (p - 1) * u < pa f p * u - T := by
  have h1 := pa_up f (p - 1)
  rw [show p - 1 + 1 = p by omega] at h1
  have h2 := pa_eq f p
  have := pow_pos2 (pk f (p - 1))
  have h3 : (pa f (p - 1) + 2 ^ pk f p) * u ≤ pa f p * u := Nat.mul_le_mul_right _ (by omega)
  rw [Nat.add_mul] at h3
  omega
theorem num_nines (k : Nat) : num (List.replicate k 57) + 1 = 10 ^ k := by
  induction k with
  | zero => rfl
  | succ k ih =>
    have e : dg 57 = 9 := rfl
    rw [List.replicate_succ, num_cons, List.length_replicate, Nat.pow_succ, e]; omega
theorem ar1 (n x T : Nat) : ((n * x + 0) * 10 ^ 1 + 1) * T = n * (T * (x * 10 ^ 1)) + T := by
  show (n * x * 10 ^ 1 + 1) * T = _
  rw [Nat.add_mul, Nat.one_mul, Nat.mul_assoc n x, Nat.mul_assoc n, Nat.mul_comm (x * 10 ^ 1) T]
theorem ar2 (t z T : Nat) : (t * (z + 1) + z) * T + T = (t + 1) * (T * (z + 1)) := by
  rw [Nat.mul_comm T, ← Nat.mul_assoc, Nat.add_mul t 1, Nat.one_mul, ← Nat.add_assoc, Nat.add_mul (t * (z + 1) + z) 1 T, Nat.one_mul]
/-- The decimal's text with noughts and a one behind it. -/
theorem more_V {v : Nat} (hK : 26 ≤ oP v - (oL v).length + 10000) : V (oL v ++ List.replicate 25 48 ++ [49]) (oP v) = v + 10 ^ ((oP v - (oL v).length + 10000).toNat - 26) := by
  obtain ⟨K, hKK⟩ : ∃ K : Nat, (oP v - (oL v).length + 10000).toNat = K + 26 := ⟨(oP v - (oL v).length + 10000).toNat - 26, by omega⟩
  have hv := (o_dec v).val
  rw [hKK] at hv ⊢
  have hl : (oL v ++ List.replicate 25 48 ++ [49]).length = (oL v).length + 26 := by simp
  unfold V
  rw [hl, show (oP v - ((oL v).length + 26 : Nat) + 10000).toNat = K by omega, num_append, num_append, num_zeros, Nat.add_sub_cancel]
  have e1 : num [49] = 1 := rfl
  have e2 : (10 : Nat) ^ (K + 26) = 10 ^ K * (10 ^ 25 * 10 ^ 1) := by rw [← Nat.pow_add, ← Nat.pow_add]
  rw [e1, List.length_replicate, List.length_singleton]
  conv => rhs; rw [← hv, e2]
  exact ar1 _ _ _
/-- The decimal's text with its last digit one less and nines behind it. -/
theorem less_V {v : Nat} {l : List UInt8} {x : UInt8} (hl : oL v = l ++ [x]) (hK : 26 ≤ oP v - (oL v).length + 10000) : V (l ++ [x - 1] ++ List.replicate 25 57) (oP v) + 10 ^ ((oP v - (oL v).length + 10000).toNat - 25) = v ∧ allD (l ++ [x - 1] ++ List.replicate 25 57) = true := by
  obtain ⟨K, hKK⟩ : ∃ K : Nat, (oP v - (oL v).length + 10000).toNat = K + 25 := ⟨(oP v - (oL v).length + 10000).toNat - 25, by omega⟩
  have hv := (o_dec v).val
  have hd := (o_dec v).dig
  have hls := (o_dec v).lst
  rw [hKK] at hv ⊢
  have hn : (l ++ [x - 1] ++ List.replicate 25 57).length = (oL v).length + 25 := by rw [hl]; simp
  rw [hl, allD_append, Bool.and_eq_true, allD_cons] at hd
  obtain ⟨hdl, hdx⟩ := hd
  have hx : isD x = true := by cases h : isD x; · rw [h] at hdx; cases hdx
                               · rfl
  have hx0 : x ≠ 48 := by
    intro e; subst e
    rw [hl] at hls
    simp [lst] at hls
  have hxp := dg_ne hx hx0
  have hxr := (isD_iff x).1 hx
  have hx1 : (x - 1).toNat = x.toNat - 1 := by
    rw [UInt8.toNat_sub_of_le]
    · rfl
    · rw [UInt8.le_iff_toNat_le]; show 1 ≤ x.toNat; omega
  have hdx1 : isD (x - 1) = true := by
    rw [isD_iff, hx1]; unfold dg at hxp; omega
  have hg : dg (x - 1) + 1 = dg x := by unfold dg at *; rw [hx1]; omega
  refine ⟨?_, ?_⟩
  · unfold V
    rw [hn, show (oP v - ((oL v).length + 25 : Nat) + 10000).toNat = K by omega, num_append, num_snoc, List.length_replicate, Nat.add_sub_cancel]
    have h9 := num_nines 25
    have e2 : num (oL v) = num l * 10 + (dg (x - 1) + 1) := by rw [hl, num_snoc, hg]
    conv => rhs; rw [← hv, e2, Nat.pow_add, ← h9, ← Nat.add_assoc]
    rw [← h9]
    exact ar2 _ _ _
  · rw [allD_append, allD_append, hdl, allD_cons, hdx1]
    rfl
end Go.Proofs.YtgcdmeonoiaplabDoor
