/- Plain mathematics of what is near. -/
import Derived.Test.YthbabhbfpcfenabDoorBHalf
namespace Go.Proofs.YthbabhbfpcfenabDoor
open Go.RowKit
set_option linter.unusedVariables false

theorem near_form (v Q : Nat) : ∃ u, near v Q = u * 10 ^ Q ∧ (u = v / 10 ^ Q ∨ u = v / 10 ^ Q + 1) ∧ near v Q + near v Q ≤ v + v + 10 ^ Q ∧ v + v ≤ near v Q + near v Q + 10 ^ Q := by
  have h0 := Nat.div_add_mod v (10 ^ Q)
  rw [Nat.mul_comm] at h0
  have hr : v % 10 ^ Q < 10 ^ Q := Nat.mod_lt _ (pow_pos10 Q)
  unfold near
  by_cases h : 2 * (v % 10 ^ Q) < 10 ^ Q ∨ (2 * (v % 10 ^ Q) = 10 ^ Q ∧ v / 10 ^ Q % 2 = 0)
  · rw [if_pos h]
    refine ⟨_, rfl, .inl rfl, ?_, ?_⟩
    · generalize v / 10 ^ Q * 10 ^ Q = b at *; omega
    · generalize v / 10 ^ Q * 10 ^ Q = b at *; omega
  · rw [if_neg h]
    refine ⟨v / 10 ^ Q + 1, by rw [Nat.succ_mul], .inr rfl, ?_, ?_⟩
    · generalize v / 10 ^ Q * 10 ^ Q = b at *; omega
    · generalize v / 10 ^ Q * 10 ^ Q = b at *; omega
theorem near_top {v Q n : Nat} (hv : v < 10 ^ (Q + n)) : ∃ u, near v Q = u * 10 ^ Q ∧ u ≤ 10 ^ n ∧ near v Q + near v Q ≤ v + v + 10 ^ Q ∧ v + v ≤ near v Q + near v Q + 10 ^ Q := by
  obtain ⟨u, h1, h2, h3, h4⟩ := near_form v Q
  have : v / 10 ^ Q < 10 ^ n := Nat.div_lt_of_lt_mul (by rw [← Nat.pow_add]; exact hv)
  exact ⟨u, h1, by omega, h3, h4⟩
theorem near_len {v Q n : Nat} (hv : v < 10 ^ (Q + n)) : (oL (near v Q)).length ≤ max n 1 := by
  obtain ⟨u, h1, h2, -, -⟩ := near_top hv
  rcases Nat.lt_or_ge u (10 ^ n) with h | h
  · have := cnt_le h1 h; omega
  · have hu : u = 10 ^ n := by omega
    have := cnt_le (v := near v Q) (u := 1) (j := n + Q) (q := 1) (by rw [h1, hu, ← Nat.pow_add, Nat.one_mul]) (by decide)
    omega
theorem mul_mod {u Q J : Nat} (h : J ≤ Q) : u * 10 ^ Q % 10 ^ J = 0 := by
  obtain ⟨c, rfl⟩ : ∃ c, Q = c + J := ⟨Q - J, by omega⟩
  rw [Nat.pow_add, ← Nat.mul_assoc]; exact Nat.mul_mod_left _ _
theorem add_mod0 {a b A : Nat} (ha : a % A = 0) (hb : b % A = 0) : (a + b) % A = 0 := by
  rw [Nat.add_mod, ha, hb]; simp
/-- All that half wants, of a number and the nearest one of n digits. -/
theorem near_good {v Q n J : Nat} (hv : v < 10 ^ (Q + n)) (hJQ : J ≤ Q) (hm : v % 10 ^ J = 0) (hJ : 5000 ≤ J) (hK : Q + n + 1 ≤ J + 2000) (hK2 : Q + n + 1 ≤ 15000) :
    Good v ∧ Good (near v Q) ∧ Good (near v Q + near v Q) ∧ Good (v + v) ∧ Good (10 ^ Q) ∧ Good (near v Q + near v Q + 10 ^ Q) ∧ Good (v + v + 10 ^ Q) ∧ near v Q + near v Q ≤ v + v + 10 ^ Q ∧ v + v ≤ near v Q + near v Q + 10 ^ Q := by
  obtain ⟨u, h1, h2, h3, h4⟩ := near_top hv
  have mn : near v Q % 10 ^ J = 0 := by rw [h1]; exact mul_mod hJQ
  have m1 : 10 ^ Q % 10 ^ J = 0 := by have := mul_mod (u := 1) hJQ; rw [Nat.one_mul] at this; exact this
  have hQn : (10 : Nat) ^ Q ≤ 10 ^ (Q + n) := Nat.pow_le_pow_right (by decide) (by omega)
  have hp : (10 : Nat) ^ (Q + n + 1) = 10 ^ (Q + n) * 10 := Nat.pow_succ ..
  obtain ⟨K, hK3⟩ : ∃ K, Q + n + 1 = J + K := ⟨Q + n + 1 - J, by omega⟩
  have hn : near v Q ≤ 10 ^ (Q + n) := by
    rw [h1, Nat.pow_add, Nat.mul_comm]; exact Nat.mul_le_mul_left _ h2
  have G : ∀ x, x % 10 ^ J = 0 → x < 10 ^ (Q + n + 1) → Good x := fun x hx hx2 => good_of hx (by rw [← hK3]; exact hx2) hJ (by omega) (by omega)
  generalize (10 : Nat) ^ Q = B at *
  generalize near v Q = a at *
  generalize hC : (10 : Nat) ^ (Q + n) = C at *
  exact ⟨G v hm (by omega), G a mn (by omega), G _ (add_mod0 mn mn) (by omega), G _ (add_mod0 hm hm) (by omega), G _ m1 (by omega), G _ (add_mod0 (add_mod0 mn mn) m1) (by omega), G _ (add_mod0 (add_mod0 hm hm) m1) (by omega), h3, h4⟩
/-- Rounded to digits it is the nearest one. -/
theorem rnd_near {v n Q : Nat} (hQ : oP v - n + 10000 = (Q : Int)) : rnd v n = near v Q := by
  unfold rnd
  rw [if_neg (by omega)]
  by_cases h : ((oL v).length : Int) ≤ n
  · rw [if_pos h, near_whole ((o_dec v).mod (by omega))]
  · rw [if_neg h, hQ]; rfl
abbrev RoundC (s : ByteArray) (p n : Int) (S : ByteArray) (P E : Int) : Prop := ∀ w, Calls Tryd.prog 54 #[.agg #[.string s, .int .i64 p], .int .i64 n] w fun e w' => e = .returned (.tuple #[.agg #[.string S, .int .i64 P], .int .i64 E]) ∧ Below w.heap.size w w'
theorem roundC {v : Nat} (n : Int) (g : Good v) : RoundC (oS v) (oP v) n (oS (rnd v n)) (oP (rnd v n)) 0 := fun w => by
  have := round_any (oS v) (oP v) n w (oS_fit v g)
  rw [g.normE, g.normV] at this
  have e : bV 0 (rnd v n) = rnd v n := if_pos rfl
  rw [e] at this; exact this
end Go.Proofs.YthbabhbfpcfenabDoor
