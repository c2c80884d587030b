/- Plain mathematics of the document's Read: what is doubled and halved on the way to a quotient; values beyond the patterns. -/
import Derived.Test.YthbabhbfpcfenabGreatDoorPkM12
import Derived.Test.YthbabhbfpcfenabGreatDoorPkF10
namespace Go.Proofs.YthbabhbfpcfenabGreatDoor
open Go.RowKit
set_option linter.unusedVariables false
set_option linter.unusedSimpArgs false

/-- The value is a by b, times 2 to the power of k, in the least pattern's halves; so many doublings of b are left at most. -/
structure RdI (u v f a b k J : Nat) : Prop where
  eq : v * b = u * a * 2 ^ (k + 1)
  pos : 0 < b
  lt : a < b * 2 ^ (f + 1 + J)
theorem RdI.up {u v f a b k J : Nat} (h : RdI u v f a b k J) (hl : ¬ a < b * 2 ^ (f + 1)) : ∃ J', J = J' + 1 ∧ RdI u v f a (b * 2) (k + 1) J' := by
  cases J with
  | zero => exact absurd h.lt hl
  | succ J =>
    refine ⟨J, rfl, ?_, by have := h.pos; omega, ?_⟩
    · rw [← Nat.mul_assoc, h.eq, Nat.pow_succ 2 (k + 1), Nat.mul_assoc]
    · have := h.lt
      rw [Nat.mul_assoc, ← Nat.pow_succ']
      exact this
theorem RdI.drop {u v f a b k J : Nat} (h : RdI u v f a b k J) (hl : a < b * 2 ^ (f + 1)) : RdI u v f a b k 0 := ⟨h.eq, h.pos, hl⟩
theorem RdI.dn {u v f a b k : Nat} (h : RdI u v f a b (k + 1) 0) (hl : a * 2 < b * 2 ^ (f + 1)) : RdI u v f (a * 2) b k 0 := by
  refine ⟨?_, h.pos, hl⟩
  rw [h.eq, Nat.pow_succ 2 (k + 1), ← Nat.mul_assoc u a 2, Nat.mul_assoc (u * a), Nat.mul_comm (2 ^ (k + 1)) 2]
/-- How the document rounds a quotient. -/
def rdM (a b : Nat) : Nat := if b < 2 * (a % b) ∨ (¬ 2 * (a % b) < b ∧ a / b % 2 = 1) then a / b + 1 else a / b
theorem RdI.fin {u v f a b k I : Nat} (h : RdI u v f a b k 0) (hf : 1 ≤ f) (hu : 0 < u) (hI : 1 ≤ I) (hk : k = 0 ∨ b * 2 ^ f ≤ a) : RD f I u v (if I < (if rdM a b < 2 ^ f then rdM a b else k * 2 ^ f + rdM a b) then I else (if rdM a b < 2 ^ f then rdM a b else k * 2 ^ f + rdM a b)) :=
  RDf.rd hu hI (div_rd hf hu h.pos h.eq h.lt hk rfl)
theorem rdM_le {u v f a b k : Nat} (h : RdI u v f a b k 0) : a / b < 2 ^ (f + 1) ∧ rdM a b ≤ 2 ^ (f + 1) := by
  have : a / b < 2 ^ (f + 1) := Nat.div_lt_of_lt_mul h.lt
  refine ⟨this, ?_⟩
  unfold rdM
  split <;> omega
theorem ten_two {A B : Nat} (hA : A = 400) (hB : B = 1340) : (10 : Nat) ^ A ≤ 2 ^ B := by
  obtain ⟨C, hC⟩ : ∃ C, C = 134 := ⟨_, rfl⟩
  have h1 : (10 : Nat) ^ A ≤ 10 ^ (3 * C) := Nat.pow_le_pow_right (by decide) (by omega)
  have h2 : (10 : Nat) ^ (3 * C) ≤ 2 ^ (10 * C) := by
    rw [Nat.pow_mul, Nat.pow_mul]
    exact Nat.pow_le_pow_left (by decide) _
  exact Nat.le_trans h1 (Nat.le_trans h2 (Nat.pow_le_pow_right (by decide) (by omega)))
theorem two_ten {x A : Nat} (h : x ≤ 3 * A) : (2 : Nat) ^ x ≤ 10 ^ A := by
  refine Nat.le_trans (Nat.pow_le_pow_right (by decide) h) ?_
  rw [Nat.pow_mul]
  exact Nat.pow_le_pow_left (by decide) _
theorem pa_great {size : Int} {f ww : Nat} {least : Int} {I C : Nat} (h : Ly size f ww least I) (hC : C = 1024) : pa f (I - 1) ≤ 2 ^ ((1 - least).toNat + C) := by
  have hm := pm_lt f (I - 1)
  have h1 : 2 * pm f (I - 1) + 1 ≤ 2 ^ (f + 2) := by rw [Nat.pow_succ 2 (f + 1)]; omega
  have h2 : f + 2 + pk f (I - 1) ≤ (1 - least).toNat + C := by
    rw [hC]
    rcases h with ⟨-, rfl, -, rfl, rfl⟩ | ⟨-, rfl, -, rfl, rfl⟩
    · have : pk 23 (2139095040 - 1) = 253 := by decide
      rw [this]; decide
    · have : pk 52 (9218868437227405312 - 1) = 2045 := by decide
      rw [this]; decide
  unfold pa
  refine Nat.le_trans (Nat.mul_le_mul_right _ h1) ?_
  rw [← Nat.pow_add]
  exact Nat.pow_le_pow_right (by decide) h2
/-- The beginning. -/
theorem rdI_0 {size : Int} {f ww : Nat} {least : Int} {I : Nat} (h : Ly size f ww least I) {v N l : Nat} {p : Int} (hv : v = N * 10 ^ (p - l + 10000).toNat) (hN : N < 10 ^ l) (hp : p ≤ 400) (hl : -10000 ≤ p - l) {J : Nat} (hJ : J = 1340) :
    ((l : Int) < p → RdI (un least) v f (N * 10 ^ (p - l).toNat) 1 (-least).toNat J) ∧ (¬ (l : Int) < p → RdI (un least) v f N (10 ^ ((l : Int) - p).toNat) (-least).toNat J) := by
  obtain ⟨q0, q1, -, -, -, -, -, -, -⟩ := h.pk
  obtain ⟨K, hK⟩ : ∃ K, K = 10000 := ⟨_, rfl⟩
  have hun := un_ten hK least (by omega) (by omega)
  have ek : (1 - least).toNat = (-least).toNat + 1 := by omega
  rw [ek] at hun
  obtain ⟨A, hA⟩ : ∃ A, A = 400 := ⟨_, rfl⟩
  have h400 := ten_two hA hJ
  have hbig : ∀ x b : Nat, x < b * 10 ^ A → x < b * 2 ^ (f + 1 + J) := fun x b hx => by
    refine Nat.lt_of_lt_of_le hx (Nat.mul_le_mul_left _ (Nat.le_trans h400 (Nat.pow_le_pow_right (by decide) (by omega))))
  refine ⟨fun hlt => ⟨?_, by decide, hbig _ _ ?_⟩, fun hge => ⟨?_, pow_pos10 _, hbig _ _ ?_⟩⟩
  · rw [val_up hK hv hlt, ← hun]
    rw [← Nat.mul_assoc, Nat.mul_comm (N * 10 ^ (p - l).toNat)]
  · rw [Nat.one_mul]
    have h1 := Nat.mul_lt_mul_of_pos_right hN (pow_pos10 (p - l).toNat)
    rw [← Nat.pow_add] at h1
    exact Nat.lt_of_lt_of_le h1 (Nat.pow_le_pow_right (by decide) (by omega))
  · rw [val_dn hK hv (by omega) hl, ← hun, ← Nat.mul_assoc, Nat.mul_comm N]
  · refine Nat.lt_of_lt_of_le hN ?_
    rw [← Nat.pow_add]
    exact Nat.pow_le_pow_right (by decide) (by omega)
theorem rd_small {size : Int} {f ww : Nat} {least : Int} {I : Nat} (h : Ly size f ww least I) {v Q : Nat} (hQ : Q = 9600) (hv : v < 10 ^ Q) : RD f I (un least) v 0 := by
  obtain ⟨q0, q1, -, hI, -, -, -, -, -⟩ := h.pk
  rw [RD_zero (by omega)]
  obtain ⟨K, hK⟩ : ∃ K, K = 10000 := ⟨_, rfl⟩
  obtain ⟨A, hA⟩ : ∃ A, A = 400 := ⟨_, rfl⟩
  have hun := un_ten hK least (by omega) (by omega)
  have h2 : 2 ^ (1 - least).toNat ≤ 10 ^ A := two_ten (by omega)
  have h3 : 10 ^ K ≤ un least * 10 ^ A := by rw [← hun]; exact Nat.mul_le_mul_left _ h2
  have h4 : 10 ^ K = 10 ^ Q * 10 ^ A := by rw [← Nat.pow_add]; congr 1; omega
  rw [h4] at h3
  have := Nat.le_of_mul_le_mul_right h3 (pow_pos10 A)
  omega
theorem rd_great {size : Int} {f ww : Nat} {least : Int} {I : Nat} (h : Ly size f ww least I) {v Q : Nat} (hQ : Q = 10400) (hv : 10 ^ Q ≤ v) : RD f I (un least) v I := by
  obtain ⟨q0, q1, -, hI, -, -, -, -, -⟩ := h.pk
  obtain ⟨K, hK⟩ : ∃ K, K = 10000 := ⟨_, rfl⟩
  obtain ⟨A, hA⟩ : ∃ A, A = 400 := ⟨_, rfl⟩
  obtain ⟨C, hC⟩ : ∃ C, C = 1024 := ⟨_, rfl⟩
  have hun := un_ten hK least (by omega) (by omega)
  have h2 := pa_great h hC
  rw [Nat.pow_add] at h2
  have h3 : pa f (I - 1) * un least ≤ 2 ^ C * 10 ^ K := by
    rw [← hun]
    refine Nat.le_trans (Nat.mul_le_mul_right _ h2) (Nat.le_of_eq ?_)
    rw [Nat.mul_comm (2 ^ (1 - least).toNat), Nat.mul_assoc, Nat.mul_comm (2 ^ (1 - least).toNat)]
  have h5 : (2 : Nat) ^ C < 10 ^ A := Nat.lt_of_lt_of_le (Nat.pow_lt_pow_right (by decide) (Nat.lt_succ_self C)) (two_ten (by omega))
  have h4 : 10 ^ Q = 10 ^ A * 10 ^ K := by rw [← Nat.pow_add]; congr 1; omega
  have h6 := Nat.mul_lt_mul_of_pos_right h5 (pow_pos10 K)
  rw [h4] at hv
  refine ⟨Nat.le_refl _, .inr ?_, .inl rfl⟩
  unfold TG
  omega
end Go.Proofs.YthbabhbfpcfenabGreatDoor
