/- Plain mathematics of patterns: what a pattern is worth, the middles, what is read as one. Units are left open. -/
import Derived.Test.YthbabhbfpcfenabDoorBNear
namespace Go.Proofs.YthbabhbfpcfenabDoor
open Go.RowKit
set_option linter.unusedVariables false

/-- m of a pattern without its sign bit, f bits of F. -/
def pm (f p : Nat) : Nat := if p / 2 ^ f = 0 then p % 2 ^ f else 2 ^ f + p % 2 ^ f
/-- Its e, from the least one on. -/
def pk (f p : Nat) : Nat := p / 2 ^ f - 1
/-- Its value, in units of the least e. -/
def pq (f p : Nat) : Nat := pm f p * 2 ^ pk f p
/-- The middle above it, in halves of these units. -/
def pa (f p : Nat) : Nat := (2 * pm f p + 1) * 2 ^ pk f p
theorem pow_pos2 (n : Nat) : 0 < 2 ^ n := Nat.pow_pos (by decide)
theorem pm_lt (f p : Nat) : pm f p < 2 ^ (f + 1) := by
  have h := Nat.mod_lt p (pow_pos2 f)
  unfold pm
  rw [Nat.pow_succ]
  split <;> omega
theorem pq_next (f p : Nat) : pq f (p + 1) = (pm f p + 1) * 2 ^ pk f p := by
  have hp := pow_pos2 f
  have h0 := Nat.div_add_mod p (2 ^ f)
  have h1 := Nat.mod_lt p hp
  unfold pq
  rcases Nat.lt_or_ge (p % 2 ^ f + 1) (2 ^ f) with h | h
  · have e1 : (p + 1) / 2 ^ f = p / 2 ^ f := by
      rw [Nat.div_eq_iff hp]
      have : p / 2 ^ f * 2 ^ f = 2 ^ f * (p / 2 ^ f) := Nat.mul_comm ..
      omega
    have e2 : (p + 1) % 2 ^ f = p % 2 ^ f + 1 := by
      have := Nat.div_add_mod (p + 1) (2 ^ f)
      rw [e1] at this; omega
    unfold pm pk
    rw [e1, e2]
    split <;> (congr 1)
  · have e0 : p % 2 ^ f + 1 = 2 ^ f := by omega
    have e3 : p + 1 = 2 ^ f * (p / 2 ^ f + 1) := by rw [Nat.mul_add, Nat.mul_one]; omega
    have e1 : (p + 1) / 2 ^ f = p / 2 ^ f + 1 := by rw [e3, Nat.mul_div_cancel_left _ hp]
    have e2 : (p + 1) % 2 ^ f = 0 := by rw [e3]; exact Nat.mul_mod_right _ _
    unfold pm pk
    rw [e1, e2, if_neg (Nat.succ_ne_zero _)]
    by_cases hE : p / 2 ^ f = 0
    · rw [if_pos hE, hE, e0]; rfl
    · rw [if_neg hE]
      obtain ⟨k, hk⟩ : ∃ k, p / 2 ^ f = k + 1 := Nat.exists_eq_succ_of_ne_zero ‹_›
      rw [hk, show k + 1 + 1 - 1 = k + 1 by omega, show k + 1 - 1 = k by omega, Nat.add_zero, Nat.add_assoc, e0, Nat.pow_succ 2 k, Nat.mul_comm (2 ^ k) 2, ← Nat.mul_assoc, Nat.mul_two]
theorem pq_succ (f p : Nat) : pq f (p + 1) = pq f p + 2 ^ pk f p := by rw [pq_next, Nat.add_mul, Nat.one_mul]; rfl
theorem pa_eq (f p : Nat) : pa f p = 2 * pq f p + 2 ^ pk f p := by unfold pa pq; rw [Nat.add_mul, Nat.one_mul, Nat.mul_assoc]
theorem pa_up (f p : Nat) : pa f p + 2 ^ pk f p = 2 * pq f (p + 1) := by rw [pa_eq, pq_succ]; omega
theorem pk_mono (f : Nat) {p q : Nat} (h : p ≤ q) : 2 ^ pk f p ≤ 2 ^ pk f q :=
  Nat.pow_le_pow_right (by decide) (by unfold pk; have := Nat.div_le_div_right (c := 2 ^ f) h; omega)
theorem pa_lt_succ (f p : Nat) : pa f p < pa f (p + 1) := by
  have h1 := pa_up f p
  have h2 := pa_eq f (p + 1)
  have := pow_pos2 (pk f p)
  have := pow_pos2 (pk f (p + 1))
  omega
theorem pa_mono (f : Nat) {p q : Nat} (h : p < q) : pa f p < pa f q := by
  induction h with
  | refl => exact pa_lt_succ f p
  | step _ ih => exact Nat.lt_trans ih (pa_lt_succ f _)
/-- The lower gap of a pattern is no less than its value by 2 to the power of f + 1. -/
theorem pq_gap (f p : Nat) : pq f (p + 1) ≤ 2 ^ (f + 1) * 2 ^ pk f p := by
  rw [pq_next]
  exact Nat.mul_le_mul_right _ (pm_lt f p)

/-- Is a pattern too great for v? -/
def TG (f u v p : Nat) : Prop := v < pa f (p - 1) * u ∨ (v = pa f (p - 1) * u ∧ p % 2 = 1)
/-- v is read as r; I is the pattern of Inf. -/
def RD (f I u v r : Nat) : Prop := r ≤ I ∧ (r = 0 ∨ ¬ TG f u v r) ∧ (r = I ∨ TG f u v (r + 1))
theorem TG.mono {f u v p q : Nat} (hu : 0 < u) (hp : 1 ≤ p) (h : p ≤ q) (t : TG f u v p) : TG f u v q := by
  rcases Nat.eq_or_lt_of_le h with rfl | h
  · exact t
  · have h1 := Nat.mul_lt_mul_of_pos_right (pa_mono f (show p - 1 < q - 1 by omega)) hu
    refine .inl ?_
    rcases t with t | ⟨t, -⟩ <;> omega
theorem RD.uniq {f I u v r s : Nat} (hu : 0 < u) (h : RD f I u v r) (k : RD f I u v s) : r = s := by
  have key : ∀ {r s : Nat}, RD f I u v r → RD f I u v s → ¬ r < s := by
    intro r s h k hlt
    have h1 : TG f u v (r + 1) := by rcases h.2.2 with e | t; · have := k.1; omega
                                     · exact t
    rcases k.2.1 with e | t
    · omega
    · exact t (h1.mono hu (by omega) (by omega))
  have a := key h k
  have b := key k h
  omega
theorem rd_ex (f I u v : Nat) (hu : 0 < u) : ∃ r, RD f I u v r := by
  induction I with
  | zero => exact ⟨0, Nat.le_refl _, .inl rfl, .inl rfl⟩
  | succ I ih =>
    by_cases h : TG f u v (I + 1)
    · obtain ⟨r, h1, h2, h3⟩ := ih
      refine ⟨r, by omega, h2, .inr ?_⟩
      rcases h3 with rfl | h3
      · exact h
      · exact h3
    · exact ⟨I + 1, Nat.le_refl _, .inr h, .inl rfl⟩
theorem RD.mono {f I u v v' r s : Nat} (hu : 0 < u) (h : RD f I u v r) (k : RD f I u v' s) (hv : v ≤ v') : r ≤ s := by
  rcases Nat.lt_or_ge s r with hlt | hge
  · exfalso
    have h1 : TG f u v' (s + 1) := by rcases k.2.2 with e | t; · have := h.1; omega
                                      · exact t
    have h2 : TG f u v (s + 1) := by
      rcases h1 with t | ⟨t1, t2⟩
      · exact .inl (by omega)
      · rcases Nat.eq_or_lt_of_le hv with e | e
        · exact .inr ⟨by omega, t2⟩
        · exact .inl (by omega)
    rcases h.2.1 with e | t
    · omega
    · exact t (h2.mono hu (by omega) (by omega))
  · exact hge
/-- Where a pattern's bounds lie. -/
theorem RD_in {f I u v p : Nat} (hp : p < I) : RD f I u v (p + 1 - 1) ↔ ¬ (p ≠ 0 ∧ TG f u v p) ∧ TG f u v (p + 1) := by
  rw [Nat.add_sub_cancel]
  unfold RD
  constructor
  · rintro ⟨h1, h2, h3⟩
    refine ⟨?_, ?_⟩
    · rintro ⟨a, b⟩
      rcases h2 with h2 | h2
      · exact a h2
      · exact h2 b
    · rcases h3 with h3 | h3
      · omega
      · exact h3
  · rintro ⟨h1, h2⟩
    refine ⟨by omega, ?_, .inr h2⟩
    by_cases h0 : p = 0
    · exact .inl h0
    · exact .inr fun t => h1 ⟨h0, t⟩
/-- The bounds' words: below and above p (which is not 0). -/
theorem RD_bounds {f I u v p : Nat} (h0 : p ≠ 0) (hp : p < I) :
    RD f I u v p ↔ if p % 2 = 0 then pa f (p - 1) * u ≤ v ∧ v ≤ pa f p * u else pa f (p - 1) * u < v ∧ v < pa f p * u := by
  have := RD_in (f := f) (u := u) (v := v) hp
  rw [Nat.add_sub_cancel] at this
  rw [this]
  unfold TG
  rw [Nat.add_sub_cancel]
  by_cases he : p % 2 = 0
  · rw [if_pos he]; omega
  · rw [if_neg he]; omega
theorem RD_zero {f I u v : Nat} (hI : 0 < I) : RD f I u v 0 ↔ v ≤ u := by
  have h := RD_in (f := f) (u := u) (v := v) hI
  rw [h]
  have e : pa f 0 = 1 := by
    unfold pa pm pk
    rw [Nat.zero_div, if_pos rfl, Nat.zero_mod]
  unfold TG
  rw [Nat.zero_add, Nat.sub_self, e, Nat.one_mul]
  omega
/-- The value itself is read as the pattern. -/
theorem RD_self {f I u p : Nat} (hu : 0 < u) (hp : p < I) : RD f I u (2 * pq f p * u) p := by
  by_cases h0 : p = 0
  · subst h0
    rw [RD_zero hp]
    have : pq f 0 = 0 := by unfold pq pm pk; rw [Nat.zero_div, if_pos rfl, Nat.zero_mod, Nat.zero_mul]
    rw [this]; simp
  · rw [RD_bounds h0 hp]
    obtain ⟨q, rfl⟩ : ∃ q, p = q + 1 := ⟨p - 1, by omega⟩
    have h1 := pa_up f q
    have h2 := pa_eq f (q + 1)
    have := pow_pos2 (pk f q)
    have := pow_pos2 (pk f (q + 1))
    rw [Nat.add_sub_cancel]
    have a := Nat.mul_lt_mul_of_pos_right (show pa f q < 2 * pq f (q + 1) by omega) hu
    have b := Nat.mul_lt_mul_of_pos_right (show 2 * pq f (q + 1) < pa f (q + 1) by omega) hu
    split <;> omega
/-- The middle is read as the even one. -/
theorem RD_mid {f I u p : Nat} (hu : 0 < u) (hp : p < I) (hI : I % 2 = 0) : RD f I u (pa f p * u) (p + p % 2) := by
  rcases Nat.mod_two_eq_zero_or_one p with h | h
  · rw [h, Nat.add_zero]
    by_cases h0 : p = 0
    · subst h0
      refine (RD_zero hp).2 ?_
      have e : pa f 0 = 1 := by
        unfold pa pm pk
        rw [Nat.zero_div, if_pos rfl, Nat.zero_mod]
      rw [e]; omega
    · rw [RD_bounds h0 hp, if_pos h]
      have a := Nat.mul_lt_mul_of_pos_right (pa_mono f (show p - 1 < p by omega)) hu
      omega
  · rw [h]
    refine ⟨by omega, .inr ?_, ?_⟩
    · unfold TG; rw [Nat.add_sub_cancel]; omega
    · by_cases hh : p + 1 = I
      · exact .inl hh
      · refine .inr (.inl ?_)
        rw [Nat.add_sub_cancel]
        exact Nat.mul_lt_mul_of_pos_right (pa_mono f (by omega)) hu
/-- A little more than the middle. -/
theorem RD_more {f I u v p : Nat} (hu : 0 < u) (hp : p < I) (h1 : pa f p * u < v) (h2 : v < pa f (p + 1) * u) : RD f I u v (p + 1) := by
  refine ⟨by omega, .inr ?_, .inr (.inl ?_)⟩
  · unfold TG; rw [Nat.add_sub_cancel]; omega
  · rw [Nat.add_sub_cancel]; exact h2
/-- A little less. -/
theorem RD_less {f I u v p : Nat} (hp : p < I) (h1 : p = 0 ∨ pa f (p - 1) * u < v) (h2 : v < pa f p * u) : RD f I u v p := by
  refine ⟨by omega, ?_, .inr (.inl (by rw [Nat.add_sub_cancel]; exact h2))⟩
  rcases h1 with h1 | h1
  · exact .inl h1
  · exact .inr (by unfold TG; omega)

/-- What the document's division finds: a by b is d in units of 2 to the power of e. m is the quotient, rest what is left. -/
theorem pat_of {f m k : Nat} (h1 : m < 2 ^ (f + 1)) (h2 : k = 0 ∨ 2 ^ f ≤ m) : ∃ p, p = (if m < 2 ^ f then m else k * 2 ^ f + m) ∧ pm f p = m ∧ pk f p = k := by
  have hp := pow_pos2 f
  rw [Nat.pow_succ] at h1
  rcases Nat.lt_or_ge m (2 ^ f) with h | h
  · refine ⟨m, (if_pos h).symm, ?_, ?_⟩
    · unfold pm; rw [Nat.div_eq_of_lt h, if_pos rfl, Nat.mod_eq_of_lt h]
    · unfold pk; rw [Nat.div_eq_of_lt h]; omega
  · refine ⟨k * 2 ^ f + m, by rw [if_neg (by omega)], ?_, ?_⟩
    · have e1 : (k * 2 ^ f + m) / 2 ^ f = k + 1 := by
        rw [Nat.div_eq_iff hp, Nat.add_mul, Nat.one_mul]; omega
      have e2 : (k * 2 ^ f + m) % 2 ^ f = m - 2 ^ f := by
        rw [Nat.mul_comm, Nat.mul_add_mod, Nat.mod_eq_sub_mod h, Nat.mod_eq_of_lt (by omega)]
      unfold pm
      rw [e1, e2, if_neg (by omega)]; omega
    · have e1 : (k * 2 ^ f + m) / 2 ^ f = k + 1 := by
        rw [Nat.div_eq_iff hp, Nat.add_mul, Nat.one_mul]; omega
      unfold pk; rw [e1]; omega
theorem pm_self (f p : Nat) : p = if pm f p < 2 ^ f then pm f p else pk f p * 2 ^ f + pm f p := by
  have hp := pow_pos2 f
  have h0 := Nat.div_add_mod p (2 ^ f)
  have h1 := Nat.mod_lt p hp
  unfold pm pk
  by_cases h : p / 2 ^ f = 0
  · rw [if_pos h, if_pos h1]
    rw [h] at h0; omega
  · rw [if_neg h, if_neg (Nat.not_lt.2 (Nat.le_add_right _ _))]
    obtain ⟨k, hk⟩ : ∃ k, p / 2 ^ f = k + 1 := Nat.exists_eq_succ_of_ne_zero ‹_›
    rw [hk] at h0 ⊢
    rw [Nat.add_sub_cancel]
    rw [Nat.mul_add, Nat.mul_one, Nat.mul_comm] at h0
    omega
end Go.Proofs.YthbabhbfpcfenabDoor
