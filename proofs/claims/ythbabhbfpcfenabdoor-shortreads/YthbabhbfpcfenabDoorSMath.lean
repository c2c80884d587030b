/- Plain mathematics: the document's division, and the shortest decimal. -/
import Derived.Test.YthbabhbfpcfenabDoorSPat
namespace Go.Proofs.YthbabhbfpcfenabDoor
open Go.RowKit
set_option linter.unusedVariables false

/-- Read as r, were there no Inf. -/
def RDf (f u v r : Nat) : Prop := (r = 0 ∨ ¬ TG f u v r) ∧ TG f u v (r + 1)
theorem RDf.rd {f I u v r : Nat} (hu : 0 < u) (hI : 1 ≤ I) (h : RDf f u v r) : RD f I u v (if I < r then I else r) := by
  by_cases hr : I < r
  · rw [if_pos hr]
    refine ⟨Nat.le_refl _, .inr fun t => ?_, .inl rfl⟩
    rcases h.1 with e | e
    · omega
    · exact e (t.mono hu hI (by omega))
  · rw [if_neg hr]
    exact ⟨by omega, h.1, .inr h.2⟩
theorem two_pow_even {f : Nat} (hf : 1 ≤ f) (k : Nat) : k * 2 ^ f % 2 = 0 := by
  obtain ⟨g, rfl⟩ : ∃ g, f = g + 1 := ⟨f - 1, by omega⟩
  rw [Nat.pow_succ, ← Nat.mul_assoc]; exact Nat.mul_mod_left _ _
/-- The pattern next to the value v, which lies at the pattern r or between it and the next one. -/
theorem rdf_near {f u v r m : Nat} (hu : 0 < u) (h0 : 2 * pq f r * u ≤ v) (h1 : v < 2 * pq f (r + 1) * u)
    (hm : (v < pa f r * u ∧ m = r) ∨ (pa f r * u < v ∧ m = r + 1) ∨ (v = pa f r * u ∧ m = r + r % 2)) : RDf f u v m := by
  have lo : r = 0 ∨ pa f (r - 1) * u < 2 * pq f r * u := by
    by_cases hr : r = 0
    · exact .inl hr
    · obtain ⟨q, rfl⟩ : ∃ q, r = q + 1 := ⟨r - 1, by omega⟩
      refine .inr (Nat.mul_lt_mul_of_pos_right ?_ hu)
      rw [Nat.add_sub_cancel]
      have := pa_up f q
      have := pow_pos2 (pk f q)
      omega
  have hi : 2 * pq f (r + 1) * u < pa f (r + 1) * u := by
    refine Nat.mul_lt_mul_of_pos_right ?_ hu
    have := pa_eq f (r + 1)
    have := pow_pos2 (pk f (r + 1))
    omega
  have L : r = 0 ∨ ¬ TG f u v r := by
    rcases lo with h | h
    · exact .inl h
    · exact .inr (by unfold TG; omega)
  have T2 : TG f u v (r + 1 + 1) := .inl (by rw [Nat.add_sub_cancel]; omega)
  rcases hm with ⟨h, rfl⟩ | ⟨h, rfl⟩ | ⟨h, rfl⟩
  · exact ⟨L, .inl (by rw [Nat.add_sub_cancel]; exact h)⟩
  · exact ⟨.inr (by unfold TG; rw [Nat.add_sub_cancel]; omega), T2⟩
  · rcases Nat.mod_two_eq_zero_or_one r with hp | hp
    · rw [hp, Nat.add_zero]
      exact ⟨L, .inr ⟨by rw [Nat.add_sub_cancel]; exact h, by omega⟩⟩
    · rw [hp]
      exact ⟨.inr (by unfold TG; rw [Nat.add_sub_cancel]; omega), T2⟩
/-- What the document's division tells: v in its units is a by b times 2 to the power of k. -/
theorem div_rd {f u v a b k m : Nat} (hf : 1 ≤ f) (hu : 0 < u) (hb : 0 < b) (hv : v * b = u * a * 2 ^ (k + 1)) (ha : a < b * 2 ^ (f + 1)) (hk : k = 0 ∨ b * 2 ^ f ≤ a)
    (hm : m = if b < 2 * (a % b) ∨ (¬ 2 * (a % b) < b ∧ a / b % 2 = 1) then a / b + 1 else a / b) :
    RDf f u v (if m < 2 ^ f then m else k * 2 ^ f + m) := by
  have h0 := Nat.div_add_mod a b
  have h1 := Nat.mod_lt a hb
  have q1 : a / b < 2 ^ (f + 1) := Nat.div_lt_of_lt_mul ha
  have q2 : k = 0 ∨ 2 ^ f ≤ a / b := by
    rcases hk with h | h
    · exact .inl h
    · exact .inr ((Nat.le_div_iff_mul_le hb).2 (by rw [Nat.mul_comm]; exact h))
  generalize a / b = q at *
  generalize a % b = t at *
  obtain ⟨r, hr, rm, rk⟩ := pat_of q1 q2
  have e1 : pq f r = q * 2 ^ k := by unfold pq; rw [rm, rk]
  have e2 : pq f (r + 1) = (q + 1) * 2 ^ k := by rw [pq_next, rm, rk]
  have e3 : pa f r = (2 * q + 1) * 2 ^ k := by unfold pa; rw [rm, rk]
  have hpe : r % 2 = q % 2 := by
    rw [hr]
    split
    · rfl
    · have := two_pow_even hf k; omega
  -- all are held against v * b
  have hW : 0 < u * 2 ^ k := Nat.mul_pos hu (pow_pos2 k)
  have ev : v * b = 2 * a * (u * 2 ^ k) := by
    rw [hv, Nat.pow_succ, Nat.mul_comm (2 ^ k) 2, ← Nat.mul_assoc, Nat.mul_comm (u * a) 2, Nat.mul_comm u a, ← Nat.mul_assoc 2 a u, Nat.mul_assoc (2 * a)]
  have ex : ∀ c : Nat, c * 2 ^ k * u * b = c * b * (u * 2 ^ k) := fun c => by
    rw [Nat.mul_assoc c, Nat.mul_comm (2 ^ k) u, Nat.mul_assoc c, Nat.mul_comm (u * 2 ^ k) b, ← Nat.mul_assoc]
  have lt_of : ∀ c : Nat, (c * 2 ^ k * u < v ↔ c * b < 2 * a) ∧ (v < c * 2 ^ k * u ↔ 2 * a < c * b) := fun c => by
    have i1 : c * 2 ^ k * u < v ↔ c * 2 ^ k * u * b < v * b := (Nat.mul_lt_mul_right hb).symm
    have i2 : v < c * 2 ^ k * u ↔ v * b < c * 2 ^ k * u * b := (Nat.mul_lt_mul_right hb).symm
    rw [i1, i2, ex, ev]
    exact ⟨Nat.mul_lt_mul_right hW, Nat.mul_lt_mul_right hW⟩
  have hq1 : (2 * q) * b = 2 * (b * q) := by rw [Nat.mul_assoc, Nat.mul_comm q b]
  have hq2 : (2 * (q + 1)) * b = 2 * (b * q) + 2 * b := by rw [Nat.mul_assoc, Nat.add_mul, Nat.one_mul, Nat.mul_comm q b, Nat.mul_add]
  have hq3 : (2 * q + 1) * b = 2 * (b * q) + b := by rw [Nat.add_mul, Nat.one_mul, hq1]
  have c1 := (lt_of (2 * q)).2
  have c2 := (lt_of (2 * (q + 1))).2
  obtain ⟨c3, c4⟩ := lt_of (2 * q + 1)
  rw [hq1] at c1; rw [hq2] at c2; rw [hq3] at c3 c4
  have hmr : ((v < pa f r * u ∧ m = q) ∨ (pa f r * u < v ∧ m = q + 1) ∨ (v = pa f r * u ∧ m = q + q % 2)) := by
    rw [e3, hm]
    generalize (2 * q + 1) * 2 ^ k * u = M at *
    split
    · by_cases hh : b < 2 * t
      · exact .inr (.inl ⟨by omega, rfl⟩)
      · exact .inr (.inr ⟨by omega, by omega⟩)
    · by_cases hh : 2 * t < b
      · exact .inl ⟨by omega, rfl⟩
      · exact .inr (.inr ⟨by omega, by omega⟩)
  have fin : ∀ m, m = q ∨ m = q + 1 → (if m < 2 ^ f then m else k * 2 ^ f + m) = r + (m - q) := by
    intro m hm
    rw [hr]
    have := pow_pos2 f
    rcases hm with rfl | rfl
    · rw [Nat.sub_self, Nat.add_zero]
    · rw [Nat.add_sub_cancel_left]
      rcases Nat.lt_trichotomy (q + 1) (2 ^ f) with h | h | h
      · rw [if_pos h, if_pos (by omega)]
      · rw [if_neg (by omega), if_pos (by omega)]
        rcases q2 with rfl | q2
        · omega
        · omega
      · rw [if_neg (by omega), if_neg (by omega)]; omega
  rw [fin m (by rcases hmr with ⟨-, h⟩ | ⟨-, h⟩ | ⟨-, h⟩ <;> omega)]
  refine rdf_near (r := r) hu ?_ ?_ ?_
  · rw [e1, ← Nat.mul_assoc]; omega
  · rw [e2, ← Nat.mul_assoc]; omega
  · rcases hmr with ⟨h, e⟩ | ⟨h, e⟩ | ⟨h, e⟩
    · exact .inl ⟨h, by omega⟩
    · exact .inr (.inl ⟨h, by omega⟩)
    · exact .inr (.inr ⟨h, by omega⟩)

/-- The place of the n-th digit, and what stands ahead of it. -/
def Qn (v n : Nat) : Nat := (oP v - n + 10000).toNat
def Bn (v n : Nat) : Nat := v / 10 ^ Qn v n * 10 ^ Qn v n
def An (v n : Nat) : Nat := Bn v n + 10 ^ Qn v n
/-- No decimal of n digits is read as it. -/
def failN (R : Nat → Prop) (v n : Nat) : Prop := ¬ R (Bn v n) ∧ ¬ R (An v n)
/-- The nearest of n digits that is read as it. -/
def pickN (R : Nat → Prop) (v n d : Nat) : Prop := (R (Bn v n) ∧ (¬ R (An v n) ∨ near v (Qn v n) = Bn v n) ∧ d = Bn v n) ∨ (¬ (R (Bn v n) ∧ (¬ R (An v n) ∨ near v (Qn v n) = Bn v n)) ∧ d = An v n)
def SH (R : Nat → Prop) (v d : Nat) : Prop :=
  (∃ n, 1 ≤ n ∧ n < (oL v).length ∧ (∀ j, 1 ≤ j → j < n → failN R v j) ∧ ¬ failN R v n ∧ pickN R v n d) ∨ ((∀ j, 1 ≤ j → j < (oL v).length → failN R v j) ∧ d = v)
theorem pick_ex (R : Nat → Prop) (v n : Nat) : ∃ d, pickN R v n d := by
  by_cases h : R (Bn v n) ∧ (¬ R (An v n) ∨ near v (Qn v n) = Bn v n)
  · exact ⟨_, .inl ⟨h.1, h.2, rfl⟩⟩
  · exact ⟨_, .inr ⟨h, rfl⟩⟩
theorem pick_uniq {R : Nat → Prop} {v n d e : Nat} (h : pickN R v n d) (k : pickN R v n e) : d = e := by
  rcases h with ⟨a, b, rfl⟩ | ⟨a, rfl⟩ <;> rcases k with ⟨a', b', rfl⟩ | ⟨a', rfl⟩
  · rfl
  · exact absurd ⟨a, b⟩ a'
  · exact absurd ⟨a', b'⟩ a
  · rfl
theorem sh_ex (R : Nat → Prop) (v : Nat) : ∃ d, SH R v d := by
  have key : ∀ N, (∀ j, 1 ≤ j → j < N → failN R v j) ∨ ∃ n, 1 ≤ n ∧ n < N ∧ (∀ j, 1 ≤ j → j < n → failN R v j) ∧ ¬ failN R v n := by
    intro N
    induction N with
    | zero => exact .inl fun j _ h => by omega
    | succ N ih =>
      rcases ih with h | ⟨n, h1, h2, h3, h4⟩
      · by_cases hN : 1 ≤ N ∧ ¬ failN R v N
        · exact .inr ⟨N, hN.1, by omega, h, hN.2⟩
        · refine .inl fun j h1 h2 => ?_
          rcases Nat.lt_or_ge j N with h3 | h3
          · exact h j h1 h3
          · obtain rfl : j = N := by omega
            exact Classical.byContradiction fun hc => hN ⟨h1, hc⟩
      · exact .inr ⟨n, h1, by omega, h3, h4⟩
  rcases key (oL v).length with h | ⟨n, h1, h2, h3, h4⟩
  · exact ⟨v, .inr ⟨h, rfl⟩⟩
  · obtain ⟨d, hd⟩ := pick_ex R v n
    exact ⟨d, .inl ⟨n, h1, h2, h3, h4, hd⟩⟩
theorem SH.at {R : Nat → Prop} {v d n : Nat} (h : SH R v d) (h1 : 1 ≤ n) (h2 : n < (oL v).length) (hf : ∀ j, 1 ≤ j → j < n → failN R v j) (hn : ¬ failN R v n) : pickN R v n d := by
  rcases h with ⟨k, k1, k2, k3, k4, k5⟩ | ⟨k1, k2⟩
  · rcases Nat.lt_trichotomy n k with h | h | h
    · exact absurd (k3 n h1 h) hn
    · subst h; exact k5
    · exact absurd (hf k k1 h) k4
  · exact absurd (k1 n h1 h2) hn
theorem SH.all {R : Nat → Prop} {v d : Nat} (h : SH R v d) (hf : ∀ j, 1 ≤ j → j < (oL v).length → failN R v j) : d = v := by
  rcases h with ⟨k, k1, k2, k3, k4, k5⟩ | ⟨k1, k2⟩
  · exact absurd (hf k k1 k2) k4
  · exact k2

/-- The bounds of a pattern round its value: below by no more than above; strictly where they are not read as it. -/
structure Bd (R : Nat → Prop) (v g1 g2 : Nat) : Prop where
  le : g1 ≤ g2
  pos : 0 < g1
  mem : ∃ ev : Bool, ∀ x, R x ↔ if ev then v ≤ x + g1 ∧ x ≤ v + g2 else v < x + g1 ∧ x < v + g2
theorem Bd.self {R : Nat → Prop} {v g1 g2 : Nat} (h : Bd R v g1 g2) : R v := by
  obtain ⟨ev, hev⟩ := h.mem
  have := h.le; have := h.pos
  rw [hev]; cases ev <;> simp <;> omega
theorem Bd.near {R : Nat → Prop} {v g1 g2 x : Nat} (h : Bd R v g1 g2) (h1 : v < x + g1) (h2 : x < v + g1) : R x := by
  obtain ⟨ev, hev⟩ := h.mem
  have := h.le
  rw [hev]; cases ev <;> simp <;> omega
theorem near_is (v n : Nat) : near v (Qn v n) = Bn v n ∨ (near v (Qn v n) = An v n ∧ near v (Qn v n) ≠ Bn v n ∧ 10 ^ Qn v n ≤ 2 * (v - Bn v n)) := by
  have h0 := Nat.div_add_mod v (10 ^ Qn v n)
  have hp := pow_pos10 (Qn v n)
  rw [Nat.mul_comm] at h0
  unfold near An Bn
  by_cases h : 2 * (v % 10 ^ Qn v n) < 10 ^ Qn v n ∨ (2 * (v % 10 ^ Qn v n) = 10 ^ Qn v n ∧ v / 10 ^ Qn v n % 2 = 0)
  · rw [if_pos h]; exact .inl rfl
  · rw [if_neg h]
    refine .inr ⟨rfl, ?_, ?_⟩
    · generalize v / 10 ^ Qn v n * 10 ^ Qn v n = b at *; omega
    · generalize v / 10 ^ Qn v n * 10 ^ Qn v n = b at *; omega
theorem Bn_le (v n : Nat) : Bn v n ≤ v ∧ v < An v n := by
  have h0 := Nat.div_add_mod v (10 ^ Qn v n)
  have h1 := Nat.mod_lt v (pow_pos10 (Qn v n))
  rw [Nat.mul_comm] at h0
  unfold An Bn
  generalize v / 10 ^ Qn v n * 10 ^ Qn v n = b at *
  omega
theorem Bd.key {R : Nat → Prop} {v g1 g2 n : Nat} (h : Bd R v g1 g2) (hn : 10 ^ Qn v n ≤ 2 * (v - Bn v n)) (hB : R (Bn v n)) : R (An v n) := by
  obtain ⟨ev, hev⟩ := h.mem
  have := h.le; have := h.pos
  have hb := Bn_le v n
  rw [hev] at hB ⊢
  unfold An at *
  cases ev
  · simp only [Bool.false_eq_true, if_false] at hB ⊢
    omega
  · simp only [if_true] at hB ⊢
    omega
/-- The program's way: the nearest one first, then the one above. -/
theorem pick_near {R : Nat → Prop} {v g1 g2 n : Nat} (h : Bd R v g1 g2) (hR : R (near v (Qn v n))) : pickN R v n (near v (Qn v n)) ∧ ¬ failN R v n := by
  rcases near_is v n with e | ⟨e, ne, -⟩
  · exact ⟨.inl ⟨e ▸ hR, .inr e, e⟩, fun f => f.1 (e ▸ hR)⟩
  · refine ⟨.inr ⟨?_, e⟩, fun f => f.2 (e ▸ hR)⟩
    rintro ⟨-, h1 | h1⟩
    · exact h1 (e ▸ hR)
    · exact ne h1
theorem pick_above {R : Nat → Prop} {v g1 g2 n : Nat} (h : Bd R v g1 g2) (hR : ¬ R (near v (Qn v n))) (hA : R (An v n)) : pickN R v n (An v n) ∧ ¬ failN R v n := by
  refine ⟨.inr ⟨?_, rfl⟩, fun f => f.2 hA⟩
  rintro ⟨h1, h2⟩
  rcases near_is v n with e | ⟨e, ne, -⟩
  · exact hR (e ▸ h1)
  · exact hR (e ▸ hA)
theorem pick_none {R : Nat → Prop} {v g1 g2 n : Nat} (h : Bd R v g1 g2) (hR : ¬ R (near v (Qn v n))) (hA : ¬ R (An v n)) : failN R v n := by
  refine ⟨fun hB => ?_, hA⟩
  rcases near_is v n with e | ⟨e, ne, hn⟩
  · exact hR (e ▸ hB)
  · exact hA (h.key hn hB)
end Go.Proofs.YthbabhbfpcfenabDoor
