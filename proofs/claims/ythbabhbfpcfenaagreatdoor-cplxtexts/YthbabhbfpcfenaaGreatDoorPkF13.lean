/- FHex: these texts in one. -/
import Derived.Test.YthbabhbfpcfenaaGreatDoorPkF10
/- Plain mathematics of layer 6: digits to the base 16, and what a rounding to so many of them leaves. -/
namespace Go.Proofs.YthbabhbfpcfenaaGreatDoor
open Go.RowKit
set_option linter.unusedVariables false
set_option linter.unusedSimpArgs false

/-- So many digits to the base 16. -/
def hx : Nat → Nat → List UInt8
  | 0, _ => []
  | k + 1, n => hx k (n / 16) ++ [hexB false (n % 16)]
theorem hx_len (k n : Nat) : (hx k n).length = k := by
  induction k generalizing n with
  | zero => rfl
  | succ k ih => rw [hx, List.length_append, ih]; rfl
theorem hex_zero : hexB false 0 = 48 := by decide
theorem hex_one : hexB false 1 = 49 := by decide
theorem hx_zero (k : Nat) : hx k 0 = List.replicate k 48 := by
  induction k with
  | zero => rfl
  | succ k ih => rw [hx, Nat.zero_div, ih, Nat.zero_mod, hex_zero, List.replicate_succ']
theorem digP_hx : ∀ (k n : Nat), n < 16 ^ k → n < 2 ^ 64 → (digP false 16 n).length ≤ k ∧ List.replicate (k - (digP false 16 n).length) 48 ++ digP false 16 n = hx k n
  | 0, n, h, _ => by
    have : n = 0 := by simp at h; omega
    subst this
    rw [digP_zero]; exact ⟨Nat.le_refl _, rfl⟩
  | k + 1, n, h, h64 => by
    by_cases h0 : n = 0
    · subst h0
      rw [digP_zero, hx_zero]
      exact ⟨Nat.zero_le _, by simp⟩
    · obtain ⟨h1, h2⟩ := digP_hx k (n / 16) (by rw [Nat.pow_succ] at h; omega) (by omega)
      rw [digP_step false 16 n (by decide) h0 h64, hx, ← h2, List.length_append, List.length_singleton, ← List.append_assoc]
      refine ⟨by omega, ?_⟩
      congr 3; omega
theorem dig_hx {k n : Nat} (hk : 1 ≤ k) (h : n < 16 ^ k) (h64 : n < 2 ^ 64) : (lnA (digT false 16 n) k).data.toList = hx k n := by
  have hl : (digT false 16 n).data.toList = digS false 16 n := rfl
  have hz : (digT false 16 n).size = (digS false 16 n).length := by simp [digT, ByteArray.size]
  rw [lnA_list, hl, hz]
  by_cases h0 : n = 0
  · subst h0
    have e : digS false 16 0 = [48] := by unfold digS; rw [Nat.zero_div, digP_zero, Nat.zero_mod, hex_zero]; rfl
    rw [e, hx_zero, ← List.replicate_succ' (n := _) (a := (48 : UInt8))]
    congr 1
    simp; omega
  · rw [digS_pos false 16 n (by decide) h0 h64]
    obtain ⟨h1, h2⟩ := digP_hx k n h h64
    rw [← h2]
    congr 2; omega
theorem hx_split (a b n : Nat) : hx (a + b) n = hx a (n / 16 ^ b) ++ hx b n := by
  induction b generalizing n with
  | zero => simp [hx]
  | succ b ih =>
    rw [← Nat.add_assoc, hx, ih, hx, Nat.pow_succ, Nat.div_div_eq_div_mul, Nat.mul_comm 16, List.append_assoc]
theorem hx_mod (b n c : Nat) : hx b (c * 16 ^ b + n) = hx b n := by
  induction b generalizing n c with
  | zero => rfl
  | succ b ih =>
    rw [hx, hx]
    have e1 : (c * 16 ^ (b + 1) + n) / 16 = c * 16 ^ b + n / 16 := by rw [Nat.pow_succ, ← Nat.mul_assoc]; omega
    have e2 : (c * 16 ^ (b + 1) + n) % 16 = n % 16 := by rw [Nat.pow_succ, ← Nat.mul_assoc]; omega
    rw [e1, e2, ih]
theorem hx_lead (b n : Nat) (h : n < 16 ^ b) : hx (1 + b) (16 ^ b + n) = 49 :: hx b n := by
  have hp : 0 < 16 ^ b := Nat.pow_pos (by decide)
  have e : (16 ^ b + n) / 16 ^ b = 1 := by rw [Nat.add_div_left _ hp, Nat.div_eq_of_lt h]
  have e2 := hx_mod b n 1
  rw [Nat.one_mul] at e2
  rw [hx_split, e, e2]
  show ([] ++ [hexB false (1 % 16)]) ++ hx b n = _
  rw [show (1 : Nat) % 16 = 1 from rfl, hex_one]; rfl
theorem hx_take (a b n : Nat) : (hx (a + b) n).take a = hx a (n / 16 ^ b) := by
  rw [hx_split, List.take_append_of_le_length (by rw [hx_len]; exact Nat.le_refl _), List.take_of_length_le (by rw [hx_len]; exact Nat.le_refl _)]
theorem hx_shift (a b n : Nat) : hx (a + b) (n * 16 ^ b) = hx a n ++ List.replicate b 48 := by
  have hp : 0 < 16 ^ b := Nat.pow_pos (by decide)
  have e := hx_mod b 0 n
  rw [Nat.add_zero] at e
  rw [hx_split, Nat.mul_div_cancel _ hp, e, hx_zero]
/-- A number brought to its leading one at the bit 52. -/
theorem bit_in (m : Nat) (h0 : m ≠ 0) (h : m < 2 ^ 64) : ∃ L, Lib.bitLen m = L + 1 ∧ 2 ^ L ≤ m ∧ m < 2 ^ (L + 1) := by
  have key : ∀ (k m : Nat), m ≠ 0 → m < 2 ^ k → k ≤ 64 → ∃ L, Lib.bitLen m = L + 1 ∧ 2 ^ L ≤ m ∧ m < 2 ^ (L + 1) := by
    intro k
    induction k with
    | zero => intro m h0 h _; simp at h; omega
    | succ k ih =>
      intro m h0 h hk
      have h64 : m < 2 ^ 64 := Nat.lt_of_lt_of_le h (Nat.pow_le_pow_right (by decide) hk)
      by_cases h1 : m / 2 = 0
      · refine ⟨0, ?_, ?_, ?_⟩
        · rw [Lib.bitLen_half m h0 h64, h1]; rfl
        · simp; omega
        · simp; omega
      · obtain ⟨L, e, a, b⟩ := ih (m / 2) h1 (by rw [Nat.pow_succ] at h; omega) (by omega)
        refine ⟨L + 1, by rw [Lib.bitLen_half m h0 h64, e]; omega, ?_, ?_⟩
        · rw [Nat.pow_succ]; omega
        · rw [Nat.pow_succ]; omega
  exact key 64 m h0 h (Nat.le_refl _)
theorem p13 : (16 : Nat) ^ 13 = 2 ^ 52 := by decide
theorem nm_in {m : Nat} (h0 : m ≠ 0) (h : m < 2 ^ 53) : nmS m ≤ 52 ∧ ∃ p, m * 2 ^ nmS m = 16 ^ 13 + p ∧ p < 16 ^ 13 := by
  obtain ⟨L, e, a, b⟩ := bit_in m h0 (Nat.lt_of_lt_of_le h (Nat.pow_le_pow_right (by decide) (by decide)))
  have hL : L ≤ 52 := by
    rcases Nat.lt_or_ge L 53 with h1 | h1
    · omega
    · have := Nat.pow_le_pow_right (show 0 < 2 by decide) h1; omega
  have es : nmS m = 52 - L := by unfold nmS; omega
  rw [es]
  refine ⟨by omega, m * 2 ^ (52 - L) - 16 ^ 13, ?_, ?_⟩
  · have h1 := Nat.mul_le_mul_right (2 ^ (52 - L)) a
    rw [← Nat.pow_add, show L + (52 - L) = 52 by omega, ← p13] at h1
    omega
  · have h1 := Nat.mul_lt_mul_of_pos_right b (Nat.pow_pos (n := 52 - L) (show 0 < 2 by decide))
    rw [← Nat.pow_add, show L + 1 + (52 - L) = 52 + 1 by omega, Nat.pow_succ, ← p13] at h1
    omega
/-- What is kept of a part below 1 with so many digits. -/
def kpt (p P : Nat) : Nat := if p % 16 ^ (13 - P) > 16 ^ (13 - P) / 2 ∨ (p % 16 ^ (13 - P) = 16 ^ (13 - P) / 2 ∧ (p / 16 ^ (13 - P) + 16 ^ P) % 2 = 1) then p / 16 ^ (13 - P) + 1 else p / 16 ^ (13 - P)
theorem rbU_is (c : Nat) : rbU c = 16 ^ (13 - c) := by
  unfold rbU
  rw [Nat.pow_mul]
theorem u13 {P : Nat} (h : P < 13) : (16 : Nat) ^ 13 = 16 ^ P * 16 ^ (13 - P) := by rw [← Nat.pow_add]; congr 1; omega
theorem kpt_le {p P : Nat} (hP : P < 13) (h : p < 16 ^ 13) : kpt p P ≤ 16 ^ P := by
  have hu : 0 < 16 ^ (13 - P) := Nat.pow_pos (by decide)
  have : p / 16 ^ (13 - P) < 16 ^ P := Nat.div_lt_of_lt_mul (by rw [Nat.mul_comm, ← u13 hP]; exact h)
  unfold kpt
  split <;> omega
theorem rbW_is {p P : Nat} (hP : P < 13) : rbW (16 ^ 13 + p) P = 16 ^ P + kpt p P := by
  have hu : 0 < 16 ^ (13 - P) := Nat.pow_pos (by decide)
  have e1 : (16 ^ 13 + p) / 16 ^ (13 - P) = 16 ^ P + p / 16 ^ (13 - P) := by rw [u13 hP, Nat.mul_comm, Nat.mul_add_div hu]
  have e2 : (16 ^ 13 + p) % 16 ^ (13 - P) = p % 16 ^ (13 - P) := by rw [u13 hP, Nat.mul_comm, Nat.mul_add_mod]
  unfold rbW kpt
  rw [rbU_is, e1, e2, Nat.add_comm (16 ^ P)]
  split <;> omega
theorem rb_all {p : Nat} {P : Int} (h : P < 0 ∨ 13 ≤ P) : rb (16 ^ 13 + p) P = 16 ^ 13 + p := by unfold rb; rw [if_pos h]
theorem rb_some {p P : Nat} (h : P < 13) : rb (16 ^ 13 + p) P = 16 ^ 13 + kpt p P * 16 ^ (13 - P) := by
  unfold rb
  rw [if_neg (by omega), Int.toNat_natCast, rbW_is h, rbU_is, Nat.add_mul, ← u13 h]
/-- The digits of x, and its power. -/
theorem hex_0 (P e : Int) : (hxD 0 P).data.toList = List.replicate 14 48 ∧ nmE 0 e P = 0 := by
  refine ⟨?_, by simp [nmE]⟩
  have : nmM 0 P = 0 := by simp [nmM]
  unfold hxD
  rw [this, show (14 : Int) = ((14 : Nat) : Int) from rfl, dig_hx (by decide) (by decide) (by decide), hx_zero]
theorem hex_keep {m p : Nat} {P e : Int} (h0 : m ≠ 0) (hm : m * 2 ^ nmS m = 16 ^ 13 + p) {q : Nat} (hr : rb (16 ^ 13 + p) P = 16 ^ 13 + q) (hq : q < 16 ^ 13) :
    (hxD m P).data.toList = 49 :: hx 13 q ∧ nmE m e P = e + 52 - nmS m := by
  have hd : rb (m * 2 ^ nmS m) P / 2 ^ 52 = 1 := by
    rw [hm, hr, ← p13, Nat.add_div_left _ (Nat.pow_pos (by decide)), Nat.div_eq_of_lt hq]
  refine ⟨?_, by unfold nmE; rw [if_neg h0, hd, if_neg (by decide)]⟩
  have : nmM m P = 16 ^ 13 + q := by unfold nmM; rw [if_neg h0, hd, if_neg (by decide), hm, hr]
  unfold hxD
  rw [this, show (14 : Int) = ((14 : Nat) : Int) from rfl, dig_hx (by decide) ?_ ?_]
  · exact hx_lead 13 q hq
  · have : (16 : Nat) ^ 14 = 16 ^ 13 * 16 := by decide
    omega
  · have : (2 : Nat) ^ 64 = 16 ^ 13 * 4096 := by decide
    omega
theorem hex_carry {m p : Nat} {P e : Int} (h0 : m ≠ 0) (hm : m * 2 ^ nmS m = 16 ^ 13 + p) (hr : rb (16 ^ 13 + p) P = 16 ^ 13 + 16 ^ 13) :
    (hxD m P).data.toList = 49 :: List.replicate 13 48 ∧ nmE m e P = e + 52 - nmS m + 1 := by
  have hd : rb (m * 2 ^ nmS m) P / 2 ^ 52 = 2 := by rw [hm, hr, ← p13]
  refine ⟨?_, by unfold nmE; rw [if_neg h0, hd, if_pos rfl]⟩
  have : nmM m P = 16 ^ 13 + 0 := by unfold nmM; rw [if_neg h0, hd, if_pos rfl, hm, hr]
  unfold hxD
  rw [this, show (14 : Int) = ((14 : Nat) : Int) from rfl, dig_hx (by decide) (by decide) (by decide), ← hx_zero]
  exact hx_lead 13 0 (by decide)
theorem hxD_size (m : Nat) (P : Int) (hm : m < 2 ^ 53) : (hxD m P).size = 14 := by
  have key : ∀ l, (hxD m P).data.toList = l → l.length = 14 → (hxD m P).size = 14 := fun l h1 h2 => by rw [← list_len, h1]; exact h2
  by_cases h0 : m = 0
  · subst h0
    exact key _ (hex_0 P 0).1 (by simp)
  · obtain ⟨-, p, h1, h2⟩ := nm_in h0 hm
    by_cases hP : P < 0 ∨ 13 ≤ P
    · exact key _ (hex_keep (e := 0) h0 h1 (rb_all hP) h2).1 (by simp [hx_len])
    · obtain ⟨n, rfl⟩ := Int.eq_ofNat_of_zero_le (show 0 ≤ P by omega)
      have hn : n < 13 := by omega
      have hk := kpt_le hn h2
      have hs := rb_some (p := p) hn
      rcases Nat.lt_or_ge (kpt p n) (16 ^ n) with h3 | h3
      · refine key _ (hex_keep (e := 0) h0 h1 hs ?_).1 (by simp [hx_len])
        rw [u13 hn]
        exact Nat.mul_lt_mul_of_pos_right h3 (Nat.pow_pos (by decide))
      · have : kpt p n = 16 ^ n := by omega
        rw [this, ← u13 hn] at hs
        exact key _ (hex_carry (e := 0) h0 h1 hs).1 (by simp)
end Go.Proofs.YthbabhbfpcfenaaGreatDoor
