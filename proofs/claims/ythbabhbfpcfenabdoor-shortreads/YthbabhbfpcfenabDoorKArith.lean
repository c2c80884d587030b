/- Plain mathematics of the document's Read: rows of digits, the quotient bit by bit, the value as a by b. -/
import Derived.Test.YthbabhbfpcfenabDoorKMath
namespace Go.Proofs.YthbabhbfpcfenabDoor
open Go.RowKit
set_option linter.unusedVariables false
set_option linter.unusedSimpArgs false

theorem le_zeros (z : Nat) : le (List.replicate z 0) = 0 := by
  induction z with
  | zero => rfl
  | succ z ih => rw [List.replicate_succ, le_cons, ih]
/-- One more digit of whole. -/
theorem whole_step {xs : List Nat} {suf : List UInt8} {x : UInt8} {z : Nat} (hl : xs.length = z + suf.length) (h : le xs = num suf * 10 ^ z) : le (xs ++ [dg x]) = num (x :: suf) * 10 ^ z := by
  rw [le_snoc, hl, h, num_cons, Nat.add_mul, Nat.pow_add, Nat.mul_comm (10 ^ z), ← Nat.mul_assoc, Nat.add_comm]
/-- One step of minus. -/
structure MinAt (xs ys ds : List Nat) (k bo : Nat) : Prop where
  len : ds.length = k
  lim : ∀ x ∈ ds, x < 10
  bo1 : bo ≤ 1
  eq : le ds + le (ys.take k) + 10 ^ k * 0 = le (xs.take k) + 10 ^ k * bo
theorem min_start (xs ys : List Nat) : MinAt xs ys [] 0 0 := ⟨rfl, (fun x h => by cases h), by omega, by simp [le_nil]⟩
theorem min_step {xs ys ds : List Nat} {k bo d bo' : Nat} (h : MinAt xs ys ds k bo) (hd : d < 10) (hb : bo' ≤ 1) (e : d + bo + ys.getD k 0 = xs.getD k 0 + 10 * bo') : MinAt xs ys (ds ++ [d]) (k + 1) bo' := by
  refine ⟨by rw [List.length_append, h.len]; rfl, ?_, hb, ?_⟩
  · intro y hy
    rcases List.mem_append.1 hy with hy | hy
    · exact h.lim y hy
    · simp at hy; omega
  · have h1 := h.eq
    rw [Nat.mul_zero, Nat.add_zero] at h1 ⊢
    rw [le_snoc, h.len, take_succ_le, take_succ_le, Nat.pow_succ]
    have e2 := congrArg (10 ^ k * ·) e
    simp only [Nat.mul_add] at e2
    rw [← Nat.mul_assoc] at e2
    rw [Nat.mul_comm d]
    omega
theorem min_end {xs ys ds : List Nat} {n bo : Nat} (h : MinAt xs ys ds n bo) (hx : xs.length = n) (hxl : ∀ x ∈ xs, x < 10) (hle : le ys ≤ le xs) : le ds = le xs - le ys := by
  have h1 := h.eq
  rw [Nat.mul_zero, Nat.add_zero, List.take_of_length_le (Nat.le_of_eq hx)] at h1
  have h2 := le_bound ds h.lim
  have h3 := le_bound xs hxl
  have h4 := le_split ys n
  rw [h.len] at h2
  rw [hx] at h3
  have h5 : le (ys.drop n) = 0 := by
    rcases Nat.eq_zero_or_pos (le (ys.drop n)) with h | h
    · exact h
    · have := Nat.mul_le_mul_left (10 ^ n) h
      omega
  rw [h5, Nat.mul_zero, Nat.add_zero] at h4
  have h6 : bo = 0 := by
    have := h.bo1
    rcases Nat.eq_zero_or_pos bo with h | h
    · exact h
    · have : bo = 1 := by omega
      rw [this] at h1; omega
  rw [h6, Nat.mul_zero] at h1
  omega
/-- The quotient, bit by bit: A is q times B 2^k and a, a below it. -/
structure DivAt (A B q a k : Nat) : Prop where
  eq : A = q * (B * 2 ^ k) + a
  lt : a < B * 2 ^ k
theorem div_yes {A B q a k : Nat} (h : DivAt A B q a (k + 1)) (hl : B * 2 ^ k ≤ a) : DivAt A B (2 * q + 1) (a - B * 2 ^ k) k := by
  have h1 := h.eq
  have h2 := h.lt
  rw [Nat.pow_succ, ← Nat.mul_assoc B] at h1 h2
  have e : ∀ T, q * (T * 2) = 2 * q * T := fun T => by rw [Nat.mul_comm T 2, ← Nat.mul_assoc, Nat.mul_comm q 2]
  rw [e] at h1
  refine ⟨?_, by omega⟩
  rw [Nat.add_mul, Nat.one_mul]
  omega
theorem div_no {A B q a k : Nat} (h : DivAt A B q a (k + 1)) (hl : a < B * 2 ^ k) : DivAt A B (2 * q) a k := by
  have h1 := h.eq
  rw [Nat.pow_succ, ← Nat.mul_assoc B] at h1
  have e : ∀ T, q * (T * 2) = 2 * q * T := fun T => by rw [Nat.mul_comm T 2, ← Nat.mul_assoc, Nat.mul_comm q 2]
  rw [e] at h1
  exact ⟨h1, hl⟩
theorem div_end {A B q a : Nat} (h : DivAt A B q a 0) : q = A / B ∧ a = A % B := by
  have h1 := h.eq
  have h2 := h.lt
  rw [Nat.pow_zero, Nat.mul_one] at h1 h2
  have hB : 0 < B := by omega
  have e : A = a + B * q := by rw [h1, Nat.mul_comm, Nat.add_comm]
  constructor
  · rw [e, Nat.add_mul_div_left _ _ hB, Nat.div_eq_of_lt h2, Nat.zero_add]
  · rw [e, Nat.add_mul_mod_self_left, Nat.mod_eq_of_lt h2]
theorem div_q {A B q a k n : Nat} (h : DivAt A B q a k) (hA : A < B * 2 ^ n) (hk : k ≤ n) : q < 2 ^ (n - k) := by
  have h1 := h.eq
  rcases Nat.lt_or_ge q (2 ^ (n - k)) with h3 | h3
  · exact h3
  · exfalso
    have h4 := Nat.mul_le_mul_right (B * 2 ^ k) h3
    have e : 2 ^ (n - k) * (B * 2 ^ k) = B * 2 ^ n := by
      rw [Nat.mul_comm, Nat.mul_assoc, ← Nat.pow_add]; congr 2; omega
    rw [e] at h4
    omega
/-- The value of a decimal as a by b. -/
theorem val_up {v N l K : Nat} {p : Int} (hK : K = 10000) (hv : v = N * 10 ^ (p - l + 10000).toNat) (hlt : (l : Int) < p) : v * 1 = N * 10 ^ (p - l).toNat * 10 ^ K := by
  rw [hv, Nat.mul_one, Nat.mul_assoc, ← Nat.pow_add]; congr 2; omega
theorem val_dn {v N l K : Nat} {p : Int} (hK : K = 10000) (hv : v = N * 10 ^ (p - l + 10000).toNat) (hge : p ≤ l) (hp : -10000 ≤ p - l) : v * 10 ^ ((l : Int) - p).toNat = N * 10 ^ K := by
  rw [hv, Nat.mul_assoc, ← Nat.pow_add]; congr 2; omega
/-- Ten thousand places are so many units. -/
theorem un_ten {K : Nat} (hK : K = 10000) (least : Int) (h : -1199 ≤ least) (h1 : least ≤ 1) : un least * 2 ^ (1 - least).toNat = 10 ^ K := by
  have h2 := exU_shift 1 (least - 1) (1 - least).toNat (by omega) (by omega)
  have e : least - 1 + ((1 - least).toNat : Nat) = 0 := by omega
  rw [e, Nat.one_mul] at h2
  have h3 : exU 1 0 = 10 ^ K := by
    rw [exU_up 1 (Int.le_refl 0)]
    have e1 : ((0 : Int) + 10000).toNat = K := by omega
    have e2 : (0 : Int).toNat = 0 := rfl
    rw [e1, e2, Nat.pow_zero, Nat.one_mul]
  unfold un
  rw [Nat.mul_comm, ← h2, h3]
end Go.Proofs.YthbabhbfpcfenabDoor
