/- Plain mathematics of the law BigdecEven. -/
import Derived.Test.YtjfoknhoehamhabDoorBNear
namespace Go.Proofs.YtjfoknhoehamhabDoor
open Go.RowKit
set_option linter.unusedVariables false

/-- What has been written of a number, and what is left of it. -/
structure EvR (X q : Nat) (ds : List UInt8) : Prop where
  val : q * 10 ^ ds.length + num ds = X
  dig : allD ds = true
  hd : q = 0 → hd ds = true
theorem EvR.step {X q : Nat} {ds : List UInt8} (h : EvR X q ds) (hq : 0 < q) : EvR X (q / 10) (db (q % 10) :: ds) where
  val := by
    have hd : q % 10 < 10 := Nat.mod_lt _ (by decide)
    rw [num_cons, dg_db hd, List.length_cons, Nat.pow_succ, ← h.val]
    have e : q / 10 * (10 ^ ds.length * 10) + q % 10 * 10 ^ ds.length = q * 10 ^ ds.length := by
      rw [Nat.mul_comm (10 ^ ds.length) 10, ← Nat.mul_assoc, ← Nat.add_mul]
      congr 1; omega
    omega
  dig := by rw [allD_cons, isD_db (Nat.mod_lt _ (by decide)), h.dig]; rfl
  hd := fun h0 => by
    have h1 : q % 10 < 10 := Nat.mod_lt _ (by decide)
    have h2 : db (q % 10) ≠ 48 := fun e => by
      have := db_nat h1
      rw [e] at this
      have h48 : (48 : UInt8).toNat = 48 := rfl
      omega
    simp [Go.Proofs.YtjfoknhoehamhabDoor.hd, h2]
theorem EvR.len {X q : Nat} {ds : List UInt8} (h : EvR X q ds) (hq : 0 < q) (hX : X < 100000000000) : ds.length ≤ 10 := by
  rcases Nat.lt_or_ge ds.length 11 with h1 | h1
  · omega
  · exfalso
    have h2 : (10 : Nat) ^ 11 ≤ 10 ^ ds.length := Nat.pow_le_pow_right (by decide) h1
    have h3 : 1 * 10 ^ ds.length ≤ q * 10 ^ ds.length := Nat.mul_le_mul_right _ hq
    have h4 : (10 : Nat) ^ 11 = 100000000000 := by decide
    have := h.val
    omega
theorem lst_of {l : List UInt8} (h : num l % 10 ≠ 0) : lst l = true := by
  by_cases hl : l = []
  · subst hl; rfl
  · obtain ⟨a, x, rfl⟩ : ∃ a x, l = a ++ [x] := ⟨l.dropLast, l.getLast hl, (List.dropLast_concat_getLast hl).symm⟩
    rw [num_snoc] at h
    have : x ≠ 48 := fun e => by subst e; have : dg 48 = 0 := rfl; omega
    simp [lst, this]
theorem even_near {v m e : Nat} (hv : v = (10 * m + 5) * 10 ^ e) : near v (e + 1) = (if m % 2 = 0 then m else m + 1) * 10 ^ (e + 1) := by
  have hp : (10 : Nat) ^ (e + 1) = 10 * 10 ^ e := by rw [Nat.pow_succ, Nat.mul_comm]
  have hA := pow_pos10 e
  have hv2 : v = 10 ^ (e + 1) * m + 5 * 10 ^ e := by rw [hv, Nat.add_mul, hp, Nat.mul_assoc, Nat.mul_assoc, Nat.mul_comm m]
  have hlt : 5 * 10 ^ e < 10 ^ (e + 1) := by rw [hp]; omega
  have hd : v / 10 ^ (e + 1) = m := by rw [hv2, Nat.mul_add_div (pow_pos10 _), Nat.div_eq_of_lt hlt, Nat.add_zero]
  have hm : v % 10 ^ (e + 1) = 5 * 10 ^ e := by rw [hv2, Nat.mul_add_mod, Nat.mod_eq_of_lt hlt]
  unfold near
  rw [hd, hm]
  by_cases h : m % 2 = 0
  · rw [if_pos h, if_pos (.inr ⟨by rw [hp]; omega, h⟩)]
  · rw [if_neg h, if_neg (by rw [hp]; intro k; rcases k with k | k; omega; exact h k.2), Nat.succ_mul]
/-- All that the law wants, of the digits that were written. -/
theorem even_all {m : Nat} {ds : List UInt8} {p : Int} (h : EvR (10 * m + 5) 0 ds) (hm : m < 4294967296) (hl : ds.length ≤ 11) (hp0 : -1000 ≤ p) (hp1 : p ≤ 1000) :
    0 < ds.length ∧ ∃ (A : ByteArray) (PA : Int), RoundC ⟨ds.toArray⟩ p ((ds.length : Int) - 1) A PA 0 ∧ (m = 0 → A = ⟨#[]⟩ ∧ PA = 0) ∧ (0 < m → HalfC A PA ⟨ds.toArray⟩ p (p - ds.length + 1)) ∧
      (∀ (i : Nat) (hi : i < A.size), (ds.length : Int) - 2 + PA - p = (i : Int) → 48 ≤ (A[i]'hi).toNat ∧ (A[i]'hi).toNat ≤ 57 ∧ ((A[i]'hi).toNat - 48) % 2 = 0) ∧ -5000 ≤ PA ∧ PA ≤ 5000 ∧ A.size ≤ 2000 := by
  have hX : num ds = 10 * m + 5 := by have := h.val; simpa using this
  have hpos : 0 < ds.length := by
    rcases Nat.eq_zero_or_pos ds.length with h0 | h0
    · rw [List.eq_nil_of_length_eq_zero h0, num_nil] at hX; omega
    · exact h0
  refine ⟨hpos, ?_⟩
  obtain ⟨e, he⟩ : ∃ e : Nat, p - ds.length + 10000 = (e : Int) := ⟨(p - ds.length + 10000).toNat, by omega⟩
  obtain ⟨v, hv⟩ : ∃ v, v = (10 * m + 5) * 10 ^ e := ⟨_, rfl⟩
  have hd : IsDec ds p v := ⟨h.dig, h.hd rfl, lst_of (by rw [hX]; omega), fun e0 => by rw [e0] at hpos; simp at hpos, by omega, by rw [he, hX, hv]; rfl⟩
  obtain ⟨o1, o2⟩ := dec_is hd
  obtain ⟨k, hk⟩ : ∃ k, ds.length = k + 1 := ⟨ds.length - 1, by omega⟩
  have hQ : oP v - (k : Int) + 10000 = ((e + 1 : Nat) : Int) := by rw [o2]; omega
  have hvK : v < 10 ^ (e + 1 + k) := hd.lt (by push_cast; omega)
  have hm2 := hd.mod (E := e) (by omega)
  obtain ⟨g1, g2, g3, g4, g5, g6, g7, d1, d2⟩ := near_good hvK (J := e) (by omega) hm2 (by omega) (by omega) (by omega)
  have hr := rnd_near (v := v) (n := k) hQ
  have hR := roundC (v := v) (k : Int) g1
  rw [hr, o1, o2] at hR
  have hn := even_near hv
  refine ⟨oS (near v (e + 1)), oP (near v (e + 1)), ?_, ?_, ?_, ?_, g2.p0, g2.p1, by rw [oS_size]; exact g2.len⟩
  · rw [show (ds.length : Int) - 1 = (k : Int) by omega]; exact hR
  · intro h0
    subst h0
    rw [hn]
    have e0 : (if 0 % 2 = 0 then 0 else 0 + 1) * 10 ^ (e + 1) = 0 := by rw [if_pos rfl, Nat.zero_mul]
    rw [e0]
    exact ⟨zero_S, o_zero.2⟩
  · intro h0 w
    have := half_any (Q := e + 1) (p := p - ds.length + 1) (by push_cast; omega) g2 g1 g3 g4 g5 g6 g7 d1 d2 w
    rw [o1, o2] at this
    exact this
  · intro i hi hii
    have hz := oS_size (near v (e + 1))
    have hd2 := allD_at (oS (near v (e + 1))) (o_dig _) i hi
    refine ⟨hd2.1, hd2.2, ?_⟩
    have hdg := dgi_eq (o_dec (near v (e + 1))) (p - ds.length + 1) (e + 1) (by push_cast; omega)
    have hq : near v (e + 1) / 10 ^ (e + 1) % 10 = (if m % 2 = 0 then m else m + 1) % 10 := by
      rw [hn, Nat.mul_div_cancel _ (pow_pos10 _)]
    unfold dgi at hdg
    have hidx : oP (near v (e + 1)) - 1 - (p - ds.length + 1) = (i : Int) := by omega
    rw [hidx, if_neg (by omega), Int.toNat_natCast, if_pos (by omega), hq] at hdg
    have hg : (oL (near v (e + 1))).getD i 0 = (oS (near v (e + 1)))[i]'hi := getL (oS (near v (e + 1))) i hi
    rw [hg] at hdg
    unfold dg at hdg
    rw [hdg]
    split <;> omega
end Go.Proofs.YtjfoknhoehamhabDoor
