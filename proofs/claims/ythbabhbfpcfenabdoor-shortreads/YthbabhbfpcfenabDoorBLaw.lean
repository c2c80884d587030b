/- Plain mathematics under the laws of layer 4 that stand without the document's answer. -/
import Derived.Test.YthbabhbfpcfenabDoorLives4
namespace Go.Proofs.YthbabhbfpcfenabDoor
open Go.RowKit
set_option linter.unusedVariables false

/-- Few digits, a point that Norm takes. -/
structure Good (v : Nat) : Prop where
  len : (oL v).length ≤ 2000
  p0 : -5000 ≤ oP v
  p1 : oP v ≤ 5000
theorem oS_list (v : Nat) : (oS v).data.toList = oL v := rfl
theorem Good.normE {v : Nat} (h : Good v) : normE (oS v) (oP v) = 0 := by
  have hl := h.len
  have h0 := h.p0
  have h1 := h.p1
  exact normE_ok (by rw [oS_size]; omega) (o_dig v) (by omega) (by omega)
theorem norm_o {v : Nat} (h : Go.Proofs.YthbabhbfpcfenabDoor.normE (oS v) (oP v) = 0) : normV (oS v) (oP v) = v := by rw [normV_ok h]; exact o_val v
theorem Good.normV {v : Nat} (h : Good v) : normV (oS v) (oP v) = v := norm_o h.normE
/-- How many digits a number of units of a place has. -/
theorem cnt_le {v u j q : Nat} (h : v = u * 10 ^ j) (hu : u < 10 ^ q) : (oL v).length ≤ q := by
  by_cases hv : v = 0
  · rw [hv, o_zero.1]; exact Nat.zero_le _
  · have hd := o_dec v
    have hl := hd.ne hv
    have hx := num_last hd.dig hd.lst hl
    have e := hd.val.trans h
    have haj : j ≤ (oP v - (oL v).length + 10000).toNat := by
      rcases Nat.lt_or_ge (oP v - (oL v).length + 10000).toNat j with h1 | h1
      · exact (pow_split hx h1 e).elim
      · exact h1
    obtain ⟨c, hc⟩ : ∃ c, (oP v - (oL v).length + 10000).toNat = c + j := ⟨_, (Nat.sub_add_cancel haj).symm⟩
    rw [hc, Nat.pow_add, ← Nat.mul_assoc] at e
    have e2 := Nat.eq_of_mul_eq_mul_right (pow_pos10 j) e
    have hc1 : 1 ≤ 10 ^ c := pow_pos10 c
    have h2 : num (oL v) * 1 ≤ num (oL v) * 10 ^ c := Nat.mul_le_mul_left _ hc1
    obtain ⟨x, t, ht⟩ := List.exists_cons_of_ne_nil hl
    have h3 := num_head (ht ▸ hd.dig) (ht ▸ hd.hd)
    rw [← ht] at h3
    have h4 : 10 ^ t.length < 10 ^ q := by omega
    have := (Nat.pow_lt_pow_iff_right (by decide)).1 h4
    rw [ht, List.length_cons]; omega
theorem mod_quot {v J K : Nat} (hm : v % 10 ^ J = 0) (hv : v < 10 ^ (J + K)) : ∃ u, v = u * 10 ^ J ∧ u < 10 ^ K := by
  refine ⟨v / 10 ^ J, ?_, ?_⟩
  · have := Nat.div_add_mod v (10 ^ J)
    rw [hm, Nat.add_zero, Nat.mul_comm] at this; exact this.symm
  · rw [Nat.pow_add, Nat.mul_comm] at hv
    exact Nat.div_lt_of_lt_mul (by rw [Nat.mul_comm]; exact hv)
theorem good_of {v J K : Nat} (hm : v % 10 ^ J = 0) (hv : v < 10 ^ (J + K)) (hJ : 5000 ≤ J) (hK : J + K ≤ 15000) (hK2 : K ≤ 2000) : Good v := by
  obtain ⟨u, h1, h2⟩ := mod_quot hm hv
  have hl := cnt_le h1 h2
  by_cases h0 : v = 0
  · subst h0
    exact ⟨by rw [o_zero.1]; simp, by rw [o_zero.2]; decide, by rw [o_zero.2]; decide⟩
  · have hu : 1 ≤ u := by
      rcases Nat.eq_zero_or_pos u with h | h
      · subst h; rw [Nat.zero_mul] at h1; exact absurd h1 h0
      · exact h
    have hg := oP_gt (v := v) (q := J) (by rw [h1]; have := Nat.mul_le_mul_right (10 ^ J) hu; omega)
    rcases oP_le hv with h3 | h3
    · exact ⟨by omega, by omega, by omega⟩
    · exact absurd h3 h0
theorem big_const : ∃ N M : Nat, N = 1200 ∧ M = 839 ∧ (5 : Nat) ^ N < 10 ^ M ∧ (2 : Nat) ^ N < 10 ^ M := ⟨1200, 839, rfl, rfl, by decide +kernel, by decide +kernel⟩
theorem m_big {m k b N M : Nat} (hm : m < 18446744073709551616) (hb0 : 0 < b) (hk : k ≤ N) (h2 : b ^ N < 10 ^ M) : m * b ^ k < 10 ^ (20 + M) := by
  have h1 : b ^ k ≤ b ^ N := Nat.pow_le_pow_right hb0 hk
  have h4 : (10 : Nat) ^ 20 = 100000000000000000000 := by decide
  rw [Nat.pow_add]
  exact Nat.mul_lt_mul'' (by omega) (by omega)
theorem pow_mod (u j : Nat) : u * 10 ^ j % 10 ^ j = 0 := Nat.mul_mod_left _ _
theorem exU_up (m : Nat) {e : Int} (h : 0 ≤ e) : exU m e = m * 2 ^ e.toNat * 10 ^ ((0 : Int) + 10000).toNat := if_pos h
theorem exU_dn (m : Nat) {e : Int} (h : ¬ 0 ≤ e) : exU m e = m * 5 ^ (-e).toNat * 10 ^ (e + 10000).toNat := if_neg h
/-- What Exact answers can be taken again, and twice it too. -/
theorem exU_split {m : Nat} {e : Int} (hm : m < 18446744073709551616) (h0 : -1200 ≤ e) (h1 : e ≤ 1200) : ∃ J u q, exU m e = u * 10 ^ J ∧ u < 10 ^ q ∧ q ≤ 859 ∧ 8800 ≤ J ∧ J ≤ 10000 := by
  obtain ⟨N, M, hN, hM, h5, h2⟩ := big_const
  by_cases he : 0 ≤ e
  · rw [exU_up m he]
    exact ⟨((0 : Int) + 10000).toNat, _, 20 + M, rfl, m_big hm (by decide) (by omega) h2, by omega, by omega, by omega⟩
  · rw [exU_dn m he]
    exact ⟨(e + 10000).toNat, _, 20 + M, rfl, m_big hm (by decide) (by omega) h5, by omega, by omega, by omega⟩
theorem good_small {v J u q : Nat} (h : v = u * 10 ^ J) (hu : u < 10 ^ q) (hq : q ≤ 1000) (h0 : 8800 ≤ J) (h1 : J ≤ 10000) : Good v := by
  refine good_of (J := J) (K := q) (by rw [h]; exact pow_mod u J) ?_ (by omega) (by omega) (by omega)
  rw [h, Nat.pow_add, Nat.mul_comm (10 ^ J)]
  exact Nat.mul_lt_mul_of_pos_right hu (pow_pos10 J)
theorem exU_good {m : Nat} {e : Int} (hm : m < 18446744073709551616) (h0 : -1200 ≤ e) (h1 : e ≤ 1200) : Good (exU m e) ∧ Good (exU m e + exU m e) := by
  obtain ⟨J, u, q, h2, h3, h6, h4, h5⟩ := exU_split hm h0 h1
  have hp : (10 : Nat) ^ (q + 1) = 10 ^ q * 10 := Nat.pow_succ ..
  exact ⟨good_small h2 h3 (by omega) h4 h5, good_small (u := u + u) (q := q + 1) (by rw [h2, Nat.add_mul]) (by omega) (by omega) h4 h5⟩
theorem exU_double (m : Nat) (e : Int) (h0 : -1200 ≤ e) (h1 : e ≤ 1199) : exU m (e + 1) = exU m e + exU m e := by
  by_cases he : 0 ≤ e
  · rw [exU_up m he, exU_up m (show 0 ≤ e + 1 by omega), show (e + 1).toNat = e.toNat + 1 by omega, Nat.pow_succ, ← Nat.mul_assoc]
    generalize (10 : Nat) ^ ((0 : Int) + 10000).toNat = A
    generalize m * 2 ^ e.toNat = B
    rw [Nat.mul_comm B 2, Nat.mul_assoc, Nat.two_mul]
  · by_cases he1 : e = -1
    · subst he1
      have e1 : ((-1 : Int) + 1).toNat = 0 := by decide
      have e2 : (-(-1 : Int)).toNat = 1 := by decide
      have e3 : ((0 : Int) + 10000).toNat = ((-1 : Int) + 10000).toNat + 1 := by decide
      rw [exU_up m (show (0 : Int) ≤ -1 + 1 by decide), exU_dn m he, e1, e2, e3, Nat.pow_succ]
      generalize (10 : Nat) ^ ((-1 : Int) + 10000).toNat = A
      rw [Nat.pow_zero, Nat.pow_one, Nat.mul_one, ← Nat.mul_assoc, Nat.mul_assoc m 5 A, Nat.mul_left_comm m 5 A]
      generalize m * A = B
      omega
    · rw [exU_dn m he, exU_dn m (show ¬ 0 ≤ e + 1 by omega), show (-e).toNat = (-(e + 1)).toNat + 1 by omega, show (e + 1 + 10000).toNat = (e + 10000).toNat + 1 by omega, Nat.pow_succ, Nat.pow_succ]
      generalize (5 : Nat) ^ (-(e + 1)).toNat = C
      generalize (10 : Nat) ^ (e + 10000).toNat = A
      have h3 : m * C * (A * 10) = m * C * A * 10 := by rw [Nat.mul_assoc (m * C) A 10]
      have h4 : m * (C * 5) * A = m * C * A * 5 := by rw [← Nat.mul_assoc m C 5, Nat.mul_assoc (m * C) 5 A, Nat.mul_comm 5 A, ← Nat.mul_assoc]
      rw [h3, h4]
      generalize m * C * A = B
      omega
/-- Behind a call that was made in a world with one block more. -/
theorem Cl.after {W : World} {x : Cl W} {o : Obj} {w6 : World} (hb : Below (x.w.alloc o).heap.size (x.w.alloc o) w6) : ∃ y : Cl W, w6 = y.w :=
  ⟨⟨w6, bel_call (x.below.alloc x.below.size _) hb (Nat.le_refl _)⟩, rfl⟩
theorem Cl.next {W : World} {x : Cl W} {w6 : World} (hb : Below x.w.heap.size x.w w6) : ∃ y : Cl W, w6 = y.w :=
  ⟨⟨w6, bel_call x.below hb (Nat.le_refl _)⟩, rfl⟩
/-- Add of two decimals in form. -/
abbrev AddC (s1 : ByteArray) (p1 : Int) (s2 : ByteArray) (p2 : Int) (S : ByteArray) (P E : Int) : Prop := ∀ w, Calls Tryd.prog 55 #[.agg #[.string s1, .int .i64 p1], .agg #[.string s2, .int .i64 p2]] w fun e w' => e = .returned (.tuple #[.agg #[.string S, .int .i64 P], .int .i64 E]) ∧ Below w.heap.size w w'
abbrev CmpC (s1 : ByteArray) (p1 : Int) (s2 : ByteArray) (p2 : Int) (r E : Int) : Prop := ∀ w, Calls Tryd.prog 27 #[.agg #[.string s1, .int .i64 p1], .agg #[.string s2, .int .i64 p2]] w fun e w' => e = .returned (.tuple #[.int .i64 r, .int .i64 E]) ∧ Below w.heap.size w w'
theorem oS_fit (v : Nat) (h : Good v) : (oS v).size ≤ 9223372036854775807 := by rw [oS_size]; have := h.len; omega
theorem addC {v u : Nat} (hv : Good v) (hu : Good u) (hs : Good (v + u)) : AddC (oS v) (oP v) (oS u) (oP u) (oS (v + u)) (oP (v + u)) 0 := fun w => by
  have := add_any (oS v) (oS u) (oP v) (oP u) w (oS_fit v hv) (oS_fit u hu)
  rw [hv.normE, hu.normE, hv.normV, hu.normV] at this
  have e0 : bE 0 0 = 0 := rfl
  have e1 : aE 0 (v + u) = 0 := by unfold aE; rw [if_pos rfl, if_neg (by have := hs.len; omega)]
  have e2 : aV 0 (v + u) = v + u := by unfold aV; rw [if_pos e1]
  rw [e0, e1, e2] at this
  exact this
theorem cmpC {v u : Nat} (hv : Good v) (hu : Good u) : CmpC (oS v) (oP v) (oS u) (oP u) (ordN v u) 0 := fun w => by
  have := cmp_any (oS v) (oS u) (oP v) (oP u) w (oS_fit v hv) (oS_fit u hu)
  rw [hv.normE, hu.normE, hv.normV, hu.normV] at this
  have e0 : bE 0 0 = 0 := rfl
  rw [e0, if_pos rfl] at this
  exact this
end Go.Proofs.YthbabhbfpcfenabDoor
