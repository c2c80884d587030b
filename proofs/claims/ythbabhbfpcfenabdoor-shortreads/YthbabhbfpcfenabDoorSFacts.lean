/- Plain mathematics: what follows of the shortest decimal; the units. -/
import Derived.Test.YthbabhbfpcfenabDoorSMath
namespace Go.Proofs.YthbabhbfpcfenabDoor
open Go.RowKit
set_option linter.unusedVariables false

theorem bd_of {f I u p : Nat} (hu : 0 < u) (h0 : p ≠ 0) (hp : p < I) : Bd (fun x => RD f I u x p) (2 * pq f p * u) (2 ^ pk f (p - 1) * u) (2 ^ pk f p * u) := by
  have e1 : pa f (p - 1) * u + 2 ^ pk f (p - 1) * u = 2 * pq f p * u := by
    rw [← Nat.add_mul, pa_up, show p - 1 + 1 = p by omega]
  have e2 : pa f p * u = 2 * pq f p * u + 2 ^ pk f p * u := by rw [← Nat.add_mul, ← pa_eq]
  refine ⟨Nat.mul_le_mul_right _ (pk_mono f (by omega)), Nat.mul_pos (pow_pos2 _) hu, decide (p % 2 = 0), fun x => ?_⟩
  rw [RD_bounds h0 hp]
  by_cases he : p % 2 = 0
  · rw [if_pos he, if_pos (decide_eq_true he)]; omega
  · rw [if_neg he, if_neg (by simp [he])]; omega
theorem gap_of {f u p : Nat} (h0 : p ≠ 0) : 2 * pq f p * u ≤ 2 ^ (f + 2) * (2 ^ pk f (p - 1) * u) := by
  have h := pq_gap f (p - 1)
  rw [show p - 1 + 1 = p by omega] at h
  rw [← Nat.mul_assoc]
  refine Nat.mul_le_mul_right _ ?_
  rw [Nat.pow_succ 2 (f + 1), Nat.mul_comm (2 ^ (f + 1)) 2, Nat.mul_assoc]
  exact Nat.mul_le_mul_left _ h

/-- Where the n-th digit stands. -/
theorem Qn_eq {v n : Nat} (h2 : n ≤ (oL v).length) : (Qn v n : Int) = oP v - n + 10000 := by
  have := o_low v
  unfold Qn; omega
theorem Qn_lt {v n : Nat} (h2 : n ≤ (oL v).length) : v < 10 ^ (Qn v n + n) := by
  have := Qn_eq h2
  exact (o_dec v).lt (by omega)
theorem Qn_ge {v n : Nat} (h1 : 1 ≤ n) (h2 : n ≤ (oL v).length) : 10 ^ (Qn v n + (n - 1)) ≤ v := by
  have := Qn_eq h2
  have hv : v ≠ 0 := fun e => by rw [oL_nil.2 e] at h2; simp at h2; omega
  exact (o_dec v).ge hv (by omega)
theorem Bn_ge {v n : Nat} (h1 : 1 ≤ n) (h2 : n ≤ (oL v).length) : 10 ^ (Qn v n + (n - 1)) ≤ Bn v n := by
  have h := Qn_ge h1 h2
  rw [Nat.pow_add, Nat.mul_comm] at h ⊢
  exact Nat.mul_le_mul_right _ ((Nat.le_div_iff_mul_le (pow_pos10 _)).2 h)
theorem Bn_form {v n : Nat} (h2 : n ≤ (oL v).length) : ∃ c, c < 10 ^ n ∧ Bn v n = c * 10 ^ Qn v n ∧ An v n = (c + 1) * 10 ^ Qn v n := by
  refine ⟨v / 10 ^ Qn v n, Nat.div_lt_of_lt_mul (by rw [← Nat.pow_add]; exact Qn_lt h2), rfl, ?_⟩
  rw [Nat.add_mul, Nat.one_mul]; rfl
theorem form_len {x c Q n : Nat} (h : x = c * 10 ^ Q) (hc : c ≤ 10 ^ n) (hn : 1 ≤ n) : (oL x).length ≤ n := by
  rcases Nat.lt_or_ge c (10 ^ n) with h1 | h1
  · exact cnt_le h h1
  · have hu : c = 10 ^ n := by omega
    have := cnt_le (v := x) (u := 1) (j := n + Q) (q := 1) (by rw [h, hu, ← Nat.pow_add, Nat.one_mul]) (by decide)
    omega
theorem pick_R {R : Nat → Prop} {v n d : Nat} (hn : ¬ failN R v n) (h : pickN R v n d) : R d ∧ (d = Bn v n ∨ d = An v n) := by
  rcases h with ⟨a, b, rfl⟩ | ⟨a, rfl⟩
  · exact ⟨a, .inl rfl⟩
  · refine ⟨Classical.byContradiction fun hA => ?_, .inr rfl⟩
    exact hn ⟨fun hB => a ⟨hB, .inl hA⟩, hA⟩
theorem mul_div_is {c v T : Nat} (hT : 0 < T) (h1 : c * T ≤ v) (h2 : v < c * T + T) : v / T = c := by
  rw [Nat.div_eq_iff hT]; omega
/-- What is found at n has n digits. -/
theorem pick_len {R : Nat → Prop} {v n d : Nat} (h1 : 1 ≤ n) (h2 : n < (oL v).length) (hf : ∀ j, 1 ≤ j → j < n → failN R v j) (hn : ¬ failN R v n) (hd : pickN R v n d) : (oL d).length = n := by
  obtain ⟨hR, hBA⟩ := pick_R hn hd
  obtain ⟨c, hc, e1, e2⟩ := Bn_form (Nat.le_of_lt h2)
  have hle : (oL d).length ≤ n := by
    rcases hBA with rfl | rfl
    · exact form_len e1 (by omega) h1
    · exact form_len e2 (by omega) h1
  have hB := Bn_ge h1 (Nat.le_of_lt h2)
  have hlt := Bn_le v n
  have hdB : Bn v n ≤ d := by
    rcases hBA with h | h
    · rw [h]; exact Nat.le_refl _
    · rw [h]; exact Nat.le_add_right _ _
  have hd0 : d ≠ 0 := by have := pow_pos10 (Qn v n + (n - 1)); omega
  rcases Nat.lt_or_ge (oL d).length n with hj | hj
  · exfalso
    have hj1 : 1 ≤ (oL d).length := by
      rcases Nat.eq_zero_or_pos (oL d).length with h | h
      · exact absurd (oL_nil.1 (List.eq_nil_of_length_eq_zero h)) hd0
      · exact h
    have hP := oP_gt (Nat.le_trans hB hdB)
    have q1 := Qn_eq (Nat.le_of_lt h2)
    have q2 := Qn_eq (v := v) (n := (oL d).length) (by omega)
    have hm := (o_dec d).mod (E := Qn v (oL d).length) (by omega)
    have hQ : Qn v n ≤ Qn v (oL d).length := by omega
    have hT : (10 : Nat) ^ Qn v n ≤ 10 ^ Qn v (oL d).length := Nat.pow_le_pow_right (by decide) hQ
    have hfj := hf _ hj1 hj
    have hx := Nat.div_add_mod d (10 ^ Qn v (oL d).length)
    rw [hm, Nat.add_zero, Nat.mul_comm] at hx
    have hpos := pow_pos10 (Qn v (oL d).length)
    rcases hBA with hb | hb
    · refine hfj.1 ?_
      have : v / 10 ^ Qn v (oL d).length = d / 10 ^ Qn v (oL d).length := mul_div_is hpos (by omega) (by unfold An at hlt; omega)
      unfold Bn; rw [this, hx]; exact hR
    · refine hfj.2 ?_
      have hc1 : 1 ≤ d / 10 ^ Qn v (oL d).length := by
        rcases Nat.eq_zero_or_pos (d / 10 ^ Qn v (oL d).length) with h | h
        · rw [h, Nat.zero_mul] at hx; omega
        · exact h
      obtain ⟨y, hy⟩ : ∃ y, d / 10 ^ Qn v (oL d).length = y + 1 := ⟨_, (Nat.sub_add_cancel hc1).symm⟩
      rw [hy, Nat.add_mul, Nat.one_mul] at hx
      have : v / 10 ^ Qn v (oL d).length = y := mul_div_is hpos (by unfold An at hb; omega) (by omega)
      unfold An Bn; rw [this, hx]; exact hR
  · omega
/-- A pattern's value of some size. -/
structure Fine (v : Nat) : Prop where
  len : (oL v).length ≤ 900
  p0 : -1300 ≤ oP v
  p1 : oP v ≤ 900
theorem Fine.good {v : Nat} (h : Fine v) : Good v := ⟨by have := h.len; omega, by have := h.p0; omega, by have := h.p1; omega⟩
theorem fine_ex {m : Nat} {e : Int} (hm : m < 18446744073709551616) (h0 : -1200 ≤ e) (h1 : e ≤ 1200) : Fine (exU m e) := by
  obtain ⟨J, u, q, h2, h3, h6, h4, h5⟩ := exU_split hm h0 h1
  have hl := cnt_le h2 h3
  by_cases hz : exU m e = 0
  · rw [hz]; exact ⟨by rw [o_zero.1]; simp, by rw [o_zero.2]; decide, by rw [o_zero.2]; decide⟩
  · have hu : 1 ≤ u := by
      rcases Nat.eq_zero_or_pos u with h | h
      · subst h; rw [Nat.zero_mul] at h2; exact absurd h2 hz
      · exact h
    have hg := oP_gt (v := exU m e) (q := J) (by rw [h2]; have := Nat.mul_le_mul_right (10 ^ J) hu; omega)
    have hlt : exU m e < 10 ^ (J + q) := by
      rw [h2, Nat.pow_add, Nat.mul_comm (10 ^ J)]
      exact Nat.mul_lt_mul_of_pos_right h3 (pow_pos10 J)
    rcases oP_le hlt with h | h
    · exact ⟨by omega, by omega, by omega⟩
    · exact absurd h hz
theorem place_good {v n x c : Nat} (h : Fine v) (h1 : 1 ≤ n) (h2 : n ≤ (oL v).length) (hx : x = c * 10 ^ Qn v n) (hc : c ≤ 10 ^ n) : Good x := by
  have hl := h.len
  have hp0 := h.p0
  have hp1 := h.p1
  have q := Qn_eq h2
  refine good_of (J := Qn v n) (K := n + 1) (by rw [hx]; exact pow_mod _ _) ?_ (by omega) (by omega) (by omega)
  rw [hx, Nat.pow_add, Nat.mul_comm (10 ^ Qn v n)]
  refine Nat.mul_lt_mul_of_pos_right ?_ (pow_pos10 _)
  have := pow_pos10 n
  rw [Nat.pow_succ]; omega
theorem An_good {v n : Nat} (h : Fine v) (h1 : 1 ≤ n) (h2 : n ≤ (oL v).length) : Good (Bn v n) ∧ Good (An v n) ∧ Good (10 ^ Qn v n) ∧ Good (near v (Qn v n)) := by
  obtain ⟨c, hc, e1, e2⟩ := Bn_form h2
  have gB := place_good h h1 h2 e1 (by omega)
  have gA := place_good h h1 h2 e2 (by omega)
  refine ⟨gB, gA, place_good h h1 h2 (Nat.one_mul _).symm (pow_pos10 n), ?_⟩
  rcases near_is v n with e | ⟨e, -, -⟩
  · rw [e]; exact gB
  · rw [e]; exact gA
theorem SH.good {R : Nat → Prop} {v d : Nat} (hv : Fine v) (h : SH R v d) : Good d := by
  rcases h with ⟨n, h1, h2, h3, h4, h5⟩ | ⟨-, rfl⟩
  · obtain ⟨gB, gA, -, -⟩ := An_good hv h1 (Nat.le_of_lt h2)
    rcases (pick_R h4 h5).2 with rfl | rfl
    · exact gB
    · exact gA
  · exact hv.good
theorem SH.read {R : Nat → Prop} {v d : Nat} (hv : R v) (h : SH R v d) : R d := by
  rcases h with ⟨n, h1, h2, h3, h4, h5⟩ | ⟨-, rfl⟩
  · exact (pick_R h4 h5).1
  · exact hv
/-- No decimal of fewer digits. -/
theorem SH.fewer {R : Nat → Prop} {v d k : Nat} (h : SH R v d) (h1 : 1 ≤ k) (h2 : k < (oL d).length) (h3 : k < (oL v).length) : failN R v k := by
  rcases h with ⟨n, n1, n2, n3, n4, n5⟩ | ⟨hf, rfl⟩
  · rw [pick_len n1 n2 n3 n4 n5] at h2
    exact n3 k h1 h2
  · exact hf k h1 h3
theorem SH.len {R : Nat → Prop} {v d : Nat} (h : SH R v d) : (oL d).length ≤ (oL v).length := by
  rcases h with ⟨n, n1, n2, n3, n4, n5⟩ | ⟨hf, rfl⟩
  · rw [pick_len n1 n2 n3 n4 n5]; omega
  · exact Nat.le_refl _
/-- None of as many is nearer. -/
theorem SH.closest {R : Nat → Prop} {v d g1 g2 : Nat} (hb : Bd R v g1 g2) (h : SH R v d) : rnd v (oL d).length = d ∨ ¬ R (rnd v (oL d).length) := by
  rcases h with ⟨n, n1, n2, n3, n4, n5⟩ | ⟨hf, rfl⟩
  · have hl := pick_len n1 n2 n3 n4 n5
    have q := Qn_eq (Nat.le_of_lt n2)
    rw [hl, rnd_near (Q := Qn v n) (by omega)]
    by_cases hR : R (near v (Qn v n))
    · exact .inl (pick_uniq (pick_near hb hR).1 n5)
    · exact .inr hR
  · refine .inl ?_
    unfold rnd
    rw [if_neg (by omega), if_pos (Int.le_refl _)]
/-- How many digits are enough. -/
theorem near_in {R : Nat → Prop} {v g1 g2 n C : Nat} (hb : Bd R v g1 g2) (h1 : 1 ≤ n) (h2 : n ≤ (oL v).length) (hC : v ≤ C * g1) (hC2 : C < 2 * 10 ^ (n - 1)) : R (near v (Qn v n)) := by
  have h := Qn_ge h1 h2
  obtain ⟨c, e, -, k1, k2⟩ := near_form v (Qn v n)
  rw [Nat.pow_add] at h
  have hp := pow_pos10 (n - 1)
  have ht : 10 ^ Qn v n < 2 * g1 := by
    rcases Nat.lt_or_ge (10 ^ Qn v n) (2 * g1) with h3 | h3
    · exact h3
    · exfalso
      have a1 : 2 * g1 * 10 ^ (n - 1) ≤ 10 ^ Qn v n * 10 ^ (n - 1) := Nat.mul_le_mul_right _ h3
      have a2 : C * g1 < 2 * 10 ^ (n - 1) * g1 := Nat.mul_lt_mul_of_pos_right hC2 hb.pos
      have a3 : 2 * 10 ^ (n - 1) * g1 = 2 * g1 * 10 ^ (n - 1) := by rw [Nat.mul_assoc, Nat.mul_comm (10 ^ (n - 1)), ← Nat.mul_assoc]
      omega
  exact hb.near (by omega) (by omega)
theorem SH.few {R : Nat → Prop} {v d g1 g2 C N : Nat} (hb : Bd R v g1 g2) (h : SH R v d) (h1 : 1 ≤ N) (hC : v ≤ C * g1) (hC2 : C < 2 * 10 ^ (N - 1)) : (oL d).length ≤ N := by
  have key : N < (oL v).length → ¬ failN R v N := fun hN f => by
    have hR := near_in hb h1 (Nat.le_of_lt hN) hC hC2
    exact (pick_near hb hR).2 f
  rcases Nat.lt_or_ge N (oL d).length with hlt | hge
  · exfalso
    have hl := h.len
    exact key (by omega) (h.fewer h1 hlt (by omega))
  · exact hge

/-- The units. -/
theorem exU_lin (m : Nat) (e : Int) : exU m e = m * exU 1 e := by
  unfold exU
  split
  · rw [Nat.one_mul, Nat.mul_assoc]
  · rw [Nat.one_mul, Nat.mul_assoc]
theorem exU_shift (m : Nat) (e0 : Int) (k : Nat) (h : -1200 ≤ e0) (h1 : e0 + k ≤ 1200) : exU m (e0 + k) = m * 2 ^ k * exU 1 e0 := by
  induction k with
  | zero => rw [show e0 + (0 : Nat) = e0 by omega, Nat.pow_zero, Nat.mul_one, exU_lin]
  | succ k ih =>
    rw [show e0 + (k + 1 : Nat) = e0 + k + 1 by omega, exU_double m (e0 + k) (by omega) (by omega), ih (by omega), Nat.pow_succ, ← Nat.mul_assoc, Nat.mul_comm (m * 2 ^ k) 2, Nat.mul_assoc 2]
    omega
theorem exU_val {f p : Nat} {least : Int} (h : -1199 ≤ least) (h1 : least + pk f p ≤ 1200) : exU (pm f p) (least + pk f p) = 2 * pq f p * exU 1 (least - 1) := by
  have h2 := exU_shift (pm f p) (least - 1) (pk f p + 1) (by omega) (by omega)
  rw [show least - 1 + (pk f p + 1 : Nat) = least + pk f p by omega] at h2
  rw [h2, Nat.pow_succ]
  unfold pq
  rw [← Nat.mul_assoc, Nat.mul_comm _ 2]
theorem exU_mid {f p : Nat} {least : Int} (h : -1199 ≤ least) (h1 : least + pk f p ≤ 1200) : exU (2 * pm f p + 1) (least + pk f p - 1) = pa f p * exU 1 (least - 1) := by
  have h2 := exU_shift (2 * pm f p + 1) (least - 1) (pk f p) (by omega) (by omega)
  rw [show least - 1 + (pk f p : Int) = least + pk f p - 1 by omega] at h2
  exact h2
theorem exU_pos (e : Int) : 0 < exU 1 e := by
  unfold exU
  split
  · exact Nat.mul_pos (Nat.mul_pos (by decide) (pow_pos2 _)) (pow_pos10 _)
  · exact Nat.mul_pos (Nat.mul_pos (by decide) (Nat.pow_pos (by decide))) (pow_pos10 _)
end Go.Proofs.YthbabhbfpcfenabDoor
