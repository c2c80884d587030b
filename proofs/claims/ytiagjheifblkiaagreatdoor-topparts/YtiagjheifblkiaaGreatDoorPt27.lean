/- SMath, SFacts, FMath, FWalkB: these texts in one. -/
import Derived.Test.YtiagjheifblkiaaGreatDoorPt26
namespace Go.Proofs.YtiagjheifblkiaaGreatDoor
open Go.RowKit
set_option linter.unusedVariables false
def Qn (v n : Nat) : Nat := (oP v - n + 10000).toNat
def Bn (v n : Nat) : Nat := v / 10 ^ Qn v n * 10 ^ Qn v n
def An (v n : Nat) : Nat := Bn v n + 10 ^ Qn v n
def failN (R : Nat → Prop) (v n : Nat) : Prop := ¬ R (Bn v n) ∧ ¬ R (An v n)
def pickN (R : Nat → Prop) (v n d : Nat) : Prop := (R (Bn v n) ∧ (¬ R (An v n) ∨ near v (Qn v n) = Bn v n) ∧ d = Bn v n) ∨ (¬ (R (Bn v n) ∧ (¬ R (An v n) ∨ near v (Qn v n) = Bn v n)) ∧ d = An v n)
def SH (R : Nat → Prop) (v d : Nat) : Prop :=
 (∃ n, 1 ≤ n ∧ n < (oL v).length ∧ (∀ j, 1 ≤ j → j < n → failN R v j) ∧ ¬ failN R v n ∧ pickN R v n d) ∨ ((∀ j, 1 ≤ j → j < (oL v).length → failN R v j) ∧ d = v)
theorem pick_ex (R : Nat → Prop) (v n : Nat) : ∃ d, pickN R v n d := by
 by_cases h : R (Bn v n) ∧ (¬ R (An v n) ∨ near v (Qn v n) = Bn v n)
 ·exact ⟨_, .inl ⟨h.1, h.2, rfl⟩⟩
 ·exact ⟨_, .inr ⟨h, rfl⟩⟩
theorem pick_uniq {R : Nat → Prop} {v n d e : Nat} (h : pickN R v n d) (k : pickN R v n e) : d = e := by
 rcases h with ⟨a, b, rfl⟩ | ⟨a, rfl⟩ <;> rcases k with ⟨a', b', rfl⟩ | ⟨a', rfl⟩
 ·rfl
 ·exact absurd ⟨a, b⟩ a'
 ·exact absurd ⟨a', b'⟩ a
 ·rfl
theorem sh_ex (R : Nat → Prop) (v : Nat) : ∃ d, SH R v d := by
 have key : ∀ N, (∀ j, 1 ≤ j → j < N → failN R v j) ∨ ∃ n, 1 ≤ n ∧ n < N ∧ (∀ j, 1 ≤ j → j < n → failN R v j) ∧ ¬ failN R v n := by
  intro N
  induction N with
  | zero => exact .inl fun j _ h => by omega
  | succ N ih =>
    rcases ih with h | ⟨n, h1, h2, h3, h4⟩
    ·by_cases hN : 1 ≤ N ∧ ¬ failN R v N
     ·exact .inr ⟨N, hN.1, by omega, h, hN.2⟩
     ·refine .inl fun j h1 h2 => ?_
      rcases Nat.lt_or_ge j N with h3 | h3
      ·exact h j h1 h3
      ·obtain rfl : j = N := by omega
       exact Classical.byContradiction fun hc => hN ⟨h1, hc⟩
    ·exact .inr ⟨n, h1, by omega, h3, h4⟩
 rcases key (oL v).length with h | ⟨n, h1, h2, h3, h4⟩
 ·exact ⟨v, .inr ⟨h, rfl⟩⟩
 ·obtain ⟨d, hdB⟩ := pick_ex R v n
  exact ⟨d, .inl ⟨n, h1, h2, h3, h4, hdB⟩⟩
theorem SH.at {R : Nat → Prop} {v d n : Nat} (h : SH R v d) (h1 : 1 ≤ n) (h2 : n < (oL v).length) (hf : ∀ j, 1 ≤ j → j < n → failN R v j) (hn : ¬ failN R v n) : pickN R v n d := by
 rcases h with ⟨k, k1, k2, k3, k4, k5⟩ | ⟨k1, k2⟩
 ·rcases Nat.lt_trichotomy n k with h | h | h
  ·exact absurd (k3 n h1 h) hn
  ·subst h; exact k5
  ·exact absurd (hf k k1 h) k4
 ·exact absurd (k1 n h1 h2) hn
theorem SH.all {R : Nat → Prop} {v d : Nat} (h : SH R v d) (hf : ∀ j, 1 ≤ j → j < (oL v).length → failN R v j) : d = v := by
 rcases h with ⟨k, k1, k2, k3, k4, k5⟩ | ⟨k1, k2⟩
 ·exact absurd (hf k k1 k2) k4
 ·exact k2
structure Bd (R : Nat → Prop) (v g1 g2 : Nat) : Prop where
 le : g1 ≤ g2
 pos : 0 < g1
 mem : ∃ ev : Bool, ∀ x, R x ↔ if ev then v ≤ x + g1 ∧ x ≤ v + g2 else v < x + g1 ∧ x < v + g2
theorem Bd.near {R : Nat → Prop} {v g1 g2 x : Nat} (h : Bd R v g1 g2) (h1 : v < x + g1) (h2 : x < v + g1) : R x := by
 obtain ⟨ev, hev⟩ := h.mem
 have := h.le
 rw [hev]; cases ev <;> simp <;> omega
theorem near_is (v n : Nat) : near v (Qn v n) = Bn v n ∨ (near v (Qn v n) = An v n ∧ near v (Qn v n) ≠ Bn v n ∧ 10 ^ Qn v n ≤ 2 * (v - Bn v n)) := by
 have h0 := Nat.div_add_mod v (10 ^ Qn v n)
 have hp := pow_pos10 (Qn v n)
 rw [Nat.mul_comm] at h0
 unfold near An Bn
 by_cases h : 2 * (v % 10 ^ Qn v n) < 10 ^ Qn v n ∨ (2 * (v % 10 ^ Qn v n) = 10 ^ Qn v n ∧ v / 10 ^ Qn v n % 2 = 0)
 ·rw [if_pos h]; exact .inl rfl
 ·rw [if_neg h]
  refine .inr ⟨rfl, ?_, ?_⟩
  ·generalize v / 10 ^ Qn v n * 10 ^ Qn v n = b at *; omega
  ·generalize v / 10 ^ Qn v n * 10 ^ Qn v n = b at *; omega
theorem Bn_le (v n : Nat) : Bn v n ≤ v ∧ v < An v n := by
 have h0 := Nat.div_add_mod v (10 ^ Qn v n)
 have h1 := Nat.mod_lt v (pow_pos10 (Qn v n))
 rw [Nat.mul_comm] at h0
 unfold An Bn
 generalize v / 10 ^ Qn v n * 10 ^ Qn v n = b at *
 omega
theorem Bd.key {R : Nat → Prop} {v g1 g2 n : Nat} (h : Bd R v g1 g2) (hn : 10 ^ Qn v n ≤ 2 * (v - Bn v n)) (hB : R (Bn v n)) : R (An v n) := by
 obtain ⟨ev, hev⟩ := h.mem
 have := h.le; have := h.pos
 have hb := Bn_le v n
 rw [hev] at hB ⊢
 unfold An at *
 cases ev
 ·simp only [Bool.false_eq_true, if_false] at hB ⊢
  omega
 ·simp only [if_true] at hB ⊢
  omega
theorem pick_near {R : Nat → Prop} {v g1 g2 n : Nat} (h : Bd R v g1 g2) (hR : R (near v (Qn v n))) : pickN R v n (near v (Qn v n)) ∧ ¬ failN R v n := by
 rcases near_is v n with e | ⟨e, ne, -⟩
 ·exact ⟨.inl ⟨e ▸ hR, .inr e, e⟩, fun f => f.1 (e ▸ hR)⟩
 ·refine ⟨.inr ⟨?_, e⟩, fun f => f.2 (e ▸ hR)⟩
  rintro ⟨-, h1 | h1⟩
  ·exact h1 (e ▸ hR)
  ·exact ne h1
theorem pick_above {R : Nat → Prop} {v g1 g2 n : Nat} (h : Bd R v g1 g2) (hR : ¬ R (near v (Qn v n))) (hA : R (An v n)) : pickN R v n (An v n) ∧ ¬ failN R v n := by
 refine ⟨.inr ⟨?_, rfl⟩, fun f => f.2 hA⟩
 rintro ⟨h1, h2⟩
 rcases near_is v n with e | ⟨e, ne, -⟩
 ·exact hR (e ▸ h1)
 ·exact hR (e ▸ hA)
theorem pick_none {R : Nat → Prop} {v g1 g2 n : Nat} (h : Bd R v g1 g2) (hR : ¬ R (near v (Qn v n))) (hA : ¬ R (An v n)) : failN R v n := by
 refine ⟨fun hB => ?_, hA⟩
 rcases near_is v n with e | ⟨e, ne, hn⟩
 ·exact hR (e ▸ hB)
 ·exact hA (h.key hn hB)
end Go.Proofs.YtiagjheifblkiaaGreatDoor
namespace Go.Proofs.YtiagjheifblkiaaGreatDoor
open Go.RowKit
set_option linter.unusedVariables false
theorem bd_of {f I u p : Nat} (hu : 0 < u) (h0 : p ≠ 0) (hp : p < I) : Bd (fun x => RD f I u x p) (2 * pq f p * u) (2 ^ pk f (p - 1) * u) (2 ^ pk f p * u) := by
 have e1 : pa f (p - 1) * u + 2 ^ pk f (p - 1) * u = 2 * pq f p * u := by
  rw [← Nat.add_mul, pa_up, show p - 1 + 1 = p by omega]
 have e2 : pa f p * u = 2 * pq f p * u + 2 ^ pk f p * u := by rw [← Nat.add_mul, ← pa_eq]
 refine ⟨Nat.mul_le_mul_right _ (pk_mono f (by omega)), Nat.mul_pos (pow_pos2 _) hu, decide (p % 2 = 0), fun x => ?_⟩
 rw [RD_bounds h0 hp]
 by_cases he : p % 2 = 0
 ·rw [if_pos he, if_pos (decide_eq_true he)]; omega
 ·rw [if_neg he, if_neg (by simp [he])]; omega
theorem Qn_eq {v n : Nat} (h2 : n ≤ (oL v).length) : (Qn v n : Int) = oP v - n + 10000 := by
 have := o_low v
 unfold Qn; omega
theorem Qn_lt {v n : Nat} (h2 : n ≤ (oL v).length) : v < 10 ^ (Qn v n + n) := by
 have := Qn_eq h2
 exact (o_dec v).lt (by omega)
theorem Qn_ge {v n : Nat} (h1 : 1 ≤ n) (h2 : n ≤ (oL v).length) : 10 ^ (Qn v n + (n - 1)) ≤ v := by
 have := Qn_eq h2
 have hv : v ≠ 0 := fun e => by rw [oL_nil.2 e] at h2; simp at h2; omega
 exact (o_dec v).ge hv (by omega)
theorem Bn_ge {v n : Nat} (h1 : 1 ≤ n) (h2 : n ≤ (oL v).length) : 10 ^ (Qn v n + (n - 1)) ≤ Bn v n := by
 have h := Qn_ge h1 h2
 rw [Nat.pow_add, Nat.mul_comm] at h ⊢
 exact Nat.mul_le_mul_right _ ((Nat.le_div_iff_mul_le (pow_pos10 _)).2 h)
theorem Bn_form {v n : Nat} (h2 : n ≤ (oL v).length) : ∃ c, c < 10 ^ n ∧ Bn v n = c * 10 ^ Qn v n ∧ An v n = (c + 1) * 10 ^ Qn v n := by
 refine ⟨v / 10 ^ Qn v n, Nat.div_lt_of_lt_mul (by rw [← Nat.pow_add]; exact Qn_lt h2), rfl, ?_⟩
 rw [Nat.add_mul, Nat.one_mul]; rfl
theorem form_len {x c Q n : Nat} (h : x = c * 10 ^ Q) (hc : c ≤ 10 ^ n) (hn : 1 ≤ n) : (oL x).length ≤ n := by
 rcases Nat.lt_or_ge c (10 ^ n) with h1 | h1
 ·exact cnt_le h h1
 ·have hu : c = 10 ^ n := by omega
  have := cnt_le (v := x) (u := 1) (j := n + Q) (q := 1) (by rw [h, hu, ← Nat.pow_add, Nat.one_mul]) (by decide)
  omega
theorem pick_R {R : Nat → Prop} {v n d : Nat} (hn : ¬ failN R v n) (h : pickN R v n d) : R d ∧ (d = Bn v n ∨ d = An v n) := by
 rcases h with ⟨a, b, rfl⟩ | ⟨a, rfl⟩
 ·exact ⟨a, .inl rfl⟩
 ·refine ⟨Classical.byContradiction fun hA => ?_, .inr rfl⟩
  exact hn ⟨fun hB => a ⟨hB, .inl hA⟩, hA⟩
theorem mul_div_is {c v T : Nat} (hT : 0 < T) (h1 : c * T ≤ v) (h2 : v < c * T + T) : v / T = c := by
 rw [Nat.div_eq_iff hT]; omega
theorem pick_len {R : Nat → Prop} {v n d : Nat} (h1 : 1 ≤ n) (h2 : n < (oL v).length) (hf : ∀ j, 1 ≤ j → j < n → failN R v j) (hn : ¬ failN R v n) (hdB : pickN R v n d) : (oL d).length = n := by
 obtain ⟨hR, hBA⟩ := pick_R hn hdB
 obtain ⟨c, hc, e1, e2⟩ := Bn_form (Nat.le_of_lt h2)
 have hle : (oL d).length ≤ n := by
  rcases hBA with rfl | rfl
  ·exact form_len e1 (by omega) h1
  ·exact form_len e2 (by omega) h1
 have hB := Bn_ge h1 (Nat.le_of_lt h2)
 have hlt := Bn_le v n
 have hdB : Bn v n ≤ d := by
  rcases hBA with h | h
  ·rw [h]; exact Nat.le_refl _
  ·rw [h]; exact Nat.le_add_right _ _
 have hd0 : d ≠ 0 := by have := pow_pos10 (Qn v n + (n - 1)); omega
 rcases Nat.lt_or_ge (oL d).length n with hj | hj
 ·exfalso
  have hj1 : 1 ≤ (oL d).length := by
   rcases Nat.eq_zero_or_pos (oL d).length with h | h
   ·exact absurd (oL_nil.1 (List.eq_nil_of_length_eq_zero h)) hd0
   ·exact h
  have hP := oP_gt (Nat.le_trans hB hdB)
  have q1 := Qn_eq (Nat.le_of_lt h2)
  have q2 := Qn_eq (v := v) (n := (oL d).length) (by omega)
  have hm := (o_dec d).mod (E := Qn v (oL d).length) (by omega)
  have hQ : Qn v n ≤ Qn v (oL d).length := by omega
  have hT : (10 : Nat) ^ Qn v n ≤ 10 ^ Qn v (oL d).length := Nat.pow_le_pow_right (by decide) hQ
  have hfj := hf _ hj1 hj
  have hx := Nat.div_add_mod d (10 ^ Qn v (oL d).length)
  rw [hm, Nat.add_zero, Nat.mul_comm] at hx
  have hpos := pow_pos10 (Qn v (oL d).length)
  rcases hBA with hb | hb
  ·refine hfj.1 ?_
   have : v / 10 ^ Qn v (oL d).length = d / 10 ^ Qn v (oL d).length := mul_div_is hpos (by omega) (by unfold An at hlt; omega)
   unfold Bn; rw [this, hx]; exact hR
  ·refine hfj.2 ?_
   have hc1 : 1 ≤ d / 10 ^ Qn v (oL d).length := by
    rcases Nat.eq_zero_or_pos (d / 10 ^ Qn v (oL d).length) with h | h
    ·rw [h, Nat.zero_mul] at hx; omega
    ·exact h
   obtain ⟨y, hy⟩ : ∃ y, d / 10 ^ Qn v (oL d).length = y + 1 := ⟨_, (Nat.sub_add_cancel hc1).symm⟩
   rw [hy, Nat.add_mul, Nat.one_mul] at hx
   have : v / 10 ^ Qn v (oL d).length = y := mul_div_is hpos (by unfold An at hb; omega) (by omega)
   unfold An Bn; rw [this, hx]; exact hR
 ·omega
structure Fine (v : Nat) : Prop where
 len : (oL v).length ≤ 900
 p0 : -1300 ≤ oP v
 p1 : oP v ≤ 900
theorem Fine.good {v : Nat} (h : Fine v) : Good v := ⟨by have := h.len; omega, by have := h.p0; omega, by have := h.p1; omega⟩
theorem fine_ex {m : Nat} {e : Int} (hm : m < 18446744073709551616) (h0 : -1200 ≤ e) (h1 : e ≤ 1200) : Fine (exU m e) := by
 obtain ⟨J, u, q, h2, h3, h6, h4, h5⟩ := exU_split hm h0 h1
 have hl := cnt_le h2 h3
 by_cases hz : exU m e = 0
 ·rw [hz]; exact ⟨by rw [o_zero.1]; simp, by rw [o_zero.2]; decide, by rw [o_zero.2]; decide⟩
 ·have hu : 1 ≤ u := by
   rcases Nat.eq_zero_or_pos u with h | h
   ·subst h; rw [Nat.zero_mul] at h2; exact absurd h2 hz
   ·exact h
  have hg := oP_gt (v := exU m e) (q := J) (by rw [h2]; have := Nat.mul_le_mul_right (10 ^ J) hu; omega)
  have hlt : exU m e < 10 ^ (J + q) := by
   rw [h2, Nat.pow_add, Nat.mul_comm (10 ^ J)]
   exact Nat.mul_lt_mul_of_pos_right h3 (pow_pos10 J)
  rcases oP_le hlt with h | h
  ·exact ⟨by omega, by omega, by omega⟩
  ·exact absurd h hz
theorem place_good {v n x c : Nat} (h : Fine v) (h1 : 1 ≤ n) (h2 : n ≤ (oL v).length) (hx : x = c * 10 ^ Qn v n) (hc : c ≤ 10 ^ n) : Good x := by
 have hl := h.len
 have hp0 := h.p0
 have hp1 := h.p1
 have q := Qn_eq h2
 refine good_of (J := Qn v n) (K := n + 1) (by rw [hx]; exact pow_mod _ _) ?_ (by omega) (by omega) (by omega)
 rw [hx, Nat.pow_add, Nat.mul_comm (10 ^ Qn v n)]
 refine Nat.mul_lt_mul_of_pos_right ?_ (pow_pos10 _)
 have := pow_pos10 n
 rw [Nat.pow_succ]; omega
theorem An_good {v n : Nat} (h : Fine v) (h1 : 1 ≤ n) (h2 : n ≤ (oL v).length) : Good (Bn v n) ∧ Good (An v n) ∧ Good (10 ^ Qn v n) ∧ Good (near v (Qn v n)) := by
 obtain ⟨c, hc, e1, e2⟩ := Bn_form h2
 have gB := place_good h h1 h2 e1 (by omega)
 have gA := place_good h h1 h2 e2 (by omega)
 refine ⟨gB, gA, place_good h h1 h2 (Nat.one_mul _).symm (pow_pos10 n), ?_⟩
 rcases near_is v n with e | ⟨e, -, -⟩
 ·rw [e]; exact gB
 ·rw [e]; exact gA
theorem SH.good {R : Nat → Prop} {v d : Nat} (hv : Fine v) (h : SH R v d) : Good d := by
 rcases h with ⟨n, h1, h2, h3, h4, h5⟩ | ⟨-, rfl⟩
 ·obtain ⟨gB, gA, -, -⟩ := An_good hv h1 (Nat.le_of_lt h2)
  rcases (pick_R h4 h5).2 with rfl | rfl
  ·exact gB
  ·exact gA
 ·exact hv.good
theorem SH.read {R : Nat → Prop} {v d : Nat} (hv : R v) (h : SH R v d) : R d := by
 rcases h with ⟨n, h1, h2, h3, h4, h5⟩ | ⟨-, rfl⟩
 ·exact (pick_R h4 h5).1
 ·exact hv
theorem SH.fewer {R : Nat → Prop} {v d k : Nat} (h : SH R v d) (h1 : 1 ≤ k) (h2 : k < (oL d).length) (h3 : k < (oL v).length) : failN R v k := by
 rcases h with ⟨n, n1, n2, n3, n4, n5⟩ | ⟨hf, rfl⟩
 ·rw [pick_len n1 n2 n3 n4 n5] at h2
  exact n3 k h1 h2
 ·exact hf k h1 h3
theorem SH.len {R : Nat → Prop} {v d : Nat} (h : SH R v d) : (oL d).length ≤ (oL v).length := by
 rcases h with ⟨n, n1, n2, n3, n4, n5⟩ | ⟨hf, rfl⟩
 ·rw [pick_len n1 n2 n3 n4 n5]; omega
 ·exact Nat.le_refl _
theorem near_in {R : Nat → Prop} {v g1 g2 n C : Nat} (hb : Bd R v g1 g2) (h1 : 1 ≤ n) (h2 : n ≤ (oL v).length) (hC : v ≤ C * g1) (hC2 : C < 2 * 10 ^ (n - 1)) : R (near v (Qn v n)) := by
 have h := Qn_ge h1 h2
 obtain ⟨c, e, -, k1, k2⟩ := near_form v (Qn v n)
 rw [Nat.pow_add] at h
 have hp := pow_pos10 (n - 1)
 have ht : 10 ^ Qn v n < 2 * g1 := by
  rcases Nat.lt_or_ge (10 ^ Qn v n) (2 * g1) with h3 | h3
  ·exact h3
  ·exfalso
   have a1 : 2 * g1 * 10 ^ (n - 1) ≤ 10 ^ Qn v n * 10 ^ (n - 1) := Nat.mul_le_mul_right _ h3
   have a2 : C * g1 < 2 * 10 ^ (n - 1) * g1 := Nat.mul_lt_mul_of_pos_right hC2 hb.pos
   have a3 : 2 * 10 ^ (n - 1) * g1 = 2 * g1 * 10 ^ (n - 1) := by rw [Nat.mul_assoc, Nat.mul_comm (10 ^ (n - 1)), ← Nat.mul_assoc]
   omega
 exact hb.near (by omega) (by omega)
theorem SH.few {R : Nat → Prop} {v d g1 g2 C N : Nat} (hb : Bd R v g1 g2) (h : SH R v d) (h1 : 1 ≤ N) (hC : v ≤ C * g1) (hC2 : C < 2 * 10 ^ (N - 1)) : (oL d).length ≤ N := by
 have key : N < (oL v).length → ¬ failN R v N := fun hN f => by
  have hR := near_in hb h1 (Nat.le_of_lt hN) hC hC2
  exact (pick_near hb hR).2 f
 rcases Nat.lt_or_ge N (oL d).length with hlt | hge
 ·exfalso
  have hl := h.len
  exact key (by omega) (h.fewer h1 hlt (by omega))
 ·exact hge
theorem exU_lin (m : Nat) (e : Int) : exU m e = m * exU 1 e := by
 unfold exU
 split
 ·rw [Nat.one_mul, Nat.mul_assoc]
 ·rw [Nat.one_mul, Nat.mul_assoc]
theorem exU_shift (m : Nat) (e0 : Int) (k : Nat) (h : -1200 ≤ e0) (h1 : e0 + k ≤ 1200) : exU m (e0 + k) = m * 2 ^ k * exU 1 e0 := by
 induction k with
 | zero => rw [show e0 + (0 : Nat) = e0 by omega, Nat.pow_zero, Nat.mul_one, exU_lin]
 | succ k ih =>
   rw [show e0 + (k + 1 : Nat) = e0 + k + 1 by omega, exU_double m (e0 + k) (by omega) (by omega), ih (by omega), Nat.pow_succ, ← Nat.mul_assoc, Nat.mul_comm (m * 2 ^ k) 2, Nat.mul_assoc 2]
   omega
theorem exU_val {f p : Nat} {least : Int} (h : -1199 ≤ least) (h1 : least + pk f p ≤ 1200) : exU (pm f p) (least + pk f p) = 2 * pq f p * exU 1 (least - 1) := by
 have h2 := exU_shift (pm f p) (least - 1) (pk f p + 1) (by omega) (by omega)
 rw [show least - 1 + (pk f p + 1 : Nat) = least + pk f p by omega] at h2
 rw [h2, Nat.pow_succ]
 unfold pq
 rw [← Nat.mul_assoc, Nat.mul_comm _ 2]
theorem exU_mid {f p : Nat} {least : Int} (h : -1199 ≤ least) (h1 : least + pk f p ≤ 1200) : exU (2 * pm f p + 1) (least + pk f p - 1) = pa f p * exU 1 (least - 1) := by
 have h2 := exU_shift (2 * pm f p + 1) (least - 1) (pk f p) (by omega) (by omega)
 rw [show least - 1 + (pk f p : Int) = least + pk f p - 1 by omega] at h2
 exact h2
theorem exU_pos (e : Int) : 0 < exU 1 e := by
 unfold exU
 split
 ·exact Nat.mul_pos (Nat.mul_pos (by decide) (pow_pos2 _)) (pow_pos10 _)
 ·exact Nat.mul_pos (Nat.mul_pos (by decide) (Nat.pow_pos (by decide))) (pow_pos10 _)
end Go.Proofs.YtiagjheifblkiaaGreatDoor
namespace Go.Proofs.YtiagjheifblkiaaGreatDoor
open Go.RowKit
set_option linter.unusedVariables false
set_option linter.unusedSimpArgs false
def ch (s : ByteArray) (i : Int) : UInt8 := if 0 ≤ i ∧ i < (s.size : Nat) then s.data.toList.getD i.toNat 0 else 48
theorem lnA_list (s : ByteArray) (n : Int) : (lnA s n).data.toList = List.replicate (n - (s.size : Nat)).toNat 48 ++ s.data.toList := by
 unfold lnA; rw [app_list, run_list]; rfl
theorem ext_li (s : ByteArray) (a b : Nat) : (s.extract a b).data.toList = (s.data.toList.take b).drop a := by
 rw [ByteArray.data_extract, Array.toList_extract, List.extract_eq_take_drop]
 rw [List.drop_take]
theorem arB_size_is (s : ByteArray) (p : Int) : (arB s p).size = ((s.size : Int) - p).toNat := by
 have hz := lnB_size s p
 have hy := lnA_size s ((s.size : Nat) - p)
 unfold arB
 split
 ·omega
 ·rw [ByteArray.size_extract]; omega
theorem lnA_none (s : ByteArray) (a : Int) (h : a ≤ (s.size : Int)) : lnA s a = s := by
 apply ByteArray.ext; apply Array.ext'
 rw [lnA_list, show (a - (s.size : Nat)).toNat = 0 by omega]; simp
theorem low_of {d J : Nat} (h : d % 10 ^ J = 0) : d = 0 ∨ (J : Int) ≤ oP d - (oL d).length + 10000 := by
 by_cases hdB : d = 0
 ·exact .inl hdB
 ·refine .inr ?_
  have k := o_dec d
  have hne := k.ne hdB
  have hv : num (oL d) * 10 ^ (oP d - (oL d).length + 10000).toNat = d := o_val d
  have hl := num_last k.dig k.lst hne
  have hlow := o_low d
  rcases Int.lt_or_le (oP d - (oL d).length + 10000) (J : Int) with h1 | h1
  ·exfalso
   have h2 : d = d / 10 ^ J * 10 ^ J := by have := Nat.div_add_mod d (10 ^ J); rw [h, Nat.mul_comm] at this; omega
   exact pow_split hl (show (oP d - (oL d).length + 10000).toNat < J by omega) (hv.trans h2)
  ·exact h1
theorem near_mod (v P : Nat) : near v P % 10 ^ P = 0 := by
 unfold near
 split
 ·exact Nat.mul_mod_left _ _
 ·rw [Nat.add_mod_right]; exact Nat.mul_mod_left _ _
theorem plc_low {v : Nat} {k : Int} (h0 : 0 ≤ k) (h1 : k ≤ 1000) : ((oL (plc v k)).length : Int) - oP (plc v k) ≤ k := by
 have e : plc v k = rnd v (oP v + k) := by unfold plc; congr 1; omega
 rw [e]
 unfold rnd
 split
 ·rw [o_zero.1, o_zero.2]; simpa using h0
 ·split
  ·omega
  ·rename_i h2 h3
   rcases low_of (near_mod v (oP v - (oP v + k) + 10000).toNat) with h | h
   ·rw [h, o_zero.1, o_zero.2]; simpa using h0
   ·omega
theorem rnd_len {v : Nat} {c : Int} (h0 : 1 ≤ c) : ((oL (rnd v c)).length : Int) ≤ c := by
 unfold rnd
 rw [if_neg (by omega)]
 split
 ·assumption
 ·rename_i h
  obtain ⟨n, rfl⟩ := Int.eq_ofNat_of_zero_le (show 0 ≤ c by omega)
  have hn : n ≤ (oL v).length := by omega
  obtain ⟨x, hx, hB, hA⟩ := Bn_form (v := v) hn
  have e : (oP v - (n : Int) + 10000).toNat = Qn v n := rfl
  rw [e]
  rcases near_is v n with k | ⟨k, -, -⟩
  ·rw [k]
   have := form_len hB (Nat.le_of_lt hx) (by omega)
   omega
  ·rw [k]
   have := form_len hA hx (by omega)
   omega
end Go.Proofs.YtiagjheifblkiaaGreatDoor
namespace Go.Proofs.YtiagjheifblkiaaGreatDoor
open Go.RowKit
set_option linter.unusedVariables false
set_option linter.unusedSimpArgs false
theorem Cl.first {W w5 : World} (hb : Below W.drew.heap.size W.drew w5) : ∃ z : Cl W, w5 = z.w := ⟨⟨w5, bel_call (Below.refl _ _).drew hb (Nat.le_refl _)⟩, rfl⟩
theorem Cl.start {W w5 : World} (hb : Below W.heap.size W w5) : ∃ z : Cl W, w5 = z.w := ⟨⟨w5, hb⟩, rfl⟩
abbrev PtdC (bits m : Nat) (size e P : Int) (sh : Bool) (a b r : ByteArray) : Prop := ∀ w, Calls Tryz.prog 347 #[.agg #[.int .u64 (bits : Nat), .int .i64 size, .int .u64 (m : Nat), .int .i64 e, .int .i64 P, .bool sh], .string a, .string b] w fun x w' => x = .returned (.string r) ∧ Below w.heap.size w w'
abbrev SgdC (n l : Int) (r : ByteArray) : Prop := ∀ w, Calls Tryz.prog 349 #[.int .i64 n, .int .i64 l] w fun x w' => x = .returned (.string r) ∧ Below w.heap.size w w'
abbrev ArC (s : ByteArray) (p : Int) (a b : ByteArray) : Prop := ∀ w, Calls Tryz.prog 346 #[.string s, .int .i64 p] w fun x w' => x = .returned (.tuple #[.string a, .string b]) ∧ Below w.heap.size w w'
abbrev SciC (bits m : Nat) (size e P : Int) (sh : Bool) (d : ByteArray) (x : Int) (r : ByteArray) : Prop := ∀ w, Calls Tryz.prog 343 #[.agg #[.int .u64 (bits : Nat), .int .i64 size, .int .u64 (m : Nat), .int .i64 e, .int .i64 P, .bool sh], .string d, .int .i64 x] w fun x w' => x = .returned (.string r) ∧ Below w.heap.size w w'
abbrev ValC (bits m : Nat) (size e P : Int) (sh : Bool) (S : ByteArray) (Q : Int) : Prop := ∀ w, Calls Tryz.prog 342 #[.agg #[.int .u64 (bits : Nat), .int .i64 size, .int .u64 (m : Nat), .int .i64 e, .int .i64 P, .bool sh]] w fun x w' => x = .returned (.agg #[.string S, .int .i64 Q]) ∧ Below w.heap.size w w'
abbrev PlaC (bits m : Nat) (size e P : Int) (sh : Bool) (k : Int) : Prop := ∀ w, Calls Tryz.prog 341 #[.agg #[.int .u64 (bits : Nat), .int .i64 size, .int .u64 (m : Nat), .int .i64 e, .int .i64 P, .bool sh]] w fun x w' => x = .returned (.int .i64 k) ∧ Below w.heap.size w w'
abbrev PowerC (S : ByteArray) (Q k : Int) : Prop := ∀ w, Calls Tryz.prog 345 #[.agg #[.string S, .int .i64 Q]] w fun x w' => x = .returned (.int .i64 k) ∧ Below w.heap.size w w'
set_option maxRecDepth 1000000 in
theorem sci_walk {bits m : Nat} {size e P : Int} {sh : Bool} {d A B T G : ByteArray} {x : Int} (hdB : 1 ≤ d.size) (hA : d.extract 0 1 = A) (hB : d.extract 1 d.size = B) (hP : PtdC bits m size e P sh A B T) (hG : SgdC x 2 G) (hz : T.size + G.size ≤ 1000000) (w : World) :
  Calls Tryz.prog 343 #[.agg #[.int .u64 (bits : Nat), .int .i64 size, .int .u64 (m : Nat), .int .i64 e, .int .i64 P, .bool sh], .string d, .int .i64 x] w fun x w' => x = .returned (.string ((T ++ ⟨#[101]⟩) ++ G)) ∧ Below w.heap.size w w' := by
 have hdI : (1 : Int) ≤ d.size := by omega
 have h1 : (⟨#[101]⟩ : ByteArray).size = 1 := rfl
 have hz2 : T.size + (⟨#[101]⟩ : ByteArray).size + G.size ≤ 10000000 := by omega
 have hbA : Below w.heap.size w (w.alloc (.cells #[.int .u64 (bits : Nat), .int .i64 size, .int .u64 (m : Nat), .int .i64 e, .int .i64 P, .bool sh] 390)) := (Below.refl _ _).alloc (Nat.le_refl _) _
 subst hA hB
 go_enter Tryz.func343, Tryz.ntmps343
 go_wp2_with fail
 go_region_with (first
  | (go_at_call 347; (with_reducible refine (hP _).mono ?_); rintro e w2 ⟨rfl, hb2⟩; obtain ⟨y2, rfl⟩ := Cl.first hb2)
  | (go_at_call 349; (with_reducible refine (hG _).mono ?_); rintro e w3 ⟨rfl, hb3⟩; obtain ⟨y3, rfl⟩ := Cl.next hb3)
  | (go_at_call 286; refine (together3 (a := T) (b := ⟨#[101]⟩) (c := G) _ (by simp) (by simp) (by simp) hz2).mono ?_; rintro e w4 ⟨rfl, hb4⟩; obtain ⟨y4, rfl⟩ := Cl.after hb4))
 all_goals go_wp2
 all_goals go_ret
 all_goals exact ⟨rfl, bel_call hbA y4.below (Nat.le_refl _)⟩
theorem fsci_any {bits m : Nat} {size e P : Int} {sh : Bool} (d : ByteArray) (x : Int) (hdB : 1 ≤ d.size) (hd2 : d.size ≤ 100000) (hx0 : -1000000 ≤ x) (hx1 : x ≤ 1000000) : SciC bits m size e P sh d x (sci sh d x) := fun w => by
 have h4 : (d.extract 0 1).size ≤ 1 := by rw [ByteArray.size_extract]; omega
 have h5 : (d.extract 1 d.size).size ≤ d.size := by rw [ByteArray.size_extract]; omega
 have h6 := ptd_size sh (d.extract 0 1) (d.extract 1 d.size)
 have h7 := sgd_size x 2 (by decide)
 exact sci_walk hdB rfl rfl (fun w => fpointed_any _ _ w (by omega) (by omega)) (fun w => fsigned_any x 2 w hx0 hx1 (by decide) (by decide)) (by omega) w
set_option maxRecDepth 1000000 in
theorem fplaces_any {bits m : Nat} {size e P : Int} {sh : Bool} : PlaC bits m size e P sh (plcF P) := fun w => by
 unfold plcF
 by_cases h : P < 0
 ·rw [if_pos h]
  go_enter Tryz.func341, Tryz.ntmps341
  go_wp2
  go_ret
  exact ⟨rfl, by go_grown⟩
 ·rw [if_neg h]
  go_enter Tryz.func341, Tryz.ntmps341
  go_wp2
  go_ret
  exact ⟨rfl, by go_grown⟩
set_option maxRecDepth 1000000 in
theorem value_walk {bits m : Nat} {size e P : Int} {sh : Bool} {S : ByteArray} {Q : Int} (hX : ∀ w, Calls Tryz.prog 18 #[.int .u64 m, .int .i64 e] w fun x w' => x = .returned (.tuple #[.agg #[.string S, .int .i64 Q], .int .i64 0]) ∧ Below w.heap.size w w') : ValC bits m size e P sh S Q := fun w => by
 go_enter Tryz.func342, Tryz.ntmps342
 go_wp2_with (go_at_call 18; refine (hX _).mono ?_; rintro x w3 ⟨rfl, hb3⟩; have bR := keepb hb3 (B := w.heap.size + 1) (x := .string ⟨#[]⟩) (y := .int .i64 0) (by simp [BoxDe, go_sem]); obtain ⟨r0, r1, r2, r3⟩ := id bR; have hlt : w.heap.size + 1 < w3.heap.size := World.block_lt_of_cell? w3 _ r0)
 refine bodyPost_ret (by simp [results, Tryz.results342, go_sem, cs_same, r0, r1, hlt]; rfl) rfl ?_
 refine ⟨rfl, ?_⟩
 have h := bel_call (B := w.heap.size) (w := w) (by go_grown) hb3 (Nat.le_refl _)
 have hs := (h.setCell (p := ⟨w.heap.size + 1, 0, none⟩) (by simp) (.string S)).setCell (p := ⟨w.heap.size + 1, 1, none⟩) (by simp) (.int .i64 Q)
 exact hs.alloc hs.size _
set_option maxRecDepth 1000000 in
theorem fpower_any (v : Nat) (hp0 : -100000 ≤ oP v) (hp1 : oP v ≤ 100000) : PowerC (oS v) (oP v) (pw0 v) := fun w => by
 have hz : (oS v).size = 0 ↔ v = 0 := by
  rw [oS_size, List.length_eq_zero_iff]; exact oL_nil
 unfold pw0
 by_cases h : v = 0
 ·have hue : (oS v).toList.isEmpty = true := empty_yes _ (hz.2 h)
  rw [if_pos h]
  clear hz h
  generalize oS v = S at *
  generalize oP v = Q at *
  go_enter Tryz.func345, Tryz.ntmps345
  go_wp2
  go_ret
  exact ⟨rfl, by go_grown⟩
 ·have hue : (oS v).toList.isEmpty = false := empty_no _ (by have := mt hz.1 h; omega)
  rw [if_neg h]
  clear hz h
  generalize oS v = S at *
  generalize oP v = Q at *
  go_enter Tryz.func345, Tryz.ntmps345
  go_wp2
  go_ret
  exact ⟨rfl, by go_grown⟩
end Go.Proofs.YtiagjheifblkiaaGreatDoor
