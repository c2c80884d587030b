/- Plain mathematics of layer 4: a decimal is a whole number of units of 10 to the power of -10000; no program is met here. -/
import Derived.WalkKit
import Derived.Lib.TrimByte

namespace Go.Proofs.YthbabhbfpcfenabDoor
open Go.RowKit

/-- A digit's number. -/
def dg (x : UInt8) : Nat := x.toNat - 48
def isD (x : UInt8) : Bool := decide (48 ≤ x.toNat) && decide (x.toNat ≤ 57)
def allD (l : List UInt8) : Bool := l.all isD
/-- The digit of a number below 10. -/
def db (d : Nat) : UInt8 := UInt8.ofNat (48 + d)
/-- The number that a row of digits is. -/
def num (l : List UInt8) : Nat := l.foldl (fun n x => n * 10 + dg x) 0

theorem isD_iff (x : UInt8) : isD x = true ↔ 48 ≤ x.toNat ∧ x.toNat ≤ 57 := by simp [isD]
theorem dg_lt {x : UInt8} (h : isD x = true) : dg x < 10 := by have := (isD_iff x).1 h; unfold dg; omega
theorem db_nat {d : Nat} (h : d < 10) : (db d).toNat = 48 + d := by unfold db; simp; omega
theorem dg_db {d : Nat} (h : d < 10) : dg (db d) = d := by unfold dg; rw [db_nat h]; omega
theorem isD_db {d : Nat} (h : d < 10) : isD (db d) = true := by rw [isD_iff, db_nat h]; omega
theorem dg_inj {x y : UInt8} (hx : isD x = true) (hy : isD y = true) (h : dg x = dg y) : x = y := by
  have a := (isD_iff x).1 hx
  have b := (isD_iff y).1 hy
  unfold dg at h
  exact UInt8.toNat_inj.1 (by omega)
theorem allD_nil : allD [] = true := rfl
theorem allD_cons (x : UInt8) (l : List UInt8) : allD (x :: l) = (isD x && allD l) := rfl
theorem allD_append (a b : List UInt8) : allD (a ++ b) = (allD a && allD b) := by simp [allD]
theorem allD_mem {l : List UInt8} (h : allD l = true) {x : UInt8} (hx : x ∈ l) : isD x = true := by
  unfold allD at h; exact List.all_eq_true.1 h x hx
theorem allD_of {l : List UInt8} (h : ∀ x ∈ l, isD x = true) : allD l = true := List.all_eq_true.2 h

theorem num_foldl (l : List UInt8) : ∀ n, l.foldl (fun n x => n * 10 + dg x) n = n * 10 ^ l.length + num l := by
  induction l with
  | nil => intro n; simp [num]
  | cons x l ih =>
    intro n
    have h1 := ih (n * 10 + dg x)
    have h2 := ih (0 * 10 + dg x)
    simp only [List.foldl_cons, num, List.length_cons, Nat.pow_succ] at h1 h2 ⊢
    rw [h1, h2, Nat.add_mul, Nat.zero_mul, Nat.zero_add, Nat.add_assoc]
    congr 1
    rw [Nat.mul_assoc, Nat.mul_comm 10]
theorem num_nil : num [] = 0 := rfl
theorem num_append (a b : List UInt8) : num (a ++ b) = num a * 10 ^ b.length + num b := by
  show (a ++ b).foldl _ 0 = _
  rw [List.foldl_append, num_foldl b]; rfl
theorem num_cons (x : UInt8) (l : List UInt8) : num (x :: l) = dg x * 10 ^ l.length + num l := by
  have := num_append [x] l
  rw [List.singleton_append] at this
  rw [this]; simp [num]
theorem num_snoc (a : List UInt8) (x : UInt8) : num (a ++ [x]) = num a * 10 + dg x := by
  rw [num_append]; simp [num]
theorem pow_pos10 (n : Nat) : 0 < 10 ^ n := Nat.pow_pos (by decide)
theorem num_lt : ∀ (l : List UInt8), allD l = true → num l < 10 ^ l.length
  | [], _ => by simp [num]
  | x :: l, h => by
    rw [allD_cons, Bool.and_eq_true] at h
    have h1 := num_lt l h.2
    have h2 := dg_lt h.1
    rw [num_cons, List.length_cons, Nat.pow_succ]
    have h3 : dg x * 10 ^ l.length ≤ 9 * 10 ^ l.length := Nat.mul_le_mul_right _ (by omega)
    omega
theorem div_parts {a b r s m : Nat} (hr : r < m) (hs : s < m) (h : a * m + r = b * m + s) : a = b ∧ r = s := by
  have hm : 0 < m := by omega
  have h1 : (a * m + r) / m = a := by rw [Nat.mul_comm, Nat.mul_add_div hm, Nat.div_eq_of_lt hr, Nat.add_zero]
  have h2 : (b * m + s) / m = b := by rw [Nat.mul_comm, Nat.mul_add_div hm, Nat.div_eq_of_lt hs, Nat.add_zero]
  have : a = b := by rw [← h1, ← h2, h]
  subst this
  exact ⟨rfl, by omega⟩
theorem num_inj : ∀ (a b : List UInt8), allD a = true → allD b = true → a.length = b.length → num a = num b → a = b
  | [], [], _, _, _, _ => rfl
  | [], _ :: _, _, _, h, _ => by simp at h
  | _ :: _, [], _, _, h, _ => by simp at h
  | x :: a, y :: b, ha, hb, hl, hn => by
    rw [allD_cons, Bool.and_eq_true] at ha hb
    simp only [List.length_cons, Nat.add_right_cancel_iff] at hl
    rw [num_cons, num_cons, hl] at hn
    obtain ⟨h1, h2⟩ := div_parts (by rw [← hl]; exact num_lt a ha.2) (num_lt b hb.2) hn
    rw [dg_inj ha.1 hb.1 h1, num_inj a b ha.2 hb.2 hl h2]

/-- Does a row begin, and end, with no nought? -/
def hd (l : List UInt8) : Bool := l.head? != some 48
def lst (l : List UInt8) : Bool := l.getLast? != some 48

theorem dg_ne {x : UInt8} (hx : isD x = true) (h : x ≠ 48) : 0 < dg x := by
  have a := (isD_iff x).1 hx
  have : x.toNat ≠ 48 := fun e => h (UInt8.toNat_inj.1 (by rw [e]; rfl))
  unfold dg; omega
theorem num_head {x : UInt8} {l : List UInt8} (h : allD (x :: l) = true) (hh : hd (x :: l) = true) : 10 ^ l.length ≤ num (x :: l) := by
  rw [allD_cons, Bool.and_eq_true] at h
  have : x ≠ 48 := by intro e; subst e; simp [hd] at hh
  have := dg_ne h.1 this
  rw [num_cons]
  have : 1 * 10 ^ l.length ≤ dg x * 10 ^ l.length := Nat.mul_le_mul_right _ this
  omega
theorem num_pos {l : List UInt8} (h : allD l = true) (hh : hd l = true) (hne : l ≠ []) : 0 < num l := by
  cases l with
  | nil => exact absurd rfl hne
  | cons x l =>
    have := num_head h hh
    have := pow_pos10 l.length
    omega
theorem num_last {l : List UInt8} (h : allD l = true) (hh : lst l = true) (hne : l ≠ []) : ¬ num l % 10 = 0 := by
  obtain ⟨a, x, rfl⟩ : ∃ a x, l = a ++ [x] := ⟨l.dropLast, l.getLast hne, (List.dropLast_concat_getLast hne).symm⟩
  rw [allD_append, Bool.and_eq_true] at h
  have hx : isD x = true := allD_mem h.2 (by simp)
  have : x ≠ 48 := by intro e; subst e; simp [lst] at hh
  have := dg_ne hx this
  have := dg_lt hx
  rw [num_snoc]; omega
theorem num_pos' {l : List UInt8} (h : allD l = true) (hh : lst l = true) (hne : l ≠ []) : 0 < num l := by
  have := num_last h hh hne
  omega

/-- A decimal in form: its digits, its point, and the number of units that it is. -/
structure IsDec (l : List UInt8) (p : Int) (v : Nat) : Prop where
  dig : allD l = true
  hd : hd l = true
  lst : lst l = true
  nil : l = [] → p = 0
  low : -10000 ≤ p - l.length
  val : num l * 10 ^ (p - l.length + 10000).toNat = v

/-- The number of units of a decimal, in form or not. -/
def V (l : List UInt8) (p : Int) : Nat := num l * 10 ^ (p - l.length + 10000).toNat

theorem IsDec.ne {l : List UInt8} {p : Int} {v : Nat} (h : IsDec l p v) (hv : v ≠ 0) : l ≠ [] := by
  intro e; subst e
  have := h.val
  simp [num] at this; omega
theorem IsDec.zero {l : List UInt8} {p : Int} (h : IsDec l p 0) : l = [] ∧ p = 0 := by
  by_cases hl : l = []
  · exact ⟨hl, h.nil hl⟩
  · exfalso
    have h1 := num_pos h.dig h.hd hl
    have h2 := Nat.mul_pos h1 (pow_pos10 (p - l.length + 10000).toNat)
    have := h.val
    omega
theorem pow_split {a b x y : Nat} (hx : ¬ x % 10 = 0) (hlt : a < b) (h : x * 10 ^ a = y * 10 ^ b) : False := by
  obtain ⟨c, rfl⟩ : ∃ c, b = a + (c + 1) := ⟨b - a - 1, by omega⟩
  rw [Nat.pow_add, Nat.mul_comm (10 ^ a), ← Nat.mul_assoc] at h
  have := Nat.eq_of_mul_eq_mul_right (pow_pos10 a) h
  rw [Nat.pow_succ, ← Nat.mul_assoc] at this
  omega
/-- A number of units is one decimal in form alone. -/
theorem IsDec.uniq {l l' : List UInt8} {p p' : Int} {v : Nat} (h : IsDec l p v) (k : IsDec l' p' v) : l = l' ∧ p = p' := by
  by_cases hv : v = 0
  · subst hv
    obtain ⟨rfl, rfl⟩ := h.zero
    obtain ⟨rfl, rfl⟩ := k.zero
    exact ⟨rfl, rfl⟩
  have hl := h.ne hv
  have kl := k.ne hv
  have e := h.val.trans k.val.symm
  have hx := num_last h.dig h.lst hl
  have kx := num_last k.dig k.lst kl
  have eab : (p - l.length + 10000).toNat = (p' - l'.length + 10000).toNat := by
    rcases Nat.lt_trichotomy (p - l.length + 10000).toNat (p' - l'.length + 10000).toNat with hh | hh | hh
    · exact (pow_split hx hh e).elim
    · exact hh
    · exact (pow_split kx hh e.symm).elim
  rw [eab] at e
  have en := Nat.eq_of_mul_eq_mul_right (pow_pos10 _) e
  have hlow := h.low
  have klow := k.low
  have elen : l.length = l'.length := by
    obtain ⟨x, a, rfl⟩ := List.exists_cons_of_ne_nil hl
    obtain ⟨y, b, rfl⟩ := List.exists_cons_of_ne_nil kl
    have h1 := num_head h.dig h.hd
    have h2 := num_lt _ h.dig
    have k1 := num_head k.dig k.hd
    have k2 := num_lt _ k.dig
    rw [en] at h1 h2
    simp only [List.length_cons] at h2 k2 ⊢
    have a1 : a.length < b.length + 1 := (Nat.pow_lt_pow_iff_right (by decide)).1 (Nat.lt_of_le_of_lt h1 k2)
    have a2 : b.length < a.length + 1 := (Nat.pow_lt_pow_iff_right (by decide)).1 (Nat.lt_of_le_of_lt k1 h2)
    omega
  exact ⟨num_inj l l' h.dig k.dig elen en, by omega⟩

/-- Without the noughts at the front; without those at the end. -/
def ltr (l : List UInt8) : List UInt8 := Lib.trimLeftB l 48
def rtr (l : List UInt8) : List UInt8 := Lib.trimRightB l 48
theorem ltr_split (l : List UInt8) : ∃ k, l = List.replicate k 48 ++ ltr l ∧ hd (ltr l) = true := by
  induction l with
  | nil => exact ⟨0, rfl, rfl⟩
  | cons x l ih =>
    obtain ⟨k, h1, h2⟩ := ih
    by_cases hx : x = 48
    · subst hx
      have e : ltr (48 :: l) = ltr l := by simp [ltr, Lib.trimLeftB]
      refine ⟨k + 1, ?_, by rw [e]; exact h2⟩
      rw [e, List.replicate_succ, List.cons_append, ← h1]
    · have e : ltr (x :: l) = x :: l := by simp [ltr, Lib.trimLeftB, hx]
      exact ⟨0, by rw [e]; rfl, by rw [e]; simp [hd, hx]⟩
theorem rtr_split (l : List UInt8) : ∃ k, l = rtr l ++ List.replicate k 48 ∧ lst (rtr l) = true := by
  obtain ⟨k, h1, h2⟩ := ltr_split l.reverse
  have e : rtr l = (ltr l.reverse).reverse := rfl
  refine ⟨k, ?_, ?_⟩
  · have := congrArg List.reverse h1
    rw [List.reverse_reverse, List.reverse_append, List.reverse_replicate] at this
    rw [e]; exact this
  · rw [e]; unfold lst; rw [List.getLast?_reverse]; exact h2
theorem num_zeros (k : Nat) : num (List.replicate k 48) = 0 := by
  induction k with
  | zero => rfl
  | succ k ih => rw [List.replicate_succ, num_cons, ih]; simp [dg]
theorem hd_app {a b : List UInt8} (h : hd (a ++ b) = true) (hne : a ≠ []) : hd a = true := by
  cases a with
  | nil => exact absurd rfl hne
  | cons x a => exact h
/-- In form: what a row of digits at a point is. -/
theorem form_dec (l : List UInt8) (p : Int) (h : allD l = true) (hp : -10000 ≤ p - l.length) :
    IsDec (rtr (ltr l)) (if rtr (ltr l) = [] then 0 else p - ((l.length : Int) - (ltr l).length)) (V l p) := by
  obtain ⟨k, h1, h2⟩ := ltr_split l
  obtain ⟨j, h3, h4⟩ := rtr_split (ltr l)
  have hv : num l = num (ltr l) := by
    have : num l = num (List.replicate k 48 ++ ltr l) := congrArg num h1
    rw [this, num_append, num_zeros]; simp
  have hv2 : num (ltr l) = num (rtr (ltr l)) * 10 ^ j := by
    have : num (ltr l) = num (rtr (ltr l) ++ List.replicate j 48) := congrArg num h3
    rw [this, num_append, num_zeros, List.length_replicate]; simp
  have hlen : l.length = k + (ltr l).length := by
    have := congrArg List.length h1
    rw [List.length_append, List.length_replicate] at this; exact this
  have hlen2 : (ltr l).length = (rtr (ltr l)).length + j := by
    have := congrArg List.length h3
    rw [List.length_append, List.length_replicate] at this; exact this
  have hd1 : allD (ltr l) = true := by
    rw [h1, allD_append, Bool.and_eq_true] at h; exact h.2
  have hd2 : allD (rtr (ltr l)) = true := by
    rw [h3, allD_append, Bool.and_eq_true] at hd1; exact hd1.1
  generalize rtr (ltr l) = r at *
  by_cases hr : r = []
  · subst hr
    refine ⟨rfl, rfl, rfl, fun _ => by simp, by simp, ?_⟩
    unfold V
    rw [hv, hv2, num_nil, Nat.zero_mul, Nat.zero_mul, Nat.zero_mul]
  · rw [if_neg hr]
    refine ⟨hd2, hd_app (by rw [← h3]; exact h2) hr, h4, fun e => absurd e hr, by omega, ?_⟩
    unfold V
    rw [hv, hv2, Nat.mul_assoc, ← Nat.pow_add]
    congr 2
    omega

/-- The digits of a number, none of 0. -/
def dgsF : Nat → Nat → List UInt8
  | 0, _ => []
  | f + 1, n => if n = 0 then [] else dgsF f (n / 10) ++ [db (n % 10)]
def dgs (n : Nat) : List UInt8 := dgsF n n
theorem dgsF_num : ∀ (f n : Nat), n ≤ f → num (dgsF f n) = n ∧ allD (dgsF f n) = true
  | 0, n, h => by
    have : n = 0 := by omega
    subst this; exact ⟨rfl, rfl⟩
  | f + 1, n, h => by
    unfold dgsF
    split
    · rename_i h0; subst h0; exact ⟨rfl, rfl⟩
    · obtain ⟨h1, h2⟩ := dgsF_num f (n / 10) (by omega)
      rw [num_snoc, h1, dg_db (by omega), allD_append, h2, allD_cons, isD_db (by omega)]
      exact ⟨by omega, rfl⟩
/-- The decimal in form of a number of units. -/
def oL (v : Nat) : List UInt8 := rtr (ltr (dgs v))
def oP (v : Nat) : Int := if rtr (ltr (dgs v)) = [] then 0 else ((dgs v).length : Int) - 10000 - (((dgs v).length : Int) - (ltr (dgs v)).length)
theorem o_dec (v : Nat) : IsDec (oL v) (oP v) v := by
  obtain ⟨h1, h2⟩ := dgsF_num v v (Nat.le_refl _)
  have h := form_dec (dgs v) ((dgs v).length - 10000) h2 (by omega)
  have e : V (dgs v) ((dgs v).length - 10000) = v := by
    unfold V
    rw [show ((dgs v).length : Int) - 10000 - (dgs v).length + 10000 = 0 by omega]
    show num (dgsF v v) * 10 ^ 0 = v
    rw [h1]; simp
  rw [e] at h
  exact h
theorem o_of {l : List UInt8} {p : Int} {v : Nat} (h : IsDec l p v) : l = oL v ∧ p = oP v := h.uniq (o_dec v)
/-- The same as a text. -/
def oS (v : Nat) : ByteArray := ⟨(oL v).toArray⟩
theorem oS_size (v : Nat) : (oS v).size = (oL v).length := by simp [oS, ByteArray.size]
/-- What Norm makes of a decimal. -/
theorem form_o (l : List UInt8) (p : Int) (h : allD l = true) (hp : -10000 ≤ p - l.length) : rtr (ltr l) = oL (V l p) ∧ (if rtr (ltr l) = [] then 0 else p - ((l.length : Int) - (ltr l).length)) = oP (V l p) := o_of (form_dec l p h hp)
/-- Bounds. -/
theorem IsDec.lt {l : List UInt8} {p : Int} {v : Nat} (h : IsDec l p v) {q : Nat} (hq : p + 10000 ≤ q) : v < 10 ^ q := by
  rw [← h.val]
  have h1 := num_lt l h.dig
  have h2 := Nat.mul_lt_mul_of_pos_right h1 (pow_pos10 (p - l.length + 10000).toNat)
  rw [← Nat.pow_add] at h2
  have hlow := h.low
  exact Nat.lt_of_lt_of_le h2 (Nat.pow_le_pow_right (by decide) (by omega))
theorem IsDec.ge {l : List UInt8} {p : Int} {v : Nat} (h : IsDec l p v) (hv : v ≠ 0) {q : Nat} (hq : (q : Int) + 1 ≤ p + 10000) : 10 ^ q ≤ v := by
  obtain ⟨x, a, rfl⟩ := List.exists_cons_of_ne_nil (h.ne hv)
  rw [← h.val]
  have h1 := num_head h.dig h.hd
  have h2 := Nat.mul_le_mul_right (10 ^ (p - (x :: a).length + 10000).toNat) h1
  rw [← Nat.pow_add] at h2
  have hlow := h.low
  simp only [List.length_cons] at h2 hlow ⊢
  exact Nat.le_trans (Nat.pow_le_pow_right (by decide) (by omega)) h2
theorem oP_le {v : Nat} {q : Nat} (h : v < 10 ^ q) : oP v ≤ (q : Int) - 10000 ∨ v = 0 := by
  by_cases hv : v = 0
  · exact .inr hv
  · refine .inl ?_
    rcases Int.lt_or_le ((q : Int) - 10000) (oP v) with hh | hh
    · have := (o_dec v).ge hv (q := q) (by omega)
      omega
    · exact hh
theorem oP_gt {v : Nat} {q : Nat} (h : 10 ^ q ≤ v) : (q : Int) - 10000 < oP v := by
  rcases Int.lt_or_le ((q : Int) - 10000) (oP v) with hh | hh
  · exact hh
  · have := (o_dec v).lt (q := q) (by omega)
    omega
theorem o_zero : oL 0 = [] ∧ oP 0 = 0 := (o_dec 0).zero
theorem oL_nil {v : Nat} : oL v = [] ↔ v = 0 := by
  constructor
  · intro h
    have := (o_dec v).val
    rw [h] at this
    simp [num] at this; exact this.symm
  · rintro rfl; exact o_zero.1
end Go.Proofs.YthbabhbfpcfenabDoor
