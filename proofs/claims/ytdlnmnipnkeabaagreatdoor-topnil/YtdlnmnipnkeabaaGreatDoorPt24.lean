/- BNum, BMath, BWalkA: these texts in one. -/
import Derived.Test.YtdlnmnipnkeabaaGreatDoorShelfF
import Derived.WalkKit
import Derived.Lib.TrimByte
import Derived.Lib.Bytealg
import Derived.Test.YtdlnmnipnkeabaaGreatDoorPt1
import Derived.Test.YtdlnmnipnkeabaaGreatDoorShelf
import Derived.Deep.LoopGhost
import Derived.Handy
namespace Go.Proofs.YtdlnmnipnkeabaaGreatDoor
open Go.RowKit
def dgD (x : UInt8) : Nat := x.toNat - 48
def isD (x : UInt8) : Bool := decide (48 ≤ x.toNat) && decide (x.toNat ≤ 57)
def allD (l : List UInt8) : Bool := l.all isD
def db (d : Nat) : UInt8 := UInt8.ofNat (48 + d)
def num (l : List UInt8) : Nat := l.foldl (fun n x => n * 10 + dgD x) 0
theorem isD_iff (x : UInt8) : isD x = true ↔ 48 ≤ x.toNat ∧ x.toNat ≤ 57 := by simp [isD]
theorem dg_lt {x : UInt8} (h : isD x = true) : dgD x < 10 := by have := (isD_iff x).1 h; unfold dgD; omega
theorem db_nat {d : Nat} (h : d < 10) : (db d).toNat = 48 + d := by unfold db; simp; omega
theorem dg_db {d : Nat} (h : d < 10) : dgD (db d) = d := by unfold dgD; rw [db_nat h]; omega
theorem isD_db {d : Nat} (h : d < 10) : isD (db d) = true := by rw [isD_iff, db_nat h]; omega
theorem dg_inj {x y : UInt8} (hx : isD x = true) (hy : isD y = true) (h : dgD x = dgD y) : x = y := by
 have a := (isD_iff x).1 hx
 have b := (isD_iff y).1 hy
 unfold dgD at h
 exact UInt8.toNat_inj.1 (by omega)
theorem allD_cons (x : UInt8) (l : List UInt8) : allD (x :: l) = (isD x && allD l) := rfl
theorem allD_append (a b : List UInt8) : allD (a ++ b) = (allD a && allD b) := by simp [allD]
theorem allD_mem {l : List UInt8} (h : allD l = true) {x : UInt8} (hx : x ∈ l) : isD x = true := by
 unfold allD at h; exact List.all_eq_true.1 h x hx
theorem allD_of {l : List UInt8} (h : ∀ x ∈ l, isD x = true) : allD l = true := List.all_eq_true.2 h
theorem num_foldl (l : List UInt8) : ∀ n, l.foldl (fun n x => n * 10 + dgD x) n = n * 10 ^ l.length + num l := by
 induction l with
 | nil => intro n; simp [num]
 | cons x l ih =>
   intro n
   have h1 := ih (n * 10 + dgD x)
   have h2 := ih (0 * 10 + dgD x)
   simp only [List.foldl_cons, num, List.length_cons, Nat.pow_succ] at h1 h2 ⊢
   rw [h1, h2, Nat.add_mul, Nat.zero_mul, Nat.zero_add, Nat.add_assoc]
   congr 1
   rw [Nat.mul_assoc, Nat.mul_comm 10]
theorem num_nil : num [] = 0 := rfl
theorem num_append (a b : List UInt8) : num (a ++ b) = num a * 10 ^ b.length + num b := by
 show (a ++ b).foldl _ 0 = _
 rw [List.foldl_append, num_foldl b]; rfl
theorem num_cons (x : UInt8) (l : List UInt8) : num (x :: l) = dgD x * 10 ^ l.length + num l := by
 have := num_append [x] l
 rw [List.singleton_append] at this
 rw [this]; simp [num]
theorem num_snoc (a : List UInt8) (x : UInt8) : num (a ++ [x]) = num a * 10 + dgD x := by
 rw [num_append]; simp [num]
theorem pow_pos10 (n : Nat) : 0 < 10 ^ n := Nat.pow_pos (by decide)
theorem num_lt : ∀ (l : List UInt8), allD l = true → num l < 10 ^ l.length
 | [], _ => by simp [num]
 | x :: l, h => by
   rw [allD_cons, Bool.and_eq_true] at h
   have h1 := num_lt l h.2
   have h2 := dg_lt h.1
   rw [num_cons, List.length_cons, Nat.pow_succ]
   have h3 : dgD x * 10 ^ l.length ≤ 9 * 10 ^ l.length := Nat.mul_le_mul_right _ (by omega)
   omega
theorem div_parts {a b r s m : Nat} (hr : r < m) (hs : s < m) (h : a * m + r = b * m + s) : a = b ∧ r = s := by
 have hm : 0 < m := by omega
 have h1 : (a * m + r) / m = a := by rw [Nat.mul_comm, Nat.mul_add_div hm, Nat.div_eq_of_lt hr, Nat.add_zero]
 have h2 : (b * m + s) / m = b := by rw [Nat.mul_comm, Nat.mul_add_div hm, Nat.div_eq_of_lt hs, Nat.add_zero]
 have : a = b := by rw [← h1, ← h2, h]
 subst this
 exact ⟨rfl, by omega⟩
theorem num_inj : ∀ (a b : List UInt8), allD a = true → allD b = true → a.length = b.length → num a = num b → a = b
 | [], [], _, _, _, _ => rfl
 | [], _ :: _, _, _, h, _ => by simp at h
 | _ :: _, [], _, _, h, _ => by simp at h
 | x :: a, y :: b, ha, hb, hl, hn => by
   rw [allD_cons, Bool.and_eq_true] at ha hb
   simp only [List.length_cons, Nat.add_right_cancel_iff] at hl
   rw [num_cons, num_cons, hl] at hn
   obtain ⟨h1, h2⟩ := div_parts (by rw [← hl]; exact num_lt a ha.2) (num_lt b hb.2) hn
   rw [dg_inj ha.1 hb.1 h1, num_inj a b ha.2 hb.2 hl h2]
def hdB (l : List UInt8) : Bool := l.head? != some 48
def lst (l : List UInt8) : Bool := l.getLast? != some 48
theorem dg_ne {x : UInt8} (hx : isD x = true) (h : x ≠ 48) : 0 < dgD x := by
 have a := (isD_iff x).1 hx
 have : x.toNat ≠ 48 := fun e => h (UInt8.toNat_inj.1 (by rw [e]; rfl))
 unfold dgD; omega
theorem num_head {x : UInt8} {l : List UInt8} (h : allD (x :: l) = true) (hh : hdB (x :: l) = true) : 10 ^ l.length ≤ num (x :: l) := by
 rw [allD_cons, Bool.and_eq_true] at h
 have : x ≠ 48 := by intro e; subst e; simp [hdB] at hh
 have := dg_ne h.1 this
 rw [num_cons]
 have : 1 * 10 ^ l.length ≤ dgD x * 10 ^ l.length := Nat.mul_le_mul_right _ this
 omega
theorem num_pos {l : List UInt8} (h : allD l = true) (hh : hdB l = true) (hne : l ≠ []) : 0 < num l := by
 cases l with
 | nil => exact absurd rfl hne
 | cons x l =>
   have := num_head h hh
   have := pow_pos10 l.length
   omega
theorem num_last {l : List UInt8} (h : allD l = true) (hh : lst l = true) (hne : l ≠ []) : ¬ num l % 10 = 0 := by
 obtain ⟨a, x, rfl⟩ : ∃ a x, l = a ++ [x] := ⟨l.dropLast, l.getLast hne, (List.dropLast_concat_getLast hne).symm⟩
 rw [allD_append, Bool.and_eq_true] at h
 have hx : isD x = true := allD_mem h.2 (by simp)
 have : x ≠ 48 := by intro e; subst e; simp [lst] at hh
 have := dg_ne hx this
 have := dg_lt hx
 rw [num_snoc]; omega
theorem num_pos' {l : List UInt8} (h : allD l = true) (hh : lst l = true) (hne : l ≠ []) : 0 < num l := by
 have := num_last h hh hne
 omega
structure IsDec (l : List UInt8) (p : Int) (v : Nat) : Prop where
 dig : allD l = true
 hdB : hdB l = true
 lst : lst l = true
 nil : l = [] → p = 0
 low : -10000 ≤ p - l.length
 val : num l * 10 ^ (p - l.length + 10000).toNat = v
def V (l : List UInt8) (p : Int) : Nat := num l * 10 ^ (p - l.length + 10000).toNat
theorem IsDec.ne {l : List UInt8} {p : Int} {v : Nat} (h : IsDec l p v) (hv : v ≠ 0) : l ≠ [] := by
 intro e; subst e
 have := h.val
 simp [num] at this; omega
theorem IsDec.zero {l : List UInt8} {p : Int} (h : IsDec l p 0) : l = [] ∧ p = 0 := by
 by_cases hl : l = []
 ·exact ⟨hl, h.nil hl⟩
 ·exfalso
  have h1 := num_pos h.dig h.hdB hl
  have h2 := Nat.mul_pos h1 (pow_pos10 (p - l.length + 10000).toNat)
  have := h.val
  omega
theorem pow_split {a b x y : Nat} (hx : ¬ x % 10 = 0) (hlt : a < b) (h : x * 10 ^ a = y * 10 ^ b) : False := by
 obtain ⟨c, rfl⟩ : ∃ c, b = a + (c + 1) := ⟨b - a - 1, by omega⟩
 rw [Nat.pow_add, Nat.mul_comm (10 ^ a), ← Nat.mul_assoc] at h
 have := Nat.eq_of_mul_eq_mul_right (pow_pos10 a) h
 rw [Nat.pow_succ, ← Nat.mul_assoc] at this
 omega
theorem IsDec.uniq {l l' : List UInt8} {p p' : Int} {v : Nat} (h : IsDec l p v) (k : IsDec l' p' v) : l = l' ∧ p = p' := by
 by_cases hv : v = 0
 ·subst hv
  obtain ⟨rfl, rfl⟩ := h.zero
  obtain ⟨rfl, rfl⟩ := k.zero
  exact ⟨rfl, rfl⟩
 have hl := h.ne hv
 have kl := k.ne hv
 have e := h.val.trans k.val.symm
 have hx := num_last h.dig h.lst hl
 have kx := num_last k.dig k.lst kl
 have eab : (p - l.length + 10000).toNat = (p' - l'.length + 10000).toNat := by
  rcases Nat.lt_trichotomy (p - l.length + 10000).toNat (p' - l'.length + 10000).toNat with hh | hh | hh
  ·exact (pow_split hx hh e).elim
  ·exact hh
  ·exact (pow_split kx hh e.symm).elim
 rw [eab] at e
 have en := Nat.eq_of_mul_eq_mul_right (pow_pos10 _) e
 have hlow := h.low
 have klow := k.low
 have elen : l.length = l'.length := by
  obtain ⟨x, a, rfl⟩ := List.exists_cons_of_ne_nil hl
  obtain ⟨y, b, rfl⟩ := List.exists_cons_of_ne_nil kl
  have h1 := num_head h.dig h.hdB
  have h2 := num_lt _ h.dig
  have k1 := num_head k.dig k.hdB
  have k2 := num_lt _ k.dig
  rw [en] at h1 h2
  simp only [List.length_cons] at h2 k2 ⊢
  have a1 : a.length < b.length + 1 := (Nat.pow_lt_pow_iff_right (by decide)).1 (Nat.lt_of_le_of_lt h1 k2)
  have a2 : b.length < a.length + 1 := (Nat.pow_lt_pow_iff_right (by decide)).1 (Nat.lt_of_le_of_lt k1 h2)
  omega
 exact ⟨num_inj l l' h.dig k.dig elen en, by omega⟩
def ltr (l : List UInt8) : List UInt8 := Lib.trimLeftB l 48
def rtr (l : List UInt8) : List UInt8 := Lib.trimRightB l 48
theorem ltr_split (l : List UInt8) : ∃ k, l = List.replicate k 48 ++ ltr l ∧ hdB (ltr l) = true := by
 induction l with
 | nil => exact ⟨0, rfl, rfl⟩
 | cons x l ih =>
   obtain ⟨k, h1, h2⟩ := ih
   by_cases hx : x = 48
   ·subst hx
    have e : ltr (48 :: l) = ltr l := by simp [ltr, Lib.trimLeftB]
    refine ⟨k + 1, ?_, by rw [e]; exact h2⟩
    rw [e, List.replicate_succ, List.cons_append, ← h1]
   ·have e : ltr (x :: l) = x :: l := by simp [ltr, Lib.trimLeftB, hx]
    exact ⟨0, by rw [e]; rfl, by rw [e]; simp [hdB, hx]⟩
theorem rtr_split (l : List UInt8) : ∃ k, l = rtr l ++ List.replicate k 48 ∧ lst (rtr l) = true := by
 obtain ⟨k, h1, h2⟩ := ltr_split l.reverse
 have e : rtr l = (ltr l.reverse).reverse := rfl
 refine ⟨k, ?_, ?_⟩
 ·have := congrArg List.reverse h1
  rw [List.reverse_reverse, List.reverse_append, List.reverse_replicate] at this
  rw [e]; exact this
 ·rw [e]; unfold lst; rw [List.getLast?_reverse]; exact h2
theorem num_zeros (k : Nat) : num (List.replicate k 48) = 0 := by
 induction k with
 | zero => rfl
 | succ k ih => rw [List.replicate_succ, num_cons, ih]; simp [dgD]
theorem hd_app {a b : List UInt8} (h : hdB (a ++ b) = true) (hne : a ≠ []) : hdB a = true := by
 cases a with
 | nil => exact absurd rfl hne
 | cons x a => exact h
theorem form_dec (l : List UInt8) (p : Int) (h : allD l = true) (hp : -10000 ≤ p - l.length) :
  IsDec (rtr (ltr l)) (if rtr (ltr l) = [] then 0 else p - ((l.length : Int) - (ltr l).length)) (V l p) := by
 obtain ⟨k, h1, h2⟩ := ltr_split l
 obtain ⟨j, h3, h4⟩ := rtr_split (ltr l)
 have hv : num l = num (ltr l) := by
  have : num l = num (List.replicate k 48 ++ ltr l) := congrArg num h1
  rw [this, num_append, num_zeros]; simp
 have hv2 : num (ltr l) = num (rtr (ltr l)) * 10 ^ j := by
  have : num (ltr l) = num (rtr (ltr l) ++ List.replicate j 48) := congrArg num h3
  rw [this, num_append, num_zeros, List.length_replicate]; simp
 have hlen : l.length = k + (ltr l).length := by
  have := congrArg List.length h1
  rw [List.length_append, List.length_replicate] at this; exact this
 have hlen2 : (ltr l).length = (rtr (ltr l)).length + j := by
  have := congrArg List.length h3
  rw [List.length_append, List.length_replicate] at this; exact this
 have hd1 : allD (ltr l) = true := by
  rw [h1, allD_append, Bool.and_eq_true] at h; exact h.2
 have hd2 : allD (rtr (ltr l)) = true := by
  rw [h3, allD_append, Bool.and_eq_true] at hd1; exact hd1.1
 generalize rtr (ltr l) = r at *
 by_cases hr : r = []
 ·subst hr
  refine ⟨rfl, rfl, rfl, fun _ => by simp, by simp, ?_⟩
  unfold V
  rw [hv, hv2, num_nil, Nat.zero_mul, Nat.zero_mul, Nat.zero_mul]
 ·rw [if_neg hr]
  refine ⟨hd2, hd_app (by rw [← h3]; exact h2) hr, h4, fun e => absurd e hr, by omega, ?_⟩
  unfold V
  rw [hv, hv2, Nat.mul_assoc, ← Nat.pow_add]
  congr 2
  omega
def dgsF : Nat → Nat → List UInt8
 | 0, _ => []
 | f + 1, n => if n = 0 then [] else dgsF f (n / 10) ++ [db (n % 10)]
def dgsB (n : Nat) : List UInt8 := dgsF n n
theorem dgsF_num : ∀ (f n : Nat), n ≤ f → num (dgsF f n) = n ∧ allD (dgsF f n) = true
 | 0, n, h => by
   have : n = 0 := by omega
   subst this; exact ⟨rfl, rfl⟩
 | f + 1, n, h => by
   unfold dgsF
   split
   ·rename_i h0; subst h0; exact ⟨rfl, rfl⟩
   ·obtain ⟨h1, h2⟩ := dgsF_num f (n / 10) (by omega)
    rw [num_snoc, h1, dg_db (by omega), allD_append, h2, allD_cons, isD_db (by omega)]
    exact ⟨by omega, rfl⟩
def oL (v : Nat) : List UInt8 := rtr (ltr (dgsB v))
def oP (v : Nat) : Int := if rtr (ltr (dgsB v)) = [] then 0 else ((dgsB v).length : Int) - 10000 - (((dgsB v).length : Int) - (ltr (dgsB v)).length)
theorem o_dec (v : Nat) : IsDec (oL v) (oP v) v := by
 obtain ⟨h1, h2⟩ := dgsF_num v v (Nat.le_refl _)
 have h := form_dec (dgsB v) ((dgsB v).length - 10000) h2 (by omega)
 have e : V (dgsB v) ((dgsB v).length - 10000) = v := by
  unfold V
  rw [show ((dgsB v).length : Int) - 10000 - (dgsB v).length + 10000 = 0 by omega]
  show num (dgsF v v) * 10 ^ 0 = v
  rw [h1]; simp
 rw [e] at h
 exact h
theorem o_of {l : List UInt8} {p : Int} {v : Nat} (h : IsDec l p v) : l = oL v ∧ p = oP v := h.uniq (o_dec v)
def oS (v : Nat) : ByteArray := ⟨(oL v).toArray⟩
theorem oS_size (v : Nat) : (oS v).size = (oL v).length := by simp [oS, ByteArray.size]
theorem form_o (l : List UInt8) (p : Int) (h : allD l = true) (hp : -10000 ≤ p - l.length) : rtr (ltr l) = oL (V l p) ∧ (if rtr (ltr l) = [] then 0 else p - ((l.length : Int) - (ltr l).length)) = oP (V l p) := o_of (form_dec l p h hp)
theorem IsDec.lt {l : List UInt8} {p : Int} {v : Nat} (h : IsDec l p v) {q : Nat} (hq : p + 10000 ≤ q) : v < 10 ^ q := by
 rw [← h.val]
 have h1 := num_lt l h.dig
 have h2 := Nat.mul_lt_mul_of_pos_right h1 (pow_pos10 (p - l.length + 10000).toNat)
 rw [← Nat.pow_add] at h2
 have hlow := h.low
 exact Nat.lt_of_lt_of_le h2 (Nat.pow_le_pow_right (by decide) (by omega))
theorem IsDec.ge {l : List UInt8} {p : Int} {v : Nat} (h : IsDec l p v) (hv : v ≠ 0) {q : Nat} (hq : (q : Int) + 1 ≤ p + 10000) : 10 ^ q ≤ v := by
 obtain ⟨x, a, rfl⟩ := List.exists_cons_of_ne_nil (h.ne hv)
 rw [← h.val]
 have h1 := num_head h.dig h.hdB
 have h2 := Nat.mul_le_mul_right (10 ^ (p - (x :: a).length + 10000).toNat) h1
 rw [← Nat.pow_add] at h2
 have hlow := h.low
 simp only [List.length_cons] at h2 hlow ⊢
 exact Nat.le_trans (Nat.pow_le_pow_right (by decide) (by omega)) h2
theorem oP_le {v : Nat} {q : Nat} (h : v < 10 ^ q) : oP v ≤ (q : Int) - 10000 ∨ v = 0 := by
 by_cases hv : v = 0
 ·exact .inr hv
 ·refine .inl ?_
  rcases Int.lt_or_le ((q : Int) - 10000) (oP v) with hh | hh
  ·have := (o_dec v).ge hv (q := q) (by omega)
   omega
  ·exact hh
theorem oP_gt {v : Nat} {q : Nat} (h : 10 ^ q ≤ v) : (q : Int) - 10000 < oP v := by
 rcases Int.lt_or_le ((q : Int) - 10000) (oP v) with hh | hh
 ·exact hh
 ·have := (o_dec v).lt (q := q) (by omega)
  omega
theorem o_zero : oL 0 = [] ∧ oP 0 = 0 := (o_dec 0).zero
theorem oL_nil {v : Nat} : oL v = [] ↔ v = 0 := by
 constructor
 ·intro h
  have := (o_dec v).val
  rw [h] at this
  simp [num] at this; exact this.symm
 ·rintro rfl; exact o_zero.1
end Go.Proofs.YtdlnmnipnkeabaaGreatDoor
namespace Go.Proofs.YtdlnmnipnkeabaaGreatDoor
open Go.RowKit
theorem IsDec.mod {l : List UInt8} {p : Int} {v : Nat} (h : IsDec l p v) {E : Nat} (hE : (E : Int) ≤ p - l.length + 10000) : v % 10 ^ E = 0 := by
 rw [← h.val]
 have e : (p - l.length + 10000).toNat = ((p - l.length + 10000).toNat - E) + E := by omega
 rw [e, Nat.pow_add, ← Nat.mul_assoc]
 exact Nat.mul_mod_left _ _
def le : List Nat → Nat
 | [] => 0
 | d :: l => d + 10 * le l
def near (v P : Nat) : Nat := if 2 * (v % 10 ^ P) < 10 ^ P ∨ (2 * (v % 10 ^ P) = 10 ^ P ∧ v / 10 ^ P % 2 = 0) then v / 10 ^ P * 10 ^ P else v / 10 ^ P * 10 ^ P + 10 ^ P
theorem take_V {l : List UInt8} {p : Int} {v : Nat} (h : IsDec l p v) (n : Nat) (hn : n ≤ l.length) (P : Nat) (hP : p - n + 10000 = P) : V (l.take n) p = v / 10 ^ P * 10 ^ P := by
 have hlow := h.low
 have hlen : (l.take n).length = n := by rw [List.length_take]; omega
 unfold V
 rw [hlen, show (p - n + 10000).toNat = P by omega, ← h.val]
 congr 1
 have e : l = l.take n ++ l.drop n := (List.take_append_drop n l).symm
 have hdB : allD (l.drop n) = true := allD_of fun x hx => allD_mem h.dig (List.mem_of_mem_drop hx)
 have hlt := num_lt _ hdB
 have hdl : (l.drop n).length = l.length - n := List.length_drop
 have hn' : num l = num (l.take n) * 10 ^ (l.length - n) + num (l.drop n) := by
  conv => lhs; rw [e]
  rw [num_append, hdl]
 rw [hdl] at hlt
 have eP : P = (l.length - n) + (p - l.length + 10000).toNat := by omega
 rw [eP, Nat.pow_add, Nat.mul_div_mul_right _ _ (pow_pos10 _), hn', Nat.mul_comm (num (l.take n)), Nat.mul_add_div (pow_pos10 _), Nat.div_eq_of_lt hlt, Nat.add_zero]
def ups (l : List UInt8) (n : Nat) : Bool :=
 if l.getD n 0 ≠ 53 then decide (53 < (l.getD n 0).toNat) else if n + 1 < l.length then true else decide (0 < n) && decide (dgD (l.getD (n - 1) 0) % 2 = 1)
theorem ups_near {l : List UInt8} {p : Int} {v : Nat} (h : IsDec l p v) (n : Nat) (hn : n < l.length) (P : Nat) (hP : p - n + 10000 = P) :
  near v P = if ups l n = true then v / 10 ^ P * 10 ^ P + 10 ^ P else v / 10 ^ P * 10 ^ P := by
 have hlow := h.low
 obtain ⟨x, hxe⟩ : ∃ x, x = l[n] := ⟨_, rfl⟩
 have hx : isD x = true := by rw [hxe]; exact allD_mem h.dig (List.getElem_mem hn)
 have hxD := (isD_iff _).1 hx
 have hgx : l.getD n 0 = x := by rw [List.getD_eq_getElem?_getD, List.getElem?_eq_getElem hn, Option.getD_some, hxe]
 have e : l = l.take n ++ x :: l.drop (n + 1) := by rw [hxe]; simp
 have hr : (l.drop (n + 1)).length = l.length - 1 - n := by rw [List.length_drop]; omega
 have hdB : allD (l.drop (n + 1)) = true := allD_of fun x hx => allD_mem h.dig (List.mem_of_mem_drop hx)
 have hlt := num_lt _ hdB
 rw [hr] at hlt
 have hnum : num l = num (l.take n) * 10 ^ (l.length - n) + (dgD x * 10 ^ (l.length - 1 - n) + num (l.drop (n + 1))) := by
  conv => lhs; rw [e]
  rw [num_append, num_cons, List.length_cons, hr, show l.length - 1 - n + 1 = l.length - n by omega]
 have ep : (10 : Nat) ^ (l.length - n) = 10 * 10 ^ (l.length - 1 - n) := by
  rw [show l.length - n = l.length - 1 - n + 1 by omega, Nat.pow_succ, Nat.mul_comm]
 have hdx := dg_lt hx
 have hx9 : dgD x * 10 ^ (l.length - 1 - n) ≤ 9 * 10 ^ (l.length - 1 - n) := Nat.mul_le_mul_right _ (by omega)
 have hlow9 : dgD x * 10 ^ (l.length - 1 - n) + num (l.drop (n + 1)) < 10 ^ (l.length - n) := by omega
 have eP : P = (l.length - n) + (p - l.length + 10000).toNat := by omega
 have hmod : v % 10 ^ P = (dgD x * 10 ^ (l.length - 1 - n) + num (l.drop (n + 1))) * 10 ^ (p - l.length + 10000).toNat := by
  rw [← h.val, eP, Nat.pow_add, Nat.mul_mod_mul_right, hnum, Nat.mul_comm (num (l.take n)), Nat.mul_add_mod, Nat.mod_eq_of_lt hlow9]
 have hdiv : v / 10 ^ P = num (l.take n) := by
  rw [← h.val, eP, Nat.pow_add, Nat.mul_div_mul_right _ _ (pow_pos10 _), hnum, Nat.mul_comm (num (l.take n)), Nat.mul_add_div (pow_pos10 _), Nat.div_eq_of_lt hlow9, Nat.add_zero]
 have hpow : (10 : Nat) ^ P = 10 * 10 ^ (l.length - 1 - n) * 10 ^ (p - l.length + 10000).toNat := by rw [eP, Nat.pow_add, ep]
 have hK := pow_pos10 (p - l.length + 10000).toNat
 have hm := pow_pos10 (l.length - 1 - n)
 have hpar : ∀ k, n = k + 1 → num (l.take n) % 2 = dgD (l.getD (n - 1) 0) % 2 := by
  intro k hk
  subst hk
  have hk' : k < l.length := by omega
  have : l.take (k + 1) = l.take k ++ [l[k]'hk'] := List.take_succ_eq_append_getElem hk'
  rw [this, num_snoc, Nat.add_sub_cancel, List.getD_eq_getElem?_getD, List.getElem?_eq_getElem hk', Option.getD_some]
  omega
 have hpos : l.drop (n + 1) ≠ [] → 0 < num (l.drop (n + 1)) := by
  intro hne
  refine num_pos' hdB ?_ hne
  have hl := h.lst
  rw [e] at hl
  unfold lst at hl ⊢
  rw [List.getLast?_append, List.getLast?_cons] at hl
  cases hh : (l.drop (n + 1)).getLast? with
  | none => rfl
  | some y => rw [hh] at hl; simpa using hl
 unfold near
 rw [hmod, hdiv]
 generalize hA : (10 : Nat) ^ (p - l.length + 10000).toNat = A at *
 generalize hB : (10 : Nat) ^ (l.length - 1 - n) = B at *
 generalize hN : num (l.drop (n + 1)) = N at *
 generalize hT : num (l.take n) = T at *
 have k1 : 2 * ((dgD x * B + N) * A) < 10 ^ P ↔ 2 * (dgD x * B + N) < 10 * B := by
  rw [hpow, ← Nat.mul_assoc]
  exact Nat.mul_lt_mul_right hK
 have k2 : 2 * ((dgD x * B + N) * A) = 10 ^ P ↔ 2 * (dgD x * B + N) = 10 * B := by
  rw [hpow, ← Nat.mul_assoc]
  exact Nat.mul_left_inj (by omega)
 simp only [k1, k2]
 unfold ups
 rw [hgx]
 by_cases h5 : x = 53
 ·have hd5 : dgD x = 5 := by rw [h5]; rfl
  rw [hd5, h5]
  simp only [ne_eq, not_true_eq_false, if_false]
  by_cases hlen : n + 1 < l.length
  ·have hNp := hpos (by intro e; have := congrArg List.length e; rw [hr] at this; simp at this; omega)
   rw [if_pos hlen, if_neg (by omega), if_pos rfl]
  ·have hN0 : N = 0 := by
    rw [← hN, List.drop_eq_nil_of_le (by omega)]; rfl
   rw [if_neg hlen]
   subst hN0
   rcases Nat.eq_zero_or_pos n with hn0 | hn0
   ·subst hn0
    have hT0 : T = 0 := by rw [← hT]; rfl
    rw [if_pos (.inr ⟨by omega, by rw [hT0]⟩)]
    simp
   ·obtain ⟨k, hk⟩ : ∃ k, n = k + 1 := ⟨n - 1, by omega⟩
    have hpk := hpar k hk
    by_cases hodd : dgD (l.getD (n - 1) 0) % 2 = 1
    ·rw [if_neg (by omega)]
     simp only [hn0, decide_true, hodd, Bool.and_self, if_true]
    ·rw [if_pos (.inr ⟨by omega, by omega⟩)]
     simp only [hn0, decide_true, hodd, decide_false, Bool.and_false, Bool.false_eq_true, if_false]
 ·have hd5 : dgD x ≠ 5 := by
   intro e0
   apply h5
   apply UInt8.toNat_inj.1
   show x.toNat = 53
   unfold dgD at e0; omega
  rw [if_pos h5]
  have hdd : dgD x = x.toNat - 48 := rfl
  by_cases hgt : 53 < x.toNat
  ·have h6 : 6 * B ≤ dgD x * B := Nat.mul_le_mul_right _ (by omega)
   rw [if_neg (by omega), if_pos (by simpa using hgt)]
  ·have h4 : dgD x * B ≤ 4 * B := Nat.mul_le_mul_right _ (by omega)
   rw [if_pos (by omega), if_neg (by simpa using hgt)]
end Go.Proofs.YtdlnmnipnkeabaaGreatDoor
namespace Go.Proofs.YtdlnmnipnkeabaaGreatDoor
open Go.RowKit
set_option linter.unusedVariables false
theorem allD_take (s : ByteArray) (k : Nat) (h : k < s.size) : allD (s.data.toList.take (k + 1)) = (allD (s.data.toList.take k) && isD (s[k]'h)) := by
 have hl : k < s.data.toList.length := by rw [list_len]; exact h
 have e : s.data.toList[k]'hl = s[k]'h := rfl
 rw [List.take_succ_eq_append_getElem hl, allD_append, allD_cons, e]
 simp [allD]
theorem allD_bad (s : ByteArray) (k : Nat) (h : k < s.size) (hb : isD (s[k]'h) = false) : allD s.data.toList = false := by
 have hl : k < s.data.toList.length := by rw [list_len]; exact h
 have hm : (s[k]'h) ∈ s.data.toList := List.getElem_mem hl
 cases ha : allD s.data.toList with
 | false => rfl
 | true => have := allD_mem ha hm; rw [hb] at this; cases this
set_option maxRecDepth 1000000 in
set_option maxHeartbeats 400000 in
theorem alldigits_any (s : ByteArray) (w : World) (hs : s.size ≤ 9223372036854775807) :
  Calls Tryz.prog 306 #[.string s] w fun e w' => e = .returned (.bool (allD s.data.toList)) ∧ w' = w := by
 go_enter Tryz.func306, Tryz.ntmps306
 go_wp2
 go_loopg [6] s.size (fun g i wr => wr = w ∧ ∃ k : Nat, i = .int .i64 k ∧ k + g = s.size ∧ Hid (allD (s.data.toList.take k) = true))
 case atStart => exact ⟨rfl, 0, rfl, Nat.zero_add _, rfl⟩
 case round =>
  obtain ⟨rfl, k, rfl, hkg, HA⟩ := hrel
  by_cases hlt : k < s.size
  ·have hltI : (k : Int) < s.size := by omega
   have hx : (s[k]'hlt).toNat < 256 := (s[k]'hlt).toNat_lt
   have HD : Hid (isD (s[k]'hlt) = true ↔ 48 ≤ (s[k]'hlt).toNat ∧ (s[k]'hlt).toNat ≤ 57) := isD_iff _
   have HN : Hid (allD (s.data.toList.take (k + 1)) = (allD (s.data.toList.take k) && isD (s[k]'hlt))) := allD_take s k hlt
   have HB : Hid (isD (s[k]'hlt) = false → allD s.data.toList = false) := allD_bad s k hlt
   by_cases h1 : (s[k]'hlt).toNat < 48
   ·have h1I : ((s[k]'hlt).toNat : Int) < 48 := by omega
    have HF : Hid (allD s.data.toList = false) := HB.out (by
     cases hh : isD (s[k]'hlt) with
     | false => rfl
     | true => have := HD.out.1 hh; omega)
    go_wp2
    go_ret
    rw [HF.out]
    exact ⟨rfl, rfl⟩
   ·have h1I : ¬ ((s[k]'hlt).toNat : Int) < 48 := by omega
    by_cases h2 : 57 < (s[k]'hlt).toNat
    ·have h2I : 57 < ((s[k]'hlt).toNat : Int) := by omega
     have HF : Hid (allD s.data.toList = false) := HB.out (by
      cases hh : isD (s[k]'hlt) with
      | false => rfl
      | true => have := HD.out.1 hh; omega)
     go_wp2
     go_ret
     rw [HF.out]
     exact ⟨rfl, rfl⟩
    ·have h2I : ¬ 57 < ((s[k]'hlt).toNat : Int) := by omega
     have HG : Hid (allD (s.data.toList.take (k + 1)) = true) := by
      show allD (s.data.toList.take (k + 1)) = true
      rw [HN.out, HA.out, HD.out.2 ⟨by omega, by omega⟩]; rfl
     go_wp2
     go_roundg (gk - 1)
     case measure => omega
     case rel => exact ⟨rfl, k + 1, by go_num, by omega, HG⟩
  ·have hltI : ¬ (k : Int) < s.size := by omega
   have HF : Hid (allD s.data.toList = true) := by
    show allD s.data.toList = true
    have := HA.out
    rw [List.take_of_length_le (by rw [list_len]; omega)] at this
    exact this
   go_wp2
   go_ret
   rw [HF.out]
   exact ⟨rfl, rfl⟩
theorem ltr_len (l : List UInt8) : (ltr l).length ≤ l.length := by
 obtain ⟨k, h1, -⟩ := ltr_split l
 have := congrArg List.length h1
 rw [List.length_append] at this; omega
theorem rtr_len (l : List UInt8) : (rtr l).length ≤ l.length := by
 obtain ⟨k, h1, -⟩ := rtr_split l
 have := congrArg List.length h1
 rw [List.length_append] at this; omega
theorem mk_size (l : List UInt8) : (⟨l.toArray⟩ : ByteArray).size = l.length := by simp [ByteArray.size]
theorem zero_S : oS 0 = ⟨#[]⟩ := by unfold oS; rw [o_zero.1]
set_option maxRecDepth 1000000 in
set_option maxHeartbeats 400000 in
theorem inform_any (s : ByteArray) (p : Int) (w : World) (hdB : allD s.data.toList = true) (hz : s.size ≤ 100000) (hp0 : -10000 ≤ p - s.size) (hp1 : p ≤ 100000) :
  Calls Tryz.prog 307 #[.agg #[.string s, .int .i64 p]] w fun e w' => e = .returned (.agg #[.string (oS (V s.data.toList p)), .int .i64 (oP (V s.data.toList p))]) ∧ Below w.heap.size w w' := by
 obtain ⟨f1, f2⟩ := form_o s.data.toList p hdB (by rw [list_len]; exact hp0)
 have hL : ∀ w, Calls Tryz.prog 324 #[.string s, .string ⟨#[48]⟩] w fun e w' => e = .returned (.string ⟨(ltr s.data.toList).toArray⟩) ∧ w' = w := fun w => Tryz.strings_TrimLeft_one s 48 (by decide) w
 have l1 := ltr_len s.data.toList
 have l2 := rtr_len (ltr s.data.toList)
 rw [list_len] at l1 f2
 have hR : ∀ w, Calls Tryz.prog 302 #[.string ⟨(ltr s.data.toList).toArray⟩, .string ⟨#[48]⟩] w fun e w' => e = .returned (.string ⟨(rtr (ltr s.data.toList)).toArray⟩) ∧ w' = w := fun w => Tryz.strings_TrimRight_one ⟨(ltr s.data.toList).toArray⟩ 48 (by decide) w (by rw [mk_size]; omega)
 have za := mk_size (ltr s.data.toList)
 have zr := mk_size (rtr (ltr s.data.toList))
 have HS : Hid ((⟨(rtr (ltr s.data.toList)).toArray⟩ : ByteArray) = oS (V s.data.toList p)) := by rw [f1]; rfl
 rw [← za] at f2 l1 l2
 rw [← zr] at l2
 have HP : Hid ((if (⟨(rtr (ltr s.data.toList)).toArray⟩ : ByteArray).size = 0 then 0 else p - ((s.size : Int) - (⟨(ltr s.data.toList).toArray⟩ : ByteArray).size)) = oP (V s.data.toList p)) := by
  show _ = _
  rw [← f2]
  by_cases h : rtr (ltr s.data.toList) = []
  ·rw [if_pos h, if_pos (by rw [zr, h]; rfl)]
  ·rw [if_neg h, if_neg (by rw [zr]; intro h0; exact h (List.eq_nil_of_length_eq_zero h0))]
 have HZ : Hid ((⟨(rtr (ltr s.data.toList)).toArray⟩ : ByteArray).size = 0 → (⟨(rtr (ltr s.data.toList)).toArray⟩ : ByteArray) = ⟨#[]⟩) := fun h => by
  rw [zr] at h; rw [List.eq_nil_of_length_eq_zero h]
 clear f1 f2 za zr
 generalize (⟨(rtr (ltr s.data.toList)).toArray⟩ : ByteArray) = r at *
 generalize (⟨(ltr s.data.toList).toArray⟩ : ByteArray) = a at *
 generalize V s.data.toList p = v at *
 clear hdB
 by_cases h0 : r.size = 0
 ·have hue : r.toList.isEmpty = true := empty_yes r h0
  have HP0 : Hid (oP v = 0) := by have := HP.out; rw [if_pos h0] at this; exact this.symm
  have HS0 : Hid (oS v = ⟨#[]⟩) := by show oS v = ⟨#[]⟩; rw [← HS.out]; exact HZ.out h0
  clear HP HS HZ
  go_enter Tryz.func307, Tryz.ntmps307
  go_wp2_with (first | (go_at_call 324; refine (hL _).mono ?_; rintro e w2 ⟨rfl, rfl⟩) | (go_at_call 302; refine (hR _).mono ?_; rintro e w2 ⟨rfl, rfl⟩))
  go_returns
  rw [HP0.out, HS0.out]
  refine ⟨rfl, ?_⟩
  go_grown
 ·have hue : r.toList.isEmpty = false := empty_no r (by omega)
  have HP0 : Hid (oP v = p - ((s.size : Int) - a.size)) := by have := HP.out; rw [if_neg h0] at this; exact this.symm
  clear HP HZ
  go_enter Tryz.func307, Tryz.ntmps307
  go_wp2_with (first | (go_at_call 324; refine (hL _).mono ?_; rintro e w2 ⟨rfl, rfl⟩) | (go_at_call 302; refine (hR _).mono ?_; rintro e w2 ⟨rfl, rfl⟩))
  go_returns
  rw [HP0.out, ← HS.out]
  refine ⟨rfl, ?_⟩
  go_grown
theorem keep {W w2 : World} (hb : Below W.heap.size W w2) {p : Addr} {v : Value} (h : W.cell? p = some v) : w2.cell? p = some v := by
 have hp : p.block < W.heap.size := by
  rcases Nat.lt_or_ge p.block W.heap.size with h1 | h1
  ·exact h1
  ·simp [World.cell?, Array.getElem?_eq_none h1] at h
 exact (hb.cell hp).trans h
theorem keepf {W w2 : World} (hb : Below W.heap.size W w2) {p : Addr} (hp : p.block < W.heap.size) (h : W.frozen? p = false) : w2.frozen? p = false := (hb.frozen hp).trans h
theorem bel_call {B : Nat} {w W w2 : World} (h0 : Below B w W) (hb : Below W.heap.size W w2) (hB : B ≤ w.heap.size) : Below B w w2 := h0.trans (hb.mono (Nat.le_trans hB h0.size))
theorem set_otherB {W : World} {B i j : Nat} {u v : Value} (hij : i ≠ j) (h : W.cell? ⟨B, j, none⟩ = some v) : (W.setCell ⟨B, i, none⟩ u).cell? ⟨B, j, none⟩ = some v := by
 rw [World.cell?_setCell_other _ _ _ _ (by intro e; have := congrArg Addr.off e; simp at this; exact hij this)]; exact h
theorem set_past {W : World} {B C i j : Nat} {u v : Value} (hij : B ≠ C) (h : W.cell? ⟨C, j, none⟩ = some v) : (W.setCell ⟨B, i, none⟩ u).cell? ⟨C, j, none⟩ = some v := by
 rw [World.cell?_setCell_other _ _ _ _ (by intro e; have := congrArg Addr.block e; simp at this; exact hij this)]; exact h
theorem put0 {W : World} {B : Nat} {u : Value} (h0 : W.cell? ⟨B, 0, none⟩ = some u) (x : Value) : (W.setCell ⟨B, 0, none⟩ x).cell? ⟨B, 0, none⟩ = some x := World.cell?_setCell_same _ _ _ h0
theorem put1 {W : World} {B : Nat} {v : Value} (h1 : W.cell? ⟨B, 1, none⟩ = some v) (x y : Value) : ((W.setCell ⟨B, 0, none⟩ x).setCell ⟨B, 1, none⟩ y).cell? ⟨B, 1, none⟩ = some y := World.cell?_setCell_same _ _ _ (set_otherB (by decide) h1)
def normE (s : ByteArray) (p : Int) : Int := if 2000 < s.size then 2 else if allD s.data.toList = false then 4 else if p < -5000 ∨ 5000 < p then 2 else 0
def normV (s : ByteArray) (p : Int) : Nat := if normE s p = 0 then V s.data.toList p else 0
theorem normE_big {s : ByteArray} {p : Int} (h : 2000 < s.size) : normE s p = 2 := if_pos h
theorem normE_form {s : ByteArray} {p : Int} (h : ¬ 2000 < s.size) (h2 : allD s.data.toList = false) : normE s p = 4 := by unfold normE; rw [if_neg h, if_pos h2]
theorem normE_pt {s : ByteArray} {p : Int} (h : ¬ 2000 < s.size) (h2 : allD s.data.toList = true) (h3 : p < -5000 ∨ 5000 < p) : normE s p = 2 := by unfold normE; rw [if_neg h, if_neg (by rw [h2]; simp), if_pos h3]
theorem normE_ok {s : ByteArray} {p : Int} (h : ¬ 2000 < s.size) (h2 : allD s.data.toList = true) (h3 : ¬ p < -5000) (h4 : ¬ 5000 < p) : normE s p = 0 := by unfold normE; rw [if_neg h, if_neg (by rw [h2]; simp), if_neg (by omega)]
theorem normE_zero {s : ByteArray} {p : Int} (h : normE s p = 0) : s.size ≤ 2000 ∧ allD s.data.toList = true ∧ -5000 ≤ p ∧ p ≤ 5000 := by
 unfold normE at h
 split at h
 ·cases h
 ·split at h
  ·cases h
  ·split at h
   ·cases h
   ·rename_i h1 h2 h3
    refine ⟨by omega, ?_, by omega, by omega⟩
    cases hh : allD s.data.toList with
    | true => rfl
    | false => exact absurd hh h2
theorem normV_err {s : ByteArray} {p : Int} {e : Int} (h : normE s p = e) (he : e ≠ 0) : normV s p = 0 := by unfold normV; rw [if_neg (by rw [h]; exact he)]
theorem normV_ok {s : ByteArray} {p : Int} (h : normE s p = 0) : normV s p = V s.data.toList p := if_pos h
set_option maxRecDepth 1000000 in
set_option maxHeartbeats 400000 in
theorem norm_any (s : ByteArray) (p : Int) (w : World) (hs : s.size ≤ 9223372036854775807) :
  Calls Tryz.prog 297 #[.agg #[.string s, .int .i64 p]] w fun e w' => e = .returned (.tuple #[.agg #[.string (oS (normV s p)), .int .i64 (oP (normV s p))], .int .i64 (normE s p)]) ∧ Below w.heap.size w w' := by
 have hA : ∀ w, Calls Tryz.prog 306 #[.string s] w fun e w' => e = .returned (.bool (allD s.data.toList)) ∧ w' = w := fun w => alldigits_any s w hs
 by_cases h1 : 2000 < s.size
 ·have h1I : 2000 < (s.size : Int) := by omega
  have HE : Hid (normE s p = 2) := normE_big h1
  have HV : Hid (normV s p = 0) := normV_err HE.out (by decide)
  clear hA
  go_enter Tryz.func297, Tryz.ntmps297
  go_wp2
  go_returns
  rw [HE.out, HV.out, zero_S, o_zero.2]
  exact ⟨rfl, by go_grown⟩
 have h1I : ¬ 2000 < (s.size : Int) := by omega
 cases h2 : allD s.data.toList with
 | false =>
   rw [h2] at hA
   have HE : Hid (normE s p = 4) := normE_form h1 h2
   have HV : Hid (normV s p = 0) := normV_err HE.out (by decide)
   clear h2
   go_enter Tryz.func297, Tryz.ntmps297
   go_wp2_with (go_at_call 306; refine (hA _).mono ?_; rintro e w2 ⟨rfl, rfl⟩)
   go_returns
   rw [HE.out, HV.out, zero_S, o_zero.2]
   exact ⟨rfl, by go_grown⟩
 | true =>
   rw [h2] at hA
   by_cases h3 : p < -5000
   ·have HE : Hid (normE s p = 2) := normE_pt h1 h2 (.inl h3)
    have HV : Hid (normV s p = 0) := normV_err HE.out (by decide)
    clear h2
    go_enter Tryz.func297, Tryz.ntmps297
    go_wp2_with (go_at_call 306; refine (hA _).mono ?_; rintro e w2 ⟨rfl, rfl⟩)
    go_returns
    rw [HE.out, HV.out, zero_S, o_zero.2]
    exact ⟨rfl, by go_grown⟩
   by_cases h4 : 5000 < p
   ·have HE : Hid (normE s p = 2) := normE_pt h1 h2 (.inr h4)
    have HV : Hid (normV s p = 0) := normV_err HE.out (by decide)
    clear h2
    go_enter Tryz.func297, Tryz.ntmps297
    go_wp2_with (go_at_call 306; refine (hA _).mono ?_; rintro e w2 ⟨rfl, rfl⟩)
    go_returns
    rw [HE.out, HV.out, zero_S, o_zero.2]
    exact ⟨rfl, by go_grown⟩
   have HE : Hid (normE s p = 0) := normE_ok h1 h2 h3 h4
   have HV : Hid (normV s p = V s.data.toList p) := normV_ok HE.out
   have hI : ∀ w, Calls Tryz.prog 307 #[.agg #[.string s, .int .i64 p]] w fun e w' => e = .returned (.agg #[.string (oS (V s.data.toList p)), .int .i64 (oP (V s.data.toList p))]) ∧ Below w.heap.size w w' := fun w => inform_any s p w h2 (by omega) (by omega) (by omega)
   clear h2
   generalize V s.data.toList p = v at *
   generalize hS : oS v = S at *
   generalize hP : oP v = P at *
   have HS : Hid (oS v = S) := hS
   have HP : Hid (oP v = P) := hP
   clear hS hP
   go_enter Tryz.func297, Tryz.ntmps297
   go_wp2_with (first | (go_at_call 306; refine (hA _).mono ?_; rintro e w2 ⟨rfl, rfl⟩) | (go_at_call 307; refine (hI _).mono ?_; rintro e w3 ⟨rfl, hb3⟩; have k0 := keep hb3 (p := ⟨w.heap.size + 1, 0, none⟩) (v := .string ⟨#[]⟩) (by simp); have k1 := keep hb3 (p := ⟨w.heap.size + 1, 1, none⟩) (v := .int .i64 0) (by simp); have k2 := keepf hb3 (p := ⟨w.heap.size + 1, 0, none⟩) (by simp) (by simp); have k3 := keepf hb3 (p := ⟨w.heap.size + 1, 1, none⟩) (by simp) (by simp)))
   refine bodyPost_ret (by simp [results, Tryz.results297, go_sem, put0 k0, put1 k1]; rfl) rfl ?_
   rw [HE.out, HV.out, HS.out, HP.out]
   refine ⟨rfl, ?_⟩
   have h0 := bel_call (B := w.heap.size) (w := w) (by go_grown) hb3 (Nat.le_refl _)
   exact (h0.setCell (by simp) _).setCell (by simp) _
set_option maxRecDepth 1000000 in
theorem lastplace_any (s : ByteArray) (p : Int) (w : World) (hs : s.size ≤ 100000) (hp0 : -100000 ≤ p) (hp1 : p ≤ 100000) :
  Calls Tryz.prog 325 #[.agg #[.string s, .int .i64 p]] w fun e w' => e = .returned (.int .i64 (p - s.size)) ∧ Below w.heap.size w w' := by
 go_enter Tryz.func325, Tryz.ntmps325
 go_wp2
 go_ret
 exact ⟨rfl, by go_grown⟩
end Go.Proofs.YtdlnmnipnkeabaaGreatDoor
