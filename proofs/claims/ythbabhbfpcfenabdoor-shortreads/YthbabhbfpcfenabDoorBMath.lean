/- Plain mathematics of layer 4: the order of decimals, their digits place by place, sums, what is near. -/
import Derived.Test.YthbabhbfpcfenabDoorBNum
import Derived.Lib.Bytealg
namespace Go.Proofs.YthbabhbfpcfenabDoor
open Go.RowKit

/-- The order of two numbers, as -1, 0, 1. -/
def ordN (a b : Nat) : Int := if a < b then -1 else if b < a then 1 else 0
theorem ordN_lt {a b : Nat} (h : a < b) : ordN a b = -1 := if_pos h
theorem ordN_gt {a b : Nat} (h : b < a) : ordN a b = 1 := by unfold ordN; rw [if_neg (by omega), if_pos h]
theorem ordN_eq {a b : Nat} (h : a = b) : ordN a b = 0 := by unfold ordN; rw [if_neg (by omega), if_neg (by omega)]
theorem ordN_add (c a b : Nat) : ordN (c + a) (c + b) = ordN a b := by
  unfold ordN
  by_cases h1 : a < b
  · rw [if_pos h1, if_pos (by omega)]
  · by_cases h2 : b < a
    · rw [if_neg h1, if_pos h2, if_neg (by omega), if_pos (by omega)]
    · rw [if_neg h1, if_neg h2, if_neg (by omega), if_neg (by omega)]
theorem lst_tail {x : UInt8} {l : List UInt8} (h : lst (x :: l) = true) : lst l = true := by
  cases l with
  | nil => rfl
  | cons y l =>
    unfold lst at h ⊢
    rw [List.getLast?_cons_cons] at h; exact h
theorem num_scaled {x : UInt8} {l : List UInt8} {M : Nat} (h : l.length ≤ M) : num (x :: l) * 10 ^ (M + 1 - (l.length + 1)) = dg x * 10 ^ M + num l * 10 ^ (M - l.length) := by
  rw [num_cons, Nat.add_sub_add_right, Nat.add_mul, Nat.mul_assoc, ← Nat.pow_add, show l.length + (M - l.length) = M by omega]
theorem num_scaled_lt {l : List UInt8} {M : Nat} (hd : allD l = true) (h : l.length ≤ M) : num l * 10 ^ (M - l.length) < 10 ^ M := by
  have h1 := Nat.mul_lt_mul_of_pos_right (num_lt l hd) (pow_pos10 (M - l.length))
  rw [← Nat.pow_add, show l.length + (M - l.length) = M by omega] at h1
  exact h1
theorem lt_dg {x y : UInt8} (hx : isD x = true) (hy : isD y = true) : x < y ↔ dg x < dg y := by
  have a := (isD_iff x).1 hx
  have b := (isD_iff y).1 hy
  rw [UInt8.lt_iff_toNat_lt]
  unfold dg; omega
theorem cmp_lex : ∀ (a b : List UInt8) (M : Nat), allD a = true → allD b = true → lst a = true → lst b = true → a.length ≤ M → b.length ≤ M →
    Lib.compareBytes a b = ordN (num a * 10 ^ (M - a.length)) (num b * 10 ^ (M - b.length))
  | [], [], M, _, _, _, _, _, _ => by rw [ordN_eq (by rfl)]; rfl
  | [], y :: b, M, _, hb, _, lb, _, _ => by
    rw [ordN_lt]; · rfl
    rw [num_nil, Nat.zero_mul]
    exact Nat.mul_pos (num_pos' hb lb (by simp)) (pow_pos10 _)
  | x :: a, [], M, ha, _, la, _, _, _ => by
    rw [ordN_gt]; · rfl
    rw [num_nil, Nat.zero_mul]
    exact Nat.mul_pos (num_pos' ha la (by simp)) (pow_pos10 _)
  | x :: a, y :: b, M, ha, hb, la, lb, hM, kM => by
    simp only [List.length_cons] at hM kM
    obtain ⟨m, rfl⟩ : ∃ m, M = m + 1 := ⟨M - 1, by omega⟩
    rw [allD_cons, Bool.and_eq_true] at ha hb
    simp only [List.length_cons]
    rw [num_scaled (by omega), num_scaled (by omega)]
    have u1 := num_scaled_lt ha.2 (show a.length ≤ m by omega)
    have u2 := num_scaled_lt hb.2 (show b.length ≤ m by omega)
    have ih := cmp_lex a b m ha.2 hb.2 (lst_tail la) (lst_tail lb) (by omega) (by omega)
    unfold Lib.compareBytes
    by_cases h1 : x < y
    · rw [if_pos h1, ordN_lt]
      have := (lt_dg ha.1 hb.1).1 h1
      have h3 : (dg x + 1) * 10 ^ m ≤ dg y * 10 ^ m := Nat.mul_le_mul_right _ this
      rw [Nat.succ_mul] at h3
      generalize dg x * 10 ^ m = A at *
      generalize dg y * 10 ^ m = B at *
      omega
    · by_cases h2 : y < x
      · rw [if_neg h1, if_pos h2, ordN_gt]
        have := (lt_dg hb.1 ha.1).1 h2
        have h3 : (dg y + 1) * 10 ^ m ≤ dg x * 10 ^ m := Nat.mul_le_mul_right _ this
        rw [Nat.succ_mul] at h3
        generalize dg x * 10 ^ m = A at *
        generalize dg y * 10 ^ m = B at *
        omega
      · rw [if_neg h1, if_neg h2, ih]
        have e : dg x = dg y := by
          have k1 : ¬ dg x < dg y := fun h => h1 ((lt_dg ha.1 hb.1).2 h)
          have k2 : ¬ dg y < dg x := fun h => h2 ((lt_dg hb.1 ha.1).2 h)
          omega
        rw [e, ordN_add]
theorem cmp_same {a b : List UInt8} {p : Int} {v u : Nat} (h : IsDec a p v) (k : IsDec b p u) : Lib.compareBytes a b = ordN v u := by
  have hl := h.low
  have kl := k.low
  have e1 : (p - a.length + 10000).toNat = (p + 10000).toNat - a.length := by omega
  have e2 : (p - b.length + 10000).toNat = (p + 10000).toNat - b.length := by omega
  rw [← h.val, ← k.val, e1, e2]
  exact cmp_lex a b _ h.dig k.dig h.lst k.lst (by omega) (by omega)
theorem cmp_points {v u : Nat} (hv : oL v ≠ []) (hu : oL u ≠ []) (h : oP v < oP u) : v < u := by
  have kv : v ≠ 0 := fun e => hv (oL_nil.2 e)
  have ku : u ≠ 0 := fun e => hu (oL_nil.2 e)
  have hl := (o_dec v).low
  have a := (o_dec v).lt (q := (oP v + 10000).toNat) (by omega)
  have b := (o_dec u).ge ku (q := (oP v + 10000).toNat) (by omega)
  omega
theorem cmp_rest {v u : Nat} (h : oL v = [] ∨ oL u = [] ∨ oP v = oP u) : Lib.compareBytes (oL v) (oL u) = ordN v u := by
  rcases h with h | h | h
  · have := oL_nil.1 h
    subst this
    rw [h]
    by_cases hu : u = 0
    · subst hu; rw [h, ordN_eq rfl]; rfl
    · rw [ordN_lt (by omega)]
      obtain ⟨y, b, e⟩ := List.exists_cons_of_ne_nil (fun e => hu (oL_nil.1 e))
      rw [e]; rfl
  · have := oL_nil.1 h
    subst this
    rw [h]
    by_cases hu : v = 0
    · subst hu; rw [h, ordN_eq rfl]; rfl
    · rw [ordN_gt (by omega)]
      obtain ⟨y, b, e⟩ := List.exists_cons_of_ne_nil (fun e => hu (oL_nil.1 e))
      rw [e]; rfl
  · exact cmp_same (o_dec v) (h ▸ o_dec u)

/-- The digit at a place. -/
theorem num_at (l : List UInt8) (h : allD l = true) (i : Nat) (hi : i < l.length) : num l / 10 ^ (l.length - 1 - i) % 10 = dg (l[i]'hi) := by
  have e : l = l.take i ++ (l[i]'hi) :: l.drop (i + 1) := by simp
  have hr : (l.drop (i + 1)).length = l.length - 1 - i := by rw [List.length_drop]; omega
  have hd : allD (l.drop (i + 1)) = true := allD_of fun x hx => allD_mem h (List.mem_of_mem_drop hx)
  have hx := dg_lt (allD_mem h (List.getElem_mem hi))
  have hn : num l = (num (l.take i) * 10 + dg (l[i]'hi)) * 10 ^ (l.length - 1 - i) + num (l.drop (i + 1)) := by
    conv => lhs; rw [e]
    rw [num_append, num_cons, List.length_cons, hr, Nat.pow_succ, Nat.add_mul, Nat.mul_assoc, Nat.mul_comm 10, Nat.add_assoc]
  have hlt := num_lt _ hd
  rw [hr] at hlt
  rw [hn, Nat.mul_comm, Nat.mul_add_div (pow_pos10 _), Nat.div_eq_of_lt hlt]
  omega
/-- The digit of a decimal in form at a place. -/
def dgi (l : List UInt8) (p q : Int) : Nat := if p - 1 - q < 0 then 0 else if (p - 1 - q).toNat < l.length then dg (l.getD (p - 1 - q).toNat 0) else 0
theorem dgi_eq {l : List UInt8} {p : Int} {v : Nat} (h : IsDec l p v) (q : Int) (Q : Nat) (hQ : q + 10000 = Q) : dgi l p q = v / 10 ^ Q % 10 := by
  have hlow := h.low
  unfold dgi
  by_cases h1 : p - 1 - q < 0
  · rw [if_pos h1]
    have := h.lt (q := Q) (by omega)
    rw [Nat.div_eq_of_lt this]
  · rw [if_neg h1]
    by_cases h2 : (p - 1 - q).toNat < l.length
    · rw [if_pos h2, List.getD_eq_getElem?_getD, List.getElem?_eq_getElem h2, Option.getD_some, ← num_at l h.dig _ h2, ← h.val]
      have e : Q = (l.length - 1 - (p - 1 - q).toNat) + (p - l.length + 10000).toNat := by omega
      rw [e, Nat.pow_add, Nat.mul_div_mul_right _ _ (pow_pos10 _)]
    · rw [if_neg h2, ← h.val]
      have e : (p - l.length + 10000).toNat = ((p - l.length + 10000).toNat - Q - 1) + 1 + Q := by omega
      rw [e, Nat.pow_add, ← Nat.mul_assoc, Nat.mul_div_cancel _ (pow_pos10 _), Nat.pow_succ, ← Nat.mul_assoc]
      omega
/-- Place by place: the higher digits are the same. -/
theorem place_lt {a b P : Nat} (h : a / 10 ^ (P + 1) = b / 10 ^ (P + 1)) (hx : a / 10 ^ P % 10 < b / 10 ^ P % 10) : a < b := by
  rw [Nat.pow_succ, ← Nat.div_div_eq_div_mul, ← Nat.div_div_eq_div_mul] at h
  rcases Nat.lt_or_ge a b with hh | hh
  · exact hh
  · have := Nat.div_le_div_right (c := 10 ^ P) hh
    omega
theorem place_eq {a b P : Nat} (h : a / 10 ^ (P + 1) = b / 10 ^ (P + 1)) (hx : a / 10 ^ P % 10 = b / 10 ^ P % 10) : a / 10 ^ P = b / 10 ^ P := by
  rw [Nat.pow_succ, ← Nat.div_div_eq_div_mul, ← Nat.div_div_eq_div_mul] at h
  omega
theorem place_end {a b E : Nat} (ha : a % 10 ^ E = 0) (hb : b % 10 ^ E = 0) (h : a / 10 ^ E = b / 10 ^ E) : a = b := by
  rw [← Nat.div_add_mod a (10 ^ E), ← Nat.div_add_mod b (10 ^ E), ha, hb, h]
theorem IsDec.mod {l : List UInt8} {p : Int} {v : Nat} (h : IsDec l p v) {E : Nat} (hE : (E : Int) ≤ p - l.length + 10000) : v % 10 ^ E = 0 := by
  rw [← h.val]
  have e : (p - l.length + 10000).toNat = ((p - l.length + 10000).toNat - E) + E := by omega
  rw [e, Nat.pow_add, ← Nat.mul_assoc]
  exact Nat.mul_mod_left _ _

/-- A row of digits, the lowest first. -/
def le : List Nat → Nat
  | [] => 0
  | d :: l => d + 10 * le l
theorem le_snoc (l : List Nat) (d : Nat) : le (l ++ [d]) = le l + d * 10 ^ l.length := by
  induction l with
  | nil => simp [le]
  | cons x l ih =>
    rw [List.cons_append, le, ih, le, List.length_cons, Nat.pow_succ, Nat.mul_add, Nat.mul_left_comm 10 d, Nat.mul_comm 10 (10 ^ l.length), Nat.add_assoc]
/-- The text of such a row. -/
def txt (l : List Nat) : List UInt8 := (l.map db).reverse
theorem txt_len (l : List Nat) : (txt l).length = l.length := by simp [txt]
theorem txt_cons (d : Nat) (l : List Nat) : txt (d :: l) = txt l ++ [db d] := by simp [txt]
theorem txt_num : ∀ (l : List Nat), (∀ d ∈ l, d < 10) → num (txt l) = le l ∧ allD (txt l) = true
  | [], _ => ⟨rfl, rfl⟩
  | d :: l, h => by
    obtain ⟨h1, h2⟩ := txt_num l fun x hx => h x (by simp [hx])
    have hd := h d (by simp)
    rw [txt_cons, num_snoc, h1, dg_db hd, le, allD_append, h2, allD_cons, isD_db hd]
    exact ⟨by omega, rfl⟩
/-- A sum, place by place. -/
structure SumAt (a b E P : Nat) (ds : List Nat) (c : Nat) : Prop where
  len : ds.length + E = P
  dig : ∀ d ∈ ds, d < 10
  car : c ≤ 1
  val : le ds * 10 ^ E + c * 10 ^ P = a % 10 ^ P + b % 10 ^ P
theorem sum_start {a b E : Nat} (ha : a % 10 ^ E = 0) (hb : b % 10 ^ E = 0) : SumAt a b E E [] 0 :=
  ⟨by simp, (fun d h => by cases h), by omega, by rw [ha, hb]; simp [le]⟩
theorem sum_step {a b E P : Nat} {ds : List Nat} {c : Nat} (h : SumAt a b E P ds c) :
    SumAt a b E (P + 1) (ds ++ [(c + (a / 10 ^ P % 10 + b / 10 ^ P % 10)) % 10]) ((c + (a / 10 ^ P % 10 + b / 10 ^ P % 10)) / 10) := by
  have h0 := h.val
  have hc := h.car
  have x9 : a / 10 ^ P % 10 < 10 := Nat.mod_lt _ (by decide)
  have y9 : b / 10 ^ P % 10 < 10 := Nat.mod_lt _ (by decide)
  refine ⟨by have := h.len; simp; omega, ?_, by omega, ?_⟩
  · intro d hd
    rcases List.mem_append.1 hd with hd | hd
    · exact h.dig d hd
    · simp at hd; omega
  · rw [le_snoc, Nat.add_mul, Nat.mul_assoc, ← Nat.pow_add, h.len, Nat.pow_succ, Nat.mod_mul, Nat.mod_mul]
    generalize a / 10 ^ P % 10 = x at *
    generalize b / 10 ^ P % 10 = y at *
    have e : (c + (x + y)) % 10 * 10 ^ P + (c + (x + y)) / 10 * (10 ^ P * 10) = (c + (x + y)) * 10 ^ P := by
      rw [Nat.mul_comm (10 ^ P) 10, ← Nat.mul_assoc, ← Nat.add_mul]
      congr 1; omega
    rw [Nat.add_assoc, e, Nat.add_mul, Nat.add_mul, Nat.mul_comm (10 ^ P) x, Nat.mul_comm (10 ^ P) y]
    omega
theorem sum_end {a b E T : Nat} {ds : List Nat} {c : Nat} (h : SumAt a b E (T + 1) ds c) (ha : a < 10 ^ T) (hb : b < 10 ^ T) : le ds * 10 ^ E = a + b := by
  have h0 := h.val
  have hp : (10 : Nat) ^ (T + 1) = 10 ^ T * 10 := Nat.pow_succ ..
  rw [Nat.mod_eq_of_lt (by omega), Nat.mod_eq_of_lt (by omega)] at h0
  have hc : c = 0 := by
    rcases Nat.eq_zero_or_pos c with h | h
    · exact h
    · have : 1 * 10 ^ (T + 1) ≤ c * 10 ^ (T + 1) := Nat.mul_le_mul_right _ h
      omega
  subst hc; omega
theorem sum_dec {a b E T : Nat} {ds : List Nat} {c : Nat} {p : Int} (h : SumAt a b E (T + 1) ds c) (ha : a < 10 ^ T) (hb : b < 10 ^ T) (hp : p + 10000 = (T : Int) + 1) : V (txt ds) p = a + b := by
  have hl := h.len
  unfold V
  rw [(txt_num ds h.dig).1, txt_len, show (p - ds.length + 10000).toNat = E by omega]
  exact sum_end h ha hb

/-- The nearest number of whole units of a place; of two as near the even one. -/
def near (v P : Nat) : Nat := if 2 * (v % 10 ^ P) < 10 ^ P ∨ (2 * (v % 10 ^ P) = 10 ^ P ∧ v / 10 ^ P % 2 = 0) then v / 10 ^ P * 10 ^ P else v / 10 ^ P * 10 ^ P + 10 ^ P
theorem near_whole {v P : Nat} (h : v % 10 ^ P = 0) : near v P = v := by
  unfold near
  have := pow_pos10 P
  rw [if_pos (.inl (by rw [h]; omega))]
  have := Nat.div_add_mod v (10 ^ P)
  rw [h, Nat.mul_comm] at this
  omega
theorem near_small {v P : Nat} (h2 : 2 * v < 10 ^ (P + 1)) (P1 : Nat) (hP : P1 = P + 1) : near v P1 = 0 := by
  subst hP
  have e : v < 10 ^ (P + 1) := by rw [Nat.pow_succ]; omega
  unfold near
  rw [Nat.mod_eq_of_lt e, if_pos (.inl h2), Nat.div_eq_of_lt e]; simp
/-- What stands ahead of a place. -/
theorem take_V {l : List UInt8} {p : Int} {v : Nat} (h : IsDec l p v) (n : Nat) (hn : n ≤ l.length) (P : Nat) (hP : p - n + 10000 = P) : V (l.take n) p = v / 10 ^ P * 10 ^ P := by
  have hlow := h.low
  have hlen : (l.take n).length = n := by rw [List.length_take]; omega
  unfold V
  rw [hlen, show (p - n + 10000).toNat = P by omega, ← h.val]
  congr 1
  have e : l = l.take n ++ l.drop n := (List.take_append_drop n l).symm
  have hd : allD (l.drop n) = true := allD_of fun x hx => allD_mem h.dig (List.mem_of_mem_drop hx)
  have hlt := num_lt _ hd
  have hdl : (l.drop n).length = l.length - n := List.length_drop
  have hn' : num l = num (l.take n) * 10 ^ (l.length - n) + num (l.drop n) := by
    conv => lhs; rw [e]
    rw [num_append, hdl]
  rw [hdl] at hlt
  have eP : P = (l.length - n) + (p - l.length + 10000).toNat := by omega
  rw [eP, Nat.pow_add, Nat.mul_div_mul_right _ _ (pow_pos10 _), hn', Nat.mul_comm (num (l.take n)), Nat.mul_add_div (pow_pos10 _), Nat.div_eq_of_lt hlt, Nat.add_zero]
/-- Is what stands behind the n-th digit more than half a unit, or half a unit at an odd digit? -/
def ups (l : List UInt8) (n : Nat) : Bool :=
  if l.getD n 0 ≠ 53 then decide (53 < (l.getD n 0).toNat) else if n + 1 < l.length then true else decide (0 < n) && decide (dg (l.getD (n - 1) 0) % 2 = 1)
theorem ups_near {l : List UInt8} {p : Int} {v : Nat} (h : IsDec l p v) (n : Nat) (hn : n < l.length) (P : Nat) (hP : p - n + 10000 = P) :
    near v P = if ups l n = true then v / 10 ^ P * 10 ^ P + 10 ^ P else v / 10 ^ P * 10 ^ P := by
  have hlow := h.low
  obtain ⟨x, hxe⟩ : ∃ x, x = l[n] := ⟨_, rfl⟩
  have hx : isD x = true := by rw [hxe]; exact allD_mem h.dig (List.getElem_mem hn)
  have hxD := (isD_iff _).1 hx
  have hgx : l.getD n 0 = x := by rw [List.getD_eq_getElem?_getD, List.getElem?_eq_getElem hn, Option.getD_some, hxe]
  have e : l = l.take n ++ x :: l.drop (n + 1) := by rw [hxe]; simp
  have hr : (l.drop (n + 1)).length = l.length - 1 - n := by rw [List.length_drop]; omega
  have hd : allD (l.drop (n + 1)) = true := allD_of fun x hx => allD_mem h.dig (List.mem_of_mem_drop hx)
  have hlt := num_lt _ hd
  rw [hr] at hlt
  have hnum : num l = num (l.take n) * 10 ^ (l.length - n) + (dg x * 10 ^ (l.length - 1 - n) + num (l.drop (n + 1))) := by
    conv => lhs; rw [e]
    rw [num_append, num_cons, List.length_cons, hr, show l.length - 1 - n + 1 = l.length - n by omega]
  have ep : (10 : Nat) ^ (l.length - n) = 10 * 10 ^ (l.length - 1 - n) := by
    rw [show l.length - n = l.length - 1 - n + 1 by omega, Nat.pow_succ, Nat.mul_comm]
  have hdx := dg_lt hx
  have hx9 : dg x * 10 ^ (l.length - 1 - n) ≤ 9 * 10 ^ (l.length - 1 - n) := Nat.mul_le_mul_right _ (by omega)
  have hlow9 : dg x * 10 ^ (l.length - 1 - n) + num (l.drop (n + 1)) < 10 ^ (l.length - n) := by omega
  have eP : P = (l.length - n) + (p - l.length + 10000).toNat := by omega
  have hmod : v % 10 ^ P = (dg x * 10 ^ (l.length - 1 - n) + num (l.drop (n + 1))) * 10 ^ (p - l.length + 10000).toNat := by
    rw [← h.val, eP, Nat.pow_add, Nat.mul_mod_mul_right, hnum, Nat.mul_comm (num (l.take n)), Nat.mul_add_mod, Nat.mod_eq_of_lt hlow9]
  have hdiv : v / 10 ^ P = num (l.take n) := by
    rw [← h.val, eP, Nat.pow_add, Nat.mul_div_mul_right _ _ (pow_pos10 _), hnum, Nat.mul_comm (num (l.take n)), Nat.mul_add_div (pow_pos10 _), Nat.div_eq_of_lt hlow9, Nat.add_zero]
  have hpow : (10 : Nat) ^ P = 10 * 10 ^ (l.length - 1 - n) * 10 ^ (p - l.length + 10000).toNat := by rw [eP, Nat.pow_add, ep]
  have hK := pow_pos10 (p - l.length + 10000).toNat
  have hm := pow_pos10 (l.length - 1 - n)
  have hpar : ∀ k, n = k + 1 → num (l.take n) % 2 = dg (l.getD (n - 1) 0) % 2 := by
    intro k hk
    subst hk
    have hk' : k < l.length := by omega
    have : l.take (k + 1) = l.take k ++ [l[k]'hk'] := List.take_succ_eq_append_getElem hk'
    rw [this, num_snoc, Nat.add_sub_cancel, List.getD_eq_getElem?_getD, List.getElem?_eq_getElem hk', Option.getD_some]
    omega
  have hpos : l.drop (n + 1) ≠ [] → 0 < num (l.drop (n + 1)) := by
    intro hne
    refine num_pos' hd ?_ hne
    have hl := h.lst
    rw [e] at hl
    unfold lst at hl ⊢
    rw [List.getLast?_append, List.getLast?_cons] at hl
    cases hh : (l.drop (n + 1)).getLast? with
    | none => rfl
    | some y => rw [hh] at hl; simpa using hl
  unfold near
  rw [hmod, hdiv]
  generalize hA : (10 : Nat) ^ (p - l.length + 10000).toNat = A at *
  generalize hB : (10 : Nat) ^ (l.length - 1 - n) = B at *
  generalize hN : num (l.drop (n + 1)) = N at *
  generalize hT : num (l.take n) = T at *
  have k1 : 2 * ((dg x * B + N) * A) < 10 ^ P ↔ 2 * (dg x * B + N) < 10 * B := by
    rw [hpow, ← Nat.mul_assoc]
    exact Nat.mul_lt_mul_right hK
  have k2 : 2 * ((dg x * B + N) * A) = 10 ^ P ↔ 2 * (dg x * B + N) = 10 * B := by
    rw [hpow, ← Nat.mul_assoc]
    exact Nat.mul_left_inj (by omega)
  simp only [k1, k2]
  unfold ups
  rw [hgx]
  by_cases h5 : x = 53
  · have hd5 : dg x = 5 := by rw [h5]; rfl
    rw [hd5, h5]
    simp only [ne_eq, not_true_eq_false, if_false]
    by_cases hlen : n + 1 < l.length
    · have hNp := hpos (by intro e; have := congrArg List.length e; rw [hr] at this; simp at this; omega)
      rw [if_pos hlen, if_neg (by omega), if_pos rfl]
    · have hN0 : N = 0 := by
        rw [← hN, List.drop_eq_nil_of_le (by omega)]; rfl
      rw [if_neg hlen]
      subst hN0
      rcases Nat.eq_zero_or_pos n with hn0 | hn0
      · subst hn0
        have hT0 : T = 0 := by rw [← hT]; rfl
        rw [if_pos (.inr ⟨by omega, by rw [hT0]⟩)]
        simp
      · obtain ⟨k, hk⟩ : ∃ k, n = k + 1 := ⟨n - 1, by omega⟩
        have hpk := hpar k hk
        by_cases hodd : dg (l.getD (n - 1) 0) % 2 = 1
        · rw [if_neg (by omega)]
          simp only [hn0, decide_true, hodd, Bool.and_self, if_true]
        · rw [if_pos (.inr ⟨by omega, by omega⟩)]
          simp only [hn0, decide_true, hodd, decide_false, Bool.and_false, Bool.false_eq_true, if_false]
  · have hd5 : dg x ≠ 5 := by
      intro e0
      apply h5
      apply UInt8.toNat_inj.1
      show x.toNat = 53
      unfold dg at e0; omega
    rw [if_pos h5]
    have hdd : dg x = x.toNat - 48 := rfl
    by_cases hgt : 53 < x.toNat
    · have h6 : 6 * B ≤ dg x * B := Nat.mul_le_mul_right _ (by omega)
      rw [if_neg (by omega), if_pos (by simpa using hgt)]
    · have h4 : dg x * B ≤ 4 * B := Nat.mul_le_mul_right _ (by omega)
      rw [if_pos (by omega), if_neg (by simpa using hgt)]
end Go.Proofs.YthbabhbfpcfenabDoor
