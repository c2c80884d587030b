/- BMath, BWalkA: these texts in one. -/
import Derived.Test.YtiagjheifblkiaaGreatDoorShelfF
import Derived.Test.YtiagjheifblkiaaGreatDoorPt19
import Derived.Lib.Bytealg
import Derived.Test.YtiagjheifblkiaaGreatDoorPt1
import Derived.Test.YtiagjheifblkiaaGreatDoorShelf
import Derived.Deep.LoopGhost
import Derived.Handy
namespace Go.Proofs.YtiagjheifblkiaaGreatDoor
open Go.RowKit
def ordN (a b : Nat) : Int := if a < b then -1 else if b < a then 1 else 0
theorem ordN_lt {a b : Nat} (h : a < b) : ordN a b = -1 := if_pos h
theorem ordN_gt {a b : Nat} (h : b < a) : ordN a b = 1 := by unfold ordN; rw [if_neg (by omega), if_pos h]
theorem ordN_eq {a b : Nat} (h : a = b) : ordN a b = 0 := by unfold ordN; rw [if_neg (by omega), if_neg (by omega)]
theorem ordN_add (c a b : Nat) : ordN (c + a) (c + b) = ordN a b := by
 unfold ordN
 by_cases h1 : a < b
 ·rw [if_pos h1, if_pos (by omega)]
 ·by_cases h2 : b < a
  ·rw [if_neg h1, if_pos h2, if_neg (by omega), if_pos (by omega)]
  ·rw [if_neg h1, if_neg h2, if_neg (by omega), if_neg (by omega)]
theorem lst_tail {x : UInt8} {l : List UInt8} (h : lst (x :: l) = true) : lst l = true := by
 cases l with
 | nil => rfl
 | cons y l =>
   unfold lst at h ⊢
   rw [List.getLast?_cons_cons] at h; exact h
theorem num_scaled {x : UInt8} {l : List UInt8} {M : Nat} (h : l.length ≤ M) : num (x :: l) * 10 ^ (M + 1 - (l.length + 1)) = dgD x * 10 ^ M + num l * 10 ^ (M - l.length) := by
 rw [num_cons, Nat.add_sub_add_right, Nat.add_mul, Nat.mul_assoc, ← Nat.pow_add, show l.length + (M - l.length) = M by omega]
theorem num_scaled_lt {l : List UInt8} {M : Nat} (hdB : allD l = true) (h : l.length ≤ M) : num l * 10 ^ (M - l.length) < 10 ^ M := by
 have h1 := Nat.mul_lt_mul_of_pos_right (num_lt l hdB) (pow_pos10 (M - l.length))
 rw [← Nat.pow_add, show l.length + (M - l.length) = M by omega] at h1
 exact h1
theorem lt_dg {x y : UInt8} (hx : isD x = true) (hy : isD y = true) : x < y ↔ dgD x < dgD y := by
 have a := (isD_iff x).1 hx
 have b := (isD_iff y).1 hy
 rw [UInt8.lt_iff_toNat_lt]
 unfold dgD; omega
theorem cmp_lex : ∀ (a b : List UInt8) (M : Nat), allD a = true → allD b = true → lst a = true → lst b = true → a.length ≤ M → b.length ≤ M →
  Lib.compareBytes a b = ordN (num a * 10 ^ (M - a.length)) (num b * 10 ^ (M - b.length))
 | [], [], M, _, _, _, _, _, _ => by rw [ordN_eq (by rfl)]; rfl
 | [], y :: b, M, _, hb, _, lb, _, _ => by
   rw [ordN_lt]; · rfl
   rw [num_nil, Nat.zero_mul]
   exact Nat.mul_pos (num_pos' hb lb (by simp)) (pow_pos10 _)
 | x :: a, [], M, ha, _, la, _, _, _ => by
   rw [ordN_gt]; · rfl
   rw [num_nil, Nat.zero_mul]
   exact Nat.mul_pos (num_pos' ha la (by simp)) (pow_pos10 _)
 | x :: a, y :: b, M, ha, hb, la, lb, hM, kM => by
   simp only [List.length_cons] at hM kM
   obtain ⟨m, rfl⟩ : ∃ m, M = m + 1 := ⟨M - 1, by omega⟩
   rw [allD_cons, Bool.and_eq_true] at ha hb
   simp only [List.length_cons]
   rw [num_scaled (by omega), num_scaled (by omega)]
   have u1 := num_scaled_lt ha.2 (show a.length ≤ m by omega)
   have u2 := num_scaled_lt hb.2 (show b.length ≤ m by omega)
   have ih := cmp_lex a b m ha.2 hb.2 (lst_tail la) (lst_tail lb) (by omega) (by omega)
   unfold Lib.compareBytes
   by_cases h1 : x < y
   ·rw [if_pos h1, ordN_lt]
    have := (lt_dg ha.1 hb.1).1 h1
    have h3 : (dgD x + 1) * 10 ^ m ≤ dgD y * 10 ^ m := Nat.mul_le_mul_right _ this
    rw [Nat.succ_mul] at h3
    generalize dgD x * 10 ^ m = A at *
    generalize dgD y * 10 ^ m = B at *
    omega
   ·by_cases h2 : y < x
    ·rw [if_neg h1, if_pos h2, ordN_gt]
     have := (lt_dg hb.1 ha.1).1 h2
     have h3 : (dgD y + 1) * 10 ^ m ≤ dgD x * 10 ^ m := Nat.mul_le_mul_right _ this
     rw [Nat.succ_mul] at h3
     generalize dgD x * 10 ^ m = A at *
     generalize dgD y * 10 ^ m = B at *
     omega
    ·rw [if_neg h1, if_neg h2, ih]
     have e : dgD x = dgD y := by
      have k1 : ¬ dgD x < dgD y := fun h => h1 ((lt_dg ha.1 hb.1).2 h)
      have k2 : ¬ dgD y < dgD x := fun h => h2 ((lt_dg hb.1 ha.1).2 h)
      omega
     rw [e, ordN_add]
theorem cmp_same {a b : List UInt8} {p : Int} {v u : Nat} (h : IsDec a p v) (k : IsDec b p u) : Lib.compareBytes a b = ordN v u := by
 have hl := h.low
 have kl := k.low
 have e1 : (p - a.length + 10000).toNat = (p + 10000).toNat - a.length := by omega
 have e2 : (p - b.length + 10000).toNat = (p + 10000).toNat - b.length := by omega
 rw [← h.val, ← k.val, e1, e2]
 exact cmp_lex a b _ h.dig k.dig h.lst k.lst (by omega) (by omega)
theorem cmp_points {v u : Nat} (hv : oL v ≠ []) (hu : oL u ≠ []) (h : oP v < oP u) : v < u := by
 have kv : v ≠ 0 := fun e => hv (oL_nil.2 e)
 have ku : u ≠ 0 := fun e => hu (oL_nil.2 e)
 have hl := (o_dec v).low
 have a := (o_dec v).lt (q := (oP v + 10000).toNat) (by omega)
 have b := (o_dec u).ge ku (q := (oP v + 10000).toNat) (by omega)
 omega
theorem cmp_rest {v u : Nat} (h : oL v = [] ∨ oL u = [] ∨ oP v = oP u) : Lib.compareBytes (oL v) (oL u) = ordN v u := by
 rcases h with h | h | h
 ·have := oL_nil.1 h
  subst this
  rw [h]
  by_cases hu : u = 0
  ·subst hu; rw [h, ordN_eq rfl]; rfl
  ·rw [ordN_lt (by omega)]
   obtain ⟨y, b, e⟩ := List.exists_cons_of_ne_nil (fun e => hu (oL_nil.1 e))
   rw [e]; rfl
 ·have := oL_nil.1 h
  subst this
  rw [h]
  by_cases hu : v = 0
  ·subst hu; rw [h, ordN_eq rfl]; rfl
  ·rw [ordN_gt (by omega)]
   obtain ⟨y, b, e⟩ := List.exists_cons_of_ne_nil (fun e => hu (oL_nil.1 e))
   rw [e]; rfl
 ·exact cmp_same (o_dec v) (h ▸ o_dec u)
theorem IsDec.mod {l : List UInt8} {p : Int} {v : Nat} (h : IsDec l p v) {E : Nat} (hE : (E : Int) ≤ p - l.length + 10000) : v % 10 ^ E = 0 := by
 rw [← h.val]
 have e : (p - l.length + 10000).toNat = ((p - l.length + 10000).toNat - E) + E := by omega
 rw [e, Nat.pow_add, ← Nat.mul_assoc]
 exact Nat.mul_mod_left _ _
def le : List Nat → Nat
 | [] => 0
 | d :: l => d + 10 * le l
def near (v P : Nat) : Nat := if 2 * (v % 10 ^ P) < 10 ^ P ∨ (2 * (v % 10 ^ P) = 10 ^ P ∧ v / 10 ^ P % 2 = 0) then v / 10 ^ P * 10 ^ P else v / 10 ^ P * 10 ^ P + 10 ^ P
theorem near_whole {v P : Nat} (h : v % 10 ^ P = 0) : near v P = v := by
 unfold near
 have := pow_pos10 P
 rw [if_pos (.inl (by rw [h]; omega))]
 have := Nat.div_add_mod v (10 ^ P)
 rw [h, Nat.mul_comm] at this
 omega
theorem take_V {l : List UInt8} {p : Int} {v : Nat} (h : IsDec l p v) (n : Nat) (hn : n ≤ l.length) (P : Nat) (hP : p - n + 10000 = P) : V (l.take n) p = v / 10 ^ P * 10 ^ P := by
 have hlow := h.low
 have hlen : (l.take n).length = n := by rw [List.length_take]; omega
 unfold V
 rw [hlen, show (p - n + 10000).toNat = P by omega, ← h.val]
 congr 1
 have e : l = l.take n ++ l.drop n := (List.take_append_drop n l).symm
 have hdB : allD (l.drop n) = true := allD_of fun x hx => allD_mem h.dig (List.mem_of_mem_drop hx)
 have hlt := num_lt _ hdB
 have hdl : (l.drop n).length = l.length - n := List.length_drop
 have hn' : num l = num (l.take n) * 10 ^ (l.length - n) + num (l.drop n) := by
  conv => lhs; rw [e]
  rw [num_append, hdl]
 rw [hdl] at hlt
 have eP : P = (l.length - n) + (p - l.length + 10000).toNat := by omega
 rw [eP, Nat.pow_add, Nat.mul_div_mul_right _ _ (pow_pos10 _), hn', Nat.mul_comm (num (l.take n)), Nat.mul_add_div (pow_pos10 _), Nat.div_eq_of_lt hlt, Nat.add_zero]
def ups (l : List UInt8) (n : Nat) : Bool :=
 if l.getD n 0 ≠ 53 then decide (53 < (l.getD n 0).toNat) else if n + 1 < l.length then true else decide (0 < n) && decide (dgD (l.getD (n - 1) 0) % 2 = 1)
theorem ups_near {l : List UInt8} {p : Int} {v : Nat} (h : IsDec l p v) (n : Nat) (hn : n < l.length) (P : Nat) (hP : p - n + 10000 = P) :
  near v P = if ups l n = true then v / 10 ^ P * 10 ^ P + 10 ^ P else v / 10 ^ P * 10 ^ P := by
 have hlow := h.low
 obtain ⟨x, hxe⟩ : ∃ x, x = l[n] := ⟨_, rfl⟩
 have hx : isD x = true := by rw [hxe]; exact allD_mem h.dig (List.getElem_mem hn)
 have hxD := (isD_iff _).1 hx
 have hgx : l.getD n 0 = x := by rw [List.getD_eq_getElem?_getD, List.getElem?_eq_getElem hn, Option.getD_some, hxe]
 have e : l = l.take n ++ x :: l.drop (n + 1) := by rw [hxe]; simp
 have hr : (l.drop (n + 1)).length = l.length - 1 - n := by rw [List.length_drop]; omega
 have hdB : allD (l.drop (n + 1)) = true := allD_of fun x hx => allD_mem h.dig (List.mem_of_mem_drop hx)
 have hlt := num_lt _ hdB
 rw [hr] at hlt
 have hnum : num l = num (l.take n) * 10 ^ (l.length - n) + (dgD x * 10 ^ (l.length - 1 - n) + num (l.drop (n + 1))) := by
  conv => lhs; rw [e]
  rw [num_append, num_cons, List.length_cons, hr, show l.length - 1 - n + 1 = l.length - n by omega]
 have ep : (10 : Nat) ^ (l.length - n) = 10 * 10 ^ (l.length - 1 - n) := by
  rw [show l.length - n = l.length - 1 - n + 1 by omega, Nat.pow_succ, Nat.mul_comm]
 have hdx := dg_lt hx
 have hx9 : dgD x * 10 ^ (l.length - 1 - n) ≤ 9 * 10 ^ (l.length - 1 - n) := Nat.mul_le_mul_right _ (by omega)
 have hlow9 : dgD x * 10 ^ (l.length - 1 - n) + num (l.drop (n + 1)) < 10 ^ (l.length - n) := by omega
 have eP : P = (l.length - n) + (p - l.length + 10000).toNat := by omega
 have hmod : v % 10 ^ P = (dgD x * 10 ^ (l.length - 1 - n) + num (l.drop (n + 1))) * 10 ^ (p - l.length + 10000).toNat := by
  rw [← h.val, eP, Nat.pow_add, Nat.mul_mod_mul_right, hnum, Nat.mul_comm (num (l.take n)), Nat.mul_add_mod, Nat.mod_eq_of_lt hlow9]
 have hdiv : v / 10 ^ P = num (l.take n) := by
  rw [← h.val, eP, Nat.pow_add, Nat.mul_div_mul_right _ _ (pow_pos10 _), hnum, Nat.mul_comm (num (l.take n)), Nat.mul_add_div (pow_pos10 _), Nat.div_eq_of_lt hlow9, Nat.add_zero]
 have hpow : (10 : Nat) ^ P = 10 * 10 ^ (l.length - 1 - n) * 10 ^ (p - l.length + 10000).toNat := by rw [eP, Nat.pow_add, ep]
 have hK := pow_pos10 (p - l.length + 10000).toNat
 have hm := pow_pos10 (l.length - 1 - n)
 have hpar : ∀ k, n = k + 1 → num (l.take n) % 2 = dgD (l.getD (n - 1) 0) % 2 := by
  intro k hk
  subst hk
  have hk' : k < l.length := by omega
  have : l.take (k + 1) = l.take k ++ [l[k]'hk'] := List.take_succ_eq_append_getElem hk'
  rw [this, num_snoc, Nat.add_sub_cancel, List.getD_eq_getElem?_getD, List.getElem?_eq_getElem hk', Option.getD_some]
  omega
 have hpos : l.drop (n + 1) ≠ [] → 0 < num (l.drop (n + 1)) := by
  intro hne
  refine num_pos' hdB ?_ hne
  have hl := h.lst
  rw [e] at hl
  unfold lst at hl ⊢
  rw [List.getLast?_append, List.getLast?_cons] at hl
  cases hh : (l.drop (n + 1)).getLast? with
  | none => rfl
  | some y => rw [hh] at hl; simpa using hl
 unfold near
 rw [hmod, hdiv]
 generalize hA : (10 : Nat) ^ (p - l.length + 10000).toNat = A at *
 generalize hB : (10 : Nat) ^ (l.length - 1 - n) = B at *
 generalize hN : num (l.drop (n + 1)) = N at *
 generalize hT : num (l.take n) = T at *
 have k1 : 2 * ((dgD x * B + N) * A) < 10 ^ P ↔ 2 * (dgD x * B + N) < 10 * B := by
  rw [hpow, ← Nat.mul_assoc]
  exact Nat.mul_lt_mul_right hK
 have k2 : 2 * ((dgD x * B + N) * A) = 10 ^ P ↔ 2 * (dgD x * B + N) = 10 * B := by
  rw [hpow, ← Nat.mul_assoc]
  exact Nat.mul_left_inj (by omega)
 simp only [k1, k2]
 unfold ups
 rw [hgx]
 by_cases h5 : x = 53
 ·have hd5 : dgD x = 5 := by rw [h5]; rfl
  rw [hd5, h5]
  simp only [ne_eq, not_true_eq_false, if_false]
  by_cases hlen : n + 1 < l.length
  ·have hNp := hpos (by intro e; have := congrArg List.length e; rw [hr] at this; simp at this; omega)
   rw [if_pos hlen, if_neg (by omega), if_pos rfl]
  ·have hN0 : N = 0 := by
    rw [← hN, List.drop_eq_nil_of_le (by omega)]; rfl
   rw [if_neg hlen]
   subst hN0
   rcases Nat.eq_zero_or_pos n with hn0 | hn0
   ·subst hn0
    have hT0 : T = 0 := by rw [← hT]; rfl
    rw [if_pos (.inr ⟨by omega, by rw [hT0]⟩)]
    simp
   ·obtain ⟨k, hk⟩ : ∃ k, n = k + 1 := ⟨n - 1, by omega⟩
    have hpk := hpar k hk
    by_cases hodd : dgD (l.getD (n - 1) 0) % 2 = 1
    ·rw [if_neg (by omega)]
     simp only [hn0, decide_true, hodd, Bool.and_self, if_true]
    ·rw [if_pos (.inr ⟨by omega, by omega⟩)]
     simp only [hn0, decide_true, hodd, decide_false, Bool.and_false, Bool.false_eq_true, if_false]
 ·have hd5 : dgD x ≠ 5 := by
   intro e0
   apply h5
   apply UInt8.toNat_inj.1
   show x.toNat = 53
   unfold dgD at e0; omega
  rw [if_pos h5]
  have hdd : dgD x = x.toNat - 48 := rfl
  by_cases hgt : 53 < x.toNat
  ·have h6 : 6 * B ≤ dgD x * B := Nat.mul_le_mul_right _ (by omega)
   rw [if_neg (by omega), if_pos (by simpa using hgt)]
  ·have h4 : dgD x * B ≤ 4 * B := Nat.mul_le_mul_right _ (by omega)
   rw [if_pos (by omega), if_neg (by simpa using hgt)]
end Go.Proofs.YtiagjheifblkiaaGreatDoor
namespace Go.Proofs.YtiagjheifblkiaaGreatDoor
open Go.RowKit
set_option linter.unusedVariables false
theorem allD_take (s : ByteArray) (k : Nat) (h : k < s.size) : allD (s.data.toList.take (k + 1)) = (allD (s.data.toList.take k) && isD (s[k]'h)) := by
 have hl : k < s.data.toList.length := by rw [list_len]; exact h
 have e : s.data.toList[k]'hl = s[k]'h := rfl
 rw [List.take_succ_eq_append_getElem hl, allD_append, allD_cons, e]
 simp [allD]
theorem allD_bad (s : ByteArray) (k : Nat) (h : k < s.size) (hb : isD (s[k]'h) = false) : allD s.data.toList = false := by
 have hl : k < s.data.toList.length := by rw [list_len]; exact h
 have hm : (s[k]'h) ∈ s.data.toList := List.getElem_mem hl
 cases ha : allD s.data.toList with
 | false => rfl
 | true => have := allD_mem ha hm; rw [hb] at this; cases this
set_option maxRecDepth 1000000 in
set_option maxHeartbeats 400000 in
theorem alldigits_any (s : ByteArray) (w : World) (hs : s.size ≤ 9223372036854775807) :
  Calls Tryz.prog 43 #[.string s] w fun e w' => e = .returned (.bool (allD s.data.toList)) ∧ w' = w := by
 go_enter Tryz.func43, Tryz.ntmps43
 go_wp2
 go_loopg [6] s.size (fun g i wr => wr = w ∧ ∃ k : Nat, i = .int .i64 k ∧ k + g = s.size ∧ Hid (allD (s.data.toList.take k) = true))
 case atStart => exact ⟨rfl, 0, rfl, Nat.zero_add _, rfl⟩
 case round =>
  obtain ⟨rfl, k, rfl, hkg, HA⟩ := hrel
  by_cases hlt : k < s.size
  ·have hltI : (k : Int) < s.size := by omega
   have hx : (s[k]'hlt).toNat < 256 := (s[k]'hlt).toNat_lt
   have HD : Hid (isD (s[k]'hlt) = true ↔ 48 ≤ (s[k]'hlt).toNat ∧ (s[k]'hlt).toNat ≤ 57) := isD_iff _
   have HN : Hid (allD (s.data.toList.take (k + 1)) = (allD (s.data.toList.take k) && isD (s[k]'hlt))) := allD_take s k hlt
   have HB : Hid (isD (s[k]'hlt) = false → allD s.data.toList = false) := allD_bad s k hlt
   by_cases h1 : (s[k]'hlt).toNat < 48
   ·have h1I : ((s[k]'hlt).toNat : Int) < 48 := by omega
    have HF : Hid (allD s.data.toList = false) := HB.out (by
     cases hh : isD (s[k]'hlt) with
     | false => rfl
     | true => have := HD.out.1 hh; omega)
    go_wp2
    go_ret
    rw [HF.out]
    exact ⟨rfl, rfl⟩
   ·have h1I : ¬ ((s[k]'hlt).toNat : Int) < 48 := by omega
    by_cases h2 : 57 < (s[k]'hlt).toNat
    ·have h2I : 57 < ((s[k]'hlt).toNat : Int) := by omega
     have HF : Hid (allD s.data.toList = false) := HB.out (by
      cases hh : isD (s[k]'hlt) with
      | false => rfl
      | true => have := HD.out.1 hh; omega)
     go_wp2
     go_ret
     rw [HF.out]
     exact ⟨rfl, rfl⟩
    ·have h2I : ¬ 57 < ((s[k]'hlt).toNat : Int) := by omega
     have HG : Hid (allD (s.data.toList.take (k + 1)) = true) := by
      show allD (s.data.toList.take (k + 1)) = true
      rw [HN.out, HA.out, HD.out.2 ⟨by omega, by omega⟩]; rfl
     go_wp2
     go_roundg (gk - 1)
     case measure => omega
     case rel => exact ⟨rfl, k + 1, by go_num, by omega, HG⟩
  ·have hltI : ¬ (k : Int) < s.size := by omega
   have HF : Hid (allD s.data.toList = true) := by
    show allD s.data.toList = true
    have := HA.out
    rw [List.take_of_length_le (by rw [list_len]; omega)] at this
    exact this
   go_wp2
   go_ret
   rw [HF.out]
   exact ⟨rfl, rfl⟩
theorem ltr_len (l : List UInt8) : (ltr l).length ≤ l.length := by
 obtain ⟨k, h1, -⟩ := ltr_split l
 have := congrArg List.length h1
 rw [List.length_append] at this; omega
theorem rtr_len (l : List UInt8) : (rtr l).length ≤ l.length := by
 obtain ⟨k, h1, -⟩ := rtr_split l
 have := congrArg List.length h1
 rw [List.length_append] at this; omega
theorem mk_size (l : List UInt8) : (⟨l.toArray⟩ : ByteArray).size = l.length := by simp [ByteArray.size]
theorem zero_S : oS 0 = ⟨#[]⟩ := by unfold oS; rw [o_zero.1]
set_option maxRecDepth 1000000 in
set_option maxHeartbeats 400000 in
theorem inform_any (s : ByteArray) (p : Int) (w : World) (hdB : allD s.data.toList = true) (hz : s.size ≤ 100000) (hp0 : -10000 ≤ p - s.size) (hp1 : p ≤ 100000) :
  Calls Tryz.prog 44 #[.agg #[.string s, .int .i64 p]] w fun e w' => e = .returned (.agg #[.string (oS (V s.data.toList p)), .int .i64 (oP (V s.data.toList p))]) ∧ Below w.heap.size w w' := by
 obtain ⟨f1, f2⟩ := form_o s.data.toList p hdB (by rw [list_len]; exact hp0)
 have hL : ∀ w, Calls Tryz.prog 59 #[.string s, .string ⟨#[48]⟩] w fun e w' => e = .returned (.string ⟨(ltr s.data.toList).toArray⟩) ∧ w' = w := fun w => Tryz.strings_TrimLeft_one s 48 (by decide) w
 have l1 := ltr_len s.data.toList
 have l2 := rtr_len (ltr s.data.toList)
 rw [list_len] at l1 f2
 have hR : ∀ w, Calls Tryz.prog 60 #[.string ⟨(ltr s.data.toList).toArray⟩, .string ⟨#[48]⟩] w fun e w' => e = .returned (.string ⟨(rtr (ltr s.data.toList)).toArray⟩) ∧ w' = w := fun w => Tryz.strings_TrimRight_one ⟨(ltr s.data.toList).toArray⟩ 48 (by decide) w (by rw [mk_size]; omega)
 have za := mk_size (ltr s.data.toList)
 have zr := mk_size (rtr (ltr s.data.toList))
 have HS : Hid ((⟨(rtr (ltr s.data.toList)).toArray⟩ : ByteArray) = oS (V s.data.toList p)) := by rw [f1]; rfl
 rw [← za] at f2 l1 l2
 rw [← zr] at l2
 have HP : Hid ((if (⟨(rtr (ltr s.data.toList)).toArray⟩ : ByteArray).size = 0 then 0 else p - ((s.size : Int) - (⟨(ltr s.data.toList).toArray⟩ : ByteArray).size)) = oP (V s.data.toList p)) := by
  show _ = _
  rw [← f2]
  by_cases h : rtr (ltr s.data.toList) = []
  ·rw [if_pos h, if_pos (by rw [zr, h]; rfl)]
  ·rw [if_neg h, if_neg (by rw [zr]; intro h0; exact h (List.eq_nil_of_length_eq_zero h0))]
 have HZ : Hid ((⟨(rtr (ltr s.data.toList)).toArray⟩ : ByteArray).size = 0 → (⟨(rtr (ltr s.data.toList)).toArray⟩ : ByteArray) = ⟨#[]⟩) := fun h => by
  rw [zr] at h; rw [List.eq_nil_of_length_eq_zero h]
 clear f1 f2 za zr
 generalize (⟨(rtr (ltr s.data.toList)).toArray⟩ : ByteArray) = r at *
 generalize (⟨(ltr s.data.toList).toArray⟩ : ByteArray) = a at *
 generalize V s.data.toList p = v at *
 clear hdB
 by_cases h0 : r.size = 0
 ·have hue : r.toList.isEmpty = true := empty_yes r h0
  have HP0 : Hid (oP v = 0) := by have := HP.out; rw [if_pos h0] at this; exact this.symm
  have HS0 : Hid (oS v = ⟨#[]⟩) := by show oS v = ⟨#[]⟩; rw [← HS.out]; exact HZ.out h0
  clear HP HS HZ
  go_enter Tryz.func44, Tryz.ntmps44
  go_wp2_with (first | (go_at_call 59; refine (hL _).mono ?_; rintro e w2 ⟨rfl, rfl⟩) | (go_at_call 60; refine (hR _).mono ?_; rintro e w2 ⟨rfl, rfl⟩))
  go_returns
  rw [HP0.out, HS0.out]
  refine ⟨rfl, ?_⟩
  go_grown
 ·have hue : r.toList.isEmpty = false := empty_no r (by omega)
  have HP0 : Hid (oP v = p - ((s.size : Int) - a.size)) := by have := HP.out; rw [if_neg h0] at this; exact this.symm
  clear HP HZ
  go_enter Tryz.func44, Tryz.ntmps44
  go_wp2_with (first | (go_at_call 59; refine (hL _).mono ?_; rintro e w2 ⟨rfl, rfl⟩) | (go_at_call 60; refine (hR _).mono ?_; rintro e w2 ⟨rfl, rfl⟩))
  go_returns
  rw [HP0.out, ← HS.out]
  refine ⟨rfl, ?_⟩
  go_grown
theorem keep {W w2 : World} (hb : Below W.heap.size W w2) {p : Addr} {v : Value} (h : W.cell? p = some v) : w2.cell? p = some v := by
 have hp : p.block < W.heap.size := by
  rcases Nat.lt_or_ge p.block W.heap.size with h1 | h1
  ·exact h1
  ·simp [World.cell?, Array.getElem?_eq_none h1] at h
 exact (hb.cell hp).trans h
theorem keepf {W w2 : World} (hb : Below W.heap.size W w2) {p : Addr} (hp : p.block < W.heap.size) (h : W.frozen? p = false) : w2.frozen? p = false := (hb.frozen hp).trans h
theorem bel_call {B : Nat} {w W w2 : World} (h0 : Below B w W) (hb : Below W.heap.size W w2) (hB : B ≤ w.heap.size) : Below B w w2 := h0.trans (hb.mono (Nat.le_trans hB h0.size))
theorem set_otherB {W : World} {B i j : Nat} {u v : Value} (hij : i ≠ j) (h : W.cell? ⟨B, j, none⟩ = some v) : (W.setCell ⟨B, i, none⟩ u).cell? ⟨B, j, none⟩ = some v := by
 rw [World.cell?_setCell_other _ _ _ _ (by intro e; have := congrArg Addr.off e; simp at this; exact hij this)]; exact h
theorem set_past {W : World} {B C i j : Nat} {u v : Value} (hij : B ≠ C) (h : W.cell? ⟨C, j, none⟩ = some v) : (W.setCell ⟨B, i, none⟩ u).cell? ⟨C, j, none⟩ = some v := by
 rw [World.cell?_setCell_other _ _ _ _ (by intro e; have := congrArg Addr.block e; simp at this; exact hij this)]; exact h
theorem put0 {W : World} {B : Nat} {u : Value} (h0 : W.cell? ⟨B, 0, none⟩ = some u) (x : Value) : (W.setCell ⟨B, 0, none⟩ x).cell? ⟨B, 0, none⟩ = some x := World.cell?_setCell_same _ _ _ h0
theorem put1 {W : World} {B : Nat} {v : Value} (h1 : W.cell? ⟨B, 1, none⟩ = some v) (x y : Value) : ((W.setCell ⟨B, 0, none⟩ x).setCell ⟨B, 1, none⟩ y).cell? ⟨B, 1, none⟩ = some y := World.cell?_setCell_same _ _ _ (set_otherB (by decide) h1)
def normE (s : ByteArray) (p : Int) : Int := if 2000 < s.size then 2 else if allD s.data.toList = false then 4 else if p < -5000 ∨ 5000 < p then 2 else 0
def normV (s : ByteArray) (p : Int) : Nat := if normE s p = 0 then V s.data.toList p else 0
theorem normE_big {s : ByteArray} {p : Int} (h : 2000 < s.size) : normE s p = 2 := if_pos h
theorem normE_form {s : ByteArray} {p : Int} (h : ¬ 2000 < s.size) (h2 : allD s.data.toList = false) : normE s p = 4 := by unfold normE; rw [if_neg h, if_pos h2]
theorem normE_pt {s : ByteArray} {p : Int} (h : ¬ 2000 < s.size) (h2 : allD s.data.toList = true) (h3 : p < -5000 ∨ 5000 < p) : normE s p = 2 := by unfold normE; rw [if_neg h, if_neg (by rw [h2]; simp), if_pos h3]
theorem normE_ok {s : ByteArray} {p : Int} (h : ¬ 2000 < s.size) (h2 : allD s.data.toList = true) (h3 : ¬ p < -5000) (h4 : ¬ 5000 < p) : normE s p = 0 := by unfold normE; rw [if_neg h, if_neg (by rw [h2]; simp), if_neg (by omega)]
theorem normE_zero {s : ByteArray} {p : Int} (h : normE s p = 0) : s.size ≤ 2000 ∧ allD s.data.toList = true ∧ -5000 ≤ p ∧ p ≤ 5000 := by
 unfold normE at h
 split at h
 ·cases h
 ·split at h
  ·cases h
  ·split at h
   ·cases h
   ·rename_i h1 h2 h3
    refine ⟨by omega, ?_, by omega, by omega⟩
    cases hh : allD s.data.toList with
    | true => rfl
    | false => exact absurd hh h2
theorem normV_err {s : ByteArray} {p : Int} {e : Int} (h : normE s p = e) (he : e ≠ 0) : normV s p = 0 := by unfold normV; rw [if_neg (by rw [h]; exact he)]
theorem normV_ok {s : ByteArray} {p : Int} (h : normE s p = 0) : normV s p = V s.data.toList p := if_pos h
set_option maxRecDepth 1000000 in
set_option maxHeartbeats 400000 in
theorem norm_any (s : ByteArray) (p : Int) (w : World) (hs : s.size ≤ 9223372036854775807) :
  Calls Tryz.prog 20 #[.agg #[.string s, .int .i64 p]] w fun e w' => e = .returned (.tuple #[.agg #[.string (oS (normV s p)), .int .i64 (oP (normV s p))], .int .i64 (normE s p)]) ∧ Below w.heap.size w w' := by
 have hA : ∀ w, Calls Tryz.prog 43 #[.string s] w fun e w' => e = .returned (.bool (allD s.data.toList)) ∧ w' = w := fun w => alldigits_any s w hs
 by_cases h1 : 2000 < s.size
 ·have h1I : 2000 < (s.size : Int) := by omega
  have HE : Hid (normE s p = 2) := normE_big h1
  have HV : Hid (normV s p = 0) := normV_err HE.out (by decide)
  clear hA
  go_enter Tryz.func20, Tryz.ntmps20
  go_wp2
  go_returns
  rw [HE.out, HV.out, zero_S, o_zero.2]
  exact ⟨rfl, by go_grown⟩
 have h1I : ¬ 2000 < (s.size : Int) := by omega
 cases h2 : allD s.data.toList with
 | false =>
   rw [h2] at hA
   have HE : Hid (normE s p = 4) := normE_form h1 h2
   have HV : Hid (normV s p = 0) := normV_err HE.out (by decide)
   clear h2
   go_enter Tryz.func20, Tryz.ntmps20
   go_wp2_with (go_at_call 43; refine (hA _).mono ?_; rintro e w2 ⟨rfl, rfl⟩)
   go_returns
   rw [HE.out, HV.out, zero_S, o_zero.2]
   exact ⟨rfl, by go_grown⟩
 | true =>
   rw [h2] at hA
   by_cases h3 : p < -5000
   ·have HE : Hid (normE s p = 2) := normE_pt h1 h2 (.inl h3)
    have HV : Hid (normV s p = 0) := normV_err HE.out (by decide)
    clear h2
    go_enter Tryz.func20, Tryz.ntmps20
    go_wp2_with (go_at_call 43; refine (hA _).mono ?_; rintro e w2 ⟨rfl, rfl⟩)
    go_returns
    rw [HE.out, HV.out, zero_S, o_zero.2]
    exact ⟨rfl, by go_grown⟩
   by_cases h4 : 5000 < p
   ·have HE : Hid (normE s p = 2) := normE_pt h1 h2 (.inr h4)
    have HV : Hid (normV s p = 0) := normV_err HE.out (by decide)
    clear h2
    go_enter Tryz.func20, Tryz.ntmps20
    go_wp2_with (go_at_call 43; refine (hA _).mono ?_; rintro e w2 ⟨rfl, rfl⟩)
    go_returns
    rw [HE.out, HV.out, zero_S, o_zero.2]
    exact ⟨rfl, by go_grown⟩
   have HE : Hid (normE s p = 0) := normE_ok h1 h2 h3 h4
   have HV : Hid (normV s p = V s.data.toList p) := normV_ok HE.out
   have hI : ∀ w, Calls Tryz.prog 44 #[.agg #[.string s, .int .i64 p]] w fun e w' => e = .returned (.agg #[.string (oS (V s.data.toList p)), .int .i64 (oP (V s.data.toList p))]) ∧ Below w.heap.size w w' := fun w => inform_any s p w h2 (by omega) (by omega) (by omega)
   clear h2
   generalize V s.data.toList p = v at *
   generalize hS : oS v = S at *
   generalize hP : oP v = P at *
   have HS : Hid (oS v = S) := hS
   have HP : Hid (oP v = P) := hP
   clear hS hP
   go_enter Tryz.func20, Tryz.ntmps20
   go_wp2_with (first | (go_at_call 43; refine (hA _).mono ?_; rintro e w2 ⟨rfl, rfl⟩) | (go_at_call 44; refine (hI _).mono ?_; rintro e w3 ⟨rfl, hb3⟩; have k0 := keep hb3 (p := ⟨w.heap.size + 1, 0, none⟩) (v := .string ⟨#[]⟩) (by simp); have k1 := keep hb3 (p := ⟨w.heap.size + 1, 1, none⟩) (v := .int .i64 0) (by simp); have k2 := keepf hb3 (p := ⟨w.heap.size + 1, 0, none⟩) (by simp) (by simp); have k3 := keepf hb3 (p := ⟨w.heap.size + 1, 1, none⟩) (by simp) (by simp)))
   refine bodyPost_ret (by simp [results, Tryz.results20, go_sem, put0 k0, put1 k1]; rfl) rfl ?_
   rw [HE.out, HV.out, HS.out, HP.out]
   refine ⟨rfl, ?_⟩
   have h0 := bel_call (B := w.heap.size) (w := w) (by go_grown) hb3 (Nat.le_refl _)
   exact (h0.setCell (by simp) _).setCell (by simp) _
set_option maxRecDepth 1000000 in
theorem order_any (b : Bool) (w : World) : Calls Tryz.prog 67 #[.bool b] w fun e w' => e = .returned (.int .i64 (if b then -1 else 1)) ∧ w' = w := by
 cases b <;>
 ·go_enter Tryz.func67, Tryz.ntmps67
  go_wp2
  go_ret
  exact ⟨rfl, rfl⟩
set_option maxRecDepth 1000000 in
theorem lastplace_any (s : ByteArray) (p : Int) (w : World) (hs : s.size ≤ 100000) (hp0 : -100000 ≤ p) (hp1 : p ≤ 100000) :
  Calls Tryz.prog 52 #[.agg #[.string s, .int .i64 p]] w fun e w' => e = .returned (.int .i64 (p - s.size)) ∧ Below w.heap.size w w' := by
 go_enter Tryz.func52, Tryz.ntmps52
 go_wp2
 go_ret
 exact ⟨rfl, by go_grown⟩
end Go.Proofs.YtiagjheifblkiaaGreatDoor
