/- Plain mathematics of the document's x: fifteen digits to the base 16, and what is kept of them. -/
import Derived.Test.YthbabhbfpcfenabGreatDoorPkM11
import Derived.Test.YthbabhbfpcfenabGreatDoorPkF26
namespace Go.Proofs.YthbabhbfpcfenabGreatDoor
open Go.RowKit
set_option linter.unusedVariables false
set_option linter.unusedSimpArgs false

/-- What x writes: the digit ahead of the point, those behind it, the power. -/
def hexM (sh : Bool) (ld D : ByteArray) (X : Int) : ByteArray := ((((⟨#[48, 120]⟩ : ByteArray) ++ ld) ++ ptB sh D) ++ ⟨#[112]⟩) ++ sgd X 2
theorem baE {a b : ByteArray} (h : a.data.toList = b.data.toList) : a = b := by
  apply ByteArray.ext; apply Array.ext'; exact h
theorem mk_li (l : List UInt8) : (⟨l.toArray⟩ : ByteArray).data.toList = l := by simp
theorem hexT_is {sh : Bool} {P : Int} {m : Nat} {e : Int} {ld : UInt8} {l : List UInt8} {X : Int} {D : ByteArray} (h1 : (hxD m P).data.toList = ld :: l) (h2 : nmE m e P = X) (hD : hxP ⟨l.toArray⟩ P = D) : hexT sh P m e = hexM sh ⟨#[ld]⟩ D X := by
  have e1 : (hxD m P).extract 0 1 = ⟨#[ld]⟩ := baE (by rw [ext_li, h1]; rfl)
  have e2 : (hxD m P).extract 1 (hxD m P).size = ⟨l.toArray⟩ := baE (by
    rw [ext_li, List.take_of_length_le (by rw [list_len]; exact Nat.le_refl _), h1]; simp)
  unfold hexT hexM
  rw [e1, e2, h2, hD, ← ptd_ptB, ← app_assoc3]
/-- The digit ahead of the point, the thirteen digits behind it, the power. -/
structure HexI (m : Nat) (e P : Int) (ld : UInt8) (p : Nat) (X : Int) : Prop where
  all : (P < 0 ∨ 13 ≤ P) → (hxD m P).data.toList = ld :: hx 13 p ∧ nmE m e P = X
  keep : ∀ n : Nat, P = n → n < 13 → kpt p n < 16 ^ n → (hxD m P).data.toList = ld :: hx 13 (kpt p n * 16 ^ (13 - n)) ∧ nmE m e P = X
  carry : ∀ n : Nat, P = n → n < 13 → ¬ kpt p n < 16 ^ n → (hxD m P).data.toList = ld :: List.replicate 13 48 ∧ nmE m e P = X + 1
  lt : p < 16 ^ 13
theorem kpt_0 {n : Nat} (h : n < 13) : kpt 0 n = 0 := by
  have hu : 0 < 16 ^ (13 - n) / 2 := by
    obtain ⟨k, hk⟩ : ∃ k, 13 - n = k + 1 := ⟨12 - n, by omega⟩
    have : 0 < 16 ^ k := Nat.pow_pos (by decide)
    rw [hk, Nat.pow_succ]; omega
  unfold kpt
  rw [Nat.zero_mod, Nat.zero_div, if_neg (by omega)]
theorem hexI_0 (e P : Int) : HexI 0 e P 48 0 0 := by
  obtain ⟨h1, h2⟩ := hex_0 P e
  have e1 : (hxD 0 P).data.toList = 48 :: List.replicate 13 48 := h1
  refine ⟨fun _ => ⟨by rw [e1, hx_zero], h2⟩, fun n _ hn _ => ⟨by rw [e1, kpt_0 hn, Nat.zero_mul, hx_zero], h2⟩, fun n _ hn hk => ?_, by decide⟩
  exact absurd (Nat.pow_pos (n := n) (show 0 < 16 by decide)) (by rw [kpt_0 hn] at hk; exact hk)
theorem hexI_m {m p : Nat} (e P : Int) (h0 : m ≠ 0) (hm : m * 2 ^ nmS m = 16 ^ 13 + p) (hp : p < 16 ^ 13) : HexI m e P 49 p (e + 52 - nmS m) := by
  refine ⟨fun h => hex_keep h0 hm (rb_all h) hp, fun n hP hn hk => ?_, fun n hP hn hk => ?_, hp⟩
  · subst hP
    refine hex_keep h0 hm (rb_some hn) ?_
    have hu : 0 < 16 ^ (13 - n) := Nat.pow_pos (by decide)
    rw [u13 hn]
    exact Nat.mul_lt_mul_of_pos_right hk hu
  · subst hP
    have h1 := kpt_le hn hp
    have h2 : kpt p n = 16 ^ n := by omega
    refine hex_carry h0 hm ?_
    rw [rb_some hn, h2, ← u13 hn]
theorem rtr_two (l : List UInt8) : rtr (l ++ [48, 48]) = rtr l := by
  unfold rtr Lib.trimRightB
  simp
/-- The digits behind the point in each case. -/
theorem hx15 (p : Nat) : hx 15 (p * 256) = hx 13 p ++ [48, 48] := hx_shift 13 2 p
theorem hxP_neg {p : Nat} {P : Int} (h : P < 0) : hxP ⟨(hx 13 p).toArray⟩ P = ⟨(rtr (hx 15 (p * 256))).toArray⟩ := by
  unfold hxP
  rw [if_pos h, mk_li, hx15, rtr_two]
theorem hxP_15 {p : Nat} {n : Nat} (h : 15 ≤ n) : hxP ⟨(hx 13 p).toArray⟩ (n : Nat) = ⟨(hx 15 (p * 256)).toArray⟩ ++ run 48 (n - 15) := by
  unfold hxP
  rw [if_neg (by omega)]
  refine baE ?_
  have e1 : (min (n : Int) 13).toNat = 13 := by omega
  rw [e1, app_list, run_list, mk_li, hx15]
  unfold lnB
  have e2 : (⟨(hx 13 p).toArray⟩ : ByteArray).extract 0 13 = ⟨(hx 13 p).toArray⟩ := baE (by
    rw [ext_li, mk_li, List.take_of_length_le (by rw [hx_len]; exact Nat.le_refl _), List.drop_zero])
  have e3 : (⟨(hx 13 p).toArray⟩ : ByteArray).size = 13 := by rw [mk_size, hx_len]
  rw [e2, app_list, run_list, mk_li, e3, List.append_assoc]
  congr 1
  have e4 : ((n : Int) - ((13 : Nat) : Int)).toNat = (n - 15) + 2 := by omega
  rw [e4]
  rw [List.replicate_succ, List.replicate_succ]
  rfl
theorem hxP_13 {p : Nat} {n : Nat} (h : n = 13 ∨ n = 14) : hxP ⟨(hx 13 p).toArray⟩ (n : Nat) = ⟨(hx n (p * 16 ^ (n - 13))).toArray⟩ := by
  unfold hxP
  rw [if_neg (by omega)]
  refine baE ?_
  have e1 : (min (n : Int) 13).toNat = 13 := by omega
  have e2 : (⟨(hx 13 p).toArray⟩ : ByteArray).extract 0 13 = ⟨(hx 13 p).toArray⟩ := baE (by
    rw [ext_li, mk_li, List.take_of_length_le (by rw [hx_len]; exact Nat.le_refl _), List.drop_zero])
  have e3 : (⟨(hx 13 p).toArray⟩ : ByteArray).size = 13 := by rw [mk_size, hx_len]
  unfold lnB
  rw [e1, e2, app_list, run_list, mk_li, e3, mk_li]
  rcases h with rfl | rfl
  · rw [hx_shift 13 0 p]; rfl
  · rw [hx_shift 13 1 p]; rfl
theorem lnB_full (s : ByteArray) (n : Nat) (h : s.size = n) : lnB s (n : Nat) = s := by
  unfold lnB
  rw [h, show ((n : Int) - (n : Nat)).toNat = 0 by omega]
  exact baE (by rw [app_list, run_list]; simp)
theorem hxP_keep {k n : Nat} (h : n < 13) : hxP ⟨(hx 13 (k * 16 ^ (13 - n))).toArray⟩ (n : Nat) = ⟨(hx n k).toArray⟩ := by
  unfold hxP
  rw [if_neg (by omega)]
  have e1 : (min (n : Int) 13).toNat = n := by omega
  have e2 : (⟨(hx 13 (k * 16 ^ (13 - n))).toArray⟩ : ByteArray).extract 0 n = ⟨(hx n k).toArray⟩ := baE (by
    rw [ext_li, mk_li, mk_li, List.drop_zero]
    have e3 := hx_take n (13 - n) (k * 16 ^ (13 - n))
    rw [show n + (13 - n) = 13 by omega, Nat.mul_div_cancel _ (Nat.pow_pos (by decide))] at e3
    exact e3)
  rw [e1, e2]
  exact lnB_full _ n (by rw [mk_size, hx_len])
theorem hxP_carry {n : Nat} (h : n < 13) : hxP ⟨(List.replicate 13 48).toArray⟩ (n : Nat) = run 48 n := by
  unfold hxP
  rw [if_neg (by omega)]
  have e1 : (min (n : Int) 13).toNat = n := by omega
  have e2 : (⟨(List.replicate 13 (48 : UInt8)).toArray⟩ : ByteArray).extract 0 n = run 48 n := baE (by
    rw [ext_li, mk_li, run_list, List.drop_zero, List.take_replicate, Nat.min_eq_left (by omega)]; rfl)
  rw [e1, e2]
  exact lnB_full _ n (run_size _ _)
/-- What the document keeps of fifteen digits. -/
def upD (prt U : Nat) (last : Bool) : Bool := decide (U < 2 * (prt % U)) || (decide (2 * (prt % U) = U) && last)
def kpD (prt U : Nat) (last : Bool) : Nat := if upD prt U last = true then prt / U + 1 else prt / U
def lastD (ld : UInt8) (n k : Nat) : Bool := if n = 0 then decide (ld = 49) else decide (k % 2 = 1)
theorem kpD_hi {p n : Nat} (h : n = 13 ∨ n = 14) (last : Bool) : kpD (p * 256) (16 ^ (15 - n)) last = p * 16 ^ (n - 13) := by
  unfold kpD upD
  rcases h with rfl | rfl
  · have e : (16 : Nat) ^ (15 - 13) = 256 := by decide
    rw [e, Nat.mul_mod_left, Nat.mul_div_cancel _ (by decide)]
    simp
  · have e : (16 : Nat) ^ (15 - 14) = 16 := by decide
    have e1 : p * 256 % 16 = 0 := by omega
    have e2 : p * 256 / 16 = p * 16 := by omega
    rw [e, e1, e2]
    simp
theorem kpD_lo {p n : Nat} {ld : UInt8} (hn : n < 13) (hp : p < 16 ^ 13) (hld : ld = 49 ∨ (ld = 48 ∧ p = 0)) : kpD (p * 256) (16 ^ (15 - n)) (lastD ld n (p * 256 / 16 ^ (15 - n))) = kpt p n := by
  have hu : 0 < 16 ^ (13 - n) := Nat.pow_pos (by decide)
  have e : (16 : Nat) ^ (15 - n) = 16 ^ (13 - n) * 256 := by
    rw [show 15 - n = (13 - n) + 2 by omega, Nat.pow_add]
  obtain ⟨k, hk⟩ : ∃ k, 13 - n = k + 1 := ⟨12 - n, by omega⟩
  have hev : 16 ^ (13 - n) = 2 * (16 ^ (13 - n) / 2) := by rw [hk, Nat.pow_succ]; omega
  have hu2 : 0 < 16 ^ (13 - n) / 2 := by omega
  have e1 : p * 256 / (16 ^ (13 - n) * 256) = p / 16 ^ (13 - n) := Nat.mul_div_mul_right _ _ (by decide)
  have e2 : p * 256 % (16 ^ (13 - n) * 256) = p % 16 ^ (13 - n) * 256 := Nat.mul_mod_mul_right _ _ _
  have hlt := Nat.mod_lt p hu
  have key : (p % 16 ^ (13 - n) = 16 ^ (13 - n) / 2) → (lastD ld n (p / 16 ^ (13 - n)) = decide ((p / 16 ^ (13 - n) + 16 ^ n) % 2 = 1)) := by
    intro h
    unfold lastD
    split
    · rename_i h0
      subst h0
      rcases hld with rfl | ⟨rfl, rfl⟩
      · have e3 : p / 16 ^ (13 - 0) = 0 := Nat.div_eq_of_lt hp
        rw [e3]; rfl
      · rw [Nat.zero_mod] at h; omega
    · rename_i h0
      obtain ⟨j, rfl⟩ : ∃ j, n = j + 1 := ⟨n - 1, by omega⟩
      have : (p / 16 ^ (13 - (j + 1)) + 16 ^ (j + 1)) % 2 = p / 16 ^ (13 - (j + 1)) % 2 := by rw [Nat.pow_succ]; omega
      rw [this]
  unfold kpD upD
  rw [e, e1, e2]
  unfold kpt
  generalize lastD ld n (p / 16 ^ (13 - n)) = L at *
  generalize p / 16 ^ (13 - n) = q at *
  generalize p % 16 ^ (13 - n) = r at *
  generalize 16 ^ (13 - n) = u at *
  rcases Nat.lt_trichotomy r (u / 2) with h | h | h
  · rw [decide_eq_false (by omega : ¬ u * 256 < 2 * (r * 256)), decide_eq_false (by omega : ¬ 2 * (r * 256) = u * 256), if_neg (by simp), if_neg (by omega)]
  · have k := key h
    rw [decide_eq_false (by omega : ¬ u * 256 < 2 * (r * 256)), decide_eq_true (by omega : 2 * (r * 256) = u * 256), k]
    by_cases h2 : (q + 16 ^ n) % 2 = 1
    · rw [decide_eq_true h2, if_pos (by rfl), if_pos (.inr ⟨h, h2⟩)]
    · rw [decide_eq_false h2, if_neg (by simp), if_neg (by omega)]
  · rw [decide_eq_true (by omega : u * 256 < 2 * (r * 256)), if_pos (by simp), if_pos (.inl h)]
/-- Noughts behind go, one by one. -/
theorem rtr_one (l : List UInt8) : rtr (l ++ [48]) = rtr l := by
  unfold rtr Lib.trimRightB
  simp
theorem rtr_cut {u : ByteArray} {n : Nat} (hn : u.size = n + 1) (h : n < u.size) (hx : (u[n]'h).toNat = 48) : rtr u.data.toList = rtr (u.extract 0 n).data.toList := by
  have e : u[n]'h = 48 := UInt8.toNat_inj.1 hx
  rw [list_last u n hn h, e, rtr_one]
theorem rtr_done {u : ByteArray} (h : u.size = 0 ∨ ∃ (n : Nat) (_ : u.size = n + 1) (h0 : n < u.size), ¬ (u[n]'h0).toNat = 48) : rtr u.data.toList = u.data.toList := by
  rcases h with h | ⟨n, hn, h0, hx⟩
  · rw [nil_of h]; rfl
  · rw [list_last u n hn h0]
    have hne : ¬ u[n]'h0 = 48 := fun e => hx (by rw [e]; rfl)
    unfold rtr Lib.trimRightB
    simp [hne]
end Go.Proofs.YthbabhbfpcfenabGreatDoor
