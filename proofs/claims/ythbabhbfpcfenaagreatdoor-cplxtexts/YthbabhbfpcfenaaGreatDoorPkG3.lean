/- MHexA, MHexB, MHex: these texts in one. -/
import Derived.Test.YthbabhbfpcfenaaGreatDoorPkM11
import Derived.Test.YthbabhbfpcfenaaGreatDoorPkF26
/- Plain mathematics of the document's x: fifteen digits to the base 16, and what is kept of them. -/
namespace Go.Proofs.YthbabhbfpcfenaaGreatDoor
open Go.RowKit
set_option linter.unusedVariables false
set_option linter.unusedSimpArgs false

/-- What x writes: the digit ahead of the point, those behind it, the power. -/
def hexM (sh : Bool) (ld D : ByteArray) (X : Int) : ByteArray := ((((⟨#[48, 120]⟩ : ByteArray) ++ ld) ++ ptB sh D) ++ ⟨#[112]⟩) ++ sgd X 2
theorem baE {a b : ByteArray} (h : a.data.toList = b.data.toList) : a = b := by
  apply ByteArray.ext; apply Array.ext'; exact h
theorem mk_li (l : List UInt8) : (⟨l.toArray⟩ : ByteArray).data.toList = l := by simp
theorem hexT_is {sh : Bool} {P : Int} {m : Nat} {e : Int} {ld : UInt8} {l : List UInt8} {X : Int} {D : ByteArray} (h1 : (hxD m P).data.toList = ld :: l) (h2 : nmE m e P = X) (hD : hxP ⟨l.toArray⟩ P = D) : hexT sh P m e = hexM sh ⟨#[ld]⟩ D X := by
  have e1 : (hxD m P).extract 0 1 = ⟨#[ld]⟩ := baE (by rw [ext_li, h1]; rfl)
  have e2 : (hxD m P).extract 1 (hxD m P).size = ⟨l.toArray⟩ := baE (by
    rw [ext_li, List.take_of_length_le (by rw [list_len]; exact Nat.le_refl _), h1]; simp)
  unfold hexT hexM
  rw [e1, e2, h2, hD, ← ptd_ptB, ← app_assoc3]
/-- The digit ahead of the point, the thirteen digits behind it, the power. -/
structure HexI (m : Nat) (e P : Int) (ld : UInt8) (p : Nat) (X : Int) : Prop where
  all : (P < 0 ∨ 13 ≤ P) → (hxD m P).data.toList = ld :: hx 13 p ∧ nmE m e P = X
  keep : ∀ n : Nat, P = n → n < 13 → kpt p n < 16 ^ n → (hxD m P).data.toList = ld :: hx 13 (kpt p n * 16 ^ (13 - n)) ∧ nmE m e P = X
  carry : ∀ n : Nat, P = n → n < 13 → ¬ kpt p n < 16 ^ n → (hxD m P).data.toList = ld :: List.replicate 13 48 ∧ nmE m e P = X + 1
  lt : p < 16 ^ 13
theorem kpt_0 {n : Nat} (h : n < 13) : kpt 0 n = 0 := by
  have hu : 0 < 16 ^ (13 - n) / 2 := by
    obtain ⟨k, hk⟩ : ∃ k, 13 - n = k + 1 := ⟨12 - n, by omega⟩
    have : 0 < 16 ^ k := Nat.pow_pos (by decide)
    rw [hk, Nat.pow_succ]; omega
  unfold kpt
  rw [Nat.zero_mod, Nat.zero_div, if_neg (by omega)]
theorem hexI_0 (e P : Int) : HexI 0 e P 48 0 0 := by
  obtain ⟨h1, h2⟩ := hex_0 P e
  have e1 : (hxD 0 P).data.toList = 48 :: List.replicate 13 48 := h1
  refine ⟨fun _ => ⟨by rw [e1, hx_zero], h2⟩, fun n _ hn _ => ⟨by rw [e1, kpt_0 hn, Nat.zero_mul, hx_zero], h2⟩, fun n _ hn hk => ?_, by decide⟩
  exact absurd (Nat.pow_pos (n := n) (show 0 < 16 by decide)) (by rw [kpt_0 hn] at hk; exact hk)
theorem hexI_m {m p : Nat} (e P : Int) (h0 : m ≠ 0) (hm : m * 2 ^ nmS m = 16 ^ 13 + p) (hp : p < 16 ^ 13) : HexI m e P 49 p (e + 52 - nmS m) := by
  refine ⟨fun h => hex_keep h0 hm (rb_all h) hp, fun n hP hn hk => ?_, fun n hP hn hk => ?_, hp⟩
  · subst hP
    refine hex_keep h0 hm (rb_some hn) ?_
    have hu : 0 < 16 ^ (13 - n) := Nat.pow_pos (by decide)
    rw [u13 hn]
    exact Nat.mul_lt_mul_of_pos_right hk hu
  · subst hP
    have h1 := kpt_le hn hp
    have h2 : kpt p n = 16 ^ n := by omega
    refine hex_carry h0 hm ?_
    rw [rb_some hn, h2, ← u13 hn]
theorem rtr_two (l : List UInt8) : rtr (l ++ [48, 48]) = rtr l := by
  unfold rtr Lib.trimRightB
  simp
/-- The digits behind the point in each case. -/
theorem hx15 (p : Nat) : hx 15 (p * 256) = hx 13 p ++ [48, 48] := hx_shift 13 2 p
theorem hxP_neg {p : Nat} {P : Int} (h : P < 0) : hxP ⟨(hx 13 p).toArray⟩ P = ⟨(rtr (hx 15 (p * 256))).toArray⟩ := by
  unfold hxP
  rw [if_pos h, mk_li, hx15, rtr_two]
theorem hxP_15 {p : Nat} {n : Nat} (h : 15 ≤ n) : hxP ⟨(hx 13 p).toArray⟩ (n : Nat) = ⟨(hx 15 (p * 256)).toArray⟩ ++ run 48 (n - 15) := by
  unfold hxP
  rw [if_neg (by omega)]
  refine baE ?_
  have e1 : (min (n : Int) 13).toNat = 13 := by omega
  rw [e1, app_list, run_list, mk_li, hx15]
  unfold lnB
  have e2 : (⟨(hx 13 p).toArray⟩ : ByteArray).extract 0 13 = ⟨(hx 13 p).toArray⟩ := baE (by
    rw [ext_li, mk_li, List.take_of_length_le (by rw [hx_len]; exact Nat.le_refl _), List.drop_zero])
  have e3 : (⟨(hx 13 p).toArray⟩ : ByteArray).size = 13 := by rw [mk_size, hx_len]
  rw [e2, app_list, run_list, mk_li, e3, List.append_assoc]
  congr 1
  have e4 : ((n : Int) - ((13 : Nat) : Int)).toNat = (n - 15) + 2 := by omega
  rw [e4]
  rw [List.replicate_succ, List.replicate_succ]
  rfl
theorem hxP_13 {p : Nat} {n : Nat} (h : n = 13 ∨ n = 14) : hxP ⟨(hx 13 p).toArray⟩ (n : Nat) = ⟨(hx n (p * 16 ^ (n - 13))).toArray⟩ := by
  unfold hxP
  rw [if_neg (by omega)]
  refine baE ?_
  have e1 : (min (n : Int) 13).toNat = 13 := by omega
  have e2 : (⟨(hx 13 p).toArray⟩ : ByteArray).extract 0 13 = ⟨(hx 13 p).toArray⟩ := baE (by
    rw [ext_li, mk_li, List.take_of_length_le (by rw [hx_len]; exact Nat.le_refl _), List.drop_zero])
  have e3 : (⟨(hx 13 p).toArray⟩ : ByteArray).size = 13 := by rw [mk_size, hx_len]
  unfold lnB
  rw [e1, e2, app_list, run_list, mk_li, e3, mk_li]
  rcases h with rfl | rfl
  · rw [hx_shift 13 0 p]; rfl
  · rw [hx_shift 13 1 p]; rfl
theorem lnB_full (s : ByteArray) (n : Nat) (h : s.size = n) : lnB s (n : Nat) = s := by
  unfold lnB
  rw [h, show ((n : Int) - (n : Nat)).toNat = 0 by omega]
  exact baE (by rw [app_list, run_list]; simp)
theorem hxP_keep {k n : Nat} (h : n < 13) : hxP ⟨(hx 13 (k * 16 ^ (13 - n))).toArray⟩ (n : Nat) = ⟨(hx n k).toArray⟩ := by
  unfold hxP
  rw [if_neg (by omega)]
  have e1 : (min (n : Int) 13).toNat = n := by omega
  have e2 : (⟨(hx 13 (k * 16 ^ (13 - n))).toArray⟩ : ByteArray).extract 0 n = ⟨(hx n k).toArray⟩ := baE (by
    rw [ext_li, mk_li, mk_li, List.drop_zero]
    have e3 := hx_take n (13 - n) (k * 16 ^ (13 - n))
    rw [show n + (13 - n) = 13 by omega, Nat.mul_div_cancel _ (Nat.pow_pos (by decide))] at e3
    exact e3)
  rw [e1, e2]
  exact lnB_full _ n (by rw [mk_size, hx_len])
theorem hxP_carry {n : Nat} (h : n < 13) : hxP ⟨(List.replicate 13 48).toArray⟩ (n : Nat) = run 48 n := by
  unfold hxP
  rw [if_neg (by omega)]
  have e1 : (min (n : Int) 13).toNat = n := by omega
  have e2 : (⟨(List.replicate 13 (48 : UInt8)).toArray⟩ : ByteArray).extract 0 n = run 48 n := baE (by
    rw [ext_li, mk_li, run_list, List.drop_zero, List.take_replicate, Nat.min_eq_left (by omega)]; rfl)
  rw [e1, e2]
  exact lnB_full _ n (run_size _ _)
/-- What the document keeps of fifteen digits. -/
def upD (prt U : Nat) (last : Bool) : Bool := decide (U < 2 * (prt % U)) || (decide (2 * (prt % U) = U) && last)
def kpD (prt U : Nat) (last : Bool) : Nat := if upD prt U last = true then prt / U + 1 else prt / U
def lastD (ld : UInt8) (n k : Nat) : Bool := if n = 0 then decide (ld = 49) else decide (k % 2 = 1)
theorem kpD_hi {p n : Nat} (h : n = 13 ∨ n = 14) (last : Bool) : kpD (p * 256) (16 ^ (15 - n)) last = p * 16 ^ (n - 13) := by
  unfold kpD upD
  rcases h with rfl | rfl
  · have e : (16 : Nat) ^ (15 - 13) = 256 := by decide
    rw [e, Nat.mul_mod_left, Nat.mul_div_cancel _ (by decide)]
    simp
  · have e : (16 : Nat) ^ (15 - 14) = 16 := by decide
    have e1 : p * 256 % 16 = 0 := by omega
    have e2 : p * 256 / 16 = p * 16 := by omega
    rw [e, e1, e2]
    simp
theorem kpD_lo {p n : Nat} {ld : UInt8} (hn : n < 13) (hp : p < 16 ^ 13) (hld : ld = 49 ∨ (ld = 48 ∧ p = 0)) : kpD (p * 256) (16 ^ (15 - n)) (lastD ld n (p * 256 / 16 ^ (15 - n))) = kpt p n := by
  have hu : 0 < 16 ^ (13 - n) := Nat.pow_pos (by decide)
  have e : (16 : Nat) ^ (15 - n) = 16 ^ (13 - n) * 256 := by
    rw [show 15 - n = (13 - n) + 2 by omega, Nat.pow_add]
  obtain ⟨k, hk⟩ : ∃ k, 13 - n = k + 1 := ⟨12 - n, by omega⟩
  have hev : 16 ^ (13 - n) = 2 * (16 ^ (13 - n) / 2) := by rw [hk, Nat.pow_succ]; omega
  have hu2 : 0 < 16 ^ (13 - n) / 2 := by omega
  have e1 : p * 256 / (16 ^ (13 - n) * 256) = p / 16 ^ (13 - n) := Nat.mul_div_mul_right _ _ (by decide)
  have e2 : p * 256 % (16 ^ (13 - n) * 256) = p % 16 ^ (13 - n) * 256 := Nat.mul_mod_mul_right _ _ _
  have hlt := Nat.mod_lt p hu
  have key : (p % 16 ^ (13 - n) = 16 ^ (13 - n) / 2) → (lastD ld n (p / 16 ^ (13 - n)) = decide ((p / 16 ^ (13 - n) + 16 ^ n) % 2 = 1)) := by
    intro h
    unfold lastD
    split
    · rename_i h0
      subst h0
      rcases hld with rfl | ⟨rfl, rfl⟩
      · have e3 : p / 16 ^ (13 - 0) = 0 := Nat.div_eq_of_lt hp
        rw [e3]; rfl
      · rw [Nat.zero_mod] at h; omega
    · rename_i h0
      obtain ⟨j, rfl⟩ : ∃ j, n = j + 1 := ⟨n - 1, by omega⟩
      have : (p / 16 ^ (13 - (j + 1)) + 16 ^ (j + 1)) % 2 = p / 16 ^ (13 - (j + 1)) % 2 := by rw [Nat.pow_succ]; omega
      rw [this]
  unfold kpD upD
  rw [e, e1, e2]
  unfold kpt
  generalize lastD ld n (p / 16 ^ (13 - n)) = L at *
  generalize p / 16 ^ (13 - n) = q at *
  generalize p % 16 ^ (13 - n) = r at *
  generalize 16 ^ (13 - n) = u at *
  rcases Nat.lt_trichotomy r (u / 2) with h | h | h
  · rw [decide_eq_false (by omega : ¬ u * 256 < 2 * (r * 256)), decide_eq_false (by omega : ¬ 2 * (r * 256) = u * 256), if_neg (by simp), if_neg (by omega)]
  · have k := key h
    rw [decide_eq_false (by omega : ¬ u * 256 < 2 * (r * 256)), decide_eq_true (by omega : 2 * (r * 256) = u * 256), k]
    by_cases h2 : (q + 16 ^ n) % 2 = 1
    · rw [decide_eq_true h2, if_pos (by rfl), if_pos (.inr ⟨h, h2⟩)]
    · rw [decide_eq_false h2, if_neg (by simp), if_neg (by omega)]
  · rw [decide_eq_true (by omega : u * 256 < 2 * (r * 256)), if_pos (by simp), if_pos (.inl h)]
/-- Noughts behind go, one by one. -/
theorem rtr_one (l : List UInt8) : rtr (l ++ [48]) = rtr l := by
  unfold rtr Lib.trimRightB
  simp
theorem rtr_cut {u : ByteArray} {n : Nat} (hn : u.size = n + 1) (h : n < u.size) (hx : (u[n]'h).toNat = 48) : rtr u.data.toList = rtr (u.extract 0 n).data.toList := by
  have e : u[n]'h = 48 := UInt8.toNat_inj.1 hx
  rw [list_last u n hn h, e, rtr_one]
theorem rtr_done {u : ByteArray} (h : u.size = 0 ∨ ∃ (n : Nat) (_ : u.size = n + 1) (h0 : n < u.size), ¬ (u[n]'h0).toNat = 48) : rtr u.data.toList = u.data.toList := by
  rcases h with h | ⟨n, hn, h0, hx⟩
  · rw [nil_of h]; rfl
  · rw [list_last u n hn h0]
    have hne : ¬ u[n]'h0 = 48 := fun e => hx (by rw [e]; rfl)
    unfold rtr Lib.trimRightB
    simp [hne]
end Go.Proofs.YthbabhbfpcfenaaGreatDoor

/- The document's hexadecimal text (x, X), walked: one theorem for each way to its digits. -/
namespace Go.Proofs.YthbabhbfpcfenaaGreatDoor
open Go.RowKit
set_option linter.unusedVariables false
set_option linter.unusedSimpArgs false

abbrev MhC (m : Nat) (e k : Int) (sh : Bool) (T : ByteArray) : Prop := ∀ w, Calls Tryz.prog 63 #[.int .u64 m, .int .i64 e, .int .i64 k, .bool sh] w fun e w' => e = .returned (.string T) ∧ Below w.heap.size w w'
/-- Doubled so often, the number has its highest bit at 60. -/
structure Dbl (m K p : Nat) : Prop where
  lt : ∀ i, i < K → m * 2 ^ i < 1152921504606846976
  eq : m * 2 ^ K = 1152921504606846976 + p
  low : p < 1152921504606846976
/-- What the first part of x leaves: the digit ahead of the point, the rest, the power. -/
def HeadI (m : Nat) (e : Int) (ld : ByteArray) (prt : Nat) (X : Int) : Prop := m = 0 ∧ ld = ⟨#[48]⟩ ∧ prt = 0 ∧ X = 0 ∨ m ≠ 0 ∧ ld = ⟨#[49]⟩ ∧ ∃ K : Nat, K ≤ 100 ∧ Dbl m K prt ∧ X = e - K + 60

set_option maxRecDepth 1000000 in
set_option maxHeartbeats 4000000 in
theorem hexw_neg {m prt : Nat} {e k X : Int} {sh : Bool} {ld D0 D : ByteArray} {P G R1 R2 R3 R4 : ByteArray} (hI : HeadI m e ld prt X) (he0 : -100000 ≤ e) (he1 : e ≤ 100000) (hm : m < 1152921504606846976) (hX0 : -200000 ≤ X) (hX1 : X ≤ 200000) (hk : k < 0) (hD : EdC (prt : Nat) 16 D0) (hZ : EzC D0 15 D) (hDz : D.size ≤ 100) (hP : MpC ⟨(rtr D.data.toList).toArray⟩ sh P) (hG : MwC X 2 G) (h1 : (⟨#[48, 120]⟩ : ByteArray) ++ ld = R1) (h2 : R1 ++ P = R2) (h3 : R2 ++ (⟨#[112]⟩ : ByteArray) = R3) (h4 : R3 ++ G = R4) (z1 : ¬ 9223372036854775807 < (⟨#[48, 120]⟩ : ByteArray).size + ld.size) (z2 : ¬ 9223372036854775807 < R1.size + P.size) (z3 : ¬ 9223372036854775807 < R2.size + (⟨#[112]⟩ : ByteArray).size) (z4 : ¬ 9223372036854775807 < R3.size + G.size) : MhC m e k sh R4 := fun w => by
  have hlz : ld.size = 1 := by rcases hI with ⟨-, rfl, -, -⟩ | ⟨-, rfl, -⟩ <;> rfl
  go_enter Tryz.func63, Tryz.ntmps63
  go_upto_if 20 with fail
  go_cut [0, 1, 9, 10, 11, 20] (fun m1 e1 l1 x1 p1 c1 wx => w = wx ∧ l1 = .string ld ∧ x1 = .int .i64 X ∧ p1 = .int .u64 (prt : Nat))
  case first =>
    as_aux_lemma =>
    clear hD hZ hP hG h1 h2 h3 h4 z1 z2 z3 z4 hDz
    rcases hI with ⟨rfl, rfl, rfl, rfl⟩ | ⟨h0, rfl, K, hK, hD, rfl⟩
    · go_wp2
      go_meet
      exact ⟨rfl, rfl, rfl, rfl⟩
    · have h0I : (0 : Int) < m := by omega
      have HL : Hid (∀ i, i < K → m * 2 ^ i < 1152921504606846976) := hD.lt
      have HE : Hid (m * 2 ^ K = 1152921504606846976 + prt) := hD.eq
      have HP : Hid (prt < 1152921504606846976) := hD.low
      clear hD
      generalize hJ : (1152921504606846976 : Int) = J at *
      have HJ : Hid ((1152921504606846976 : Int) = J) := hJ
      clear hJ
      go_wp2
      go_loopg [0, 1] (K + 1) (fun g mv ev wr => w = wr ∧ ∃ i v : Nat, mv = .int .u64 v ∧ ev = .int .i64 (e - i) ∧ i + g = K + 1 ∧ i ≤ K ∧ v < 4611686018427387904 ∧ Hid (v = m * 2 ^ i))
      case atStart => exact ⟨rfl, 0, m, rfl, by go_num, by omega, by omega, by omega, by show _ = _; rw [Nat.pow_zero, Nat.mul_one]⟩
      case round =>
        obtain ⟨rfl, i, v, rfl, rfl, hig, hiK, hv, HV⟩ := hrel
        by_cases hi : i < K
        · have hl : (v : Int) < J := by have := HL.out i hi; rw [← HV.out] at this; have := HJ.out; omega
          have hv2 : 2 * v < 4611686018427387904 := by have := HL.out i hi; rw [← HV.out] at this; omega
          have HV2 : Hid (2 * v = m * 2 ^ (i + 1)) := by show _ = _; rw [HV.out, Nat.pow_succ, Nat.mul_comm 2, Nat.mul_assoc]
          clear HL HE HP HV HJ
          go_wp2
          go_roundg (gk - 1)
          case measure => omega
          case rel => exact ⟨rfl, i + 1, 2 * v, by go_num, by go_num, by omega, by omega, hv2, HV2⟩
        · obtain rfl : i = K := by omega
          have hl : ¬ (v : Int) < J := by have := HE.out; rw [← HV.out] at this; have := HJ.out; omega
          have hs : (v : Int) - J = (prt : Nat) := by have := HE.out; rw [← HV.out] at this; have := HJ.out; omega
          have hp : prt < 1152921504606846976 := HP.out
          clear HL HE HP HV HJ
          go_wp2
          go_meet
          exact ⟨rfl, rfl, by go_num, rfl⟩
  case rest =>
  obtain ⟨rfl, rfl, rfl, rfl⟩ := hcut
  clear hI
  rename World => w
  have HT : Hid (∀ (u : ByteArray) (n : Nat) (h : n < u.size), u.size = n + 1 → (u[n]'h).toNat = 48 → rtr (u.extract 0 n).data.toList = rtr u.data.toList) := fun u n h hn hx => (rtr_cut hn h hx).symm
  have HN : Hid (∀ u : ByteArray, (u.size = 0 ∨ ∃ (n : Nat) (_ : u.size = n + 1) (h0 : n < u.size), ¬ (u[n]'h0).toNat = 48) → rtr u.data.toList = u.data.toList) := fun u h => rtr_done h
  obtain ⟨L, hL⟩ : ∃ L, rtr D.data.toList = L := ⟨_, rfl⟩
  rw [hL] at hP
  have HL : Hid (rtr D.data.toList = L) := hL
  clear hL
  go_wp2_with (first
    | (go_at_call 61; (with_reducible refine (hD _).mono ?_); rintro x w1 ⟨rfl, hw1⟩; subst w1)
    | (go_at_call 106; (with_reducible refine (hZ _).mono ?_); rintro x w1 ⟨rfl, hw1⟩; subst w1))
  go_loopg [12] (D.size) (fun g dv wr => w = wr ∧ ∃ u : ByteArray, dv = .string u ∧ u.size = g ∧ u.size ≤ 100 ∧ Hid (rtr u.data.toList = L))
  case atStart => exact ⟨rfl, D, rfl, rfl, hDz, HL.out⟩
  case round =>
    obtain ⟨rfl, t, rfl, hg, ht, HR⟩ := hrel
    clear HL
    rcases Nat.eq_zero_or_pos t.size with h0 | h0
    · have e2 : t.toList.isEmpty = true := empty_yes t h0
      have HF : Hid (t = ⟨L.toArray⟩) := by show _ = _; exact baE (by rw [mk_li, ← HR.out, HN.out t (.inl h0)])
      obtain ⟨t2, ht2⟩ : ∃ t2, (⟨L.toArray⟩ : ByteArray) = t2 := ⟨_, rfl⟩
      rw [ht2] at hP
      have et : t = t2 := by rw [← ht2]; exact HF.out
      clear HF ht2 HR HT HN
      subst et
      clear h0
      go_wp2_with (first
        | (go_at_call 107; (with_reducible refine (hP _).mono ?_); rintro x w1 ⟨rfl, hw1⟩; subst w1)
        | (go_at_call 62; (with_reducible refine (hG _).mono ?_); rintro x w2 ⟨rfl, hb2⟩))
      go_ret
      exact ⟨rfl, hb2⟩
    · obtain ⟨n, hn⟩ : ∃ n, t.size = n + 1 := ⟨t.size - 1, by omega⟩
      have hlt : n < t.size := by omega
      have e2 : t.toList.isEmpty = false := empty_no t h0
      have hnI : (t.size : Int) - 1 = (n : Int) := by omega
      by_cases hx : (t[n]'hlt).toNat = 48
      · have hxI : ((t[n]'hlt).toNat : Int) = 48 := by omega
        have HR2 : Hid (rtr (t.extract 0 n).data.toList = L) := by show _ = _; rw [HT.out t n hlt hn hx]; exact HR.out
        have hsz : (t.extract 0 n).size = n := by rw [ByteArray.size_extract]; omega
        have hgk : gk = n + 1 := by omega
        clear HR HT HN hn hg
        go_wp2
        go_roundg n
        case measure => omega
        case rel => exact ⟨rfl, t.extract 0 n, rfl, hsz, by omega, HR2⟩
      · have hxI : ¬ ((t[n]'hlt).toNat : Int) = 48 := by omega
        have HF : Hid (t = ⟨L.toArray⟩) := by show _ = _; exact baE (by rw [mk_li, ← HR.out, HN.out t (.inr ⟨n, hn, hlt, hx⟩)])
        obtain ⟨t2, ht2⟩ : ∃ t2, (⟨L.toArray⟩ : ByteArray) = t2 := ⟨_, rfl⟩
        rw [ht2] at hP
        have et : t = t2 := by rw [← ht2]; exact HF.out
        clear HF ht2 HR HT HN hn hg
        subst et
        go_wp2_with (first
          | (go_at_call 107; (with_reducible refine (hP _).mono ?_); rintro x w1 ⟨rfl, hw1⟩; subst w1)
          | (go_at_call 62; (with_reducible refine (hG _).mono ?_); rintro x w2 ⟨rfl, hb2⟩))
        go_ret
        exact ⟨rfl, hb2⟩

set_option maxRecDepth 1000000 in
set_option maxHeartbeats 4000000 in
theorem hexw_15 {m prt : Nat} {e k X : Int} {sh : Bool} {ld D0 D : ByteArray} {Z D2 P G R1 R2 R3 R4 : ByteArray} (hI : HeadI m e ld prt X) (he0 : -100000 ≤ e) (he1 : e ≤ 100000) (hm : m < 1152921504606846976) (hX0 : -200000 ≤ X) (hX1 : X ≤ 200000) (hk : 15 ≤ k) (hk2 : k ≤ 1000) (hD : EdC (prt : Nat) 16 D0) (hZ : EzC D0 15 D) (hO : ∀ w, Calls Tryz.prog 33 #[.int .i64 (k - 15)] w fun e w' => e = .returned (.string Z) ∧ w' = w) (hDZ : D ++ Z = D2) (hP : MpC D2 sh P) (hG : MwC X 2 G) (h1 : (⟨#[48, 120]⟩ : ByteArray) ++ ld = R1) (h2 : R1 ++ P = R2) (h3 : R2 ++ (⟨#[112]⟩ : ByteArray) = R3) (h4 : R3 ++ G = R4) (z0 : ¬ 9223372036854775807 < D.size + Z.size) (z1 : ¬ 9223372036854775807 < (⟨#[48, 120]⟩ : ByteArray).size + ld.size) (z2 : ¬ 9223372036854775807 < R1.size + P.size) (z3 : ¬ 9223372036854775807 < R2.size + (⟨#[112]⟩ : ByteArray).size) (z4 : ¬ 9223372036854775807 < R3.size + G.size) : MhC m e k sh R4 := fun w => by
  have hlz : ld.size = 1 := by rcases hI with ⟨-, rfl, -, -⟩ | ⟨-, rfl, -⟩ <;> rfl
  go_enter Tryz.func63, Tryz.ntmps63
  go_upto_if 20 with fail
  go_cut [0, 1, 9, 10, 11, 20] (fun m1 e1 l1 x1 p1 c1 wx => w = wx ∧ l1 = .string ld ∧ x1 = .int .i64 X ∧ p1 = .int .u64 (prt : Nat))
  case first =>
    as_aux_lemma =>
    clear hD hZ hP hG hO hDZ h1 h2 h3 h4 z0 z1 z2 z3 z4
    rcases hI with ⟨rfl, rfl, rfl, rfl⟩ | ⟨h0, rfl, K, hK, hD, rfl⟩
    · go_wp2
      go_meet
      exact ⟨rfl, rfl, rfl, rfl⟩
    · have h0I : (0 : Int) < m := by omega
      have HL : Hid (∀ i, i < K → m * 2 ^ i < 1152921504606846976) := hD.lt
      have HE : Hid (m * 2 ^ K = 1152921504606846976 + prt) := hD.eq
      have HP : Hid (prt < 1152921504606846976) := hD.low
      clear hD
      generalize hJ : (1152921504606846976 : Int) = J at *
      have HJ : Hid ((1152921504606846976 : Int) = J) := hJ
      clear hJ
      go_wp2
      go_loopg [0, 1] (K + 1) (fun g mv ev wr => w = wr ∧ ∃ i v : Nat, mv = .int .u64 v ∧ ev = .int .i64 (e - i) ∧ i + g = K + 1 ∧ i ≤ K ∧ v < 4611686018427387904 ∧ Hid (v = m * 2 ^ i))
      case atStart => exact ⟨rfl, 0, m, rfl, by go_num, by omega, by omega, by omega, by show _ = _; rw [Nat.pow_zero, Nat.mul_one]⟩
      case round =>
        obtain ⟨rfl, i, v, rfl, rfl, hig, hiK, hv, HV⟩ := hrel
        by_cases hi : i < K
        · have hl : (v : Int) < J := by have := HL.out i hi; rw [← HV.out] at this; have := HJ.out; omega
          have hv2 : 2 * v < 4611686018427387904 := by have := HL.out i hi; rw [← HV.out] at this; omega
          have HV2 : Hid (2 * v = m * 2 ^ (i + 1)) := by show _ = _; rw [HV.out, Nat.pow_succ, Nat.mul_comm 2, Nat.mul_assoc]
          clear HL HE HP HV HJ
          go_wp2
          go_roundg (gk - 1)
          case measure => omega
          case rel => exact ⟨rfl, i + 1, 2 * v, by go_num, by go_num, by omega, by omega, hv2, HV2⟩
        · obtain rfl : i = K := by omega
          have hl : ¬ (v : Int) < J := by have := HE.out; rw [← HV.out] at this; have := HJ.out; omega
          have hs : (v : Int) - J = (prt : Nat) := by have := HE.out; rw [← HV.out] at this; have := HJ.out; omega
          have hp : prt < 1152921504606846976 := HP.out
          clear HL HE HP HV HJ
          go_wp2
          go_meet
          exact ⟨rfl, rfl, by go_num, rfl⟩
  case rest =>
  obtain ⟨rfl, rfl, rfl, rfl⟩ := hcut
  clear hI
  rename World => w
  have hk0 : ¬ k < 0 := by omega
  go_wp2_with (first
    | (go_at_call 61; (with_reducible refine (hD _).mono ?_); rintro x w1 ⟨rfl, hw1⟩; subst w1)
    | (go_at_call 106; (with_reducible refine (hZ _).mono ?_); rintro x w1 ⟨rfl, hw1⟩; subst w1)
    | (go_at_call 33; (with_reducible refine (hO _).mono ?_); rintro x w1 ⟨rfl, hw1⟩; subst w1)
    | (go_at_call 107; (with_reducible refine (hP _).mono ?_); rintro x w1 ⟨rfl, hw1⟩; subst w1)
    | (go_at_call 62; (with_reducible refine (hG _).mono ?_); rintro x w2 ⟨rfl, hb2⟩))
  go_ret
  exact ⟨rfl, hb2⟩

set_option maxRecDepth 1000000 in
set_option maxHeartbeats 8000000 in
theorem hexw_few {m prt : Nat} {e k X : Int} {sh : Bool} {ld D0 D : ByteArray} {U q r kd n : Nat} {last up : Bool} {T0 T1 T2 T P G R1 R2 R3 R4 : ByteArray} {X2 : Int} (hI : HeadI m e ld prt X) (he0 : -100000 ≤ e) (he1 : e ≤ 100000) (hm : m < 1152921504606846976) (hX0 : -200000 ≤ X) (hX1 : X ≤ 200000) (hk : k = (n : Int)) (hn : n < 15) (hU : U = 16 ^ (15 - n)) (hq : prt / U = q) (hr : prt % U = r) (hp : prt < 1152921504606846976)
    (hld : ld = ⟨#[48]⟩ ∨ ld = ⟨#[49]⟩) (hla : last = if n = 0 then decide (ld = ⟨#[49]⟩) else decide (q % 2 = 1)) (hup : up = (decide (U < 2 * r) || (decide (2 * r = U) && last))) (hkd : kd = if up = true then q + 1 else q)
    (hD : EdC (prt : Nat) 16 D0) (hZ : EzC D0 15 D) (hD2 : EdC (kd : Nat) 16 T0) (hZ2 : EzC T0 (n : Nat) T1) (hT2 : T2 = if n = 0 ∧ kd = 0 then ⟨#[]⟩ else T1) (hTz : T2.size ≤ 1000) (hT : T = if n < T2.size then run 48 n else T2) (hX2 : X2 = if n < T2.size then X + 1 else X)
    (hO : ∀ w, Calls Tryz.prog 33 #[.int .i64 (n : Nat)] w fun e w' => e = .returned (.string (run 48 n)) ∧ w' = w) (hP : MpC T sh P) (hG : MwC X2 2 G) (h1 : (⟨#[48, 120]⟩ : ByteArray) ++ ld = R1) (h2 : R1 ++ P = R2) (h3 : R2 ++ (⟨#[112]⟩ : ByteArray) = R3) (h4 : R3 ++ G = R4) (z1 : ¬ 9223372036854775807 < (⟨#[48, 120]⟩ : ByteArray).size + ld.size) (z2 : ¬ 9223372036854775807 < R1.size + P.size) (z3 : ¬ 9223372036854775807 < R2.size + (⟨#[112]⟩ : ByteArray).size) (z4 : ¬ 9223372036854775807 < R3.size + G.size) : MhC m e k sh R4 := fun w => by
  have HU : Hid (U = 16 ^ (15 - n)) := hU
  have hU0 : 0 < U := by rw [hU]; exact Nat.pow_pos (by decide)
  have hU1 : U ≤ 1152921504606846976 := by
    rw [hU]; exact Nat.le_trans (Nat.pow_le_pow_right (by decide) (show 15 - n ≤ 15 by omega)) (by decide)
  have hqle : q ≤ 1152921504606846976 := by rw [← hq]; exact Nat.le_trans (Nat.div_le_self _ _) (by omega)
  have hrlt : r < U := by rw [← hr]; exact Nat.mod_lt _ hU0
  have HQ : Hid (prt / U = q) := hq
  have HR : Hid (prt % U = r) := hr
  have HLA : Hid (last = if n = 0 then decide (ld = ⟨#[49]⟩) else decide (q % 2 = 1)) := hla
  have HUP : Hid (up = (decide (U < 2 * r) || (decide (2 * r = U) && last))) := hup
  have HKD : Hid (kd = if up = true then q + 1 else q) := hkd
  have HT2 : Hid (T2 = if n = 0 ∧ kd = 0 then ⟨#[]⟩ else T1) := hT2
  have HT : Hid (T = if n < T2.size then run 48 n else T2) := hT
  have HX2 : Hid (X2 = if n < T2.size then X + 1 else X) := hX2
  clear hU hq hr hla hup hkd hT2 hT hX2
  subst hk
  have hlz : ld.size = 1 := by rcases hI with ⟨-, rfl, -, -⟩ | ⟨-, rfl, -⟩ <;> rfl
  go_enter Tryz.func63, Tryz.ntmps63
  go_upto_if 20 with fail
  go_cut [0, 1, 9, 10, 11, 20] (fun m1 e1 l1 x1 p1 c1 wx => w = wx ∧ l1 = .string ld ∧ x1 = .int .i64 X ∧ p1 = .int .u64 (prt : Nat))
  case first =>
    as_aux_lemma =>
    clear hld HU HQ HR HLA HUP HKD HT2 HT HX2 hD hZ hD2 hZ2 hO hP hG h1 h2 h3 h4 z1 z2 z3 z4 hqle hrlt hU0 hU1 hTz
    rcases hI with ⟨rfl, rfl, rfl, rfl⟩ | ⟨h0, rfl, K, hK, hD, rfl⟩
    · go_wp2
      go_meet
      exact ⟨rfl, rfl, rfl, rfl⟩
    · have h0I : (0 : Int) < m := by omega
      have HL : Hid (∀ i, i < K → m * 2 ^ i < 1152921504606846976) := hD.lt
      have HE : Hid (m * 2 ^ K = 1152921504606846976 + prt) := hD.eq
      have HP : Hid (prt < 1152921504606846976) := hD.low
      clear hD
      generalize hJ : (1152921504606846976 : Int) = J at *
      have HJ : Hid ((1152921504606846976 : Int) = J) := hJ
      clear hJ
      go_wp2
      go_loopg [0, 1] (K + 1) (fun g mv ev wr => w = wr ∧ ∃ i v : Nat, mv = .int .u64 v ∧ ev = .int .i64 (e - i) ∧ i + g = K + 1 ∧ i ≤ K ∧ v < 4611686018427387904 ∧ Hid (v = m * 2 ^ i))
      case atStart => exact ⟨rfl, 0, m, rfl, by go_num, by omega, by omega, by omega, by show _ = _; rw [Nat.pow_zero, Nat.mul_one]⟩
      case round =>
        obtain ⟨rfl, i, v, rfl, rfl, hig, hiK, hv, HV⟩ := hrel
        by_cases hi : i < K
        · have hl : (v : Int) < J := by have := HL.out i hi; rw [← HV.out] at this; have := HJ.out; omega
          have hv2 : 2 * v < 4611686018427387904 := by have := HL.out i hi; rw [← HV.out] at this; omega
          have HV2 : Hid (2 * v = m * 2 ^ (i + 1)) := by show _ = _; rw [HV.out, Nat.pow_succ, Nat.mul_comm 2, Nat.mul_assoc]
          clear HL HE HP HV HJ
          go_wp2
          go_roundg (gk - 1)
          case measure => omega
          case rel => exact ⟨rfl, i + 1, 2 * v, by go_num, by go_num, by omega, by omega, hv2, HV2⟩
        · obtain rfl : i = K := by omega
          have hl : ¬ (v : Int) < J := by have := HE.out; rw [← HV.out] at this; have := HJ.out; omega
          have hs : (v : Int) - J = (prt : Nat) := by have := HE.out; rw [← HV.out] at this; have := HJ.out; omega
          have hp : prt < 1152921504606846976 := HP.out
          clear HL HE HP HV HJ
          go_wp2
          go_meet
          exact ⟨rfl, rfl, by go_num, rfl⟩
  case rest =>
  obtain ⟨rfl, rfl, rfl, rfl⟩ := hcut
  clear hI
  rename World => w
  have hk0 : ¬ (n : Int) < 0 := by omega
  have hk15 : (n : Int) < 15 := by omega
  go_wp2_with (first
    | (go_at_call 61; (with_reducible refine (hD _).mono ?_); rintro x w1 ⟨rfl, hw1⟩; subst w1)
    | (go_at_call 106; (with_reducible refine (hZ _).mono ?_); rintro x w1 ⟨rfl, hw1⟩; subst w1))
  clear hD hZ
  go_loopg [13, 14] (15 - n) (fun g uv iv wr => w = wr ∧ ∃ (i u : Nat), uv = .int .u64 u ∧ iv = .int .i64 i ∧ i + g = 15 ∧ n ≤ i ∧ u ≤ 1152921504606846976 ∧ Hid (u = 16 ^ (i - n)))
  case atStart => exact ⟨rfl, n, 1, rfl, rfl, by omega, by omega, by omega, by show _ = _; rw [Nat.sub_self]⟩
  case round =>
    obtain ⟨rfl, i, u, rfl, rfl, hig, hni, hu, HV⟩ := hrel
    by_cases hi : i < 15
    · have hiI : (i : Int) < 15 := by omega
      have HV2 : Hid (16 * u = 16 ^ (i + 1 - n)) := by show _ = _; rw [HV.out, show i + 1 - n = (i - n) + 1 by omega, Nat.pow_succ, Nat.mul_comm]
      have hu2 : 16 * u ≤ 1152921504606846976 := by rw [HV2.out]; exact Nat.le_trans (Nat.pow_le_pow_right (by decide) (show i + 1 - n ≤ 15 by omega)) (by decide)
      clear HV HU HQ HR HLA HUP HKD HT2 HT HX2 hD2 hZ2 hO hP hG h1 h2 h3 h4 z1 z2 z3 z4
      go_wp2
      go_roundg (gk - 1)
      case measure => omega
      case rel => exact ⟨rfl, i + 1, 16 * u, by go_num, by go_num, by omega, by omega, hu2, HV2⟩
    · have hiI : ¬ (i : Int) < 15 := by omega
      obtain rfl : u = U := by rw [HV.out, HU.out]; congr 1; omega
      clear HV HU hu
      have hUI : (u : Int) ≠ 0 := by omega
      have hUI2 : 0 < (u : Int) := by omega
      have hQI : (prt : Int) / (u : Int) = (q : Nat) := by rw [← HQ.out]; rfl
      have hRI : (prt : Int) % (u : Int) = (r : Nat) := by rw [← HR.out]; rfl
      have hQT : (prt : Int).tdiv (u : Int) = (q : Nat) := by rw [← HQ.out]; rfl
      have hRT : (prt : Int).tmod (u : Int) = (r : Nat) := by rw [← HR.out]; rfl
      clear HQ HR
      go_upto_region 22 with fail
      go_cut [15, 16] (fun a b wx => Below w.heap.size w wx ∧ a = .int .u64 (q : Nat) ∧ b = .int .u64 (r : Nat))
      case first =>
        as_aux_lemma =>
        clear HLA HUP HKD HT2 HT HX2 hD2 hZ2 hO hP hG h1 h2 h3 h4 z1 z2 z3 z4
        go_region
        all_goals go_wp2_with fail
        all_goals go_meet
        all_goals exact ⟨(Below.refl _ _).drew, rfl, rfl⟩
      case rest =>
      obtain ⟨hbc, rfl, rfl⟩ := hcut
      rename World => W
      clear hQI hRI hQT hRT
      go_upto_if 94 with fail
      go_cut [17] (fun l wx => W = wx ∧ l = .bool last)
      case first =>
        as_aux_lemma =>
        clear HUP HKD HT2 HT HX2 hD2 hZ2 hO hP hG h1 h2 h3 h4 z1 z2 z3 z4
        by_cases hn0 : n = 0
        · have b0 : ((n : Int) == 0) = true := by rw [hn0]; rfl
          have HL1 : Hid (last = decide (ld = ⟨#[49]⟩)) := by show _ = _; rw [HLA.out, if_pos hn0]
          clear HLA hn0
          rcases hld with rfl | rfl
          · have e : last = false := HL1.out
            clear HL1
            subst e
            go_wp2
            go_meet
            exact ⟨rfl, rfl⟩
          · have e : last = true := HL1.out
            clear HL1
            subst e
            go_wp2
            go_meet
            exact ⟨rfl, rfl⟩
        · have b0 : ((n : Int) == 0) = false := by rw [beq_eq_false_iff_ne]; omega
          have HL1 : Hid (last = decide (q % 2 = 1)) := by show _ = _; rw [HLA.out, if_neg hn0]
          clear HLA hn0
          go_wp2
          go_meet
          refine ⟨rfl, ?_⟩
          rw [HL1.out]
          by_cases h : q % 2 = 1
          · rw [decide_eq_true h, beq_iff_eq.2 (by omega)]
          · rw [decide_eq_false h, beq_eq_false_iff_ne.2 (by omega)]
      case rest =>
      obtain ⟨hw2, rfl⟩ := hcut
      subst hw2
      clear HLA
      go_upto_region 26 with fail
      go_cut [109] (fun b wx => W = wx ∧ b = .bool up)
      case first =>
        as_aux_lemma =>
        clear HKD HT2 HT HX2 hD2 hZ2 hO hP hG h1 h2 h3 h4 z1 z2 z3 z4 hld
        rcases Nat.lt_trichotomy u (2 * r) with h | h | h
        · have e : up = true := by rw [HUP.out, decide_eq_true h]; rfl
          have hI : (u : Int) < 2 * (r : Int) := by omega
          clear HUP h
          subst e
          go_wp2
          go_meet
          exact ⟨rfl, rfl⟩
        · have e : up = last := by rw [HUP.out, decide_eq_false (by omega), decide_eq_true h.symm]; rfl
          have hI : ¬ (u : Int) < 2 * (r : Int) := by omega
          have hJ : ((2 * (r : Int)) == (u : Int)) = true := by rw [beq_iff_eq]; omega
          clear HUP h
          subst e
          cases up <;>
          · go_wp2
            go_meet
            exact ⟨rfl, rfl⟩
        · have e : up = false := by rw [HUP.out, decide_eq_false (by omega), decide_eq_false (by omega)]; rfl
          have hI : ¬ (u : Int) < 2 * (r : Int) := by omega
          have hJ : ((2 * (r : Int)) == (u : Int)) = false := by rw [beq_eq_false_iff_ne]; omega
          clear HUP h
          subst e
          go_wp2
          go_meet
          exact ⟨rfl, rfl⟩
      case rest =>
      obtain ⟨hw2, rfl⟩ := hcut
      subst hw2
      clear HUP
      have hkd1 : kd ≤ 1152921504606846977 := by rw [HKD.out]; split <;> omega
      go_upto_if 109 with fail
      go_cut [15] (fun a wx => W = wx ∧ a = .int .u64 (kd : Nat))
      case first =>
        as_aux_lemma =>
        clear HT2 HT HX2 hD2 hZ2 hO hP hG h1 h2 h3 h4 z1 z2 z3 z4 hld
        cases up with
        | true =>
          have e : kd = q + 1 := HKD.out
          clear HKD
          subst e
          go_wp2
          go_meet
          exact ⟨rfl, by go_num⟩
        | false =>
          have e : kd = q := HKD.out
          clear HKD
          subst e
          go_wp2
          go_meet
          exact ⟨rfl, rfl⟩
      case rest =>
      obtain ⟨hw2, rfl⟩ := hcut
      subst hw2
      clear HKD
      go_upto_region 29 with (first
        | (go_at_call 61; (with_reducible refine (hD2 _).mono ?_); rintro x w1 ⟨rfl, hw1⟩; subst w1)
        | (go_at_call 106; (with_reducible refine (hZ2 _).mono ?_); rintro x w1 ⟨rfl, hw1⟩; subst w1))
      clear hD2 hZ2
      go_cut [121] (fun b wx => W = wx ∧ b = .bool (decide (n = 0 ∧ kd = 0)))
      case first =>
        as_aux_lemma =>
        clear HT2 HT HX2 hO hP hG h1 h2 h3 h4 z1 z2 z3 z4 hld
        by_cases c1 : n = 0
        · have b1 : ((n : Int) == 0) = true := by rw [c1]; rfl
          by_cases c2 : kd = 0
          · have b2 : ((kd : Int) == 0) = true := by rw [c2]; rfl
            have hd : Hid (decide (n = 0 ∧ kd = 0) = true) := decide_eq_true ⟨c1, c2⟩
            clear c1 c2
            go_wp2
            go_meet
            exact ⟨rfl, by rw [hd.out]⟩
          · have b2 : ((kd : Int) == 0) = false := by rw [beq_eq_false_iff_ne]; omega
            have hd : Hid (decide (n = 0 ∧ kd = 0) = false) := decide_eq_false (by omega)
            clear c1 c2
            go_wp2
            go_meet
            exact ⟨rfl, by rw [hd.out]⟩
        · have b1 : ((n : Int) == 0) = false := by rw [beq_eq_false_iff_ne]; omega
          have hd : Hid (decide (n = 0 ∧ kd = 0) = false) := decide_eq_false (by omega)
          clear c1
          go_wp2
          go_meet
          exact ⟨rfl, by rw [hd.out]⟩
      case rest =>
      obtain ⟨hw2, hb2⟩ := hcut
      subst hw2
      go_upto_if 121 with fail
      go_cut [18] (fun t wx => W = wx ∧ t = .string T2)
      case first =>
        as_aux_lemma =>
        clear HT HX2 hO hP hG h1 h2 h3 h4 z1 z2 z3 z4 hld
        by_cases c1 : n = 0 ∧ kd = 0
        · have e : T2 = ⟨#[]⟩ := by rw [HT2.out, if_pos c1]
          rw [decide_eq_true c1] at hb2
          clear HT2 c1
          subst hb2 e
          go_wp2
          go_meet
          exact ⟨rfl, rfl⟩
        · have e : T2 = T1 := by rw [HT2.out, if_neg c1]
          rw [decide_eq_false c1] at hb2
          clear HT2 c1
          subst hb2 e
          go_wp2
          go_meet
          exact ⟨rfl, rfl⟩
      case rest =>
      obtain ⟨hw2, rfl⟩ := hcut
      subst hw2 hb2
      clear HT2
      go_upto_if 125 with fail
      go_cut [10, 18] (fun x t wx => W = wx ∧ x = .int .i64 X2 ∧ t = .string T)
      case first =>
        as_aux_lemma =>
        clear hP hG h1 h2 h3 h4 z1 z2 z3 z4 hld
        by_cases c1 : n < T2.size
        · have e : T = run 48 n := by rw [HT.out, if_pos c1]
          have e2 : X2 = X + 1 := by rw [HX2.out, if_pos c1]
          have cI : (n : Int) < T2.size := by omega
          clear HT HX2 c1
          subst e e2
          go_wp2_with (go_at_call 33; (with_reducible refine (hO _).mono ?_); rintro x w1 ⟨rfl, hw1⟩; subst w1)
          go_meet
          exact ⟨rfl, by go_num, rfl⟩
        · have e : T = T2 := by rw [HT.out, if_neg c1]
          have e2 : X2 = X := by rw [HX2.out, if_neg c1]
          have cI : ¬ (n : Int) < T2.size := by omega
          clear HT HX2 c1
          subst e e2
          go_wp2
          go_meet
          exact ⟨rfl, rfl, rfl⟩
      case rest =>
      obtain ⟨hw2, rfl, rfl⟩ := hcut
      subst hw2
      go_wp2_with (first
        | (go_at_call 107; (with_reducible refine (hP _).mono ?_); rintro x w1 ⟨rfl, hw1⟩; subst w1)
        | (go_at_call 62; (with_reducible refine (hG _).mono ?_); rintro x w2 ⟨rfl, hb2⟩))
      go_ret
      exact ⟨rfl, bel_call hbc hb2 (Nat.le_refl _)⟩
end Go.Proofs.YthbabhbfpcfenaaGreatDoor

/- The document's Bare by x and X is what the program writes. -/
namespace Go.Proofs.YthbabhbfpcfenaaGreatDoor
open Go.RowKit
set_option linter.unusedVariables false
set_option linter.unusedSimpArgs false

theorem dbl_of {m p : Nat} (h0 : m ≠ 0) (hm : m * 2 ^ nmS m = 16 ^ 13 + p) (hp : p < 16 ^ 13) : Dbl m (nmS m + 8) (p * 256) := by
  have e13 : (16 : Nat) ^ 13 = 4503599627370496 := by decide
  rw [e13] at hm hp
  have e : m * 2 ^ (nmS m + 8) = (4503599627370496 + p) * 256 := by rw [Nat.pow_add, ← Nat.mul_assoc, hm]
  refine ⟨fun i hi => ?_, by rw [e]; omega, by omega⟩
  have h1 : m * 2 ^ i * 2 ≤ m * 2 ^ (nmS m + 8) := by
    rw [Nat.mul_assoc, ← Nat.pow_succ]
    exact Nat.mul_le_mul_left _ (Nat.pow_le_pow_right (by decide) (by omega))
  omega
theorem hxl_size (k n : Nat) : (⟨(hx k n).toArray⟩ : ByteArray).size = k := by rw [mk_size, hx_len]
theorem ezeros_is (s : ByteArray) (n : Int) (h : n ≤ 1000) : lenS s n = lnA s n := by
  unfold lenS lnA wdt
  congr 2
  omega
theorem lead_long {n : Nat} (h : 16 ^ n < 2 ^ 64) : n < (digT false 16 (16 ^ n)).size := by
  have hl : (lnA (digT false 16 (16 ^ n)) ((n + 1 : Nat) : Int)).data.toList = hx (n + 1) (16 ^ n) := dig_hx (by omega) (by rw [Nat.pow_succ]; have : 0 < 16 ^ n := Nat.pow_pos (by decide); omega) h
  have h2 := hx_lead n 0 (Nat.pow_pos (by decide))
  rw [Nat.add_zero, Nat.add_comm 1] at h2
  rw [h2] at hl
  rcases Nat.lt_or_ge n (digT false 16 (16 ^ n)).size with h3 | h3
  · exact h3
  · exfalso
    rw [lnA_list] at hl
    obtain ⟨j, hj⟩ : ∃ j, (((n + 1 : Nat) : Int) - ((digT false 16 (16 ^ n)).size : Nat)).toNat = j + 1 := ⟨n - (digT false 16 (16 ^ n)).size, by omega⟩
    rw [hj, List.replicate_succ, List.cons_append] at hl
    injection hl with e1 e2
    exact absurd e1 (by decide)
/-- The document's x, whatever the precision. -/
theorem mhex_any {m p : Nat} {e k P : Int} {sh : Bool} {ld : UInt8} {X : Int} (hI : HeadI m e ⟨#[ld]⟩ (p * 256) X) (hH : HexI m e P ld p X) (hld : ld = 49 ∨ (ld = 48 ∧ p = 0)) (he0 : -2000 ≤ e) (he1 : e ≤ 2000) (hm : m < 2 ^ 53) (hX0 : -3000 ≤ X) (hX1 : X ≤ 3000) (hkP : k < 0 ∧ P < 0 ∨ 0 ≤ k ∧ k = P ∧ k ≤ 1000) : MhC m e k sh (hexT sh P m e) := by
  have hp := hH.lt
  have e13 : (16 : Nat) ^ 13 = 4503599627370496 := by decide
  have e15 : (16 : Nat) ^ 15 = 1152921504606846976 := by decide
  have hprt : p * 256 < 1152921504606846976 := by omega
  have hm2 : m < 1152921504606846976 := Nat.lt_of_lt_of_le hm (by decide)
  have hD : EdC ((p * 256 : Nat) : Int) 16 (digT false 16 (p * 256)) := fun w => edigits_any (p * 256) 16 w (by omega) (.inr (.inr (.inr rfl)))
  have hdz := digT_size false 16 (p * 256)
  have e15l : lnA (digT false 16 (p * 256)) 15 = ⟨(hx 15 (p * 256)).toArray⟩ := baE (by
    rw [mk_li]; exact dig_hx (k := 15) (by decide) (by omega) (Nat.lt_trans hprt (by decide)))
  have hZ : EzC (digT false 16 (p * 256)) 15 ⟨(hx 15 (p * 256)).toArray⟩ := fun w => by
    have := ezeros_any (digT false 16 (p * 256)) 15 w (by omega) (by decide)
    rw [ezeros_is _ _ (by decide), e15l] at this
    exact this
  have hG : ∀ Y : Int, -4000 ≤ Y → Y ≤ 4000 → MwC Y 2 (sgd Y 2) := fun Y h0 h1 w => mpower_any Y 2 w (by omega) (by omega) (by decide) (by decide)
  have hGz : ∀ Y : Int, (sgd Y 2).size ≤ 80 := fun Y => (sgd_size Y 2 (by decide)).1
  have c1 : (⟨#[48, 120]⟩ : ByteArray).size = 2 := rfl
  have c2 : (⟨#[ld]⟩ : ByteArray).size = 1 := rfl
  have c3 : (⟨#[112]⟩ : ByteArray).size = 1 := rfl
  have hMp : ∀ b : ByteArray, b.size ≤ 2000 → MpC b sh (ptB sh b) := fun b hb w => mpoint_any b sh w (by omega)
  rcases hkP with ⟨hk, hP⟩ | ⟨hk, rfl, hk1⟩
  · obtain ⟨h1, h2⟩ := hH.all (.inl hP)
    rw [hexT_is h1 h2 (hxP_neg hP)]
    have hz : (⟨(rtr (hx 15 (p * 256))).toArray⟩ : ByteArray).size ≤ 15 := by
      rw [mk_size]
      have := rtr_len (hx 15 (p * 256))
      rw [hx_len] at this; exact this
    have hpz := ptB_size sh ⟨(rtr (hx 15 (p * 256))).toArray⟩
    have hgz := hGz X
    have hMP := hMp ⟨(rtr (hx 15 (p * 256))).toArray⟩ (by omega)
    refine hexw_neg hI (by omega) (by omega) hm2 (by omega) (by omega) hk hD hZ (by rw [hxl_size]; decide) (by rw [mk_li]; exact hMP) (hG X (by omega) (by omega)) rfl rfl rfl rfl ?_ ?_ ?_ ?_
    all_goals simp only [app_size, c1, c2, c3]
    all_goals omega
  · obtain ⟨n, rfl⟩ := Int.eq_ofNat_of_zero_le hk
    by_cases h15 : 15 ≤ n
    · obtain ⟨h1, h2⟩ := hH.all (.inr (by omega))
      rw [hexT_is h1 h2 (hxP_15 h15)]
      have hz15 := hxl_size 15 (p * 256)
      have hrz : (run 48 (n - 15)).size = n - 15 := run_size _ _
      have hDz : ((⟨(hx 15 (p * 256)).toArray⟩ : ByteArray) ++ run 48 (n - 15)).size ≤ 1000 := by rw [app_size, hz15, hrz]; omega
      have hpz := ptB_size sh ((⟨(hx 15 (p * 256)).toArray⟩ : ByteArray) ++ run 48 (n - 15))
      have hgz := hGz X
      have hO : ∀ w, Calls Tryz.prog 33 #[.int .i64 ((n : Int) - 15)] w fun e w' => e = .returned (.string (run 48 (n - 15))) ∧ w' = w := fun w => by
        have := mzeros_any ((n : Int) - 15) w (by omega)
        rw [show ((n : Int) - 15).toNat = n - 15 by omega] at this
        exact this
      refine hexw_15 hI (by omega) (by omega) hm2 (by omega) (by omega) (by omega) hk1 hD hZ hO rfl (hMp _ (by omega)) (hG X (by omega) (by omega)) rfl rfl rfl rfl ?_ ?_ ?_ ?_ ?_
      all_goals simp only [app_size, c1, c2, c3, hz15, hrz] at *
      all_goals omega
    · obtain ⟨kd, hkd⟩ : ∃ kd, kpD (p * 256) (16 ^ (15 - n)) (lastD ld n (p * 256 / 16 ^ (15 - n))) = kd := ⟨_, rfl⟩
      have hO : ∀ w, Calls Tryz.prog 33 #[.int .i64 (n : Nat)] w fun e w' => e = .returned (.string (run 48 n)) ∧ w' = w := fun w => mzeros_any (n : Int) w (by omega)
      have hU15 : 16 ^ n ≤ 1152921504606846976 := by rw [← e15]; exact Nat.pow_le_pow_right (by decide) (by omega)
      -- what is kept, and its digits
      have key : ∃ (D : ByteArray) (X2 : Int), hexT sh (n : Nat) m e = hexM sh ⟨#[ld]⟩ D X2 ∧ kd ≤ 16 ^ n ∧ D.size ≤ 15 ∧ X ≤ X2 ∧ X2 ≤ X + 1 ∧ (kd < 16 ^ n → D = ⟨(hx n kd).toArray⟩ ∧ X2 = X) ∧ (kd = 16 ^ n → D = run 48 n ∧ X2 = X + 1) := by
        have hpn : 0 < 16 ^ n := Nat.pow_pos (by decide)
        by_cases h13 : n < 13
        · rw [kpD_lo h13 hp hld] at hkd
          have hle := kpt_le h13 hp
          rw [hkd] at hle
          by_cases hk2 : kd < 16 ^ n
          · obtain ⟨h1, h2⟩ := hH.keep n rfl h13 (by rw [hkd]; exact hk2)
            rw [hkd] at h1
            exact ⟨_, _, hexT_is h1 h2 (hxP_keep h13), hle, by rw [hxl_size]; omega, by omega, by omega, fun _ => ⟨rfl, rfl⟩, fun h => by omega⟩
          · obtain ⟨h1, h2⟩ := hH.carry n rfl h13 (by rw [hkd]; exact hk2)
            exact ⟨_, _, hexT_is h1 h2 (hxP_carry h13), hle, by rw [run_size]; omega, by omega, by omega, fun h => absurd h hk2, fun _ => ⟨rfl, rfl⟩⟩
        · have hn : n = 13 ∨ n = 14 := by omega
          rw [kpD_hi hn] at hkd
          obtain ⟨h1, h2⟩ := hH.all (.inr (by omega))
          have hlt : kd < 16 ^ n := by
            rw [← hkd, show 16 ^ n = 16 ^ 13 * 16 ^ (n - 13) by rw [← Nat.pow_add]; congr 1; omega]
            exact Nat.mul_lt_mul_of_pos_right hp (Nat.pow_pos (by decide))
          have h3 := hxP_13 (p := p) hn
          rw [hkd] at h3
          exact ⟨_, _, hexT_is h1 h2 h3, by omega, by rw [hxl_size]; omega, by omega, by omega, fun _ => ⟨rfl, rfl⟩, fun h => by omega⟩
      obtain ⟨D, X2, hT, hkle, hDz, hX2a, hX2b, hlo, hhi⟩ := key
      rw [hT]
      have hk64 : kd < 18446744073709551616 := by omega
      have hD2 : EdC (kd : Nat) 16 (digT false 16 kd) := fun w => edigits_any kd 16 w hk64 (.inr (.inr (.inr rfl)))
      have hd2z := digT_size false 16 kd
      have hZ2 : EzC (digT false 16 kd) (n : Nat) (lnA (digT false 16 kd) (n : Nat)) := fun w => by
        have := ezeros_any (digT false 16 kd) (n : Int) w (by omega) (by omega)
        rw [ezeros_is _ _ (by omega)] at this
        exact this
      have hlz := lnA_size (digT false 16 kd) (n : Int)
      obtain ⟨T2, hT2⟩ : ∃ T2 : ByteArray, T2 = if n = 0 ∧ kd = 0 then ⟨#[]⟩ else lnA (digT false 16 kd) (n : Int) := ⟨_, rfl⟩
      -- the digits that are kept fit, or they are one and noughts
      have hT2s : (kd < 16 ^ n → T2 = ⟨(hx n kd).toArray⟩) ∧ (kd = 16 ^ n → n < T2.size) ∧ T2.size ≤ 1000 := by
        refine ⟨fun h => ?_, fun h => ?_, ?_⟩
        · rw [hT2]
          by_cases h0 : n = 0
          · subst h0
            have hk0 : kd = 0 := by simp at h; exact h
            rw [if_pos ⟨rfl, hk0⟩]; rfl
          · rw [if_neg (by omega)]
            exact baE (by rw [mk_li]; exact dig_hx (by omega) h (by omega))
        · have hne : ¬ (n = 0 ∧ kd = 0) := by
            rintro ⟨-, h0⟩
            have : 0 < 16 ^ n := Nat.pow_pos (by decide)
            omega
          rw [hT2, if_neg hne]
          have := lead_long (n := n) (by omega)
          rw [h, lnA_size]; omega
        · rw [hT2]
          split
          · decide
          · rw [lnA_size]; omega
      obtain ⟨k1, k2, k3⟩ := hT2s
      have hcase : D = (if n < T2.size then run 48 n else T2) ∧ X2 = (if n < T2.size then X + 1 else X) := by
        rcases Nat.lt_or_ge kd (16 ^ n) with h | h
        · obtain ⟨d1, d2⟩ := hlo h
          have e := k1 h
          have hz : T2.size = n := by rw [e, hxl_size]
          rw [if_neg (by omega), if_neg (by omega), d1, e, d2]
          exact ⟨rfl, rfl⟩
        · obtain ⟨d1, d2⟩ := hhi (by omega)
          have e := k2 (by omega)
          rw [if_pos e, if_pos e]
          exact ⟨d1, d2⟩
      have hpz := ptB_size sh D
      have hgz := hGz X2
      have hldB : (⟨#[ld]⟩ : ByteArray) = ⟨#[48]⟩ ∨ (⟨#[ld]⟩ : ByteArray) = ⟨#[49]⟩ := by
        rcases hld with rfl | ⟨rfl, -⟩
        · exact .inr rfl
        · exact .inl rfl
      have hla : lastD ld n (p * 256 / 16 ^ (15 - n)) = if n = 0 then decide ((⟨#[ld]⟩ : ByteArray) = ⟨#[49]⟩) else decide (p * 256 / 16 ^ (15 - n) % 2 = 1) := by
        unfold lastD
        split
        · rcases hld with rfl | ⟨rfl, -⟩ <;> decide
        · rfl
      refine hexw_few hI (by omega) (by omega) hm2 (by omega) (by omega) rfl (by omega) rfl rfl rfl hprt hldB hla rfl (kd := kd) ?_ hD hZ hD2 hZ2 hT2 k3 hcase.1 hcase.2 hO (hMp D (by omega)) (hG X2 (by omega) (by omega)) rfl rfl rfl rfl ?_ ?_ ?_ ?_
      · rw [← hkd]; rfl
      all_goals simp only [app_size, c1, c2, c3]
      all_goals omega
theorem mhex_is {m : Nat} {e : Int} (sh : Bool) (prec : Int) (hm : m < 2 ^ 53) (he0 : -2000 ≤ e) (he1 : e ≤ 2000) : MhC m e (wdE prec) sh (hexT sh (min prec 1000) m e) := by
  obtain ⟨w1, w2, w3⟩ := wdE_min prec
  have hkP : wdE prec < 0 ∧ min prec 1000 < 0 ∨ 0 ≤ wdE prec ∧ wdE prec = min prec 1000 ∧ wdE prec ≤ 1000 := by
    by_cases h : prec < 0
    · exact .inl ⟨w1 h, by omega⟩
    · exact .inr ⟨by rw [w2 h]; omega, w2 h, w3⟩
  by_cases h0 : m = 0
  · subst h0
    exact mhex_any (p := 0) (ld := 48) (X := 0) (.inl ⟨rfl, rfl, rfl, rfl⟩) (hexI_0 e _) (.inr ⟨rfl, rfl⟩) he0 he1 hm (by decide) (by decide) hkP
  · obtain ⟨hs, p, h1, h2⟩ := nm_in h0 hm
    have hX : e + 52 - (nmS m : Int) = e - ((nmS m + 8 : Nat) : Int) + 60 := by omega
    exact mhex_any (p := p) (ld := 49) (X := e + 52 - nmS m) (.inr ⟨h0, rfl, nmS m + 8, by omega, dbl_of h0 h1 h2, hX⟩) (hexI_m e _ h0 h1 h2) (.inl rfl) he0 he1 hm (by omega) (by omega) hkP
theorem mbare_x {bits m v : Nat} {size e : Int} (hX : HxC m e (oS v) (oP v)) (hm : m < 2 ^ 53) (he0 : -2000 ≤ e) (he1 : e ≤ 2000) (p mi sh sp z : Bool) (wid prec : Int) (d : Nat) : BaC bits size m e p mi sh sp z wid prec 120 (finT sh prec m e v d 120) := by
  rw [finT_120]
  exact bare_120 p mi sh sp z wid prec (fun w => rwidth_any prec w) hX (mhex_is sh prec hm he0 he1)
theorem mbare_X {bits m v : Nat} {size e : Int} (hX : HxC m e (oS v) (oP v)) (hm : m < 2 ^ 53) (he0 : -2000 ≤ e) (he1 : e ≤ 2000) (p mi sh sp z : Bool) (wid prec : Int) (d : Nat) : BaC bits size m e p mi sh sp z wid prec 88 (finT sh prec m e v d 88) := by
  have hP : min prec 1000 ≤ 1000 := by omega
  rw [finT_88]
  have hz : (hexT sh (min prec 1000) m e).size ≤ 100000 := by
    generalize min prec 1000 = P at *
    have hs := hxD_size m P hm
    have hb : ((hxD m P).extract 1 (hxD m P).size).size = 13 := by rw [ByteArray.size_extract, hs]; decide
    have ha : ((hxD m P).extract 0 1).size ≤ 1 := by rw [ByteArray.size_extract]; omega
    have hhp : (hxP ((hxD m P).extract 1 (hxD m P).size) P).size ≤ 2000 := by
      unfold hxP
      split
      · rw [mk_size]
        have := rtr_len ((hxD m P).extract 1 (hxD m P).size).data.toList
        rw [list_len] at this; omega
      · rw [lnB_size, ByteArray.size_extract]; omega
    have ht := ptd_size sh ((hxD m P).extract 0 1) (hxP ((hxD m P).extract 1 (hxD m P).size) P)
    have hg := sgd_size (nmE m e P) 2 (by decide)
    have h3 : (⟨#[112]⟩ : ByteArray).size = 1 := rfl
    have h4 : (⟨#[48, 120]⟩ : ByteArray).size = 2 := rfl
    unfold hexT
    rw [app_size, app_size, app_size]; omega
  refine bare_88 p mi sh sp z wid prec (fun w => rwidth_any prec w) hX (mhex_is sh prec hm he0 he1) (fun w => ?_)
  exact egreat_any (hexT sh (min prec 1000) m e) w hz
end Go.Proofs.YthbabhbfpcfenaaGreatDoor
