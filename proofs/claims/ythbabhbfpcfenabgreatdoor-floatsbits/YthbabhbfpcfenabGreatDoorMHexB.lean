/- The document's hexadecimal text (x, X), walked: one theorem for each way to its digits. -/
import Derived.Test.YthbabhbfpcfenabGreatDoorMHexA
namespace Go.Proofs.YthbabhbfpcfenabGreatDoor
open Go.RowKit
set_option linter.unusedVariables false
set_option linter.unusedSimpArgs false

abbrev MhC (m : Nat) (e k : Int) (sh : Bool) (T : ByteArray) : Prop := ∀ w, Calls Tryz.prog 95 #[.int .u64 m, .int .i64 e, .int .i64 k, .bool sh] w fun e w' => e = .returned (.string T) ∧ Below w.heap.size w w'
/-- Doubled so often, the number has its highest bit at 60. -/
structure Dbl (m K p : Nat) : Prop where
  lt : ∀ i, i < K → m * 2 ^ i < 1152921504606846976
  eq : m * 2 ^ K = 1152921504606846976 + p
  low : p < 1152921504606846976
/-- What the first part of x leaves: the digit ahead of the point, the rest, the power. -/
def HeadI (m : Nat) (e : Int) (ld : ByteArray) (prt : Nat) (X : Int) : Prop := m = 0 ∧ ld = ⟨#[48]⟩ ∧ prt = 0 ∧ X = 0 ∨ m ≠ 0 ∧ ld = ⟨#[49]⟩ ∧ ∃ K : Nat, K ≤ 100 ∧ Dbl m K prt ∧ X = e - K + 60

set_option maxRecDepth 1000000 in
set_option maxHeartbeats 4000000 in
theorem hexw_neg {m prt : Nat} {e k X : Int} {sh : Bool} {ld D0 D : ByteArray} {P G R1 R2 R3 R4 : ByteArray} (hI : HeadI m e ld prt X) (he0 : -100000 ≤ e) (he1 : e ≤ 100000) (hm : m < 1152921504606846976) (hX0 : -200000 ≤ X) (hX1 : X ≤ 200000) (hk : k < 0) (hD : EdC (prt : Nat) 16 D0) (hZ : EzC D0 15 D) (hDz : D.size ≤ 100) (hP : MpC ⟨(rtr D.data.toList).toArray⟩ sh P) (hG : MwC X 2 G) (h1 : (⟨#[48, 120]⟩ : ByteArray) ++ ld = R1) (h2 : R1 ++ P = R2) (h3 : R2 ++ (⟨#[112]⟩ : ByteArray) = R3) (h4 : R3 ++ G = R4) (z1 : ¬ 9223372036854775807 < (⟨#[48, 120]⟩ : ByteArray).size + ld.size) (z2 : ¬ 9223372036854775807 < R1.size + P.size) (z3 : ¬ 9223372036854775807 < R2.size + (⟨#[112]⟩ : ByteArray).size) (z4 : ¬ 9223372036854775807 < R3.size + G.size) : MhC m e k sh R4 := fun w => by
  have hlz : ld.size = 1 := by rcases hI with ⟨-, rfl, -, -⟩ | ⟨-, rfl, -⟩ <;> rfl
  go_enter Tryz.func95, Tryz.ntmps95
  go_upto_if 20 with fail
  go_cut [0, 1, 9, 10, 11, 20] (fun m1 e1 l1 x1 p1 c1 wx => w = wx ∧ l1 = .string ld ∧ x1 = .int .i64 X ∧ p1 = .int .u64 (prt : Nat))
  case first =>
    as_aux_lemma =>
    clear hD hZ hP hG h1 h2 h3 h4 z1 z2 z3 z4 hDz
    rcases hI with ⟨rfl, rfl, rfl, rfl⟩ | ⟨h0, rfl, K, hK, hD, rfl⟩
    · go_wp2
      go_meet
      exact ⟨rfl, rfl, rfl, rfl⟩
    · have h0I : (0 : Int) < m := by omega
      have HL : Hid (∀ i, i < K → m * 2 ^ i < 1152921504606846976) := hD.lt
      have HE : Hid (m * 2 ^ K = 1152921504606846976 + prt) := hD.eq
      have HP : Hid (prt < 1152921504606846976) := hD.low
      clear hD
      generalize hJ : (1152921504606846976 : Int) = J at *
      have HJ : Hid ((1152921504606846976 : Int) = J) := hJ
      clear hJ
      go_wp2
      go_loopg [0, 1] (K + 1) (fun g mv ev wr => w = wr ∧ ∃ i v : Nat, mv = .int .u64 v ∧ ev = .int .i64 (e - i) ∧ i + g = K + 1 ∧ i ≤ K ∧ v < 4611686018427387904 ∧ Hid (v = m * 2 ^ i))
      case atStart => exact ⟨rfl, 0, m, rfl, by go_num, by omega, by omega, by omega, by show _ = _; rw [Nat.pow_zero, Nat.mul_one]⟩
      case round =>
        obtain ⟨rfl, i, v, rfl, rfl, hig, hiK, hv, HV⟩ := hrel
        by_cases hi : i < K
        · have hl : (v : Int) < J := by have := HL.out i hi; rw [← HV.out] at this; have := HJ.out; omega
          have hv2 : 2 * v < 4611686018427387904 := by have := HL.out i hi; rw [← HV.out] at this; omega
          have HV2 : Hid (2 * v = m * 2 ^ (i + 1)) := by show _ = _; rw [HV.out, Nat.pow_succ, Nat.mul_comm 2, Nat.mul_assoc]
          clear HL HE HP HV HJ
          go_wp2
          go_roundg (gk - 1)
          case measure => omega
          case rel => exact ⟨rfl, i + 1, 2 * v, by go_num, by go_num, by omega, by omega, hv2, HV2⟩
        · obtain rfl : i = K := by omega
          have hl : ¬ (v : Int) < J := by have := HE.out; rw [← HV.out] at this; have := HJ.out; omega
          have hs : (v : Int) - J = (prt : Nat) := by have := HE.out; rw [← HV.out] at this; have := HJ.out; omega
          have hp : prt < 1152921504606846976 := HP.out
          clear HL HE HP HV HJ
          go_wp2
          go_meet
          exact ⟨rfl, rfl, by go_num, rfl⟩
  case rest =>
  obtain ⟨rfl, rfl, rfl, rfl⟩ := hcut
  clear hI
  rename World => w
  have HT : Hid (∀ (u : ByteArray) (n : Nat) (h : n < u.size), u.size = n + 1 → (u[n]'h).toNat = 48 → rtr (u.extract 0 n).data.toList = rtr u.data.toList) := fun u n h hn hx => (rtr_cut hn h hx).symm
  have HN : Hid (∀ u : ByteArray, (u.size = 0 ∨ ∃ (n : Nat) (_ : u.size = n + 1) (h0 : n < u.size), ¬ (u[n]'h0).toNat = 48) → rtr u.data.toList = u.data.toList) := fun u h => rtr_done h
  obtain ⟨L, hL⟩ : ∃ L, rtr D.data.toList = L := ⟨_, rfl⟩
  rw [hL] at hP
  have HL : Hid (rtr D.data.toList = L) := hL
  clear hL
  go_wp2_with (first
    | (go_at_call 93; (with_reducible refine (hD _).mono ?_); rintro x w1 ⟨rfl, hw1⟩; subst w1)
    | (go_at_call 139; (with_reducible refine (hZ _).mono ?_); rintro x w1 ⟨rfl, hw1⟩; subst w1))
  go_loopg [12] (D.size) (fun g dv wr => w = wr ∧ ∃ u : ByteArray, dv = .string u ∧ u.size = g ∧ u.size ≤ 100 ∧ Hid (rtr u.data.toList = L))
  case atStart => exact ⟨rfl, D, rfl, rfl, hDz, HL.out⟩
  case round =>
    obtain ⟨rfl, t, rfl, hg, ht, HR⟩ := hrel
    clear HL
    rcases Nat.eq_zero_or_pos t.size with h0 | h0
    · have e2 : t.toList.isEmpty = true := empty_yes t h0
      have HF : Hid (t = ⟨L.toArray⟩) := by show _ = _; exact baE (by rw [mk_li, ← HR.out, HN.out t (.inl h0)])
      obtain ⟨t2, ht2⟩ : ∃ t2, (⟨L.toArray⟩ : ByteArray) = t2 := ⟨_, rfl⟩
      rw [ht2] at hP
      have et : t = t2 := by rw [← ht2]; exact HF.out
      clear HF ht2 HR HT HN
      subst et
      clear h0
      go_wp2_with (first
        | (go_at_call 140; (with_reducible refine (hP _).mono ?_); rintro x w1 ⟨rfl, hw1⟩; subst w1)
        | (go_at_call 94; (with_reducible refine (hG _).mono ?_); rintro x w2 ⟨rfl, hb2⟩))
      go_ret
      exact ⟨rfl, hb2⟩
    · obtain ⟨n, hn⟩ : ∃ n, t.size = n + 1 := ⟨t.size - 1, by omega⟩
      have hlt : n < t.size := by omega
      have e2 : t.toList.isEmpty = false := empty_no t h0
      have hnI : (t.size : Int) - 1 = (n : Int) := by omega
      by_cases hx : (t[n]'hlt).toNat = 48
      · have hxI : ((t[n]'hlt).toNat : Int) = 48 := by omega
        have HR2 : Hid (rtr (t.extract 0 n).data.toList = L) := by show _ = _; rw [HT.out t n hlt hn hx]; exact HR.out
        have hsz : (t.extract 0 n).size = n := by rw [ByteArray.size_extract]; omega
        have hgk : gk = n + 1 := by omega
        clear HR HT HN hn hg
        go_wp2
        go_roundg n
        case measure => omega
        case rel => exact ⟨rfl, t.extract 0 n, rfl, hsz, by omega, HR2⟩
      · have hxI : ¬ ((t[n]'hlt).toNat : Int) = 48 := by omega
        have HF : Hid (t = ⟨L.toArray⟩) := by show _ = _; exact baE (by rw [mk_li, ← HR.out, HN.out t (.inr ⟨n, hn, hlt, hx⟩)])
        obtain ⟨t2, ht2⟩ : ∃ t2, (⟨L.toArray⟩ : ByteArray) = t2 := ⟨_, rfl⟩
        rw [ht2] at hP
        have et : t = t2 := by rw [← ht2]; exact HF.out
        clear HF ht2 HR HT HN hn hg
        subst et
        go_wp2_with (first
          | (go_at_call 140; (with_reducible refine (hP _).mono ?_); rintro x w1 ⟨rfl, hw1⟩; subst w1)
          | (go_at_call 94; (with_reducible refine (hG _).mono ?_); rintro x w2 ⟨rfl, hb2⟩))
        go_ret
        exact ⟨rfl, hb2⟩

set_option maxRecDepth 1000000 in
set_option maxHeartbeats 4000000 in
theorem hexw_15 {m prt : Nat} {e k X : Int} {sh : Bool} {ld D0 D : ByteArray} {Z D2 P G R1 R2 R3 R4 : ByteArray} (hI : HeadI m e ld prt X) (he0 : -100000 ≤ e) (he1 : e ≤ 100000) (hm : m < 1152921504606846976) (hX0 : -200000 ≤ X) (hX1 : X ≤ 200000) (hk : 15 ≤ k) (hk2 : k ≤ 1000) (hD : EdC (prt : Nat) 16 D0) (hZ : EzC D0 15 D) (hO : ∀ w, Calls Tryz.prog 66 #[.int .i64 (k - 15)] w fun e w' => e = .returned (.string Z) ∧ w' = w) (hDZ : D ++ Z = D2) (hP : MpC D2 sh P) (hG : MwC X 2 G) (h1 : (⟨#[48, 120]⟩ : ByteArray) ++ ld = R1) (h2 : R1 ++ P = R2) (h3 : R2 ++ (⟨#[112]⟩ : ByteArray) = R3) (h4 : R3 ++ G = R4) (z0 : ¬ 9223372036854775807 < D.size + Z.size) (z1 : ¬ 9223372036854775807 < (⟨#[48, 120]⟩ : ByteArray).size + ld.size) (z2 : ¬ 9223372036854775807 < R1.size + P.size) (z3 : ¬ 9223372036854775807 < R2.size + (⟨#[112]⟩ : ByteArray).size) (z4 : ¬ 9223372036854775807 < R3.size + G.size) : MhC m e k sh R4 := fun w => by
  have hlz : ld.size = 1 := by rcases hI with ⟨-, rfl, -, -⟩ | ⟨-, rfl, -⟩ <;> rfl
  go_enter Tryz.func95, Tryz.ntmps95
  go_upto_if 20 with fail
  go_cut [0, 1, 9, 10, 11, 20] (fun m1 e1 l1 x1 p1 c1 wx => w = wx ∧ l1 = .string ld ∧ x1 = .int .i64 X ∧ p1 = .int .u64 (prt : Nat))
  case first =>
    as_aux_lemma =>
    clear hD hZ hP hG hO hDZ h1 h2 h3 h4 z0 z1 z2 z3 z4
    rcases hI with ⟨rfl, rfl, rfl, rfl⟩ | ⟨h0, rfl, K, hK, hD, rfl⟩
    · go_wp2
      go_meet
      exact ⟨rfl, rfl, rfl, rfl⟩
    · have h0I : (0 : Int) < m := by omega
      have HL : Hid (∀ i, i < K → m * 2 ^ i < 1152921504606846976) := hD.lt
      have HE : Hid (m * 2 ^ K = 1152921504606846976 + prt) := hD.eq
      have HP : Hid (prt < 1152921504606846976) := hD.low
      clear hD
      generalize hJ : (1152921504606846976 : Int) = J at *
      have HJ : Hid ((1152921504606846976 : Int) = J) := hJ
      clear hJ
      go_wp2
      go_loopg [0, 1] (K + 1) (fun g mv ev wr => w = wr ∧ ∃ i v : Nat, mv = .int .u64 v ∧ ev = .int .i64 (e - i) ∧ i + g = K + 1 ∧ i ≤ K ∧ v < 4611686018427387904 ∧ Hid (v = m * 2 ^ i))
      case atStart => exact ⟨rfl, 0, m, rfl, by go_num, by omega, by omega, by omega, by show _ = _; rw [Nat.pow_zero, Nat.mul_one]⟩
      case round =>
        obtain ⟨rfl, i, v, rfl, rfl, hig, hiK, hv, HV⟩ := hrel
        by_cases hi : i < K
        · have hl : (v : Int) < J := by have := HL.out i hi; rw [← HV.out] at this; have := HJ.out; omega
          have hv2 : 2 * v < 4611686018427387904 := by have := HL.out i hi; rw [← HV.out] at this; omega
          have HV2 : Hid (2 * v = m * 2 ^ (i + 1)) := by show _ = _; rw [HV.out, Nat.pow_succ, Nat.mul_comm 2, Nat.mul_assoc]
          clear HL HE HP HV HJ
          go_wp2
          go_roundg (gk - 1)
          case measure => omega
          case rel => exact ⟨rfl, i + 1, 2 * v, by go_num, by go_num, by omega, by omega, hv2, HV2⟩
        · obtain rfl : i = K := by omega
          have hl : ¬ (v : Int) < J := by have := HE.out; rw [← HV.out] at this; have := HJ.out; omega
          have hs : (v : Int) - J = (prt : Nat) := by have := HE.out; rw [← HV.out] at this; have := HJ.out; omega
          have hp : prt < 1152921504606846976 := HP.out
          clear HL HE HP HV HJ
          go_wp2
          go_meet
          exact ⟨rfl, rfl, by go_num, rfl⟩
  case rest =>
  obtain ⟨rfl, rfl, rfl, rfl⟩ := hcut
  clear hI
  rename World => w
  have hk0 : ¬ k < 0 := by omega
  go_wp2_with (first
    | (go_at_call 93; (with_reducible refine (hD _).mono ?_); rintro x w1 ⟨rfl, hw1⟩; subst w1)
    | (go_at_call 139; (with_reducible refine (hZ _).mono ?_); rintro x w1 ⟨rfl, hw1⟩; subst w1)
    | (go_at_call 66; (with_reducible refine (hO _).mono ?_); rintro x w1 ⟨rfl, hw1⟩; subst w1)
    | (go_at_call 140; (with_reducible refine (hP _).mono ?_); rintro x w1 ⟨rfl, hw1⟩; subst w1)
    | (go_at_call 94; (with_reducible refine (hG _).mono ?_); rintro x w2 ⟨rfl, hb2⟩))
  go_ret
  exact ⟨rfl, hb2⟩

set_option maxRecDepth 1000000 in
set_option maxHeartbeats 8000000 in
theorem hexw_few {m prt : Nat} {e k X : Int} {sh : Bool} {ld D0 D : ByteArray} {U q r kd n : Nat} {last up : Bool} {T0 T1 T2 T P G R1 R2 R3 R4 : ByteArray} {X2 : Int} (hI : HeadI m e ld prt X) (he0 : -100000 ≤ e) (he1 : e ≤ 100000) (hm : m < 1152921504606846976) (hX0 : -200000 ≤ X) (hX1 : X ≤ 200000) (hk : k = (n : Int)) (hn : n < 15) (hU : U = 16 ^ (15 - n)) (hq : prt / U = q) (hr : prt % U = r) (hp : prt < 1152921504606846976)
    (hld : ld = ⟨#[48]⟩ ∨ ld = ⟨#[49]⟩) (hla : last = if n = 0 then decide (ld = ⟨#[49]⟩) else decide (q % 2 = 1)) (hup : up = (decide (U < 2 * r) || (decide (2 * r = U) && last))) (hkd : kd = if up = true then q + 1 else q)
    (hD : EdC (prt : Nat) 16 D0) (hZ : EzC D0 15 D) (hD2 : EdC (kd : Nat) 16 T0) (hZ2 : EzC T0 (n : Nat) T1) (hT2 : T2 = if n = 0 ∧ kd = 0 then ⟨#[]⟩ else T1) (hTz : T2.size ≤ 1000) (hT : T = if n < T2.size then run 48 n else T2) (hX2 : X2 = if n < T2.size then X + 1 else X)
    (hO : ∀ w, Calls Tryz.prog 66 #[.int .i64 (n : Nat)] w fun e w' => e = .returned (.string (run 48 n)) ∧ w' = w) (hP : MpC T sh P) (hG : MwC X2 2 G) (h1 : (⟨#[48, 120]⟩ : ByteArray) ++ ld = R1) (h2 : R1 ++ P = R2) (h3 : R2 ++ (⟨#[112]⟩ : ByteArray) = R3) (h4 : R3 ++ G = R4) (z1 : ¬ 9223372036854775807 < (⟨#[48, 120]⟩ : ByteArray).size + ld.size) (z2 : ¬ 9223372036854775807 < R1.size + P.size) (z3 : ¬ 9223372036854775807 < R2.size + (⟨#[112]⟩ : ByteArray).size) (z4 : ¬ 9223372036854775807 < R3.size + G.size) : MhC m e k sh R4 := fun w => by
  have HU : Hid (U = 16 ^ (15 - n)) := hU
  have hU0 : 0 < U := by rw [hU]; exact Nat.pow_pos (by decide)
  have hU1 : U ≤ 1152921504606846976 := by
    rw [hU]; exact Nat.le_trans (Nat.pow_le_pow_right (by decide) (show 15 - n ≤ 15 by omega)) (by decide)
  have hqle : q ≤ 1152921504606846976 := by rw [← hq]; exact Nat.le_trans (Nat.div_le_self _ _) (by omega)
  have hrlt : r < U := by rw [← hr]; exact Nat.mod_lt _ hU0
  have HQ : Hid (prt / U = q) := hq
  have HR : Hid (prt % U = r) := hr
  have HLA : Hid (last = if n = 0 then decide (ld = ⟨#[49]⟩) else decide (q % 2 = 1)) := hla
  have HUP : Hid (up = (decide (U < 2 * r) || (decide (2 * r = U) && last))) := hup
  have HKD : Hid (kd = if up = true then q + 1 else q) := hkd
  have HT2 : Hid (T2 = if n = 0 ∧ kd = 0 then ⟨#[]⟩ else T1) := hT2
  have HT : Hid (T = if n < T2.size then run 48 n else T2) := hT
  have HX2 : Hid (X2 = if n < T2.size then X + 1 else X) := hX2
  clear hU hq hr hla hup hkd hT2 hT hX2
  subst hk
  have hlz : ld.size = 1 := by rcases hI with ⟨-, rfl, -, -⟩ | ⟨-, rfl, -⟩ <;> rfl
  go_enter Tryz.func95, Tryz.ntmps95
  go_upto_if 20 with fail
  go_cut [0, 1, 9, 10, 11, 20] (fun m1 e1 l1 x1 p1 c1 wx => w = wx ∧ l1 = .string ld ∧ x1 = .int .i64 X ∧ p1 = .int .u64 (prt : Nat))
  case first =>
    as_aux_lemma =>
    clear hld HU HQ HR HLA HUP HKD HT2 HT HX2 hD hZ hD2 hZ2 hO hP hG h1 h2 h3 h4 z1 z2 z3 z4 hqle hrlt hU0 hU1 hTz
    rcases hI with ⟨rfl, rfl, rfl, rfl⟩ | ⟨h0, rfl, K, hK, hD, rfl⟩
    · go_wp2
      go_meet
      exact ⟨rfl, rfl, rfl, rfl⟩
    · have h0I : (0 : Int) < m := by omega
      have HL : Hid (∀ i, i < K → m * 2 ^ i < 1152921504606846976) := hD.lt
      have HE : Hid (m * 2 ^ K = 1152921504606846976 + prt) := hD.eq
      have HP : Hid (prt < 1152921504606846976) := hD.low
      clear hD
      generalize hJ : (1152921504606846976 : Int) = J at *
      have HJ : Hid ((1152921504606846976 : Int) = J) := hJ
      clear hJ
      go_wp2
      go_loopg [0, 1] (K + 1) (fun g mv ev wr => w = wr ∧ ∃ i v : Nat, mv = .int .u64 v ∧ ev = .int .i64 (e - i) ∧ i + g = K + 1 ∧ i ≤ K ∧ v < 4611686018427387904 ∧ Hid (v = m * 2 ^ i))
      case atStart => exact ⟨rfl, 0, m, rfl, by go_num, by omega, by omega, by omega, by show _ = _; rw [Nat.pow_zero, Nat.mul_one]⟩
      case round =>
        obtain ⟨rfl, i, v, rfl, rfl, hig, hiK, hv, HV⟩ := hrel
        by_cases hi : i < K
        · have hl : (v : Int) < J := by have := HL.out i hi; rw [← HV.out] at this; have := HJ.out; omega
          have hv2 : 2 * v < 4611686018427387904 := by have := HL.out i hi; rw [← HV.out] at this; omega
          have HV2 : Hid (2 * v = m * 2 ^ (i + 1)) := by show _ = _; rw [HV.out, Nat.pow_succ, Nat.mul_comm 2, Nat.mul_assoc]
          clear HL HE HP HV HJ
          go_wp2
          go_roundg (gk - 1)
          case measure => omega
          case rel => exact ⟨rfl, i + 1, 2 * v, by go_num, by go_num, by omega, by omega, hv2, HV2⟩
        · obtain rfl : i = K := by omega
          have hl : ¬ (v : Int) < J := by have := HE.out; rw [← HV.out] at this; have := HJ.out; omega
          have hs : (v : Int) - J = (prt : Nat) := by have := HE.out; rw [← HV.out] at this; have := HJ.out; omega
          have hp : prt < 1152921504606846976 := HP.out
          clear HL HE HP HV HJ
          go_wp2
          go_meet
          exact ⟨rfl, rfl, by go_num, rfl⟩
  case rest =>
  obtain ⟨rfl, rfl, rfl, rfl⟩ := hcut
  clear hI
  rename World => w
  have hk0 : ¬ (n : Int) < 0 := by omega
  have hk15 : (n : Int) < 15 := by omega
  go_wp2_with (first
    | (go_at_call 93; (with_reducible refine (hD _).mono ?_); rintro x w1 ⟨rfl, hw1⟩; subst w1)
    | (go_at_call 139; (with_reducible refine (hZ _).mono ?_); rintro x w1 ⟨rfl, hw1⟩; subst w1))
  clear hD hZ
  go_loopg [13, 14] (15 - n) (fun g uv iv wr => w = wr ∧ ∃ (i u : Nat), uv = .int .u64 u ∧ iv = .int .i64 i ∧ i + g = 15 ∧ n ≤ i ∧ u ≤ 1152921504606846976 ∧ Hid (u = 16 ^ (i - n)))
  case atStart => exact ⟨rfl, n, 1, rfl, rfl, by omega, by omega, by omega, by show _ = _; rw [Nat.sub_self]⟩
  case round =>
    obtain ⟨rfl, i, u, rfl, rfl, hig, hni, hu, HV⟩ := hrel
    by_cases hi : i < 15
    · have hiI : (i : Int) < 15 := by omega
      have HV2 : Hid (16 * u = 16 ^ (i + 1 - n)) := by show _ = _; rw [HV.out, show i + 1 - n = (i - n) + 1 by omega, Nat.pow_succ, Nat.mul_comm]
      have hu2 : 16 * u ≤ 1152921504606846976 := by rw [HV2.out]; exact Nat.le_trans (Nat.pow_le_pow_right (by decide) (show i + 1 - n ≤ 15 by omega)) (by decide)
      clear HV HU HQ HR HLA HUP HKD HT2 HT HX2 hD2 hZ2 hO hP hG h1 h2 h3 h4 z1 z2 z3 z4
      go_wp2
      go_roundg (gk - 1)
      case measure => omega
      case rel => exact ⟨rfl, i + 1, 16 * u, by go_num, by go_num, by omega, by omega, hu2, HV2⟩
    · have hiI : ¬ (i : Int) < 15 := by omega
      obtain rfl : u = U := by rw [HV.out, HU.out]; congr 1; omega
      clear HV HU hu
      have hUI : (u : Int) ≠ 0 := by omega
      have hUI2 : 0 < (u : Int) := by omega
      have hQI : (prt : Int) / (u : Int) = (q : Nat) := by rw [← HQ.out]; rfl
      have hRI : (prt : Int) % (u : Int) = (r : Nat) := by rw [← HR.out]; rfl
      have hQT : (prt : Int).tdiv (u : Int) = (q : Nat) := by rw [← HQ.out]; rfl
      have hRT : (prt : Int).tmod (u : Int) = (r : Nat) := by rw [← HR.out]; rfl
      clear HQ HR
      go_upto_region 22 with fail
      go_cut [15, 16] (fun a b wx => Below w.heap.size w wx ∧ a = .int .u64 (q : Nat) ∧ b = .int .u64 (r : Nat))
      case first =>
        as_aux_lemma =>
        clear HLA HUP HKD HT2 HT HX2 hD2 hZ2 hO hP hG h1 h2 h3 h4 z1 z2 z3 z4
        go_region
        all_goals go_wp2_with fail
        all_goals go_meet
        all_goals exact ⟨(Below.refl _ _).drew, rfl, rfl⟩
      case rest =>
      obtain ⟨hbc, rfl, rfl⟩ := hcut
      rename World => W
      clear hQI hRI hQT hRT
      go_upto_if 94 with fail
      go_cut [17] (fun l wx => W = wx ∧ l = .bool last)
      case first =>
        as_aux_lemma =>
        clear HUP HKD HT2 HT HX2 hD2 hZ2 hO hP hG h1 h2 h3 h4 z1 z2 z3 z4
        by_cases hn0 : n = 0
        · have b0 : ((n : Int) == 0) = true := by rw [hn0]; rfl
          have HL1 : Hid (last = decide (ld = ⟨#[49]⟩)) := by show _ = _; rw [HLA.out, if_pos hn0]
          clear HLA hn0
          rcases hld with rfl | rfl
          · have e : last = false := HL1.out
            clear HL1
            subst e
            go_wp2
            go_meet
            exact ⟨rfl, rfl⟩
          · have e : last = true := HL1.out
            clear HL1
            subst e
            go_wp2
            go_meet
            exact ⟨rfl, rfl⟩
        · have b0 : ((n : Int) == 0) = false := by rw [beq_eq_false_iff_ne]; omega
          have HL1 : Hid (last = decide (q % 2 = 1)) := by show _ = _; rw [HLA.out, if_neg hn0]
          clear HLA hn0
          go_wp2
          go_meet
          refine ⟨rfl, ?_⟩
          rw [HL1.out]
          by_cases h : q % 2 = 1
          · rw [decide_eq_true h, beq_iff_eq.2 (by omega)]
          · rw [decide_eq_false h, beq_eq_false_iff_ne.2 (by omega)]
      case rest =>
      obtain ⟨hw2, rfl⟩ := hcut
      subst hw2
      clear HLA
      go_upto_region 26 with fail
      go_cut [109] (fun b wx => W = wx ∧ b = .bool up)
      case first =>
        as_aux_lemma =>
        clear HKD HT2 HT HX2 hD2 hZ2 hO hP hG h1 h2 h3 h4 z1 z2 z3 z4 hld
        rcases Nat.lt_trichotomy u (2 * r) with h | h | h
        · have e : up = true := by rw [HUP.out, decide_eq_true h]; rfl
          have hI : (u : Int) < 2 * (r : Int) := by omega
          clear HUP h
          subst e
          go_wp2
          go_meet
          exact ⟨rfl, rfl⟩
        · have e : up = last := by rw [HUP.out, decide_eq_false (by omega), decide_eq_true h.symm]; rfl
          have hI : ¬ (u : Int) < 2 * (r : Int) := by omega
          have hJ : ((2 * (r : Int)) == (u : Int)) = true := by rw [beq_iff_eq]; omega
          clear HUP h
          subst e
          cases up <;>
          · go_wp2
            go_meet
            exact ⟨rfl, rfl⟩
        · have e : up = false := by rw [HUP.out, decide_eq_false (by omega), decide_eq_false (by omega)]; rfl
          have hI : ¬ (u : Int) < 2 * (r : Int) := by omega
          have hJ : ((2 * (r : Int)) == (u : Int)) = false := by rw [beq_eq_false_iff_ne]; omega
          clear HUP h
          subst e
          go_wp2
          go_meet
          exact ⟨rfl, rfl⟩
      case rest =>
      obtain ⟨hw2, rfl⟩ := hcut
      subst hw2
      clear HUP
      have hkd1 : kd ≤ 1152921504606846977 := by rw [HKD.out]; split <;> omega
      go_upto_if 109 with fail
      go_cut [15] (fun a wx => W = wx ∧ a = .int .u64 (kd : Nat))
      case first =>
        as_aux_lemma =>
        clear HT2 HT HX2 hD2 hZ2 hO hP hG h1 h2 h3 h4 z1 z2 z3 z4 hld
        cases up with
        | true =>
          have e : kd = q + 1 := HKD.out
          clear HKD
          subst e
          go_wp2
          go_meet
          exact ⟨rfl, by go_num⟩
        | false =>
          have e : kd = q := HKD.out
          clear HKD
          subst e
          go_wp2
          go_meet
          exact ⟨rfl, rfl⟩
      case rest =>
      obtain ⟨hw2, rfl⟩ := hcut
      subst hw2
      clear HKD
      go_upto_region 29 with (first
        | (go_at_call 93; (with_reducible refine (hD2 _).mono ?_); rintro x w1 ⟨rfl, hw1⟩; subst w1)
        | (go_at_call 139; (with_reducible refine (hZ2 _).mono ?_); rintro x w1 ⟨rfl, hw1⟩; subst w1))
      clear hD2 hZ2
      go_cut [121] (fun b wx => W = wx ∧ b = .bool (decide (n = 0 ∧ kd = 0)))
      case first =>
        as_aux_lemma =>
        clear HT2 HT HX2 hO hP hG h1 h2 h3 h4 z1 z2 z3 z4 hld
        by_cases c1 : n = 0
        · have b1 : ((n : Int) == 0) = true := by rw [c1]; rfl
          by_cases c2 : kd = 0
          · have b2 : ((kd : Int) == 0) = true := by rw [c2]; rfl
            have hd : Hid (decide (n = 0 ∧ kd = 0) = true) := decide_eq_true ⟨c1, c2⟩
            clear c1 c2
            go_wp2
            go_meet
            exact ⟨rfl, by rw [hd.out]⟩
          · have b2 : ((kd : Int) == 0) = false := by rw [beq_eq_false_iff_ne]; omega
            have hd : Hid (decide (n = 0 ∧ kd = 0) = false) := decide_eq_false (by omega)
            clear c1 c2
            go_wp2
            go_meet
            exact ⟨rfl, by rw [hd.out]⟩
        · have b1 : ((n : Int) == 0) = false := by rw [beq_eq_false_iff_ne]; omega
          have hd : Hid (decide (n = 0 ∧ kd = 0) = false) := decide_eq_false (by omega)
          clear c1
          go_wp2
          go_meet
          exact ⟨rfl, by rw [hd.out]⟩
      case rest =>
      obtain ⟨hw2, hb2⟩ := hcut
      subst hw2
      go_upto_if 121 with fail
      go_cut [18] (fun t wx => W = wx ∧ t = .string T2)
      case first =>
        as_aux_lemma =>
        clear HT HX2 hO hP hG h1 h2 h3 h4 z1 z2 z3 z4 hld
        by_cases c1 : n = 0 ∧ kd = 0
        · have e : T2 = ⟨#[]⟩ := by rw [HT2.out, if_pos c1]
          rw [decide_eq_true c1] at hb2
          clear HT2 c1
          subst hb2 e
          go_wp2
          go_meet
          exact ⟨rfl, rfl⟩
        · have e : T2 = T1 := by rw [HT2.out, if_neg c1]
          rw [decide_eq_false c1] at hb2
          clear HT2 c1
          subst hb2 e
          go_wp2
          go_meet
          exact ⟨rfl, rfl⟩
      case rest =>
      obtain ⟨hw2, rfl⟩ := hcut
      subst hw2 hb2
      clear HT2
      go_upto_if 125 with fail
      go_cut [10, 18] (fun x t wx => W = wx ∧ x = .int .i64 X2 ∧ t = .string T)
      case first =>
        as_aux_lemma =>
        clear hP hG h1 h2 h3 h4 z1 z2 z3 z4 hld
        by_cases c1 : n < T2.size
        · have e : T = run 48 n := by rw [HT.out, if_pos c1]
          have e2 : X2 = X + 1 := by rw [HX2.out, if_pos c1]
          have cI : (n : Int) < T2.size := by omega
          clear HT HX2 c1
          subst e e2
          go_wp2_with (go_at_call 66; (with_reducible refine (hO _).mono ?_); rintro x w1 ⟨rfl, hw1⟩; subst w1)
          go_meet
          exact ⟨rfl, by go_num, rfl⟩
        · have e : T = T2 := by rw [HT.out, if_neg c1]
          have e2 : X2 = X := by rw [HX2.out, if_neg c1]
          have cI : ¬ (n : Int) < T2.size := by omega
          clear HT HX2 c1
          subst e e2
          go_wp2
          go_meet
          exact ⟨rfl, rfl, rfl⟩
      case rest =>
      obtain ⟨hw2, rfl, rfl⟩ := hcut
      subst hw2
      go_wp2_with (first
        | (go_at_call 140; (with_reducible refine (hP _).mono ?_); rintro x w1 ⟨rfl, hw1⟩; subst w1)
        | (go_at_call 94; (with_reducible refine (hG _).mono ?_); rintro x w2 ⟨rfl, hb2⟩))
      go_ret
      exact ⟨rfl, bel_call hbc hb2 (Nat.le_refl _)⟩
end Go.Proofs.YthbabhbfpcfenabGreatDoor
