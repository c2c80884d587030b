/- BLaw, FText, FWalkA, BHalf, BNear, SPat: these texts in one. -/
import Derived.Test.YtiagjheifblkiaaGreatDoorPt25
import Derived.Test.YtiagjheifblkiaaGreatDoorPt1
import Derived.Lib.Join
import Derived.Lib.BitFns
import Derived.Test.YtiagjheifblkiaaGreatDoorPt2
namespace Go.Proofs.YtiagjheifblkiaaGreatDoor
open Go.RowKit
set_option linter.unusedVariables false
structure Good (v : Nat) : Prop where
 len : (oL v).length ≤ 2000
 p0 : -5000 ≤ oP v
 p1 : oP v ≤ 5000
theorem Good.normE {v : Nat} (h : Good v) : normE (oS v) (oP v) = 0 := by
 have hl := h.len
 have h0 := h.p0
 have h1 := h.p1
 exact normE_ok (by rw [oS_size]; omega) (o_dig v) (by omega) (by omega)
theorem norm_o {v : Nat} (h : Go.Proofs.YtiagjheifblkiaaGreatDoor.normE (oS v) (oP v) = 0) : normV (oS v) (oP v) = v := by rw [normV_ok h]; exact o_val v
theorem Good.normV {v : Nat} (h : Good v) : normV (oS v) (oP v) = v := norm_o h.normE
theorem cnt_le {v u j q : Nat} (h : v = u * 10 ^ j) (hu : u < 10 ^ q) : (oL v).length ≤ q := by
 by_cases hv : v = 0
 ·rw [hv, o_zero.1]; exact Nat.zero_le _
 ·have hdB := o_dec v
  have hl := hdB.ne hv
  have hx := num_last hdB.dig hdB.lst hl
  have e := hdB.val.trans h
  have haj : j ≤ (oP v - (oL v).length + 10000).toNat := by
   rcases Nat.lt_or_ge (oP v - (oL v).length + 10000).toNat j with h1 | h1
   ·exact (pow_split hx h1 e).elim
   ·exact h1
  obtain ⟨c, hc⟩ : ∃ c, (oP v - (oL v).length + 10000).toNat = c + j := ⟨_, (Nat.sub_add_cancel haj).symm⟩
  rw [hc, Nat.pow_add, ← Nat.mul_assoc] at e
  have e2 := Nat.eq_of_mul_eq_mul_right (pow_pos10 j) e
  have hc1 : 1 ≤ 10 ^ c := pow_pos10 c
  have h2 : num (oL v) * 1 ≤ num (oL v) * 10 ^ c := Nat.mul_le_mul_left _ hc1
  obtain ⟨x, t, ht⟩ := List.exists_cons_of_ne_nil hl
  have h3 := num_head (ht ▸ hdB.dig) (ht ▸ hdB.hdB)
  rw [← ht] at h3
  have h4 : 10 ^ t.length < 10 ^ q := by omega
  have := (Nat.pow_lt_pow_iff_right (by decide)).1 h4
  rw [ht, List.length_cons]; omega
theorem mod_quot {v J K : Nat} (hm : v % 10 ^ J = 0) (hv : v < 10 ^ (J + K)) : ∃ u, v = u * 10 ^ J ∧ u < 10 ^ K := by
 refine ⟨v / 10 ^ J, ?_, ?_⟩
 ·have := Nat.div_add_mod v (10 ^ J)
  rw [hm, Nat.add_zero, Nat.mul_comm] at this; exact this.symm
 ·rw [Nat.pow_add, Nat.mul_comm] at hv
  exact Nat.div_lt_of_lt_mul (by rw [Nat.mul_comm]; exact hv)
theorem good_of {v J K : Nat} (hm : v % 10 ^ J = 0) (hv : v < 10 ^ (J + K)) (hJ : 5000 ≤ J) (hK : J + K ≤ 15000) (hK2 : K ≤ 2000) : Good v := by
 obtain ⟨u, h1, h2⟩ := mod_quot hm hv
 have hl := cnt_le h1 h2
 by_cases h0 : v = 0
 ·subst h0
  exact ⟨by rw [o_zero.1]; simp, by rw [o_zero.2]; decide, by rw [o_zero.2]; decide⟩
 ·have hu : 1 ≤ u := by
   rcases Nat.eq_zero_or_pos u with h | h
   ·subst h; rw [Nat.zero_mul] at h1; exact absurd h1 h0
   ·exact h
  have hg := oP_gt (v := v) (q := J) (by rw [h1]; have := Nat.mul_le_mul_right (10 ^ J) hu; omega)
  rcases oP_le hv with h3 | h3
  ·exact ⟨by omega, by omega, by omega⟩
  ·exact absurd h3 h0
theorem big_const : ∃ N M : Nat, N = 1200 ∧ M = 839 ∧ (5 : Nat) ^ N < 10 ^ M ∧ (2 : Nat) ^ N < 10 ^ M := ⟨1200, 839, rfl, rfl, by decide +kernel, by decide +kernel⟩
theorem m_big {m k b N M : Nat} (hm : m < 18446744073709551616) (hb0 : 0 < b) (hk : k ≤ N) (h2 : b ^ N < 10 ^ M) : m * b ^ k < 10 ^ (20 + M) := by
 have h1 : b ^ k ≤ b ^ N := Nat.pow_le_pow_right hb0 hk
 have h4 : (10 : Nat) ^ 20 = 100000000000000000000 := by decide
 rw [Nat.pow_add]
 exact Nat.mul_lt_mul'' (by omega) (by omega)
theorem pow_mod (u j : Nat) : u * 10 ^ j % 10 ^ j = 0 := Nat.mul_mod_left _ _
theorem exU_up (m : Nat) {e : Int} (h : 0 ≤ e) : exU m e = m * 2 ^ e.toNat * 10 ^ ((0 : Int) + 10000).toNat := if_pos h
theorem exU_dn (m : Nat) {e : Int} (h : ¬ 0 ≤ e) : exU m e = m * 5 ^ (-e).toNat * 10 ^ (e + 10000).toNat := if_neg h
theorem exU_split {m : Nat} {e : Int} (hm : m < 18446744073709551616) (h0 : -1200 ≤ e) (h1 : e ≤ 1200) : ∃ J u q, exU m e = u * 10 ^ J ∧ u < 10 ^ q ∧ q ≤ 859 ∧ 8800 ≤ J ∧ J ≤ 10000 := by
 obtain ⟨N, M, hN, hM, h5, h2⟩ := big_const
 by_cases he : 0 ≤ e
 ·rw [exU_up m he]
  exact ⟨((0 : Int) + 10000).toNat, _, 20 + M, rfl, m_big hm (by decide) (by omega) h2, by omega, by omega, by omega⟩
 ·rw [exU_dn m he]
  exact ⟨(e + 10000).toNat, _, 20 + M, rfl, m_big hm (by decide) (by omega) h5, by omega, by omega, by omega⟩
theorem good_small {v J u q : Nat} (h : v = u * 10 ^ J) (hu : u < 10 ^ q) (hq : q ≤ 1000) (h0 : 8800 ≤ J) (h1 : J ≤ 10000) : Good v := by
 refine good_of (J := J) (K := q) (by rw [h]; exact pow_mod u J) ?_ (by omega) (by omega) (by omega)
 rw [h, Nat.pow_add, Nat.mul_comm (10 ^ J)]
 exact Nat.mul_lt_mul_of_pos_right hu (pow_pos10 J)
theorem exU_good {m : Nat} {e : Int} (hm : m < 18446744073709551616) (h0 : -1200 ≤ e) (h1 : e ≤ 1200) : Good (exU m e) ∧ Good (exU m e + exU m e) := by
 obtain ⟨J, u, q, h2, h3, h6, h4, h5⟩ := exU_split hm h0 h1
 have hp : (10 : Nat) ^ (q + 1) = 10 ^ q * 10 := Nat.pow_succ ..
 exact ⟨good_small h2 h3 (by omega) h4 h5, good_small (u := u + u) (q := q + 1) (by rw [h2, Nat.add_mul]) (by omega) (by omega) h4 h5⟩
theorem exU_double (m : Nat) (e : Int) (h0 : -1200 ≤ e) (h1 : e ≤ 1199) : exU m (e + 1) = exU m e + exU m e := by
 by_cases he : 0 ≤ e
 ·rw [exU_up m he, exU_up m (show 0 ≤ e + 1 by omega), show (e + 1).toNat = e.toNat + 1 by omega, Nat.pow_succ, ← Nat.mul_assoc]
  generalize (10 : Nat) ^ ((0 : Int) + 10000).toNat = A
  generalize m * 2 ^ e.toNat = B
  rw [Nat.mul_comm B 2, Nat.mul_assoc, Nat.two_mul]
 ·by_cases he1 : e = -1
  ·subst he1
   have e1 : ((-1 : Int) + 1).toNat = 0 := by decide
   have e2 : (-(-1 : Int)).toNat = 1 := by decide
   have e3 : ((0 : Int) + 10000).toNat = ((-1 : Int) + 10000).toNat + 1 := by decide
   rw [exU_up m (show (0 : Int) ≤ -1 + 1 by decide), exU_dn m he, e1, e2, e3, Nat.pow_succ]
   generalize (10 : Nat) ^ ((-1 : Int) + 10000).toNat = A
   rw [Nat.pow_zero, Nat.pow_one, Nat.mul_one, ← Nat.mul_assoc, Nat.mul_assoc m 5 A, Nat.mul_left_comm m 5 A]
   generalize m * A = B
   omega
  ·rw [exU_dn m he, exU_dn m (show ¬ 0 ≤ e + 1 by omega), show (-e).toNat = (-(e + 1)).toNat + 1 by omega, show (e + 1 + 10000).toNat = (e + 10000).toNat + 1 by omega, Nat.pow_succ, Nat.pow_succ]
   generalize (5 : Nat) ^ (-(e + 1)).toNat = C
   generalize (10 : Nat) ^ (e + 10000).toNat = A
   have h3 : m * C * (A * 10) = m * C * A * 10 := by rw [Nat.mul_assoc (m * C) A 10]
   have h4 : m * (C * 5) * A = m * C * A * 5 := by rw [← Nat.mul_assoc m C 5, Nat.mul_assoc (m * C) 5 A, Nat.mul_comm 5 A, ← Nat.mul_assoc]
   rw [h3, h4]
   generalize m * C * A = B
   omega
theorem Cl.after {W : World} {x : Cl W} {o : Obj} {w6 : World} (hb : Below (x.w.alloc o).heap.size (x.w.alloc o) w6) : ∃ y : Cl W, w6 = y.w :=
 ⟨⟨w6, bel_call (x.below.alloc x.below.size _) hb (Nat.le_refl _)⟩, rfl⟩
theorem Cl.next {W : World} {x : Cl W} {w6 : World} (hb : Below x.w.heap.size x.w w6) : ∃ y : Cl W, w6 = y.w :=
 ⟨⟨w6, bel_call x.below hb (Nat.le_refl _)⟩, rfl⟩
abbrev AddC (s1 : ByteArray) (p1 : Int) (s2 : ByteArray) (p2 : Int) (S : ByteArray) (P E : Int) : Prop := ∀ w, Calls Tryz.prog 15 #[.agg #[.string s1, .int .i64 p1], .agg #[.string s2, .int .i64 p2]] w fun e w' => e = .returned (.tuple #[.agg #[.string S, .int .i64 P], .int .i64 E]) ∧ Below w.heap.size w w'
abbrev CmpC (s1 : ByteArray) (p1 : Int) (s2 : ByteArray) (p2 : Int) (r E : Int) : Prop := ∀ w, Calls Tryz.prog 50 #[.agg #[.string s1, .int .i64 p1], .agg #[.string s2, .int .i64 p2]] w fun e w' => e = .returned (.tuple #[.int .i64 r, .int .i64 E]) ∧ Below w.heap.size w w'
theorem oS_fit (v : Nat) (h : Good v) : (oS v).size ≤ 9223372036854775807 := by rw [oS_size]; have := h.len; omega
theorem cmpC {v u : Nat} (hv : Good v) (hu : Good u) : CmpC (oS v) (oP v) (oS u) (oP u) (ordN v u) 0 := fun w => by
 have := cmp_any (oS v) (oS u) (oP v) (oP u) w (oS_fit v hv) (oS_fit u hu)
 rw [hv.normE, hu.normE, hv.normV, hu.normV] at this
 have e0 : bE 0 0 = 0 := rfl
 rw [e0, if_pos rfl] at this
 exact this
end Go.Proofs.YtiagjheifblkiaaGreatDoor
namespace Go.Proofs.YtiagjheifblkiaaGreatDoor
open Go.RowKit
set_option linter.unusedVariables false
set_option linter.unusedSimpArgs false
def lnA (s : ByteArray) (n : Int) : ByteArray := run 48 (n - (s.size : Nat)).toNat ++ s
def lnB (s : ByteArray) (n : Int) : ByteArray := s ++ run 48 (n - (s.size : Nat)).toNat
theorem lnA_size (s : ByteArray) (n : Int) : (lnA s n).size = s.size + (n - (s.size : Nat)).toNat := by unfold lnA; rw [app_size, run_size]; omega
theorem lnB_size (s : ByteArray) (n : Int) : (lnB s n).size = s.size + (n - (s.size : Nat)).toNat := by unfold lnB; rw [app_size, run_size]
def ptd (sh : Bool) (a b : ByteArray) : ByteArray := if b.size = 0 ∧ sh = false then a else (a ++ ⟨#[46]⟩) ++ b
theorem ptd_size (sh : Bool) (a b : ByteArray) : a.size ≤ (ptd sh a b).size ∧ (ptd sh a b).size ≤ a.size + 1 + b.size := by
 have h : (⟨#[46]⟩ : ByteArray).size = 1 := rfl
 unfold ptd
 split
 ·omega
 ·rw [app_size, app_size]; omega
def sx1 (n : Int) : ByteArray := if n < 0 then ⟨#[45]⟩ else ⟨#[43]⟩
theorem sx1_size (n : Int) : (sx1 n).size = 1 := by unfold sx1; split <;> rfl
def sgd (n : Int) (least : Int) : ByteArray := sx1 n ++ lnA (digT false 10 n.natAbs) least
theorem sgd_size (n : Int) (least : Int) (h : least ≤ 10) : (sgd n least).size ≤ 80 ∧ 2 ≤ (sgd n least).size := by
 have h1 := sx1_size n
 have h2 := digT_size false 10 n.natAbs
 have h3 := lnA_size (digT false 10 n.natAbs) least
 unfold sgd
 rw [app_size]; omega
def sci (sh : Bool) (d : ByteArray) (x : Int) : ByteArray := (ptd sh (d.extract 0 1) (d.extract 1 d.size) ++ ⟨#[101]⟩) ++ sgd x 2
theorem sci_size (sh : Bool) (d : ByteArray) (x : Int) (hdB : d.size ≤ 100000) : (sci sh d x).size ≤ 100090 ∧ 3 ≤ (sci sh d x).size := by
 have h1 := ptd_size sh (d.extract 0 1) (d.extract 1 d.size)
 have h2 := sgd_size x 2 (by decide)
 have h3 : (⟨#[101]⟩ : ByteArray).size = 1 := rfl
 have h4 : (d.extract 0 1).size ≤ 1 := by rw [ByteArray.size_extract]; omega
 have h5 : (d.extract 0 1).size + (d.extract 1 d.size).size ≤ d.size := by rw [ByteArray.size_extract, ByteArray.size_extract]; omega
 unfold sci
 rw [app_size, app_size]; omega
def arA (d : ByteArray) (p : Int) : ByteArray := if p ≤ 0 then ⟨#[48]⟩ else (lnB d p).extract 0 p.toNat
def arB (d : ByteArray) (p : Int) : ByteArray := if p ≤ 0 then lnA d ((d.size : Nat) - p) else (lnB d p).extract p.toNat (lnB d p).size
theorem arA_size (d : ByteArray) (p : Int) (hp : p ≤ 100000) : (arA d p).size ≤ 100000 ∧ 1 ≤ (arA d p).size := by
 have h := lnB_size d p
 unfold arA
 split
 ·exact ⟨by decide, by decide⟩
 ·rw [ByteArray.size_extract]; omega
def pw0 (v : Nat) : Int := if v = 0 then 0 else oP v - 1
def cntE (P : Int) : Int := (if P < 0 then 6 else P) + 1
def expT (sh : Bool) (P : Int) (v : Nat) : ByteArray := sci sh (lnB (oS (rnd v (cntE P))) (cntE P)) (pw0 (rnd v (cntE P)))
def plcF (P : Int) : Int := if P < 0 then 6 else P
def fixT (sh : Bool) (P : Int) (v : Nat) : ByteArray := ptd sh (arA (oS (plc v (plcF P))) (oP (plc v (plcF P)))) (lnB (arB (oS (plc v (plcF P))) (oP (plc v (plcF P)))) (plcF P))
def genD (sh : Bool) (d : Nat) (cnt : Int) : ByteArray := if sh = true then lnB (lnB (oS d) 1) cnt else lnB (oS d) 1
def genG (sh : Bool) (d : Nat) (most cnt : Int) : ByteArray := if pw0 d < -4 ∨ most ≤ pw0 d then sci sh (genD sh d cnt) (pw0 d) else ptd sh (arA (genD sh d cnt) (pw0 d + 1)) (arB (genD sh d cnt) (pw0 d + 1))
def genT (sh : Bool) (P : Int) (v d : Nat) : ByteArray := if P < 0 then genG sh d 21 6 else genG sh (rnd v (max P 1)) (max P 1) (max P 1)
def parT (m : Nat) (e : Int) : ByteArray := (digT false 10 m ++ ⟨#[112]⟩) ++ sgd e 1
def rbU (c : Nat) : Nat := 2 ^ (4 * (13 - c))
def rbW (m c : Nat) : Nat := if m % rbU c > rbU c / 2 ∨ (m % rbU c = rbU c / 2 ∧ m / rbU c % 2 = 1) then m / rbU c + 1 else m / rbU c
def rb (m : Nat) (P : Int) : Nat := if P < 0 ∨ 13 ≤ P then m else rbW m P.toNat * rbU P.toNat
def nmS (m : Nat) : Nat := 53 - Lib.bitLen m
def nmM (m : Nat) (P : Int) : Nat := if m = 0 then 0 else if rb (m * 2 ^ nmS m) P / 2 ^ 52 = 2 then rb (m * 2 ^ nmS m) P / 2 else rb (m * 2 ^ nmS m) P
def nmE (m : Nat) (e P : Int) : Int := if m = 0 then 0 else if rb (m * 2 ^ nmS m) P / 2 ^ 52 = 2 then e + 52 - nmS m + 1 else e + 52 - nmS m
def hxD (m : Nat) (P : Int) : ByteArray := lnA (digT false 16 (nmM m P)) 14
def hxP (d : ByteArray) (P : Int) : ByteArray := if P < 0 then ⟨(rtr d.data.toList).toArray⟩ else lnB (d.extract 0 (min P 13).toNat) P
def hexT (sh : Bool) (P : Int) (m : Nat) (e : Int) : ByteArray :=
 (((⟨#[48, 120]⟩ : ByteArray) ++ ptd sh ((hxD m P).extract 0 1) (hxP ((hxD m P).extract 1 (hxD m P).size) P)) ++ ⟨#[112]⟩) ++ sgd (nmE m e P) 2
def fVerb (v : Int) : Bool := decide (v = 101 ∨ v = 69 ∨ v = 102 ∨ v = 70 ∨ v = 103 ∨ v = 71 ∨ v = 118 ∨ v = 98 ∨ v = 120 ∨ v = 88)
def grV (v : Int) : Bool := decide (v = 69 ∨ v = 71 ∨ v = 88)
def numTF (sh : Bool) (P : Int) (m : Nat) (e : Int) (v d : Nat) (verb : Int) : ByteArray :=
 if verb = 101 ∨ verb = 69 then expT sh P v else if verb = 102 ∨ verb = 70 then fixT sh P v else if verb = 98 then parT m e else if verb = 120 ∨ verb = 88 then hexT sh P m e else genT sh P v d
def bigT (g : Bool) (s : ByteArray) : ByteArray := if g = true then ⟨(Lib.toUpperA s.data.toList).toArray⟩ else s
def finT (sh : Bool) (prec : Int) (m : Nat) (e : Int) (v d : Nat) (verb : Int) : ByteArray := bigT (grV verb) (numTF (sh && decide (verb ≠ 118)) (min prec 1000) m e v d verb)
def sgF (neg p sp : Bool) : ByteArray := if neg = true then ⟨#[45]⟩ else signA p sp
def sgI (neg p sp : Bool) : ByteArray := if (sgF neg p sp).size = 0 then ⟨#[43]⟩ else sgF neg p sp
theorem sgF_size (neg p sp : Bool) : (sgF neg p sp).size ≤ 1 := by cases neg <;> cases p <;> cases sp <;> decide
theorem sgI_size (neg p sp : Bool) : (sgI neg p sp).size = 1 := by cases neg <;> cases p <;> cases sp <;> decide
def filT (sign t : ByteArray) (mi z : Bool) (wid : Int) : ByteArray := padS (sign ++ (if z = true ∧ mi = false then lnA t ((wdt wid : Nat) - (sign.size : Nat)) else t)) mi false wid
end Go.Proofs.YtiagjheifblkiaaGreatDoor
namespace Go.Proofs.YtiagjheifblkiaaGreatDoor
open Go.RowKit
set_option linter.unusedVariables false
set_option linter.unusedSimpArgs false
theorem join2 (a b : ByteArray) : (⟨(Lib.join ([a, b].map (·.data.toList)) (⟨#[]⟩ : ByteArray).data.toList).toArray⟩ : ByteArray) = a ++ b := by
 apply ByteArray.ext; apply Array.ext'
 rw [app_list]
 simp [Lib.join_cons, Lib.joinTail]
theorem join3 (a b c : ByteArray) : (⟨(Lib.join ([a, b, c].map (·.data.toList)) (⟨#[]⟩ : ByteArray).data.toList).toArray⟩ : ByteArray) = (a ++ b) ++ c := by
 apply ByteArray.ext; apply Array.ext'
 rw [app_list, app_list]
 simp [Lib.join_cons, Lib.joinTail]
theorem join4 (a b c d : ByteArray) : (⟨(Lib.join ([a, b, c, d].map (·.data.toList)) (⟨#[]⟩ : ByteArray).data.toList).toArray⟩ : ByteArray) = ((a ++ b) ++ c) ++ d := by
 apply ByteArray.ext; apply Array.ext'
 rw [app_list, app_list, app_list]
 simp [Lib.join_cons, Lib.joinTail]
theorem join_size {xs : List ByteArray} {r : ByteArray} (h : (⟨(Lib.join (xs.map (·.data.toList)) (⟨#[]⟩ : ByteArray).data.toList).toArray⟩ : ByteArray) = r) (hr : r.size ≤ 100000000) : (Lib.join (xs.map (·.data.toList)) (⟨#[]⟩ : ByteArray).data.toList).length ≤ 140737488355328 := by
 have := congrArg ByteArray.size h
 rw [mk_size] at this
 omega
set_option maxRecDepth 1000000 in
theorem together2 {a b : ByteArray} {bk : Nat} (w : World) (h0 : w.cell? ⟨bk, 0, none⟩ = some (.string a)) (h1 : w.cell? ⟨bk, 1, none⟩ = some (.string b)) (hz : a.size + b.size ≤ 10000000) :
  Calls Tryz.prog 286 #[.slice (some ⟨bk, 0, none⟩) 2 2] w fun e w' => e = .returned (.string (a ++ b)) ∧ Below w.heap.size w w' := by
 have hJ := Tryz.strings_Join bk 0 2 [a, b] ⟨#[]⟩ w (by
  intro j x hj
  match j, hj with
  | 0, hj => simp at hj; subst hj; exact h0
  | 1, hj => simp at hj; subst hj; exact h1
  | j + 2, hj => simp at hj) (World.block_lt_of_cell? w _ h0) (by simp) (by simp) (join_size (join2 a b) (by rw [app_size]; omega))
 rw [join2] at hJ
 generalize a ++ b = r at *
 go_enter Tryz.func286, Tryz.ntmps286
 go_wp2_with (go_at_call 132; refine hJ.mono ?_; rintro e w2 ⟨rfl, hb⟩)
 go_ret
 exact ⟨rfl, hb⟩
set_option maxRecDepth 1000000 in
theorem together3 {a b c : ByteArray} {bk : Nat} (w : World) (h0 : w.cell? ⟨bk, 0, none⟩ = some (.string a)) (h1 : w.cell? ⟨bk, 1, none⟩ = some (.string b)) (h2 : w.cell? ⟨bk, 2, none⟩ = some (.string c)) (hz : a.size + b.size + c.size ≤ 10000000) :
  Calls Tryz.prog 286 #[.slice (some ⟨bk, 0, none⟩) 3 3] w fun e w' => e = .returned (.string ((a ++ b) ++ c)) ∧ Below w.heap.size w w' := by
 have hJ := Tryz.strings_Join bk 0 3 [a, b, c] ⟨#[]⟩ w (by
  intro j x hj
  match j, hj with
  | 0, hj => simp at hj; subst hj; exact h0
  | 1, hj => simp at hj; subst hj; exact h1
  | 2, hj => simp at hj; subst hj; exact h2
  | j + 3, hj => simp at hj) (World.block_lt_of_cell? w _ h0) (by simp) (by simp) (join_size (join3 a b c) (by rw [app_size, app_size]; omega))
 rw [join3] at hJ
 generalize (a ++ b) ++ c = r at *
 go_enter Tryz.func286, Tryz.ntmps286
 go_wp2_with (go_at_call 132; refine hJ.mono ?_; rintro e w2 ⟨rfl, hb⟩)
 go_ret
 exact ⟨rfl, hb⟩
set_option maxRecDepth 1000000 in
theorem together4 {a b c d : ByteArray} {bk : Nat} (w : World) (h0 : w.cell? ⟨bk, 0, none⟩ = some (.string a)) (h1 : w.cell? ⟨bk, 1, none⟩ = some (.string b)) (h2 : w.cell? ⟨bk, 2, none⟩ = some (.string c)) (h3 : w.cell? ⟨bk, 3, none⟩ = some (.string d)) (hz : a.size + b.size + c.size + d.size ≤ 10000000) :
  Calls Tryz.prog 286 #[.slice (some ⟨bk, 0, none⟩) 4 4] w fun e w' => e = .returned (.string (((a ++ b) ++ c) ++ d)) ∧ Below w.heap.size w w' := by
 have hJ := Tryz.strings_Join bk 0 4 [a, b, c, d] ⟨#[]⟩ w (by
  intro j x hj
  match j, hj with
  | 0, hj => simp at hj; subst hj; exact h0
  | 1, hj => simp at hj; subst hj; exact h1
  | 2, hj => simp at hj; subst hj; exact h2
  | 3, hj => simp at hj; subst hj; exact h3
  | j + 4, hj => simp at hj) (World.block_lt_of_cell? w _ h0) (by simp) (by simp) (join_size (join4 a b c d) (by rw [app_size, app_size, app_size]; omega))
 rw [join4] at hJ
 generalize ((a ++ b) ++ c) ++ d = r at *
 go_enter Tryz.func286, Tryz.ntmps286
 go_wp2_with (go_at_call 132; refine hJ.mono ?_; rintro e w2 ⟨rfl, hb⟩)
 go_ret
 exact ⟨rfl, hb⟩
set_option maxRecDepth 1000000 in
theorem fnoughts_any (n : Int) (w : World) (hn : n ≤ 1000000) :
  Calls Tryz.prog 356 #[.int .i64 n] w fun e w' => e = .returned (.string (run 48 n.toNat)) ∧ Below w.heap.size w w' := by
 have hR : ∀ w, Calls Tryz.prog 70 #[.string ⟨#[48]⟩, .int .i64 (max n 0)] w fun e w' => e = .returned (.string (run 48 n.toNat)) ∧ Below w.heap.size w w' := fun w => by
  have hz : (⟨#[48]⟩ : ByteArray).size = 1 := rfl
  have e0 : max n 0 = (n.toNat : Int) := by omega
  rw [e0]
  refine (Tryz.strings_Repeat ⟨#[48]⟩ n.toNat w (by omega) (by rw [hz]; omega)).mono ?_
  rintro e w' ⟨rfl, hb⟩
  refine ⟨ret_str ?_, hb⟩
  have e : (⟨#[48]⟩ : ByteArray).data.toList = List.replicate 1 48 := rfl
  rw [e, Lib.repeatL_replicate, Nat.mul_one]
  unfold run
  apply ByteArray.ext; apply Array.ext'; simp
 generalize run 48 n.toNat = r at *
 go_enter Tryz.func356, Tryz.ntmps356
 go_wp2_with (go_at_call 70; refine (hR _).mono ?_; rintro e w2 ⟨rfl, hb⟩)
 go_ret
 exact ⟨rfl, hb⟩
abbrev NoC (n : Int) (r : ByteArray) : Prop := ∀ w, Calls Tryz.prog 356 #[.int .i64 n] w fun e w' => e = .returned (.string r) ∧ Below w.heap.size w w'
set_option maxRecDepth 1000000 in
theorem flen_any (s : ByteArray) (n : Int) (w : World) (hs : s.size ≤ 1000000) (h0 : -1000000 ≤ n) (h1 : n ≤ 1000000) :
  Calls Tryz.prog 328 #[.string s, .int .i64 n] w fun e w' => e = .returned (.string (lnA s n)) ∧ Below w.heap.size w w' := by
 have hN : NoC (n - (s.size : Nat)) (run 48 (n - (s.size : Nat)).toNat) := fun w => fnoughts_any _ w (by omega)
 have hz : (run 48 (n - (s.size : Nat)).toNat).size + s.size ≤ 10000000 := by rw [run_size]; omega
 unfold lnA
 generalize run 48 (n - (s.size : Nat)).toNat = r at *
 go_enter Tryz.func328, Tryz.ntmps328
 go_wp2_with (first
  | (go_at_call 356; refine (hN _).mono ?_; rintro e w2 ⟨rfl, hb2⟩)
  | (go_at_call 286; refine (together2 (a := r) (b := s) _ (by simp) (by simp) hz).mono ?_; rintro e w3 ⟨rfl, hb3⟩))
 go_ret
 exact ⟨rfl, bel_call (hb2.alloc hb2.size _) hb3 (Nat.le_refl _)⟩
set_option maxRecDepth 1000000 in
theorem flenB_any (s : ByteArray) (n : Int) (w : World) (hs : s.size ≤ 1000000) (h0 : -1000000 ≤ n) (h1 : n ≤ 1000000) :
  Calls Tryz.prog 344 #[.string s, .int .i64 n] w fun e w' => e = .returned (.string (lnB s n)) ∧ Below w.heap.size w w' := by
 have hN : NoC (n - (s.size : Nat)) (run 48 (n - (s.size : Nat)).toNat) := fun w => fnoughts_any _ w (by omega)
 have hz : s.size + (run 48 (n - (s.size : Nat)).toNat).size ≤ 10000000 := by rw [run_size]; omega
 unfold lnB
 generalize run 48 (n - (s.size : Nat)).toNat = r at *
 go_enter Tryz.func344, Tryz.ntmps344
 go_wp2_with (first
  | (go_at_call 356; refine (hN _).mono ?_; rintro e w2 ⟨rfl, hb2⟩)
  | (go_at_call 286; refine (together2 (a := s) (b := r) _ (by simp) (by simp) hz).mono ?_; rintro e w3 ⟨rfl, hb3⟩))
 go_ret
 exact ⟨rfl, bel_call (hb2.alloc hb2.size _) hb3 (Nat.le_refl _)⟩
abbrev LaC (s : ByteArray) (n : Int) (r : ByteArray) : Prop := ∀ w, Calls Tryz.prog 328 #[.string s, .int .i64 n] w fun e w' => e = .returned (.string r) ∧ Below w.heap.size w w'
abbrev LbC (s : ByteArray) (n : Int) (r : ByteArray) : Prop := ∀ w, Calls Tryz.prog 344 #[.string s, .int .i64 n] w fun e w' => e = .returned (.string r) ∧ Below w.heap.size w w'
abbrev DgC (n : Int) (b : Int) (r : ByteArray) : Prop := ∀ w, Calls Tryz.prog 336 #[.int .u64 n, .int .i64 b] w fun e w' => e = .returned (.string r) ∧ Below w.heap.size w w'
set_option maxRecDepth 1000000 in
theorem fsigned_any (n least : Int) (w : World) (h0 : -1000000 ≤ n) (h1 : n ≤ 1000000) (hl : least ≤ 10) (hl0 : 0 ≤ least) :
  Calls Tryz.prog 349 #[.int .i64 n, .int .i64 least] w fun e w' => e = .returned (.string (sgd n least)) ∧ Below w.heap.size w w' := by
 have hdB := digT_size false 10 n.natAbs
 have hD : DgC (n.natAbs : Nat) 10 (digT false 10 n.natAbs) := fun w => idigits_any n.natAbs 10 w (by omega) (.inr (.inr (.inl rfl)))
 have hL : LaC (digT false 10 n.natAbs) least (lnA (digT false 10 n.natAbs) least) := fun w => flen_any _ _ w (by omega) (by omega) (by omega)
 have hz := lnA_size (digT false 10 n.natAbs) least
 have hz2 : (lnA (digT false 10 n.natAbs) least).size ≤ 100 := by omega
 unfold sgd sx1
 clear hz
 generalize lnA (digT false 10 n.natAbs) least = r at *
 generalize digT false 10 n.natAbs = t at *
 by_cases hn : n < 0
 ·have e0 : ((n.natAbs : Nat) : Int) = -n := by omega
  rw [e0] at hD
  rw [if_pos hn]
  go_enter Tryz.func349, Tryz.ntmps349
  go_wp2_with (first
   | (go_at_call 336; refine (hD _).mono ?_; rintro e w2 ⟨rfl, hb2⟩)
   | (go_at_call 328; refine (hL _).mono ?_; rintro e w3 ⟨rfl, hb3⟩)
   | (go_at_call 286; refine (together2 (a := ⟨#[45]⟩) (b := r) _ (by simp) (by simp) (by rw [show (⟨#[45]⟩ : ByteArray).size = 1 from rfl]; omega)).mono ?_; rintro e w4 ⟨rfl, hb4⟩))
  go_ret
  have h := bel_call hb2 hb3 (Nat.le_refl _)
  exact ⟨rfl, bel_call (h.alloc h.size _) hb4 (Nat.le_refl _)⟩
 ·have e0 : ((n.natAbs : Nat) : Int) = n := by omega
  rw [e0] at hD
  rw [if_neg hn]
  go_enter Tryz.func349, Tryz.ntmps349
  go_wp2_with (first
   | (go_at_call 336; refine (hD _).mono ?_; rintro e w2 ⟨rfl, hb2⟩)
   | (go_at_call 328; refine (hL _).mono ?_; rintro e w3 ⟨rfl, hb3⟩)
   | (go_at_call 286; refine (together2 (a := ⟨#[43]⟩) (b := r) _ (by simp) (by simp) (by rw [show (⟨#[43]⟩ : ByteArray).size = 1 from rfl]; omega)).mono ?_; rintro e w4 ⟨rfl, hb4⟩))
  go_ret
  have h := bel_call hb2 hb3 (Nat.le_refl _)
  exact ⟨rfl, bel_call (h.alloc h.size _) hb4 (Nat.le_refl _)⟩
set_option maxRecDepth 1000000 in
theorem fpointed_any {bits m : Nat} {size e P : Int} {sh : Bool} (a b : ByteArray) (w : World) (ha : a.size ≤ 1000000) (hb : b.size ≤ 1000000) :
  Calls Tryz.prog 347 #[.agg #[.int .u64 (bits : Nat), .int .i64 size, .int .u64 (m : Nat), .int .i64 e, .int .i64 P, .bool sh], .string a, .string b] w fun x w' => x = .returned (.string (ptd sh a b)) ∧ Below w.heap.size w w' := by
 have h1 : (⟨#[46]⟩ : ByteArray).size = 1 := rfl
 have hz : a.size + (⟨#[46]⟩ : ByteArray).size + b.size ≤ 10000000 := by omega
 unfold ptd
 by_cases h0 : b.size = 0
 ·have hue : b.toList.isEmpty = true := empty_yes b h0
  cases sh with
  | false =>
    rw [if_pos ⟨h0, rfl⟩]
    clear h0
    go_enter Tryz.func347, Tryz.ntmps347
    go_wp2
    go_ret
    exact ⟨rfl, by go_grown⟩
  | true =>
    rw [if_neg (by simp)]
    clear h0
    go_enter Tryz.func347, Tryz.ntmps347
    go_wp2_with (go_at_call 286; refine (together3 (a := a) (b := ⟨#[46]⟩) (c := b) _ (by simp) (by simp) (by simp) hz).mono ?_; rintro e w3 ⟨rfl, hb3⟩)
    go_ret
    exact ⟨rfl, bel_call (by go_grown) hb3 (Nat.le_refl _)⟩
 ·have hue : b.toList.isEmpty = false := empty_no b (by omega)
  rw [if_neg (by omega)]
  go_enter Tryz.func347, Tryz.ntmps347
  go_wp2_with (go_at_call 286; refine (together3 (a := a) (b := ⟨#[46]⟩) (c := b) _ (by simp) (by simp) (by simp) hz).mono ?_; rintro e w3 ⟨rfl, hb3⟩)
  go_ret
  exact ⟨rfl, bel_call (by go_grown) hb3 (Nat.le_refl _)⟩
set_option maxRecDepth 1000000 in
theorem faround_any (s : ByteArray) (p : Int) (w : World) (hs : s.size ≤ 100000) (h0 : -100000 ≤ p) (h1 : p ≤ 100000) :
  Calls Tryz.prog 346 #[.string s, .int .i64 p] w fun x w' => x = .returned (.tuple #[.string (arA s p), .string (arB s p)]) ∧ Below w.heap.size w w' := by
 unfold arA arB
 by_cases hp : p ≤ 0
 ·have hL : LaC s ((s.size : Nat) - p) (lnA s ((s.size : Nat) - p)) := fun w => flen_any _ _ w (by omega) (by omega) (by omega)
  rw [if_pos hp, if_pos hp]
  generalize lnA s ((s.size : Nat) - p) = r at *
  go_enter Tryz.func346, Tryz.ntmps346
  go_wp2_with (go_at_call 328; refine (hL _).mono ?_; rintro e w3 ⟨rfl, hb3⟩)
  go_returns
  exact ⟨rfl, hb3⟩
 ·have hL : LbC s p (lnB s p) := fun w => flenB_any _ _ w (by omega) (by omega) (by omega)
  have hz := lnB_size s p
  rw [if_neg hp, if_neg hp]
  obtain ⟨q, rfl⟩ := Int.eq_ofNat_of_zero_le (show 0 ≤ p by omega)
  have hq : (q : Int) ≤ (lnB s q).size := by omega
  have hq2 : q ≤ (lnB s q).size := by omega
  have hz2 : (lnB s q).size ≤ 1000000 := by omega
  clear hz
  generalize lnB s q = r at *
  go_enter Tryz.func346, Tryz.ntmps346
  go_wp2_with (go_at_call 344; refine (hL _).mono ?_; rintro e w3 ⟨rfl, hb3⟩)
  go_region
  all_goals go_wp2
  all_goals go_returns
  all_goals exact ⟨rfl, hb3.drew⟩
end Go.Proofs.YtiagjheifblkiaaGreatDoor
namespace Go.Proofs.YtiagjheifblkiaaGreatDoor
open Go.RowKit
set_option linter.unusedVariables false
set_option linter.unusedSimpArgs false
end Go.Proofs.YtiagjheifblkiaaGreatDoor
namespace Go.Proofs.YtiagjheifblkiaaGreatDoor
open Go.RowKit
set_option linter.unusedVariables false
theorem near_form (v Q : Nat) : ∃ u, near v Q = u * 10 ^ Q ∧ (u = v / 10 ^ Q ∨ u = v / 10 ^ Q + 1) ∧ near v Q + near v Q ≤ v + v + 10 ^ Q ∧ v + v ≤ near v Q + near v Q + 10 ^ Q := by
 have h0 := Nat.div_add_mod v (10 ^ Q)
 rw [Nat.mul_comm] at h0
 have hr : v % 10 ^ Q < 10 ^ Q := Nat.mod_lt _ (pow_pos10 Q)
 unfold near
 by_cases h : 2 * (v % 10 ^ Q) < 10 ^ Q ∨ (2 * (v % 10 ^ Q) = 10 ^ Q ∧ v / 10 ^ Q % 2 = 0)
 ·rw [if_pos h]
  refine ⟨_, rfl, .inl rfl, ?_, ?_⟩
  ·generalize v / 10 ^ Q * 10 ^ Q = b at *; omega
  ·generalize v / 10 ^ Q * 10 ^ Q = b at *; omega
 ·rw [if_neg h]
  refine ⟨v / 10 ^ Q + 1, by rw [Nat.succ_mul], .inr rfl, ?_, ?_⟩
  ·generalize v / 10 ^ Q * 10 ^ Q = b at *; omega
  ·generalize v / 10 ^ Q * 10 ^ Q = b at *; omega
theorem near_top {v Q n : Nat} (hv : v < 10 ^ (Q + n)) : ∃ u, near v Q = u * 10 ^ Q ∧ u ≤ 10 ^ n ∧ near v Q + near v Q ≤ v + v + 10 ^ Q ∧ v + v ≤ near v Q + near v Q + 10 ^ Q := by
 obtain ⟨u, h1, h2, h3, h4⟩ := near_form v Q
 have : v / 10 ^ Q < 10 ^ n := Nat.div_lt_of_lt_mul (by rw [← Nat.pow_add]; exact hv)
 exact ⟨u, h1, by omega, h3, h4⟩
theorem rnd_near {v n Q : Nat} (hQ : oP v - n + 10000 = (Q : Int)) : rnd v n = near v Q := by
 unfold rnd
 rw [if_neg (by omega)]
 by_cases h : ((oL v).length : Int) ≤ n
 ·rw [if_pos h, near_whole ((o_dec v).mod (by omega))]
 ·rw [if_neg h, hQ]; rfl
abbrev RoundC (s : ByteArray) (p n : Int) (S : ByteArray) (P E : Int) : Prop := ∀ w, Calls Tryz.prog 11 #[.agg #[.string s, .int .i64 p], .int .i64 n] w fun e w' => e = .returned (.tuple #[.agg #[.string S, .int .i64 P], .int .i64 E]) ∧ Below w.heap.size w w'
abbrev PlacesC (s : ByteArray) (p n : Int) (S : ByteArray) (P E : Int) : Prop := ∀ w, Calls Tryz.prog 12 #[.agg #[.string s, .int .i64 p], .int .i64 n] w fun e w' => e = .returned (.tuple #[.agg #[.string S, .int .i64 P], .int .i64 E]) ∧ Below w.heap.size w w'
theorem roundC {v : Nat} (n : Int) (g : Good v) : RoundC (oS v) (oP v) n (oS (rnd v n)) (oP (rnd v n)) 0 := fun w => by
 have := round_any (oS v) (oP v) n w (oS_fit v g)
 rw [g.normE, g.normV] at this
 have e : bV 0 (rnd v n) = rnd v n := if_pos rfl
 rw [e] at this; exact this
theorem placesC {v : Nat} (n : Int) (g : Good v) : PlacesC (oS v) (oP v) n (oS (plc v n)) (oP (plc v n)) 0 := fun w => by
 have := places_any (oS v) (oP v) n w (oS_fit v g)
 rw [g.normE, g.normV] at this
 have e : bV 0 (plc v n) = plc v n := if_pos rfl
 rw [e] at this; exact this
end Go.Proofs.YtiagjheifblkiaaGreatDoor
namespace Go.Proofs.YtiagjheifblkiaaGreatDoor
open Go.RowKit
set_option linter.unusedVariables false
def pm (f p : Nat) : Nat := if p / 2 ^ f = 0 then p % 2 ^ f else 2 ^ f + p % 2 ^ f
def pk (f p : Nat) : Nat := p / 2 ^ f - 1
def pq (f p : Nat) : Nat := pm f p * 2 ^ pk f p
def pa (f p : Nat) : Nat := (2 * pm f p + 1) * 2 ^ pk f p
theorem pow_pos2 (n : Nat) : 0 < 2 ^ n := Nat.pow_pos (by decide)
theorem pm_lt (f p : Nat) : pm f p < 2 ^ (f + 1) := by
 have h := Nat.mod_lt p (pow_pos2 f)
 unfold pm
 rw [Nat.pow_succ]
 split <;> omega
theorem pq_next (f p : Nat) : pq f (p + 1) = (pm f p + 1) * 2 ^ pk f p := by
 have hp := pow_pos2 f
 have h0 := Nat.div_add_mod p (2 ^ f)
 have h1 := Nat.mod_lt p hp
 unfold pq
 rcases Nat.lt_or_ge (p % 2 ^ f + 1) (2 ^ f) with h | h
 ·have e1 : (p + 1) / 2 ^ f = p / 2 ^ f := by
   rw [Nat.div_eq_iff hp]
   have : p / 2 ^ f * 2 ^ f = 2 ^ f * (p / 2 ^ f) := Nat.mul_comm ..
   omega
  have e2 : (p + 1) % 2 ^ f = p % 2 ^ f + 1 := by
   have := Nat.div_add_mod (p + 1) (2 ^ f)
   rw [e1] at this; omega
  unfold pm pk
  rw [e1, e2]
  split <;> (congr 1)
 ·have e0 : p % 2 ^ f + 1 = 2 ^ f := by omega
  have e3 : p + 1 = 2 ^ f * (p / 2 ^ f + 1) := by rw [Nat.mul_add, Nat.mul_one]; omega
  have e1 : (p + 1) / 2 ^ f = p / 2 ^ f + 1 := by rw [e3, Nat.mul_div_cancel_left _ hp]
  have e2 : (p + 1) % 2 ^ f = 0 := by rw [e3]; exact Nat.mul_mod_right _ _
  unfold pm pk
  rw [e1, e2, if_neg (Nat.succ_ne_zero _)]
  by_cases hE : p / 2 ^ f = 0
  ·rw [if_pos hE, hE, e0]; rfl
  ·rw [if_neg hE]
   obtain ⟨k, hk⟩ : ∃ k, p / 2 ^ f = k + 1 := Nat.exists_eq_succ_of_ne_zero ‹_›
   rw [hk, show k + 1 + 1 - 1 = k + 1 by omega, show k + 1 - 1 = k by omega, Nat.add_zero, Nat.add_assoc, e0, Nat.pow_succ 2 k, Nat.mul_comm (2 ^ k) 2, ← Nat.mul_assoc, Nat.mul_two]
theorem pq_succ (f p : Nat) : pq f (p + 1) = pq f p + 2 ^ pk f p := by rw [pq_next, Nat.add_mul, Nat.one_mul]; rfl
theorem pa_eq (f p : Nat) : pa f p = 2 * pq f p + 2 ^ pk f p := by unfold pa pq; rw [Nat.add_mul, Nat.one_mul, Nat.mul_assoc]
theorem pa_up (f p : Nat) : pa f p + 2 ^ pk f p = 2 * pq f (p + 1) := by rw [pa_eq, pq_succ]; omega
theorem pk_mono (f : Nat) {p q : Nat} (h : p ≤ q) : 2 ^ pk f p ≤ 2 ^ pk f q :=
 Nat.pow_le_pow_right (by decide) (by unfold pk; have := Nat.div_le_div_right (c := 2 ^ f) h; omega)
theorem pa_lt_succ (f p : Nat) : pa f p < pa f (p + 1) := by
 have h1 := pa_up f p
 have h2 := pa_eq f (p + 1)
 have := pow_pos2 (pk f p)
 have := pow_pos2 (pk f (p + 1))
 omega
theorem pa_mono (f : Nat) {p q : Nat} (h : p < q) : pa f p < pa f q := by
 induction h with
 | refl => exact pa_lt_succ f p
 | step _ ih => exact Nat.lt_trans ih (pa_lt_succ f _)
def TG (f u v p : Nat) : Prop := v < pa f (p - 1) * u ∨ (v = pa f (p - 1) * u ∧ p % 2 = 1)
def RD (f I u v r : Nat) : Prop := r ≤ I ∧ (r = 0 ∨ ¬ TG f u v r) ∧ (r = I ∨ TG f u v (r + 1))
theorem TG.mono {f u v p q : Nat} (hu : 0 < u) (hp : 1 ≤ p) (h : p ≤ q) (t : TG f u v p) : TG f u v q := by
 rcases Nat.eq_or_lt_of_le h with rfl | h
 ·exact t
 ·have h1 := Nat.mul_lt_mul_of_pos_right (pa_mono f (show p - 1 < q - 1 by omega)) hu
  refine .inl ?_
  rcases t with t | ⟨t, -⟩ <;> omega
theorem RD.uniq {f I u v r s : Nat} (hu : 0 < u) (h : RD f I u v r) (k : RD f I u v s) : r = s := by
 have key : ∀ {r s : Nat}, RD f I u v r → RD f I u v s → ¬ r < s := by
  intro r s h k hlt
  have h1 : TG f u v (r + 1) := by rcases h.2.2 with e | t; · have := k.1; omega
                                   ·exact t
  rcases k.2.1 with e | t
  ·omega
  ·exact t (h1.mono hu (by omega) (by omega))
 have a := key h k
 have b := key k h
 omega
theorem RD.mono {f I u v v' r s : Nat} (hu : 0 < u) (h : RD f I u v r) (k : RD f I u v' s) (hv : v ≤ v') : r ≤ s := by
 rcases Nat.lt_or_ge s r with hlt | hge
 ·exfalso
  have h1 : TG f u v' (s + 1) := by rcases k.2.2 with e | t; · have := h.1; omega
                                    ·exact t
  have h2 : TG f u v (s + 1) := by
   rcases h1 with t | ⟨t1, t2⟩
   ·exact .inl (by omega)
   ·rcases Nat.eq_or_lt_of_le hv with e | e
    ·exact .inr ⟨by omega, t2⟩
    ·exact .inl (by omega)
  rcases h.2.1 with e | t
  ·omega
  ·exact t (h2.mono hu (by omega) (by omega))
 ·exact hge
theorem RD_in {f I u v p : Nat} (hp : p < I) : RD f I u v (p + 1 - 1) ↔ ¬ (p ≠ 0 ∧ TG f u v p) ∧ TG f u v (p + 1) := by
 rw [Nat.add_sub_cancel]
 unfold RD
 constructor
 ·rintro ⟨h1, h2, h3⟩
  refine ⟨?_, ?_⟩
  ·rintro ⟨a, b⟩
   rcases h2 with h2 | h2
   ·exact a h2
   ·exact h2 b
  ·rcases h3 with h3 | h3
   ·omega
   ·exact h3
 ·rintro ⟨h1, h2⟩
  refine ⟨by omega, ?_, .inr h2⟩
  by_cases h0 : p = 0
  ·exact .inl h0
  ·exact .inr fun t => h1 ⟨h0, t⟩
theorem RD_bounds {f I u v p : Nat} (h0 : p ≠ 0) (hp : p < I) :
  RD f I u v p ↔ if p % 2 = 0 then pa f (p - 1) * u ≤ v ∧ v ≤ pa f p * u else pa f (p - 1) * u < v ∧ v < pa f p * u := by
 have := RD_in (f := f) (u := u) (v := v) hp
 rw [Nat.add_sub_cancel] at this
 rw [this]
 unfold TG
 rw [Nat.add_sub_cancel]
 by_cases he : p % 2 = 0
 ·rw [if_pos he]; omega
 ·rw [if_neg he]; omega
end Go.Proofs.YtiagjheifblkiaaGreatDoor
