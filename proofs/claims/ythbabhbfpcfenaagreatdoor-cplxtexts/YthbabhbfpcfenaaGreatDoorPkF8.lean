/- BLaw, FText, Runes, Hexa, Plain5, IWritten: these texts in one. -/
import Derived.Test.YthbabhbfpcfenaaGreatDoorPkF7
import Derived.Test.YthbabhbfpcfenaaGreatDoorPkF1
import Derived.Lib.Join
import Derived.Lib.BitFns
import Derived.Test.YthbabhbfpcfenaaGreatDoorRows
import Derived.WalkSpells
import Derived.WalkLawsBesides
import Derived.Laws.BytesArg
import Derived.Test.YthbabhbfpcfenaaGreatDoorShelf
import Derived.Deep.LoopGhost
import Derived.Laws.BitsLemmas
import Derived.WalkKit
/- Plain mathematics under the laws of layer 4 that stand without the document's answer. -/
namespace Go.Proofs.YthbabhbfpcfenaaGreatDoor
open Go.RowKit
set_option linter.unusedVariables false

/-- Few digits, a point that Norm takes. -/
structure Good (v : Nat) : Prop where
  len : (oL v).length ≤ 2000
  p0 : -5000 ≤ oP v
  p1 : oP v ≤ 5000
theorem oS_list (v : Nat) : (oS v).data.toList = oL v := rfl
theorem Good.normE {v : Nat} (h : Good v) : normE (oS v) (oP v) = 0 := by
  have hl := h.len
  have h0 := h.p0
  have h1 := h.p1
  exact normE_ok (by rw [oS_size]; omega) (o_dig v) (by omega) (by omega)
theorem norm_o {v : Nat} (h : Go.Proofs.YthbabhbfpcfenaaGreatDoor.normE (oS v) (oP v) = 0) : normV (oS v) (oP v) = v := by rw [normV_ok h]; exact o_val v
theorem Good.normV {v : Nat} (h : Good v) : normV (oS v) (oP v) = v := norm_o h.normE
/-- How many digits a number of units of a place has. -/
theorem cnt_le {v u j q : Nat} (h : v = u * 10 ^ j) (hu : u < 10 ^ q) : (oL v).length ≤ q := by
  by_cases hv : v = 0
  · rw [hv, o_zero.1]; exact Nat.zero_le _
  · have hd := o_dec v
    have hl := hd.ne hv
    have hx := num_last hd.dig hd.lst hl
    have e := hd.val.trans h
    have haj : j ≤ (oP v - (oL v).length + 10000).toNat := by
      rcases Nat.lt_or_ge (oP v - (oL v).length + 10000).toNat j with h1 | h1
      · exact (pow_split hx h1 e).elim
      · exact h1
    obtain ⟨c, hc⟩ : ∃ c, (oP v - (oL v).length + 10000).toNat = c + j := ⟨_, (Nat.sub_add_cancel haj).symm⟩
    rw [hc, Nat.pow_add, ← Nat.mul_assoc] at e
    have e2 := Nat.eq_of_mul_eq_mul_right (pow_pos10 j) e
    have hc1 : 1 ≤ 10 ^ c := pow_pos10 c
    have h2 : num (oL v) * 1 ≤ num (oL v) * 10 ^ c := Nat.mul_le_mul_left _ hc1
    obtain ⟨x, t, ht⟩ := List.exists_cons_of_ne_nil hl
    have h3 := num_head (ht ▸ hd.dig) (ht ▸ hd.hd)
    rw [← ht] at h3
    have h4 : 10 ^ t.length < 10 ^ q := by omega
    have := (Nat.pow_lt_pow_iff_right (by decide)).1 h4
    rw [ht, List.length_cons]; omega
theorem mod_quot {v J K : Nat} (hm : v % 10 ^ J = 0) (hv : v < 10 ^ (J + K)) : ∃ u, v = u * 10 ^ J ∧ u < 10 ^ K := by
  refine ⟨v / 10 ^ J, ?_, ?_⟩
  · have := Nat.div_add_mod v (10 ^ J)
    rw [hm, Nat.add_zero, Nat.mul_comm] at this; exact this.symm
  · rw [Nat.pow_add, Nat.mul_comm] at hv
    exact Nat.div_lt_of_lt_mul (by rw [Nat.mul_comm]; exact hv)
theorem good_of {v J K : Nat} (hm : v % 10 ^ J = 0) (hv : v < 10 ^ (J + K)) (hJ : 5000 ≤ J) (hK : J + K ≤ 15000) (hK2 : K ≤ 2000) : Good v := by
  obtain ⟨u, h1, h2⟩ := mod_quot hm hv
  have hl := cnt_le h1 h2
  by_cases h0 : v = 0
  · subst h0
    exact ⟨by rw [o_zero.1]; simp, by rw [o_zero.2]; decide, by rw [o_zero.2]; decide⟩
  · have hu : 1 ≤ u := by
      rcases Nat.eq_zero_or_pos u with h | h
      · subst h; rw [Nat.zero_mul] at h1; exact absurd h1 h0
      · exact h
    have hg := oP_gt (v := v) (q := J) (by rw [h1]; have := Nat.mul_le_mul_right (10 ^ J) hu; omega)
    rcases oP_le hv with h3 | h3
    · exact ⟨by omega, by omega, by omega⟩
    · exact absurd h3 h0
theorem big_const : ∃ N M : Nat, N = 1200 ∧ M = 839 ∧ (5 : Nat) ^ N < 10 ^ M ∧ (2 : Nat) ^ N < 10 ^ M := ⟨1200, 839, rfl, rfl, by decide +kernel, by decide +kernel⟩
theorem m_big {m k b N M : Nat} (hm : m < 18446744073709551616) (hb0 : 0 < b) (hk : k ≤ N) (h2 : b ^ N < 10 ^ M) : m * b ^ k < 10 ^ (20 + M) := by
  have h1 : b ^ k ≤ b ^ N := Nat.pow_le_pow_right hb0 hk
  have h4 : (10 : Nat) ^ 20 = 100000000000000000000 := by decide
  rw [Nat.pow_add]
  exact Nat.mul_lt_mul'' (by omega) (by omega)
theorem pow_mod (u j : Nat) : u * 10 ^ j % 10 ^ j = 0 := Nat.mul_mod_left _ _
theorem exU_up (m : Nat) {e : Int} (h : 0 ≤ e) : exU m e = m * 2 ^ e.toNat * 10 ^ ((0 : Int) + 10000).toNat := if_pos h
theorem exU_dn (m : Nat) {e : Int} (h : ¬ 0 ≤ e) : exU m e = m * 5 ^ (-e).toNat * 10 ^ (e + 10000).toNat := if_neg h
/-- What Exact answers can be taken again, and twice it too. -/
theorem exU_split {m : Nat} {e : Int} (hm : m < 18446744073709551616) (h0 : -1200 ≤ e) (h1 : e ≤ 1200) : ∃ J u q, exU m e = u * 10 ^ J ∧ u < 10 ^ q ∧ q ≤ 859 ∧ 8800 ≤ J ∧ J ≤ 10000 := by
  obtain ⟨N, M, hN, hM, h5, h2⟩ := big_const
  by_cases he : 0 ≤ e
  · rw [exU_up m he]
    exact ⟨((0 : Int) + 10000).toNat, _, 20 + M, rfl, m_big hm (by decide) (by omega) h2, by omega, by omega, by omega⟩
  · rw [exU_dn m he]
    exact ⟨(e + 10000).toNat, _, 20 + M, rfl, m_big hm (by decide) (by omega) h5, by omega, by omega, by omega⟩
theorem good_small {v J u q : Nat} (h : v = u * 10 ^ J) (hu : u < 10 ^ q) (hq : q ≤ 1000) (h0 : 8800 ≤ J) (h1 : J ≤ 10000) : Good v := by
  refine good_of (J := J) (K := q) (by rw [h]; exact pow_mod u J) ?_ (by omega) (by omega) (by omega)
  rw [h, Nat.pow_add, Nat.mul_comm (10 ^ J)]
  exact Nat.mul_lt_mul_of_pos_right hu (pow_pos10 J)
theorem exU_good {m : Nat} {e : Int} (hm : m < 18446744073709551616) (h0 : -1200 ≤ e) (h1 : e ≤ 1200) : Good (exU m e) ∧ Good (exU m e + exU m e) := by
  obtain ⟨J, u, q, h2, h3, h6, h4, h5⟩ := exU_split hm h0 h1
  have hp : (10 : Nat) ^ (q + 1) = 10 ^ q * 10 := Nat.pow_succ ..
  exact ⟨good_small h2 h3 (by omega) h4 h5, good_small (u := u + u) (q := q + 1) (by rw [h2, Nat.add_mul]) (by omega) (by omega) h4 h5⟩
theorem exU_double (m : Nat) (e : Int) (h0 : -1200 ≤ e) (h1 : e ≤ 1199) : exU m (e + 1) = exU m e + exU m e := by
  by_cases he : 0 ≤ e
  · rw [exU_up m he, exU_up m (show 0 ≤ e + 1 by omega), show (e + 1).toNat = e.toNat + 1 by omega, Nat.pow_succ, ← Nat.mul_assoc]
    generalize (10 : Nat) ^ ((0 : Int) + 10000).toNat = A
    generalize m * 2 ^ e.toNat = B
    rw [Nat.mul_comm B 2, Nat.mul_assoc, Nat.two_mul]
  · by_cases he1 : e = -1
    · subst he1
      have e1 : ((-1 : Int) + 1).toNat = 0 := by decide
      have e2 : (-(-1 : Int)).toNat = 1 := by decide
      have e3 : ((0 : Int) + 10000).toNat = ((-1 : Int) + 10000).toNat + 1 := by decide
      rw [exU_up m (show (0 : Int) ≤ -1 + 1 by decide), exU_dn m he, e1, e2, e3, Nat.pow_succ]
      generalize (10 : Nat) ^ ((-1 : Int) + 10000).toNat = A
      rw [Nat.pow_zero, Nat.pow_one, Nat.mul_one, ← Nat.mul_assoc, Nat.mul_assoc m 5 A, Nat.mul_left_comm m 5 A]
      generalize m * A = B
      omega
    · rw [exU_dn m he, exU_dn m (show ¬ 0 ≤ e + 1 by omega), show (-e).toNat = (-(e + 1)).toNat + 1 by omega, show (e + 1 + 10000).toNat = (e + 10000).toNat + 1 by omega, Nat.pow_succ, Nat.pow_succ]
      generalize (5 : Nat) ^ (-(e + 1)).toNat = C
      generalize (10 : Nat) ^ (e + 10000).toNat = A
      have h3 : m * C * (A * 10) = m * C * A * 10 := by rw [Nat.mul_assoc (m * C) A 10]
      have h4 : m * (C * 5) * A = m * C * A * 5 := by rw [← Nat.mul_assoc m C 5, Nat.mul_assoc (m * C) 5 A, Nat.mul_comm 5 A, ← Nat.mul_assoc]
      rw [h3, h4]
      generalize m * C * A = B
      omega
/-- Behind a call that was made in a world with one block more. -/
theorem Cl.after {W : World} {x : Cl W} {o : Obj} {w6 : World} (hb : Below (x.w.alloc o).heap.size (x.w.alloc o) w6) : ∃ y : Cl W, w6 = y.w :=
  ⟨⟨w6, bel_call (x.below.alloc x.below.size _) hb (Nat.le_refl _)⟩, rfl⟩
theorem Cl.next {W : World} {x : Cl W} {w6 : World} (hb : Below x.w.heap.size x.w w6) : ∃ y : Cl W, w6 = y.w :=
  ⟨⟨w6, bel_call x.below hb (Nat.le_refl _)⟩, rfl⟩
/-- Add of two decimals in form. -/
abbrev AddC (s1 : ByteArray) (p1 : Int) (s2 : ByteArray) (p2 : Int) (S : ByteArray) (P E : Int) : Prop := ∀ w, Calls Tryz.prog 180 #[.agg #[.string s1, .int .i64 p1], .agg #[.string s2, .int .i64 p2]] w fun e w' => e = .returned (.tuple #[.agg #[.string S, .int .i64 P], .int .i64 E]) ∧ Below w.heap.size w w'
abbrev CmpC (s1 : ByteArray) (p1 : Int) (s2 : ByteArray) (p2 : Int) (r E : Int) : Prop := ∀ w, Calls Tryz.prog 181 #[.agg #[.string s1, .int .i64 p1], .agg #[.string s2, .int .i64 p2]] w fun e w' => e = .returned (.tuple #[.int .i64 r, .int .i64 E]) ∧ Below w.heap.size w w'
theorem oS_fit (v : Nat) (h : Good v) : (oS v).size ≤ 9223372036854775807 := by rw [oS_size]; have := h.len; omega
theorem addC {v u : Nat} (hv : Good v) (hu : Good u) (hs : Good (v + u)) : AddC (oS v) (oP v) (oS u) (oP u) (oS (v + u)) (oP (v + u)) 0 := fun w => by
  have := add_any (oS v) (oS u) (oP v) (oP u) w (oS_fit v hv) (oS_fit u hu)
  rw [hv.normE, hu.normE, hv.normV, hu.normV] at this
  have e0 : bE 0 0 = 0 := rfl
  have e1 : aE 0 (v + u) = 0 := by unfold aE; rw [if_pos rfl, if_neg (by have := hs.len; omega)]
  have e2 : aV 0 (v + u) = v + u := by unfold aV; rw [if_pos e1]
  rw [e0, e1, e2] at this
  exact this
theorem cmpC {v u : Nat} (hv : Good v) (hu : Good u) : CmpC (oS v) (oP v) (oS u) (oP u) (ordN v u) 0 := fun w => by
  have := cmp_any (oS v) (oS u) (oP v) (oP u) w (oS_fit v hv) (oS_fit u hu)
  rw [hv.normE, hu.normE, hv.normV, hu.normV] at this
  have e0 : bE 0 0 = 0 := rfl
  rw [e0, if_pos rfl] at this
  exact this
end Go.Proofs.YthbabhbfpcfenaaGreatDoor

/- Plain mathematics of layer 6: what is written of a float. -/
namespace Go.Proofs.YthbabhbfpcfenaaGreatDoor
open Go.RowKit
set_option linter.unusedVariables false
set_option linter.unusedSimpArgs false

/-- Noughts ahead, or behind, until there are so many. -/
def lnA (s : ByteArray) (n : Int) : ByteArray := run 48 (n - (s.size : Nat)).toNat ++ s
def lnB (s : ByteArray) (n : Int) : ByteArray := s ++ run 48 (n - (s.size : Nat)).toNat
theorem lnA_size (s : ByteArray) (n : Int) : (lnA s n).size = s.size + (n - (s.size : Nat)).toNat := by unfold lnA; rw [app_size, run_size]; omega
theorem lnB_size (s : ByteArray) (n : Int) : (lnB s n).size = s.size + (n - (s.size : Nat)).toNat := by unfold lnB; rw [app_size, run_size]
/-- Digits on both sides of a point. -/
def ptd (sh : Bool) (a b : ByteArray) : ByteArray := if b.size = 0 ∧ sh = false then a else (a ++ ⟨#[46]⟩) ++ b
theorem ptd_size (sh : Bool) (a b : ByteArray) : a.size ≤ (ptd sh a b).size ∧ (ptd sh a b).size ≤ a.size + 1 + b.size := by
  have h : (⟨#[46]⟩ : ByteArray).size = 1 := rfl
  unfold ptd
  split
  · omega
  · rw [app_size, app_size]; omega
def sx1 (n : Int) : ByteArray := if n < 0 then ⟨#[45]⟩ else ⟨#[43]⟩
theorem sx1_size (n : Int) : (sx1 n).size = 1 := by unfold sx1; split <;> rfl
/-- A number behind its sign. -/
def sgd (n : Int) (least : Int) : ByteArray := sx1 n ++ lnA (digT false 10 n.natAbs) least
theorem sgd_size (n : Int) (least : Int) (h : least ≤ 10) : (sgd n least).size ≤ 80 ∧ 2 ≤ (sgd n least).size := by
  have h1 := sx1_size n
  have h2 := digT_size false 10 n.natAbs
  have h3 := lnA_size (digT false 10 n.natAbs) least
  unfold sgd
  rw [app_size]; omega
/-- Digits with a point behind the first one, and its power of ten. -/
def sci (sh : Bool) (d : ByteArray) (x : Int) : ByteArray := (ptd sh (d.extract 0 1) (d.extract 1 d.size) ++ ⟨#[101]⟩) ++ sgd x 2
theorem sci_size (sh : Bool) (d : ByteArray) (x : Int) (hd : d.size ≤ 100000) : (sci sh d x).size ≤ 100090 ∧ 3 ≤ (sci sh d x).size := by
  have h1 := ptd_size sh (d.extract 0 1) (d.extract 1 d.size)
  have h2 := sgd_size x 2 (by decide)
  have h3 : (⟨#[101]⟩ : ByteArray).size = 1 := rfl
  have h4 : (d.extract 0 1).size ≤ 1 := by rw [ByteArray.size_extract]; omega
  have h5 : (d.extract 0 1).size + (d.extract 1 d.size).size ≤ d.size := by rw [ByteArray.size_extract, ByteArray.size_extract]; omega
  unfold sci
  rw [app_size, app_size]; omega
/-- What stands ahead of a point, and behind it. -/
def arA (d : ByteArray) (p : Int) : ByteArray := if p ≤ 0 then ⟨#[48]⟩ else (lnB d p).extract 0 p.toNat
def arB (d : ByteArray) (p : Int) : ByteArray := if p ≤ 0 then lnA d ((d.size : Nat) - p) else (lnB d p).extract p.toNat (lnB d p).size
theorem arA_size (d : ByteArray) (p : Int) (hp : p ≤ 100000) : (arA d p).size ≤ 100000 ∧ 1 ≤ (arA d p).size := by
  have h := lnB_size d p
  unfold arA
  split
  · exact ⟨by decide, by decide⟩
  · rw [ByteArray.size_extract]; omega
theorem arB_size (d : ByteArray) (p : Int) (hd : d.size ≤ 100000) (hp : -100000 ≤ p) : (arB d p).size ≤ 200000 := by
  have h := lnB_size d p
  have h2 := lnA_size d ((d.size : Nat) - p)
  unfold arB
  split
  · omega
  · rw [ByteArray.size_extract]; omega
/-- The power of ten of the first digit. -/
def pw0 (v : Nat) : Int := if v = 0 then 0 else oP v - 1
/-- What e writes, ahead of great letters. -/
def cntE (P : Int) : Int := (if P < 0 then 6 else P) + 1
def expT (sh : Bool) (P : Int) (v : Nat) : ByteArray := sci sh (lnB (oS (rnd v (cntE P))) (cntE P)) (pw0 (rnd v (cntE P)))
/-- What f writes. -/
def plcF (P : Int) : Int := if P < 0 then 6 else P
def fixT (sh : Bool) (P : Int) (v : Nat) : ByteArray := ptd sh (arA (oS (plc v (plcF P))) (oP (plc v (plcF P)))) (lnB (arB (oS (plc v (plcF P))) (oP (plc v (plcF P)))) (plcF P))
/-- What g writes of a decimal that was rounded (or is the shortest): most: the power from which on it has an exponent; cnt: how many digits with Sharp. -/
def genD (sh : Bool) (d : Nat) (cnt : Int) : ByteArray := if sh = true then lnB (lnB (oS d) 1) cnt else lnB (oS d) 1
def genG (sh : Bool) (d : Nat) (most cnt : Int) : ByteArray := if pw0 d < -4 ∨ most ≤ pw0 d then sci sh (genD sh d cnt) (pw0 d) else ptd sh (arA (genD sh d cnt) (pw0 d + 1)) (arB (genD sh d cnt) (pw0 d + 1))
def genT (sh : Bool) (P : Int) (v d : Nat) : ByteArray := if P < 0 then genG sh d 21 6 else genG sh (rnd v (max P 1)) (max P 1) (max P 1)
/-- What b writes. -/
def parT (m : Nat) (e : Int) : ByteArray := (digT false 10 m ++ ⟨#[112]⟩) ++ sgd e 1
/-- The bits of a number behind a leading one at the bit 52, rounded to so many digits to the base 16. -/
def rbU (c : Nat) : Nat := 2 ^ (4 * (13 - c))
def rbW (m c : Nat) : Nat := if m % rbU c > rbU c / 2 ∨ (m % rbU c = rbU c / 2 ∧ m / rbU c % 2 = 1) then m / rbU c + 1 else m / rbU c
def rb (m : Nat) (P : Int) : Nat := if P < 0 ∨ 13 ≤ P then m else rbW m P.toNat * rbU P.toNat
def nmS (m : Nat) : Nat := 53 - Lib.bitLen m
def nmM (m : Nat) (P : Int) : Nat := if m = 0 then 0 else if rb (m * 2 ^ nmS m) P / 2 ^ 52 = 2 then rb (m * 2 ^ nmS m) P / 2 else rb (m * 2 ^ nmS m) P
def nmE (m : Nat) (e P : Int) : Int := if m = 0 then 0 else if rb (m * 2 ^ nmS m) P / 2 ^ 52 = 2 then e + 52 - nmS m + 1 else e + 52 - nmS m
def hxD (m : Nat) (P : Int) : ByteArray := lnA (digT false 16 (nmM m P)) 14
def hxP (d : ByteArray) (P : Int) : ByteArray := if P < 0 then ⟨(rtr d.data.toList).toArray⟩ else lnB (d.extract 0 (min P 13).toNat) P
/-- What x writes. -/
def hexT (sh : Bool) (P : Int) (m : Nat) (e : Int) : ByteArray :=
  (((⟨#[48, 120]⟩ : ByteArray) ++ ptd sh ((hxD m P).extract 0 1) (hxP ((hxD m P).extract 1 (hxD m P).size) P)) ++ ⟨#[112]⟩) ++ sgd (nmE m e P) 2
/-- The verbs of floats. -/
def fVerb (v : Int) : Bool := decide (v = 101 ∨ v = 69 ∨ v = 102 ∨ v = 70 ∨ v = 103 ∨ v = 71 ∨ v = 118 ∨ v = 98 ∨ v = 120 ∨ v = 88)
def grV (v : Int) : Bool := decide (v = 69 ∨ v = 71 ∨ v = 88)
/-- A finite number by a verb, ahead of great letters: v its value, d its shortest decimal. -/
def numT (sh : Bool) (P : Int) (m : Nat) (e : Int) (v d : Nat) (verb : Int) : ByteArray :=
  if verb = 101 ∨ verb = 69 then expT sh P v else if verb = 102 ∨ verb = 70 then fixT sh P v else if verb = 98 then parT m e else if verb = 120 ∨ verb = 88 then hexT sh P m e else genT sh P v d
def bigT (g : Bool) (s : ByteArray) : ByteArray := if g = true then ⟨(Lib.toUpperA s.data.toList).toArray⟩ else s
/-- A finite number by a verb. -/
def finT (sh : Bool) (prec : Int) (m : Nat) (e : Int) (v d : Nat) (verb : Int) : ByteArray := bigT (grV verb) (numT (sh && decide (verb ≠ 118)) (min prec 1000) m e v d verb)
/-- Its sign. -/
def sgF (neg p sp : Bool) : ByteArray := if neg = true then ⟨#[45]⟩ else signA p sp
def sgI (neg p sp : Bool) : ByteArray := if (sgF neg p sp).size = 0 then ⟨#[43]⟩ else sgF neg p sp
theorem sgF_size (neg p sp : Bool) : (sgF neg p sp).size ≤ 1 := by cases neg <;> cases p <;> cases sp <;> decide
theorem sgI_size (neg p sp : Bool) : (sgI neg p sp).size = 1 := by cases neg <;> cases p <;> cases sp <;> decide
/-- Sign and text, filled to a width. -/
def filT (sign t : ByteArray) (mi z : Bool) (wid : Int) : ByteArray := padS (sign ++ (if z = true ∧ mi = false then lnA t ((wdt wid : Nat) - (sign.size : Nat)) else t)) mi false wid
end Go.Proofs.YthbabhbfpcfenaaGreatDoor

/- The walks of Rune, of the document's Rune and Point. -/
namespace Go.Proofs.YthbabhbfpcfenaaGreatDoor
open Go.RowKit

set_option maxHeartbeats 400000 in
theorem point_any (c : Int) (w : World) :
    Calls Tryz.prog 155 #[.int .i32 c] w fun e w' => e = .returned (.bool (Utf8.valid c)) ∧ w' = w := by
  by_cases h1 : 0 ≤ c <;> by_cases h2 : c ≤ 1114111 <;> by_cases h3 : c < 55296 <;> by_cases h4 : 57343 < c
  all_goals
    go_enter Tryz.func155, Tryz.ntmps155
    go_wp2
    go_ret
    refine ⟨?_, rfl⟩
    congr 2
    simp [Utf8.valid]
    omega

theorem point_yes (c : Int) (w : World) (h : Utf8.valid c = true) :
    Calls Tryz.prog 155 #[.int .i32 c] w fun e w' => e = .returned (.bool true) ∧ w' = w := by
  rw [← h]; exact point_any c w
theorem point_no (c : Int) (w : World) (h : Utf8.valid c = false) :
    Calls Tryz.prog 155 #[.int .i32 c] w fun e w' => e = .returned (.bool false) ∧ w' = w := by
  rw [← h]; exact point_any c w

theorem conv_new (w : World) (xs : List Int) (n : Nat) (hn : xs.length = n) :
    (convert 74 9 (.slice (some ⟨w.heap.size, 0, none⟩) n n)).run Tryz.prog (w.alloc (.cells (xs.map (Value.int .u8)).toArray 5)) = .ok (.string (strOfNums xs)) (w.alloc (.cells (xs.map (Value.int .u8)).toArray 5)) := by
  refine run_convert_bytes_arg _ 74 5 Tryz.underlying74 Tryz.underlying5 w.heap.size 0 n n xs hn (fun i hi => ?_) 9 Tryz.underlying9
  have hi' : i < xs.length := by omega
  simp [hi', List.getD]
theorem conv1 (w : World) (x : Int) :
    (convert 74 9 (.slice (some ⟨w.heap.size, 0, none⟩) 1 1)).run Tryz.prog (w.alloc (.cells #[.int .u8 x] 5)) = .ok (.string (strOfNums [x])) (w.alloc (.cells #[.int .u8 x] 5)) := conv_new w [x] 1 rfl
theorem conv2 (w : World) (x y : Int) :
    (convert 74 9 (.slice (some ⟨w.heap.size, 0, none⟩) 2 2)).run Tryz.prog (w.alloc (.cells #[.int .u8 x, .int .u8 y] 5)) = .ok (.string (strOfNums [x, y])) (w.alloc (.cells #[.int .u8 x, .int .u8 y] 5)) := conv_new w [x, y] 2 rfl
theorem conv3 (w : World) (x y z : Int) :
    (convert 74 9 (.slice (some ⟨w.heap.size, 0, none⟩) 3 3)).run Tryz.prog (w.alloc (.cells #[.int .u8 x, .int .u8 y, .int .u8 z] 5)) = .ok (.string (strOfNums [x, y, z])) (w.alloc (.cells #[.int .u8 x, .int .u8 y, .int .u8 z] 5)) := conv_new w [x, y, z] 3 rfl
theorem conv4 (w : World) (x y z u : Int) :
    (convert 74 9 (.slice (some ⟨w.heap.size, 0, none⟩) 4 4)).run Tryz.prog (w.alloc (.cells #[.int .u8 x, .int .u8 y, .int .u8 z, .int .u8 u] 5)) = .ok (.string (strOfNums [x, y, z, u])) (w.alloc (.cells #[.int .u8 x, .int .u8 y, .int .u8 z, .int .u8 u] 5)) := conv_new w [x, y, z, u] 4 rfl

end Go.Proofs.YthbabhbfpcfenaaGreatDoor

/- The walks of Plain and of hexadecimal. -/
namespace Go.Proofs.YthbabhbfpcfenaaGreatDoor
open Go.RowKit

theorem small_at (i : Nat) (h : i < (ByteArray.mk #[48, 49, 50, 51, 52, 53, 54, 55, 56, 57, 97, 98, 99, 100, 101, 102]).size) : ((ByteArray.mk #[48, 49, 50, 51, 52, 53, 54, 55, 56, 57, 97, 98, 99, 100, 101, 102])[i]'h).toNat = hexN false i := by
  match i, h with
  | 0, _ => rfl
  | 1, _ => rfl
  | 2, _ => rfl
  | 3, _ => rfl
  | 4, _ => rfl
  | 5, _ => rfl
  | 6, _ => rfl
  | 7, _ => rfl
  | 8, _ => rfl
  | 9, _ => rfl
  | 10, _ => rfl
  | 11, _ => rfl
  | 12, _ => rfl
  | 13, _ => rfl
  | 14, _ => rfl
  | 15, _ => rfl
  | n + 16, h => exact absurd h (by show ¬ n + 16 < 16; omega)
theorem great_at (i : Nat) (h : i < (ByteArray.mk #[48, 49, 50, 51, 52, 53, 54, 55, 56, 57, 65, 66, 67, 68, 69, 70]).size) : ((ByteArray.mk #[48, 49, 50, 51, 52, 53, 54, 55, 56, 57, 65, 66, 67, 68, 69, 70])[i]'h).toNat = hexN true i := by
  match i, h with
  | 0, _ => rfl
  | 1, _ => rfl
  | 2, _ => rfl
  | 3, _ => rfl
  | 4, _ => rfl
  | 5, _ => rfl
  | 6, _ => rfl
  | 7, _ => rfl
  | 8, _ => rfl
  | 9, _ => rfl
  | 10, _ => rfl
  | 11, _ => rfl
  | 12, _ => rfl
  | 13, _ => rfl
  | 14, _ => rfl
  | 15, _ => rfl
  | n + 16, h => exact absurd h (by show ¬ n + 16 < 16; omega)
theorem wraps_i32_31 (n : Int) (h₀ : 0 ≤ n) (h₁ : n < 2 ^ 31) : IntKind.i32.wrap n = n := by
  have e : (2 : Int) ^ 31 = 2147483648 := by decide
  rw [e] at h₁
  rw [IntKind.wrap_i32]
  omega
theorem bits15 (x : Nat) (h : x < 2147483648) : bits .and .i32 (x : Int) 15 = ((x % 16 : Nat) : Int) := by
  have e := bits_mask .i32 31 (by decide) wraps_i32_31 4 (by decide) (x : Int) (by omega) (by have : (2 : Int) ^ 31 = 2147483648 := by decide
                                                                                              omega)
  have e1 : ((2 : Int) ^ 4 - 1) = 15 := by decide
  have e2 : ((2 : Int) ^ 4) = 16 := by decide
  rw [e1, e2] at e
  rw [e]
  omega
theorem shr_nat (c j : Nat) : (c : Int) / 2 ^ (4 * j) = ((c / 16 ^ j : Nat) : Int) := by
  have : (2 : Int) ^ (4 * j) = ((16 ^ j : Nat) : Int) := by
    rw [Int.pow_mul]; simp
  rw [this]; simp
theorem hexN_lt (g : Bool) (i : Nat) (h : i < 16) : hexN g i < 256 := by unfold hexN; split <;> (try split) <;> omega
theorem hexB_nat (g : Bool) (i : Nat) (h : i < 16) : (hexB g i).toNat = hexN g i := by
  have := hexN_lt g i h
  unfold hexB
  simp
  omega
theorem cells_hex (l : List UInt8) (g : Bool) (i : Nat) (h : i < 16) : Lib.byteCells l ++ [.int .u8 (hexN g i : Nat)] = Lib.byteCells (l ++ [hexB g i]) := by
  rw [Lib.byteCells_append, ← hexB_nat g i h]; rfl

end Go.Proofs.YthbabhbfpcfenaaGreatDoor

/- A fact on memory that a call left alone. -/
namespace Go.Proofs.YthbabhbfpcfenaaGreatDoor
open Go.RowKit
theorem bcell {W w1 : World} (hb : Below W.heap.size W w1) : (∀ b o, b < W.heap.size → w1.cell? ⟨b, o, none⟩ = W.cell? ⟨b, o, none⟩) ∧ (∀ b o, b < W.heap.size → w1.frozen? ⟨b, o, none⟩ = W.frozen? ⟨b, o, none⟩) :=
  ⟨fun b o h => hb.cell (p := ⟨b, o, none⟩) h, fun b o h => hb.frozen (p := ⟨b, o, none⟩) h⟩
end Go.Proofs.YthbabhbfpcfenaaGreatDoor

/- The walks of written and Digits of package ints. -/
namespace Go.Proofs.YthbabhbfpcfenaaGreatDoor
open Go.RowKit
set_option linter.unusedVariables false

/-- A row of 64 bytes whose last ones are written. -/
structure Row64 (w : World) (B m : Nat) (ds : List UInt8) : Prop where
  len : m + ds.length = 64
  some_ : ∀ i, i < 64 → ∃ v, w.cell? ⟨B, i, none⟩ = some v
  at_ : ∀ i, i < ds.length → w.cell? ⟨B, m + i, none⟩ = some (.int .u8 (ds.getD i 0).toNat)
  froz : ∀ i, w.frozen? ⟨B, i, none⟩ = false
theorem Row64.put {w : World} {B j : Nat} {ds : List UInt8} (h : Row64 w B (j + 1) ds) (x : UInt8) : Row64 (w.setCell ⟨B, j, none⟩ (.int .u8 x.toNat)) B j (x :: ds) where
  len := by have := h.len; simp; omega
  some_ := fun i hi => cell?_setCell_some (h.some_ i hi).choose_spec
  at_ := fun i hi => by
    have hl := h.len
    cases i with
    | zero =>
      obtain ⟨v, hv⟩ := h.some_ j (by omega)
      exact World.cell?_setCell_same _ _ _ hv
    | succ i =>
      have hi' : i < ds.length := by simp at hi; exact hi
      rw [World.cell?_setCell_other _ _ _ _ (by intro e; have := congrArg Addr.off e; simp at this)]
      have := h.at_ i hi'
      rw [show j + (i + 1) = j + 1 + i by omega]
      exact this
  froz := fun i => by rw [World.frozen?_setCell]; exact h.froz i
theorem row64_new (w : World) (vs : Array Value) (T : TypeId) (hv : vs.size = 64) : Row64 (w.alloc (.cells vs T)) w.heap.size 64 [] where
  len := rfl
  some_ := fun i hi => ⟨vs[i]'(by omega), by simp [hv, hi]⟩
  at_ := fun i hi => by simp at hi
  froz := fun i => by simp
theorem two_pow (a q n : Nat) (h : q * 2 ^ (64 - a) ≤ n) (hn : n < 18446744073709551616) (hq : 0 < q) : 0 < a := by
  rcases Nat.eq_zero_or_pos a with h0 | h0
  · exfalso
    subst h0
    have : (2 : Nat) ^ 64 = 18446744073709551616 := by decide
    have h1 : 1 * 2 ^ 64 ≤ q * 2 ^ 64 := Nat.mul_le_mul_right _ hq
    omega
  · exact h0
theorem two_step (j q b n : Nat) (h : q * 2 ^ (64 - (j + 1)) ≤ n) (hj : j + 1 ≤ 64) (hb : 2 ≤ b) : q / b * 2 ^ (64 - j) ≤ n := by
  have e : 64 - j = 64 - (j + 1) + 1 := by omega
  have hd : q / b ≤ q / 2 := Nat.div_le_div_left hb (by omega)
  rw [e, Nat.pow_succ]
  have h1 : q / b * 2 ≤ q := by omega
  calc q / b * (2 ^ (64 - (j + 1)) * 2) = q / b * 2 * 2 ^ (64 - (j + 1)) := by rw [Nat.mul_comm (2 ^ (64 - (j + 1))) 2, Nat.mul_assoc]
    _ ≤ q * 2 ^ (64 - (j + 1)) := Nat.mul_le_mul_right _ h1
    _ ≤ n := h
/-- What the digits so far are. -/
def wRel (b n a q : Nat) (ds : List UInt8) : Prop := (a = 64 ∧ q = n ∧ ds = []) ∨ (a < 64 ∧ digP false b q ++ ds = digS false b n)
theorem wRel_step (b n j q : Nat) (ds : List UInt8) (hb : 2 ≤ b) (hq : q < 2 ^ 64) (h : wRel b n (j + 1) q ds) (hj : j + 1 ≤ 64) (hgo : j + 1 = 64 ∨ q ≠ 0) : wRel b n j (q / b) (hexB false (q % b) :: ds) := by
  refine .inr ⟨by omega, ?_⟩
  rcases h with ⟨h1, rfl, rfl⟩ | ⟨h1, h2⟩
  · rfl
  · rw [← h2, digP_step false b q hb (by omega) hq]
    simp
theorem arr64Len : Tryz.prog.arrayLen 162 = 64 := by kernel_rfl
theorem arr64Elem : Tryz.prog.elem 162 = 5 := by kernel_rfl
theorem arr64Under : Tryz.prog.underlying 162 = some (.array (Tryz.prog.arrayLen 162) (Tryz.prog.elem 162)) := by kernel_rfl
theorem at64_l (W : World) (g n : Nat) (hn : n < 64) :
    (Instr.sliceAt 162 (.pointer (some ⟨g, 0, none⟩)) (some (.int .i64 n)) none none).run Tryz.prog W = .ok (.slice (some ⟨g, n, none⟩) (64 - n) (64 - n)) W := by
  rw [run_sliceAt_array_l W 162 ⟨g, 0, none⟩ arr64Under .i64 n (by omega) (by rw [arr64Len]; omega), arr64Elem, Tryz.sizeOf5, arr64Len]
  have hne : ¬ 64 = n := by omega
  simp [slicedAt, hne, Addr.add]
  omega
theorem conv64 (W : World) (g m : Nat) (ds : List UInt8) (h : Row64 W g m ds) :
    (convert 74 9 (.slice (some ⟨g, m, none⟩) (64 - m) (64 - m))).run Tryz.prog W = .ok (.string ⟨ds.toArray⟩) W := by
  have hl := h.len
  have := run_convert_bytes_arg W 74 5 Tryz.underlying74 Tryz.underlying5 g m (64 - m) (64 - m) (ds.map fun x => (x.toNat : Int)) (by simp; omega) (fun i hi => by
    rw [h.at_ i (by omega)]
    have : i < ds.length := by omega
    simp [this, List.getD]) 9 Tryz.underlying9
  rw [this]
  have e : strOfNums (ds.map fun x => (x.toNat : Int)) = ⟨ds.toArray⟩ := by
    apply ByteArray.ext
    have : (ds.map fun x => (x.toNat : Int)).map (fun n : Int => UInt8.ofNat n.toNat) = ds := by
      rw [List.map_map]
      conv => rhs; rw [← List.map_id ds]
      exact List.map_congr_left fun x _ => by simp
    show ((ds.map fun x => (x.toNat : Int)).map (fun n : Int => UInt8.ofNat n.toNat)).toArray = _
    rw [this]
  rw [e]

set_option maxRecDepth 1000000 in
set_option maxHeartbeats 800000 in
theorem written_any (n b : Nat) (w : World) (hn : n < 18446744073709551616) (hb : 2 ≤ b) (hb16 : b ≤ 16) :
    Calls Tryz.prog 116 #[.int .u64 n, .int .u64 b] w fun e w' => e = .returned (.string ⟨(digS false b n).toArray⟩) ∧ Below w.heap.size w w' := by
  go_enter Tryz.func116, Tryz.ntmps116
  go_wp2
  go_loopg [0, 6] 65 (fun g nn at_ wr => ∃ (q a : Nat) (ds : List UInt8), nn = .int .u64 q ∧ at_ = .int .i64 a ∧ a + 1 = g ∧ q ≤ n ∧ a ≤ 64 ∧ Row64 wr w.heap.size a ds ∧ Below w.heap.size w wr ∧ Hid (q * 2 ^ (64 - a) ≤ n ∧ wRel b n a q ds))
  case atStart =>
    exact ⟨n, 64, [], rfl, rfl, rfl, Nat.le_refl _, Nat.le_refl _, row64_new w _ _ rfl, (Below.refl _ _).alloc (Nat.le_refl _) _, by simp, .inl ⟨rfl, rfl, rfl⟩⟩
  case round =>
    obtain ⟨q, a, ds, rfl, rfl, hag, hqn, ha, hR, hbl, HH⟩ := hrel
    have hq0 : 0 < q → 0 < a := two_pow a q n HH.out.1 hn
    by_cases hgo : a = 64 ∨ 0 < q
    · obtain ⟨j, rfl⟩ : ∃ j, a = j + 1 := ⟨a - 1, by omega⟩
      have hW : Hid (q / b * 2 ^ (64 - j) ≤ n ∧ wRel b n j (q / b) (hexB false (q % b) :: ds)) := ⟨two_step j q b n HH.out.1 ha hb, wRel_step b n j q ds hb (by omega) HH.out.2 ha (by omega)⟩
      have hd : q % b < b := Nat.mod_lt _ (by omega)
      have hqd : q / b ≤ q := Nat.div_le_self _ _
      have hm1 : (q : Int).tmod b = ((q % b : Nat) : Int) := by rw [Int.tmod_eq_emod_of_nonneg (by omega)]; simp
      have hm2 : (q : Int).tdiv b = ((q / b : Nat) : Int) := by rw [Int.tdiv_eq_ediv_of_nonneg (by omega)]; simp
      have hm3 : (q : Int) % b = ((q % b : Nat) : Int) := by simp
      have hm4 : (q : Int) / b = ((q / b : Nat) : Int) := by simp
      have hbz : ¬ (b : Int) = 0 := by omega
      generalize q % b = d at *
      generalize q / b = q' at *
      have ej : ((j + 1 : Nat) : Int) = (j : Int) + 1 := by omega
      rw [ej]
      have hd' : d < (ByteArray.mk #[48, 49, 50, 51, 52, 53, 54, 55, 56, 57, 97, 98, 99, 100, 101, 102]).size := by show d < 16; omega
      have hsm := small_at d hd'
      have HS : Hid (∀ W, Row64 W w.heap.size (j + 1) ds → Row64 (W.setCell ⟨w.heap.size, j, none⟩ (.int .u8 (((ByteArray.mk #[48, 49, 50, 51, 52, 53, 54, 55, 56, 57, 97, 98, 99, 100, 101, 102])[d]'hd').toNat : Nat))) w.heap.size j (hexB false d :: ds)) := fun W h => by
        rw [hsm, ← hexB_nat false d (by omega)]
        exact h.put _
      clear hsm
      by_cases h64 : j = 63
      · subst h64
        obtain ⟨v0, hv0⟩ := hR.some_ 63 (by omega)
        have hf0 := hR.froz 63
        go_wp2
        go_roundg (gk - 1)
        case measure => omega
        case rel => exact ⟨q', 63, _, rfl, rfl, by omega, by omega, by omega, HS.out _ hR, hbl.setCell (Nat.le_refl _) _, hW⟩
      · have hq1 : 0 < (q : Int) := by omega
        have h641 : ¬ (j : Int) + 1 = 64 := by omega
        have hj0 : (j : Int) < 64 := by omega
        obtain ⟨v0, hv0⟩ := hR.some_ j (by omega)
        have hf0 := hR.froz j
        go_wp2
        go_roundg (gk - 1)
        case measure => omega
        case rel => exact ⟨q', j, _, rfl, rfl, by omega, by omega, by omega, HS.out _ hR, hbl.setCell (Nat.le_refl _) _, hW⟩
    · have ha1 : ¬ (a : Int) = 64 := by omega
      have hq1 : ¬ 0 < (q : Int) := by omega
      have ha2 : a < 64 := by omega
      have hq2 : q = 0 := by omega
      have HF : Hid (ds = digS false b n) := by
        rcases HH.out.2 with ⟨h1, -⟩ | ⟨h1, h2⟩
        · omega
        · rw [hq2, digP_zero] at h2
          exact h2
      clear hq2
      have hsl := at64_l wr w.heap.size a ha2
      have hcv := conv64 wr w.heap.size a ds hR
      have hb1 : ((a : Int) == 64) = false := by simp; omega
      have hb2 : decide (0 < q) = false := by simp; omega
      go_wp2
      go_ret
      rw [← HF.out]
      exact ⟨rfl, hbl⟩

theorem digits_fit (n : Nat) (g : Bool) (b : Nat) : (⟨(digS g b n).toArray⟩ : ByteArray).size = (digS g b n).length := by simp [ByteArray.size]
set_option maxRecDepth 1000000 in
set_option maxHeartbeats 400000 in
theorem idigits_any (n b : Nat) (w : World) (hn : n < 18446744073709551616) (hb : b = 2 ∨ b = 8 ∨ b = 10 ∨ b = 16) :
    Calls Tryz.prog 84 #[.int .u64 n, .int .i64 b] w fun e w' => e = .returned (.string ⟨(digS false b n).toArray⟩) ∧ Below w.heap.size w w' := by
  have hW : ∀ w, Calls Tryz.prog 116 #[.int .u64 n, .int .u64 b] w fun e w' => e = .returned (.string ⟨(digS false b n).toArray⟩) ∧ Below w.heap.size w w' := fun w => written_any n b w hn (by omega) (by omega)
  generalize (⟨(digS false b n).toArray⟩ : ByteArray) = r at *
  rcases hb with rfl | rfl | rfl | rfl
  all_goals
    go_enter Tryz.func84, Tryz.ntmps84
    go_wp2_with (go_at_call 116; refine (hW _).mono ?_; rintro e w1 ⟨rfl, hb1⟩)
    go_ret
    exact ⟨rfl, hb1⟩
set_option maxRecDepth 1000000 in
set_option maxHeartbeats 400000 in
theorem idigits_no (n : Nat) (b : Int) (w : World) (h1 : ¬ b = 2) (h2 : ¬ b = 8) (h3 : ¬ b = 10) (h4 : ¬ b = 16) :
    Calls Tryz.prog 84 #[.int .u64 n, .int .i64 b] w fun e w' => e = .returned (.string ⟨#[]⟩) ∧ Below w.heap.size w w' := by
  go_enter Tryz.func84, Tryz.ntmps84
  go_wp2
  go_ret
  exact ⟨rfl, Below.refl _ _⟩
end Go.Proofs.YthbabhbfpcfenaaGreatDoor
