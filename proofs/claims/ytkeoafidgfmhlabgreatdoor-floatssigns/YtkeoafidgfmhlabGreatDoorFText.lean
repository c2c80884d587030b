/- Plain mathematics of layer 6: what is written of a float. -/
import Derived.Test.YtkeoafidgfmhlabGreatDoorINumD
import Derived.Test.YtkeoafidgfmhlabGreatDoorBLaw
import Derived.Lib.Join
import Derived.Lib.BitFns
namespace Go.Proofs.YtkeoafidgfmhlabGreatDoor
open Go.RowKit
set_option linter.unusedVariables false
set_option linter.unusedSimpArgs false

/-- Noughts ahead, or behind, until there are so many. -/
def lnA (s : ByteArray) (n : Int) : ByteArray := run 48 (n - (s.size : Nat)).toNat ++ s
def lnB (s : ByteArray) (n : Int) : ByteArray := s ++ run 48 (n - (s.size : Nat)).toNat
theorem lnA_size (s : ByteArray) (n : Int) : (lnA s n).size = s.size + (n - (s.size : Nat)).toNat := by unfold lnA; rw [app_size, run_size]; omega
theorem lnB_size (s : ByteArray) (n : Int) : (lnB s n).size = s.size + (n - (s.size : Nat)).toNat := by unfold lnB; rw [app_size, run_size]
/-- Digits on both sides of a point. -/
def ptd (sh : Bool) (a b : ByteArray) : ByteArray := if b.size = 0 ∧ sh = false then a else (a ++ ⟨#[46]⟩) ++ b
theorem ptd_size (sh : Bool) (a b : ByteArray) : a.size ≤ (ptd sh a b).size ∧ (ptd sh a b).size ≤ a.size + 1 + b.size := by
  have h : (⟨#[46]⟩ : ByteArray).size = 1 := rfl
  unfold ptd
  split
  · omega
  · rw [app_size, app_size]; omega
def sx1 (n : Int) : ByteArray := if n < 0 then ⟨#[45]⟩ else ⟨#[43]⟩
theorem sx1_size (n : Int) : (sx1 n).size = 1 := by unfold sx1; split <;> rfl
/-- A number behind its sign. -/
def sgd (n : Int) (least : Int) : ByteArray := sx1 n ++ lnA (digT false 10 n.natAbs) least
theorem sgd_size (n : Int) (least : Int) (h : least ≤ 10) : (sgd n least).size ≤ 80 ∧ 2 ≤ (sgd n least).size := by
  have h1 := sx1_size n
  have h2 := digT_size false 10 n.natAbs
  have h3 := lnA_size (digT false 10 n.natAbs) least
  unfold sgd
  rw [app_size]; omega
/-- Digits with a point behind the first one, and its power of ten. -/
def sci (sh : Bool) (d : ByteArray) (x : Int) : ByteArray := (ptd sh (d.extract 0 1) (d.extract 1 d.size) ++ ⟨#[101]⟩) ++ sgd x 2
theorem sci_size (sh : Bool) (d : ByteArray) (x : Int) (hd : d.size ≤ 100000) : (sci sh d x).size ≤ 100090 ∧ 3 ≤ (sci sh d x).size := by
  have h1 := ptd_size sh (d.extract 0 1) (d.extract 1 d.size)
  have h2 := sgd_size x 2 (by decide)
  have h3 : (⟨#[101]⟩ : ByteArray).size = 1 := rfl
  have h4 : (d.extract 0 1).size ≤ 1 := by rw [ByteArray.size_extract]; omega
  have h5 : (d.extract 0 1).size + (d.extract 1 d.size).size ≤ d.size := by rw [ByteArray.size_extract, ByteArray.size_extract]; omega
  unfold sci
  rw [app_size, app_size]; omega
/-- What stands ahead of a point, and behind it. -/
def arA (d : ByteArray) (p : Int) : ByteArray := if p ≤ 0 then ⟨#[48]⟩ else (lnB d p).extract 0 p.toNat
def arB (d : ByteArray) (p : Int) : ByteArray := if p ≤ 0 then lnA d ((d.size : Nat) - p) else (lnB d p).extract p.toNat (lnB d p).size
theorem arA_size (d : ByteArray) (p : Int) (hp : p ≤ 100000) : (arA d p).size ≤ 100000 ∧ 1 ≤ (arA d p).size := by
  have h := lnB_size d p
  unfold arA
  split
  · exact ⟨by decide, by decide⟩
  · rw [ByteArray.size_extract]; omega
theorem arB_size (d : ByteArray) (p : Int) (hd : d.size ≤ 100000) (hp : -100000 ≤ p) : (arB d p).size ≤ 200000 := by
  have h := lnB_size d p
  have h2 := lnA_size d ((d.size : Nat) - p)
  unfold arB
  split
  · omega
  · rw [ByteArray.size_extract]; omega
/-- The power of ten of the first digit. -/
def pw0 (v : Nat) : Int := if v = 0 then 0 else oP v - 1
/-- What e writes, ahead of great letters. -/
def cntE (P : Int) : Int := (if P < 0 then 6 else P) + 1
def expT (sh : Bool) (P : Int) (v : Nat) : ByteArray := sci sh (lnB (oS (rnd v (cntE P))) (cntE P)) (pw0 (rnd v (cntE P)))
/-- What f writes. -/
def plcF (P : Int) : Int := if P < 0 then 6 else P
def fixT (sh : Bool) (P : Int) (v : Nat) : ByteArray := ptd sh (arA (oS (plc v (plcF P))) (oP (plc v (plcF P)))) (lnB (arB (oS (plc v (plcF P))) (oP (plc v (plcF P)))) (plcF P))
/-- What g writes of a decimal that was rounded (or is the shortest): most: the power from which on it has an exponent; cnt: how many digits with Sharp. -/
def genD (sh : Bool) (d : Nat) (cnt : Int) : ByteArray := if sh = true then lnB (lnB (oS d) 1) cnt else lnB (oS d) 1
def genG (sh : Bool) (d : Nat) (most cnt : Int) : ByteArray := if pw0 d < -4 ∨ most ≤ pw0 d then sci sh (genD sh d cnt) (pw0 d) else ptd sh (arA (genD sh d cnt) (pw0 d + 1)) (arB (genD sh d cnt) (pw0 d + 1))
def genT (sh : Bool) (P : Int) (v d : Nat) : ByteArray := if P < 0 then genG sh d 21 6 else genG sh (rnd v (max P 1)) (max P 1) (max P 1)
/-- What b writes. -/
def parT (m : Nat) (e : Int) : ByteArray := (digT false 10 m ++ ⟨#[112]⟩) ++ sgd e 1
/-- The bits of a number behind a leading one at the bit 52, rounded to so many digits to the base 16. -/
def rbU (c : Nat) : Nat := 2 ^ (4 * (13 - c))
def rbW (m c : Nat) : Nat := if m % rbU c > rbU c / 2 ∨ (m % rbU c = rbU c / 2 ∧ m / rbU c % 2 = 1) then m / rbU c + 1 else m / rbU c
def rb (m : Nat) (P : Int) : Nat := if P < 0 ∨ 13 ≤ P then m else rbW m P.toNat * rbU P.toNat
def nmS (m : Nat) : Nat := 53 - Lib.bitLen m
def nmM (m : Nat) (P : Int) : Nat := if m = 0 then 0 else if rb (m * 2 ^ nmS m) P / 2 ^ 52 = 2 then rb (m * 2 ^ nmS m) P / 2 else rb (m * 2 ^ nmS m) P
def nmE (m : Nat) (e P : Int) : Int := if m = 0 then 0 else if rb (m * 2 ^ nmS m) P / 2 ^ 52 = 2 then e + 52 - nmS m + 1 else e + 52 - nmS m
def hxD (m : Nat) (P : Int) : ByteArray := lnA (digT false 16 (nmM m P)) 14
def hxP (d : ByteArray) (P : Int) : ByteArray := if P < 0 then ⟨(rtr d.data.toList).toArray⟩ else lnB (d.extract 0 (min P 13).toNat) P
/-- What x writes. -/
def hexT (sh : Bool) (P : Int) (m : Nat) (e : Int) : ByteArray :=
  (((⟨#[48, 120]⟩ : ByteArray) ++ ptd sh ((hxD m P).extract 0 1) (hxP ((hxD m P).extract 1 (hxD m P).size) P)) ++ ⟨#[112]⟩) ++ sgd (nmE m e P) 2
/-- The verbs of floats. -/
def fVerb (v : Int) : Bool := decide (v = 101 ∨ v = 69 ∨ v = 102 ∨ v = 70 ∨ v = 103 ∨ v = 71 ∨ v = 118 ∨ v = 98 ∨ v = 120 ∨ v = 88)
def grV (v : Int) : Bool := decide (v = 69 ∨ v = 71 ∨ v = 88)
/-- A finite number by a verb, ahead of great letters: v its value, d its shortest decimal. -/
def numT (sh : Bool) (P : Int) (m : Nat) (e : Int) (v d : Nat) (verb : Int) : ByteArray :=
  if verb = 101 ∨ verb = 69 then expT sh P v else if verb = 102 ∨ verb = 70 then fixT sh P v else if verb = 98 then parT m e else if verb = 120 ∨ verb = 88 then hexT sh P m e else genT sh P v d
def bigT (g : Bool) (s : ByteArray) : ByteArray := if g = true then ⟨(Lib.toUpperA s.data.toList).toArray⟩ else s
/-- A finite number by a verb. -/
def finT (sh : Bool) (prec : Int) (m : Nat) (e : Int) (v d : Nat) (verb : Int) : ByteArray := bigT (grV verb) (numT (sh && decide (verb ≠ 118)) (min prec 1000) m e v d verb)
/-- Its sign. -/
def sgF (neg p sp : Bool) : ByteArray := if neg = true then ⟨#[45]⟩ else signA p sp
def sgI (neg p sp : Bool) : ByteArray := if (sgF neg p sp).size = 0 then ⟨#[43]⟩ else sgF neg p sp
theorem sgF_size (neg p sp : Bool) : (sgF neg p sp).size ≤ 1 := by cases neg <;> cases p <;> cases sp <;> decide
theorem sgI_size (neg p sp : Bool) : (sgI neg p sp).size = 1 := by cases neg <;> cases p <;> cases sp <;> decide
/-- Sign and text, filled to a width. -/
def filT (sign t : ByteArray) (mi z : Bool) (wid : Int) : ByteArray := padS (sign ++ (if z = true ∧ mi = false then lnA t ((wdt wid : Nat) - (sign.size : Nat)) else t)) mi false wid
end Go.Proofs.YtkeoafidgfmhlabGreatDoor
