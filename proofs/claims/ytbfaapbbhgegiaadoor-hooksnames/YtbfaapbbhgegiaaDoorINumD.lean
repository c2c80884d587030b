/- Plain mathematics of layer 3: what is written of a number. -/
import Derived.Test.YtbfaapbbhgegiaaDoorIDig
import Derived.Test.YtbfaapbbhgegiaaDoorPlain6
import Derived.Test.YtbfaapbbhgegiaaDoorPlain2
namespace Go.Proofs.YtbfaapbbhgegiaaDoor
open Go.RowKit

/-- Noughts ahead, until there are so many. -/
def lenS (s : ByteArray) (n : Int) : ByteArray := run 48 (wdt (n - (s.size : Nat))) ++ s
theorem lenS_size (s : ByteArray) (n : Int) : (lenS s n).size ≤ s.size + 1000 ∧ s.size ≤ (lenS s n).size := by
  have := wdt_le (n - (s.size : Nat))
  unfold lenS
  rw [app_size, run_size]; omega
def digT (g : Bool) (b n : Nat) : ByteArray := ⟨(digS g b n).toArray⟩
theorem digT_size (g : Bool) (b n : Nat) : (digT g b n).size ≤ 65 ∧ 1 ≤ (digT g b n).size := by
  have h1 := digS_len g b n
  have h2 := digS_len1 g b n
  have h3 : (digT g b n).size = (digS g b n).length := by simp [digT, ByteArray.size]
  omega
/-- The digits that a spec asks for. -/
def digBy (size b : Nat) (prec verb : Int) : ByteArray := if size = 0 ∧ prec = 0 then ⟨#[]⟩ else lenS (digT (decide (verb = 88)) b size) (wdt prec : Nat)
theorem digBy_size (size b : Nat) (prec verb : Int) : (digBy size b prec verb).size ≤ 2000 := by
  have h1 := digT_size (decide (verb = 88)) b size
  have h2 := lenS_size (digT (decide (verb = 88)) b size) (wdt prec : Nat)
  unfold digBy
  split
  · exact Nat.zero_le _
  · omega
/-- What tells the base of digits. -/
def markB (d : ByteArray) (sh : Bool) (verb : Int) : ByteArray :=
  if verb = 79 then ⟨#[48, 111]⟩ else if sh = false then ⟨#[]⟩ else if verb = 98 then ⟨#[48, 98]⟩ else if verb = 111 then (if bt d 0 = 48 then ⟨#[]⟩ else ⟨#[48]⟩) else if verb = 120 then ⟨#[48, 120]⟩ else if verb = 88 then ⟨#[48, 88]⟩ else ⟨#[]⟩
theorem markB_size (d : ByteArray) (sh : Bool) (verb : Int) : (markB d sh verb).size ≤ 2 := by
  unfold markB
  repeat' split
  all_goals decide
/-- The digits, lengthened to a width where noughts fill it. -/
def widD (d : ByteArray) (a : Nat) (mi z : Bool) (wid prec : Int) : ByteArray := if z = true ∧ mi = false ∧ prec < 0 then lenS d ((wdt wid : Nat) - (a : Nat)) else d
theorem widD_size (d : ByteArray) (a : Nat) (mi z : Bool) (wid prec : Int) : (widD d a mi z wid prec).size ≤ d.size + 1000 := by
  have := lenS_size d ((wdt wid : Nat) - (a : Nat))
  unfold widD
  split <;> omega
/-- A number to a base, ahead of the blanks. -/
def coreB (size b : Nat) (sign : ByteArray) (mi sh z : Bool) (wid prec verb : Int) : ByteArray :=
  if (digBy size b prec verb).size = 0 then ⟨#[]⟩ else (sign ++ markB (digBy size b prec verb) sh verb) ++ widD (digBy size b prec verb) (sign ++ markB (digBy size b prec verb) sh verb).size mi z wid prec
theorem coreB_size (size b : Nat) (sign : ByteArray) (mi sh z : Bool) (wid prec verb : Int) (hs : sign.size ≤ 1) : (coreB size b sign mi sh z wid prec verb).size ≤ 4000 := by
  have h1 := digBy_size size b prec verb
  have h2 := markB_size (digBy size b prec verb) sh verb
  have h3 := widD_size (digBy size b prec verb) (sign ++ markB (digBy size b prec verb) sh verb).size mi z wid prec
  unfold coreB
  split
  · exact Nat.zero_le _
  · rw [app_size, app_size] at *; omega
/-- The code point that 64 bits are. -/
def ptN (bits : Nat) : Nat := if 1114111 < bits then 65533 else bits
theorem ptN_le (bits : Nat) : ptN bits ≤ 1114111 := by unfold ptN; split <;> omega
/-- A code point's name. -/
def nameA (bits : Nat) (prec : Int) : ByteArray := (⟨#[85, 43]⟩ : ByteArray) ++ lenS (digT true 16 bits) (max 4 (wdt prec : Nat))
def nameS (bits : Nat) (sh : Bool) (prec : Int) : ByteArray := if sh = true ∧ plainP (ptN bits : Int) = true then ((nameA bits prec ++ ⟨#[32, 39]⟩) ++ Utf8.encode (ptN bits : Int)) ++ ⟨#[39]⟩ else nameA bits prec
theorem nameA_size (bits : Nat) (prec : Int) : (nameA bits prec).size ≤ 1100 := by
  have h1 := digT_size true 16 bits
  have h2 := lenS_size (digT true 16 bits) (max 4 (wdt prec : Nat))
  have h3 : (⟨#[85, 43]⟩ : ByteArray).size = 2 := rfl
  unfold nameA
  rw [app_size]; omega
theorem enc_size4 (c : Nat) : (Utf8.encode (c : Int)).size ≤ 4 := by
  have := enc_len c
  rw [list_len] at this; exact this
theorem nameS_size (bits : Nat) (sh : Bool) (prec : Int) : (nameS bits sh prec).size ≤ 1200 := by
  have h1 := nameA_size bits prec
  have h2 := enc_size4 (ptN bits)
  have h3 : (⟨#[32, 39]⟩ : ByteArray).size = 2 := rfl
  have h4 : (⟨#[39]⟩ : ByteArray).size = 1 := rfl
  unfold nameS
  split
  · rw [app_size, app_size, app_size]; omega
  · omega
/-- The sign of a number that is not below 0. -/
def signA (p sp : Bool) : ByteArray := if p = true then ⟨#[43]⟩ else if sp = true then ⟨#[32]⟩ else ⟨#[]⟩
theorem signA_size (p sp : Bool) : (signA p sp).size ≤ 1 := by cases p <;> cases sp <;> decide
/-- The base of a verb. -/
def baseV (verb : Int) : Nat := if verb = 100 ∨ verb = 118 then 10 else if verb = 98 then 2 else if verb = 111 ∨ verb = 79 then 8 else if verb = 120 ∨ verb = 88 then 16 else 0
theorem baseV_is (verb : Int) (h : ¬ baseV verb = 0) : baseV verb = 2 ∨ baseV verb = 8 ∨ baseV verb = 10 ∨ baseV verb = 16 := by
  unfold baseV at *
  repeat' split at h
  all_goals simp_all
end Go.Proofs.YtbfaapbbhgegiaaDoor
