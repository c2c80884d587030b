/- Plain mathematics of quoting: what stands for a rune between quotes. -/
import Derived.Test.YtpknjcdodnoibaaPlain4
import Derived.Test.YtpknjcdodnoibaaPlain7
import Derived.Test.YtpknjcdodnoibaaPlain8
namespace Go.Proofs.Ytpknjcdodnoibaa
open Go.RowKit

theorem list_len (s : ByteArray) : s.data.toList.length = s.size := (Lib.size_eq s).symm
/-- May a code point stand in quotes as it is? -/
def plainP (c : Int) : Bool := decide ((32 ≤ c ∧ c ≤ 126) ∨ (161 ≤ c ∧ c ≤ 55295 ∧ c ≠ 173) ∨ (57344 ≤ c ∧ c ≤ 65532) ∨ (65536 ≤ c ∧ c ≤ 1114111))
theorem plainP_iff (c : Int) : plainP c = true ↔ ((32 ≤ c ∧ c ≤ 126) ∨ (161 ≤ c ∧ c ≤ 55295 ∧ c ≠ 173) ∨ (57344 ≤ c ∧ c ≤ 65532) ∨ (65536 ≤ c ∧ c ≤ 1114111)) := by
  unfold plainP; exact decide_eq_true_iff
theorem plainP_not (c : Int) : plainP c = false ↔ ¬ ((32 ≤ c ∧ c ≤ 126) ∨ (161 ≤ c ∧ c ≤ 55295 ∧ c ≠ 173) ∨ (57344 ≤ c ∧ c ≤ 65532) ∨ (65536 ≤ c ∧ c ≤ 1114111)) := by
  unfold plainP; exact decide_eq_false_iff_not

/-- A hexadecimal digit. -/
def hexN (g : Bool) (n : Nat) : Nat := if n < 10 then 48 + n else if g then 55 + n else 87 + n
def hexB (g : Bool) (n : Nat) : UInt8 := UInt8.ofNat (hexN g n)
/-- A number in so many digits. -/
def hexL : Nat → Nat → List UInt8
  | _, 0 => []
  | n, k + 1 => hexL (n / 16) k ++ [hexB false (n % 16)]
theorem hexL_len : ∀ (k n : Nat), (hexL n k).length = k
  | 0, _ => rfl
  | k + 1, n => by simp [hexL, hexL_len k]
theorem hexL_more (c k m : Nat) (h : m + 1 ≤ k) : hexL (c / 16 ^ m) (k - m) = hexL (c / 16 ^ (m + 1)) (k - (m + 1)) ++ [hexB false (c / 16 ^ m % 16)] := by
  obtain ⟨j, hj⟩ : ∃ j, k - m = j + 1 := ⟨k - m - 1, by omega⟩
  rw [hj, show k - (m + 1) = j by omega]
  simp only [hexL]
  rw [Nat.div_div_eq_div_mul, Nat.pow_succ]
/-- The letters of the code points from 7 to 13. -/
def escT : Nat → Nat
  | 0 => 97
  | 1 => 98
  | 2 => 116
  | 3 => 110
  | 4 => 118
  | 5 => 102
  | _ => 114
/-- A code point between two quotes q. -/
def inL (c q : Nat) (a : Bool) : List UInt8 :=
  if c = q ∨ c = 92 then [92, UInt8.ofNat c]
  else if 7 ≤ c ∧ c ≤ 13 then [92, UInt8.ofNat (escT (c - 7))]
  else if plainP c = true ∧ (c ≤ 126 ∨ a = false) then (Utf8.encode (c : Int)).data.toList
  else if c < 128 then 92 :: 120 :: hexL c 2
  else if c ≤ 65535 then 92 :: 117 :: hexL c 4
  else 92 :: 85 :: hexL c 8
/-- The first rune of a text between double quotes. -/
def itemL (a : Bool) (l : List UInt8) : List UInt8 :=
  if brk (Lib.decodeL l) = true then 92 :: 120 :: hexL (l.getD 0 0).toNat 2 else inL (Lib.decodeL l).1 34 a
def quoG (a : Bool) : Nat → List UInt8 → List UInt8
  | 0, _ => []
  | f + 1, l => if l = [] then [] else itemL a l ++ quoG a f (l.drop (Lib.decodeL l).2)
/-- A text's runes between double quotes. -/
def quoI (a : Bool) (l : List UInt8) : List UInt8 := quoG a l.length l
def quoS (s : ByteArray) (a : Bool) : ByteArray := ⟨(34 :: (quoI a s.data.toList ++ [34])).toArray⟩
theorem quoG_fuel (a : Bool) : ∀ (f g : Nat) (l : List UInt8), l.length ≤ f → l.length ≤ g → quoG a f l = quoG a g l
  | 0, 0, _, _, _ => rfl
  | 0, g + 1, l, h, _ => by
    have : l = [] := List.eq_nil_of_length_eq_zero (by omega)
    simp [quoG, this]
  | f + 1, 0, l, _, h => by
    have : l = [] := List.eq_nil_of_length_eq_zero (by omega)
    simp [quoG, this]
  | f + 1, g + 1, l, h1, h2 => by
    by_cases hl : l = []
    · simp [quoG, hl]
    · have hw := Lib.decodeL_width l
      have hn : l.length ≠ 0 := fun h => hl (List.eq_nil_of_length_eq_zero h)
      simp only [quoG, if_neg hl]
      rw [quoG_fuel a f g _ (by rw [List.length_drop]; omega) (by rw [List.length_drop]; omega)]
theorem quoI_nil (a : Bool) : quoI a [] = [] := rfl
theorem quoI_step (a : Bool) (l : List UInt8) (hl : l ≠ []) : quoI a l = itemL a l ++ quoI a (l.drop (Lib.decodeL l).2) := by
  have hw := Lib.decodeL_width l
  have hn : l.length ≠ 0 := fun h => hl (List.eq_nil_of_length_eq_zero h)
  unfold quoI
  obtain ⟨f, hf⟩ : ∃ f, l.length = f + 1 := ⟨l.length - 1, by omega⟩
  rw [hf]
  simp only [quoG, if_neg hl]
  rw [quoG_fuel a f _ _ (by rw [List.length_drop]; omega) (Nat.le_refl _)]
theorem enc_len (c : Nat) : (Utf8.encode (c : Int)).data.toList.length ≤ 4 := by
  have := enc_size_le (c : Int)
  rw [list_len]
  exact this
theorem inL_len (c q : Nat) (a : Bool) : (inL c q a).length ≤ 10 := by
  have := enc_len c
  unfold inL
  split
  · simp
  · split
    · simp
    · split
      · omega
      · split
        · simp [hexL_len]
        · split <;> simp [hexL_len]
theorem itemL_len (a : Bool) (l : List UInt8) : (itemL a l).length ≤ 10 := by
  unfold itemL
  split
  · simp [hexL_len]
  · exact inL_len _ _ _
theorem quoI_len (a : Bool) : ∀ (n : Nat) (l : List UInt8), l.length ≤ n → (quoI a l).length ≤ 10 * l.length
  | 0, l, h => by
    have : l = [] := List.eq_nil_of_length_eq_zero (by omega)
    subst this; simp [quoI_nil]
  | n + 1, l, h => by
    by_cases hl : l = []
    · subst hl; simp [quoI_nil]
    · have hw := Lib.decodeL_width l
      have hle := Lib.decodeL_le l hl
      have hn : l.length ≠ 0 := fun h => hl (List.eq_nil_of_length_eq_zero h)
      rw [quoI_step a l hl, List.length_append]
      have h1 := itemL_len a l
      have h2 := quoI_len a n (l.drop (Lib.decodeL l).2) (by rw [List.length_drop]; omega)
      rw [List.length_drop] at h2
      omega
theorem quoS_size (s : ByteArray) (a : Bool) : (quoS s a).size ≤ 10 * s.size + 2 := by
  have h := quoI_len a s.size s.data.toList (by rw [list_len]; exact Nat.le_refl _)
  rw [list_len] at h
  show (34 :: (quoI a s.data.toList ++ [34])).toArray.size ≤ _
  simp
  omega
theorem ba_app (a b : List UInt8) : (⟨a.toArray⟩ : ByteArray) ++ ⟨b.toArray⟩ = ⟨(a ++ b).toArray⟩ := by
  apply ByteArray.ext
  rw [ByteArray.data_append]
  simp
theorem ba_list (s : ByteArray) : (⟨s.data.toList.toArray⟩ : ByteArray) = s := by
  apply ByteArray.ext; simp
theorem ba_inj {a b : List UInt8} (h : (⟨a.toArray⟩ : ByteArray) = ⟨b.toArray⟩) : a = b := by
  have := congrArg (fun x => x.data.toList) h
  simpa using this
theorem dec_tail_list (s : ByteArray) (p : Nat) : Lib.decodeL (s.data.toList.drop p) = Utf8.decode s p := Lib.decodeL_drop s p
end Go.Proofs.Ytpknjcdodnoibaa
