/- The plain mathematics under the walks over package buf: what the model writes and reads as UTF-8; no program is met here. -/
import Derived.WalkKit
import Derived.Lib.MapLaws
import Derived.Laws.BytesArg
namespace Go.Proofs.Ytpknjcdodnoibaa
open Go.RowKit

/-- The code point that a number stands for when it is written. -/
def pt (c : Int) : Nat := if Utf8.valid c then c.toNat else 65533

theorem valid_iff (c : Int) : Utf8.valid c = true ↔ (0 ≤ c ∧ c < 55296) ∨ (57344 ≤ c ∧ c ≤ 1114111) := by
  simp [Utf8.valid]

theorem enc_pt (c : Int) : Utf8.encode c = Utf8.encode (pt c : Int) := by
  unfold pt
  cases h : Utf8.valid c with
  | true =>
    have h' := (valid_iff c).1 h
    simp only [if_true]
    rw [Int.toNat_of_nonneg (by omega)]
  | false =>
    simp only [Bool.false_eq_true, if_false]
    have e : Utf8.valid 65533 = true := (valid_iff _).2 (by omega)
    simp [Utf8.encode, h, Utf8.runeError, e]

theorem pt_valid (c : Int) : Utf8.valid (pt c : Int) = true := by
  unfold pt
  cases h : Utf8.valid c with
  | true =>
    have h' := (valid_iff c).1 h
    simp only [if_true]
    rw [Int.toNat_of_nonneg (by omega)]; exact h
  | false =>
    simp only [Bool.false_eq_true, if_false]
    exact (valid_iff _).2 (by omega)

theorem enc1 (n : Nat) (h : n < 128) : Utf8.encode (n : Int) = ⟨#[UInt8.ofNat n]⟩ := by
  have hv : Utf8.valid (n : Int) = true := (valid_iff _).2 (by omega)
  simp [Utf8.encode, hv, h]
theorem enc2 (n : Nat) (h0 : 128 ≤ n) (h : n < 2048) : Utf8.encode (n : Int) = ⟨#[UInt8.ofNat (192 + n / 64), UInt8.ofNat (128 + n % 64)]⟩ := by
  have hv : Utf8.valid (n : Int) = true := (valid_iff _).2 (by omega)
  have a : ¬ n < 128 := by omega
  simp [Utf8.encode, hv, a, h]
theorem enc3 (n : Nat) (hv : Utf8.valid (n : Int) = true) (h0 : 2048 ≤ n) (h : n < 65536) : Utf8.encode (n : Int) = ⟨#[UInt8.ofNat (224 + n / 4096), UInt8.ofNat (128 + n / 64 % 64), UInt8.ofNat (128 + n % 64)]⟩ := by
  have a : ¬ n < 128 := by omega
  have b : ¬ n < 2048 := by omega
  simp [Utf8.encode, hv, a, b, h]
theorem enc4 (n : Nat) (hv : Utf8.valid (n : Int) = true) (h0 : 65536 ≤ n) : Utf8.encode (n : Int) = ⟨#[UInt8.ofNat (240 + n / 262144), UInt8.ofNat (128 + n / 4096 % 64), UInt8.ofNat (128 + n / 64 % 64), UInt8.ofNat (128 + n % 64)]⟩ := by
  have a : ¬ n < 128 := by omega
  have b : ¬ n < 2048 := by omega
  have c : ¬ n < 65536 := by omega
  simp [Utf8.encode, hv, a, b, c]

theorem str1 (n : Nat) (h : n < 128) : strOfNums [(n : Int)] = Utf8.encode (n : Int) := by
  rw [enc1 n h]; simp [strOfNums]
theorem str2 (n : Nat) (h0 : 128 ≤ n) (h : n < 2048) : strOfNums [192 + (n : Int) / 64, 128 + (n : Int) % 64] = Utf8.encode (n : Int) := by
  rw [enc2 n h0 h]
  have a : (192 + (n : Int) / 64).toNat = 192 + n / 64 := by omega
  have b : (128 + (n : Int) % 64).toNat = 128 + n % 64 := by omega
  simp only [strOfNums, List.map_cons, List.map_nil, a, b]
theorem str3 (n : Nat) (hv : Utf8.valid (n : Int) = true) (h0 : 2048 ≤ n) (h : n < 65536) : strOfNums [224 + (n : Int) / 4096, 128 + (n : Int) / 64 % 64, 128 + (n : Int) % 64] = Utf8.encode (n : Int) := by
  rw [enc3 n hv h0 h]
  have a : (224 + (n : Int) / 4096).toNat = 224 + n / 4096 := by omega
  have b : (128 + (n : Int) / 64 % 64).toNat = 128 + n / 64 % 64 := by omega
  have c : (128 + (n : Int) % 64).toNat = 128 + n % 64 := by omega
  simp only [strOfNums, List.map_cons, List.map_nil, a, b, c]
theorem str4 (n : Nat) (hv : Utf8.valid (n : Int) = true) (h0 : 65536 ≤ n) : strOfNums [240 + (n : Int) / 262144, 128 + (n : Int) / 4096 % 64, 128 + (n : Int) / 64 % 64, 128 + (n : Int) % 64] = Utf8.encode (n : Int) := by
  rw [enc4 n hv h0]
  have a : (240 + (n : Int) / 262144).toNat = 240 + n / 262144 := by omega
  have b : (128 + (n : Int) / 4096 % 64).toNat = 128 + n / 4096 % 64 := by omega
  have c : (128 + (n : Int) / 64 % 64).toNat = 128 + n / 64 % 64 := by omega
  have d : (128 + (n : Int) % 64).toNat = 128 + n % 64 := by omega
  simp only [strOfNums, List.map_cons, List.map_nil, a, b, c, d]
theorem str_bad (c : Int) (h : Utf8.valid c = false) : strOfNums [239, 191, 189] = Utf8.encode c := by
  have e : Utf8.valid ((65533 : Nat) : Int) = true := (valid_iff _).2 (by omega)
  rw [enc_pt c]
  have hp : pt c = 65533 := by simp [pt, h]
  rw [hp, ← str3 65533 e (by omega) (by omega)]
  rfl
theorem wid_pos (s : ByteArray) (p : Nat) : 1 ≤ (Utf8.decode s p).2 := by
  rw [← Lib.decodeL_drop]; exact Lib.decodeL_width _
theorem wid_le (s : ByteArray) (p : Nat) (h : p < s.size) : p + (Utf8.decode s p).2 ≤ s.size := by
  rw [← Lib.decodeL_drop]
  have hl : s.data.toList.length = s.size := (Lib.size_eq s).symm
  have hne : s.data.toList.drop p ≠ [] := by
    intro h0
    have := congrArg List.length h0
    rw [List.length_drop, hl] at this
    simp only [List.length_nil] at this
    omega
  have := Lib.decodeL_le _ hne
  rw [List.length_drop] at this
  omega
/-- The first rune of a text: its code point and how many bytes it has. -/
def dec (s : ByteArray) : Nat × Nat := if s.size = 0 then (0, 0) else Utf8.decode s 0
theorem dec_ne (s : ByteArray) (h : 0 < s.size) : dec s = Utf8.decode s 0 := by unfold dec; rw [if_neg (by omega)]
theorem dec_nil (s : ByteArray) (h : s.size = 0) : dec s = (0, 0) := by unfold dec; rw [if_pos h]
theorem iter_below (w : World) (s : ByteArray) (p : Nat) : Below w.heap.size w (w.iter s p) := (Below.refl _ _).alloc (Nat.le_refl _) _
theorem ret_dec {k k' : IntKind} {a b a' b' : Int} (h : a = a') (h' : b = b') : Ending.returned (.tuple #[.int k a, .int k' b]) = .returned (.tuple #[.int k a', .int k' b']) := by rw [h, h']
/-- How many runes stand from a place on. -/
def cntGo (s : ByteArray) : Nat → Nat → Nat
  | 0, _ => 0
  | f + 1, p => if p < s.size then 1 + cntGo s f (p + (Utf8.decode s p).2) else 0
def cntFrom (s : ByteArray) (p : Nat) : Nat := cntGo s (s.size - p) p
/-- How many runes a text has. -/
def cntR (s : ByteArray) : Nat := cntFrom s 0
theorem cntGo_fuel (s : ByteArray) : ∀ (f g p : Nat), s.size - p ≤ f → s.size - p ≤ g → cntGo s f p = cntGo s g p
  | 0, 0, _, _, _ => rfl
  | 0, g + 1, p, h, _ => by simp [cntGo, show ¬ p < s.size by omega]
  | f + 1, 0, p, _, h => by simp [cntGo, show ¬ p < s.size by omega]
  | f + 1, g + 1, p, h1, h2 => by
    have hw := wid_pos s p
    by_cases hp : p < s.size
    · simp only [cntGo, if_pos hp]
      rw [cntGo_fuel s f g _ (by omega) (by omega)]
    · simp [cntGo, hp]
theorem cntFrom_step (s : ByteArray) (p : Nat) (h : p < s.size) : cntFrom s p = 1 + cntFrom s (p + (Utf8.decode s p).2) := by
  have hw := wid_pos s p
  unfold cntFrom
  obtain ⟨f, hf⟩ : ∃ f, s.size - p = f + 1 := ⟨s.size - p - 1, by omega⟩
  rw [hf]
  simp only [cntGo, if_pos h]
  rw [cntGo_fuel s f _ _ (by omega) (Nat.le_refl _)]
theorem cntFrom_end (s : ByteArray) (p : Nat) (h : ¬ p < s.size) : cntFrom s p = 0 := by
  unfold cntFrom
  rw [show s.size - p = 0 by omega]; rfl
theorem ret_int {k : IntKind} {a b : Int} (h : a = b) : Ending.returned (.int k a) = .returned (.int k b) := by rw [h]
theorem ret_str {a b : ByteArray} (h : a = b) : Ending.returned (.string a) = .returned (.string b) := by rw [h]

end Go.Proofs.Ytpknjcdodnoibaa
