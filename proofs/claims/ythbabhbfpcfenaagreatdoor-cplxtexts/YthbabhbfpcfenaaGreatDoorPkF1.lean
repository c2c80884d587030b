/- Plain, Plain2, Plain3, Plain4, Plain6, Plain7, Plain8, QPlain, IDig, INumD, BNum, BMath, QReg: these texts in one. -/
import Derived.WalkKit
import Derived.Lib.MapLaws
import Derived.Laws.BytesArg
import Derived.Lib.Repeat
import Derived.Lib.Case
import Derived.Lib.TrimByte
import Derived.Lib.Bytealg
import Derived.Deep.QuietTactic
import Derived.BigQuiet
/- The plain mathematics under the walks over package buf: what the model writes and reads as UTF-8; no program is met here. -/
namespace Go.Proofs.YthbabhbfpcfenaaGreatDoor
open Go.RowKit

/-- The code point that a number stands for when it is written. -/
def pt (c : Int) : Nat := if Utf8.valid c then c.toNat else 65533

theorem valid_iff (c : Int) : Utf8.valid c = true ↔ (0 ≤ c ∧ c < 55296) ∨ (57344 ≤ c ∧ c ≤ 1114111) := by
  simp [Utf8.valid]

theorem enc_pt (c : Int) : Utf8.encode c = Utf8.encode (pt c : Int) := by
  unfold pt
  cases h : Utf8.valid c with
  | true =>
    have h' := (valid_iff c).1 h
    simp only [if_true]
    rw [Int.toNat_of_nonneg (by omega)]
  | false =>
    simp only [Bool.false_eq_true, if_false]
    have e : Utf8.valid 65533 = true := (valid_iff _).2 (by omega)
    simp [Utf8.encode, h, Utf8.runeError, e]

theorem pt_valid (c : Int) : Utf8.valid (pt c : Int) = true := by
  unfold pt
  cases h : Utf8.valid c with
  | true =>
    have h' := (valid_iff c).1 h
    simp only [if_true]
    rw [Int.toNat_of_nonneg (by omega)]; exact h
  | false =>
    simp only [Bool.false_eq_true, if_false]
    exact (valid_iff _).2 (by omega)

theorem enc1 (n : Nat) (h : n < 128) : Utf8.encode (n : Int) = ⟨#[UInt8.ofNat n]⟩ := by
  have hv : Utf8.valid (n : Int) = true := (valid_iff _).2 (by omega)
  simp [Utf8.encode, hv, h]
theorem enc2 (n : Nat) (h0 : 128 ≤ n) (h : n < 2048) : Utf8.encode (n : Int) = ⟨#[UInt8.ofNat (192 + n / 64), UInt8.ofNat (128 + n % 64)]⟩ := by
  have hv : Utf8.valid (n : Int) = true := (valid_iff _).2 (by omega)
  have a : ¬ n < 128 := by omega
  simp [Utf8.encode, hv, a, h]
theorem enc3 (n : Nat) (hv : Utf8.valid (n : Int) = true) (h0 : 2048 ≤ n) (h : n < 65536) : Utf8.encode (n : Int) = ⟨#[UInt8.ofNat (224 + n / 4096), UInt8.ofNat (128 + n / 64 % 64), UInt8.ofNat (128 + n % 64)]⟩ := by
  have a : ¬ n < 128 := by omega
  have b : ¬ n < 2048 := by omega
  simp [Utf8.encode, hv, a, b, h]
theorem enc4 (n : Nat) (hv : Utf8.valid (n : Int) = true) (h0 : 65536 ≤ n) : Utf8.encode (n : Int) = ⟨#[UInt8.ofNat (240 + n / 262144), UInt8.ofNat (128 + n / 4096 % 64), UInt8.ofNat (128 + n / 64 % 64), UInt8.ofNat (128 + n % 64)]⟩ := by
  have a : ¬ n < 128 := by omega
  have b : ¬ n < 2048 := by omega
  have c : ¬ n < 65536 := by omega
  simp [Utf8.encode, hv, a, b, c]

theorem str1 (n : Nat) (h : n < 128) : strOfNums [(n : Int)] = Utf8.encode (n : Int) := by
  rw [enc1 n h]; simp [strOfNums]
theorem str2 (n : Nat) (h0 : 128 ≤ n) (h : n < 2048) : strOfNums [192 + (n : Int) / 64, 128 + (n : Int) % 64] = Utf8.encode (n : Int) := by
  rw [enc2 n h0 h]
  have a : (192 + (n : Int) / 64).toNat = 192 + n / 64 := by omega
  have b : (128 + (n : Int) % 64).toNat = 128 + n % 64 := by omega
  simp only [strOfNums, List.map_cons, List.map_nil, a, b]
theorem str3 (n : Nat) (hv : Utf8.valid (n : Int) = true) (h0 : 2048 ≤ n) (h : n < 65536) : strOfNums [224 + (n : Int) / 4096, 128 + (n : Int) / 64 % 64, 128 + (n : Int) % 64] = Utf8.encode (n : Int) := by
  rw [enc3 n hv h0 h]
  have a : (224 + (n : Int) / 4096).toNat = 224 + n / 4096 := by omega
  have b : (128 + (n : Int) / 64 % 64).toNat = 128 + n / 64 % 64 := by omega
  have c : (128 + (n : Int) % 64).toNat = 128 + n % 64 := by omega
  simp only [strOfNums, List.map_cons, List.map_nil, a, b, c]
theorem str4 (n : Nat) (hv : Utf8.valid (n : Int) = true) (h0 : 65536 ≤ n) : strOfNums [240 + (n : Int) / 262144, 128 + (n : Int) / 4096 % 64, 128 + (n : Int) / 64 % 64, 128 + (n : Int) % 64] = Utf8.encode (n : Int) := by
  rw [enc4 n hv h0]
  have a : (240 + (n : Int) / 262144).toNat = 240 + n / 262144 := by omega
  have b : (128 + (n : Int) / 4096 % 64).toNat = 128 + n / 4096 % 64 := by omega
  have c : (128 + (n : Int) / 64 % 64).toNat = 128 + n / 64 % 64 := by omega
  have d : (128 + (n : Int) % 64).toNat = 128 + n % 64 := by omega
  simp only [strOfNums, List.map_cons, List.map_nil, a, b, c, d]
theorem str_bad (c : Int) (h : Utf8.valid c = false) : strOfNums [239, 191, 189] = Utf8.encode c := by
  have e : Utf8.valid ((65533 : Nat) : Int) = true := (valid_iff _).2 (by omega)
  rw [enc_pt c]
  have hp : pt c = 65533 := by simp [pt, h]
  rw [hp, ← str3 65533 e (by omega) (by omega)]
  rfl
theorem wid_pos (s : ByteArray) (p : Nat) : 1 ≤ (Utf8.decode s p).2 := by
  rw [← Lib.decodeL_drop]; exact Lib.decodeL_width _
theorem wid_le (s : ByteArray) (p : Nat) (h : p < s.size) : p + (Utf8.decode s p).2 ≤ s.size := by
  rw [← Lib.decodeL_drop]
  have hl : s.data.toList.length = s.size := (Lib.size_eq s).symm
  have hne : s.data.toList.drop p ≠ [] := by
    intro h0
    have := congrArg List.length h0
    rw [List.length_drop, hl] at this
    simp only [List.length_nil] at this
    omega
  have := Lib.decodeL_le _ hne
  rw [List.length_drop] at this
  omega
/-- The first rune of a text: its code point and how many bytes it has. -/
def dec (s : ByteArray) : Nat × Nat := if s.size = 0 then (0, 0) else Utf8.decode s 0
theorem dec_ne (s : ByteArray) (h : 0 < s.size) : dec s = Utf8.decode s 0 := by unfold dec; rw [if_neg (by omega)]
theorem dec_nil (s : ByteArray) (h : s.size = 0) : dec s = (0, 0) := by unfold dec; rw [if_pos h]
theorem iter_below (w : World) (s : ByteArray) (p : Nat) : Below w.heap.size w (w.iter s p) := (Below.refl _ _).alloc (Nat.le_refl _) _
theorem ret_dec {k k' : IntKind} {a b a' b' : Int} (h : a = a') (h' : b = b') : Ending.returned (.tuple #[.int k a, .int k' b]) = .returned (.tuple #[.int k a', .int k' b']) := by rw [h, h']
/-- How many runes stand from a place on. -/
def cntGo (s : ByteArray) : Nat → Nat → Nat
  | 0, _ => 0
  | f + 1, p => if p < s.size then 1 + cntGo s f (p + (Utf8.decode s p).2) else 0
def cntFrom (s : ByteArray) (p : Nat) : Nat := cntGo s (s.size - p) p
/-- How many runes a text has. -/
def cntR (s : ByteArray) : Nat := cntFrom s 0
theorem cntGo_fuel (s : ByteArray) : ∀ (f g p : Nat), s.size - p ≤ f → s.size - p ≤ g → cntGo s f p = cntGo s g p
  | 0, 0, _, _, _ => rfl
  | 0, g + 1, p, h, _ => by simp [cntGo, show ¬ p < s.size by omega]
  | f + 1, 0, p, _, h => by simp [cntGo, show ¬ p < s.size by omega]
  | f + 1, g + 1, p, h1, h2 => by
    have hw := wid_pos s p
    by_cases hp : p < s.size
    · simp only [cntGo, if_pos hp]
      rw [cntGo_fuel s f g _ (by omega) (by omega)]
    · simp [cntGo, hp]
theorem cntFrom_step (s : ByteArray) (p : Nat) (h : p < s.size) : cntFrom s p = 1 + cntFrom s (p + (Utf8.decode s p).2) := by
  have hw := wid_pos s p
  unfold cntFrom
  obtain ⟨f, hf⟩ : ∃ f, s.size - p = f + 1 := ⟨s.size - p - 1, by omega⟩
  rw [hf]
  simp only [cntGo, if_pos h]
  rw [cntGo_fuel s f _ _ (by omega) (Nat.le_refl _)]
theorem cntFrom_end (s : ByteArray) (p : Nat) (h : ¬ p < s.size) : cntFrom s p = 0 := by
  unfold cntFrom
  rw [show s.size - p = 0 by omega]; rfl
theorem ret_int {k : IntKind} {a b : Int} (h : a = b) : Ending.returned (.int k a) = .returned (.int k b) := by rw [h]
theorem ret_str {a b : ByteArray} (h : a = b) : Ending.returned (.string a) = .returned (.string b) := by rw [h]

end Go.Proofs.YthbabhbfpcfenaaGreatDoor

/- More plain mathematics: widths. -/
namespace Go.Proofs.YthbabhbfpcfenaaGreatDoor
open Go.RowKit
/-- A number as a width. -/
def wdt (n : Int) : Nat := (min (max n 0) 1000).toNat
theorem wdt_eq (n : Int) : min (max n 0) 1000 = ((wdt n : Nat) : Int) := by unfold wdt; omega
theorem wdt_neg (n : Int) (h : n < 0) : wdt n = 0 := by unfold wdt; omega
theorem wdt_mid (n : Int) (h : 0 ≤ n) (h' : n ≤ 1000) : ((wdt n : Nat) : Int) = n := by unfold wdt; omega
theorem wdt_big (n : Int) (h : 1000 < n) : wdt n = 1000 := by unfold wdt; omega
theorem wdt_le (n : Int) : wdt n ≤ 1000 := by unfold wdt; omega
/-- So many times a byte. -/
def run (c : Nat) (k : Nat) : ByteArray := ⟨Array.replicate k (UInt8.ofNat c)⟩
theorem run_size (c k : Nat) : (run c k).size = k := by simp [run, ByteArray.size]
/-- A text filled to a width. -/
def padS (s : ByteArray) (mi z : Bool) (wid : Int) : ByteArray :=
  if mi then s ++ run 32 (wdt ((wdt wid : Nat) - (cntR s : Nat) : Int)) else if z then run 48 (wdt ((wdt wid : Nat) - (cntR s : Nat) : Int)) ++ s else run 32 (wdt ((wdt wid : Nat) - (cntR s : Nat) : Int)) ++ s
theorem cntGo_le (s : ByteArray) : ∀ (f p : Nat), cntGo s f p ≤ s.size - p
  | 0, p => by simp [cntGo]
  | f + 1, p => by
    have hw := wid_pos s p
    by_cases hp : p < s.size
    · simp only [cntGo, if_pos hp]
      have := cntGo_le s f (p + (Utf8.decode s p).2)
      omega
    · simp [cntGo, hp]
theorem cntR_le (s : ByteArray) : cntR s ≤ s.size := by
  have := cntGo_le s (s.size - 0) 0
  unfold cntR cntFrom
  omega
theorem run_snoc (c k : Nat) : run c k ++ strOfNums [(c : Int)] = run c (k + 1) := by
  apply ByteArray.ext
  rw [ByteArray.data_append]
  show Array.replicate k (UInt8.ofNat c) ++ #[UInt8.ofNat c] = Array.replicate (k + 1) (UInt8.ofNat c)
  rw [Array.replicate_succ]
  rfl
theorem run_zero (c : Nat) : run c 0 = ⟨#[]⟩ := rfl
end Go.Proofs.YthbabhbfpcfenaaGreatDoor

/- More plain mathematics: what is written of a code point is read as it, and what is read is what was written. -/
namespace Go.Proofs.YthbabhbfpcfenaaGreatDoor
open Go.RowKit

theorem enc_lib (n : Nat) (hv : Utf8.valid (n : Int) = true) : Utf8.encode (n : Int) = strOfNums (Lib.encodeRuneZ (n : Int)) := by
  have h := (valid_iff _).1 hv
  by_cases h1 : n < 128
  · rw [Lib.encodeRuneZ_one (by omega) (by omega)]; exact (str1 n h1).symm
  by_cases h2 : n < 2048
  · rw [Lib.encodeRuneZ_two (by omega) (by omega)]; exact (str2 n (by omega) h2).symm
  by_cases h3 : n < 65536
  · rw [Lib.encodeRuneZ_three (by omega)]; exact (str3 n hv (by omega) h3).symm
  · rw [Lib.encodeRuneZ_four (by omega) (by omega)]; exact (str4 n hv (by omega)).symm

theorem enc_list (n : Nat) (hv : Utf8.valid (n : Int) = true) : (Utf8.encode (n : Int)).data.toList = Lib.encodeRune (n : Int) := by
  rw [enc_lib n hv]; rfl

set_option maxHeartbeats 1000000 in
theorem decL_enc (n : Nat) (hv : Utf8.valid (n : Int) = true) (t : List UInt8) : Lib.decodeL ((Utf8.encode (n : Int)).data.toList ++ t) = (n, (Utf8.encode (n : Int)).size) := by
  have h := (valid_iff _).1 hv
  rw [Lib.decodeL_N]
  by_cases h1 : n < 128
  · rw [enc1 n h1]
    have e0 : (UInt8.ofNat n).toNat = n := by simp; omega
    show Lib.decodeN _ (UInt8.ofNat n).toNat _ _ _ = (n, 1)
    rw [e0]
    unfold Lib.decodeN
    rw [if_pos h1]
  by_cases h2 : n < 2048
  · rw [enc2 n (by omega) h2]
    have e0 : (UInt8.ofNat (192 + n / 64)).toNat = 192 + n / 64 := by simp; omega
    have e1 : (UInt8.ofNat (128 + n % 64)).toNat = 128 + n % 64 := by simp; omega
    show Lib.decodeN (t.length + 2) (UInt8.ofNat (192 + n / 64)).toNat (UInt8.ofNat (128 + n % 64)).toNat _ _ = (n, 2)
    rw [e0, e1]
    have ec : (192 + n / 64) % 32 * 64 + (128 + n % 64) % 64 = n := by omega
    unfold Lib.decodeN
    rw [if_neg (by omega), if_pos (by omega), ec, if_pos (by omega)]
  by_cases h3 : n < 65536
  · rw [enc3 n hv (by omega) h3]
    have e0 : (UInt8.ofNat (224 + n / 4096)).toNat = 224 + n / 4096 := by simp; omega
    have e1 : (UInt8.ofNat (128 + n / 64 % 64)).toNat = 128 + n / 64 % 64 := by simp; omega
    have e2 : (UInt8.ofNat (128 + n % 64)).toNat = 128 + n % 64 := by simp; omega
    show Lib.decodeN (t.length + 3) (UInt8.ofNat (224 + n / 4096)).toNat (UInt8.ofNat (128 + n / 64 % 64)).toNat (UInt8.ofNat (128 + n % 64)).toNat _ = (n, 3)
    rw [e0, e1, e2]
    have ec : (224 + n / 4096) % 16 * 4096 + (128 + n / 64 % 64) % 64 * 64 + (128 + n % 64) % 64 = n := by omega
    unfold Lib.decodeN
    rw [if_neg (by omega), if_neg (by omega), if_pos (by omega), ec, if_pos (by omega)]
  · rw [enc4 n hv (by omega)]
    have e0 : (UInt8.ofNat (240 + n / 262144)).toNat = 240 + n / 262144 := by simp; omega
    have e1 : (UInt8.ofNat (128 + n / 4096 % 64)).toNat = 128 + n / 4096 % 64 := by simp; omega
    have e2 : (UInt8.ofNat (128 + n / 64 % 64)).toNat = 128 + n / 64 % 64 := by simp; omega
    have e3 : (UInt8.ofNat (128 + n % 64)).toNat = 128 + n % 64 := by simp; omega
    show Lib.decodeN (t.length + 4) (UInt8.ofNat (240 + n / 262144)).toNat (UInt8.ofNat (128 + n / 4096 % 64)).toNat (UInt8.ofNat (128 + n / 64 % 64)).toNat (UInt8.ofNat (128 + n % 64)).toNat = (n, 4)
    rw [e0, e1, e2, e3]
    have ec : (240 + n / 262144) % 8 * 262144 + (128 + n / 4096 % 64) % 64 * 4096 + (128 + n / 64 % 64) % 64 * 64 + (128 + n % 64) % 64 = n := by omega
    unfold Lib.decodeN
    rw [if_neg (by omega), if_neg (by omega), if_neg (by omega), if_pos (by omega), ec, if_pos (by omega)]

theorem dec_zero (s : ByteArray) : Utf8.decode s 0 = Lib.decodeL s.data.toList := by
  rw [← Lib.decodeL_drop]; rfl

/-- A text that begins with what is written of a code point is read as it. -/
theorem dec_begins (s : ByteArray) (n : Nat) (hv : Utf8.valid (n : Int) = true) (t : List UInt8) (h : s.data.toList = (Utf8.encode (n : Int)).data.toList ++ t) : Utf8.decode s 0 = (n, (Utf8.encode (n : Int)).size) := by
  rw [dec_zero, h, decL_enc n hv t]

theorem empty_no (s : ByteArray) (h : 0 < s.size) : s.toList.isEmpty = false := by
  rw [Lib.toList_data]
  have := Lib.size_eq s
  cases hl : s.data.toList with
  | nil => rw [hl] at this; simp only [List.length_nil] at this; omega
  | cons a b => rfl
theorem empty_yes (s : ByteArray) (h : s.size = 0) : s.toList.isEmpty = true := by
  rw [Lib.toList_data]
  have := Lib.size_eq s
  cases hl : s.data.toList with
  | nil => rfl
  | cons a b => rw [hl] at this; simp only [List.length_cons] at this; omega
/-- The byte at a place. -/
def bt (s : ByteArray) (i : Nat) : Nat := (s.get! i).toNat
theorem bt_lt (s : ByteArray) (i : Nat) : bt s i < 256 := (s.get! i).toNat_lt
theorem bt_at (s : ByteArray) (i : Nat) (h : i < s.size) : (s[i]'h).toNat = bt s i := by
  have := get_at s i h
  unfold bt
  rw [← this]; rfl
/-- The number that stands in so many bytes. -/
def cnd (s : ByteArray) (m : Nat) : Nat → Nat
  | 0 => bt s 0 % m
  | i + 1 => 64 * cnd s m i + bt s (i + 1) % 64
theorem cnd_le (s : ByteArray) (m i : Nat) (hi : i ≤ 3) : cnd s m i ≤ 67108863 := by
  have h0 : bt s 0 % m ≤ bt s 0 := Nat.mod_le _ _
  have h1 := bt_lt s 0
  match i, hi with
  | 0, _ => simp only [cnd]; omega
  | 1, _ => simp only [cnd]; omega
  | 2, _ => simp only [cnd]; omega
  | 3, _ => simp only [cnd]; omega
/-- Is the number in the first n bytes written by just these? -/
def tryN (s : ByteArray) (m n : Nat) : Prop := Utf8.valid (cnd s m (n - 1) : Int) = true ∧ Utf8.encode (cnd s m (n - 1) : Int) = s.extract 0 n

theorem ext_list (s : ByteArray) (n : Nat) : (s.extract 0 n).data.toList = s.data.toList.take n := by
  rw [ByteArray.data_extract, Array.toList_extract]; simp
theorem try_dec (s : ByteArray) (m n : Nat) (hn : n ≤ s.size) (h : tryN s m n) : Utf8.decode s 0 = (cnd s m (n - 1), n) := by
  obtain ⟨hv, he⟩ := h
  have hz : (Utf8.encode (cnd s m (n - 1) : Int)).size = n := by
    rw [he, ByteArray.size_extract]; omega
  rw [dec_begins s _ hv (s.data.toList.drop n) ?_, hz]
  rw [he, ext_list, List.take_append_drop]
def mdl (n : Nat) : Nat := if n = 2 then 32 else if n = 3 then 16 else if n = 4 then 8 else 256

theorem wrap_byte (s : ByteArray) (i : Nat) (h : i < s.size) : wrap64 ((s[i]'h).toNat : Int) = (bt s i : Nat) := by
  have := bt_lt s i
  rw [bt_at s i h]
  unfold wrap64
  omega
theorem c0_1 (s : ByteArray) (h : 0 < s.size) : wrap64 ((s[0]'h).toNat : Int) = (cnd s (mdl 1) 0 : Nat) := by
  have := bt_lt s 0
  rw [wrap_byte s 0 h]
  show (bt s 0 : Int) = ((bt s 0 % 256 : Nat) : Int)
  omega
theorem tmod_of (a b : Nat) : ((a : Int)).tmod (b : Int) = ((a % b : Nat) : Int) := by
  rw [Int.ofNat_tmod]
theorem c0_2 (s : ByteArray) (h : 0 < s.size) : (wrap64 ((s[0]'h).toNat : Int)).tmod 32 = (cnd s (mdl 2) 0 : Nat) := by
  rw [wrap_byte s 0 h]; exact tmod_of (bt s 0) 32
theorem c0_3 (s : ByteArray) (h : 0 < s.size) : (wrap64 ((s[0]'h).toNat : Int)).tmod 16 = (cnd s (mdl 3) 0 : Nat) := by
  rw [wrap_byte s 0 h]; exact tmod_of (bt s 0) 16
theorem c0_4 (s : ByteArray) (h : 0 < s.size) : (wrap64 ((s[0]'h).toNat : Int)).tmod 8 = (cnd s (mdl 4) 0 : Nat) := by
  rw [wrap_byte s 0 h]; exact tmod_of (bt s 0) 8
theorem val_int {k : IntKind} {a b : Int} (h : a = b) : Value.int k a = .int k b := by rw [h]
theorem cnd_succ (s : ByteArray) (m q : Nat) (h : 1 ≤ q) : cnd s m q = 64 * cnd s m (q - 1) + bt s q % 64 := by
  obtain ⟨r, rfl⟩ : ∃ r, q = r + 1 := ⟨q - 1, by omega⟩
  rfl
theorem step_c (s : ByteArray) (m q : Nat) (h1 : 1 ≤ q) (h : q < s.size) (hq : q ≤ 3) : wrap64 (64 * (cnd s m (q - 1) : Int) + (wrap64 ((s[q]'h).toNat : Int)).tmod 64) = (cnd s m (q + 1 - 1) : Nat) := by
  have hl := cnd_le s m q hq
  have e : ((bt s q : Nat) : Int).tmod 64 = ((bt s q % 64 : Nat) : Int) := tmod_of (bt s q) 64
  rw [wrap_byte s q h, e, Nat.add_sub_cancel]
  rw [cnd_succ s m q h1] at hl ⊢
  unfold wrap64
  omega
theorem wrap32_nat (c : Nat) (h : c ≤ 67108863) : IntKind.i32.wrap (c : Int) = (c : Int) := by
  unfold IntKind.wrap
  simp [IntKind.bits, IntKind.signed]
  omega
theorem beq_no (a b : ByteArray) (h : ¬ a = b) : Value.bool (a.toList == b.toList) = .bool false := by
  have : (a.toList == b.toList) = false := by
    rw [Lib.toList_data, Lib.toList_data]
    apply beq_false_of_ne
    intro e
    exact h (ByteArray.ext (Array.ext' e))
  rw [this]
theorem list_eq (s : ByteArray) (l : List UInt8) (h : s.data.toList = l) : s = ⟨l.toArray⟩ := by
  apply ByteArray.ext
  rw [← h]
theorem enc_of_dec (s : ByteArray) (h0 : 0 < s.size) (hv : Utf8.valid ((Utf8.decode s 0).1 : Int) = true) (hb : ¬ ((Utf8.decode s 0).1 = 65533 ∧ (Utf8.decode s 0).2 = 1)) :
    Utf8.encode ((Utf8.decode s 0).1 : Int) = s.extract 0 (Utf8.decode s 0).2 := by
  have hne : s.data.toList ≠ [] := by
    intro h
    have := congrArg List.length h
    rw [← Lib.size_eq s] at this
    simp only [List.length_nil] at this
    omega
  rw [dec_zero] at hv hb ⊢
  have h := Lib.encode_decode _ hne hb
  apply ByteArray.ext
  apply Array.ext'
  rw [enc_list _ hv, h, ext_list]

set_option maxHeartbeats 1000000 in
/-- A text's first rune is broken, or one of the four lengths is right. -/
theorem dec_some (s : ByteArray) (h0 : 0 < s.size) : Utf8.decode s 0 = (65533, 1) ∨ ∃ n, 1 ≤ n ∧ n ≤ 4 ∧ n ≤ s.size ∧ tryN s (mdl n) n := by
  have k0 := bt_lt s 0
  have k1 := bt_lt s 1
  have k2 := bt_lt s 2
  have k3 := bt_lt s 3
  have hd : Utf8.decode s 0 = Lib.decodeN s.size (bt s 0) (bt s 1) (bt s 2) (bt s 3) := by rw [Lib.decode_at]; rfl
  rcases Lib.decodeN_shape s.size (bt s 0) (bt s 1) (bt s 2) (bt s 3) with ⟨c, e⟩ | ⟨c1, c2, c3, cv, e⟩ | ⟨c1, c2, c3, c4, cv, cs, e⟩ | ⟨c1, c2, c3, c4, c5, cv, cw, e⟩ | e
  · right
    refine ⟨1, by omega, by omega, by omega, ?_⟩
    have ec : cnd s (mdl 1) (1 - 1) = (Utf8.decode s 0).1 := by rw [hd, e]; show bt s 0 % 256 = bt s 0; omega
    have hv : Utf8.valid ((Utf8.decode s 0).1 : Int) = true := by rw [hd, e]; exact (valid_iff _).2 (by dsimp only; omega)
    unfold tryN
    rw [ec]
    refine ⟨hv, ?_⟩
    have := enc_of_dec s h0 hv (by rw [hd, e]; dsimp only; omega)
    rw [this, hd, e]
  · right
    refine ⟨2, by omega, by omega, by omega, ?_⟩
    have ec : cnd s (mdl 2) (2 - 1) = (Utf8.decode s 0).1 := by rw [hd, e]; simp only [cnd, mdl]; simp; omega
    have hv : Utf8.valid ((Utf8.decode s 0).1 : Int) = true := by rw [hd, e]; exact (valid_iff _).2 (by dsimp only; omega)
    unfold tryN
    rw [ec]
    refine ⟨hv, ?_⟩
    have := enc_of_dec s h0 hv (by rw [hd, e]; dsimp only; omega)
    rw [this, hd, e]
  · right
    refine ⟨3, by omega, by omega, by omega, ?_⟩
    have ec : cnd s (mdl 3) (3 - 1) = (Utf8.decode s 0).1 := by rw [hd, e]; simp only [cnd, mdl]; simp; omega
    have hv : Utf8.valid ((Utf8.decode s 0).1 : Int) = true := by rw [hd, e]; exact (valid_iff _).2 (by dsimp only; omega)
    unfold tryN
    rw [ec]
    refine ⟨hv, ?_⟩
    have := enc_of_dec s h0 hv (by rw [hd, e]; dsimp only; omega)
    rw [this, hd, e]
  · right
    refine ⟨4, by omega, by omega, by omega, ?_⟩
    have ec : cnd s (mdl 4) (4 - 1) = (Utf8.decode s 0).1 := by rw [hd, e]; simp only [cnd, mdl]; simp; omega
    have hv : Utf8.valid ((Utf8.decode s 0).1 : Int) = true := by rw [hd, e]; exact (valid_iff _).2 (by dsimp only; omega)
    unfold tryN
    rw [ec]
    refine ⟨hv, ?_⟩
    have := enc_of_dec s h0 hv (by rw [hd, e]; dsimp only; omega)
    rw [this, hd, e]
  · left
    rw [hd, e]
end Go.Proofs.YthbabhbfpcfenaaGreatDoor

/- More plain mathematics: counting and cutting. -/
namespace Go.Proofs.YthbabhbfpcfenaaGreatDoor
open Go.RowKit

theorem tail_list (s : ByteArray) (a : Nat) : (s.extract a s.size).data.toList = s.data.toList.drop a := by
  rw [ByteArray.data_extract, Array.toList_extract]
  apply List.take_of_length_le
  rw [List.length_drop, ← Lib.size_eq s]
  exact Nat.le_refl _
theorem tail_size (s : ByteArray) (a : Nat) : (s.extract a s.size).size = s.size - a := by
  rw [ByteArray.size_extract]; omega
theorem dec_shift (s : ByteArray) (a p : Nat) : Utf8.decode (s.extract a s.size) p = Utf8.decode s (a + p) := by
  rw [← Lib.decodeL_drop, ← Lib.decodeL_drop, tail_list, List.drop_drop]
theorem cntGo_shift (s : ByteArray) (a : Nat) : ∀ (f p : Nat), cntGo (s.extract a s.size) f p = cntGo s f (a + p)
  | 0, _ => rfl
  | f + 1, p => by
    have e := tail_size s a
    by_cases h : p < s.size - a
    · simp only [cntGo, e, if_pos h, if_pos (show a + p < s.size by omega)]
      rw [cntGo_shift s a f, dec_shift, Nat.add_assoc]
    · simp only [cntGo, e, if_neg h, if_neg (show ¬ a + p < s.size by omega)]
theorem cntR_tail (s : ByteArray) (a : Nat) : cntR (s.extract a s.size) = cntFrom s a := by
  unfold cntR cntFrom
  rw [cntGo_shift, tail_size]; rfl
theorem cntR_step (t : ByteArray) (h : 0 < t.size) : cntR t = 1 + cntR (t.extract (dec t).2 t.size) := by
  rw [cntR_tail, dec_ne t h]
  show cntFrom t 0 = _
  rw [cntFrom_step t 0 h, Nat.zero_add]
theorem cntR_nil (t : ByteArray) (h : t.size = 0) : cntR t = 0 := cntFrom_end t 0 (by omega)
theorem dec_wid (t : ByteArray) (h : 0 < t.size) : 1 ≤ (dec t).2 ∧ (dec t).2 ≤ t.size := by
  rw [dec_ne t h]
  have a := wid_pos t 0
  have b := wid_le t 0 h
  omega
theorem dec_tail (s : ByteArray) (a : Nat) (h : a < s.size) : dec (s.extract a s.size) = Utf8.decode s a := by
  rw [dec_ne _ (by rw [tail_size]; omega), dec_shift]; rfl

/-- Where so many runes end, from a place on. -/
def posGo (s : ByteArray) : Nat → Nat → Nat
  | 0, p => p
  | k + 1, p => if p < s.size then posGo s k (p + (Utf8.decode s p).2) else p
theorem posGo_end (s : ByteArray) (k p : Nat) (h : ¬ p < s.size) : posGo s k p = p := by
  cases k with
  | zero => rfl
  | succ k => simp [posGo, h]
theorem posGo_step (s : ByteArray) (k p : Nat) (h : p < s.size) : posGo s (k + 1) p = posGo s k (p + (Utf8.decode s p).2) := by
  simp only [posGo, if_pos h]
theorem posGo_le (s : ByteArray) : ∀ (k p : Nat), p ≤ s.size → posGo s k p ≤ s.size
  | 0, p, h => h
  | k + 1, p, h => by
    by_cases hp : p < s.size
    · rw [posGo_step s k p hp]; exact posGo_le s k _ (wid_le s p hp)
    · rw [posGo_end s _ p hp]; exact h
/-- The first runes of a text. -/
def cutS (s : ByteArray) (n : Int) : ByteArray := if n < 0 then s else s.extract 0 (posGo s n.toNat 0)
theorem extract_all (s : ByteArray) : s.extract 0 s.size = s := by
  apply ByteArray.ext
  apply Array.ext'
  rw [ext_list, Lib.size_eq s, List.take_length]
end Go.Proofs.YthbabhbfpcfenaaGreatDoor

/- More plain mathematics: the runes of a text that is filled with blanks or noughts. -/
namespace Go.Proofs.YthbabhbfpcfenaaGreatDoor
open Go.RowKit

theorem app_list (a b : ByteArray) : (a ++ b).data.toList = a.data.toList ++ b.data.toList := by
  rw [ByteArray.data_append, Array.toList_append]
theorem app_size (a b : ByteArray) : (a ++ b).size = a.size + b.size := by
  rw [Lib.size_eq, app_list, List.length_append, ← Lib.size_eq, ← Lib.size_eq]
theorem run_list (c k : Nat) : (run c k).data.toList = List.replicate k (UInt8.ofNat c) := by
  show (Array.replicate k (UInt8.ofNat c)).toList = _
  rw [Array.toList_replicate]
theorem get_app_left (a b : ByteArray) (i : Nat) (h : i < a.size) : bt (a ++ b) i = bt a i := by
  unfold bt
  rw [← Lib.getD_get!', ← Lib.getD_get!', app_list]
  rw [Lib.size_eq] at h
  simp [List.getD, List.getElem?_append_left h]
theorem get_app_run (a : ByteArray) (c k i : Nat) (hc : c < 128) (h : a.size ≤ i) : bt (a ++ run c k) i < 128 := by
  unfold bt
  rw [← Lib.getD_get!', app_list, run_list]
  rw [Lib.size_eq] at h
  simp only [List.getD, List.getElem?_append_right h]
  by_cases hk : i - a.data.toList.length < k
  · rw [List.getElem?_replicate, if_pos hk]
    simp
    omega
  · rw [List.getElem?_replicate, if_neg hk]
    simp

set_option maxHeartbeats 1000000 in
theorem decodeN_same (n n' b0 b1 b2 b3 c1 c2 c3 : Nat) (h1 : (1 < n ∧ b1 = c1 ∧ 1 < n') ∨ (¬ (1 < n ∧ b1 / 64 = 2) ∧ ¬ (1 < n' ∧ c1 / 64 = 2)))
    (h2 : (2 < n ∧ b2 = c2 ∧ 2 < n') ∨ (¬ (2 < n ∧ b2 / 64 = 2) ∧ ¬ (2 < n' ∧ c2 / 64 = 2)))
    (h3 : (3 < n ∧ b3 = c3 ∧ 3 < n') ∨ (¬ (3 < n ∧ b3 / 64 = 2) ∧ ¬ (3 < n' ∧ c3 / 64 = 2))) : Lib.decodeN n b0 b1 b2 b3 = Lib.decodeN n' b0 c1 c2 c3 := by
  rcases h1 with ⟨a1, rfl, d1⟩ | ⟨a1, d1⟩
  · rcases h2 with ⟨a2, rfl, d2⟩ | ⟨a2, d2⟩
    · rcases h3 with ⟨a3, rfl, d3⟩ | ⟨a3, d3⟩
      · unfold Lib.decodeN; simp only [a1, a2, a3, d1, d2, d3]
      · unfold Lib.decodeN; simp only [a1, a2, a3, d1, d2, d3]; simp
    · unfold Lib.decodeN; simp only [a1, a2, d1, d2]; simp
  · unfold Lib.decodeN; simp only [a1, d1]; simp

theorem dec_app_run (a : ByteArray) (c k p : Nat) (hc : c < 128) (hp : p < a.size) : Utf8.decode (a ++ run c k) p = Utf8.decode a p := by
  rw [Lib.decode_at, Lib.decode_at]
  have hz : (a ++ run c k).size = a.size + k := by rw [app_size, run_size]
  have e0 : ((a ++ run c k).get! p).toNat = (a.get! p).toNat := get_app_left a _ p hp
  rw [e0]
  apply decodeN_same
  · by_cases h : p + 1 < a.size
    · exact .inl ⟨by omega, get_app_left a _ (p + 1) h, by omega⟩
    · have := get_app_run a c k (p + 1) hc (by omega)
      unfold bt at this
      exact .inr ⟨by omega, by omega⟩
  · by_cases h : p + 2 < a.size
    · exact .inl ⟨by omega, get_app_left a _ (p + 2) h, by omega⟩
    · have := get_app_run a c k (p + 2) hc (by omega)
      unfold bt at this
      exact .inr ⟨by omega, by omega⟩
  · by_cases h : p + 3 < a.size
    · exact .inl ⟨by omega, get_app_left a _ (p + 3) h, by omega⟩
    · have := get_app_run a c k (p + 3) hc (by omega)
      unfold bt at this
      exact .inr ⟨by omega, by omega⟩
theorem dec_ascii (s : ByteArray) (p : Nat) (h : bt s p < 128) : Utf8.decode s p = (bt s p, 1) := by
  rw [Lib.decode_at]
  unfold Lib.decodeN
  unfold bt at h ⊢
  rw [if_pos h]

theorem cnt_tail_run (a : ByteArray) (c k : Nat) (hc : c < 128) : ∀ (d p : Nat), a.size ≤ p → p + d = a.size + k → cntFrom (a ++ run c k) p = d
  | 0, p, _, h => cntFrom_end _ p (by rw [app_size, run_size]; omega)
  | d + 1, p, h1, h2 => by
    have hb := get_app_run a c k p hc h1
    rw [cntFrom_step _ p (by rw [app_size, run_size]; omega), dec_ascii _ p hb, cnt_tail_run a c k hc d (p + 1) (by omega) (by omega)]
    omega
theorem cnt_app_from (a : ByteArray) (c k : Nat) (hc : c < 128) : ∀ (d p : Nat), p ≤ a.size → a.size - p ≤ d → cntFrom (a ++ run c k) p = cntFrom a p + k
  | d, p, h1, h2 => by
    by_cases hp : p < a.size
    · rw [cntFrom_step _ p (by rw [app_size]; omega), cntFrom_step a p hp, dec_app_run a c k p hc hp]
      have hw := wid_pos a p
      have hl := wid_le a p hp
      match d, h2 with
      | 0, h2 => omega
      | d + 1, h2 =>
        rw [cnt_app_from a c k hc d _ hl (by omega)]
        omega
    · rw [cnt_tail_run a c k hc k p (by omega) (by omega), cntFrom_end a p hp]
      omega
theorem cnt_app_run (a : ByteArray) (c k : Nat) (hc : c < 128) : cntR (a ++ run c k) = cntR a + k := cnt_app_from a c k hc a.size 0 (Nat.zero_le _) (by omega)

theorem run_app_tail (c k : Nat) (a : ByteArray) : (run c k ++ a).extract k (run c k ++ a).size = a := by
  apply ByteArray.ext
  apply Array.ext'
  rw [tail_list, app_list, run_list]
  simp
theorem bt_run (c k i : Nat) (a : ByteArray) (hc : c < 256) (hi : i < k) : bt (run c k ++ a) i = c := by
  unfold bt
  rw [← Lib.getD_get!', app_list, run_list]
  simp only [List.getD]
  rw [List.getElem?_append_left (by simpa using hi), List.getElem?_replicate, if_pos hi]
  simp
  omega
theorem cnt_run_from (c k : Nat) (a : ByteArray) (hc : c < 128) : ∀ (d p : Nat), p + d = k → cntFrom (run c k ++ a) p = d + cntR a
  | 0, p, h => by
    have : p = k := by omega
    subst this
    rw [← cntR_tail, run_app_tail]; omega
  | d + 1, p, h => by
    have e := bt_run c k p a (by omega) (by omega)
    rw [cntFrom_step _ p (by rw [app_size, run_size]; omega), dec_ascii _ p (by rw [e]; exact hc), cnt_run_from c k a hc d (p + 1) (by omega)]
    omega
theorem cnt_run_app (c k : Nat) (a : ByteArray) (hc : c < 128) : cntR (run c k ++ a) = k + cntR a := cnt_run_from c k a hc k 0 (Nat.zero_add _)
theorem app_head (a b : ByteArray) : (a ++ b).extract 0 a.size = a := by
  apply ByteArray.ext
  apply Array.ext'
  rw [ext_list, app_list, Lib.size_eq a, List.take_left]
theorem app_rest (a b : ByteArray) : (a ++ b).extract a.size (a ++ b).size = b := by
  apply ByteArray.ext
  apply Array.ext'
  rw [tail_list, app_list, Lib.size_eq a, List.drop_left]

theorem run_get (c k i : Nat) (hc : c < 256) (h : i < (run c k).size) : ((run c k)[i]'h).toNat = c := by
  rw [bt_at]
  unfold bt
  rw [run_size] at h
  rw [← Lib.getD_get!', run_list]
  simp only [List.getD]
  rw [List.getElem?_replicate, if_pos h]
  simp
  omega
/-- How much is lacking. -/
def lack (s : ByteArray) (wid : Int) : Nat := wdt ((wdt wid : Nat) - (cntR s : Nat) : Int)
theorem lack_max (s : ByteArray) (wid : Int) : max (cntR s : Int) (min wid 1000) = ((cntR s + lack s wid : Nat) : Int) := by
  unfold lack wdt; omega
theorem lack_le (s : ByteArray) (wid : Int) : lack s wid ≤ 1000 := wdt_le _
end Go.Proofs.YthbabhbfpcfenaaGreatDoor

/- More plain mathematics: the first runes of a text and the rest; what is read of a text that begins with a written code point. -/
namespace Go.Proofs.YthbabhbfpcfenaaGreatDoor
open Go.RowKit

set_option maxHeartbeats 1000000 in
theorem decodeN_trunc (n n' b0 b1 b2 b3 c1 c2 c3 : Nat) (hn : n' ≤ n) (h1 : 1 < n' → c1 = b1) (h2 : 2 < n' → c2 = b2) (h3 : 3 < n' → c3 = b3)
    (hw : (Lib.decodeN n b0 b1 b2 b3).2 ≤ n') : Lib.decodeN n' b0 c1 c2 c3 = Lib.decodeN n b0 b1 b2 b3 := by
  rcases Lib.decodeN_shape n b0 b1 b2 b3 with ⟨c, e⟩ | ⟨d1, d2, d3, cv, e⟩ | ⟨d1, d2, d3, d4, cv, cs, e⟩ | ⟨d1, d2, d3, d4, d5, cv, cw, e⟩ | e
  · rw [e]; unfold Lib.decodeN; rw [if_pos c]
  · rw [e] at hw ⊢
    dsimp only at hw
    have g1 := h1 (by omega)
    subst g1
    unfold Lib.decodeN
    rw [if_neg (by omega), if_pos (by omega), if_pos (by omega)]
  · rw [e] at hw ⊢
    dsimp only at hw
    have g1 := h1 (by omega)
    have g2 := h2 (by omega)
    subst g1 g2
    unfold Lib.decodeN
    rw [if_neg (by omega), if_neg (by omega), if_pos (by omega), if_pos (by omega)]
  · rw [e] at hw ⊢
    dsimp only at hw
    have g1 := h1 (by omega)
    have g2 := h2 (by omega)
    have g3 := h3 (by omega)
    subst g1 g2 g3
    unfold Lib.decodeN
    rw [if_neg (by omega), if_neg (by omega), if_neg (by omega), if_pos (by omega), if_pos (by omega)]
  · rcases Lib.decodeN_shape n' b0 c1 c2 c3 with ⟨c, e'⟩ | ⟨d1, d2, d3, cv, e'⟩ | ⟨d1, d2, d3, d4, cv, cs, e'⟩ | ⟨d1, d2, d3, d4, d5, cv, cw, e'⟩ | e'
    · exfalso
      have : Lib.decodeN n b0 b1 b2 b3 = (b0, 1) := by unfold Lib.decodeN; rw [if_pos c]
      rw [e] at this
      have := congrArg Prod.fst this
      dsimp only at this
      omega
    · exfalso
      have g1 := h1 d2
      subst g1
      have : Lib.decodeN n b0 c1 b2 b3 = (b0 % 32 * 64 + c1 % 64, 2) := by
        unfold Lib.decodeN
        rw [if_neg (by omega), if_pos (by omega), if_pos (by omega)]
      rw [e] at this
      have := congrArg Prod.snd this
      dsimp only at this
      omega
    · exfalso
      have g1 := h1 (by omega)
      have g2 := h2 d2
      subst g1 g2
      have : Lib.decodeN n b0 c1 c2 b3 = (b0 % 16 * 4096 + c1 % 64 * 64 + c2 % 64, 3) := by
        unfold Lib.decodeN
        rw [if_neg (by omega), if_neg (by omega), if_pos (by omega), if_pos (by omega)]
      rw [e] at this
      have := congrArg Prod.snd this
      dsimp only at this
      omega
    · exfalso
      have g1 := h1 (by omega)
      have g2 := h2 (by omega)
      have g3 := h3 d2
      subst g1 g2 g3
      have : Lib.decodeN n b0 c1 c2 c3 = (b0 % 8 * 262144 + c1 % 64 * 4096 + c2 % 64 * 64 + c3 % 64, 4) := by
        unfold Lib.decodeN
        rw [if_neg (by omega), if_neg (by omega), if_neg (by omega), if_pos (by omega), if_pos (by omega)]
      rw [e] at this
      have := congrArg Prod.snd this
      dsimp only at this
      omega
    · rw [e, e']

theorem head_size (u : ByteArray) (P : Nat) (h : P ≤ u.size) : (u.extract 0 P).size = P := by
  rw [ByteArray.size_extract]; omega
theorem bt_head (u : ByteArray) (P i : Nat) (hi : i < P) : bt (u.extract 0 P) i = bt u i := by
  unfold bt
  rw [← Lib.getD_get!', ← Lib.getD_get!', ext_list]
  simp only [List.getD, List.getElem?_take, if_pos hi]
theorem dec_head (u : ByteArray) (P p : Nat) (hP : P ≤ u.size) (hp : p < P) (hw : p + (Utf8.decode u p).2 ≤ P) : Utf8.decode (u.extract 0 P) p = Utf8.decode u p := by
  have hz := head_size u P hP
  rw [Lib.decode_at] at hw
  rw [Lib.decode_at, Lib.decode_at, hz]
  have e0 : ((u.extract 0 P).get! p).toNat = (u.get! p).toNat := bt_head u P p hp
  rw [e0]
  apply decodeN_trunc
  · omega
  · intro h; exact bt_head u P (p + 1) (by omega)
  · intro h; exact bt_head u P (p + 2) (by omega)
  · intro h; exact bt_head u P (p + 3) (by omega)
  · omega
theorem posGo_ge (u : ByteArray) : ∀ (N p : Nat), p ≤ posGo u N p
  | 0, p => Nat.le_refl _
  | N + 1, p => by
    by_cases hp : p < u.size
    · rw [posGo_step u N p hp]
      have := posGo_ge u N (p + (Utf8.decode u p).2)
      omega
    · rw [posGo_end u _ p hp]; exact Nat.le_refl _
theorem cnt_rest (u : ByteArray) : ∀ (N p : Nat), cntFrom u (posGo u N p) + min N (cntFrom u p) = cntFrom u p
  | 0, p => by simp [posGo]
  | N + 1, p => by
    by_cases hp : p < u.size
    · rw [posGo_step u N p hp, cntFrom_step u p hp]
      have := cnt_rest u N (p + (Utf8.decode u p).2)
      omega
    · rw [posGo_end u _ p hp, cntFrom_end u p hp]; omega
theorem cnt_head (u : ByteArray) : ∀ (N p P : Nat), p ≤ u.size → P = posGo u N p → cntFrom (u.extract 0 P) p = min N (cntFrom u p)
  | 0, p, P, h, e => by
    have : P = p := e
    subst this
    rw [cntFrom_end _ _ (by rw [head_size u P h]; omega)]
    omega
  | N + 1, p, P, h, e => by
    have hPl : P ≤ u.size := by rw [e]; exact posGo_le u _ p h
    by_cases hp : p < u.size
    · rw [posGo_step u N p hp] at e
      have hge := posGo_ge u N (p + (Utf8.decode u p).2)
      have hw := wid_pos u p
      have hl := wid_le u p hp
      rw [← e] at hge
      rw [cntFrom_step _ p (by rw [head_size u P hPl]; omega), dec_head u P p hPl (by omega) hge, cnt_head u N _ P hl e, cntFrom_step u p hp]
      omega
    · rw [posGo_end u _ p hp] at e
      subst e
      rw [cntFrom_end _ _ (by rw [head_size u P h]; omega), cntFrom_end u _ hp]
      omega

/-- What is cut off and the rest. -/
theorem cut_facts (u : ByteArray) (n : Int) : (cutS u n).size ≤ u.size ∧ u.extract 0 (cutS u n).size = cutS u n ∧
    (0 ≤ n → min n (cntR u : Int) = (cntR (cutS u n) : Nat)) ∧ (n < 0 → cntR (cutS u n) = cntR u) ∧ cntR (u.extract (cutS u n).size u.size) + cntR (cutS u n) = cntR u := by
  by_cases hn : n < 0
  · have e : cutS u n = u := by unfold cutS; rw [if_pos hn]
    rw [e]
    refine ⟨Nat.le_refl _, extract_all u, fun h => by omega, fun _ => rfl, ?_⟩
    rw [cntR_tail, cntFrom_end u _ (by omega)]; omega
  · have e : cutS u n = u.extract 0 (posGo u n.toNat 0) := by unfold cutS; rw [if_neg hn]
    have hPl := posGo_le u n.toNat 0 (Nat.zero_le _)
    have hz := head_size u _ hPl
    have hc : cntR (cutS u n) = min n.toNat (cntR u) := by
      rw [e]; exact cnt_head u n.toNat 0 _ (Nat.zero_le _) rfl
    have hr := cnt_rest u n.toNat 0
    refine ⟨by rw [e, hz]; exact hPl, by rw [e, hz], fun h => by rw [hc]; omega, fun h => by omega, ?_⟩
    rw [cntR_tail, hc, e, hz]
    exact hr

theorem back_dec (c : Int) (s : ByteArray) : dec (Utf8.encode c ++ s) = (pt c, (Utf8.encode c).size) := by
  have hv := pt_valid c
  have hz : 0 < (Utf8.encode c ++ s).size := by
    rw [app_size, enc_pt c, enc_lib _ hv, strOfNums_size]
    have := (Lib.encodeRuneZ_length (pt c : Int)).1
    omega
  rw [dec_ne _ hz, dec_begins _ (pt c) hv s.data.toList (by rw [app_list, enc_pt c]), ← enc_pt c]
theorem enc_size_le (c : Int) : (Utf8.encode c).size ≤ 4 := by
  rw [enc_pt c, enc_lib _ (pt_valid c), strOfNums_size]
  exact (Lib.encodeRuneZ_length (pt c : Int)).2
end Go.Proofs.YthbabhbfpcfenaaGreatDoor

/- More plain mathematics: a broken rune. -/
namespace Go.Proofs.YthbabhbfpcfenaaGreatDoor
open Go.RowKit
/-- Is the first rune broken? -/
def brk (d : Nat × Nat) : Bool := d.1 == 65533 && d.2 == 1
theorem brk_try (s : ByteArray) (m n : Nat) (h : tryN s m n) : brk (cnd s m (n - 1), n) = false := by
  obtain ⟨hv, he⟩ := h
  cases hb : brk (cnd s m (n - 1), n) with
  | false => rfl
  | true =>
    exfalso
    simp only [brk, Bool.and_eq_true, beq_iff_eq] at hb
    obtain ⟨h1, h2⟩ := hb
    rw [h1] at hv he
    have hz := congrArg ByteArray.size he
    rw [enc3 65533 hv (by omega) (by omega), ByteArray.size_extract] at hz
    have : (ByteArray.mk #[UInt8.ofNat (224 + 65533 / 4096), UInt8.ofNat (128 + 65533 / 64 % 64), UInt8.ofNat (128 + 65533 % 64)]).size = 3 := rfl
    omega
end Go.Proofs.YthbabhbfpcfenaaGreatDoor

/- Plain mathematics of quoting: what stands for a rune between quotes. -/
namespace Go.Proofs.YthbabhbfpcfenaaGreatDoor
open Go.RowKit

theorem list_len (s : ByteArray) : s.data.toList.length = s.size := (Lib.size_eq s).symm
/-- May a code point stand in quotes as it is? -/
def plainP (c : Int) : Bool := decide ((32 ≤ c ∧ c ≤ 126) ∨ (161 ≤ c ∧ c ≤ 55295 ∧ c ≠ 173) ∨ (57344 ≤ c ∧ c ≤ 65532) ∨ (65536 ≤ c ∧ c ≤ 1114111))
theorem plainP_iff (c : Int) : plainP c = true ↔ ((32 ≤ c ∧ c ≤ 126) ∨ (161 ≤ c ∧ c ≤ 55295 ∧ c ≠ 173) ∨ (57344 ≤ c ∧ c ≤ 65532) ∨ (65536 ≤ c ∧ c ≤ 1114111)) := by
  unfold plainP; exact decide_eq_true_iff
theorem plainP_not (c : Int) : plainP c = false ↔ ¬ ((32 ≤ c ∧ c ≤ 126) ∨ (161 ≤ c ∧ c ≤ 55295 ∧ c ≠ 173) ∨ (57344 ≤ c ∧ c ≤ 65532) ∨ (65536 ≤ c ∧ c ≤ 1114111)) := by
  unfold plainP; exact decide_eq_false_iff_not

/-- A hexadecimal digit. -/
def hexN (g : Bool) (n : Nat) : Nat := if n < 10 then 48 + n else if g then 55 + n else 87 + n
def hexB (g : Bool) (n : Nat) : UInt8 := UInt8.ofNat (hexN g n)
/-- A number in so many digits. -/
def hexL : Nat → Nat → List UInt8
  | _, 0 => []
  | n, k + 1 => hexL (n / 16) k ++ [hexB false (n % 16)]
theorem hexL_len : ∀ (k n : Nat), (hexL n k).length = k
  | 0, _ => rfl
  | k + 1, n => by simp [hexL, hexL_len k]
theorem hexL_more (c k m : Nat) (h : m + 1 ≤ k) : hexL (c / 16 ^ m) (k - m) = hexL (c / 16 ^ (m + 1)) (k - (m + 1)) ++ [hexB false (c / 16 ^ m % 16)] := by
  obtain ⟨j, hj⟩ : ∃ j, k - m = j + 1 := ⟨k - m - 1, by omega⟩
  rw [hj, show k - (m + 1) = j by omega]
  simp only [hexL]
  rw [Nat.div_div_eq_div_mul, Nat.pow_succ]
/-- The letters of the code points from 7 to 13. -/
def escT : Nat → Nat
  | 0 => 97
  | 1 => 98
  | 2 => 116
  | 3 => 110
  | 4 => 118
  | 5 => 102
  | _ => 114
/-- A code point between two quotes q. -/
def inL (c q : Nat) (a : Bool) : List UInt8 :=
  if c = q ∨ c = 92 then [92, UInt8.ofNat c]
  else if 7 ≤ c ∧ c ≤ 13 then [92, UInt8.ofNat (escT (c - 7))]
  else if plainP c = true ∧ (c ≤ 126 ∨ a = false) then (Utf8.encode (c : Int)).data.toList
  else if c < 128 then 92 :: 120 :: hexL c 2
  else if c ≤ 65535 then 92 :: 117 :: hexL c 4
  else 92 :: 85 :: hexL c 8
/-- The first rune of a text between double quotes. -/
def itemL (a : Bool) (l : List UInt8) : List UInt8 :=
  if brk (Lib.decodeL l) = true then 92 :: 120 :: hexL (l.getD 0 0).toNat 2 else inL (Lib.decodeL l).1 34 a
def quoG (a : Bool) : Nat → List UInt8 → List UInt8
  | 0, _ => []
  | f + 1, l => if l = [] then [] else itemL a l ++ quoG a f (l.drop (Lib.decodeL l).2)
/-- A text's runes between double quotes. -/
def quoI (a : Bool) (l : List UInt8) : List UInt8 := quoG a l.length l
def quoS (s : ByteArray) (a : Bool) : ByteArray := ⟨(34 :: (quoI a s.data.toList ++ [34])).toArray⟩
theorem quoG_fuel (a : Bool) : ∀ (f g : Nat) (l : List UInt8), l.length ≤ f → l.length ≤ g → quoG a f l = quoG a g l
  | 0, 0, _, _, _ => rfl
  | 0, g + 1, l, h, _ => by
    have : l = [] := List.eq_nil_of_length_eq_zero (by omega)
    simp [quoG, this]
  | f + 1, 0, l, _, h => by
    have : l = [] := List.eq_nil_of_length_eq_zero (by omega)
    simp [quoG, this]
  | f + 1, g + 1, l, h1, h2 => by
    by_cases hl : l = []
    · simp [quoG, hl]
    · have hw := Lib.decodeL_width l
      have hn : l.length ≠ 0 := fun h => hl (List.eq_nil_of_length_eq_zero h)
      simp only [quoG, if_neg hl]
      rw [quoG_fuel a f g _ (by rw [List.length_drop]; omega) (by rw [List.length_drop]; omega)]
theorem quoI_nil (a : Bool) : quoI a [] = [] := rfl
theorem quoI_step (a : Bool) (l : List UInt8) (hl : l ≠ []) : quoI a l = itemL a l ++ quoI a (l.drop (Lib.decodeL l).2) := by
  have hw := Lib.decodeL_width l
  have hn : l.length ≠ 0 := fun h => hl (List.eq_nil_of_length_eq_zero h)
  unfold quoI
  obtain ⟨f, hf⟩ : ∃ f, l.length = f + 1 := ⟨l.length - 1, by omega⟩
  rw [hf]
  simp only [quoG, if_neg hl]
  rw [quoG_fuel a f _ _ (by rw [List.length_drop]; omega) (Nat.le_refl _)]
theorem enc_len (c : Nat) : (Utf8.encode (c : Int)).data.toList.length ≤ 4 := by
  have := enc_size_le (c : Int)
  rw [list_len]
  exact this
theorem inL_len (c q : Nat) (a : Bool) : (inL c q a).length ≤ 10 := by
  have := enc_len c
  unfold inL
  split
  · simp
  · split
    · simp
    · split
      · omega
      · split
        · simp [hexL_len]
        · split <;> simp [hexL_len]
theorem itemL_len (a : Bool) (l : List UInt8) : (itemL a l).length ≤ 10 := by
  unfold itemL
  split
  · simp [hexL_len]
  · exact inL_len _ _ _
theorem quoI_len (a : Bool) : ∀ (n : Nat) (l : List UInt8), l.length ≤ n → (quoI a l).length ≤ 10 * l.length
  | 0, l, h => by
    have : l = [] := List.eq_nil_of_length_eq_zero (by omega)
    subst this; simp [quoI_nil]
  | n + 1, l, h => by
    by_cases hl : l = []
    · subst hl; simp [quoI_nil]
    · have hw := Lib.decodeL_width l
      have hle := Lib.decodeL_le l hl
      have hn : l.length ≠ 0 := fun h => hl (List.eq_nil_of_length_eq_zero h)
      rw [quoI_step a l hl, List.length_append]
      have h1 := itemL_len a l
      have h2 := quoI_len a n (l.drop (Lib.decodeL l).2) (by rw [List.length_drop]; omega)
      rw [List.length_drop] at h2
      omega
theorem quoS_size (s : ByteArray) (a : Bool) : (quoS s a).size ≤ 10 * s.size + 2 := by
  have h := quoI_len a s.size s.data.toList (by rw [list_len]; exact Nat.le_refl _)
  rw [list_len] at h
  show (34 :: (quoI a s.data.toList ++ [34])).toArray.size ≤ _
  simp
  omega
theorem ba_app (a b : List UInt8) : (⟨a.toArray⟩ : ByteArray) ++ ⟨b.toArray⟩ = ⟨(a ++ b).toArray⟩ := by
  apply ByteArray.ext
  rw [ByteArray.data_append]
  simp
theorem ba_list (s : ByteArray) : (⟨s.data.toList.toArray⟩ : ByteArray) = s := by
  apply ByteArray.ext; simp
theorem ba_inj {a b : List UInt8} (h : (⟨a.toArray⟩ : ByteArray) = ⟨b.toArray⟩) : a = b := by
  have := congrArg (fun x => x.data.toList) h
  simpa using this
theorem dec_tail_list (s : ByteArray) (p : Nat) : Lib.decodeL (s.data.toList.drop p) = Utf8.decode s p := Lib.decodeL_drop s p
end Go.Proofs.YthbabhbfpcfenaaGreatDoor

/- Plain mathematics of layer 3: a number's digits to a base. -/
namespace Go.Proofs.YthbabhbfpcfenaaGreatDoor
open Go.RowKit

/-- The digits of a number above 0 to a base (of 0: none); so many at most. -/
def digF (g : Bool) (b : Nat) : Nat → Nat → List UInt8
  | 0, _ => []
  | f + 1, m => if m = 0 then [] else digF g b f (m / b) ++ [hexB g (m % b)]
def digP (g : Bool) (b m : Nat) : List UInt8 := digF g b 64 m
/-- The digits of a number, 0 among them. -/
def digS (g : Bool) (b n : Nat) : List UInt8 := digP g b (n / b) ++ [hexB g (n % b)]

theorem digF_fuel (g : Bool) (b : Nat) (hb : 2 ≤ b) : ∀ (f h m : Nat), m < 2 ^ f → m < 2 ^ h → digF g b f m = digF g b h m
  | 0, 0, _, _, _ => rfl
  | 0, h + 1, m, hf, _ => by
    have : m = 0 := by simp at hf; omega
    simp [digF, this]
  | f + 1, 0, m, _, hh => by
    have : m = 0 := by simp at hh; omega
    simp [digF, this]
  | f + 1, h + 1, m, hf, hh => by
    by_cases hm : m = 0
    · simp [digF, hm]
    · simp only [digF, if_neg hm]
      have hd : m / b ≤ m / 2 := Nat.div_le_div_left hb (by omega)
      rw [digF_fuel g b hb f h (m / b) (by rw [Nat.pow_succ] at hf; omega) (by rw [Nat.pow_succ] at hh; omega)]
theorem digP_zero (g : Bool) (b : Nat) : digP g b 0 = [] := by simp [digP, digF]
theorem digF_succ (g : Bool) (b f m : Nat) : digF g b (f + 1) m = if m = 0 then [] else digF g b f (m / b) ++ [hexB g (m % b)] := rfl
theorem digP_step (g : Bool) (b m : Nat) (hb : 2 ≤ b) (h0 : m ≠ 0) (hm : m < 2 ^ 64) : digP g b m = digP g b (m / b) ++ [hexB g (m % b)] := by
  have hd : m / b ≤ m / 2 := Nat.div_le_div_left hb (by omega)
  have e : digF g b 63 (m / b) = digF g b 64 (m / b) := digF_fuel g b hb 63 64 _ (by have : (2 : Nat) ^ 64 = 2 * 2 ^ 63 := by decide
                                                                                     omega) (by omega)
  have e0 := digF_succ g b 63 m
  rw [if_neg h0, e] at e0
  exact e0
theorem digS_pos (g : Bool) (b n : Nat) (hb : 2 ≤ b) (h0 : n ≠ 0) (hn : n < 2 ^ 64) : digS g b n = digP g b n := (digP_step g b n hb h0 hn).symm
theorem digF_len (g : Bool) (b : Nat) : ∀ (f m : Nat), (digF g b f m).length ≤ f
  | 0, _ => by simp [digF]
  | f + 1, m => by
    have := digF_len g b f (m / b)
    simp only [digF]
    split
    · simp
    · simp; omega
theorem digP_len (g : Bool) (b m : Nat) : (digP g b m).length ≤ 64 := digF_len g b 64 m
theorem digS_len (g : Bool) (b n : Nat) : (digS g b n).length ≤ 65 := by
  have := digP_len g b (n / b)
  simp [digS]; omega
theorem digS_ne (g : Bool) (b n : Nat) : digS g b n ≠ [] := by simp [digS]
theorem digS_len1 (g : Bool) (b n : Nat) : 1 ≤ (digS g b n).length := by simp [digS]
/-- All of them are digits. -/
theorem digF_mem (g : Bool) (b : Nat) (hb : 0 < b) : ∀ (f m : Nat) (x : UInt8), x ∈ digF g b f m → ∃ d, d < b ∧ x = hexB g d
  | 0, _, x, h => by simp [digF] at h
  | f + 1, m, x, h => by
    simp only [digF] at h
    split at h
    · simp at h
    · rcases List.mem_append.1 h with h | h
      · exact digF_mem g b hb f _ x h
      · exact ⟨m % b, Nat.mod_lt _ hb, by simpa using h⟩
theorem digS_mem (g : Bool) (b n : Nat) (hb : 0 < b) (x : UInt8) (h : x ∈ digS g b n) : ∃ d, d < b ∧ x = hexB g d := by
  rcases List.mem_append.1 h with h | h
  · exact digF_mem g b hb 64 _ x h
  · exact ⟨n % b, Nat.mod_lt _ hb, by simpa using h⟩
/-- Great letters. -/
theorem upper_hex (d : Nat) (h : d < 16) : Lib.upperB (hexB false d) = hexB true d := by
  have : ∀ i : Fin 16, Lib.upperB (hexB false i.val) = hexB true i.val := by decide
  exact this ⟨d, h⟩
theorem upperA_digF (b : Nat) (hb : 0 < b) (h16 : b ≤ 16) : ∀ (f m : Nat), Lib.toUpperA (digF false b f m) = digF true b f m
  | 0, _ => rfl
  | f + 1, m => by
    have ih := upperA_digF b hb h16 f (m / b)
    have hlt := Nat.mod_lt m hb
    simp only [digF]
    split
    · rfl
    · simp only [Lib.toUpperA, List.map_append, List.map_cons, List.map_nil] at ih ⊢
      rw [ih, upper_hex _ (by omega)]
theorem upperA_digS (b n : Nat) (hb : 0 < b) (h16 : b ≤ 16) : Lib.toUpperA (digS false b n) = digS true b n := by
  have hlt := Nat.mod_lt n hb
  have ih := upperA_digF b hb h16 64 (n / b)
  unfold digS digP
  simp only [Lib.toUpperA, List.map_append, List.map_cons, List.map_nil] at ih ⊢
  rw [ih, upper_hex _ (by omega)]
theorem hexB_ascii (g : Bool) (d : Nat) (h : d < 16) : (hexB g d).toNat < 128 := by
  have : ∀ i : Fin 16, (hexB false i.val).toNat < 128 ∧ (hexB true i.val).toNat < 128 := by decide
  have := this ⟨d, h⟩
  cases g
  · exact this.1
  · exact this.2
theorem digS_ascii (g : Bool) (b n : Nat) (hb : 0 < b) (h16 : b ≤ 16) (x : UInt8) (h : x ∈ digS g b n) : x.toNat < 128 := by
  obtain ⟨d, hd, rfl⟩ := digS_mem g b n hb x h
  exact hexB_ascii g d (by omega)
/-- The number of a row of digits. -/
def valL (b : Nat) (f : UInt8 → Nat) (l : List UInt8) : Nat := l.foldl (fun n x => n * b + f x) 0
theorem valL_snoc (b : Nat) (f : UInt8 → Nat) (l : List UInt8) (x : UInt8) : valL b f (l ++ [x]) = valL b f l * b + f x := by simp [valL]
theorem valL_digF (g : Bool) (b : Nat) (f : UInt8 → Nat) (hb : 2 ≤ b) (hf : ∀ d, d < b → f (hexB g d) = d) : ∀ (k m : Nat), m < 2 ^ k → valL b f (digF g b k m) = m
  | 0, m, h => by
    have : m = 0 := by simp at h; omega
    subst this; rfl
  | k + 1, m, h => by
    simp only [digF]
    split
    · rename_i h0; subst h0; rfl
    · have hd : m / b ≤ m / 2 := Nat.div_le_div_left hb (by omega)
      rw [valL_snoc, valL_digF g b f hb hf k (m / b) (by rw [Nat.pow_succ] at h; omega), hf _ (Nat.mod_lt _ (by omega))]
      rw [Nat.mul_comm]; exact Nat.div_add_mod m b
theorem valL_digS (g : Bool) (b n : Nat) (f : UInt8 → Nat) (hb : 2 ≤ b) (hf : ∀ d, d < b → f (hexB g d) = d) (hn : n < 2 ^ 64) : valL b f (digS g b n) = n := by
  have hd : n / b ≤ n / 2 := Nat.div_le_div_left hb (by omega)
  unfold digS
  rw [valL_snoc]
  show valL b f (digF g b 64 (n / b)) * b + _ = n
  rw [valL_digF g b f hb hf 64 (n / b) (by omega), hf _ (Nat.mod_lt _ (by omega)), Nat.mul_comm]
  exact Nat.div_add_mod n b
end Go.Proofs.YthbabhbfpcfenaaGreatDoor

/- Plain mathematics of layer 3: what is written of a number. -/
namespace Go.Proofs.YthbabhbfpcfenaaGreatDoor
open Go.RowKit

/-- Noughts ahead, until there are so many. -/
def lenS (s : ByteArray) (n : Int) : ByteArray := run 48 (wdt (n - (s.size : Nat))) ++ s
theorem lenS_size (s : ByteArray) (n : Int) : (lenS s n).size ≤ s.size + 1000 ∧ s.size ≤ (lenS s n).size := by
  have := wdt_le (n - (s.size : Nat))
  unfold lenS
  rw [app_size, run_size]; omega
def digT (g : Bool) (b n : Nat) : ByteArray := ⟨(digS g b n).toArray⟩
theorem digT_size (g : Bool) (b n : Nat) : (digT g b n).size ≤ 65 ∧ 1 ≤ (digT g b n).size := by
  have h1 := digS_len g b n
  have h2 := digS_len1 g b n
  have h3 : (digT g b n).size = (digS g b n).length := by simp [digT, ByteArray.size]
  omega
/-- The digits that a spec asks for. -/
def digBy (size b : Nat) (prec verb : Int) : ByteArray := if size = 0 ∧ prec = 0 then ⟨#[]⟩ else lenS (digT (decide (verb = 88)) b size) (wdt prec : Nat)
theorem digBy_size (size b : Nat) (prec verb : Int) : (digBy size b prec verb).size ≤ 2000 := by
  have h1 := digT_size (decide (verb = 88)) b size
  have h2 := lenS_size (digT (decide (verb = 88)) b size) (wdt prec : Nat)
  unfold digBy
  split
  · exact Nat.zero_le _
  · omega
/-- What tells the base of digits. -/
def markB (d : ByteArray) (sh : Bool) (verb : Int) : ByteArray :=
  if verb = 79 then ⟨#[48, 111]⟩ else if sh = false then ⟨#[]⟩ else if verb = 98 then ⟨#[48, 98]⟩ else if verb = 111 then (if bt d 0 = 48 then ⟨#[]⟩ else ⟨#[48]⟩) else if verb = 120 then ⟨#[48, 120]⟩ else if verb = 88 then ⟨#[48, 88]⟩ else ⟨#[]⟩
theorem markB_size (d : ByteArray) (sh : Bool) (verb : Int) : (markB d sh verb).size ≤ 2 := by
  unfold markB
  repeat' split
  all_goals decide
/-- The digits, lengthened to a width where noughts fill it. -/
def widD (d : ByteArray) (a : Nat) (mi z : Bool) (wid prec : Int) : ByteArray := if z = true ∧ mi = false ∧ prec < 0 then lenS d ((wdt wid : Nat) - (a : Nat)) else d
theorem widD_size (d : ByteArray) (a : Nat) (mi z : Bool) (wid prec : Int) : (widD d a mi z wid prec).size ≤ d.size + 1000 := by
  have := lenS_size d ((wdt wid : Nat) - (a : Nat))
  unfold widD
  split <;> omega
/-- A number to a base, ahead of the blanks. -/
def coreB (size b : Nat) (sign : ByteArray) (mi sh z : Bool) (wid prec verb : Int) : ByteArray :=
  if (digBy size b prec verb).size = 0 then ⟨#[]⟩ else (sign ++ markB (digBy size b prec verb) sh verb) ++ widD (digBy size b prec verb) (sign ++ markB (digBy size b prec verb) sh verb).size mi z wid prec
theorem coreB_size (size b : Nat) (sign : ByteArray) (mi sh z : Bool) (wid prec verb : Int) (hs : sign.size ≤ 1) : (coreB size b sign mi sh z wid prec verb).size ≤ 4000 := by
  have h1 := digBy_size size b prec verb
  have h2 := markB_size (digBy size b prec verb) sh verb
  have h3 := widD_size (digBy size b prec verb) (sign ++ markB (digBy size b prec verb) sh verb).size mi z wid prec
  unfold coreB
  split
  · exact Nat.zero_le _
  · rw [app_size, app_size] at *; omega
/-- The code point that 64 bits are. -/
def ptN (bits : Nat) : Nat := if 1114111 < bits then 65533 else bits
theorem ptN_le (bits : Nat) : ptN bits ≤ 1114111 := by unfold ptN; split <;> omega
/-- A code point's name. -/
def nameA (bits : Nat) (prec : Int) : ByteArray := (⟨#[85, 43]⟩ : ByteArray) ++ lenS (digT true 16 bits) (max 4 (wdt prec : Nat))
def nameS (bits : Nat) (sh : Bool) (prec : Int) : ByteArray := if sh = true ∧ plainP (ptN bits : Int) = true then ((nameA bits prec ++ ⟨#[32, 39]⟩) ++ Utf8.encode (ptN bits : Int)) ++ ⟨#[39]⟩ else nameA bits prec
theorem nameA_size (bits : Nat) (prec : Int) : (nameA bits prec).size ≤ 1100 := by
  have h1 := digT_size true 16 bits
  have h2 := lenS_size (digT true 16 bits) (max 4 (wdt prec : Nat))
  have h3 : (⟨#[85, 43]⟩ : ByteArray).size = 2 := rfl
  unfold nameA
  rw [app_size]; omega
theorem enc_size4 (c : Nat) : (Utf8.encode (c : Int)).size ≤ 4 := by
  have := enc_len c
  rw [list_len] at this; exact this
theorem nameS_size (bits : Nat) (sh : Bool) (prec : Int) : (nameS bits sh prec).size ≤ 1200 := by
  have h1 := nameA_size bits prec
  have h2 := enc_size4 (ptN bits)
  have h3 : (⟨#[32, 39]⟩ : ByteArray).size = 2 := rfl
  have h4 : (⟨#[39]⟩ : ByteArray).size = 1 := rfl
  unfold nameS
  split
  · rw [app_size, app_size, app_size]; omega
  · omega
/-- The sign of a number that is not below 0. -/
def signA (p sp : Bool) : ByteArray := if p = true then ⟨#[43]⟩ else if sp = true then ⟨#[32]⟩ else ⟨#[]⟩
theorem signA_size (p sp : Bool) : (signA p sp).size ≤ 1 := by cases p <;> cases sp <;> decide
/-- The base of a verb. -/
def baseV (verb : Int) : Nat := if verb = 100 ∨ verb = 118 then 10 else if verb = 98 then 2 else if verb = 111 ∨ verb = 79 then 8 else if verb = 120 ∨ verb = 88 then 16 else 0
theorem baseV_is (verb : Int) (h : ¬ baseV verb = 0) : baseV verb = 2 ∨ baseV verb = 8 ∨ baseV verb = 10 ∨ baseV verb = 16 := by
  unfold baseV at *
  repeat' split at h
  all_goals simp_all
end Go.Proofs.YthbabhbfpcfenaaGreatDoor

/- Plain mathematics of layer 4: a decimal is a whole number of units of 10 to the power of -10000; no program is met here. -/

namespace Go.Proofs.YthbabhbfpcfenaaGreatDoor
open Go.RowKit

/-- A digit's number. -/
def dg (x : UInt8) : Nat := x.toNat - 48
def isD (x : UInt8) : Bool := decide (48 ≤ x.toNat) && decide (x.toNat ≤ 57)
def allD (l : List UInt8) : Bool := l.all isD
/-- The digit of a number below 10. -/
def db (d : Nat) : UInt8 := UInt8.ofNat (48 + d)
/-- The number that a row of digits is. -/
def num (l : List UInt8) : Nat := l.foldl (fun n x => n * 10 + dg x) 0

theorem isD_iff (x : UInt8) : isD x = true ↔ 48 ≤ x.toNat ∧ x.toNat ≤ 57 := by simp [isD]
theorem dg_lt {x : UInt8} (h : isD x = true) : dg x < 10 := by have := (isD_iff x).1 h; unfold dg; omega
theorem db_nat {d : Nat} (h : d < 10) : (db d).toNat = 48 + d := by unfold db; simp; omega
theorem dg_db {d : Nat} (h : d < 10) : dg (db d) = d := by unfold dg; rw [db_nat h]; omega
theorem isD_db {d : Nat} (h : d < 10) : isD (db d) = true := by rw [isD_iff, db_nat h]; omega
theorem dg_inj {x y : UInt8} (hx : isD x = true) (hy : isD y = true) (h : dg x = dg y) : x = y := by
  have a := (isD_iff x).1 hx
  have b := (isD_iff y).1 hy
  unfold dg at h
  exact UInt8.toNat_inj.1 (by omega)
theorem allD_nil : allD [] = true := rfl
theorem allD_cons (x : UInt8) (l : List UInt8) : allD (x :: l) = (isD x && allD l) := rfl
theorem allD_append (a b : List UInt8) : allD (a ++ b) = (allD a && allD b) := by simp [allD]
theorem allD_mem {l : List UInt8} (h : allD l = true) {x : UInt8} (hx : x ∈ l) : isD x = true := by
  unfold allD at h; exact List.all_eq_true.1 h x hx
theorem allD_of {l : List UInt8} (h : ∀ x ∈ l, isD x = true) : allD l = true := List.all_eq_true.2 h

theorem num_foldl (l : List UInt8) : ∀ n, l.foldl (fun n x => n * 10 + dg x) n = n * 10 ^ l.length + num l := by
  induction l with
  | nil => intro n; simp [num]
  | cons x l ih =>
    intro n
    have h1 := ih (n * 10 + dg x)
    have h2 := ih (0 * 10 + dg x)
    simp only [List.foldl_cons, num, List.length_cons, Nat.pow_succ] at h1 h2 ⊢
    rw [h1, h2, Nat.add_mul, Nat.zero_mul, Nat.zero_add, Nat.add_assoc]
    congr 1
    rw [Nat.mul_assoc, Nat.mul_comm 10]
theorem num_nil : num [] = 0 := rfl
theorem num_append (a b : List UInt8) : num (a ++ b) = num a * 10 ^ b.length + num b := by
  show (a ++ b).foldl _ 0 = _
  rw [List.foldl_append, num_foldl b]; rfl
theorem num_cons (x : UInt8) (l : List UInt8) : num (x :: l) = dg x * 10 ^ l.length + num l := by
  have := num_append [x] l
  rw [List.singleton_append] at this
  rw [this]; simp [num]
theorem num_snoc (a : List UInt8) (x : UInt8) : num (a ++ [x]) = num a * 10 + dg x := by
  rw [num_append]; simp [num]
theorem pow_pos10 (n : Nat) : 0 < 10 ^ n := Nat.pow_pos (by decide)
theorem num_lt : ∀ (l : List UInt8), allD l = true → num l < 10 ^ l.length
  | [], _ => by simp [num]
  | x :: l, h => by
    rw [allD_cons, Bool.and_eq_true] at h
    have h1 := num_lt l h.2
    have h2 := dg_lt h.1
    rw [num_cons, List.length_cons, Nat.pow_succ]
    have h3 : dg x * 10 ^ l.length ≤ 9 * 10 ^ l.length := Nat.mul_le_mul_right _ (by omega)
    omega
theorem div_parts {a b r s m : Nat} (hr : r < m) (hs : s < m) (h : a * m + r = b * m + s) : a = b ∧ r = s := by
  have hm : 0 < m := by omega
  have h1 : (a * m + r) / m = a := by rw [Nat.mul_comm, Nat.mul_add_div hm, Nat.div_eq_of_lt hr, Nat.add_zero]
  have h2 : (b * m + s) / m = b := by rw [Nat.mul_comm, Nat.mul_add_div hm, Nat.div_eq_of_lt hs, Nat.add_zero]
  have : a = b := by rw [← h1, ← h2, h]
  subst this
  exact ⟨rfl, by omega⟩
theorem num_inj : ∀ (a b : List UInt8), allD a = true → allD b = true → a.length = b.length → num a = num b → a = b
  | [], [], _, _, _, _ => rfl
  | [], _ :: _, _, _, h, _ => by simp at h
  | _ :: _, [], _, _, h, _ => by simp at h
  | x :: a, y :: b, ha, hb, hl, hn => by
    rw [allD_cons, Bool.and_eq_true] at ha hb
    simp only [List.length_cons, Nat.add_right_cancel_iff] at hl
    rw [num_cons, num_cons, hl] at hn
    obtain ⟨h1, h2⟩ := div_parts (by rw [← hl]; exact num_lt a ha.2) (num_lt b hb.2) hn
    rw [dg_inj ha.1 hb.1 h1, num_inj a b ha.2 hb.2 hl h2]

/-- Does a row begin, and end, with no nought? -/
def hd (l : List UInt8) : Bool := l.head? != some 48
def lst (l : List UInt8) : Bool := l.getLast? != some 48

theorem dg_ne {x : UInt8} (hx : isD x = true) (h : x ≠ 48) : 0 < dg x := by
  have a := (isD_iff x).1 hx
  have : x.toNat ≠ 48 := fun e => h (UInt8.toNat_inj.1 (by rw [e]; rfl))
  unfold dg; omega
theorem num_head {x : UInt8} {l : List UInt8} (h : allD (x :: l) = true) (hh : hd (x :: l) = true) : 10 ^ l.length ≤ num (x :: l) := by
  rw [allD_cons, Bool.and_eq_true] at h
  have : x ≠ 48 := by intro e; subst e; simp [hd] at hh
  have := dg_ne h.1 this
  rw [num_cons]
  have : 1 * 10 ^ l.length ≤ dg x * 10 ^ l.length := Nat.mul_le_mul_right _ this
  omega
theorem num_pos {l : List UInt8} (h : allD l = true) (hh : hd l = true) (hne : l ≠ []) : 0 < num l := by
  cases l with
  | nil => exact absurd rfl hne
  | cons x l =>
    have := num_head h hh
    have := pow_pos10 l.length
    omega
theorem num_last {l : List UInt8} (h : allD l = true) (hh : lst l = true) (hne : l ≠ []) : ¬ num l % 10 = 0 := by
  obtain ⟨a, x, rfl⟩ : ∃ a x, l = a ++ [x] := ⟨l.dropLast, l.getLast hne, (List.dropLast_concat_getLast hne).symm⟩
  rw [allD_append, Bool.and_eq_true] at h
  have hx : isD x = true := allD_mem h.2 (by simp)
  have : x ≠ 48 := by intro e; subst e; simp [lst] at hh
  have := dg_ne hx this
  have := dg_lt hx
  rw [num_snoc]; omega
theorem num_pos' {l : List UInt8} (h : allD l = true) (hh : lst l = true) (hne : l ≠ []) : 0 < num l := by
  have := num_last h hh hne
  omega

/-- A decimal in form: its digits, its point, and the number of units that it is. -/
structure IsDec (l : List UInt8) (p : Int) (v : Nat) : Prop where
  dig : allD l = true
  hd : hd l = true
  lst : lst l = true
  nil : l = [] → p = 0
  low : -10000 ≤ p - l.length
  val : num l * 10 ^ (p - l.length + 10000).toNat = v

/-- The number of units of a decimal, in form or not. -/
def V (l : List UInt8) (p : Int) : Nat := num l * 10 ^ (p - l.length + 10000).toNat

theorem IsDec.ne {l : List UInt8} {p : Int} {v : Nat} (h : IsDec l p v) (hv : v ≠ 0) : l ≠ [] := by
  intro e; subst e
  have := h.val
  simp [num] at this; omega
theorem IsDec.zero {l : List UInt8} {p : Int} (h : IsDec l p 0) : l = [] ∧ p = 0 := by
  by_cases hl : l = []
  · exact ⟨hl, h.nil hl⟩
  · exfalso
    have h1 := num_pos h.dig h.hd hl
    have h2 := Nat.mul_pos h1 (pow_pos10 (p - l.length + 10000).toNat)
    have := h.val
    omega
theorem pow_split {a b x y : Nat} (hx : ¬ x % 10 = 0) (hlt : a < b) (h : x * 10 ^ a = y * 10 ^ b) : False := by
  obtain ⟨c, rfl⟩ : ∃ c, b = a + (c + 1) := ⟨b - a - 1, by omega⟩
  rw [Nat.pow_add, Nat.mul_comm (10 ^ a), ← Nat.mul_assoc] at h
  have := Nat.eq_of_mul_eq_mul_right (pow_pos10 a) h
  rw [Nat.pow_succ, ← Nat.mul_assoc] at this
  omega
/-- A number of units is one decimal in form alone. -/
theorem IsDec.uniq {l l' : List UInt8} {p p' : Int} {v : Nat} (h : IsDec l p v) (k : IsDec l' p' v) : l = l' ∧ p = p' := by
  by_cases hv : v = 0
  · subst hv
    obtain ⟨rfl, rfl⟩ := h.zero
    obtain ⟨rfl, rfl⟩ := k.zero
    exact ⟨rfl, rfl⟩
  have hl := h.ne hv
  have kl := k.ne hv
  have e := h.val.trans k.val.symm
  have hx := num_last h.dig h.lst hl
  have kx := num_last k.dig k.lst kl
  have eab : (p - l.length + 10000).toNat = (p' - l'.length + 10000).toNat := by
    rcases Nat.lt_trichotomy (p - l.length + 10000).toNat (p' - l'.length + 10000).toNat with hh | hh | hh
    · exact (pow_split hx hh e).elim
    · exact hh
    · exact (pow_split kx hh e.symm).elim
  rw [eab] at e
  have en := Nat.eq_of_mul_eq_mul_right (pow_pos10 _) e
  have hlow := h.low
  have klow := k.low
  have elen : l.length = l'.length := by
    obtain ⟨x, a, rfl⟩ := List.exists_cons_of_ne_nil hl
    obtain ⟨y, b, rfl⟩ := List.exists_cons_of_ne_nil kl
    have h1 := num_head h.dig h.hd
    have h2 := num_lt _ h.dig
    have k1 := num_head k.dig k.hd
    have k2 := num_lt _ k.dig
    rw [en] at h1 h2
    simp only [List.length_cons] at h2 k2 ⊢
    have a1 : a.length < b.length + 1 := (Nat.pow_lt_pow_iff_right (by decide)).1 (Nat.lt_of_le_of_lt h1 k2)
    have a2 : b.length < a.length + 1 := (Nat.pow_lt_pow_iff_right (by decide)).1 (Nat.lt_of_le_of_lt k1 h2)
    omega
  exact ⟨num_inj l l' h.dig k.dig elen en, by omega⟩

/-- Without the noughts at the front; without those at the end. -/
def ltr (l : List UInt8) : List UInt8 := Lib.trimLeftB l 48
def rtr (l : List UInt8) : List UInt8 := Lib.trimRightB l 48
theorem ltr_split (l : List UInt8) : ∃ k, l = List.replicate k 48 ++ ltr l ∧ hd (ltr l) = true := by
  induction l with
  | nil => exact ⟨0, rfl, rfl⟩
  | cons x l ih =>
    obtain ⟨k, h1, h2⟩ := ih
    by_cases hx : x = 48
    · subst hx
      have e : ltr (48 :: l) = ltr l := by simp [ltr, Lib.trimLeftB]
      refine ⟨k + 1, ?_, by rw [e]; exact h2⟩
      rw [e, List.replicate_succ, List.cons_append, ← h1]
    · have e : ltr (x :: l) = x :: l := by simp [ltr, Lib.trimLeftB, hx]
      exact ⟨0, by rw [e]; rfl, by rw [e]; simp [hd, hx]⟩
theorem rtr_split (l : List UInt8) : ∃ k, l = rtr l ++ List.replicate k 48 ∧ lst (rtr l) = true := by
  obtain ⟨k, h1, h2⟩ := ltr_split l.reverse
  have e : rtr l = (ltr l.reverse).reverse := rfl
  refine ⟨k, ?_, ?_⟩
  · have := congrArg List.reverse h1
    rw [List.reverse_reverse, List.reverse_append, List.reverse_replicate] at this
    rw [e]; exact this
  · rw [e]; unfold lst; rw [List.getLast?_reverse]; exact h2
theorem num_zeros (k : Nat) : num (List.replicate k 48) = 0 := by
  induction k with
  | zero => rfl
  | succ k ih => rw [List.replicate_succ, num_cons, ih]; simp [dg]
theorem hd_app {a b : List UInt8} (h : hd (a ++ b) = true) (hne : a ≠ []) : hd a = true := by
  cases a with
  | nil => exact absurd rfl hne
  | cons x a => exact h
/-- In form: what a row of digits at a point is. -/
theorem form_dec (l : List UInt8) (p : Int) (h : allD l = true) (hp : -10000 ≤ p - l.length) :
    IsDec (rtr (ltr l)) (if rtr (ltr l) = [] then 0 else p - ((l.length : Int) - (ltr l).length)) (V l p) := by
  obtain ⟨k, h1, h2⟩ := ltr_split l
  obtain ⟨j, h3, h4⟩ := rtr_split (ltr l)
  have hv : num l = num (ltr l) := by
    have : num l = num (List.replicate k 48 ++ ltr l) := congrArg num h1
    rw [this, num_append, num_zeros]; simp
  have hv2 : num (ltr l) = num (rtr (ltr l)) * 10 ^ j := by
    have : num (ltr l) = num (rtr (ltr l) ++ List.replicate j 48) := congrArg num h3
    rw [this, num_append, num_zeros, List.length_replicate]; simp
  have hlen : l.length = k + (ltr l).length := by
    have := congrArg List.length h1
    rw [List.length_append, List.length_replicate] at this; exact this
  have hlen2 : (ltr l).length = (rtr (ltr l)).length + j := by
    have := congrArg List.length h3
    rw [List.length_append, List.length_replicate] at this; exact this
  have hd1 : allD (ltr l) = true := by
    rw [h1, allD_append, Bool.and_eq_true] at h; exact h.2
  have hd2 : allD (rtr (ltr l)) = true := by
    rw [h3, allD_append, Bool.and_eq_true] at hd1; exact hd1.1
  generalize rtr (ltr l) = r at *
  by_cases hr : r = []
  · subst hr
    refine ⟨rfl, rfl, rfl, fun _ => by simp, by simp, ?_⟩
    unfold V
    rw [hv, hv2, num_nil, Nat.zero_mul, Nat.zero_mul, Nat.zero_mul]
  · rw [if_neg hr]
    refine ⟨hd2, hd_app (by rw [← h3]; exact h2) hr, h4, fun e => absurd e hr, by omega, ?_⟩
    unfold V
    rw [hv, hv2, Nat.mul_assoc, ← Nat.pow_add]
    congr 2
    omega

/-- The digits of a number, none of 0. -/
def dgsF : Nat → Nat → List UInt8
  | 0, _ => []
  | f + 1, n => if n = 0 then [] else dgsF f (n / 10) ++ [db (n % 10)]
def dgs (n : Nat) : List UInt8 := dgsF n n
theorem dgsF_num : ∀ (f n : Nat), n ≤ f → num (dgsF f n) = n ∧ allD (dgsF f n) = true
  | 0, n, h => by
    have : n = 0 := by omega
    subst this; exact ⟨rfl, rfl⟩
  | f + 1, n, h => by
    unfold dgsF
    split
    · rename_i h0; subst h0; exact ⟨rfl, rfl⟩
    · obtain ⟨h1, h2⟩ := dgsF_num f (n / 10) (by omega)
      rw [num_snoc, h1, dg_db (by omega), allD_append, h2, allD_cons, isD_db (by omega)]
      exact ⟨by omega, rfl⟩
/-- The decimal in form of a number of units. -/
def oL (v : Nat) : List UInt8 := rtr (ltr (dgs v))
def oP (v : Nat) : Int := if rtr (ltr (dgs v)) = [] then 0 else ((dgs v).length : Int) - 10000 - (((dgs v).length : Int) - (ltr (dgs v)).length)
theorem o_dec (v : Nat) : IsDec (oL v) (oP v) v := by
  obtain ⟨h1, h2⟩ := dgsF_num v v (Nat.le_refl _)
  have h := form_dec (dgs v) ((dgs v).length - 10000) h2 (by omega)
  have e : V (dgs v) ((dgs v).length - 10000) = v := by
    unfold V
    rw [show ((dgs v).length : Int) - 10000 - (dgs v).length + 10000 = 0 by omega]
    show num (dgsF v v) * 10 ^ 0 = v
    rw [h1]; simp
  rw [e] at h
  exact h
theorem o_of {l : List UInt8} {p : Int} {v : Nat} (h : IsDec l p v) : l = oL v ∧ p = oP v := h.uniq (o_dec v)
/-- The same as a text. -/
def oS (v : Nat) : ByteArray := ⟨(oL v).toArray⟩
theorem oS_size (v : Nat) : (oS v).size = (oL v).length := by simp [oS, ByteArray.size]
/-- What Norm makes of a decimal. -/
theorem form_o (l : List UInt8) (p : Int) (h : allD l = true) (hp : -10000 ≤ p - l.length) : rtr (ltr l) = oL (V l p) ∧ (if rtr (ltr l) = [] then 0 else p - ((l.length : Int) - (ltr l).length)) = oP (V l p) := o_of (form_dec l p h hp)
/-- Bounds. -/
theorem IsDec.lt {l : List UInt8} {p : Int} {v : Nat} (h : IsDec l p v) {q : Nat} (hq : p + 10000 ≤ q) : v < 10 ^ q := by
  rw [← h.val]
  have h1 := num_lt l h.dig
  have h2 := Nat.mul_lt_mul_of_pos_right h1 (pow_pos10 (p - l.length + 10000).toNat)
  rw [← Nat.pow_add] at h2
  have hlow := h.low
  exact Nat.lt_of_lt_of_le h2 (Nat.pow_le_pow_right (by decide) (by omega))
theorem IsDec.ge {l : List UInt8} {p : Int} {v : Nat} (h : IsDec l p v) (hv : v ≠ 0) {q : Nat} (hq : (q : Int) + 1 ≤ p + 10000) : 10 ^ q ≤ v := by
  obtain ⟨x, a, rfl⟩ := List.exists_cons_of_ne_nil (h.ne hv)
  rw [← h.val]
  have h1 := num_head h.dig h.hd
  have h2 := Nat.mul_le_mul_right (10 ^ (p - (x :: a).length + 10000).toNat) h1
  rw [← Nat.pow_add] at h2
  have hlow := h.low
  simp only [List.length_cons] at h2 hlow ⊢
  exact Nat.le_trans (Nat.pow_le_pow_right (by decide) (by omega)) h2
theorem oP_le {v : Nat} {q : Nat} (h : v < 10 ^ q) : oP v ≤ (q : Int) - 10000 ∨ v = 0 := by
  by_cases hv : v = 0
  · exact .inr hv
  · refine .inl ?_
    rcases Int.lt_or_le ((q : Int) - 10000) (oP v) with hh | hh
    · have := (o_dec v).ge hv (q := q) (by omega)
      omega
    · exact hh
theorem oP_gt {v : Nat} {q : Nat} (h : 10 ^ q ≤ v) : (q : Int) - 10000 < oP v := by
  rcases Int.lt_or_le ((q : Int) - 10000) (oP v) with hh | hh
  · exact hh
  · have := (o_dec v).lt (q := q) (by omega)
    omega
theorem o_zero : oL 0 = [] ∧ oP 0 = 0 := (o_dec 0).zero
theorem oL_nil {v : Nat} : oL v = [] ↔ v = 0 := by
  constructor
  · intro h
    have := (o_dec v).val
    rw [h] at this
    simp [num] at this; exact this.symm
  · rintro rfl; exact o_zero.1
end Go.Proofs.YthbabhbfpcfenaaGreatDoor

/- Plain mathematics of layer 4: the order of decimals, their digits place by place, sums, what is near. -/
namespace Go.Proofs.YthbabhbfpcfenaaGreatDoor
open Go.RowKit

/-- The order of two numbers, as -1, 0, 1. -/
def ordN (a b : Nat) : Int := if a < b then -1 else if b < a then 1 else 0
theorem ordN_lt {a b : Nat} (h : a < b) : ordN a b = -1 := if_pos h
theorem ordN_gt {a b : Nat} (h : b < a) : ordN a b = 1 := by unfold ordN; rw [if_neg (by omega), if_pos h]
theorem ordN_eq {a b : Nat} (h : a = b) : ordN a b = 0 := by unfold ordN; rw [if_neg (by omega), if_neg (by omega)]
theorem ordN_add (c a b : Nat) : ordN (c + a) (c + b) = ordN a b := by
  unfold ordN
  by_cases h1 : a < b
  · rw [if_pos h1, if_pos (by omega)]
  · by_cases h2 : b < a
    · rw [if_neg h1, if_pos h2, if_neg (by omega), if_pos (by omega)]
    · rw [if_neg h1, if_neg h2, if_neg (by omega), if_neg (by omega)]
theorem lst_tail {x : UInt8} {l : List UInt8} (h : lst (x :: l) = true) : lst l = true := by
  cases l with
  | nil => rfl
  | cons y l =>
    unfold lst at h ⊢
    rw [List.getLast?_cons_cons] at h; exact h
theorem num_scaled {x : UInt8} {l : List UInt8} {M : Nat} (h : l.length ≤ M) : num (x :: l) * 10 ^ (M + 1 - (l.length + 1)) = dg x * 10 ^ M + num l * 10 ^ (M - l.length) := by
  rw [num_cons, Nat.add_sub_add_right, Nat.add_mul, Nat.mul_assoc, ← Nat.pow_add, show l.length + (M - l.length) = M by omega]
theorem num_scaled_lt {l : List UInt8} {M : Nat} (hd : allD l = true) (h : l.length ≤ M) : num l * 10 ^ (M - l.length) < 10 ^ M := by
  have h1 := Nat.mul_lt_mul_of_pos_right (num_lt l hd) (pow_pos10 (M - l.length))
  rw [← Nat.pow_add, show l.length + (M - l.length) = M by omega] at h1
  exact h1
theorem lt_dg {x y : UInt8} (hx : isD x = true) (hy : isD y = true) : x < y ↔ dg x < dg y := by
  have a := (isD_iff x).1 hx
  have b := (isD_iff y).1 hy
  rw [UInt8.lt_iff_toNat_lt]
  unfold dg; omega
theorem cmp_lex : ∀ (a b : List UInt8) (M : Nat), allD a = true → allD b = true → lst a = true → lst b = true → a.length ≤ M → b.length ≤ M →
    Lib.compareBytes a b = ordN (num a * 10 ^ (M - a.length)) (num b * 10 ^ (M - b.length))
  | [], [], M, _, _, _, _, _, _ => by rw [ordN_eq (by rfl)]; rfl
  | [], y :: b, M, _, hb, _, lb, _, _ => by
    rw [ordN_lt]; · rfl
    rw [num_nil, Nat.zero_mul]
    exact Nat.mul_pos (num_pos' hb lb (by simp)) (pow_pos10 _)
  | x :: a, [], M, ha, _, la, _, _, _ => by
    rw [ordN_gt]; · rfl
    rw [num_nil, Nat.zero_mul]
    exact Nat.mul_pos (num_pos' ha la (by simp)) (pow_pos10 _)
  | x :: a, y :: b, M, ha, hb, la, lb, hM, kM => by
    simp only [List.length_cons] at hM kM
    obtain ⟨m, rfl⟩ : ∃ m, M = m + 1 := ⟨M - 1, by omega⟩
    rw [allD_cons, Bool.and_eq_true] at ha hb
    simp only [List.length_cons]
    rw [num_scaled (by omega), num_scaled (by omega)]
    have u1 := num_scaled_lt ha.2 (show a.length ≤ m by omega)
    have u2 := num_scaled_lt hb.2 (show b.length ≤ m by omega)
    have ih := cmp_lex a b m ha.2 hb.2 (lst_tail la) (lst_tail lb) (by omega) (by omega)
    unfold Lib.compareBytes
    by_cases h1 : x < y
    · rw [if_pos h1, ordN_lt]
      have := (lt_dg ha.1 hb.1).1 h1
      have h3 : (dg x + 1) * 10 ^ m ≤ dg y * 10 ^ m := Nat.mul_le_mul_right _ this
      rw [Nat.succ_mul] at h3
      generalize dg x * 10 ^ m = A at *
      generalize dg y * 10 ^ m = B at *
      omega
    · by_cases h2 : y < x
      · rw [if_neg h1, if_pos h2, ordN_gt]
        have := (lt_dg hb.1 ha.1).1 h2
        have h3 : (dg y + 1) * 10 ^ m ≤ dg x * 10 ^ m := Nat.mul_le_mul_right _ this
        rw [Nat.succ_mul] at h3
        generalize dg x * 10 ^ m = A at *
        generalize dg y * 10 ^ m = B at *
        omega
      · rw [if_neg h1, if_neg h2, ih]
        have e : dg x = dg y := by
          have k1 : ¬ dg x < dg y := fun h => h1 ((lt_dg ha.1 hb.1).2 h)
          have k2 : ¬ dg y < dg x := fun h => h2 ((lt_dg hb.1 ha.1).2 h)
          omega
        rw [e, ordN_add]
theorem cmp_same {a b : List UInt8} {p : Int} {v u : Nat} (h : IsDec a p v) (k : IsDec b p u) : Lib.compareBytes a b = ordN v u := by
  have hl := h.low
  have kl := k.low
  have e1 : (p - a.length + 10000).toNat = (p + 10000).toNat - a.length := by omega
  have e2 : (p - b.length + 10000).toNat = (p + 10000).toNat - b.length := by omega
  rw [← h.val, ← k.val, e1, e2]
  exact cmp_lex a b _ h.dig k.dig h.lst k.lst (by omega) (by omega)
theorem cmp_points {v u : Nat} (hv : oL v ≠ []) (hu : oL u ≠ []) (h : oP v < oP u) : v < u := by
  have kv : v ≠ 0 := fun e => hv (oL_nil.2 e)
  have ku : u ≠ 0 := fun e => hu (oL_nil.2 e)
  have hl := (o_dec v).low
  have a := (o_dec v).lt (q := (oP v + 10000).toNat) (by omega)
  have b := (o_dec u).ge ku (q := (oP v + 10000).toNat) (by omega)
  omega
theorem cmp_rest {v u : Nat} (h : oL v = [] ∨ oL u = [] ∨ oP v = oP u) : Lib.compareBytes (oL v) (oL u) = ordN v u := by
  rcases h with h | h | h
  · have := oL_nil.1 h
    subst this
    rw [h]
    by_cases hu : u = 0
    · subst hu; rw [h, ordN_eq rfl]; rfl
    · rw [ordN_lt (by omega)]
      obtain ⟨y, b, e⟩ := List.exists_cons_of_ne_nil (fun e => hu (oL_nil.1 e))
      rw [e]; rfl
  · have := oL_nil.1 h
    subst this
    rw [h]
    by_cases hu : v = 0
    · subst hu; rw [h, ordN_eq rfl]; rfl
    · rw [ordN_gt (by omega)]
      obtain ⟨y, b, e⟩ := List.exists_cons_of_ne_nil (fun e => hu (oL_nil.1 e))
      rw [e]; rfl
  · exact cmp_same (o_dec v) (h ▸ o_dec u)

/-- The digit at a place. -/
theorem num_at (l : List UInt8) (h : allD l = true) (i : Nat) (hi : i < l.length) : num l / 10 ^ (l.length - 1 - i) % 10 = dg (l[i]'hi) := by
  have e : l = l.take i ++ (l[i]'hi) :: l.drop (i + 1) := by simp
  have hr : (l.drop (i + 1)).length = l.length - 1 - i := by rw [List.length_drop]; omega
  have hd : allD (l.drop (i + 1)) = true := allD_of fun x hx => allD_mem h (List.mem_of_mem_drop hx)
  have hx := dg_lt (allD_mem h (List.getElem_mem hi))
  have hn : num l = (num (l.take i) * 10 + dg (l[i]'hi)) * 10 ^ (l.length - 1 - i) + num (l.drop (i + 1)) := by
    conv => lhs; rw [e]
    rw [num_append, num_cons, List.length_cons, hr, Nat.pow_succ, Nat.add_mul, Nat.mul_assoc, Nat.mul_comm 10, Nat.add_assoc]
  have hlt := num_lt _ hd
  rw [hr] at hlt
  rw [hn, Nat.mul_comm, Nat.mul_add_div (pow_pos10 _), Nat.div_eq_of_lt hlt]
  omega
/-- The digit of a decimal in form at a place. -/
def dgi (l : List UInt8) (p q : Int) : Nat := if p - 1 - q < 0 then 0 else if (p - 1 - q).toNat < l.length then dg (l.getD (p - 1 - q).toNat 0) else 0
theorem dgi_eq {l : List UInt8} {p : Int} {v : Nat} (h : IsDec l p v) (q : Int) (Q : Nat) (hQ : q + 10000 = Q) : dgi l p q = v / 10 ^ Q % 10 := by
  have hlow := h.low
  unfold dgi
  by_cases h1 : p - 1 - q < 0
  · rw [if_pos h1]
    have := h.lt (q := Q) (by omega)
    rw [Nat.div_eq_of_lt this]
  · rw [if_neg h1]
    by_cases h2 : (p - 1 - q).toNat < l.length
    · rw [if_pos h2, List.getD_eq_getElem?_getD, List.getElem?_eq_getElem h2, Option.getD_some, ← num_at l h.dig _ h2, ← h.val]
      have e : Q = (l.length - 1 - (p - 1 - q).toNat) + (p - l.length + 10000).toNat := by omega
      rw [e, Nat.pow_add, Nat.mul_div_mul_right _ _ (pow_pos10 _)]
    · rw [if_neg h2, ← h.val]
      have e : (p - l.length + 10000).toNat = ((p - l.length + 10000).toNat - Q - 1) + 1 + Q := by omega
      rw [e, Nat.pow_add, ← Nat.mul_assoc, Nat.mul_div_cancel _ (pow_pos10 _), Nat.pow_succ, ← Nat.mul_assoc]
      omega
/-- Place by place: the higher digits are the same. -/
theorem place_lt {a b P : Nat} (h : a / 10 ^ (P + 1) = b / 10 ^ (P + 1)) (hx : a / 10 ^ P % 10 < b / 10 ^ P % 10) : a < b := by
  rw [Nat.pow_succ, ← Nat.div_div_eq_div_mul, ← Nat.div_div_eq_div_mul] at h
  rcases Nat.lt_or_ge a b with hh | hh
  · exact hh
  · have := Nat.div_le_div_right (c := 10 ^ P) hh
    omega
theorem place_eq {a b P : Nat} (h : a / 10 ^ (P + 1) = b / 10 ^ (P + 1)) (hx : a / 10 ^ P % 10 = b / 10 ^ P % 10) : a / 10 ^ P = b / 10 ^ P := by
  rw [Nat.pow_succ, ← Nat.div_div_eq_div_mul, ← Nat.div_div_eq_div_mul] at h
  omega
theorem place_end {a b E : Nat} (ha : a % 10 ^ E = 0) (hb : b % 10 ^ E = 0) (h : a / 10 ^ E = b / 10 ^ E) : a = b := by
  rw [← Nat.div_add_mod a (10 ^ E), ← Nat.div_add_mod b (10 ^ E), ha, hb, h]
theorem IsDec.mod {l : List UInt8} {p : Int} {v : Nat} (h : IsDec l p v) {E : Nat} (hE : (E : Int) ≤ p - l.length + 10000) : v % 10 ^ E = 0 := by
  rw [← h.val]
  have e : (p - l.length + 10000).toNat = ((p - l.length + 10000).toNat - E) + E := by omega
  rw [e, Nat.pow_add, ← Nat.mul_assoc]
  exact Nat.mul_mod_left _ _

/-- A row of digits, the lowest first. -/
def le : List Nat → Nat
  | [] => 0
  | d :: l => d + 10 * le l
theorem le_snoc (l : List Nat) (d : Nat) : le (l ++ [d]) = le l + d * 10 ^ l.length := by
  induction l with
  | nil => simp [le]
  | cons x l ih =>
    rw [List.cons_append, le, ih, le, List.length_cons, Nat.pow_succ, Nat.mul_add, Nat.mul_left_comm 10 d, Nat.mul_comm 10 (10 ^ l.length), Nat.add_assoc]
/-- The text of such a row. -/
def txt (l : List Nat) : List UInt8 := (l.map db).reverse
theorem txt_len (l : List Nat) : (txt l).length = l.length := by simp [txt]
theorem txt_cons (d : Nat) (l : List Nat) : txt (d :: l) = txt l ++ [db d] := by simp [txt]
theorem txt_num : ∀ (l : List Nat), (∀ d ∈ l, d < 10) → num (txt l) = le l ∧ allD (txt l) = true
  | [], _ => ⟨rfl, rfl⟩
  | d :: l, h => by
    obtain ⟨h1, h2⟩ := txt_num l fun x hx => h x (by simp [hx])
    have hd := h d (by simp)
    rw [txt_cons, num_snoc, h1, dg_db hd, le, allD_append, h2, allD_cons, isD_db hd]
    exact ⟨by omega, rfl⟩
/-- A sum, place by place. -/
structure SumAt (a b E P : Nat) (ds : List Nat) (c : Nat) : Prop where
  len : ds.length + E = P
  dig : ∀ d ∈ ds, d < 10
  car : c ≤ 1
  val : le ds * 10 ^ E + c * 10 ^ P = a % 10 ^ P + b % 10 ^ P
theorem sum_start {a b E : Nat} (ha : a % 10 ^ E = 0) (hb : b % 10 ^ E = 0) : SumAt a b E E [] 0 :=
  ⟨by simp, (fun d h => by cases h), by omega, by rw [ha, hb]; simp [le]⟩
theorem sum_step {a b E P : Nat} {ds : List Nat} {c : Nat} (h : SumAt a b E P ds c) :
    SumAt a b E (P + 1) (ds ++ [(c + (a / 10 ^ P % 10 + b / 10 ^ P % 10)) % 10]) ((c + (a / 10 ^ P % 10 + b / 10 ^ P % 10)) / 10) := by
  have h0 := h.val
  have hc := h.car
  have x9 : a / 10 ^ P % 10 < 10 := Nat.mod_lt _ (by decide)
  have y9 : b / 10 ^ P % 10 < 10 := Nat.mod_lt _ (by decide)
  refine ⟨by have := h.len; simp; omega, ?_, by omega, ?_⟩
  · intro d hd
    rcases List.mem_append.1 hd with hd | hd
    · exact h.dig d hd
    · simp at hd; omega
  · rw [le_snoc, Nat.add_mul, Nat.mul_assoc, ← Nat.pow_add, h.len, Nat.pow_succ, Nat.mod_mul, Nat.mod_mul]
    generalize a / 10 ^ P % 10 = x at *
    generalize b / 10 ^ P % 10 = y at *
    have e : (c + (x + y)) % 10 * 10 ^ P + (c + (x + y)) / 10 * (10 ^ P * 10) = (c + (x + y)) * 10 ^ P := by
      rw [Nat.mul_comm (10 ^ P) 10, ← Nat.mul_assoc, ← Nat.add_mul]
      congr 1; omega
    rw [Nat.add_assoc, e, Nat.add_mul, Nat.add_mul, Nat.mul_comm (10 ^ P) x, Nat.mul_comm (10 ^ P) y]
    omega
theorem sum_end {a b E T : Nat} {ds : List Nat} {c : Nat} (h : SumAt a b E (T + 1) ds c) (ha : a < 10 ^ T) (hb : b < 10 ^ T) : le ds * 10 ^ E = a + b := by
  have h0 := h.val
  have hp : (10 : Nat) ^ (T + 1) = 10 ^ T * 10 := Nat.pow_succ ..
  rw [Nat.mod_eq_of_lt (by omega), Nat.mod_eq_of_lt (by omega)] at h0
  have hc : c = 0 := by
    rcases Nat.eq_zero_or_pos c with h | h
    · exact h
    · have : 1 * 10 ^ (T + 1) ≤ c * 10 ^ (T + 1) := Nat.mul_le_mul_right _ h
      omega
  subst hc; omega
theorem sum_dec {a b E T : Nat} {ds : List Nat} {c : Nat} {p : Int} (h : SumAt a b E (T + 1) ds c) (ha : a < 10 ^ T) (hb : b < 10 ^ T) (hp : p + 10000 = (T : Int) + 1) : V (txt ds) p = a + b := by
  have hl := h.len
  unfold V
  rw [(txt_num ds h.dig).1, txt_len, show (p - ds.length + 10000).toNat = E by omega]
  exact sum_end h ha hb

/-- The nearest number of whole units of a place; of two as near the even one. -/
def near (v P : Nat) : Nat := if 2 * (v % 10 ^ P) < 10 ^ P ∨ (2 * (v % 10 ^ P) = 10 ^ P ∧ v / 10 ^ P % 2 = 0) then v / 10 ^ P * 10 ^ P else v / 10 ^ P * 10 ^ P + 10 ^ P
theorem near_whole {v P : Nat} (h : v % 10 ^ P = 0) : near v P = v := by
  unfold near
  have := pow_pos10 P
  rw [if_pos (.inl (by rw [h]; omega))]
  have := Nat.div_add_mod v (10 ^ P)
  rw [h, Nat.mul_comm] at this
  omega
theorem near_small {v P : Nat} (h2 : 2 * v < 10 ^ (P + 1)) (P1 : Nat) (hP : P1 = P + 1) : near v P1 = 0 := by
  subst hP
  have e : v < 10 ^ (P + 1) := by rw [Nat.pow_succ]; omega
  unfold near
  rw [Nat.mod_eq_of_lt e, if_pos (.inl h2), Nat.div_eq_of_lt e]; simp
/-- What stands ahead of a place. -/
theorem take_V {l : List UInt8} {p : Int} {v : Nat} (h : IsDec l p v) (n : Nat) (hn : n ≤ l.length) (P : Nat) (hP : p - n + 10000 = P) : V (l.take n) p = v / 10 ^ P * 10 ^ P := by
  have hlow := h.low
  have hlen : (l.take n).length = n := by rw [List.length_take]; omega
  unfold V
  rw [hlen, show (p - n + 10000).toNat = P by omega, ← h.val]
  congr 1
  have e : l = l.take n ++ l.drop n := (List.take_append_drop n l).symm
  have hd : allD (l.drop n) = true := allD_of fun x hx => allD_mem h.dig (List.mem_of_mem_drop hx)
  have hlt := num_lt _ hd
  have hdl : (l.drop n).length = l.length - n := List.length_drop
  have hn' : num l = num (l.take n) * 10 ^ (l.length - n) + num (l.drop n) := by
    conv => lhs; rw [e]
    rw [num_append, hdl]
  rw [hdl] at hlt
  have eP : P = (l.length - n) + (p - l.length + 10000).toNat := by omega
  rw [eP, Nat.pow_add, Nat.mul_div_mul_right _ _ (pow_pos10 _), hn', Nat.mul_comm (num (l.take n)), Nat.mul_add_div (pow_pos10 _), Nat.div_eq_of_lt hlt, Nat.add_zero]
/-- Is what stands behind the n-th digit more than half a unit, or half a unit at an odd digit? -/
def ups (l : List UInt8) (n : Nat) : Bool :=
  if l.getD n 0 ≠ 53 then decide (53 < (l.getD n 0).toNat) else if n + 1 < l.length then true else decide (0 < n) && decide (dg (l.getD (n - 1) 0) % 2 = 1)
theorem ups_near {l : List UInt8} {p : Int} {v : Nat} (h : IsDec l p v) (n : Nat) (hn : n < l.length) (P : Nat) (hP : p - n + 10000 = P) :
    near v P = if ups l n = true then v / 10 ^ P * 10 ^ P + 10 ^ P else v / 10 ^ P * 10 ^ P := by
  have hlow := h.low
  obtain ⟨x, hxe⟩ : ∃ x, x = l[n] := ⟨_, rfl⟩
  have hx : isD x = true := by rw [hxe]; exact allD_mem h.dig (List.getElem_mem hn)
  have hxD := (isD_iff _).1 hx
  have hgx : l.getD n 0 = x := by rw [List.getD_eq_getElem?_getD, List.getElem?_eq_getElem hn, Option.getD_some, hxe]
  have e : l = l.take n ++ x :: l.drop (n + 1) := by rw [hxe]; simp
  have hr : (l.drop (n + 1)).length = l.length - 1 - n := by rw [List.length_drop]; omega
  have hd : allD (l.drop (n + 1)) = true := allD_of fun x hx => allD_mem h.dig (List.mem_of_mem_drop hx)
  have hlt := num_lt _ hd
  rw [hr] at hlt
  have hnum : num l = num (l.take n) * 10 ^ (l.length - n) + (dg x * 10 ^ (l.length - 1 - n) + num (l.drop (n + 1))) := by
    conv => lhs; rw [e]
    rw [num_append, num_cons, List.length_cons, hr, show l.length - 1 - n + 1 = l.length - n by omega]
  have ep : (10 : Nat) ^ (l.length - n) = 10 * 10 ^ (l.length - 1 - n) := by
    rw [show l.length - n = l.length - 1 - n + 1 by omega, Nat.pow_succ, Nat.mul_comm]
  have hdx := dg_lt hx
  have hx9 : dg x * 10 ^ (l.length - 1 - n) ≤ 9 * 10 ^ (l.length - 1 - n) := Nat.mul_le_mul_right _ (by omega)
  have hlow9 : dg x * 10 ^ (l.length - 1 - n) + num (l.drop (n + 1)) < 10 ^ (l.length - n) := by omega
  have eP : P = (l.length - n) + (p - l.length + 10000).toNat := by omega
  have hmod : v % 10 ^ P = (dg x * 10 ^ (l.length - 1 - n) + num (l.drop (n + 1))) * 10 ^ (p - l.length + 10000).toNat := by
    rw [← h.val, eP, Nat.pow_add, Nat.mul_mod_mul_right, hnum, Nat.mul_comm (num (l.take n)), Nat.mul_add_mod, Nat.mod_eq_of_lt hlow9]
  have hdiv : v / 10 ^ P = num (l.take n) := by
    rw [← h.val, eP, Nat.pow_add, Nat.mul_div_mul_right _ _ (pow_pos10 _), hnum, Nat.mul_comm (num (l.take n)), Nat.mul_add_div (pow_pos10 _), Nat.div_eq_of_lt hlow9, Nat.add_zero]
  have hpow : (10 : Nat) ^ P = 10 * 10 ^ (l.length - 1 - n) * 10 ^ (p - l.length + 10000).toNat := by rw [eP, Nat.pow_add, ep]
  have hK := pow_pos10 (p - l.length + 10000).toNat
  have hm := pow_pos10 (l.length - 1 - n)
  have hpar : ∀ k, n = k + 1 → num (l.take n) % 2 = dg (l.getD (n - 1) 0) % 2 := by
    intro k hk
    subst hk
    have hk' : k < l.length := by omega
    have : l.take (k + 1) = l.take k ++ [l[k]'hk'] := List.take_succ_eq_append_getElem hk'
    rw [this, num_snoc, Nat.add_sub_cancel, List.getD_eq_getElem?_getD, List.getElem?_eq_getElem hk', Option.getD_some]
    omega
  have hpos : l.drop (n + 1) ≠ [] → 0 < num (l.drop (n + 1)) := by
    intro hne
    refine num_pos' hd ?_ hne
    have hl := h.lst
    rw [e] at hl
    unfold lst at hl ⊢
    rw [List.getLast?_append, List.getLast?_cons] at hl
    cases hh : (l.drop (n + 1)).getLast? with
    | none => rfl
    | some y => rw [hh] at hl; simpa using hl
  unfold near
  rw [hmod, hdiv]
  generalize hA : (10 : Nat) ^ (p - l.length + 10000).toNat = A at *
  generalize hB : (10 : Nat) ^ (l.length - 1 - n) = B at *
  generalize hN : num (l.drop (n + 1)) = N at *
  generalize hT : num (l.take n) = T at *
  have k1 : 2 * ((dg x * B + N) * A) < 10 ^ P ↔ 2 * (dg x * B + N) < 10 * B := by
    rw [hpow, ← Nat.mul_assoc]
    exact Nat.mul_lt_mul_right hK
  have k2 : 2 * ((dg x * B + N) * A) = 10 ^ P ↔ 2 * (dg x * B + N) = 10 * B := by
    rw [hpow, ← Nat.mul_assoc]
    exact Nat.mul_left_inj (by omega)
  simp only [k1, k2]
  unfold ups
  rw [hgx]
  by_cases h5 : x = 53
  · have hd5 : dg x = 5 := by rw [h5]; rfl
    rw [hd5, h5]
    simp only [ne_eq, not_true_eq_false, if_false]
    by_cases hlen : n + 1 < l.length
    · have hNp := hpos (by intro e; have := congrArg List.length e; rw [hr] at this; simp at this; omega)
      rw [if_pos hlen, if_neg (by omega), if_pos rfl]
    · have hN0 : N = 0 := by
        rw [← hN, List.drop_eq_nil_of_le (by omega)]; rfl
      rw [if_neg hlen]
      subst hN0
      rcases Nat.eq_zero_or_pos n with hn0 | hn0
      · subst hn0
        have hT0 : T = 0 := by rw [← hT]; rfl
        rw [if_pos (.inr ⟨by omega, by rw [hT0]⟩)]
        simp
      · obtain ⟨k, hk⟩ : ∃ k, n = k + 1 := ⟨n - 1, by omega⟩
        have hpk := hpar k hk
        by_cases hodd : dg (l.getD (n - 1) 0) % 2 = 1
        · rw [if_neg (by omega)]
          simp only [hn0, decide_true, hodd, Bool.and_self, if_true]
        · rw [if_pos (.inr ⟨by omega, by omega⟩)]
          simp only [hn0, decide_true, hodd, decide_false, Bool.and_false, Bool.false_eq_true, if_false]
  · have hd5 : dg x ≠ 5 := by
      intro e0
      apply h5
      apply UInt8.toNat_inj.1
      show x.toNat = 53
      unfold dg at e0; omega
    rw [if_pos h5]
    have hdd : dg x = x.toNat - 48 := rfl
    by_cases hgt : 53 < x.toNat
    · have h6 : 6 * B ≤ dg x * B := Nat.mul_le_mul_right _ (by omega)
      rw [if_neg (by omega), if_pos (by simpa using hgt)]
    · have h4 : dg x * B ≤ 4 * B := Nat.mul_le_mul_right _ (by omega)
      rw [if_pos (by omega), if_neg (by simpa using hgt)]
end Go.Proofs.YthbabhbfpcfenaaGreatDoor

/- A region that draws its order and whose calls make new memory alone is walked once, in the order of its text: the library's theorem of the class of worlds, at the class of those that lie above a world. -/
namespace Go.Proofs.YthbabhbfpcfenaaGreatDoor
open Go.RowKit

/-- The worlds that have all that w0 has, and new memory. -/
def Cl (w0 : World) : Type := { w : World // Below w0.heap.size w0 w }
def Cl.w {w0 : World} (x : Cl w0) : World := x.1
theorem Cl.below {w0 : World} (x : Cl w0) : Below w0.heap.size w0 x.w := x.2
theorem Cl.some_one {w0 : World} : Nonempty (Cl w0) := ⟨⟨w0, Below.refl _ _⟩⟩
theorem Cl.cell {w0 : World} (x : Cl w0) {p : Addr} {v : Value} (h : w0.cell? p = some v) : x.w.cell? p = some v := by
  have hp : p.block < w0.heap.size := by
    rcases Nat.lt_or_ge p.block w0.heap.size with h1 | h1
    · exact h1
    · simp [World.cell?, Array.getElem?_eq_none h1] at h
  exact (x.2.cell hp).trans h
theorem Cl.call {P : Program} {f : FuncId} {args : Array Value} {w0 : World} {x : Cl w0} {v : Value}
    (h : Calls P f args x.w fun e w' => e = .returned v ∧ Below x.w.heap.size x.w w') : Calls P f args x.w fun e w'' => e = .returned v ∧ ∃ y : Cl w0, w'' = y.w :=
  h.mono fun _ w' ⟨he, hb⟩ => ⟨he, ⟨w', x.2.trans (hb.mono x.2.size)⟩, rfl⟩
theorem Cl.call_same {P : Program} {f : FuncId} {args : Array Value} {w0 : World} {x : Cl w0} {v : Value}
    (h : Calls P f args x.w fun e w' => e = .returned v ∧ w' = x.w) : Calls P f args x.w fun e w'' => e = .returned v ∧ ∃ y : Cl w0, w'' = y.w :=
  h.mono fun _ _ ⟨he, hb⟩ => ⟨he, x, hb⟩
/-- A call in straight code, made in a world above w0 (or in w0 itself): the world behind it lies above w0 too. -/
theorem Cl.go {P : Program} {f : FuncId} {args : Array Value} {w0 : World} {x : Cl w0} {v : Value}
    (h : Calls P f args x.w fun e w' => e = .returned v ∧ Below x.w.heap.size x.w w') : Calls P f args x.w fun e w'' => ∃ y : Cl w0, e = .returned v ∧ w'' = y.w :=
  h.mono fun _ w' ⟨he, hb⟩ => ⟨⟨w', x.2.trans (hb.mono x.2.size)⟩, he, rfl⟩
theorem Cl.go0 {P : Program} {f : FuncId} {args : Array Value} {w0 : World} {v : Value}
    (h : Calls P f args w0 fun e w' => e = .returned v ∧ Below w0.heap.size w0 w') : Calls P f args w0 fun e w'' => ∃ y : Cl w0, e = .returned v ∧ w'' = y.w :=
  h.mono fun _ w' ⟨he, hb⟩ => ⟨⟨w', hb⟩, he, rfl⟩
/-- The region, walked in the order of its text. -/
theorem wp_region_above {P : Program} {id : Nat} {Q : Exit → Act → World → Prop} {a : Act} {w : World} {l : List Oper} (w0 : World) (hw : Below w0.heap.size w0 w) (hm : P.follows .mixedOrders = true) (hB : Region.lexB .any l.toArray = true)
    (h : Nonempty (Cl w0) → wpQuiet P l.toArray (fun w' => ∃ x : Cl w0, w' = x.w) (fun a' => ∀ w', (∃ x : Cl w0, w' = x.w) → Q .normal a' w') l a) : (Code.region id l.toArray true).wp P Q a w :=
  wp_region_quiet (C := fun w' => ∃ x : Cl w0, w' = x.w) hm hB ⟨⟨_, hw.drew⟩, rfl⟩ (by simpa using h Cl.some_one)
end Go.Proofs.YthbabhbfpcfenaaGreatDoor
