/- More plain mathematics: what is written of a code point is read as it, and what is read is what was written. -/
import Derived.Test.YtpknjcdodnoibaaPlain2
namespace Go.Proofs.Ytpknjcdodnoibaa
open Go.RowKit

theorem enc_lib (n : Nat) (hv : Utf8.valid (n : Int) = true) : Utf8.encode (n : Int) = strOfNums (Lib.encodeRuneZ (n : Int)) := by
  have h := (valid_iff _).1 hv
  by_cases h1 : n < 128
  · rw [Lib.encodeRuneZ_one (by omega) (by omega)]; exact (str1 n h1).symm
  by_cases h2 : n < 2048
  · rw [Lib.encodeRuneZ_two (by omega) (by omega)]; exact (str2 n (by omega) h2).symm
  by_cases h3 : n < 65536
  · rw [Lib.encodeRuneZ_three (by omega)]; exact (str3 n hv (by omega) h3).symm
  · rw [Lib.encodeRuneZ_four (by omega) (by omega)]; exact (str4 n hv (by omega)).symm

theorem enc_list (n : Nat) (hv : Utf8.valid (n : Int) = true) : (Utf8.encode (n : Int)).data.toList = Lib.encodeRune (n : Int) := by
  rw [enc_lib n hv]; rfl

set_option maxHeartbeats 1000000 in
theorem decL_enc (n : Nat) (hv : Utf8.valid (n : Int) = true) (t : List UInt8) : Lib.decodeL ((Utf8.encode (n : Int)).data.toList ++ t) = (n, (Utf8.encode (n : Int)).size) := by
  have h := (valid_iff _).1 hv
  rw [Lib.decodeL_N]
  by_cases h1 : n < 128
  · rw [enc1 n h1]
    have e0 : (UInt8.ofNat n).toNat = n := by simp; omega
    show Lib.decodeN _ (UInt8.ofNat n).toNat _ _ _ = (n, 1)
    rw [e0]
    unfold Lib.decodeN
    rw [if_pos h1]
  by_cases h2 : n < 2048
  · rw [enc2 n (by omega) h2]
    have e0 : (UInt8.ofNat (192 + n / 64)).toNat = 192 + n / 64 := by simp; omega
    have e1 : (UInt8.ofNat (128 + n % 64)).toNat = 128 + n % 64 := by simp; omega
    show Lib.decodeN (t.length + 2) (UInt8.ofNat (192 + n / 64)).toNat (UInt8.ofNat (128 + n % 64)).toNat _ _ = (n, 2)
    rw [e0, e1]
    have ec : (192 + n / 64) % 32 * 64 + (128 + n % 64) % 64 = n := by omega
    unfold Lib.decodeN
    rw [if_neg (by omega), if_pos (by omega), ec, if_pos (by omega)]
  by_cases h3 : n < 65536
  · rw [enc3 n hv (by omega) h3]
    have e0 : (UInt8.ofNat (224 + n / 4096)).toNat = 224 + n / 4096 := by simp; omega
    have e1 : (UInt8.ofNat (128 + n / 64 % 64)).toNat = 128 + n / 64 % 64 := by simp; omega
    have e2 : (UInt8.ofNat (128 + n % 64)).toNat = 128 + n % 64 := by simp; omega
    show Lib.decodeN (t.length + 3) (UInt8.ofNat (224 + n / 4096)).toNat (UInt8.ofNat (128 + n / 64 % 64)).toNat (UInt8.ofNat (128 + n % 64)).toNat _ = (n, 3)
    rw [e0, e1, e2]
    have ec : (224 + n / 4096) % 16 * 4096 + (128 + n / 64 % 64) % 64 * 64 + (128 + n % 64) % 64 = n := by omega
    unfold Lib.decodeN
    rw [if_neg (by omega), if_neg (by omega), if_pos (by omega), ec, if_pos (by omega)]
  · rw [enc4 n hv (by omega)]
    have e0 : (UInt8.ofNat (240 + n / 262144)).toNat = 240 + n / 262144 := by simp; omega
    have e1 : (UInt8.ofNat (128 + n / 4096 % 64)).toNat = 128 + n / 4096 % 64 := by simp; omega
    have e2 : (UInt8.ofNat (128 + n / 64 % 64)).toNat = 128 + n / 64 % 64 := by simp; omega
    have e3 : (UInt8.ofNat (128 + n % 64)).toNat = 128 + n % 64 := by simp; omega
    show Lib.decodeN (t.length + 4) (UInt8.ofNat (240 + n / 262144)).toNat (UInt8.ofNat (128 + n / 4096 % 64)).toNat (UInt8.ofNat (128 + n / 64 % 64)).toNat (UInt8.ofNat (128 + n % 64)).toNat = (n, 4)
    rw [e0, e1, e2, e3]
    have ec : (240 + n / 262144) % 8 * 262144 + (128 + n / 4096 % 64) % 64 * 4096 + (128 + n / 64 % 64) % 64 * 64 + (128 + n % 64) % 64 = n := by omega
    unfold Lib.decodeN
    rw [if_neg (by omega), if_neg (by omega), if_neg (by omega), if_pos (by omega), ec, if_pos (by omega)]

theorem dec_zero (s : ByteArray) : Utf8.decode s 0 = Lib.decodeL s.data.toList := by
  rw [← Lib.decodeL_drop]; rfl

/-- A text that begins with what is written of a code point is read as it. -/
theorem dec_begins (s : ByteArray) (n : Nat) (hv : Utf8.valid (n : Int) = true) (t : List UInt8) (h : s.data.toList = (Utf8.encode (n : Int)).data.toList ++ t) : Utf8.decode s 0 = (n, (Utf8.encode (n : Int)).size) := by
  rw [dec_zero, h, decL_enc n hv t]

theorem empty_no (s : ByteArray) (h : 0 < s.size) : s.toList.isEmpty = false := by
  rw [Lib.toList_data]
  have := Lib.size_eq s
  cases hl : s.data.toList with
  | nil => rw [hl] at this; simp only [List.length_nil] at this; omega
  | cons a b => rfl
theorem empty_yes (s : ByteArray) (h : s.size = 0) : s.toList.isEmpty = true := by
  rw [Lib.toList_data]
  have := Lib.size_eq s
  cases hl : s.data.toList with
  | nil => rfl
  | cons a b => rw [hl] at this; simp only [List.length_cons] at this; omega
/-- The byte at a place. -/
def bt (s : ByteArray) (i : Nat) : Nat := (s.get! i).toNat
theorem bt_lt (s : ByteArray) (i : Nat) : bt s i < 256 := (s.get! i).toNat_lt
theorem bt_at (s : ByteArray) (i : Nat) (h : i < s.size) : (s[i]'h).toNat = bt s i := by
  have := get_at s i h
  unfold bt
  rw [← this]; rfl
/-- The number that stands in so many bytes. -/
def cnd (s : ByteArray) (m : Nat) : Nat → Nat
  | 0 => bt s 0 % m
  | i + 1 => 64 * cnd s m i + bt s (i + 1) % 64
theorem cnd_le (s : ByteArray) (m i : Nat) (hi : i ≤ 3) : cnd s m i ≤ 67108863 := by
  have h0 : bt s 0 % m ≤ bt s 0 := Nat.mod_le _ _
  have h1 := bt_lt s 0
  match i, hi with
  | 0, _ => simp only [cnd]; omega
  | 1, _ => simp only [cnd]; omega
  | 2, _ => simp only [cnd]; omega
  | 3, _ => simp only [cnd]; omega
/-- Is the number in the first n bytes written by just these? -/
def tryN (s : ByteArray) (m n : Nat) : Prop := Utf8.valid (cnd s m (n - 1) : Int) = true ∧ Utf8.encode (cnd s m (n - 1) : Int) = s.extract 0 n

theorem ext_list (s : ByteArray) (n : Nat) : (s.extract 0 n).data.toList = s.data.toList.take n := by
  rw [ByteArray.data_extract, Array.toList_extract]; simp
theorem try_dec (s : ByteArray) (m n : Nat) (hn : n ≤ s.size) (h : tryN s m n) : Utf8.decode s 0 = (cnd s m (n - 1), n) := by
  obtain ⟨hv, he⟩ := h
  have hz : (Utf8.encode (cnd s m (n - 1) : Int)).size = n := by
    rw [he, ByteArray.size_extract]; omega
  rw [dec_begins s _ hv (s.data.toList.drop n) ?_, hz]
  rw [he, ext_list, List.take_append_drop]
def mdl (n : Nat) : Nat := if n = 2 then 32 else if n = 3 then 16 else if n = 4 then 8 else 256

theorem wrap_byte (s : ByteArray) (i : Nat) (h : i < s.size) : wrap64 ((s[i]'h).toNat : Int) = (bt s i : Nat) := by
  have := bt_lt s i
  rw [bt_at s i h]
  unfold wrap64
  omega
theorem c0_1 (s : ByteArray) (h : 0 < s.size) : wrap64 ((s[0]'h).toNat : Int) = (cnd s (mdl 1) 0 : Nat) := by
  have := bt_lt s 0
  rw [wrap_byte s 0 h]
  show (bt s 0 : Int) = ((bt s 0 % 256 : Nat) : Int)
  omega
theorem tmod_of (a b : Nat) : ((a : Int)).tmod (b : Int) = ((a % b : Nat) : Int) := by
  rw [Int.ofNat_tmod]
theorem c0_2 (s : ByteArray) (h : 0 < s.size) : (wrap64 ((s[0]'h).toNat : Int)).tmod 32 = (cnd s (mdl 2) 0 : Nat) := by
  rw [wrap_byte s 0 h]; exact tmod_of (bt s 0) 32
theorem c0_3 (s : ByteArray) (h : 0 < s.size) : (wrap64 ((s[0]'h).toNat : Int)).tmod 16 = (cnd s (mdl 3) 0 : Nat) := by
  rw [wrap_byte s 0 h]; exact tmod_of (bt s 0) 16
theorem c0_4 (s : ByteArray) (h : 0 < s.size) : (wrap64 ((s[0]'h).toNat : Int)).tmod 8 = (cnd s (mdl 4) 0 : Nat) := by
  rw [wrap_byte s 0 h]; exact tmod_of (bt s 0) 8
theorem val_int {k : IntKind} {a b : Int} (h : a = b) : Value.int k a = .int k b := by rw [h]
theorem cnd_succ (s : ByteArray) (m q : Nat) (h : 1 ≤ q) : cnd s m q = 64 * cnd s m (q - 1) + bt s q % 64 := by
  obtain ⟨r, rfl⟩ : ∃ r, q = r + 1 := ⟨q - 1, by omega⟩
  rfl
theorem step_c (s : ByteArray) (m q : Nat) (h1 : 1 ≤ q) (h : q < s.size) (hq : q ≤ 3) : wrap64 (64 * (cnd s m (q - 1) : Int) + (wrap64 ((s[q]'h).toNat : Int)).tmod 64) = (cnd s m (q + 1 - 1) : Nat) := by
  have hl := cnd_le s m q hq
  have e : ((bt s q : Nat) : Int).tmod 64 = ((bt s q % 64 : Nat) : Int) := tmod_of (bt s q) 64
  rw [wrap_byte s q h, e, Nat.add_sub_cancel]
  rw [cnd_succ s m q h1] at hl ⊢
  unfold wrap64
  omega
theorem wrap32_nat (c : Nat) (h : c ≤ 67108863) : IntKind.i32.wrap (c : Int) = (c : Int) := by
  unfold IntKind.wrap
  simp [IntKind.bits, IntKind.signed]
  omega
theorem beq_no (a b : ByteArray) (h : ¬ a = b) : Value.bool (a.toList == b.toList) = .bool false := by
  have : (a.toList == b.toList) = false := by
    rw [Lib.toList_data, Lib.toList_data]
    apply beq_false_of_ne
    intro e
    exact h (ByteArray.ext (Array.ext' e))
  rw [this]
theorem list_eq (s : ByteArray) (l : List UInt8) (h : s.data.toList = l) : s = ⟨l.toArray⟩ := by
  apply ByteArray.ext
  rw [← h]
theorem enc_of_dec (s : ByteArray) (h0 : 0 < s.size) (hv : Utf8.valid ((Utf8.decode s 0).1 : Int) = true) (hb : ¬ ((Utf8.decode s 0).1 = 65533 ∧ (Utf8.decode s 0).2 = 1)) :
    Utf8.encode ((Utf8.decode s 0).1 : Int) = s.extract 0 (Utf8.decode s 0).2 := by
  have hne : s.data.toList ≠ [] := by
    intro h
    have := congrArg List.length h
    rw [← Lib.size_eq s] at this
    simp only [List.length_nil] at this
    omega
  rw [dec_zero] at hv hb ⊢
  have h := Lib.encode_decode _ hne hb
  apply ByteArray.ext
  apply Array.ext'
  rw [enc_list _ hv, h, ext_list]

set_option maxHeartbeats 1000000 in
/-- A text's first rune is broken, or one of the four lengths is right. -/
theorem dec_some (s : ByteArray) (h0 : 0 < s.size) : Utf8.decode s 0 = (65533, 1) ∨ ∃ n, 1 ≤ n ∧ n ≤ 4 ∧ n ≤ s.size ∧ tryN s (mdl n) n := by
  have k0 := bt_lt s 0
  have k1 := bt_lt s 1
  have k2 := bt_lt s 2
  have k3 := bt_lt s 3
  have hd : Utf8.decode s 0 = Lib.decodeN s.size (bt s 0) (bt s 1) (bt s 2) (bt s 3) := by rw [Lib.decode_at]; rfl
  rcases Lib.decodeN_shape s.size (bt s 0) (bt s 1) (bt s 2) (bt s 3) with ⟨c, e⟩ | ⟨c1, c2, c3, cv, e⟩ | ⟨c1, c2, c3, c4, cv, cs, e⟩ | ⟨c1, c2, c3, c4, c5, cv, cw, e⟩ | e
  · right
    refine ⟨1, by omega, by omega, by omega, ?_⟩
    have ec : cnd s (mdl 1) (1 - 1) = (Utf8.decode s 0).1 := by rw [hd, e]; show bt s 0 % 256 = bt s 0; omega
    have hv : Utf8.valid ((Utf8.decode s 0).1 : Int) = true := by rw [hd, e]; exact (valid_iff _).2 (by dsimp only; omega)
    unfold tryN
    rw [ec]
    refine ⟨hv, ?_⟩
    have := enc_of_dec s h0 hv (by rw [hd, e]; dsimp only; omega)
    rw [this, hd, e]
  · right
    refine ⟨2, by omega, by omega, by omega, ?_⟩
    have ec : cnd s (mdl 2) (2 - 1) = (Utf8.decode s 0).1 := by rw [hd, e]; simp only [cnd, mdl]; simp; omega
    have hv : Utf8.valid ((Utf8.decode s 0).1 : Int) = true := by rw [hd, e]; exact (valid_iff _).2 (by dsimp only; omega)
    unfold tryN
    rw [ec]
    refine ⟨hv, ?_⟩
    have := enc_of_dec s h0 hv (by rw [hd, e]; dsimp only; omega)
    rw [this, hd, e]
  · right
    refine ⟨3, by omega, by omega, by omega, ?_⟩
    have ec : cnd s (mdl 3) (3 - 1) = (Utf8.decode s 0).1 := by rw [hd, e]; simp only [cnd, mdl]; simp; omega
    have hv : Utf8.valid ((Utf8.decode s 0).1 : Int) = true := by rw [hd, e]; exact (valid_iff _).2 (by dsimp only; omega)
    unfold tryN
    rw [ec]
    refine ⟨hv, ?_⟩
    have := enc_of_dec s h0 hv (by rw [hd, e]; dsimp only; omega)
    rw [this, hd, e]
  · right
    refine ⟨4, by omega, by omega, by omega, ?_⟩
    have ec : cnd s (mdl 4) (4 - 1) = (Utf8.decode s 0).1 := by rw [hd, e]; simp only [cnd, mdl]; simp; omega
    have hv : Utf8.valid ((Utf8.decode s 0).1 : Int) = true := by rw [hd, e]; exact (valid_iff _).2 (by dsimp only; omega)
    unfold tryN
    rw [ec]
    refine ⟨hv, ?_⟩
    have := enc_of_dec s h0 hv (by rw [hd, e]; dsimp only; omega)
    rw [this, hd, e]
  · left
    rw [hd, e]
end Go.Proofs.Ytpknjcdodnoibaa
