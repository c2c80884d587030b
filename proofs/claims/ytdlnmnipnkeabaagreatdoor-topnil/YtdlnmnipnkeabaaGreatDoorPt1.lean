/- QReg, Plain, Plain2, Plain3, Plain4, Plain6, Plain7, Plain8, QPlain: these texts in one. -/
import Derived.WalkKit
import Derived.Deep.QuietTactic
import Derived.BigQuiet
import Derived.Lib.MapLaws
import Derived.Laws.BytesArg
import Derived.Lib.Repeat
namespace Go.Proofs.YtdlnmnipnkeabaaGreatDoor
open Go.RowKit
def Cl (w0 : World) : Type := { w : World // Below w0.heap.size w0 w }
def Cl.w {w0 : World} (x : Cl w0) : World := x.1
theorem Cl.below {w0 : World} (x : Cl w0) : Below w0.heap.size w0 x.w := x.2
theorem Cl.some_one {w0 : World} : Nonempty (Cl w0) := ⟨⟨w0, Below.refl _ _⟩⟩
theorem Cl.cell {w0 : World} (x : Cl w0) {p : Addr} {v : Value} (h : w0.cell? p = some v) : x.w.cell? p = some v := by
 have hp : p.block < w0.heap.size := by
  rcases Nat.lt_or_ge p.block w0.heap.size with h1 | h1
  ·exact h1
  ·simp [World.cell?, Array.getElem?_eq_none h1] at h
 exact (x.2.cell hp).trans h
theorem Cl.call {P : Program} {f : FuncId} {args : Array Value} {w0 : World} {x : Cl w0} {v : Value}
  (h : Calls P f args x.w fun e w' => e = .returned v ∧ Below x.w.heap.size x.w w') : Calls P f args x.w fun e w'' => e = .returned v ∧ ∃ y : Cl w0, w'' = y.w :=
 h.mono fun _ w' ⟨he, hb⟩ => ⟨he, ⟨w', x.2.trans (hb.mono x.2.size)⟩, rfl⟩
theorem Cl.call_same {P : Program} {f : FuncId} {args : Array Value} {w0 : World} {x : Cl w0} {v : Value}
  (h : Calls P f args x.w fun e w' => e = .returned v ∧ w' = x.w) : Calls P f args x.w fun e w'' => e = .returned v ∧ ∃ y : Cl w0, w'' = y.w :=
 h.mono fun _ _ ⟨he, hb⟩ => ⟨he, x, hb⟩
theorem Cl.go {P : Program} {f : FuncId} {args : Array Value} {w0 : World} {x : Cl w0} {v : Value}
  (h : Calls P f args x.w fun e w' => e = .returned v ∧ Below x.w.heap.size x.w w') : Calls P f args x.w fun e w'' => ∃ y : Cl w0, e = .returned v ∧ w'' = y.w :=
 h.mono fun _ w' ⟨he, hb⟩ => ⟨⟨w', x.2.trans (hb.mono x.2.size)⟩, he, rfl⟩
theorem Cl.go0 {P : Program} {f : FuncId} {args : Array Value} {w0 : World} {v : Value}
  (h : Calls P f args w0 fun e w' => e = .returned v ∧ Below w0.heap.size w0 w') : Calls P f args w0 fun e w'' => ∃ y : Cl w0, e = .returned v ∧ w'' = y.w :=
 h.mono fun _ w' ⟨he, hb⟩ => ⟨⟨w', hb⟩, he, rfl⟩
theorem wp_region_above {P : Program} {id : Nat} {Q : Exit → Act → World → Prop} {a : Act} {w : World} {l : List Oper} (w0 : World) (hw : Below w0.heap.size w0 w) (hm : P.follows .mixedOrders = true) (hB : Region.lexB .any l.toArray = true)
  (h : Nonempty (Cl w0) → wpQuiet P l.toArray (fun w' => ∃ x : Cl w0, w' = x.w) (fun a' => ∀ w', (∃ x : Cl w0, w' = x.w) → Q .normal a' w') l a) : (Code.region id l.toArray true).wp P Q a w :=
 wp_region_quiet (C := fun w' => ∃ x : Cl w0, w' = x.w) hm hB ⟨⟨_, hw.drew⟩, rfl⟩ (by simpa using h Cl.some_one)
end Go.Proofs.YtdlnmnipnkeabaaGreatDoor
namespace Go.Proofs.YtdlnmnipnkeabaaGreatDoor
open Go.RowKit
def pt (c : Int) : Nat := if Utf8.valid c then c.toNat else 65533
theorem valid_iff (c : Int) : Utf8.valid c = true ↔ (0 ≤ c ∧ c < 55296) ∨ (57344 ≤ c ∧ c ≤ 1114111) := by
 simp [Utf8.valid]
theorem enc_pt (c : Int) : Utf8.encode c = Utf8.encode (pt c : Int) := by
 unfold pt
 cases h : Utf8.valid c with
 | true =>
   have h' := (valid_iff c).1 h
   simp only [if_true]
   rw [Int.toNat_of_nonneg (by omega)]
 | false =>
   simp only [Bool.false_eq_true, if_false]
   have e : Utf8.valid 65533 = true := (valid_iff _).2 (by omega)
   simp [Utf8.encode, h, Utf8.runeError, e]
theorem pt_valid (c : Int) : Utf8.valid (pt c : Int) = true := by
 unfold pt
 cases h : Utf8.valid c with
 | true =>
   have h' := (valid_iff c).1 h
   simp only [if_true]
   rw [Int.toNat_of_nonneg (by omega)]; exact h
 | false =>
   simp only [Bool.false_eq_true, if_false]
   exact (valid_iff _).2 (by omega)
theorem enc1 (n : Nat) (h : n < 128) : Utf8.encode (n : Int) = ⟨#[UInt8.ofNat n]⟩ := by
 have hv : Utf8.valid (n : Int) = true := (valid_iff _).2 (by omega)
 simp [Utf8.encode, hv, h]
theorem enc2 (n : Nat) (h0 : 128 ≤ n) (h : n < 2048) : Utf8.encode (n : Int) = ⟨#[UInt8.ofNat (192 + n / 64), UInt8.ofNat (128 + n % 64)]⟩ := by
 have hv : Utf8.valid (n : Int) = true := (valid_iff _).2 (by omega)
 have a : ¬ n < 128 := by omega
 simp [Utf8.encode, hv, a, h]
theorem enc3 (n : Nat) (hv : Utf8.valid (n : Int) = true) (h0 : 2048 ≤ n) (h : n < 65536) : Utf8.encode (n : Int) = ⟨#[UInt8.ofNat (224 + n / 4096), UInt8.ofNat (128 + n / 64 % 64), UInt8.ofNat (128 + n % 64)]⟩ := by
 have a : ¬ n < 128 := by omega
 have b : ¬ n < 2048 := by omega
 simp [Utf8.encode, hv, a, b, h]
theorem enc4 (n : Nat) (hv : Utf8.valid (n : Int) = true) (h0 : 65536 ≤ n) : Utf8.encode (n : Int) = ⟨#[UInt8.ofNat (240 + n / 262144), UInt8.ofNat (128 + n / 4096 % 64), UInt8.ofNat (128 + n / 64 % 64), UInt8.ofNat (128 + n % 64)]⟩ := by
 have a : ¬ n < 128 := by omega
 have b : ¬ n < 2048 := by omega
 have c : ¬ n < 65536 := by omega
 simp [Utf8.encode, hv, a, b, c]
theorem str1 (n : Nat) (h : n < 128) : strOfNums [(n : Int)] = Utf8.encode (n : Int) := by
 rw [enc1 n h]; simp [strOfNums]
theorem str2 (n : Nat) (h0 : 128 ≤ n) (h : n < 2048) : strOfNums [192 + (n : Int) / 64, 128 + (n : Int) % 64] = Utf8.encode (n : Int) := by
 rw [enc2 n h0 h]
 have a : (192 + (n : Int) / 64).toNat = 192 + n / 64 := by omega
 have b : (128 + (n : Int) % 64).toNat = 128 + n % 64 := by omega
 simp only [strOfNums, List.map_cons, List.map_nil, a, b]
theorem str3 (n : Nat) (hv : Utf8.valid (n : Int) = true) (h0 : 2048 ≤ n) (h : n < 65536) : strOfNums [224 + (n : Int) / 4096, 128 + (n : Int) / 64 % 64, 128 + (n : Int) % 64] = Utf8.encode (n : Int) := by
 rw [enc3 n hv h0 h]
 have a : (224 + (n : Int) / 4096).toNat = 224 + n / 4096 := by omega
 have b : (128 + (n : Int) / 64 % 64).toNat = 128 + n / 64 % 64 := by omega
 have c : (128 + (n : Int) % 64).toNat = 128 + n % 64 := by omega
 simp only [strOfNums, List.map_cons, List.map_nil, a, b, c]
theorem str4 (n : Nat) (hv : Utf8.valid (n : Int) = true) (h0 : 65536 ≤ n) : strOfNums [240 + (n : Int) / 262144, 128 + (n : Int) / 4096 % 64, 128 + (n : Int) / 64 % 64, 128 + (n : Int) % 64] = Utf8.encode (n : Int) := by
 rw [enc4 n hv h0]
 have a : (240 + (n : Int) / 262144).toNat = 240 + n / 262144 := by omega
 have b : (128 + (n : Int) / 4096 % 64).toNat = 128 + n / 4096 % 64 := by omega
 have c : (128 + (n : Int) / 64 % 64).toNat = 128 + n / 64 % 64 := by omega
 have d : (128 + (n : Int) % 64).toNat = 128 + n % 64 := by omega
 simp only [strOfNums, List.map_cons, List.map_nil, a, b, c, d]
theorem wid_pos (s : ByteArray) (p : Nat) : 1 ≤ (Utf8.decode s p).2 := by
 rw [← Lib.decodeL_drop]; exact Lib.decodeL_width _
theorem wid_le (s : ByteArray) (p : Nat) (h : p < s.size) : p + (Utf8.decode s p).2 ≤ s.size := by
 rw [← Lib.decodeL_drop]
 have hl : s.data.toList.length = s.size := (Lib.size_eq s).symm
 have hne : s.data.toList.drop p ≠ [] := by
  intro h0
  have := congrArg List.length h0
  rw [List.length_drop, hl] at this
  simp only [List.length_nil] at this
  omega
 have := Lib.decodeL_le _ hne
 rw [List.length_drop] at this
 omega
def dec (s : ByteArray) : Nat × Nat := if s.size = 0 then (0, 0) else Utf8.decode s 0
theorem dec_ne (s : ByteArray) (h : 0 < s.size) : dec s = Utf8.decode s 0 := by unfold dec; rw [if_neg (by omega)]
theorem dec_nil (s : ByteArray) (h : s.size = 0) : dec s = (0, 0) := by unfold dec; rw [if_pos h]
theorem iter_below (w : World) (s : ByteArray) (p : Nat) : Below w.heap.size w (w.iter s p) := (Below.refl _ _).alloc (Nat.le_refl _) _
theorem ret_dec {k k' : IntKind} {a b a' b' : Int} (h : a = a') (h' : b = b') : Ending.returned (.tuple #[.int k a, .int k' b]) = .returned (.tuple #[.int k a', .int k' b']) := by rw [h, h']
def cntGo (s : ByteArray) : Nat → Nat → Nat
 | 0, _ => 0
 | f + 1, p => if p < s.size then 1 + cntGo s f (p + (Utf8.decode s p).2) else 0
def cntFrom (s : ByteArray) (p : Nat) : Nat := cntGo s (s.size - p) p
def cntR (s : ByteArray) : Nat := cntFrom s 0
theorem cntGo_fuel (s : ByteArray) : ∀ (f g p : Nat), s.size - p ≤ f → s.size - p ≤ g → cntGo s f p = cntGo s g p
 | 0, 0, _, _, _ => rfl
 | 0, g + 1, p, h, _ => by simp [cntGo, show ¬ p < s.size by omega]
 | f + 1, 0, p, _, h => by simp [cntGo, show ¬ p < s.size by omega]
 | f + 1, g + 1, p, h1, h2 => by
   have hw := wid_pos s p
   by_cases hp : p < s.size
   ·simp only [cntGo, if_pos hp]
    rw [cntGo_fuel s f g _ (by omega) (by omega)]
   ·simp [cntGo, hp]
theorem cntFrom_step (s : ByteArray) (p : Nat) (h : p < s.size) : cntFrom s p = 1 + cntFrom s (p + (Utf8.decode s p).2) := by
 have hw := wid_pos s p
 unfold cntFrom
 obtain ⟨f, hf⟩ : ∃ f, s.size - p = f + 1 := ⟨s.size - p - 1, by omega⟩
 rw [hf]
 simp only [cntGo, if_pos h]
 rw [cntGo_fuel s f _ _ (by omega) (Nat.le_refl _)]
theorem cntFrom_end (s : ByteArray) (p : Nat) (h : ¬ p < s.size) : cntFrom s p = 0 := by
 unfold cntFrom
 rw [show s.size - p = 0 by omega]; rfl
theorem ret_int {k : IntKind} {a b : Int} (h : a = b) : Ending.returned (.int k a) = .returned (.int k b) := by rw [h]
theorem ret_str {a b : ByteArray} (h : a = b) : Ending.returned (.string a) = .returned (.string b) := by rw [h]
end Go.Proofs.YtdlnmnipnkeabaaGreatDoor
namespace Go.Proofs.YtdlnmnipnkeabaaGreatDoor
open Go.RowKit
def wdt (n : Int) : Nat := (min (max n 0) 1000).toNat
theorem wdt_eq (n : Int) : min (max n 0) 1000 = ((wdt n : Nat) : Int) := by unfold wdt; omega
theorem wdt_le (n : Int) : wdt n ≤ 1000 := by unfold wdt; omega
def run (c : Nat) (k : Nat) : ByteArray := ⟨Array.replicate k (UInt8.ofNat c)⟩
theorem run_size (c k : Nat) : (run c k).size = k := by simp [run, ByteArray.size]
def padS (s : ByteArray) (mi z : Bool) (wid : Int) : ByteArray :=
 if mi then s ++ run 32 (wdt ((wdt wid : Nat) - (cntR s : Nat) : Int)) else if z then run 48 (wdt ((wdt wid : Nat) - (cntR s : Nat) : Int)) ++ s else run 32 (wdt ((wdt wid : Nat) - (cntR s : Nat) : Int)) ++ s
theorem cntGo_le (s : ByteArray) : ∀ (f p : Nat), cntGo s f p ≤ s.size - p
 | 0, p => by simp [cntGo]
 | f + 1, p => by
   have hw := wid_pos s p
   by_cases hp : p < s.size
   ·simp only [cntGo, if_pos hp]
    have := cntGo_le s f (p + (Utf8.decode s p).2)
    omega
   ·simp [cntGo, hp]
theorem cntR_le (s : ByteArray) : cntR s ≤ s.size := by
 have := cntGo_le s (s.size - 0) 0
 unfold cntR cntFrom
 omega
end Go.Proofs.YtdlnmnipnkeabaaGreatDoor
namespace Go.Proofs.YtdlnmnipnkeabaaGreatDoor
open Go.RowKit
theorem enc_lib (n : Nat) (hv : Utf8.valid (n : Int) = true) : Utf8.encode (n : Int) = strOfNums (Lib.encodeRuneZ (n : Int)) := by
 have h := (valid_iff _).1 hv
 by_cases h1 : n < 128
 ·rw [Lib.encodeRuneZ_one (by omega) (by omega)]; exact (str1 n h1).symm
 by_cases h2 : n < 2048
 ·rw [Lib.encodeRuneZ_two (by omega) (by omega)]; exact (str2 n (by omega) h2).symm
 by_cases h3 : n < 65536
 ·rw [Lib.encodeRuneZ_three (by omega)]; exact (str3 n hv (by omega) h3).symm
 ·rw [Lib.encodeRuneZ_four (by omega) (by omega)]; exact (str4 n hv (by omega)).symm
theorem enc_list (n : Nat) (hv : Utf8.valid (n : Int) = true) : (Utf8.encode (n : Int)).data.toList = Lib.encodeRune (n : Int) := by
 rw [enc_lib n hv]; rfl
set_option maxHeartbeats 1000000 in
theorem decL_enc (n : Nat) (hv : Utf8.valid (n : Int) = true) (t : List UInt8) : Lib.decodeL ((Utf8.encode (n : Int)).data.toList ++ t) = (n, (Utf8.encode (n : Int)).size) := by
 have h := (valid_iff _).1 hv
 rw [Lib.decodeL_N]
 by_cases h1 : n < 128
 ·rw [enc1 n h1]
  have e0 : (UInt8.ofNat n).toNat = n := by simp; omega
  show Lib.decodeN _ (UInt8.ofNat n).toNat _ _ _ = (n, 1)
  rw [e0]
  unfold Lib.decodeN
  rw [if_pos h1]
 by_cases h2 : n < 2048
 ·rw [enc2 n (by omega) h2]
  have e0 : (UInt8.ofNat (192 + n / 64)).toNat = 192 + n / 64 := by simp; omega
  have e1 : (UInt8.ofNat (128 + n % 64)).toNat = 128 + n % 64 := by simp; omega
  show Lib.decodeN (t.length + 2) (UInt8.ofNat (192 + n / 64)).toNat (UInt8.ofNat (128 + n % 64)).toNat _ _ = (n, 2)
  rw [e0, e1]
  have ec : (192 + n / 64) % 32 * 64 + (128 + n % 64) % 64 = n := by omega
  unfold Lib.decodeN
  rw [if_neg (by omega), if_pos (by omega), ec, if_pos (by omega)]
 by_cases h3 : n < 65536
 ·rw [enc3 n hv (by omega) h3]
  have e0 : (UInt8.ofNat (224 + n / 4096)).toNat = 224 + n / 4096 := by simp; omega
  have e1 : (UInt8.ofNat (128 + n / 64 % 64)).toNat = 128 + n / 64 % 64 := by simp; omega
  have e2 : (UInt8.ofNat (128 + n % 64)).toNat = 128 + n % 64 := by simp; omega
  show Lib.decodeN (t.length + 3) (UInt8.ofNat (224 + n / 4096)).toNat (UInt8.ofNat (128 + n / 64 % 64)).toNat (UInt8.ofNat (128 + n % 64)).toNat _ = (n, 3)
  rw [e0, e1, e2]
  have ec : (224 + n / 4096) % 16 * 4096 + (128 + n / 64 % 64) % 64 * 64 + (128 + n % 64) % 64 = n := by omega
  unfold Lib.decodeN
  rw [if_neg (by omega), if_neg (by omega), if_pos (by omega), ec, if_pos (by omega)]
 ·rw [enc4 n hv (by omega)]
  have e0 : (UInt8.ofNat (240 + n / 262144)).toNat = 240 + n / 262144 := by simp; omega
  have e1 : (UInt8.ofNat (128 + n / 4096 % 64)).toNat = 128 + n / 4096 % 64 := by simp; omega
  have e2 : (UInt8.ofNat (128 + n / 64 % 64)).toNat = 128 + n / 64 % 64 := by simp; omega
  have e3 : (UInt8.ofNat (128 + n % 64)).toNat = 128 + n % 64 := by simp; omega
  show Lib.decodeN (t.length + 4) (UInt8.ofNat (240 + n / 262144)).toNat (UInt8.ofNat (128 + n / 4096 % 64)).toNat (UInt8.ofNat (128 + n / 64 % 64)).toNat (UInt8.ofNat (128 + n % 64)).toNat = (n, 4)
  rw [e0, e1, e2, e3]
  have ec : (240 + n / 262144) % 8 * 262144 + (128 + n / 4096 % 64) % 64 * 4096 + (128 + n / 64 % 64) % 64 * 64 + (128 + n % 64) % 64 = n := by omega
  unfold Lib.decodeN
  rw [if_neg (by omega), if_neg (by omega), if_neg (by omega), if_pos (by omega), ec, if_pos (by omega)]
theorem dec_zero (s : ByteArray) : Utf8.decode s 0 = Lib.decodeL s.data.toList := by
 rw [← Lib.decodeL_drop]; rfl
theorem dec_begins (s : ByteArray) (n : Nat) (hv : Utf8.valid (n : Int) = true) (t : List UInt8) (h : s.data.toList = (Utf8.encode (n : Int)).data.toList ++ t) : Utf8.decode s 0 = (n, (Utf8.encode (n : Int)).size) := by
 rw [dec_zero, h, decL_enc n hv t]
theorem empty_no (s : ByteArray) (h : 0 < s.size) : s.toList.isEmpty = false := by
 rw [Lib.toList_data]
 have := Lib.size_eq s
 cases hl : s.data.toList with
 | nil => rw [hl] at this; simp only [List.length_nil] at this; omega
 | cons a b => rfl
theorem empty_yes (s : ByteArray) (h : s.size = 0) : s.toList.isEmpty = true := by
 rw [Lib.toList_data]
 have := Lib.size_eq s
 cases hl : s.data.toList with
 | nil => rfl
 | cons a b => rw [hl] at this; simp only [List.length_cons] at this; omega
def bt (s : ByteArray) (i : Nat) : Nat := (s.get! i).toNat
theorem bt_lt (s : ByteArray) (i : Nat) : bt s i < 256 := (s.get! i).toNat_lt
def cnd (s : ByteArray) (m : Nat) : Nat → Nat
 | 0 => bt s 0 % m
 | i + 1 => 64 * cnd s m i + bt s (i + 1) % 64
def tryN (s : ByteArray) (m n : Nat) : Prop := Utf8.valid (cnd s m (n - 1) : Int) = true ∧ Utf8.encode (cnd s m (n - 1) : Int) = s.extract 0 n
theorem ext_list (s : ByteArray) (n : Nat) : (s.extract 0 n).data.toList = s.data.toList.take n := by
 rw [ByteArray.data_extract, Array.toList_extract]; simp
theorem try_dec (s : ByteArray) (m n : Nat) (hn : n ≤ s.size) (h : tryN s m n) : Utf8.decode s 0 = (cnd s m (n - 1), n) := by
 obtain ⟨hv, he⟩ := h
 have hz : (Utf8.encode (cnd s m (n - 1) : Int)).size = n := by
  rw [he, ByteArray.size_extract]; omega
 rw [dec_begins s _ hv (s.data.toList.drop n) ?_, hz]
 rw [he, ext_list, List.take_append_drop]
def mdl (n : Nat) : Nat := if n = 2 then 32 else if n = 3 then 16 else if n = 4 then 8 else 256
theorem val_int {k : IntKind} {a b : Int} (h : a = b) : Value.int k a = .int k b := by rw [h]
theorem enc_of_dec (s : ByteArray) (h0 : 0 < s.size) (hv : Utf8.valid ((Utf8.decode s 0).1 : Int) = true) (hb : ¬ ((Utf8.decode s 0).1 = 65533 ∧ (Utf8.decode s 0).2 = 1)) :
  Utf8.encode ((Utf8.decode s 0).1 : Int) = s.extract 0 (Utf8.decode s 0).2 := by
 have hne : s.data.toList ≠ [] := by
  intro h
  have := congrArg List.length h
  rw [← Lib.size_eq s] at this
  simp only [List.length_nil] at this
  omega
 rw [dec_zero] at hv hb ⊢
 have h := Lib.encode_decode _ hne hb
 apply ByteArray.ext
 apply Array.ext'
 rw [enc_list _ hv, h, ext_list]
set_option maxHeartbeats 1000000 in
theorem dec_some (s : ByteArray) (h0 : 0 < s.size) : Utf8.decode s 0 = (65533, 1) ∨ ∃ n, 1 ≤ n ∧ n ≤ 4 ∧ n ≤ s.size ∧ tryN s (mdl n) n := by
 have k0 := bt_lt s 0
 have k1 := bt_lt s 1
 have k2 := bt_lt s 2
 have k3 := bt_lt s 3
 have hd : Utf8.decode s 0 = Lib.decodeN s.size (bt s 0) (bt s 1) (bt s 2) (bt s 3) := by rw [Lib.decode_at]; rfl
 rcases Lib.decodeN_shape s.size (bt s 0) (bt s 1) (bt s 2) (bt s 3) with ⟨c, e⟩ | ⟨c1, c2, c3, cv, e⟩ | ⟨c1, c2, c3, c4, cv, cs, e⟩ | ⟨c1, c2, c3, c4, c5, cv, cw, e⟩ | e
 ·right
  refine ⟨1, by omega, by omega, by omega, ?_⟩
  have ec : cnd s (mdl 1) (1 - 1) = (Utf8.decode s 0).1 := by rw [hd, e]; show bt s 0 % 256 = bt s 0; omega
  have hv : Utf8.valid ((Utf8.decode s 0).1 : Int) = true := by rw [hd, e]; exact (valid_iff _).2 (by dsimp only; omega)
  unfold tryN
  rw [ec]
  refine ⟨hv, ?_⟩
  have := enc_of_dec s h0 hv (by rw [hd, e]; dsimp only; omega)
  rw [this, hd, e]
 ·right
  refine ⟨2, by omega, by omega, by omega, ?_⟩
  have ec : cnd s (mdl 2) (2 - 1) = (Utf8.decode s 0).1 := by rw [hd, e]; simp only [cnd, mdl]; simp; omega
  have hv : Utf8.valid ((Utf8.decode s 0).1 : Int) = true := by rw [hd, e]; exact (valid_iff _).2 (by dsimp only; omega)
  unfold tryN
  rw [ec]
  refine ⟨hv, ?_⟩
  have := enc_of_dec s h0 hv (by rw [hd, e]; dsimp only; omega)
  rw [this, hd, e]
 ·right
  refine ⟨3, by omega, by omega, by omega, ?_⟩
  have ec : cnd s (mdl 3) (3 - 1) = (Utf8.decode s 0).1 := by rw [hd, e]; simp only [cnd, mdl]; simp; omega
  have hv : Utf8.valid ((Utf8.decode s 0).1 : Int) = true := by rw [hd, e]; exact (valid_iff _).2 (by dsimp only; omega)
  unfold tryN
  rw [ec]
  refine ⟨hv, ?_⟩
  have := enc_of_dec s h0 hv (by rw [hd, e]; dsimp only; omega)
  rw [this, hd, e]
 ·right
  refine ⟨4, by omega, by omega, by omega, ?_⟩
  have ec : cnd s (mdl 4) (4 - 1) = (Utf8.decode s 0).1 := by rw [hd, e]; simp only [cnd, mdl]; simp; omega
  have hv : Utf8.valid ((Utf8.decode s 0).1 : Int) = true := by rw [hd, e]; exact (valid_iff _).2 (by dsimp only; omega)
  unfold tryN
  rw [ec]
  refine ⟨hv, ?_⟩
  have := enc_of_dec s h0 hv (by rw [hd, e]; dsimp only; omega)
  rw [this, hd, e]
 ·left
  rw [hd, e]
end Go.Proofs.YtdlnmnipnkeabaaGreatDoor
namespace Go.Proofs.YtdlnmnipnkeabaaGreatDoor
open Go.RowKit
theorem tail_list (s : ByteArray) (a : Nat) : (s.extract a s.size).data.toList = s.data.toList.drop a := by
 rw [ByteArray.data_extract, Array.toList_extract]
 apply List.take_of_length_le
 rw [List.length_drop, ← Lib.size_eq s]
 exact Nat.le_refl _
theorem tail_size (s : ByteArray) (a : Nat) : (s.extract a s.size).size = s.size - a := by
 rw [ByteArray.size_extract]; omega
theorem dec_shift (s : ByteArray) (a p : Nat) : Utf8.decode (s.extract a s.size) p = Utf8.decode s (a + p) := by
 rw [← Lib.decodeL_drop, ← Lib.decodeL_drop, tail_list, List.drop_drop]
theorem cntGo_shift (s : ByteArray) (a : Nat) : ∀ (f p : Nat), cntGo (s.extract a s.size) f p = cntGo s f (a + p)
 | 0, _ => rfl
 | f + 1, p => by
   have e := tail_size s a
   by_cases h : p < s.size - a
   ·simp only [cntGo, e, if_pos h, if_pos (show a + p < s.size by omega)]
    rw [cntGo_shift s a f, dec_shift, Nat.add_assoc]
   ·simp only [cntGo, e, if_neg h, if_neg (show ¬ a + p < s.size by omega)]
theorem cntR_tail (s : ByteArray) (a : Nat) : cntR (s.extract a s.size) = cntFrom s a := by
 unfold cntR cntFrom
 rw [cntGo_shift, tail_size]; rfl
theorem dec_tail (s : ByteArray) (a : Nat) (h : a < s.size) : dec (s.extract a s.size) = Utf8.decode s a := by
 rw [dec_ne _ (by rw [tail_size]; omega), dec_shift]; rfl
def posGo (s : ByteArray) : Nat → Nat → Nat
 | 0, p => p
 | k + 1, p => if p < s.size then posGo s k (p + (Utf8.decode s p).2) else p
theorem posGo_end (s : ByteArray) (k p : Nat) (h : ¬ p < s.size) : posGo s k p = p := by
 cases k with
 | zero => rfl
 | succ k => simp [posGo, h]
theorem posGo_step (s : ByteArray) (k p : Nat) (h : p < s.size) : posGo s (k + 1) p = posGo s k (p + (Utf8.decode s p).2) := by
 simp only [posGo, if_pos h]
theorem posGo_le (s : ByteArray) : ∀ (k p : Nat), p ≤ s.size → posGo s k p ≤ s.size
 | 0, p, h => h
 | k + 1, p, h => by
   by_cases hp : p < s.size
   ·rw [posGo_step s k p hp]; exact posGo_le s k _ (wid_le s p hp)
   ·rw [posGo_end s _ p hp]; exact h
def cutS (s : ByteArray) (n : Int) : ByteArray := if n < 0 then s else s.extract 0 (posGo s n.toNat 0)
theorem extract_all (s : ByteArray) : s.extract 0 s.size = s := by
 apply ByteArray.ext
 apply Array.ext'
 rw [ext_list, Lib.size_eq s, List.take_length]
end Go.Proofs.YtdlnmnipnkeabaaGreatDoor
namespace Go.Proofs.YtdlnmnipnkeabaaGreatDoor
open Go.RowKit
theorem app_list (a b : ByteArray) : (a ++ b).data.toList = a.data.toList ++ b.data.toList := by
 rw [ByteArray.data_append, Array.toList_append]
theorem app_size (a b : ByteArray) : (a ++ b).size = a.size + b.size := by
 rw [Lib.size_eq, app_list, List.length_append, ← Lib.size_eq, ← Lib.size_eq]
theorem run_list (c k : Nat) : (run c k).data.toList = List.replicate k (UInt8.ofNat c) := by
 show (Array.replicate k (UInt8.ofNat c)).toList = _
 rw [Array.toList_replicate]
end Go.Proofs.YtdlnmnipnkeabaaGreatDoor
namespace Go.Proofs.YtdlnmnipnkeabaaGreatDoor
open Go.RowKit
set_option maxHeartbeats 1000000 in
theorem decodeN_trunc (n n' b0 b1 b2 b3 c1 c2 c3 : Nat) (hn : n' ≤ n) (h1 : 1 < n' → c1 = b1) (h2 : 2 < n' → c2 = b2) (h3 : 3 < n' → c3 = b3)
  (hw : (Lib.decodeN n b0 b1 b2 b3).2 ≤ n') : Lib.decodeN n' b0 c1 c2 c3 = Lib.decodeN n b0 b1 b2 b3 := by
 rcases Lib.decodeN_shape n b0 b1 b2 b3 with ⟨c, e⟩ | ⟨d1, d2, d3, cv, e⟩ | ⟨d1, d2, d3, d4, cv, cs, e⟩ | ⟨d1, d2, d3, d4, d5, cv, cw, e⟩ | e
 ·rw [e]; unfold Lib.decodeN; rw [if_pos c]
 ·rw [e] at hw ⊢
  dsimp only at hw
  have g1 := h1 (by omega)
  subst g1
  unfold Lib.decodeN
  rw [if_neg (by omega), if_pos (by omega), if_pos (by omega)]
 ·rw [e] at hw ⊢
  dsimp only at hw
  have g1 := h1 (by omega)
  have g2 := h2 (by omega)
  subst g1 g2
  unfold Lib.decodeN
  rw [if_neg (by omega), if_neg (by omega), if_pos (by omega), if_pos (by omega)]
 ·rw [e] at hw ⊢
  dsimp only at hw
  have g1 := h1 (by omega)
  have g2 := h2 (by omega)
  have g3 := h3 (by omega)
  subst g1 g2 g3
  unfold Lib.decodeN
  rw [if_neg (by omega), if_neg (by omega), if_neg (by omega), if_pos (by omega), if_pos (by omega)]
 ·rcases Lib.decodeN_shape n' b0 c1 c2 c3 with ⟨c, e'⟩ | ⟨d1, d2, d3, cv, e'⟩ | ⟨d1, d2, d3, d4, cv, cs, e'⟩ | ⟨d1, d2, d3, d4, d5, cv, cw, e'⟩ | e'
  ·exfalso
   have : Lib.decodeN n b0 b1 b2 b3 = (b0, 1) := by unfold Lib.decodeN; rw [if_pos c]
   rw [e] at this
   have := congrArg Prod.fst this
   dsimp only at this
   omega
  ·exfalso
   have g1 := h1 d2
   subst g1
   have : Lib.decodeN n b0 c1 b2 b3 = (b0 % 32 * 64 + c1 % 64, 2) := by
    unfold Lib.decodeN
    rw [if_neg (by omega), if_pos (by omega), if_pos (by omega)]
   rw [e] at this
   have := congrArg Prod.snd this
   dsimp only at this
   omega
  ·exfalso
   have g1 := h1 (by omega)
   have g2 := h2 d2
   subst g1 g2
   have : Lib.decodeN n b0 c1 c2 b3 = (b0 % 16 * 4096 + c1 % 64 * 64 + c2 % 64, 3) := by
    unfold Lib.decodeN
    rw [if_neg (by omega), if_neg (by omega), if_pos (by omega), if_pos (by omega)]
   rw [e] at this
   have := congrArg Prod.snd this
   dsimp only at this
   omega
  ·exfalso
   have g1 := h1 (by omega)
   have g2 := h2 (by omega)
   have g3 := h3 d2
   subst g1 g2 g3
   have : Lib.decodeN n b0 c1 c2 c3 = (b0 % 8 * 262144 + c1 % 64 * 4096 + c2 % 64 * 64 + c3 % 64, 4) := by
    unfold Lib.decodeN
    rw [if_neg (by omega), if_neg (by omega), if_neg (by omega), if_pos (by omega), if_pos (by omega)]
   rw [e] at this
   have := congrArg Prod.snd this
   dsimp only at this
   omega
  ·rw [e, e']
theorem head_size (u : ByteArray) (P : Nat) (h : P ≤ u.size) : (u.extract 0 P).size = P := by
 rw [ByteArray.size_extract]; omega
theorem bt_head (u : ByteArray) (P i : Nat) (hi : i < P) : bt (u.extract 0 P) i = bt u i := by
 unfold bt
 rw [← Lib.getD_get!', ← Lib.getD_get!', ext_list]
 simp only [List.getD, List.getElem?_take, if_pos hi]
theorem dec_head (u : ByteArray) (P p : Nat) (hP : P ≤ u.size) (hp : p < P) (hw : p + (Utf8.decode u p).2 ≤ P) : Utf8.decode (u.extract 0 P) p = Utf8.decode u p := by
 have hz := head_size u P hP
 rw [Lib.decode_at] at hw
 rw [Lib.decode_at, Lib.decode_at, hz]
 have e0 : ((u.extract 0 P).get! p).toNat = (u.get! p).toNat := bt_head u P p hp
 rw [e0]
 apply decodeN_trunc
 ·omega
 ·intro h; exact bt_head u P (p + 1) (by omega)
 ·intro h; exact bt_head u P (p + 2) (by omega)
 ·intro h; exact bt_head u P (p + 3) (by omega)
 ·omega
theorem posGo_ge (u : ByteArray) : ∀ (N p : Nat), p ≤ posGo u N p
 | 0, p => Nat.le_refl _
 | N + 1, p => by
   by_cases hp : p < u.size
   ·rw [posGo_step u N p hp]
    have := posGo_ge u N (p + (Utf8.decode u p).2)
    omega
   ·rw [posGo_end u _ p hp]; exact Nat.le_refl _
theorem cnt_rest (u : ByteArray) : ∀ (N p : Nat), cntFrom u (posGo u N p) + min N (cntFrom u p) = cntFrom u p
 | 0, p => by simp [posGo]
 | N + 1, p => by
   by_cases hp : p < u.size
   ·rw [posGo_step u N p hp, cntFrom_step u p hp]
    have := cnt_rest u N (p + (Utf8.decode u p).2)
    omega
   ·rw [posGo_end u _ p hp, cntFrom_end u p hp]; omega
theorem cnt_head (u : ByteArray) : ∀ (N p P : Nat), p ≤ u.size → P = posGo u N p → cntFrom (u.extract 0 P) p = min N (cntFrom u p)
 | 0, p, P, h, e => by
   have : P = p := e
   subst this
   rw [cntFrom_end _ _ (by rw [head_size u P h]; omega)]
   omega
 | N + 1, p, P, h, e => by
   have hPl : P ≤ u.size := by rw [e]; exact posGo_le u _ p h
   by_cases hp : p < u.size
   ·rw [posGo_step u N p hp] at e
    have hge := posGo_ge u N (p + (Utf8.decode u p).2)
    have hw := wid_pos u p
    have hl := wid_le u p hp
    rw [← e] at hge
    rw [cntFrom_step _ p (by rw [head_size u P hPl]; omega), dec_head u P p hPl (by omega) hge, cnt_head u N _ P hl e, cntFrom_step u p hp]
    omega
   ·rw [posGo_end u _ p hp] at e
    subst e
    rw [cntFrom_end _ _ (by rw [head_size u P h]; omega), cntFrom_end u _ hp]
    omega
theorem cut_facts (u : ByteArray) (n : Int) : (cutS u n).size ≤ u.size ∧ u.extract 0 (cutS u n).size = cutS u n ∧
  (0 ≤ n → min n (cntR u : Int) = (cntR (cutS u n) : Nat)) ∧ (n < 0 → cntR (cutS u n) = cntR u) ∧ cntR (u.extract (cutS u n).size u.size) + cntR (cutS u n) = cntR u := by
 by_cases hn : n < 0
 ·have e : cutS u n = u := by unfold cutS; rw [if_pos hn]
  rw [e]
  refine ⟨Nat.le_refl _, extract_all u, fun h => by omega, fun _ => rfl, ?_⟩
  rw [cntR_tail, cntFrom_end u _ (by omega)]; omega
 ·have e : cutS u n = u.extract 0 (posGo u n.toNat 0) := by unfold cutS; rw [if_neg hn]
  have hPl := posGo_le u n.toNat 0 (Nat.zero_le _)
  have hz := head_size u _ hPl
  have hc : cntR (cutS u n) = min n.toNat (cntR u) := by
   rw [e]; exact cnt_head u n.toNat 0 _ (Nat.zero_le _) rfl
  have hr := cnt_rest u n.toNat 0
  refine ⟨by rw [e, hz]; exact hPl, by rw [e, hz], fun h => by rw [hc]; omega, fun h => by omega, ?_⟩
  rw [cntR_tail, hc, e, hz]
  exact hr
theorem enc_size_le (c : Int) : (Utf8.encode c).size ≤ 4 := by
 rw [enc_pt c, enc_lib _ (pt_valid c), strOfNums_size]
 exact (Lib.encodeRuneZ_length (pt c : Int)).2
end Go.Proofs.YtdlnmnipnkeabaaGreatDoor
namespace Go.Proofs.YtdlnmnipnkeabaaGreatDoor
open Go.RowKit
def brk (d : Nat × Nat) : Bool := d.1 == 65533 && d.2 == 1
end Go.Proofs.YtdlnmnipnkeabaaGreatDoor
namespace Go.Proofs.YtdlnmnipnkeabaaGreatDoor
open Go.RowKit
theorem list_len (s : ByteArray) : s.data.toList.length = s.size := (Lib.size_eq s).symm
def plainP (c : Int) : Bool := decide ((32 ≤ c ∧ c ≤ 126) ∨ (161 ≤ c ∧ c ≤ 55295 ∧ c ≠ 173) ∨ (57344 ≤ c ∧ c ≤ 65532) ∨ (65536 ≤ c ∧ c ≤ 1114111))
theorem plainP_iff (c : Int) : plainP c = true ↔ ((32 ≤ c ∧ c ≤ 126) ∨ (161 ≤ c ∧ c ≤ 55295 ∧ c ≠ 173) ∨ (57344 ≤ c ∧ c ≤ 65532) ∨ (65536 ≤ c ∧ c ≤ 1114111)) := by
 unfold plainP; exact decide_eq_true_iff
theorem plainP_not (c : Int) : plainP c = false ↔ ¬ ((32 ≤ c ∧ c ≤ 126) ∨ (161 ≤ c ∧ c ≤ 55295 ∧ c ≠ 173) ∨ (57344 ≤ c ∧ c ≤ 65532) ∨ (65536 ≤ c ∧ c ≤ 1114111)) := by
 unfold plainP; exact decide_eq_false_iff_not
def hexN (g : Bool) (n : Nat) : Nat := if n < 10 then 48 + n else if g then 55 + n else 87 + n
def hexB (g : Bool) (n : Nat) : UInt8 := UInt8.ofNat (hexN g n)
def hexL : Nat → Nat → List UInt8
 | _, 0 => []
 | n, k + 1 => hexL (n / 16) k ++ [hexB false (n % 16)]
theorem hexL_len : ∀ (k n : Nat), (hexL n k).length = k
 | 0, _ => rfl
 | k + 1, n => by simp [hexL, hexL_len k]
theorem hexL_more (c k m : Nat) (h : m + 1 ≤ k) : hexL (c / 16 ^ m) (k - m) = hexL (c / 16 ^ (m + 1)) (k - (m + 1)) ++ [hexB false (c / 16 ^ m % 16)] := by
 obtain ⟨j, hj⟩ : ∃ j, k - m = j + 1 := ⟨k - m - 1, by omega⟩
 rw [hj, show k - (m + 1) = j by omega]
 simp only [hexL]
 rw [Nat.div_div_eq_div_mul, Nat.pow_succ]
def escT : Nat → Nat
 | 0 => 97
 | 1 => 98
 | 2 => 116
 | 3 => 110
 | 4 => 118
 | 5 => 102
 | _ => 114
def inL (c q : Nat) (a : Bool) : List UInt8 :=
 if c = q ∨ c = 92 then [92, UInt8.ofNat c]
 else if 7 ≤ c ∧ c ≤ 13 then [92, UInt8.ofNat (escT (c - 7))]
 else if plainP c = true ∧ (c ≤ 126 ∨ a = false) then (Utf8.encode (c : Int)).data.toList
 else if c < 128 then 92 :: 120 :: hexL c 2
 else if c ≤ 65535 then 92 :: 117 :: hexL c 4
 else 92 :: 85 :: hexL c 8
def itemL (a : Bool) (l : List UInt8) : List UInt8 :=
 if brk (Lib.decodeL l) = true then 92 :: 120 :: hexL (l.getD 0 0).toNat 2 else inL (Lib.decodeL l).1 34 a
def quoG (a : Bool) : Nat → List UInt8 → List UInt8
 | 0, _ => []
 | f + 1, l => if l = [] then [] else itemL a l ++ quoG a f (l.drop (Lib.decodeL l).2)
def quoI (a : Bool) (l : List UInt8) : List UInt8 := quoG a l.length l
def quoS (s : ByteArray) (a : Bool) : ByteArray := ⟨(34 :: (quoI a s.data.toList ++ [34])).toArray⟩
theorem quoG_fuel (a : Bool) : ∀ (f g : Nat) (l : List UInt8), l.length ≤ f → l.length ≤ g → quoG a f l = quoG a g l
 | 0, 0, _, _, _ => rfl
 | 0, g + 1, l, h, _ => by
   have : l = [] := List.eq_nil_of_length_eq_zero (by omega)
   simp [quoG, this]
 | f + 1, 0, l, _, h => by
   have : l = [] := List.eq_nil_of_length_eq_zero (by omega)
   simp [quoG, this]
 | f + 1, g + 1, l, h1, h2 => by
   by_cases hl : l = []
   ·simp [quoG, hl]
   ·have hw := Lib.decodeL_width l
    have hn : l.length ≠ 0 := fun h => hl (List.eq_nil_of_length_eq_zero h)
    simp only [quoG, if_neg hl]
    rw [quoG_fuel a f g _ (by rw [List.length_drop]; omega) (by rw [List.length_drop]; omega)]
theorem quoI_nil (a : Bool) : quoI a [] = [] := rfl
theorem quoI_step (a : Bool) (l : List UInt8) (hl : l ≠ []) : quoI a l = itemL a l ++ quoI a (l.drop (Lib.decodeL l).2) := by
 have hw := Lib.decodeL_width l
 have hn : l.length ≠ 0 := fun h => hl (List.eq_nil_of_length_eq_zero h)
 unfold quoI
 obtain ⟨f, hf⟩ : ∃ f, l.length = f + 1 := ⟨l.length - 1, by omega⟩
 rw [hf]
 simp only [quoG, if_neg hl]
 rw [quoG_fuel a f _ _ (by rw [List.length_drop]; omega) (Nat.le_refl _)]
theorem enc_len (c : Nat) : (Utf8.encode (c : Int)).data.toList.length ≤ 4 := by
 have := enc_size_le (c : Int)
 rw [list_len]
 exact this
theorem inL_len (c q : Nat) (a : Bool) : (inL c q a).length ≤ 10 := by
 have := enc_len c
 unfold inL
 split
 ·simp
 ·split
  ·simp
  ·split
   ·omega
   ·split
    ·simp [hexL_len]
    ·split <;> simp [hexL_len]
theorem itemL_len (a : Bool) (l : List UInt8) : (itemL a l).length ≤ 10 := by
 unfold itemL
 split
 ·simp [hexL_len]
 ·exact inL_len _ _ _
theorem quoI_len (a : Bool) : ∀ (n : Nat) (l : List UInt8), l.length ≤ n → (quoI a l).length ≤ 10 * l.length
 | 0, l, h => by
   have : l = [] := List.eq_nil_of_length_eq_zero (by omega)
   subst this; simp [quoI_nil]
 | n + 1, l, h => by
   by_cases hl : l = []
   ·subst hl; simp [quoI_nil]
   ·have hw := Lib.decodeL_width l
    have hle := Lib.decodeL_le l hl
    have hn : l.length ≠ 0 := fun h => hl (List.eq_nil_of_length_eq_zero h)
    rw [quoI_step a l hl, List.length_append]
    have h1 := itemL_len a l
    have h2 := quoI_len a n (l.drop (Lib.decodeL l).2) (by rw [List.length_drop]; omega)
    rw [List.length_drop] at h2
    omega
theorem quoS_size (s : ByteArray) (a : Bool) : (quoS s a).size ≤ 10 * s.size + 2 := by
 have h := quoI_len a s.size s.data.toList (by rw [list_len]; exact Nat.le_refl _)
 rw [list_len] at h
 show (34 :: (quoI a s.data.toList ++ [34])).toArray.size ≤ _
 simp
 omega
theorem ba_app (a b : List UInt8) : (⟨a.toArray⟩ : ByteArray) ++ ⟨b.toArray⟩ = ⟨(a ++ b).toArray⟩ := by
 apply ByteArray.ext
 rw [ByteArray.data_append]
 simp
theorem ba_list (s : ByteArray) : (⟨s.data.toList.toArray⟩ : ByteArray) = s := by
 apply ByteArray.ext; simp
theorem dec_tail_list (s : ByteArray) (p : Nat) : Lib.decodeL (s.data.toList.drop p) = Utf8.decode s p := Lib.decodeL_drop s p
end Go.Proofs.YtdlnmnipnkeabaaGreatDoor
