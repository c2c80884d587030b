/- QReg, Plain, Plain2, Plain3, Plain4, Plain6: these texts in one. -/
import Derived.WalkKit
import Derived.Deep.QuietTactic
import Derived.BigQuiet
import Derived.Lib.MapLaws
import Derived.Laws.BytesArg
import Derived.Lib.Repeat
namespace Go.Proofs.YtjfmhghpkefihaaGreatDoor
open Go.RowKit
def Cl (w0 : World) : Type := { w : World // Below w0.heap.size w0 w }
def Cl.w {w0 : World} (x : Cl w0) : World := x.1
theorem Cl.below {w0 : World} (x : Cl w0) : Below w0.heap.size w0 x.w := x.2
theorem Cl.some_one {w0 : World} : Nonempty (Cl w0) := ⟨⟨w0, Below.refl _ _⟩⟩
theorem Cl.cell {w0 : World} (x : Cl w0) {p : Addr} {v : Value} (h : w0.cell? p = some v) : x.w.cell? p = some v := by
 have hp : p.block < w0.heap.size := by
  rcases Nat.lt_or_ge p.block w0.heap.size with h1 | h1
  ·exact h1
  ·simp [World.cell?, Array.getElem?_eq_none h1] at h
 exact (x.2.cell hp).trans h
theorem Cl.call {P : Program} {f : FuncId} {args : Array Value} {w0 : World} {x : Cl w0} {v : Value}
  (h : Calls P f args x.w fun e w' => e = .returned v ∧ Below x.w.heap.size x.w w') : Calls P f args x.w fun e w'' => e = .returned v ∧ ∃ y : Cl w0, w'' = y.w :=
 h.mono fun _ w' ⟨he, hb⟩ => ⟨he, ⟨w', x.2.trans (hb.mono x.2.size)⟩, rfl⟩
theorem Cl.call_same {P : Program} {f : FuncId} {args : Array Value} {w0 : World} {x : Cl w0} {v : Value}
  (h : Calls P f args x.w fun e w' => e = .returned v ∧ w' = x.w) : Calls P f args x.w fun e w'' => e = .returned v ∧ ∃ y : Cl w0, w'' = y.w :=
 h.mono fun _ _ ⟨he, hb⟩ => ⟨he, x, hb⟩
theorem Cl.go {P : Program} {f : FuncId} {args : Array Value} {w0 : World} {x : Cl w0} {v : Value}
  (h : Calls P f args x.w fun e w' => e = .returned v ∧ Below x.w.heap.size x.w w') : Calls P f args x.w fun e w'' => ∃ y : Cl w0, e = .returned v ∧ w'' = y.w :=
 h.mono fun _ w' ⟨he, hb⟩ => ⟨⟨w', x.2.trans (hb.mono x.2.size)⟩, he, rfl⟩
theorem Cl.go0 {P : Program} {f : FuncId} {args : Array Value} {w0 : World} {v : Value}
  (h : Calls P f args w0 fun e w' => e = .returned v ∧ Below w0.heap.size w0 w') : Calls P f args w0 fun e w'' => ∃ y : Cl w0, e = .returned v ∧ w'' = y.w :=
 h.mono fun _ w' ⟨he, hb⟩ => ⟨⟨w', hb⟩, he, rfl⟩
theorem wp_region_above {P : Program} {id : Nat} {Q : Exit → Act → World → Prop} {a : Act} {w : World} {l : List Oper} (w0 : World) (hw : Below w0.heap.size w0 w) (hm : P.follows .mixedOrders = true) (hB : Region.lexB .any l.toArray = true)
  (h : Nonempty (Cl w0) → wpQuiet P l.toArray (fun w' => ∃ x : Cl w0, w' = x.w) (fun a' => ∀ w', (∃ x : Cl w0, w' = x.w) → Q .normal a' w') l a) : (Code.region id l.toArray true).wp P Q a w :=
 wp_region_quiet (C := fun w' => ∃ x : Cl w0, w' = x.w) hm hB ⟨⟨_, hw.drew⟩, rfl⟩ (by simpa using h Cl.some_one)
end Go.Proofs.YtjfmhghpkefihaaGreatDoor
namespace Go.Proofs.YtjfmhghpkefihaaGreatDoor
open Go.RowKit
def pt (c : Int) : Nat := if Utf8.valid c then c.toNat else 65533
theorem valid_iff (c : Int) : Utf8.valid c = true ↔ (0 ≤ c ∧ c < 55296) ∨ (57344 ≤ c ∧ c ≤ 1114111) := by
 simp [Utf8.valid]
theorem enc_pt (c : Int) : Utf8.encode c = Utf8.encode (pt c : Int) := by
 unfold pt
 cases h : Utf8.valid c with
 | true =>
   have h' := (valid_iff c).1 h
   simp only [if_true]
   rw [Int.toNat_of_nonneg (by omega)]
 | false =>
   simp only [Bool.false_eq_true, if_false]
   have e : Utf8.valid 65533 = true := (valid_iff _).2 (by omega)
   simp [Utf8.encode, h, Utf8.runeError, e]
theorem pt_valid (c : Int) : Utf8.valid (pt c : Int) = true := by
 unfold pt
 cases h : Utf8.valid c with
 | true =>
   have h' := (valid_iff c).1 h
   simp only [if_true]
   rw [Int.toNat_of_nonneg (by omega)]; exact h
 | false =>
   simp only [Bool.false_eq_true, if_false]
   exact (valid_iff _).2 (by omega)
theorem enc1 (n : Nat) (h : n < 128) : Utf8.encode (n : Int) = ⟨#[UInt8.ofNat n]⟩ := by
 have hv : Utf8.valid (n : Int) = true := (valid_iff _).2 (by omega)
 simp [Utf8.encode, hv, h]
theorem enc2 (n : Nat) (h0 : 128 ≤ n) (h : n < 2048) : Utf8.encode (n : Int) = ⟨#[UInt8.ofNat (192 + n / 64), UInt8.ofNat (128 + n % 64)]⟩ := by
 have hv : Utf8.valid (n : Int) = true := (valid_iff _).2 (by omega)
 have a : ¬ n < 128 := by omega
 simp [Utf8.encode, hv, a, h]
theorem enc3 (n : Nat) (hv : Utf8.valid (n : Int) = true) (h0 : 2048 ≤ n) (h : n < 65536) : Utf8.encode (n : Int) = ⟨#[UInt8.ofNat (224 + n / 4096), UInt8.ofNat (128 + n / 64 % 64), UInt8.ofNat (128 + n % 64)]⟩ := by
 have a : ¬ n < 128 := by omega
 have b : ¬ n < 2048 := by omega
 simp [Utf8.encode, hv, a, b, h]
theorem enc4 (n : Nat) (hv : Utf8.valid (n : Int) = true) (h0 : 65536 ≤ n) : Utf8.encode (n : Int) = ⟨#[UInt8.ofNat (240 + n / 262144), UInt8.ofNat (128 + n / 4096 % 64), UInt8.ofNat (128 + n / 64 % 64), UInt8.ofNat (128 + n % 64)]⟩ := by
 have a : ¬ n < 128 := by omega
 have b : ¬ n < 2048 := by omega
 have c : ¬ n < 65536 := by omega
 simp [Utf8.encode, hv, a, b, c]
theorem str1 (n : Nat) (h : n < 128) : strOfNums [(n : Int)] = Utf8.encode (n : Int) := by
 rw [enc1 n h]; simp [strOfNums]
theorem str2 (n : Nat) (h0 : 128 ≤ n) (h : n < 2048) : strOfNums [192 + (n : Int) / 64, 128 + (n : Int) % 64] = Utf8.encode (n : Int) := by
 rw [enc2 n h0 h]
 have a : (192 + (n : Int) / 64).toNat = 192 + n / 64 := by omega
 have b : (128 + (n : Int) % 64).toNat = 128 + n % 64 := by omega
 simp only [strOfNums, List.map_cons, List.map_nil, a, b]
theorem str3 (n : Nat) (hv : Utf8.valid (n : Int) = true) (h0 : 2048 ≤ n) (h : n < 65536) : strOfNums [224 + (n : Int) / 4096, 128 + (n : Int) / 64 % 64, 128 + (n : Int) % 64] = Utf8.encode (n : Int) := by
 rw [enc3 n hv h0 h]
 have a : (224 + (n : Int) / 4096).toNat = 224 + n / 4096 := by omega
 have b : (128 + (n : Int) / 64 % 64).toNat = 128 + n / 64 % 64 := by omega
 have c : (128 + (n : Int) % 64).toNat = 128 + n % 64 := by omega
 simp only [strOfNums, List.map_cons, List.map_nil, a, b, c]
theorem str4 (n : Nat) (hv : Utf8.valid (n : Int) = true) (h0 : 65536 ≤ n) : strOfNums [240 + (n : Int) / 262144, 128 + (n : Int) / 4096 % 64, 128 + (n : Int) / 64 % 64, 128 + (n : Int) % 64] = Utf8.encode (n : Int) := by
 rw [enc4 n hv h0]
 have a : (240 + (n : Int) / 262144).toNat = 240 + n / 262144 := by omega
 have b : (128 + (n : Int) / 4096 % 64).toNat = 128 + n / 4096 % 64 := by omega
 have c : (128 + (n : Int) / 64 % 64).toNat = 128 + n / 64 % 64 := by omega
 have d : (128 + (n : Int) % 64).toNat = 128 + n % 64 := by omega
 simp only [strOfNums, List.map_cons, List.map_nil, a, b, c, d]
theorem wid_pos (s : ByteArray) (p : Nat) : 1 ≤ (Utf8.decode s p).2 := by
 rw [← Lib.decodeL_drop]; exact Lib.decodeL_width _
theorem wid_le (s : ByteArray) (p : Nat) (h : p < s.size) : p + (Utf8.decode s p).2 ≤ s.size := by
 rw [← Lib.decodeL_drop]
 have hl : s.data.toList.length = s.size := (Lib.size_eq s).symm
 have hne : s.data.toList.drop p ≠ [] := by
  intro h0
  have := congrArg List.length h0
  rw [List.length_drop, hl] at this
  simp only [List.length_nil] at this
  omega
 have := Lib.decodeL_le _ hne
 rw [List.length_drop] at this
 omega
def dec (s : ByteArray) : Nat × Nat := if s.size = 0 then (0, 0) else Utf8.decode s 0
theorem dec_ne (s : ByteArray) (h : 0 < s.size) : dec s = Utf8.decode s 0 := by unfold dec; rw [if_neg (by omega)]
theorem dec_nil (s : ByteArray) (h : s.size = 0) : dec s = (0, 0) := by unfold dec; rw [if_pos h]
theorem iter_below (w : World) (s : ByteArray) (p : Nat) : Below w.heap.size w (w.iter s p) := (Below.refl _ _).alloc (Nat.le_refl _) _
theorem ret_dec {k k' : IntKind} {a b a' b' : Int} (h : a = a') (h' : b = b') : Ending.returned (.tuple #[.int k a, .int k' b]) = .returned (.tuple #[.int k a', .int k' b']) := by rw [h, h']
def cntGo (s : ByteArray) : Nat → Nat → Nat
 | 0, _ => 0
 | f + 1, p => if p < s.size then 1 + cntGo s f (p + (Utf8.decode s p).2) else 0
def cntFrom (s : ByteArray) (p : Nat) : Nat := cntGo s (s.size - p) p
def cntR (s : ByteArray) : Nat := cntFrom s 0
theorem cntGo_fuel (s : ByteArray) : ∀ (f g p : Nat), s.size - p ≤ f → s.size - p ≤ g → cntGo s f p = cntGo s g p
 | 0, 0, _, _, _ => rfl
 | 0, g + 1, p, h, _ => by simp [cntGo, show ¬ p < s.size by omega]
 | f + 1, 0, p, _, h => by simp [cntGo, show ¬ p < s.size by omega]
 | f + 1, g + 1, p, h1, h2 => by
   have hw := wid_pos s p
   by_cases hp : p < s.size
   ·simp only [cntGo, if_pos hp]
    rw [cntGo_fuel s f g _ (by omega) (by omega)]
   ·simp [cntGo, hp]
theorem cntFrom_step (s : ByteArray) (p : Nat) (h : p < s.size) : cntFrom s p = 1 + cntFrom s (p + (Utf8.decode s p).2) := by
 have hw := wid_pos s p
 unfold cntFrom
 obtain ⟨f, hf⟩ : ∃ f, s.size - p = f + 1 := ⟨s.size - p - 1, by omega⟩
 rw [hf]
 simp only [cntGo, if_pos h]
 rw [cntGo_fuel s f _ _ (by omega) (Nat.le_refl _)]
theorem cntFrom_end (s : ByteArray) (p : Nat) (h : ¬ p < s.size) : cntFrom s p = 0 := by
 unfold cntFrom
 rw [show s.size - p = 0 by omega]; rfl
theorem ret_int {k : IntKind} {a b : Int} (h : a = b) : Ending.returned (.int k a) = .returned (.int k b) := by rw [h]
theorem ret_str {a b : ByteArray} (h : a = b) : Ending.returned (.string a) = .returned (.string b) := by rw [h]
end Go.Proofs.YtjfmhghpkefihaaGreatDoor
namespace Go.Proofs.YtjfmhghpkefihaaGreatDoor
open Go.RowKit
def wdt (n : Int) : Nat := (min (max n 0) 1000).toNat
theorem wdt_eq (n : Int) : min (max n 0) 1000 = ((wdt n : Nat) : Int) := by unfold wdt; omega
theorem wdt_le (n : Int) : wdt n ≤ 1000 := by unfold wdt; omega
def run (c : Nat) (k : Nat) : ByteArray := ⟨Array.replicate k (UInt8.ofNat c)⟩
theorem run_size (c k : Nat) : (run c k).size = k := by simp [run, ByteArray.size]
def padS (s : ByteArray) (mi z : Bool) (wid : Int) : ByteArray :=
 if mi then s ++ run 32 (wdt ((wdt wid : Nat) - (cntR s : Nat) : Int)) else if z then run 48 (wdt ((wdt wid : Nat) - (cntR s : Nat) : Int)) ++ s else run 32 (wdt ((wdt wid : Nat) - (cntR s : Nat) : Int)) ++ s
theorem cntGo_le (s : ByteArray) : ∀ (f p : Nat), cntGo s f p ≤ s.size - p
 | 0, p => by simp [cntGo]
 | f + 1, p => by
   have hw := wid_pos s p
   by_cases hp : p < s.size
   ·simp only [cntGo, if_pos hp]
    have := cntGo_le s f (p + (Utf8.decode s p).2)
    omega
   ·simp [cntGo, hp]
theorem cntR_le (s : ByteArray) : cntR s ≤ s.size := by
 have := cntGo_le s (s.size - 0) 0
 unfold cntR cntFrom
 omega
theorem run_zero (c : Nat) : run c 0 = ⟨#[]⟩ := rfl
end Go.Proofs.YtjfmhghpkefihaaGreatDoor
namespace Go.Proofs.YtjfmhghpkefihaaGreatDoor
open Go.RowKit
theorem enc_lib (n : Nat) (hv : Utf8.valid (n : Int) = true) : Utf8.encode (n : Int) = strOfNums (Lib.encodeRuneZ (n : Int)) := by
 have h := (valid_iff _).1 hv
 by_cases h1 : n < 128
 ·rw [Lib.encodeRuneZ_one (by omega) (by omega)]; exact (str1 n h1).symm
 by_cases h2 : n < 2048
 ·rw [Lib.encodeRuneZ_two (by omega) (by omega)]; exact (str2 n (by omega) h2).symm
 by_cases h3 : n < 65536
 ·rw [Lib.encodeRuneZ_three (by omega)]; exact (str3 n hv (by omega) h3).symm
 ·rw [Lib.encodeRuneZ_four (by omega) (by omega)]; exact (str4 n hv (by omega)).symm
set_option maxHeartbeats 1000000 in
theorem decL_enc (n : Nat) (hv : Utf8.valid (n : Int) = true) (t : List UInt8) : Lib.decodeL ((Utf8.encode (n : Int)).data.toList ++ t) = (n, (Utf8.encode (n : Int)).size) := by
 have h := (valid_iff _).1 hv
 rw [Lib.decodeL_N]
 by_cases h1 : n < 128
 ·rw [enc1 n h1]
  have e0 : (UInt8.ofNat n).toNat = n := by simp; omega
  show Lib.decodeN _ (UInt8.ofNat n).toNat _ _ _ = (n, 1)
  rw [e0]
  unfold Lib.decodeN
  rw [if_pos h1]
 by_cases h2 : n < 2048
 ·rw [enc2 n (by omega) h2]
  have e0 : (UInt8.ofNat (192 + n / 64)).toNat = 192 + n / 64 := by simp; omega
  have e1 : (UInt8.ofNat (128 + n % 64)).toNat = 128 + n % 64 := by simp; omega
  show Lib.decodeN (t.length + 2) (UInt8.ofNat (192 + n / 64)).toNat (UInt8.ofNat (128 + n % 64)).toNat _ _ = (n, 2)
  rw [e0, e1]
  have ec : (192 + n / 64) % 32 * 64 + (128 + n % 64) % 64 = n := by omega
  unfold Lib.decodeN
  rw [if_neg (by omega), if_pos (by omega), ec, if_pos (by omega)]
 by_cases h3 : n < 65536
 ·rw [enc3 n hv (by omega) h3]
  have e0 : (UInt8.ofNat (224 + n / 4096)).toNat = 224 + n / 4096 := by simp; omega
  have e1 : (UInt8.ofNat (128 + n / 64 % 64)).toNat = 128 + n / 64 % 64 := by simp; omega
  have e2 : (UInt8.ofNat (128 + n % 64)).toNat = 128 + n % 64 := by simp; omega
  show Lib.decodeN (t.length + 3) (UInt8.ofNat (224 + n / 4096)).toNat (UInt8.ofNat (128 + n / 64 % 64)).toNat (UInt8.ofNat (128 + n % 64)).toNat _ = (n, 3)
  rw [e0, e1, e2]
  have ec : (224 + n / 4096) % 16 * 4096 + (128 + n / 64 % 64) % 64 * 64 + (128 + n % 64) % 64 = n := by omega
  unfold Lib.decodeN
  rw [if_neg (by omega), if_neg (by omega), if_pos (by omega), ec, if_pos (by omega)]
 ·rw [enc4 n hv (by omega)]
  have e0 : (UInt8.ofNat (240 + n / 262144)).toNat = 240 + n / 262144 := by simp; omega
  have e1 : (UInt8.ofNat (128 + n / 4096 % 64)).toNat = 128 + n / 4096 % 64 := by simp; omega
  have e2 : (UInt8.ofNat (128 + n / 64 % 64)).toNat = 128 + n / 64 % 64 := by simp; omega
  have e3 : (UInt8.ofNat (128 + n % 64)).toNat = 128 + n % 64 := by simp; omega
  show Lib.decodeN (t.length + 4) (UInt8.ofNat (240 + n / 262144)).toNat (UInt8.ofNat (128 + n / 4096 % 64)).toNat (UInt8.ofNat (128 + n / 64 % 64)).toNat (UInt8.ofNat (128 + n % 64)).toNat = (n, 4)
  rw [e0, e1, e2, e3]
  have ec : (240 + n / 262144) % 8 * 262144 + (128 + n / 4096 % 64) % 64 * 4096 + (128 + n / 64 % 64) % 64 * 64 + (128 + n % 64) % 64 = n := by omega
  unfold Lib.decodeN
  rw [if_neg (by omega), if_neg (by omega), if_neg (by omega), if_pos (by omega), ec, if_pos (by omega)]
theorem dec_zero (s : ByteArray) : Utf8.decode s 0 = Lib.decodeL s.data.toList := by
 rw [← Lib.decodeL_drop]; rfl
theorem dec_begins (s : ByteArray) (n : Nat) (hv : Utf8.valid (n : Int) = true) (t : List UInt8) (h : s.data.toList = (Utf8.encode (n : Int)).data.toList ++ t) : Utf8.decode s 0 = (n, (Utf8.encode (n : Int)).size) := by
 rw [dec_zero, h, decL_enc n hv t]
theorem empty_no (s : ByteArray) (h : 0 < s.size) : s.toList.isEmpty = false := by
 rw [Lib.toList_data]
 have := Lib.size_eq s
 cases hl : s.data.toList with
 | nil => rw [hl] at this; simp only [List.length_nil] at this; omega
 | cons a b => rfl
def bt (s : ByteArray) (i : Nat) : Nat := (s.get! i).toNat
theorem bt_at (s : ByteArray) (i : Nat) (h : i < s.size) : (s[i]'h).toNat = bt s i := by
 have := get_at s i h
 unfold bt
 rw [← this]; rfl
theorem ext_list (s : ByteArray) (n : Nat) : (s.extract 0 n).data.toList = s.data.toList.take n := by
 rw [ByteArray.data_extract, Array.toList_extract]; simp
theorem val_int {k : IntKind} {a b : Int} (h : a = b) : Value.int k a = .int k b := by rw [h]
end Go.Proofs.YtjfmhghpkefihaaGreatDoor
namespace Go.Proofs.YtjfmhghpkefihaaGreatDoor
open Go.RowKit
theorem tail_list (s : ByteArray) (a : Nat) : (s.extract a s.size).data.toList = s.data.toList.drop a := by
 rw [ByteArray.data_extract, Array.toList_extract]
 apply List.take_of_length_le
 rw [List.length_drop, ← Lib.size_eq s]
 exact Nat.le_refl _
theorem tail_size (s : ByteArray) (a : Nat) : (s.extract a s.size).size = s.size - a := by
 rw [ByteArray.size_extract]; omega
theorem dec_shift (s : ByteArray) (a p : Nat) : Utf8.decode (s.extract a s.size) p = Utf8.decode s (a + p) := by
 rw [← Lib.decodeL_drop, ← Lib.decodeL_drop, tail_list, List.drop_drop]
theorem cntGo_shift (s : ByteArray) (a : Nat) : ∀ (f p : Nat), cntGo (s.extract a s.size) f p = cntGo s f (a + p)
 | 0, _ => rfl
 | f + 1, p => by
   have e := tail_size s a
   by_cases h : p < s.size - a
   ·simp only [cntGo, e, if_pos h, if_pos (show a + p < s.size by omega)]
    rw [cntGo_shift s a f, dec_shift, Nat.add_assoc]
   ·simp only [cntGo, e, if_neg h, if_neg (show ¬ a + p < s.size by omega)]
theorem cntR_tail (s : ByteArray) (a : Nat) : cntR (s.extract a s.size) = cntFrom s a := by
 unfold cntR cntFrom
 rw [cntGo_shift, tail_size]; rfl
theorem dec_tail (s : ByteArray) (a : Nat) (h : a < s.size) : dec (s.extract a s.size) = Utf8.decode s a := by
 rw [dec_ne _ (by rw [tail_size]; omega), dec_shift]; rfl
def posGo (s : ByteArray) : Nat → Nat → Nat
 | 0, p => p
 | k + 1, p => if p < s.size then posGo s k (p + (Utf8.decode s p).2) else p
theorem posGo_end (s : ByteArray) (k p : Nat) (h : ¬ p < s.size) : posGo s k p = p := by
 cases k with
 | zero => rfl
 | succ k => simp [posGo, h]
theorem posGo_step (s : ByteArray) (k p : Nat) (h : p < s.size) : posGo s (k + 1) p = posGo s k (p + (Utf8.decode s p).2) := by
 simp only [posGo, if_pos h]
theorem posGo_le (s : ByteArray) : ∀ (k p : Nat), p ≤ s.size → posGo s k p ≤ s.size
 | 0, p, h => h
 | k + 1, p, h => by
   by_cases hp : p < s.size
   ·rw [posGo_step s k p hp]; exact posGo_le s k _ (wid_le s p hp)
   ·rw [posGo_end s _ p hp]; exact h
def cutS (s : ByteArray) (n : Int) : ByteArray := if n < 0 then s else s.extract 0 (posGo s n.toNat 0)
theorem extract_all (s : ByteArray) : s.extract 0 s.size = s := by
 apply ByteArray.ext
 apply Array.ext'
 rw [ext_list, Lib.size_eq s, List.take_length]
end Go.Proofs.YtjfmhghpkefihaaGreatDoor
namespace Go.Proofs.YtjfmhghpkefihaaGreatDoor
open Go.RowKit
theorem app_list (a b : ByteArray) : (a ++ b).data.toList = a.data.toList ++ b.data.toList := by
 rw [ByteArray.data_append, Array.toList_append]
theorem app_size (a b : ByteArray) : (a ++ b).size = a.size + b.size := by
 rw [Lib.size_eq, app_list, List.length_append, ← Lib.size_eq, ← Lib.size_eq]
end Go.Proofs.YtjfmhghpkefihaaGreatDoor
