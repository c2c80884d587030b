/- QReg, Plain, Plain2, Plain3, Plain4, Plain6, Plain7, Plain8, QPlain, XRow: these texts in one. -/
import Derived.WalkKit
import Derived.Deep.QuietTactic
import Derived.BigQuiet
import Derived.Lib.MapLaws
import Derived.Laws.BytesArg
import Derived.Lib.Repeat
import Derived.Test.YtdlnmnipnkeabaaGreatDoorProg
import Derived.Deep.LoopGhost
import Derived.Deep.RegionWith
import Derived.Maps.AppendAt
import Derived.Deep.DeepCutAuto
import Derived.Deep.CutBlock
import Derived.Deep.MidRow
import Derived.Deep.Upon
import Derived.Handy
namespace Go.Proofs.YtdlnmnipnkeabaaGreatDoor
open Go.RowKit
def Cl (w0 : World) : Type := { w : World // Below w0.heap.size w0 w }
def Cl.w {w0 : World} (x : Cl w0) : World := x.1
theorem Cl.below {w0 : World} (x : Cl w0) : Below w0.heap.size w0 x.w := x.2
theorem Cl.some_one {w0 : World} : Nonempty (Cl w0) := ⟨⟨w0, Below.refl _ _⟩⟩
theorem Cl.cell {w0 : World} (x : Cl w0) {p : Addr} {v : Value} (h : w0.cell? p = some v) : x.w.cell? p = some v := by
 have hp : p.block < w0.heap.size := by
  rcases Nat.lt_or_ge p.block w0.heap.size with h1 | h1
  ·exact h1
  ·simp [World.cell?, Array.getElem?_eq_none h1] at h
 exact (x.2.cell hp).trans h
theorem Cl.call {P : Program} {f : FuncId} {args : Array Value} {w0 : World} {x : Cl w0} {v : Value}
  (h : Calls P f args x.w fun e w' => e = .returned v ∧ Below x.w.heap.size x.w w') : Calls P f args x.w fun e w'' => e = .returned v ∧ ∃ y : Cl w0, w'' = y.w :=
 h.mono fun _ w' ⟨he, hb⟩ => ⟨he, ⟨w', x.2.trans (hb.mono x.2.size)⟩, rfl⟩
theorem Cl.call_same {P : Program} {f : FuncId} {args : Array Value} {w0 : World} {x : Cl w0} {v : Value}
  (h : Calls P f args x.w fun e w' => e = .returned v ∧ w' = x.w) : Calls P f args x.w fun e w'' => e = .returned v ∧ ∃ y : Cl w0, w'' = y.w :=
 h.mono fun _ _ ⟨he, hb⟩ => ⟨he, x, hb⟩
theorem Cl.go {P : Program} {f : FuncId} {args : Array Value} {w0 : World} {x : Cl w0} {v : Value}
  (h : Calls P f args x.w fun e w' => e = .returned v ∧ Below x.w.heap.size x.w w') : Calls P f args x.w fun e w'' => ∃ y : Cl w0, e = .returned v ∧ w'' = y.w :=
 h.mono fun _ w' ⟨he, hb⟩ => ⟨⟨w', x.2.trans (hb.mono x.2.size)⟩, he, rfl⟩
theorem Cl.go0 {P : Program} {f : FuncId} {args : Array Value} {w0 : World} {v : Value}
  (h : Calls P f args w0 fun e w' => e = .returned v ∧ Below w0.heap.size w0 w') : Calls P f args w0 fun e w'' => ∃ y : Cl w0, e = .returned v ∧ w'' = y.w :=
 h.mono fun _ w' ⟨he, hb⟩ => ⟨⟨w', hb⟩, he, rfl⟩
theorem wp_region_above {P : Program} {id : Nat} {Q : Exit → Act → World → Prop} {a : Act} {w : World} {l : List Oper} (w0 : World) (hw : Below w0.heap.size w0 w) (hm : P.follows .mixedOrders = true) (hB : Region.lexB .any l.toArray = true)
  (h : Nonempty (Cl w0) → wpQuiet P l.toArray (fun w' => ∃ x : Cl w0, w' = x.w) (fun a' => ∀ w', (∃ x : Cl w0, w' = x.w) → Q .normal a' w') l a) : (Code.region id l.toArray true).wp P Q a w :=
 wp_region_quiet (C := fun w' => ∃ x : Cl w0, w' = x.w) hm hB ⟨⟨_, hw.drew⟩, rfl⟩ (by simpa using h Cl.some_one)
end Go.Proofs.YtdlnmnipnkeabaaGreatDoor
namespace Go.Proofs.YtdlnmnipnkeabaaGreatDoor
open Go.RowKit
def pt (c : Int) : Nat := if Utf8.valid c then c.toNat else 65533
theorem valid_iff (c : Int) : Utf8.valid c = true ↔ (0 ≤ c ∧ c < 55296) ∨ (57344 ≤ c ∧ c ≤ 1114111) := by
 simp [Utf8.valid]
theorem enc_pt (c : Int) : Utf8.encode c = Utf8.encode (pt c : Int) := by
 unfold pt
 cases h : Utf8.valid c with
 | true =>
   have h' := (valid_iff c).1 h
   simp only [if_true]
   rw [Int.toNat_of_nonneg (by omega)]
 | false =>
   simp only [Bool.false_eq_true, if_false]
   have e : Utf8.valid 65533 = true := (valid_iff _).2 (by omega)
   simp [Utf8.encode, h, Utf8.runeError, e]
theorem pt_valid (c : Int) : Utf8.valid (pt c : Int) = true := by
 unfold pt
 cases h : Utf8.valid c with
 | true =>
   have h' := (valid_iff c).1 h
   simp only [if_true]
   rw [Int.toNat_of_nonneg (by omega)]; exact h
 | false =>
   simp only [Bool.false_eq_true, if_false]
   exact (valid_iff _).2 (by omega)
theorem enc1 (n : Nat) (h : n < 128) : Utf8.encode (n : Int) = ⟨#[UInt8.ofNat n]⟩ := by
 have hv : Utf8.valid (n : Int) = true := (valid_iff _).2 (by omega)
 simp [Utf8.encode, hv, h]
theorem enc2 (n : Nat) (h0 : 128 ≤ n) (h : n < 2048) : Utf8.encode (n : Int) = ⟨#[UInt8.ofNat (192 + n / 64), UInt8.ofNat (128 + n % 64)]⟩ := by
 have hv : Utf8.valid (n : Int) = true := (valid_iff _).2 (by omega)
 have a : ¬ n < 128 := by omega
 simp [Utf8.encode, hv, a, h]
theorem enc3 (n : Nat) (hv : Utf8.valid (n : Int) = true) (h0 : 2048 ≤ n) (h : n < 65536) : Utf8.encode (n : Int) = ⟨#[UInt8.ofNat (224 + n / 4096), UInt8.ofNat (128 + n / 64 % 64), UInt8.ofNat (128 + n % 64)]⟩ := by
 have a : ¬ n < 128 := by omega
 have b : ¬ n < 2048 := by omega
 simp [Utf8.encode, hv, a, b, h]
theorem enc4 (n : Nat) (hv : Utf8.valid (n : Int) = true) (h0 : 65536 ≤ n) : Utf8.encode (n : Int) = ⟨#[UInt8.ofNat (240 + n / 262144), UInt8.ofNat (128 + n / 4096 % 64), UInt8.ofNat (128 + n / 64 % 64), UInt8.ofNat (128 + n % 64)]⟩ := by
 have a : ¬ n < 128 := by omega
 have b : ¬ n < 2048 := by omega
 have c : ¬ n < 65536 := by omega
 simp [Utf8.encode, hv, a, b, c]
theorem str1 (n : Nat) (h : n < 128) : strOfNums [(n : Int)] = Utf8.encode (n : Int) := by
 rw [enc1 n h]; simp [strOfNums]
theorem str2 (n : Nat) (h0 : 128 ≤ n) (h : n < 2048) : strOfNums [192 + (n : Int) / 64, 128 + (n : Int) % 64] = Utf8.encode (n : Int) := by
 rw [enc2 n h0 h]
 have a : (192 + (n : Int) / 64).toNat = 192 + n / 64 := by omega
 have b : (128 + (n : Int) % 64).toNat = 128 + n % 64 := by omega
 simp only [strOfNums, List.map_cons, List.map_nil, a, b]
theorem str3 (n : Nat) (hv : Utf8.valid (n : Int) = true) (h0 : 2048 ≤ n) (h : n < 65536) : strOfNums [224 + (n : Int) / 4096, 128 + (n : Int) / 64 % 64, 128 + (n : Int) % 64] = Utf8.encode (n : Int) := by
 rw [enc3 n hv h0 h]
 have a : (224 + (n : Int) / 4096).toNat = 224 + n / 4096 := by omega
 have b : (128 + (n : Int) / 64 % 64).toNat = 128 + n / 64 % 64 := by omega
 have c : (128 + (n : Int) % 64).toNat = 128 + n % 64 := by omega
 simp only [strOfNums, List.map_cons, List.map_nil, a, b, c]
theorem str4 (n : Nat) (hv : Utf8.valid (n : Int) = true) (h0 : 65536 ≤ n) : strOfNums [240 + (n : Int) / 262144, 128 + (n : Int) / 4096 % 64, 128 + (n : Int) / 64 % 64, 128 + (n : Int) % 64] = Utf8.encode (n : Int) := by
 rw [enc4 n hv h0]
 have a : (240 + (n : Int) / 262144).toNat = 240 + n / 262144 := by omega
 have b : (128 + (n : Int) / 4096 % 64).toNat = 128 + n / 4096 % 64 := by omega
 have c : (128 + (n : Int) / 64 % 64).toNat = 128 + n / 64 % 64 := by omega
 have d : (128 + (n : Int) % 64).toNat = 128 + n % 64 := by omega
 simp only [strOfNums, List.map_cons, List.map_nil, a, b, c, d]
theorem wid_pos (s : ByteArray) (p : Nat) : 1 ≤ (Utf8.decode s p).2 := by
 rw [← Lib.decodeL_drop]; exact Lib.decodeL_width _
theorem wid_le (s : ByteArray) (p : Nat) (h : p < s.size) : p + (Utf8.decode s p).2 ≤ s.size := by
 rw [← Lib.decodeL_drop]
 have hl : s.data.toList.length = s.size := (Lib.size_eq s).symm
 have hne : s.data.toList.drop p ≠ [] := by
  intro h0
  have := congrArg List.length h0
  rw [List.length_drop, hl] at this
  simp only [List.length_nil] at this
  omega
 have := Lib.decodeL_le _ hne
 rw [List.length_drop] at this
 omega
def dec (s : ByteArray) : Nat × Nat := if s.size = 0 then (0, 0) else Utf8.decode s 0
theorem dec_ne (s : ByteArray) (h : 0 < s.size) : dec s = Utf8.decode s 0 := by unfold dec; rw [if_neg (by omega)]
theorem dec_nil (s : ByteArray) (h : s.size = 0) : dec s = (0, 0) := by unfold dec; rw [if_pos h]
theorem iter_below (w : World) (s : ByteArray) (p : Nat) : Below w.heap.size w (w.iter s p) := (Below.refl _ _).alloc (Nat.le_refl _) _
theorem ret_dec {k k' : IntKind} {a b a' b' : Int} (h : a = a') (h' : b = b') : Ending.returned (.tuple #[.int k a, .int k' b]) = .returned (.tuple #[.int k a', .int k' b']) := by rw [h, h']
def cntGo (s : ByteArray) : Nat → Nat → Nat
 | 0, _ => 0
 | f + 1, p => if p < s.size then 1 + cntGo s f (p + (Utf8.decode s p).2) else 0
def cntFrom (s : ByteArray) (p : Nat) : Nat := cntGo s (s.size - p) p
def cntR (s : ByteArray) : Nat := cntFrom s 0
theorem cntGo_fuel (s : ByteArray) : ∀ (f g p : Nat), s.size - p ≤ f → s.size - p ≤ g → cntGo s f p = cntGo s g p
 | 0, 0, _, _, _ => rfl
 | 0, g + 1, p, h, _ => by simp [cntGo, show ¬ p < s.size by omega]
 | f + 1, 0, p, _, h => by simp [cntGo, show ¬ p < s.size by omega]
 | f + 1, g + 1, p, h1, h2 => by
   have hw := wid_pos s p
   by_cases hp : p < s.size
   ·simp only [cntGo, if_pos hp]
    rw [cntGo_fuel s f g _ (by omega) (by omega)]
   ·simp [cntGo, hp]
theorem cntFrom_step (s : ByteArray) (p : Nat) (h : p < s.size) : cntFrom s p = 1 + cntFrom s (p + (Utf8.decode s p).2) := by
 have hw := wid_pos s p
 unfold cntFrom
 obtain ⟨f, hf⟩ : ∃ f, s.size - p = f + 1 := ⟨s.size - p - 1, by omega⟩
 rw [hf]
 simp only [cntGo, if_pos h]
 rw [cntGo_fuel s f _ _ (by omega) (Nat.le_refl _)]
theorem cntFrom_end (s : ByteArray) (p : Nat) (h : ¬ p < s.size) : cntFrom s p = 0 := by
 unfold cntFrom
 rw [show s.size - p = 0 by omega]; rfl
theorem ret_int {k : IntKind} {a b : Int} (h : a = b) : Ending.returned (.int k a) = .returned (.int k b) := by rw [h]
theorem ret_str {a b : ByteArray} (h : a = b) : Ending.returned (.string a) = .returned (.string b) := by rw [h]
end Go.Proofs.YtdlnmnipnkeabaaGreatDoor
namespace Go.Proofs.YtdlnmnipnkeabaaGreatDoor
open Go.RowKit
def wdt (n : Int) : Nat := (min (max n 0) 1000).toNat
theorem wdt_eq (n : Int) : min (max n 0) 1000 = ((wdt n : Nat) : Int) := by unfold wdt; omega
theorem wdt_le (n : Int) : wdt n ≤ 1000 := by unfold wdt; omega
def run (c : Nat) (k : Nat) : ByteArray := ⟨Array.replicate k (UInt8.ofNat c)⟩
theorem run_size (c k : Nat) : (run c k).size = k := by simp [run, ByteArray.size]
def padS (s : ByteArray) (mi z : Bool) (wid : Int) : ByteArray :=
 if mi then s ++ run 32 (wdt ((wdt wid : Nat) - (cntR s : Nat) : Int)) else if z then run 48 (wdt ((wdt wid : Nat) - (cntR s : Nat) : Int)) ++ s else run 32 (wdt ((wdt wid : Nat) - (cntR s : Nat) : Int)) ++ s
theorem cntGo_le (s : ByteArray) : ∀ (f p : Nat), cntGo s f p ≤ s.size - p
 | 0, p => by simp [cntGo]
 | f + 1, p => by
   have hw := wid_pos s p
   by_cases hp : p < s.size
   ·simp only [cntGo, if_pos hp]
    have := cntGo_le s f (p + (Utf8.decode s p).2)
    omega
   ·simp [cntGo, hp]
theorem cntR_le (s : ByteArray) : cntR s ≤ s.size := by
 have := cntGo_le s (s.size - 0) 0
 unfold cntR cntFrom
 omega
end Go.Proofs.YtdlnmnipnkeabaaGreatDoor
namespace Go.Proofs.YtdlnmnipnkeabaaGreatDoor
open Go.RowKit
theorem enc_lib (n : Nat) (hv : Utf8.valid (n : Int) = true) : Utf8.encode (n : Int) = strOfNums (Lib.encodeRuneZ (n : Int)) := by
 have h := (valid_iff _).1 hv
 by_cases h1 : n < 128
 ·rw [Lib.encodeRuneZ_one (by omega) (by omega)]; exact (str1 n h1).symm
 by_cases h2 : n < 2048
 ·rw [Lib.encodeRuneZ_two (by omega) (by omega)]; exact (str2 n (by omega) h2).symm
 by_cases h3 : n < 65536
 ·rw [Lib.encodeRuneZ_three (by omega)]; exact (str3 n hv (by omega) h3).symm
 ·rw [Lib.encodeRuneZ_four (by omega) (by omega)]; exact (str4 n hv (by omega)).symm
set_option maxHeartbeats 1000000 in
theorem decL_enc (n : Nat) (hv : Utf8.valid (n : Int) = true) (t : List UInt8) : Lib.decodeL ((Utf8.encode (n : Int)).data.toList ++ t) = (n, (Utf8.encode (n : Int)).size) := by
 have h := (valid_iff _).1 hv
 rw [Lib.decodeL_N]
 by_cases h1 : n < 128
 ·rw [enc1 n h1]
  have e0 : (UInt8.ofNat n).toNat = n := by simp; omega
  show Lib.decodeN _ (UInt8.ofNat n).toNat _ _ _ = (n, 1)
  rw [e0]
  unfold Lib.decodeN
  rw [if_pos h1]
 by_cases h2 : n < 2048
 ·rw [enc2 n (by omega) h2]
  have e0 : (UInt8.ofNat (192 + n / 64)).toNat = 192 + n / 64 := by simp; omega
  have e1 : (UInt8.ofNat (128 + n % 64)).toNat = 128 + n % 64 := by simp; omega
  show Lib.decodeN (t.length + 2) (UInt8.ofNat (192 + n / 64)).toNat (UInt8.ofNat (128 + n % 64)).toNat _ _ = (n, 2)
  rw [e0, e1]
  have ec : (192 + n / 64) % 32 * 64 + (128 + n % 64) % 64 = n := by omega
  unfold Lib.decodeN
  rw [if_neg (by omega), if_pos (by omega), ec, if_pos (by omega)]
 by_cases h3 : n < 65536
 ·rw [enc3 n hv (by omega) h3]
  have e0 : (UInt8.ofNat (224 + n / 4096)).toNat = 224 + n / 4096 := by simp; omega
  have e1 : (UInt8.ofNat (128 + n / 64 % 64)).toNat = 128 + n / 64 % 64 := by simp; omega
  have e2 : (UInt8.ofNat (128 + n % 64)).toNat = 128 + n % 64 := by simp; omega
  show Lib.decodeN (t.length + 3) (UInt8.ofNat (224 + n / 4096)).toNat (UInt8.ofNat (128 + n / 64 % 64)).toNat (UInt8.ofNat (128 + n % 64)).toNat _ = (n, 3)
  rw [e0, e1, e2]
  have ec : (224 + n / 4096) % 16 * 4096 + (128 + n / 64 % 64) % 64 * 64 + (128 + n % 64) % 64 = n := by omega
  unfold Lib.decodeN
  rw [if_neg (by omega), if_neg (by omega), if_pos (by omega), ec, if_pos (by omega)]
 ·rw [enc4 n hv (by omega)]
  have e0 : (UInt8.ofNat (240 + n / 262144)).toNat = 240 + n / 262144 := by simp; omega
  have e1 : (UInt8.ofNat (128 + n / 4096 % 64)).toNat = 128 + n / 4096 % 64 := by simp; omega
  have e2 : (UInt8.ofNat (128 + n / 64 % 64)).toNat = 128 + n / 64 % 64 := by simp; omega
  have e3 : (UInt8.ofNat (128 + n % 64)).toNat = 128 + n % 64 := by simp; omega
  show Lib.decodeN (t.length + 4) (UInt8.ofNat (240 + n / 262144)).toNat (UInt8.ofNat (128 + n / 4096 % 64)).toNat (UInt8.ofNat (128 + n / 64 % 64)).toNat (UInt8.ofNat (128 + n % 64)).toNat = (n, 4)
  rw [e0, e1, e2, e3]
  have ec : (240 + n / 262144) % 8 * 262144 + (128 + n / 4096 % 64) % 64 * 4096 + (128 + n / 64 % 64) % 64 * 64 + (128 + n % 64) % 64 = n := by omega
  unfold Lib.decodeN
  rw [if_neg (by omega), if_neg (by omega), if_neg (by omega), if_pos (by omega), ec, if_pos (by omega)]
theorem dec_zero (s : ByteArray) : Utf8.decode s 0 = Lib.decodeL s.data.toList := by
 rw [← Lib.decodeL_drop]; rfl
theorem dec_begins (s : ByteArray) (n : Nat) (hv : Utf8.valid (n : Int) = true) (t : List UInt8) (h : s.data.toList = (Utf8.encode (n : Int)).data.toList ++ t) : Utf8.decode s 0 = (n, (Utf8.encode (n : Int)).size) := by
 rw [dec_zero, h, decL_enc n hv t]
theorem empty_no (s : ByteArray) (h : 0 < s.size) : s.toList.isEmpty = false := by
 rw [Lib.toList_data]
 have := Lib.size_eq s
 cases hl : s.data.toList with
 | nil => rw [hl] at this; simp only [List.length_nil] at this; omega
 | cons a b => rfl
theorem empty_yes (s : ByteArray) (h : s.size = 0) : s.toList.isEmpty = true := by
 rw [Lib.toList_data]
 have := Lib.size_eq s
 cases hl : s.data.toList with
 | nil => rfl
 | cons a b => rw [hl] at this; simp only [List.length_cons] at this; omega
def bt (s : ByteArray) (i : Nat) : Nat := (s.get! i).toNat
theorem bt_at (s : ByteArray) (i : Nat) (h : i < s.size) : (s[i]'h).toNat = bt s i := by
 have := get_at s i h
 unfold bt
 rw [← this]; rfl
theorem ext_list (s : ByteArray) (n : Nat) : (s.extract 0 n).data.toList = s.data.toList.take n := by
 rw [ByteArray.data_extract, Array.toList_extract]; simp
theorem val_int {k : IntKind} {a b : Int} (h : a = b) : Value.int k a = .int k b := by rw [h]
end Go.Proofs.YtdlnmnipnkeabaaGreatDoor
namespace Go.Proofs.YtdlnmnipnkeabaaGreatDoor
open Go.RowKit
theorem tail_list (s : ByteArray) (a : Nat) : (s.extract a s.size).data.toList = s.data.toList.drop a := by
 rw [ByteArray.data_extract, Array.toList_extract]
 apply List.take_of_length_le
 rw [List.length_drop, ← Lib.size_eq s]
 exact Nat.le_refl _
theorem tail_size (s : ByteArray) (a : Nat) : (s.extract a s.size).size = s.size - a := by
 rw [ByteArray.size_extract]; omega
theorem dec_shift (s : ByteArray) (a p : Nat) : Utf8.decode (s.extract a s.size) p = Utf8.decode s (a + p) := by
 rw [← Lib.decodeL_drop, ← Lib.decodeL_drop, tail_list, List.drop_drop]
theorem dec_tail (s : ByteArray) (a : Nat) (h : a < s.size) : dec (s.extract a s.size) = Utf8.decode s a := by
 rw [dec_ne _ (by rw [tail_size]; omega), dec_shift]; rfl
theorem extract_all (s : ByteArray) : s.extract 0 s.size = s := by
 apply ByteArray.ext
 apply Array.ext'
 rw [ext_list, Lib.size_eq s, List.take_length]
end Go.Proofs.YtdlnmnipnkeabaaGreatDoor
namespace Go.Proofs.YtdlnmnipnkeabaaGreatDoor
open Go.RowKit
theorem app_list (a b : ByteArray) : (a ++ b).data.toList = a.data.toList ++ b.data.toList := by
 rw [ByteArray.data_append, Array.toList_append]
theorem app_size (a b : ByteArray) : (a ++ b).size = a.size + b.size := by
 rw [Lib.size_eq, app_list, List.length_append, ← Lib.size_eq, ← Lib.size_eq]
theorem run_list (c k : Nat) : (run c k).data.toList = List.replicate k (UInt8.ofNat c) := by
 show (Array.replicate k (UInt8.ofNat c)).toList = _
 rw [Array.toList_replicate]
end Go.Proofs.YtdlnmnipnkeabaaGreatDoor
namespace Go.Proofs.YtdlnmnipnkeabaaGreatDoor
open Go.RowKit
theorem back_dec (c : Int) (s : ByteArray) : dec (Utf8.encode c ++ s) = (pt c, (Utf8.encode c).size) := by
 have hv := pt_valid c
 have hz : 0 < (Utf8.encode c ++ s).size := by
  rw [app_size, enc_pt c, enc_lib _ hv, strOfNums_size]
  have := (Lib.encodeRuneZ_length (pt c : Int)).1
  omega
 rw [dec_ne _ hz, dec_begins _ (pt c) hv s.data.toList (by rw [app_list, enc_pt c]), ← enc_pt c]
theorem enc_size_le (c : Int) : (Utf8.encode c).size ≤ 4 := by
 rw [enc_pt c, enc_lib _ (pt_valid c), strOfNums_size]
 exact (Lib.encodeRuneZ_length (pt c : Int)).2
end Go.Proofs.YtdlnmnipnkeabaaGreatDoor
namespace Go.Proofs.YtdlnmnipnkeabaaGreatDoor
open Go.RowKit
end Go.Proofs.YtdlnmnipnkeabaaGreatDoor
namespace Go.Proofs.YtdlnmnipnkeabaaGreatDoor
open Go.RowKit
theorem list_len (s : ByteArray) : s.data.toList.length = s.size := (Lib.size_eq s).symm
def plainP (c : Int) : Bool := decide ((32 ≤ c ∧ c ≤ 126) ∨ (161 ≤ c ∧ c ≤ 55295 ∧ c ≠ 173) ∨ (57344 ≤ c ∧ c ≤ 65532) ∨ (65536 ≤ c ∧ c ≤ 1114111))
theorem plainP_iff (c : Int) : plainP c = true ↔ ((32 ≤ c ∧ c ≤ 126) ∨ (161 ≤ c ∧ c ≤ 55295 ∧ c ≠ 173) ∨ (57344 ≤ c ∧ c ≤ 65532) ∨ (65536 ≤ c ∧ c ≤ 1114111)) := by
 unfold plainP; exact decide_eq_true_iff
theorem plainP_not (c : Int) : plainP c = false ↔ ¬ ((32 ≤ c ∧ c ≤ 126) ∨ (161 ≤ c ∧ c ≤ 55295 ∧ c ≠ 173) ∨ (57344 ≤ c ∧ c ≤ 65532) ∨ (65536 ≤ c ∧ c ≤ 1114111)) := by
 unfold plainP; exact decide_eq_false_iff_not
def hexN (g : Bool) (n : Nat) : Nat := if n < 10 then 48 + n else if g then 55 + n else 87 + n
def hexB (g : Bool) (n : Nat) : UInt8 := UInt8.ofNat (hexN g n)
def hexL : Nat → Nat → List UInt8
 | _, 0 => []
 | n, k + 1 => hexL (n / 16) k ++ [hexB false (n % 16)]
theorem hexL_len : ∀ (k n : Nat), (hexL n k).length = k
 | 0, _ => rfl
 | k + 1, n => by simp [hexL, hexL_len k]
theorem hexL_more (c k m : Nat) (h : m + 1 ≤ k) : hexL (c / 16 ^ m) (k - m) = hexL (c / 16 ^ (m + 1)) (k - (m + 1)) ++ [hexB false (c / 16 ^ m % 16)] := by
 obtain ⟨j, hj⟩ : ∃ j, k - m = j + 1 := ⟨k - m - 1, by omega⟩
 rw [hj, show k - (m + 1) = j by omega]
 simp only [hexL]
 rw [Nat.div_div_eq_div_mul, Nat.pow_succ]
def escT : Nat → Nat
 | 0 => 97
 | 1 => 98
 | 2 => 116
 | 3 => 110
 | 4 => 118
 | 5 => 102
 | _ => 114
def inL (c q : Nat) (a : Bool) : List UInt8 :=
 if c = q ∨ c = 92 then [92, UInt8.ofNat c]
 else if 7 ≤ c ∧ c ≤ 13 then [92, UInt8.ofNat (escT (c - 7))]
 else if plainP c = true ∧ (c ≤ 126 ∨ a = false) then (Utf8.encode (c : Int)).data.toList
 else if c < 128 then 92 :: 120 :: hexL c 2
 else if c ≤ 65535 then 92 :: 117 :: hexL c 4
 else 92 :: 85 :: hexL c 8
theorem enc_len (c : Nat) : (Utf8.encode (c : Int)).data.toList.length ≤ 4 := by
 have := enc_size_le (c : Int)
 rw [list_len]
 exact this
theorem inL_len (c q : Nat) (a : Bool) : (inL c q a).length ≤ 10 := by
 have := enc_len c
 unfold inL
 split
 ·simp
 ·split
  ·simp
  ·split
   ·omega
   ·split
    ·simp [hexL_len]
    ·split <;> simp [hexL_len]
theorem ba_app (a b : List UInt8) : (⟨a.toArray⟩ : ByteArray) ++ ⟨b.toArray⟩ = ⟨(a ++ b).toArray⟩ := by
 apply ByteArray.ext
 rw [ByteArray.data_append]
 simp
theorem ba_list (s : ByteArray) : (⟨s.data.toList.toArray⟩ : ByteArray) = s := by
 apply ByteArray.ext; simp
end Go.Proofs.YtdlnmnipnkeabaaGreatDoor
namespace Go.Proofs.YtdlnmnipnkeabaaGreatDoor
open Go.RowKit
set_option linter.unusedVariables false
set_option linter.unusedSimpArgs false
structure Sl where
 a : Option Addr
 n : Nat
 c : Nat
def Sl.v (s : Sl) : Value := .slice s.a s.n s.c
def Sl.no : Sl := ⟨none, 0, 0⟩
structure Ds where
 k : Int
 ty : ByteArray
 bi : Int
 im : Int
 tx : ByteArray
 ns : Sl
 ps : Sl
 hk : Int
def Ds.v (d : Ds) : List Value := [.int .i64 d.k, .string d.ty, .int .u64 d.bi, .int .u64 d.im, .string d.tx, .slice d.ns.a d.ns.n d.ns.c, .slice d.ps.a d.ps.n d.ps.c, .int .i64 d.hk]
def Ds.no : Ds := ⟨0, ⟨#[]⟩, 0, 0, ⟨#[]⟩, .no, .no, 0⟩
structure Ac where
 k : Int
 t : ByteArray
 f : ByteArray
 l : Sl
 p : Ds
def Ac.v (x : Ac) : List Value := [.int .i64 x.k, .string x.t, .string x.f, .slice x.l.a x.l.n x.l.c] ++ x.p.v
def Ac.no : Ac := ⟨0, ⟨#[]⟩, ⟨#[]⟩, .no, .no⟩
structure Hk where
 a : Ac
 b : Ac
 c : Ac
 d : Ac
def Hk.v (h : Hk) : List Value := h.a.v ++ (h.b.v ++ (h.c.v ++ h.d.v))
theorem Ds.len (d : Ds) : d.v.length = 8 := rfl
theorem Ac.len (x : Ac) : x.v.length = 12 := rfl
theorem Hk.len (h : Hk) : h.v.length = 48 := rfl
theorem Ds.one (d : Ds) : ∀ v ∈ d.v, v.oneCell' = true := by
 intro v hv
 simp only [Ds.v, List.mem_cons, List.not_mem_nil, or_false] at hv
 rcases hv with rfl | rfl | rfl | rfl | rfl | rfl | rfl | rfl <;> rfl
theorem Ac.one (x : Ac) : ∀ v ∈ x.v, v.oneCell' = true := by
 intro v hv
 simp only [Ac.v, List.mem_append, List.mem_cons, List.not_mem_nil, or_false] at hv
 rcases hv with (rfl | rfl | rfl | rfl) | hv
 ·rfl
 ·rfl
 ·rfl
 ·rfl
 ·exact x.p.one v hv
theorem Hk.one (h : Hk) : ∀ v ∈ h.v, v.oneCell' = true := by
 intro v hv
 simp only [Hk.v, List.mem_append] at hv
 rcases hv with hv | hv | hv | hv
 ·exact h.a.one v hv
 ·exact h.b.one v hv
 ·exact h.c.one v hv
 ·exact h.d.one v hv
structure Blk (w : World) (B : Nat) (vs : List Value) : Prop where
 c : ∀ i v, vs[i]? = some v → w.cell? ⟨B, i, none⟩ = some v
 z : ∀ i, w.frozen? ⟨B, i, none⟩ = false
 b : B < w.heap.size
theorem Blk.up {w w' : World} {B : Nat} {vs : List Value} (h : Blk w B vs) (hb : Below w.heap.size w w') : Blk w' B vs :=
 ⟨fun i v hv => (hb.cell (p := ⟨B, i, none⟩) h.b).trans (h.c i v hv), fun i => (hb.frozen (p := ⟨B, i, none⟩) h.b).trans (h.z i), Nat.lt_of_lt_of_le h.b hb.size⟩
theorem Blk.grown {w w' : World} {B : Nat} {vs : List Value} {R : Nat} (h : Blk w B vs) (hg : w.grownBy w' (some R)) (hne : B ≠ R) : Blk w' B vs := by
 have hB := hg.block B h.b (by simpa using hne)
 exact ⟨fun i v hv => (World.cell?_of_block (w := w) (a := ⟨B, i, none⟩) hB).trans (h.c i v hv), fun i => (World.frozen?_of_block (w := w) (a := ⟨B, i, none⟩) hB).trans (h.z i), Nat.lt_of_lt_of_le h.b hg.size⟩
theorem Blk.new (w : World) (vs : List Value) (t : TypeId) : Blk (w.alloc (.cells vs.toArray t)) w.heap.size vs :=
 ⟨fun i v hv => by simp [hv], fun i => by simp, by simp⟩
theorem Blk.alloc {w : World} {B : Nat} {vs : List Value} (h : Blk w B vs) (o : Obj) : Blk (w.alloc o) B vs := h.up ((Below.refl _ _).alloc (Nat.le_refl _) _)
theorem Blk.mid {w : World} {B : Nat} {p cs q : List Value} (h : Blk w B (p ++ (cs ++ q))) {o : Nat} (ho : p.length = o) : w.rangeAt B o cs := fun j v hv => by
 subst ho
 refine h.c _ v ?_
 rw [List.getElem?_append_right (by omega), Nat.add_sub_cancel_left, List.getElem?_append_left]
 ·exact hv
 ·exact (List.getElem?_eq_some_iff.1 hv).1
theorem Blk.range {w : World} {B : Nat} {vs : List Value} (h : Blk w B vs) : w.rangeAt B 0 vs := fun j v hv => by rw [Nat.zero_add]; exact h.c j v hv
theorem Blk.there {w : World} {B : Nat} {vs : List Value} (h : Blk w B vs) : w.there B 0 vs.length := fun j hj => by
 rw [Nat.zero_add]
 exact ⟨by rw [h.c j _ (List.getElem?_eq_getElem hj)]; rfl, h.z j⟩
theorem xsc_size (w : World) (b : Nat) : ∀ (vs : List Value) (o : Nat), (w.setCells b o vs).heap.size = w.heap.size := by
 intro vs
 induction vs generalizing w with
 | nil => intro o; rfl
 | cons v r ih => intro o; rw [World.setCells, ih]; simp [World.setCell]
theorem xsc_heap (b k : Nat) (hk : k ≠ b) : ∀ (vs : List Value) (w : World) (o : Nat), (w.setCells b o vs).heap[k]? = w.heap[k]?
 | [], _, _ => rfl
 | v :: r, w, o => by rw [World.setCells, xsc_heap b k hk r, Below.heap_setCell _ _ _ _ hk]
theorem xsc_rest (b : Nat) : ∀ (vs : List Value) (w : World) (o : Nat), (w.setCells b o vs).os = w.os ∧ (w.setCells b o vs).tape = w.tape ∧ (w.setCells b o vs).output = w.output
 | [], _, _ => ⟨rfl, rfl, rfl⟩
 | v :: r, w, o => by
   rw [World.setCells]
   obtain ⟨h1, h2, h3⟩ := xsc_rest b r (w.setCell ⟨b, o, none⟩ v) (o + 1)
   exact ⟨h1, h2, h3⟩
theorem xbelow_sc {N : Nat} {w w' : World} {B : Nat} (h : Below N w w') (hB : N ≤ B) (o : Nat) (vs : List Value) : Below N w (w'.setCells B o vs) := by
 obtain ⟨h1, h2, h3⟩ := xsc_rest B vs w' o
 exact ⟨h1.trans h.os, h2.trans h.tape, h3.trans h.output, by rw [xsc_size]; exact h.size, fun k hk => by rw [xsc_heap B k (by omega)]; exact h.block k hk⟩
theorem Blk.all {w : World} {B : Nat} {vs : List Value} (h : Blk w B vs) (us : List Value) (hl : us.length = vs.length) : Blk (w.setCells B 0 us) B us := by
 refine ⟨fun i v hv => ?_, fun i => (World.frozen?_setCells _ _ _ _ _).trans (h.z i), by rw [xsc_size]; exact h.b⟩
 have := World.rangeAt_setCells_same w B 0 us (by rw [hl]; exact h.there) i v hv
 rwa [Nat.zero_add] at this
theorem Blk.oth {w : World} {B B' : Nat} {vs : List Value} (h : Blk w B vs) (hne : B' ≠ B) (o : Nat) (us : List Value) : Blk (w.setCells B' o us) B vs := by
 have hB := xsc_heap B' B hne.symm us w o
 exact ⟨fun i u hu => (World.cell?_of_block (w := w) (a := ⟨B, i, none⟩) hB).trans (h.c i u hu), fun i => (World.frozen?_of_block (w := w) (a := ⟨B, i, none⟩) hB).trans (h.z i), by rw [xsc_size]; exact h.b⟩
def Row (t n : Nat) : Prop := (∃ d, Tryz.prog.underlying t = some d ∧ d.isRow = true) ∧ (Tryz.prog.info? t).map (·.size) = some n
theorem row_Desc : Row 29 8 := ⟨⟨_, Tryz.underlying29, rfl⟩, by kernel_rfl⟩
theorem row_Act : Row 31 12 := ⟨⟨_, Tryz.underlying31, rfl⟩, by kernel_rfl⟩
theorem row_Hook : Row 34 48 := ⟨⟨_, Tryz.underlying34, rfl⟩, by kernel_rfl⟩
theorem row_script : Row 288 13 := ⟨⟨_, Tryz.underlying288, rfl⟩, by kernel_rfl⟩
theorem row_thrown : Row 328 8 := ⟨⟨_, Tryz.underlying328, rfl⟩, by kernel_rfl⟩
theorem row_Spec : Row 113 8 := ⟨⟨_, Tryz.underlying113, rfl⟩, by kernel_rfl⟩
theorem wpl_ld {ops : Array Oper} {rest : List Oper} {op : Oper} {a : Act} {w : World} {Q : Exit → Act → World → Prop} {t n : Nat} (hr : Row t n) (hgd : op.guard = none) (x : Operand) (ho : op.op = .load t x) {B o : Nat} {vs : List Value}
  (hx : a.eval x = .pointer (some ⟨B, o, none⟩)) (hB : w.rangeAt B o vs) (hl : vs.length = n)
  (h : wpList Tryz.prog ops Q rest (a.put op.dst (.agg vs.toArray)) w) : wpList Tryz.prog ops Q (op :: rest) a w := by
 obtain ⟨⟨d, h1, h2⟩, h3⟩ := hr
 exact wpList_load_mid hgd t x ho B o hx vs d hB h1 h2 (by rw [hl]; exact h3) h
theorem wpl_st {ops : Array Oper} {rest : List Oper} {op : Oper} {a : Act} {w : World} {Q : Exit → Act → World → Prop} {t n : Nat} (hr : Row t n) (hgd : op.guard = none) (x y : Operand) (ho : op.op = .store t x y) {B : Nat} {vs us : List Value}
  (hx : a.eval x = .pointer (some ⟨B, 0, none⟩)) (hy : a.eval y = .agg us.toArray) (hB : Blk w B vs) (hl : vs.length = n) (hu : us.length = n) (h1 : ∀ v ∈ us, v.oneCell' = true)
  (h : wpList Tryz.prog ops Q rest (a.put op.dst undef) (w.setCells B 0 us)) : wpList Tryz.prog ops Q (op :: rest) a w := by
 refine wpList_store_mid hgd t x y ho B 0 us.toArray hx hy (by have := hB.there; rw [hl] at this; simpa [hu] using this) (by simp [hu, hr.2]) (all_oneCell_toArray h1) ?_
 simpa using h
theorem wpl_bld {ops : Array Oper} {rest : List Oper} {op : Oper} {a : Act} {w : World} {Q : Exit → Act → World → Prop} (hgd : op.guard = none) (t : TypeId) (parts : Array (Nat × Operand)) (ho : op.op = .build t parts) {V : Value} (ps : List (Nat × Value))
  (hx : parts.toList.map (fun x => (x.1, a.eval x.2)) = ps) (hb : (Instr.build t ps.toArray).run Tryz.prog w = .ok V w)
  (h : wpList Tryz.prog ops Q rest (a.put op.dst V) w) : wpList Tryz.prog ops Q (op :: rest) a w := by
 have hx' : (parts.map fun (i, x) => (i, a.eval x)) = ps.toArray := by
  rw [← hx]
  apply Array.ext'
  simp
 refine wpList_plain hgd fun K hK => ?_
 unfold Oper.wp execOp
 simp only [ho, hx', hb, Sem.run_bind, Sem.run_pure, Result.andThen_ok]
 exact hK _ _ h
theorem bld_script0 (x : Ac) (w : World) : (Instr.build 288 #[(0, .agg x.v.toArray)]).run Tryz.prog w = .ok (.agg (x.v ++ [Value.nilFunc]).toArray) w := by
 obtain ⟨k, t, f, ⟨la, ln, lc⟩, ⟨a0, a1, a2, a3, a4, ⟨na, nn, nc⟩, ⟨pa, pn, pc⟩, a7⟩⟩ := x
 kernel_rfl
theorem bld_script1 (x : Ac) (g : Value) (hg : ∃ f a b, g = .func f a b) (w : World) : (Instr.build 288 #[(0, .agg x.v.toArray), (1, g)]).run Tryz.prog w = .ok (.agg (x.v ++ [g]).toArray) w := by
 obtain ⟨k, t, f, ⟨la, ln, lc⟩, ⟨a0, a1, a2, a3, a4, ⟨na, nn, nc⟩, ⟨pa, pn, pc⟩, a7⟩⟩ := x
 obtain ⟨f, a, b, rfl⟩ := hg
 kernel_rfl
theorem res_row {t n s : Nat} (hw : Row t n) {f : Func} (hr : f.results = #[.cell s t]) {tmps : Array Value} {w : World} {B : Nat} {vs : List Value} (ht : tmps.getD s undef = .pointer (some ⟨B, 0, none⟩)) (h : Blk w B vs) (hl : vs.length = n) : (results f tmps).run Tryz.prog w = .ok (.agg vs.toArray) w := by
 obtain ⟨⟨d, h1, h2⟩, h3⟩ := hw
 have hL := run_loadVar_mid (P := Tryz.prog) w B 0 t vs d h.range h1 h2 (by rw [hl]; exact h3)
 have ht' : tmps[s]?.getD undef = .pointer (some ⟨B, 0, none⟩) := by simpa using ht
 simp [results, hr, ht', hL, asAddr]
theorem fneq_t (f : Fn) (a c : Array Value) (w : World) : (binOp BinOp.neq 45 (.func f a c) .nilFunc).run Tryz.prog w = .ok (.bool true) w := by kernel_rfl
theorem fneq_n (w : World) : (binOp BinOp.neq 45 .nilFunc .nilFunc).run Tryz.prog w = .ok (.bool false) w := by kernel_rfl
theorem feql_fstr (f : Fn) (a c : Array Value) (w : World) : (binOp BinOp.eql 45 (.func f a c) .nilFunc).run Tryz.prog w = .ok (.bool false) w := by kernel_rfl
end Go.Proofs.YtdlnmnipnkeabaaGreatDoor
