/- Plain, Plain2, Plain3, Plain4, Plain6, Plain7, Plain8, QPlain, IDig, INumD, Runes, Hexa, DDig, RFill, EDig, QReg, XRow, XWalkA, XWalkB, XWalkC, XDo, XQuiet: these texts in one. -/
import Derived.WalkKit
import Derived.Lib.MapLaws
import Derived.Laws.BytesArg
import Derived.Lib.Repeat
import Derived.Lib.Case
import Derived.Test.YtiagjheifblkiaaGreatDoorRows
import Derived.WalkSpells
import Derived.WalkLawsBesides
import Derived.Test.YtiagjheifblkiaaGreatDoorShelf
import Derived.Deep.LoopGhost
import Derived.Laws.BitsLemmas
import Derived.Deep.QuietTactic
import Derived.BigQuiet
import Derived.Test.YtiagjheifblkiaaGreatDoorProg
import Derived.Deep.RegionWith
import Derived.Maps.AppendAt
import Derived.Deep.DeepCutAuto
import Derived.Deep.CutBlock
import Derived.Deep.MidRow
import Derived.Deep.Upon
import Derived.Handy
import Derived.LoopN
import Derived.Defers
import Derived.Recover
namespace Go.Proofs.YtiagjheifblkiaaGreatDoor
open Go.RowKit
def pt (c : Int) : Nat := if Utf8.valid c then c.toNat else 65533
theorem wid_pos (s : ByteArray) (p : Nat) : 1 ≤ (Utf8.decode s p).2 := by
 rw [← Lib.decodeL_drop]; exact Lib.decodeL_width _
theorem wid_le (s : ByteArray) (p : Nat) (h : p < s.size) : p + (Utf8.decode s p).2 ≤ s.size := by
 rw [← Lib.decodeL_drop]
 have hl : s.data.toList.length = s.size := (Lib.size_eq s).symm
 have hne : s.data.toList.drop p ≠ [] := by
  intro h0
  have := congrArg List.length h0
  rw [List.length_drop, hl] at this
  simp only [List.length_nil] at this
  omega
 have := Lib.decodeL_le _ hne
 rw [List.length_drop] at this
 omega
def dec (s : ByteArray) : Nat × Nat := if s.size = 0 then (0, 0) else Utf8.decode s 0
theorem dec_ne (s : ByteArray) (h : 0 < s.size) : dec s = Utf8.decode s 0 := by unfold dec; rw [if_neg (by omega)]
theorem dec_nil (s : ByteArray) (h : s.size = 0) : dec s = (0, 0) := by unfold dec; rw [if_pos h]
theorem iter_below (w : World) (s : ByteArray) (p : Nat) : Below w.heap.size w (w.iter s p) := (Below.refl _ _).alloc (Nat.le_refl _) _
theorem ret_dec {k k' : IntKind} {a b a' b' : Int} (h : a = a') (h' : b = b') : Ending.returned (.tuple #[.int k a, .int k' b]) = .returned (.tuple #[.int k a', .int k' b']) := by rw [h, h']
def cntGo (s : ByteArray) : Nat → Nat → Nat
 | 0, _ => 0
 | f + 1, p => if p < s.size then 1 + cntGo s f (p + (Utf8.decode s p).2) else 0
def cntFrom (s : ByteArray) (p : Nat) : Nat := cntGo s (s.size - p) p
def cntR (s : ByteArray) : Nat := cntFrom s 0
theorem cntGo_fuel (s : ByteArray) : ∀ (f g p : Nat), s.size - p ≤ f → s.size - p ≤ g → cntGo s f p = cntGo s g p
 | 0, 0, _, _, _ => rfl
 | 0, g + 1, p, h, _ => by simp [cntGo, show ¬ p < s.size by omega]
 | f + 1, 0, p, _, h => by simp [cntGo, show ¬ p < s.size by omega]
 | f + 1, g + 1, p, h1, h2 => by
   have hw := wid_pos s p
   by_cases hp : p < s.size
   ·simp only [cntGo, if_pos hp]
    rw [cntGo_fuel s f g _ (by omega) (by omega)]
   ·simp [cntGo, hp]
theorem cntFrom_step (s : ByteArray) (p : Nat) (h : p < s.size) : cntFrom s p = 1 + cntFrom s (p + (Utf8.decode s p).2) := by
 have hw := wid_pos s p
 unfold cntFrom
 obtain ⟨f, hf⟩ : ∃ f, s.size - p = f + 1 := ⟨s.size - p - 1, by omega⟩
 rw [hf]
 simp only [cntGo, if_pos h]
 rw [cntGo_fuel s f _ _ (by omega) (Nat.le_refl _)]
theorem cntFrom_end (s : ByteArray) (p : Nat) (h : ¬ p < s.size) : cntFrom s p = 0 := by
 unfold cntFrom
 rw [show s.size - p = 0 by omega]; rfl
theorem ret_int {k : IntKind} {a b : Int} (h : a = b) : Ending.returned (.int k a) = .returned (.int k b) := by rw [h]
theorem ret_str {a b : ByteArray} (h : a = b) : Ending.returned (.string a) = .returned (.string b) := by rw [h]
end Go.Proofs.YtiagjheifblkiaaGreatDoor
namespace Go.Proofs.YtiagjheifblkiaaGreatDoor
open Go.RowKit
def wdt (n : Int) : Nat := (min (max n 0) 1000).toNat
theorem wdt_eq (n : Int) : min (max n 0) 1000 = ((wdt n : Nat) : Int) := by unfold wdt; omega
theorem wdt_le (n : Int) : wdt n ≤ 1000 := by unfold wdt; omega
def run (c : Nat) (k : Nat) : ByteArray := ⟨Array.replicate k (UInt8.ofNat c)⟩
theorem run_size (c k : Nat) : (run c k).size = k := by simp [run, ByteArray.size]
def padS (s : ByteArray) (mi z : Bool) (wid : Int) : ByteArray :=
 if mi then s ++ run 32 (wdt ((wdt wid : Nat) - (cntR s : Nat) : Int)) else if z then run 48 (wdt ((wdt wid : Nat) - (cntR s : Nat) : Int)) ++ s else run 32 (wdt ((wdt wid : Nat) - (cntR s : Nat) : Int)) ++ s
theorem cntGo_le (s : ByteArray) : ∀ (f p : Nat), cntGo s f p ≤ s.size - p
 | 0, p => by simp [cntGo]
 | f + 1, p => by
   have hw := wid_pos s p
   by_cases hp : p < s.size
   ·simp only [cntGo, if_pos hp]
    have := cntGo_le s f (p + (Utf8.decode s p).2)
    omega
   ·simp [cntGo, hp]
theorem cntR_le (s : ByteArray) : cntR s ≤ s.size := by
 have := cntGo_le s (s.size - 0) 0
 unfold cntR cntFrom
 omega
theorem run_zero (c : Nat) : run c 0 = ⟨#[]⟩ := rfl
end Go.Proofs.YtiagjheifblkiaaGreatDoor
namespace Go.Proofs.YtiagjheifblkiaaGreatDoor
open Go.RowKit
theorem empty_no (s : ByteArray) (h : 0 < s.size) : s.toList.isEmpty = false := by
 rw [Lib.toList_data]
 have := Lib.size_eq s
 cases hl : s.data.toList with
 | nil => rw [hl] at this; simp only [List.length_nil] at this; omega
 | cons a b => rfl
theorem empty_yes (s : ByteArray) (h : s.size = 0) : s.toList.isEmpty = true := by
 rw [Lib.toList_data]
 have := Lib.size_eq s
 cases hl : s.data.toList with
 | nil => rfl
 | cons a b => rw [hl] at this; simp only [List.length_cons] at this; omega
def bt (s : ByteArray) (i : Nat) : Nat := (s.get! i).toNat
theorem ext_list (s : ByteArray) (n : Nat) : (s.extract 0 n).data.toList = s.data.toList.take n := by
 rw [ByteArray.data_extract, Array.toList_extract]; simp
end Go.Proofs.YtiagjheifblkiaaGreatDoor
namespace Go.Proofs.YtiagjheifblkiaaGreatDoor
open Go.RowKit
theorem tail_list (s : ByteArray) (a : Nat) : (s.extract a s.size).data.toList = s.data.toList.drop a := by
 rw [ByteArray.data_extract, Array.toList_extract]
 apply List.take_of_length_le
 rw [List.length_drop, ← Lib.size_eq s]
 exact Nat.le_refl _
theorem tail_size (s : ByteArray) (a : Nat) : (s.extract a s.size).size = s.size - a := by
 rw [ByteArray.size_extract]; omega
theorem dec_shift (s : ByteArray) (a p : Nat) : Utf8.decode (s.extract a s.size) p = Utf8.decode s (a + p) := by
 rw [← Lib.decodeL_drop, ← Lib.decodeL_drop, tail_list, List.drop_drop]
theorem dec_tail (s : ByteArray) (a : Nat) (h : a < s.size) : dec (s.extract a s.size) = Utf8.decode s a := by
 rw [dec_ne _ (by rw [tail_size]; omega), dec_shift]; rfl
theorem extract_all (s : ByteArray) : s.extract 0 s.size = s := by
 apply ByteArray.ext
 apply Array.ext'
 rw [ext_list, Lib.size_eq s, List.take_length]
end Go.Proofs.YtiagjheifblkiaaGreatDoor
namespace Go.Proofs.YtiagjheifblkiaaGreatDoor
open Go.RowKit
theorem app_list (a b : ByteArray) : (a ++ b).data.toList = a.data.toList ++ b.data.toList := by
 rw [ByteArray.data_append, Array.toList_append]
theorem app_size (a b : ByteArray) : (a ++ b).size = a.size + b.size := by
 rw [Lib.size_eq, app_list, List.length_append, ← Lib.size_eq, ← Lib.size_eq]
theorem run_list (c k : Nat) : (run c k).data.toList = List.replicate k (UInt8.ofNat c) := by
 show (Array.replicate k (UInt8.ofNat c)).toList = _
 rw [Array.toList_replicate]
end Go.Proofs.YtiagjheifblkiaaGreatDoor
namespace Go.Proofs.YtiagjheifblkiaaGreatDoor
open Go.RowKit
end Go.Proofs.YtiagjheifblkiaaGreatDoor
namespace Go.Proofs.YtiagjheifblkiaaGreatDoor
open Go.RowKit
end Go.Proofs.YtiagjheifblkiaaGreatDoor
namespace Go.Proofs.YtiagjheifblkiaaGreatDoor
open Go.RowKit
theorem list_len (s : ByteArray) : s.data.toList.length = s.size := (Lib.size_eq s).symm
def hexN (g : Bool) (n : Nat) : Nat := if n < 10 then 48 + n else if g then 55 + n else 87 + n
def hexB (g : Bool) (n : Nat) : UInt8 := UInt8.ofNat (hexN g n)
def escT : Nat → Nat
 | 0 => 97
 | 1 => 98
 | 2 => 116
 | 3 => 110
 | 4 => 118
 | 5 => 102
 | _ => 114
theorem ba_app (a b : List UInt8) : (⟨a.toArray⟩ : ByteArray) ++ ⟨b.toArray⟩ = ⟨(a ++ b).toArray⟩ := by
 apply ByteArray.ext
 rw [ByteArray.data_append]
 simp
end Go.Proofs.YtiagjheifblkiaaGreatDoor
namespace Go.Proofs.YtiagjheifblkiaaGreatDoor
open Go.RowKit
def digF (g : Bool) (b : Nat) : Nat → Nat → List UInt8
 | 0, _ => []
 | f + 1, m => if m = 0 then [] else digF g b f (m / b) ++ [hexB g (m % b)]
def digP (g : Bool) (b m : Nat) : List UInt8 := digF g b 64 m
def digS (g : Bool) (b n : Nat) : List UInt8 := digP g b (n / b) ++ [hexB g (n % b)]
theorem digF_fuel (g : Bool) (b : Nat) (hb : 2 ≤ b) : ∀ (f h m : Nat), m < 2 ^ f → m < 2 ^ h → digF g b f m = digF g b h m
 | 0, 0, _, _, _ => rfl
 | 0, h + 1, m, hf, _ => by
   have : m = 0 := by simp at hf; omega
   simp [digF, this]
 | f + 1, 0, m, _, hh => by
   have : m = 0 := by simp at hh; omega
   simp [digF, this]
 | f + 1, h + 1, m, hf, hh => by
   by_cases hm : m = 0
   ·simp [digF, hm]
   ·simp only [digF, if_neg hm]
    have hd : m / b ≤ m / 2 := Nat.div_le_div_left hb (by omega)
    rw [digF_fuel g b hb f h (m / b) (by rw [Nat.pow_succ] at hf; omega) (by rw [Nat.pow_succ] at hh; omega)]
theorem digP_zero (g : Bool) (b : Nat) : digP g b 0 = [] := by simp [digP, digF]
theorem digF_succ (g : Bool) (b f m : Nat) : digF g b (f + 1) m = if m = 0 then [] else digF g b f (m / b) ++ [hexB g (m % b)] := rfl
theorem digP_step (g : Bool) (b m : Nat) (hb : 2 ≤ b) (h0 : m ≠ 0) (hm : m < 2 ^ 64) : digP g b m = digP g b (m / b) ++ [hexB g (m % b)] := by
 have hd : m / b ≤ m / 2 := Nat.div_le_div_left hb (by omega)
 have e : digF g b 63 (m / b) = digF g b 64 (m / b) := digF_fuel g b hb 63 64 _ (by have : (2 : Nat) ^ 64 = 2 * 2 ^ 63 := by decide
                                                                                    omega) (by omega)
 have e0 := digF_succ g b 63 m
 rw [if_neg h0, e] at e0
 exact e0
theorem digS_pos (g : Bool) (b n : Nat) (hb : 2 ≤ b) (h0 : n ≠ 0) (hn : n < 2 ^ 64) : digS g b n = digP g b n := (digP_step g b n hb h0 hn).symm
theorem digF_len (g : Bool) (b : Nat) : ∀ (f m : Nat), (digF g b f m).length ≤ f
 | 0, _ => by simp [digF]
 | f + 1, m => by
   have := digF_len g b f (m / b)
   simp only [digF]
   split
   ·simp
   ·simp; omega
theorem digP_len (g : Bool) (b m : Nat) : (digP g b m).length ≤ 64 := digF_len g b 64 m
theorem digS_len (g : Bool) (b n : Nat) : (digS g b n).length ≤ 65 := by
 have := digP_len g b (n / b)
 simp [digS]; omega
theorem digS_len1 (g : Bool) (b n : Nat) : 1 ≤ (digS g b n).length := by simp [digS]
theorem digF_mem (g : Bool) (b : Nat) (hb : 0 < b) : ∀ (f m : Nat) (x : UInt8), x ∈ digF g b f m → ∃ d, d < b ∧ x = hexB g d
 | 0, _, x, h => by simp [digF] at h
 | f + 1, m, x, h => by
   simp only [digF] at h
   split at h
   ·simp at h
   ·rcases List.mem_append.1 h with h | h
    ·exact digF_mem g b hb f _ x h
    ·exact ⟨m % b, Nat.mod_lt _ hb, by simpa using h⟩
theorem digS_mem (g : Bool) (b n : Nat) (hb : 0 < b) (x : UInt8) (h : x ∈ digS g b n) : ∃ d, d < b ∧ x = hexB g d := by
 rcases List.mem_append.1 h with h | h
 ·exact digF_mem g b hb 64 _ x h
 ·exact ⟨n % b, Nat.mod_lt _ hb, by simpa using h⟩
theorem hexB_ascii (g : Bool) (d : Nat) (h : d < 16) : (hexB g d).toNat < 128 := by
 have : ∀ i : Fin 16, (hexB false i.val).toNat < 128 ∧ (hexB true i.val).toNat < 128 := by decide
 have := this ⟨d, h⟩
 cases g
 ·exact this.1
 ·exact this.2
theorem digS_ascii (g : Bool) (b n : Nat) (hb : 0 < b) (h16 : b ≤ 16) (x : UInt8) (h : x ∈ digS g b n) : x.toNat < 128 := by
 obtain ⟨d, hd, rfl⟩ := digS_mem g b n hb x h
 exact hexB_ascii g d (by omega)
def valL (b : Nat) (f : UInt8 → Nat) (l : List UInt8) : Nat := l.foldl (fun n x => n * b + f x) 0
theorem valL_snoc (b : Nat) (f : UInt8 → Nat) (l : List UInt8) (x : UInt8) : valL b f (l ++ [x]) = valL b f l * b + f x := by simp [valL]
theorem valL_digF (g : Bool) (b : Nat) (f : UInt8 → Nat) (hb : 2 ≤ b) (hf : ∀ d, d < b → f (hexB g d) = d) : ∀ (k m : Nat), m < 2 ^ k → valL b f (digF g b k m) = m
 | 0, m, h => by
   have : m = 0 := by simp at h; omega
   subst this; rfl
 | k + 1, m, h => by
   simp only [digF]
   split
   ·rename_i h0; subst h0; rfl
   ·have hd : m / b ≤ m / 2 := Nat.div_le_div_left hb (by omega)
    rw [valL_snoc, valL_digF g b f hb hf k (m / b) (by rw [Nat.pow_succ] at h; omega), hf _ (Nat.mod_lt _ (by omega))]
    rw [Nat.mul_comm]; exact Nat.div_add_mod m b
theorem valL_digS (g : Bool) (b n : Nat) (f : UInt8 → Nat) (hb : 2 ≤ b) (hf : ∀ d, d < b → f (hexB g d) = d) (hn : n < 2 ^ 64) : valL b f (digS g b n) = n := by
 have hd : n / b ≤ n / 2 := Nat.div_le_div_left hb (by omega)
 unfold digS
 rw [valL_snoc]
 show valL b f (digF g b 64 (n / b)) * b + _ = n
 rw [valL_digF g b f hb hf 64 (n / b) (by omega), hf _ (Nat.mod_lt _ (by omega)), Nat.mul_comm]
 exact Nat.div_add_mod n b
end Go.Proofs.YtiagjheifblkiaaGreatDoor
namespace Go.Proofs.YtiagjheifblkiaaGreatDoor
open Go.RowKit
def digT (g : Bool) (b n : Nat) : ByteArray := ⟨(digS g b n).toArray⟩
theorem digT_size (g : Bool) (b n : Nat) : (digT g b n).size ≤ 65 ∧ 1 ≤ (digT g b n).size := by
 have h1 := digS_len g b n
 have h2 := digS_len1 g b n
 have h3 : (digT g b n).size = (digS g b n).length := by simp [digT, ByteArray.size]
 omega
def signA (p sp : Bool) : ByteArray := if p = true then ⟨#[43]⟩ else if sp = true then ⟨#[32]⟩ else ⟨#[]⟩
end Go.Proofs.YtiagjheifblkiaaGreatDoor
namespace Go.Proofs.YtiagjheifblkiaaGreatDoor
open Go.RowKit
end Go.Proofs.YtiagjheifblkiaaGreatDoor
namespace Go.Proofs.YtiagjheifblkiaaGreatDoor
open Go.RowKit
theorem small_at (i : Nat) (h : i < (ByteArray.mk #[48, 49, 50, 51, 52, 53, 54, 55, 56, 57, 97, 98, 99, 100, 101, 102]).size) : ((ByteArray.mk #[48, 49, 50, 51, 52, 53, 54, 55, 56, 57, 97, 98, 99, 100, 101, 102])[i]'h).toNat = hexN false i := by
 match i, h with
 | 0, _ => rfl
 | 1, _ => rfl
 | 2, _ => rfl
 | 3, _ => rfl
 | 4, _ => rfl
 | 5, _ => rfl
 | 6, _ => rfl
 | 7, _ => rfl
 | 8, _ => rfl
 | 9, _ => rfl
 | 10, _ => rfl
 | 11, _ => rfl
 | 12, _ => rfl
 | 13, _ => rfl
 | 14, _ => rfl
 | 15, _ => rfl
 | n + 16, h => exact absurd h (by show ¬ n + 16 < 16; omega)
theorem great_at (i : Nat) (h : i < (ByteArray.mk #[48, 49, 50, 51, 52, 53, 54, 55, 56, 57, 65, 66, 67, 68, 69, 70]).size) : ((ByteArray.mk #[48, 49, 50, 51, 52, 53, 54, 55, 56, 57, 65, 66, 67, 68, 69, 70])[i]'h).toNat = hexN true i := by
 match i, h with
 | 0, _ => rfl
 | 1, _ => rfl
 | 2, _ => rfl
 | 3, _ => rfl
 | 4, _ => rfl
 | 5, _ => rfl
 | 6, _ => rfl
 | 7, _ => rfl
 | 8, _ => rfl
 | 9, _ => rfl
 | 10, _ => rfl
 | 11, _ => rfl
 | 12, _ => rfl
 | 13, _ => rfl
 | 14, _ => rfl
 | 15, _ => rfl
 | n + 16, h => exact absurd h (by show ¬ n + 16 < 16; omega)
theorem hexN_lt (g : Bool) (i : Nat) (h : i < 16) : hexN g i < 256 := by unfold hexN; split <;> (try split) <;> omega
theorem hexB_nat (g : Bool) (i : Nat) (h : i < 16) : (hexB g i).toNat = hexN g i := by
 have := hexN_lt g i h
 unfold hexB
 simp
 omega
end Go.Proofs.YtiagjheifblkiaaGreatDoor
namespace Go.Proofs.YtiagjheifblkiaaGreatDoor
open Go.RowKit
set_option linter.unusedVariables false
theorem dig_small (n : Nat) (h : n < 16) : (ByteArray.mk #[48, 49, 50, 51, 52, 53, 54, 55, 56, 57, 97, 98, 99, 100, 101, 102]).extract n (n + 1) = ⟨#[hexB false n]⟩ := by
 have hd : ∀ n, n < 16 → (ByteArray.mk #[48, 49, 50, 51, 52, 53, 54, 55, 56, 57, 97, 98, 99, 100, 101, 102]).extract n (n + 1) = ⟨#[hexB false n]⟩ := by decide +kernel
 exact hd n h
theorem dig_great (n : Nat) (h : n < 16) : (ByteArray.mk #[48, 49, 50, 51, 52, 53, 54, 55, 56, 57, 65, 66, 67, 68, 69, 70]).extract n (n + 1) = ⟨#[hexB true n]⟩ := by
 have hd : ∀ n, n < 16 → (ByteArray.mk #[48, 49, 50, 51, 52, 53, 54, 55, 56, 57, 65, 66, 67, 68, 69, 70]).extract n (n + 1) = ⟨#[hexB true n]⟩ := by decide +kernel
 exact hd n h
set_option maxRecDepth 1000000 in
set_option maxHeartbeats 400000 in
theorem digit_any (n : Nat) (g : Bool) (h : n < 16) (w : World) :
  Calls Tryz.prog 36 #[.int .i64 n, .bool g] w fun e w' => e = .returned (.string ⟨#[hexB g n]⟩) ∧ w' = w := by
 have h1 := dig_small n h
 have h2 := dig_great n h
 have hn : (n : Int) < 16 := by omega
 cases g with
 | true =>
   clear h1
   generalize (⟨#[hexB true n]⟩ : ByteArray) = r at *
   go_enter Tryz.func36, Tryz.ntmps36
   go_wp2
   go_ret
   exact ⟨rfl, rfl⟩
 | false =>
   clear h2
   generalize (⟨#[hexB false n]⟩ : ByteArray) = r at *
   go_enter Tryz.func36, Tryz.ntmps36
   go_wp2
   go_ret
   exact ⟨rfl, rfl⟩
end Go.Proofs.YtiagjheifblkiaaGreatDoor
namespace Go.Proofs.YtiagjheifblkiaaGreatDoor
open Go.RowKit
end Go.Proofs.YtiagjheifblkiaaGreatDoor
namespace Go.Proofs.YtiagjheifblkiaaGreatDoor
open Go.RowKit
set_option linter.unusedVariables false
def eRel (b n q : Nat) (ds : List UInt8) : Prop := (ds = [] ∧ q = n) ∨ (ds ≠ [] ∧ digP false b q ++ ds = digS false b n)
theorem eRel_step (b n q : Nat) (ds : List UInt8) (hb : 2 ≤ b) (hq : q < 2 ^ 64) (h : eRel b n q ds) (hgo : ds = [] ∨ q ≠ 0) : eRel b n (q / b) (hexB false (q % b) :: ds) := by
 refine .inr ⟨by simp, ?_⟩
 rcases h with ⟨rfl, rfl⟩ | ⟨h1, h2⟩
 ·rfl
 ·rw [← h2, digP_step false b q hb (hgo.resolve_left h1) hq]
  simp
theorem eRel_len (b n q : Nat) (ds : List UInt8) (h : eRel b n q ds) : ds.length ≤ 65 := by
 rcases h with ⟨rfl, -⟩ | ⟨-, h⟩
 ·simp
 ·have h1 := digS_len false b n
  rw [← h, List.length_append] at h1
  omega
set_option maxRecDepth 1000000 in
set_option maxHeartbeats 800000 in
theorem edigits_10 (n : Nat) (w : World) (hn : n < 18446744073709551616) :
  Calls Tryz.prog 17 #[.int .u64 n, .int .i64 10] w fun e w' => e = .returned (.string (digT false 10 n)) ∧ w' = w := by
 go_enter Tryz.func17, Tryz.ntmps17
 go_wp2
 go_loopg [0, 5] (n + 1) (fun g nn s wr => wr = w ∧ ∃ (q : Nat) (u : ByteArray) (ds : List UInt8), nn = .int .u64 q ∧ s = .string u ∧ q + (1 - ds.length) ≤ g ∧ q ≤ n ∧ ds.length + q ≤ n + 1 ∧ u.size = ds.length ∧ Hid (u = ⟨ds.toArray⟩) ∧ Hid (eRel 10 n q ds))
 case atStart => exact ⟨rfl, n, ⟨#[]⟩, [], rfl, rfl, by simp, Nat.le_refl _, by simp, rfl, rfl, .inl ⟨rfl, rfl⟩⟩
 case round =>
  obtain ⟨rfl, q, u, ds, rfl, rfl, hg, hqn, hdn, hus, HU, HR⟩ := hrel
  by_cases hgo : u.size = 0 ∨ 0 < q
  ·have h16 : q % 10 < 16 := by omega
   have hdg : ∀ w, Calls Tryz.prog 36 #[.int .i64 ((q % 10 : Nat) : Int), .bool false] w fun e w' => e = .returned (.string ⟨#[hexB false (q % 10)]⟩) ∧ w' = w := fun w => digit_any (q % 10) false h16 w
   have hW : Hid (eRel 10 n (q / 10) (hexB false (q % 10) :: ds)) := eRel_step 10 n q ds (by omega) (by omega) HR.out (by rcases hgo with h | h; exact .inl (List.eq_nil_of_length_eq_zero (by omega)); exact .inr (by omega))
   have hcat : (⟨#[hexB false (q % 10)]⟩ : ByteArray) ++ u = ⟨(hexB false (q % 10) :: ds).toArray⟩ := by rw [HU.out]; exact ba_app [hexB false (q % 10)] ds
   obtain ⟨t, ht⟩ : ∃ t, (⟨#[hexB false (q % 10)]⟩ : ByteArray) = t := ⟨_, rfl⟩
   have htz : t.size = 1 := by rw [← ht]; rfl
   rw [ht] at hdg hcat
   obtain ⟨u2, hu2⟩ : ∃ u2, t ++ u = u2 := ⟨_, rfl⟩
   have HU2 : Hid (u2 = ⟨(hexB false (q % 10) :: ds).toArray⟩) := by rw [← hu2]; exact hcat
   have hz2 : u2.size = (hexB false (q % 10) :: ds).length := by rw [HU2.out]; simp [ByteArray.size]
   have hsum : ¬ 9223372036854775807 < t.size + u.size := by
    have := eRel_len 10 n q ds HR.out
    omega
   have hm1 : (q : Int) % 10 = ((q % 10 : Nat) : Int) := by omega
   have hm2 : (q : Int) / 10 = ((q / 10 : Nat) : Int) := by omega
   have hlen : q / 10 + (1 - (hexB false (q % 10) :: ds).length) ≤ gk - 1 ∧ 1 ≤ gk := by
    simp only [List.length_cons]
    rcases hgo with h | h <;> omega
   have hlen2 : (hexB false (q % 10) :: ds).length + q / 10 ≤ n + 1 := by
    simp only [List.length_cons]
    rcases hgo with h | h <;> omega
   clear ht hcat HU HR
   have hle : q / 10 ≤ q := Nat.div_le_self _ _
   generalize hexB false (q % 10) :: ds = ds2 at *
   generalize q % 10 = d at *
   generalize q / 10 = q2 at *
   by_cases hq : 0 < q
   ·have hq1 : 0 < (q : Int) := by omega
    go_wp2_with (go_at_call 36; refine (hdg _).mono ?_; rintro e w2 ⟨rfl, rfl⟩)
    go_roundg (gk - 1)
    case measure => omega
    case rel => exact ⟨rfl, q2, u2, ds2, rfl, rfl, hlen.1, by omega, hlen2, hz2, HU2, hW⟩
   ·have hq1 : ¬ 0 < (q : Int) := by omega
    have hq2 : decide (0 < q) = false := by simp; omega
    have hue : u.toList.isEmpty = true := empty_yes u (by omega)
    go_wp2_with (go_at_call 36; refine (hdg _).mono ?_; rintro e w2 ⟨rfl, rfl⟩)
    go_roundg (gk - 1)
    case measure => omega
    case rel => exact ⟨rfl, q2, u2, ds2, rfl, rfl, hlen.1, by omega, hlen2, hz2, HU2, hW⟩
  ·have hq1 : ¬ 0 < (q : Int) := by omega
   have hq2 : decide (0 < q) = false := by simp; omega
   have hue : u.toList.isEmpty = false := empty_no u (by omega)
   have HF : Hid (u = digT false 10 n) := by
    have hq0 : q = 0 := by omega
    rcases HR.out with ⟨h, -⟩ | ⟨-, h⟩
    ·rw [h, List.length_nil] at hus; omega
    ·rw [hq0, digP_zero] at h
     show u = digT false 10 n
     rw [HU.out]
     unfold digT
     rw [← h]; rfl
   go_wp2
   go_ret
   rw [HF.out]
   exact ⟨rfl, rfl⟩
end Go.Proofs.YtiagjheifblkiaaGreatDoor
namespace Go.Proofs.YtiagjheifblkiaaGreatDoor
open Go.RowKit
def Cl (w0 : World) : Type := { w : World // Below w0.heap.size w0 w }
def Cl.w {w0 : World} (x : Cl w0) : World := x.1
theorem Cl.below {w0 : World} (x : Cl w0) : Below w0.heap.size w0 x.w := x.2
theorem Cl.some_one {w0 : World} : Nonempty (Cl w0) := ⟨⟨w0, Below.refl _ _⟩⟩
theorem Cl.cell {w0 : World} (x : Cl w0) {p : Addr} {v : Value} (h : w0.cell? p = some v) : x.w.cell? p = some v := by
 have hp : p.block < w0.heap.size := by
  rcases Nat.lt_or_ge p.block w0.heap.size with h1 | h1
  ·exact h1
  ·simp [World.cell?, Array.getElem?_eq_none h1] at h
 exact (x.2.cell hp).trans h
theorem Cl.call {P : Program} {f : FuncId} {args : Array Value} {w0 : World} {x : Cl w0} {v : Value}
  (h : Calls P f args x.w fun e w' => e = .returned v ∧ Below x.w.heap.size x.w w') : Calls P f args x.w fun e w'' => e = .returned v ∧ ∃ y : Cl w0, w'' = y.w :=
 h.mono fun _ w' ⟨he, hb⟩ => ⟨he, ⟨w', x.2.trans (hb.mono x.2.size)⟩, rfl⟩
theorem Cl.call_same {P : Program} {f : FuncId} {args : Array Value} {w0 : World} {x : Cl w0} {v : Value}
  (h : Calls P f args x.w fun e w' => e = .returned v ∧ w' = x.w) : Calls P f args x.w fun e w'' => e = .returned v ∧ ∃ y : Cl w0, w'' = y.w :=
 h.mono fun _ _ ⟨he, hb⟩ => ⟨he, x, hb⟩
theorem Cl.go {P : Program} {f : FuncId} {args : Array Value} {w0 : World} {x : Cl w0} {v : Value}
  (h : Calls P f args x.w fun e w' => e = .returned v ∧ Below x.w.heap.size x.w w') : Calls P f args x.w fun e w'' => ∃ y : Cl w0, e = .returned v ∧ w'' = y.w :=
 h.mono fun _ w' ⟨he, hb⟩ => ⟨⟨w', x.2.trans (hb.mono x.2.size)⟩, he, rfl⟩
theorem Cl.go0 {P : Program} {f : FuncId} {args : Array Value} {w0 : World} {v : Value}
  (h : Calls P f args w0 fun e w' => e = .returned v ∧ Below w0.heap.size w0 w') : Calls P f args w0 fun e w'' => ∃ y : Cl w0, e = .returned v ∧ w'' = y.w :=
 h.mono fun _ w' ⟨he, hb⟩ => ⟨⟨w', hb⟩, he, rfl⟩
theorem wp_region_above {P : Program} {id : Nat} {Q : Exit → Act → World → Prop} {a : Act} {w : World} {l : List Oper} (w0 : World) (hw : Below w0.heap.size w0 w) (hm : P.follows .mixedOrders = true) (hB : Region.lexB .any l.toArray = true)
  (h : Nonempty (Cl w0) → wpQuiet P l.toArray (fun w' => ∃ x : Cl w0, w' = x.w) (fun a' => ∀ w', (∃ x : Cl w0, w' = x.w) → Q .normal a' w') l a) : (Code.region id l.toArray true).wp P Q a w :=
 wp_region_quiet (C := fun w' => ∃ x : Cl w0, w' = x.w) hm hB ⟨⟨_, hw.drew⟩, rfl⟩ (by simpa using h Cl.some_one)
end Go.Proofs.YtiagjheifblkiaaGreatDoor
namespace Go.Proofs.YtiagjheifblkiaaGreatDoor
open Go.RowKit
set_option linter.unusedVariables false
set_option linter.unusedSimpArgs false
structure Sl where
 a : Option Addr
 n : Nat
 c : Nat
def Sl.v (s : Sl) : Value := .slice s.a s.n s.c
def Sl.no : Sl := ⟨none, 0, 0⟩
structure Ds where
 k : Int
 ty : ByteArray
 bi : Int
 im : Int
 tx : ByteArray
 ns : Sl
 ps : Sl
 hk : Int
def Ds.v (d : Ds) : List Value := [.int .i64 d.k, .string d.ty, .int .u64 d.bi, .int .u64 d.im, .string d.tx, .slice d.ns.a d.ns.n d.ns.c, .slice d.ps.a d.ps.n d.ps.c, .int .i64 d.hk]
def Ds.no : Ds := ⟨0, ⟨#[]⟩, 0, 0, ⟨#[]⟩, .no, .no, 0⟩
structure Ac where
 k : Int
 t : ByteArray
 f : ByteArray
 l : Sl
 p : Ds
def Ac.v (x : Ac) : List Value := [.int .i64 x.k, .string x.t, .string x.f, .slice x.l.a x.l.n x.l.c] ++ x.p.v
def Ac.no : Ac := ⟨0, ⟨#[]⟩, ⟨#[]⟩, .no, .no⟩
structure Hk where
 a : Ac
 b : Ac
 c : Ac
 d : Ac
def Hk.v (h : Hk) : List Value := h.a.v ++ (h.b.v ++ (h.c.v ++ h.d.v))
theorem Ds.len (d : Ds) : d.v.length = 8 := rfl
theorem Ac.len (x : Ac) : x.v.length = 12 := rfl
theorem Hk.len (h : Hk) : h.v.length = 48 := rfl
theorem Ds.one (d : Ds) : ∀ v ∈ d.v, v.oneCell' = true := by
 intro v hv
 simp only [Ds.v, List.mem_cons, List.not_mem_nil, or_false] at hv
 rcases hv with rfl | rfl | rfl | rfl | rfl | rfl | rfl | rfl <;> rfl
theorem Ac.one (x : Ac) : ∀ v ∈ x.v, v.oneCell' = true := by
 intro v hv
 simp only [Ac.v, List.mem_append, List.mem_cons, List.not_mem_nil, or_false] at hv
 rcases hv with (rfl | rfl | rfl | rfl) | hv
 ·rfl
 ·rfl
 ·rfl
 ·rfl
 ·exact x.p.one v hv
theorem Hk.one (h : Hk) : ∀ v ∈ h.v, v.oneCell' = true := by
 intro v hv
 simp only [Hk.v, List.mem_append] at hv
 rcases hv with hv | hv | hv | hv
 ·exact h.a.one v hv
 ·exact h.b.one v hv
 ·exact h.c.one v hv
 ·exact h.d.one v hv
structure Blk (w : World) (B : Nat) (vs : List Value) : Prop where
 c : ∀ i v, vs[i]? = some v → w.cell? ⟨B, i, none⟩ = some v
 z : ∀ i, w.frozen? ⟨B, i, none⟩ = false
 b : B < w.heap.size
theorem Blk.up {w w' : World} {B : Nat} {vs : List Value} (h : Blk w B vs) (hb : Below w.heap.size w w') : Blk w' B vs :=
 ⟨fun i v hv => (hb.cell (p := ⟨B, i, none⟩) h.b).trans (h.c i v hv), fun i => (hb.frozen (p := ⟨B, i, none⟩) h.b).trans (h.z i), Nat.lt_of_lt_of_le h.b hb.size⟩
theorem Blk.grown {w w' : World} {B : Nat} {vs : List Value} {R : Nat} (h : Blk w B vs) (hg : w.grownBy w' (some R)) (hne : B ≠ R) : Blk w' B vs := by
 have hB := hg.block B h.b (by simpa using hne)
 exact ⟨fun i v hv => (World.cell?_of_block (w := w) (a := ⟨B, i, none⟩) hB).trans (h.c i v hv), fun i => (World.frozen?_of_block (w := w) (a := ⟨B, i, none⟩) hB).trans (h.z i), Nat.lt_of_lt_of_le h.b hg.size⟩
theorem Blk.new (w : World) (vs : List Value) (t : TypeId) : Blk (w.alloc (.cells vs.toArray t)) w.heap.size vs :=
 ⟨fun i v hv => by simp [hv], fun i => by simp, by simp⟩
theorem Blk.alloc {w : World} {B : Nat} {vs : List Value} (h : Blk w B vs) (o : Obj) : Blk (w.alloc o) B vs := h.up ((Below.refl _ _).alloc (Nat.le_refl _) _)
theorem Blk.mid {w : World} {B : Nat} {p cs q : List Value} (h : Blk w B (p ++ (cs ++ q))) {o : Nat} (ho : p.length = o) : w.rangeAt B o cs := fun j v hv => by
 subst ho
 refine h.c _ v ?_
 rw [List.getElem?_append_right (by omega), Nat.add_sub_cancel_left, List.getElem?_append_left]
 ·exact hv
 ·exact (List.getElem?_eq_some_iff.1 hv).1
theorem Blk.range {w : World} {B : Nat} {vs : List Value} (h : Blk w B vs) : w.rangeAt B 0 vs := fun j v hv => by rw [Nat.zero_add]; exact h.c j v hv
theorem Blk.there {w : World} {B : Nat} {vs : List Value} (h : Blk w B vs) : w.there B 0 vs.length := fun j hj => by
 rw [Nat.zero_add]
 exact ⟨by rw [h.c j _ (List.getElem?_eq_getElem hj)]; rfl, h.z j⟩
theorem xsc_size (w : World) (b : Nat) : ∀ (vs : List Value) (o : Nat), (w.setCells b o vs).heap.size = w.heap.size := by
 intro vs
 induction vs generalizing w with
 | nil => intro o; rfl
 | cons v r ih => intro o; rw [World.setCells, ih]; simp [World.setCell]
theorem xsc_heap (b k : Nat) (hk : k ≠ b) : ∀ (vs : List Value) (w : World) (o : Nat), (w.setCells b o vs).heap[k]? = w.heap[k]?
 | [], _, _ => rfl
 | v :: r, w, o => by rw [World.setCells, xsc_heap b k hk r, Below.heap_setCell _ _ _ _ hk]
theorem xsc_rest (b : Nat) : ∀ (vs : List Value) (w : World) (o : Nat), (w.setCells b o vs).os = w.os ∧ (w.setCells b o vs).tape = w.tape ∧ (w.setCells b o vs).output = w.output
 | [], _, _ => ⟨rfl, rfl, rfl⟩
 | v :: r, w, o => by
   rw [World.setCells]
   obtain ⟨h1, h2, h3⟩ := xsc_rest b r (w.setCell ⟨b, o, none⟩ v) (o + 1)
   exact ⟨h1, h2, h3⟩
theorem xbelow_sc {N : Nat} {w w' : World} {B : Nat} (h : Below N w w') (hB : N ≤ B) (o : Nat) (vs : List Value) : Below N w (w'.setCells B o vs) := by
 obtain ⟨h1, h2, h3⟩ := xsc_rest B vs w' o
 exact ⟨h1.trans h.os, h2.trans h.tape, h3.trans h.output, by rw [xsc_size]; exact h.size, fun k hk => by rw [xsc_heap B k (by omega)]; exact h.block k hk⟩
theorem Blk.all {w : World} {B : Nat} {vs : List Value} (h : Blk w B vs) (us : List Value) (hl : us.length = vs.length) : Blk (w.setCells B 0 us) B us := by
 refine ⟨fun i v hv => ?_, fun i => (World.frozen?_setCells _ _ _ _ _).trans (h.z i), by rw [xsc_size]; exact h.b⟩
 have := World.rangeAt_setCells_same w B 0 us (by rw [hl]; exact h.there) i v hv
 rwa [Nat.zero_add] at this
theorem Blk.oth {w : World} {B B' : Nat} {vs : List Value} (h : Blk w B vs) (hne : B' ≠ B) (o : Nat) (us : List Value) : Blk (w.setCells B' o us) B vs := by
 have hB := xsc_heap B' B hne.symm us w o
 exact ⟨fun i u hu => (World.cell?_of_block (w := w) (a := ⟨B, i, none⟩) hB).trans (h.c i u hu), fun i => (World.frozen?_of_block (w := w) (a := ⟨B, i, none⟩) hB).trans (h.z i), by rw [xsc_size]; exact h.b⟩
def Row (t n : Nat) : Prop := (∃ d, Tryz.prog.underlying t = some d ∧ d.isRow = true) ∧ (Tryz.prog.info? t).map (·.size) = some n
theorem row_Hook : Row 114 48 := ⟨⟨_, Tryz.underlying114, rfl⟩, by kernel_rfl⟩
theorem row_Spec : Row 198 8 := ⟨⟨_, Tryz.underlying198, rfl⟩, by kernel_rfl⟩
theorem wpl_ld {ops : Array Oper} {rest : List Oper} {op : Oper} {a : Act} {w : World} {Q : Exit → Act → World → Prop} {t n : Nat} (hr : Row t n) (hgd : op.guard = none) (x : Operand) (ho : op.op = .load t x) {B o : Nat} {vs : List Value}
  (hx : a.eval x = .pointer (some ⟨B, o, none⟩)) (hB : w.rangeAt B o vs) (hl : vs.length = n)
  (h : wpList Tryz.prog ops Q rest (a.put op.dst (.agg vs.toArray)) w) : wpList Tryz.prog ops Q (op :: rest) a w := by
 obtain ⟨⟨d, h1, h2⟩, h3⟩ := hr
 exact wpList_load_mid hgd t x ho B o hx vs d hB h1 h2 (by rw [hl]; exact h3) h
theorem wpl_st {ops : Array Oper} {rest : List Oper} {op : Oper} {a : Act} {w : World} {Q : Exit → Act → World → Prop} {t n : Nat} (hr : Row t n) (hgd : op.guard = none) (x y : Operand) (ho : op.op = .store t x y) {B : Nat} {vs us : List Value}
  (hx : a.eval x = .pointer (some ⟨B, 0, none⟩)) (hy : a.eval y = .agg us.toArray) (hB : Blk w B vs) (hl : vs.length = n) (hu : us.length = n) (h1 : ∀ v ∈ us, v.oneCell' = true)
  (h : wpList Tryz.prog ops Q rest (a.put op.dst undef) (w.setCells B 0 us)) : wpList Tryz.prog ops Q (op :: rest) a w := by
 refine wpList_store_mid hgd t x y ho B 0 us.toArray hx hy (by have := hB.there; rw [hl] at this; simpa [hu] using this) (by simp [hu, hr.2]) (all_oneCell_toArray h1) ?_
 simpa using h
theorem wpl_bld {ops : Array Oper} {rest : List Oper} {op : Oper} {a : Act} {w : World} {Q : Exit → Act → World → Prop} (hgd : op.guard = none) (t : TypeId) (parts : Array (Nat × Operand)) (ho : op.op = .build t parts) {V : Value} (ps : List (Nat × Value))
  (hx : parts.toList.map (fun x => (x.1, a.eval x.2)) = ps) (hb : (Instr.build t ps.toArray).run Tryz.prog w = .ok V w)
  (h : wpList Tryz.prog ops Q rest (a.put op.dst V) w) : wpList Tryz.prog ops Q (op :: rest) a w := by
 have hx' : (parts.map fun (i, x) => (i, a.eval x)) = ps.toArray := by
  rw [← hx]
  apply Array.ext'
  simp
 refine wpList_plain hgd fun K hK => ?_
 unfold Oper.wp execOp
 simp only [ho, hx', hb, Sem.run_bind, Sem.run_pure, Result.andThen_ok]
 exact hK _ _ h
theorem res_row {t n s : Nat} (hw : Row t n) {f : Func} (hr : f.results = #[.cell s t]) {tmps : Array Value} {w : World} {B : Nat} {vs : List Value} (ht : tmps.getD s undef = .pointer (some ⟨B, 0, none⟩)) (h : Blk w B vs) (hl : vs.length = n) : (results f tmps).run Tryz.prog w = .ok (.agg vs.toArray) w := by
 obtain ⟨⟨d, h1, h2⟩, h3⟩ := hw
 have hL := run_loadVar_mid (P := Tryz.prog) w B 0 t vs d h.range h1 h2 (by rw [hl]; exact h3)
 have ht' : tmps[s]?.getD undef = .pointer (some ⟨B, 0, none⟩) := by simpa using ht
 simp [results, hr, ht', hL, asAddr]
end Go.Proofs.YtiagjheifblkiaaGreatDoor
namespace Go.Proofs.YtiagjheifblkiaaGreatDoor
open Go.RowKit
set_option linter.unusedVariables false
set_option linter.unusedSimpArgs false
def hat (h : Hk) (n : Int) : Ac := if n = 1 then h.a else if n = 2 then h.b else if n = 3 then h.c else if n = 4 then h.d else .no
end Go.Proofs.YtiagjheifblkiaaGreatDoor
namespace Go.Proofs.YtiagjheifblkiaaGreatDoor
open Go.RowKit
set_option linter.unusedVariables false
set_option linter.unusedSimpArgs false
end Go.Proofs.YtiagjheifblkiaaGreatDoor
namespace Go.Proofs.YtiagjheifblkiaaGreatDoor
open Go.RowKit
set_option linter.unusedVariables false
set_option linter.unusedSimpArgs false
end Go.Proofs.YtiagjheifblkiaaGreatDoor
namespace Go.Proofs.YtiagjheifblkiaaGreatDoor
open Go.RowKit
set_option linter.unusedVariables false
set_option linter.unusedSimpArgs false
theorem Blk.other {w : World} {B B' o : Nat} {vs : List Value} (h : Blk w B vs) (hne : B' ≠ B) (v : Value) : Blk (w.setCell ⟨B', o, none⟩ v) B vs := by
 have hB : (w.setCell ⟨B', o, none⟩ v).heap[B]? = w.heap[B]? := Below.heap_setCell _ _ _ _ hne.symm
 exact ⟨fun i u hu => (World.cell?_of_block (w := w) (a := ⟨B, i, none⟩) hB).trans (h.c i u hu), fun i => (World.frozen?_of_block (w := w) (a := ⟨B, i, none⟩) hB).trans (h.z i), by simpa [World.setCell] using h.b⟩
theorem Blk.set {w : World} {B : Nat} {vs : List Value} (h : Blk w B vs) (i : Nat) (hi : i < vs.length) (v : Value) : Blk (w.setCell ⟨B, i, none⟩ v) B (vs.set i v) := by
 refine ⟨fun j u hu => ?_, fun j => (World.frozen?_setCell _ _ _ _).trans (h.z j), by simpa [World.setCell] using h.b⟩
 by_cases e : i = j
 ·subst e
  rw [List.getElem?_set_self hi] at hu
  obtain rfl := Option.some.inj hu
  exact World.cell?_setCell_same _ _ _ (h.c i _ (List.getElem?_eq_getElem hi))
 ·rw [List.getElem?_set_ne e] at hu
  rw [World.cell?_setCell_other _ _ _ _ (fun k => e (congrArg Addr.off k))]
  exact h.c j u hu
end Go.Proofs.YtiagjheifblkiaaGreatDoor
namespace Go.Proofs.YtiagjheifblkiaaGreatDoor
open Go.RowKit
set_option linter.unusedVariables false
end Go.Proofs.YtiagjheifblkiaaGreatDoor
