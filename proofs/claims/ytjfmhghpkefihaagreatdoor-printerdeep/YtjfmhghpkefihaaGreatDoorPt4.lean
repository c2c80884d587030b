/- XDo, XQuiet, XPut, IDig, INumD, Runes, Hexa, Plain5: these texts in one. -/
import Derived.Test.YtjfmhghpkefihaaGreatDoorPt3
import Derived.Defers
import Derived.Recover
import Derived.Test.YtjfmhghpkefihaaGreatDoorPt2
import Derived.Test.YtjfmhghpkefihaaGreatDoorPt1
import Derived.Lib.Case
import Derived.Test.YtjfmhghpkefihaaGreatDoorRows
import Derived.WalkSpells
import Derived.WalkLawsBesides
import Derived.Laws.BytesArg
import Derived.Test.YtjfmhghpkefihaaGreatDoorShelf
import Derived.Deep.LoopGhost
import Derived.Laws.BitsLemmas
import Derived.WalkKit
namespace Go.Proofs.YtjfmhghpkefihaaGreatDoor
open Go.RowKit
set_option linter.unusedVariables false
set_option linter.unusedSimpArgs false
theorem xcatch_idle (p : Nat) (w : World) (v : Value) (c : w.cell? ⟨p, 0, none⟩ = some v) (z : w.frozen? ⟨p, 0, none⟩ = false) :
  CallsD Tryz.prog 194 #[.pointer (some ⟨p, 0, none⟩)] .returning w fun e u' w' => e = .returned (.tuple #[]) ∧ u' = .returning ∧ w' = w.setCell ⟨p, 0, none⟩ .nilIface := by
 refine callsD_of_wpS Tryz.func194 rfl fun c₀ cs hu => ?_
 apply wpS_region
 simp [wpOpsS, go_sem, recoverD, hu, Tryz.ntmps194, Exit.thenS, c, z]
 exact ⟨rfl, .returning, by rw [← hu], _, results_none rfl _ _ _, rfl, rfl, rfl⟩
theorem Blk.other {w : World} {B B' o : Nat} {vs : List Value} (h : Blk w B vs) (hne : B' ≠ B) (v : Value) : Blk (w.setCell ⟨B', o, none⟩ v) B vs := by
 have hB : (w.setCell ⟨B', o, none⟩ v).heap[B]? = w.heap[B]? := Below.heap_setCell _ _ _ _ hne.symm
 exact ⟨fun i u hu => (World.cell?_of_block (w := w) (a := ⟨B, i, none⟩) hB).trans (h.c i u hu), fun i => (World.frozen?_of_block (w := w) (a := ⟨B, i, none⟩) hB).trans (h.z i), by simpa [World.setCell] using h.b⟩
theorem Blk.set {w : World} {B : Nat} {vs : List Value} (h : Blk w B vs) (i : Nat) (hi : i < vs.length) (v : Value) : Blk (w.setCell ⟨B, i, none⟩ v) B (vs.set i v) := by
 refine ⟨fun j u hu => ?_, fun j => (World.frozen?_setCell _ _ _ _).trans (h.z j), by simpa [World.setCell] using h.b⟩
 by_cases e : i = j
 ·subst e
  rw [List.getElem?_set_self hi] at hu
  obtain rfl := Option.some.inj hu
  exact World.cell?_setCell_same _ _ _ (h.c i _ (List.getElem?_eq_getElem hi))
 ·rw [List.getElem?_set_ne e] at hu
  rw [World.cell?_setCell_other _ _ _ _ (fun k => e (congrArg Addr.off k))]
  exact h.c j u hu
end Go.Proofs.YtjfmhghpkefihaaGreatDoor
namespace Go.Proofs.YtjfmhghpkefihaaGreatDoor
open Go.RowKit
set_option linter.unusedVariables false
end Go.Proofs.YtjfmhghpkefihaaGreatDoor
namespace Go.Proofs.YtjfmhghpkefihaaGreatDoor
open Go.RowKit
set_option linter.unusedVariables false
theorem Blk.thereMid {w : World} {B : Nat} {p cs q : List Value} (h : Blk w B (p ++ (cs ++ q))) : w.there B p.length cs.length := fun j hj => by
 refine ⟨?_, h.z _⟩
 have hlt : p.length + j < (p ++ (cs ++ q)).length := by simp; omega
 rw [h.c (p.length + j) _ (List.getElem?_eq_getElem hlt)]
 rfl
theorem Blk.put {w : World} {B : Nat} {p cs q : List Value} (h : Blk w B (p ++ (cs ++ q))) (us : List Value) (hl : us.length = cs.length) : Blk (w.setCells B p.length us) B (p ++ (us ++ q)) := by
 refine ⟨fun i v hv => ?_, fun i => (World.frozen?_setCells _ _ _ _ _).trans (h.z i), by rw [xsc_size]; exact h.b⟩
 have r1 : (w.setCells B p.length us).rangeAt B 0 p := by
  refine World.rangeAt_setCells_apart (fun j u hu => ?_) B p.length us (.inr (.inl (by omega)))
  rw [Nat.zero_add]
  exact h.c j u (by rw [List.getElem?_append_left (List.getElem?_eq_some_iff.1 hu).1]; exact hu)
 have r2 : (w.setCells B p.length us).rangeAt B p.length us := World.rangeAt_setCells_same w B p.length us (by rw [hl]; exact h.thereMid)
 have r3 : (w.setCells B p.length us).rangeAt B (p.length + cs.length) q := by
  refine World.rangeAt_setCells_apart (fun j u hu => ?_) B p.length us (.inr (.inr (by omega)))
  refine h.c _ u ?_
  rw [← List.append_assoc, List.getElem?_append_right (by simp), List.length_append, Nat.add_sub_cancel_left]
  exact hu
 rcases Nat.lt_or_ge i p.length with h1 | h1
 ·rw [List.getElem?_append_left h1] at hv
  have := r1 i v hv
  rwa [Nat.zero_add] at this
 ·rw [List.getElem?_append_right h1] at hv
  rcases Nat.lt_or_ge (i - p.length) us.length with h2 | h2
  ·rw [List.getElem?_append_left h2] at hv
   have := r2 _ v hv
   rwa [show p.length + (i - p.length) = i by omega] at this
  ·rw [List.getElem?_append_right h2] at hv
   have := r3 _ v hv
   rwa [show p.length + cs.length + (i - p.length - us.length) = i by omega] at this
theorem wpl_stm {ops : Array Oper} {rest : List Oper} {op : Oper} {a : Act} {w : World} {Q : Exit → Act → World → Prop} {t n : Nat} (hr : Row t n) (hgd : op.guard = none) (x y : Operand) (ho : op.op = .store t x y) {B o : Nat} {us : List Value}
  (hx : a.eval x = .pointer (some ⟨B, o, none⟩)) (hy : a.eval y = .agg us.toArray) (ht : w.there B o n) (hu : us.length = n) (h1 : ∀ v ∈ us, v.oneCell' = true)
  (h : wpList Tryz.prog ops Q rest (a.put op.dst undef) (w.setCells B o us)) : wpList Tryz.prog ops Q (op :: rest) a w := by
 refine wpList_store_mid hgd t x y ho B o us.toArray hx hy (by simpa [hu] using ht) (by simp [hu, hr.2]) (all_oneCell_toArray h1) ?_
 simpa using h
end Go.Proofs.YtjfmhghpkefihaaGreatDoor
namespace Go.Proofs.YtjfmhghpkefihaaGreatDoor
open Go.RowKit
def digF (g : Bool) (b : Nat) : Nat → Nat → List UInt8
 | 0, _ => []
 | f + 1, m => if m = 0 then [] else digF g b f (m / b) ++ [hexB g (m % b)]
def digP (g : Bool) (b m : Nat) : List UInt8 := digF g b 64 m
def digS (g : Bool) (b n : Nat) : List UInt8 := digP g b (n / b) ++ [hexB g (n % b)]
theorem digF_fuel (g : Bool) (b : Nat) (hb : 2 ≤ b) : ∀ (f h m : Nat), m < 2 ^ f → m < 2 ^ h → digF g b f m = digF g b h m
 | 0, 0, _, _, _ => rfl
 | 0, h + 1, m, hf, _ => by
   have : m = 0 := by simp at hf; omega
   simp [digF, this]
 | f + 1, 0, m, _, hh => by
   have : m = 0 := by simp at hh; omega
   simp [digF, this]
 | f + 1, h + 1, m, hf, hh => by
   by_cases hm : m = 0
   ·simp [digF, hm]
   ·simp only [digF, if_neg hm]
    have hd : m / b ≤ m / 2 := Nat.div_le_div_left hb (by omega)
    rw [digF_fuel g b hb f h (m / b) (by rw [Nat.pow_succ] at hf; omega) (by rw [Nat.pow_succ] at hh; omega)]
theorem digP_zero (g : Bool) (b : Nat) : digP g b 0 = [] := by simp [digP, digF]
theorem digF_succ (g : Bool) (b f m : Nat) : digF g b (f + 1) m = if m = 0 then [] else digF g b f (m / b) ++ [hexB g (m % b)] := rfl
theorem digP_step (g : Bool) (b m : Nat) (hb : 2 ≤ b) (h0 : m ≠ 0) (hm : m < 2 ^ 64) : digP g b m = digP g b (m / b) ++ [hexB g (m % b)] := by
 have hd : m / b ≤ m / 2 := Nat.div_le_div_left hb (by omega)
 have e : digF g b 63 (m / b) = digF g b 64 (m / b) := digF_fuel g b hb 63 64 _ (by have : (2 : Nat) ^ 64 = 2 * 2 ^ 63 := by decide
                                                                                    omega) (by omega)
 have e0 := digF_succ g b 63 m
 rw [if_neg h0, e] at e0
 exact e0
theorem digF_len (g : Bool) (b : Nat) : ∀ (f m : Nat), (digF g b f m).length ≤ f
 | 0, _ => by simp [digF]
 | f + 1, m => by
   have := digF_len g b f (m / b)
   simp only [digF]
   split
   ·simp
   ·simp; omega
theorem digP_len (g : Bool) (b m : Nat) : (digP g b m).length ≤ 64 := digF_len g b 64 m
theorem digS_len (g : Bool) (b n : Nat) : (digS g b n).length ≤ 65 := by
 have := digP_len g b (n / b)
 simp [digS]; omega
theorem digS_len1 (g : Bool) (b n : Nat) : 1 ≤ (digS g b n).length := by simp [digS]
theorem digF_mem (g : Bool) (b : Nat) (hb : 0 < b) : ∀ (f m : Nat) (x : UInt8), x ∈ digF g b f m → ∃ d, d < b ∧ x = hexB g d
 | 0, _, x, h => by simp [digF] at h
 | f + 1, m, x, h => by
   simp only [digF] at h
   split at h
   ·simp at h
   ·rcases List.mem_append.1 h with h | h
    ·exact digF_mem g b hb f _ x h
    ·exact ⟨m % b, Nat.mod_lt _ hb, by simpa using h⟩
theorem digS_mem (g : Bool) (b n : Nat) (hb : 0 < b) (x : UInt8) (h : x ∈ digS g b n) : ∃ d, d < b ∧ x = hexB g d := by
 rcases List.mem_append.1 h with h | h
 ·exact digF_mem g b hb 64 _ x h
 ·exact ⟨n % b, Nat.mod_lt _ hb, by simpa using h⟩
theorem upper_hex (d : Nat) (h : d < 16) : Lib.upperB (hexB false d) = hexB true d := by
 have : ∀ i : Fin 16, Lib.upperB (hexB false i.val) = hexB true i.val := by decide
 exact this ⟨d, h⟩
theorem upperA_digF (b : Nat) (hb : 0 < b) (h16 : b ≤ 16) : ∀ (f m : Nat), Lib.toUpperA (digF false b f m) = digF true b f m
 | 0, _ => rfl
 | f + 1, m => by
   have ih := upperA_digF b hb h16 f (m / b)
   have hlt := Nat.mod_lt m hb
   simp only [digF]
   split
   ·rfl
   ·simp only [Lib.toUpperA, List.map_append, List.map_cons, List.map_nil] at ih ⊢
    rw [ih, upper_hex _ (by omega)]
theorem upperA_digS (b n : Nat) (hb : 0 < b) (h16 : b ≤ 16) : Lib.toUpperA (digS false b n) = digS true b n := by
 have hlt := Nat.mod_lt n hb
 have ih := upperA_digF b hb h16 64 (n / b)
 unfold digS digP
 simp only [Lib.toUpperA, List.map_append, List.map_cons, List.map_nil] at ih ⊢
 rw [ih, upper_hex _ (by omega)]
theorem hexB_ascii (g : Bool) (d : Nat) (h : d < 16) : (hexB g d).toNat < 128 := by
 have : ∀ i : Fin 16, (hexB false i.val).toNat < 128 ∧ (hexB true i.val).toNat < 128 := by decide
 have := this ⟨d, h⟩
 cases g
 ·exact this.1
 ·exact this.2
theorem digS_ascii (g : Bool) (b n : Nat) (hb : 0 < b) (h16 : b ≤ 16) (x : UInt8) (h : x ∈ digS g b n) : x.toNat < 128 := by
 obtain ⟨d, hd, rfl⟩ := digS_mem g b n hb x h
 exact hexB_ascii g d (by omega)
end Go.Proofs.YtjfmhghpkefihaaGreatDoor
namespace Go.Proofs.YtjfmhghpkefihaaGreatDoor
open Go.RowKit
def lenS (s : ByteArray) (n : Int) : ByteArray := run 48 (wdt (n - (s.size : Nat))) ++ s
theorem lenS_size (s : ByteArray) (n : Int) : (lenS s n).size ≤ s.size + 1000 ∧ s.size ≤ (lenS s n).size := by
 have := wdt_le (n - (s.size : Nat))
 unfold lenS
 rw [app_size, run_size]; omega
def digT (g : Bool) (b n : Nat) : ByteArray := ⟨(digS g b n).toArray⟩
theorem digT_size (g : Bool) (b n : Nat) : (digT g b n).size ≤ 65 ∧ 1 ≤ (digT g b n).size := by
 have h1 := digS_len g b n
 have h2 := digS_len1 g b n
 have h3 : (digT g b n).size = (digS g b n).length := by simp [digT, ByteArray.size]
 omega
def digBy (size b : Nat) (prec verb : Int) : ByteArray := if size = 0 ∧ prec = 0 then ⟨#[]⟩ else lenS (digT (decide (verb = 88)) b size) (wdt prec : Nat)
theorem digBy_size (size b : Nat) (prec verb : Int) : (digBy size b prec verb).size ≤ 2000 := by
 have h1 := digT_size (decide (verb = 88)) b size
 have h2 := lenS_size (digT (decide (verb = 88)) b size) (wdt prec : Nat)
 unfold digBy
 split
 ·exact Nat.zero_le _
 ·omega
def markB (d : ByteArray) (sh : Bool) (verb : Int) : ByteArray :=
 if verb = 79 then ⟨#[48, 111]⟩ else if sh = false then ⟨#[]⟩ else if verb = 98 then ⟨#[48, 98]⟩ else if verb = 111 then (if bt d 0 = 48 then ⟨#[]⟩ else ⟨#[48]⟩) else if verb = 120 then ⟨#[48, 120]⟩ else if verb = 88 then ⟨#[48, 88]⟩ else ⟨#[]⟩
theorem markB_size (d : ByteArray) (sh : Bool) (verb : Int) : (markB d sh verb).size ≤ 2 := by
 unfold markB
 repeat' split
 all_goals decide
def widD (d : ByteArray) (a : Nat) (mi z : Bool) (wid prec : Int) : ByteArray := if z = true ∧ mi = false ∧ prec < 0 then lenS d ((wdt wid : Nat) - (a : Nat)) else d
theorem widD_size (d : ByteArray) (a : Nat) (mi z : Bool) (wid prec : Int) : (widD d a mi z wid prec).size ≤ d.size + 1000 := by
 have := lenS_size d ((wdt wid : Nat) - (a : Nat))
 unfold widD
 split <;> omega
def coreB (size b : Nat) (sign : ByteArray) (mi sh z : Bool) (wid prec verb : Int) : ByteArray :=
 if (digBy size b prec verb).size = 0 then ⟨#[]⟩ else (sign ++ markB (digBy size b prec verb) sh verb) ++ widD (digBy size b prec verb) (sign ++ markB (digBy size b prec verb) sh verb).size mi z wid prec
theorem coreB_size (size b : Nat) (sign : ByteArray) (mi sh z : Bool) (wid prec verb : Int) (hs : sign.size ≤ 1) : (coreB size b sign mi sh z wid prec verb).size ≤ 4000 := by
 have h1 := digBy_size size b prec verb
 have h2 := markB_size (digBy size b prec verb) sh verb
 have h3 := widD_size (digBy size b prec verb) (sign ++ markB (digBy size b prec verb) sh verb).size mi z wid prec
 unfold coreB
 split
 ·exact Nat.zero_le _
 ·rw [app_size, app_size] at *; omega
def ptN (bits : Nat) : Nat := if 1114111 < bits then 65533 else bits
def nameA (bits : Nat) (prec : Int) : ByteArray := (⟨#[85, 43]⟩ : ByteArray) ++ lenS (digT true 16 bits) (max 4 (wdt prec : Nat))
def nameS (bits : Nat) (sh : Bool) (prec : Int) : ByteArray := if sh = true ∧ plainP (ptN bits : Int) = true then ((nameA bits prec ++ ⟨#[32, 39]⟩) ++ Utf8.encode (ptN bits : Int)) ++ ⟨#[39]⟩ else nameA bits prec
theorem nameA_size (bits : Nat) (prec : Int) : (nameA bits prec).size ≤ 1100 := by
 have h1 := digT_size true 16 bits
 have h2 := lenS_size (digT true 16 bits) (max 4 (wdt prec : Nat))
 have h3 : (⟨#[85, 43]⟩ : ByteArray).size = 2 := rfl
 unfold nameA
 rw [app_size]; omega
theorem enc_size4 (c : Nat) : (Utf8.encode (c : Int)).size ≤ 4 := by
 have := enc_len c
 rw [list_len] at this; exact this
theorem nameS_size (bits : Nat) (sh : Bool) (prec : Int) : (nameS bits sh prec).size ≤ 1200 := by
 have h1 := nameA_size bits prec
 have h2 := enc_size4 (ptN bits)
 have h3 : (⟨#[32, 39]⟩ : ByteArray).size = 2 := rfl
 have h4 : (⟨#[39]⟩ : ByteArray).size = 1 := rfl
 unfold nameS
 split
 ·rw [app_size, app_size, app_size]; omega
 ·omega
def signA (p sp : Bool) : ByteArray := if p = true then ⟨#[43]⟩ else if sp = true then ⟨#[32]⟩ else ⟨#[]⟩
theorem signA_size (p sp : Bool) : (signA p sp).size ≤ 1 := by cases p <;> cases sp <;> decide
def baseV (verb : Int) : Nat := if verb = 100 ∨ verb = 118 then 10 else if verb = 98 then 2 else if verb = 111 ∨ verb = 79 then 8 else if verb = 120 ∨ verb = 88 then 16 else 0
theorem baseV_is (verb : Int) (h : ¬ baseV verb = 0) : baseV verb = 2 ∨ baseV verb = 8 ∨ baseV verb = 10 ∨ baseV verb = 16 := by
 unfold baseV at *
 repeat' split at h
 all_goals simp_all
end Go.Proofs.YtjfmhghpkefihaaGreatDoor
namespace Go.Proofs.YtjfmhghpkefihaaGreatDoor
open Go.RowKit
set_option maxHeartbeats 400000 in
theorem rune_any (c : Int) (w : World) :
  Calls Tryz.prog 36 #[.int .i32 c] w fun e w' => e = .returned (.string (Utf8.encode c)) ∧ w' = w := by
 go_enter Tryz.func36, Tryz.ntmps36
 go_wp2
 go_ret
 exact ⟨rfl, rfl⟩
end Go.Proofs.YtjfmhghpkefihaaGreatDoor
namespace Go.Proofs.YtjfmhghpkefihaaGreatDoor
open Go.RowKit
theorem small_at (i : Nat) (h : i < (ByteArray.mk #[48, 49, 50, 51, 52, 53, 54, 55, 56, 57, 97, 98, 99, 100, 101, 102]).size) : ((ByteArray.mk #[48, 49, 50, 51, 52, 53, 54, 55, 56, 57, 97, 98, 99, 100, 101, 102])[i]'h).toNat = hexN false i := by
 match i, h with
 | 0, _ => rfl
 | 1, _ => rfl
 | 2, _ => rfl
 | 3, _ => rfl
 | 4, _ => rfl
 | 5, _ => rfl
 | 6, _ => rfl
 | 7, _ => rfl
 | 8, _ => rfl
 | 9, _ => rfl
 | 10, _ => rfl
 | 11, _ => rfl
 | 12, _ => rfl
 | 13, _ => rfl
 | 14, _ => rfl
 | 15, _ => rfl
 | n + 16, h => exact absurd h (by show ¬ n + 16 < 16; omega)
theorem wraps_i32_31 (n : Int) (h₀ : 0 ≤ n) (h₁ : n < 2 ^ 31) : IntKind.i32.wrap n = n := by
 have e : (2 : Int) ^ 31 = 2147483648 := by decide
 rw [e] at h₁
 rw [IntKind.wrap_i32]
 omega
theorem bits15 (x : Nat) (h : x < 2147483648) : bits .and .i32 (x : Int) 15 = ((x % 16 : Nat) : Int) := by
 have e := bits_mask .i32 31 (by decide) wraps_i32_31 4 (by decide) (x : Int) (by omega) (by have : (2 : Int) ^ 31 = 2147483648 := by decide
                                                                                             omega)
 have e1 : ((2 : Int) ^ 4 - 1) = 15 := by decide
 have e2 : ((2 : Int) ^ 4) = 16 := by decide
 rw [e1, e2] at e
 rw [e]
 omega
theorem shr_nat (c j : Nat) : (c : Int) / 2 ^ (4 * j) = ((c / 16 ^ j : Nat) : Int) := by
 have : (2 : Int) ^ (4 * j) = ((16 ^ j : Nat) : Int) := by
  rw [Int.pow_mul]; simp
 rw [this]; simp
theorem hexN_lt (g : Bool) (i : Nat) (h : i < 16) : hexN g i < 256 := by unfold hexN; split <;> (try split) <;> omega
theorem hexB_nat (g : Bool) (i : Nat) (h : i < 16) : (hexB g i).toNat = hexN g i := by
 have := hexN_lt g i h
 unfold hexB
 simp
 omega
theorem cells_hex (l : List UInt8) (g : Bool) (i : Nat) (h : i < 16) : Lib.byteCells l ++ [.int .u8 (hexN g i : Nat)] = Lib.byteCells (l ++ [hexB g i]) := by
 rw [Lib.byteCells_append, ← hexB_nat g i h]; rfl
set_option maxHeartbeats 400000 in
theorem plain_any (c : Int) (w : World) :
  Calls Tryz.prog 167 #[.int .i32 c] w fun e w' => e = .returned (.bool (plainP c)) ∧ w' = w := by
 by_cases h1 : c = 173 <;> by_cases h2 : c ≤ 160 <;> by_cases h3 : 32 ≤ c <;> by_cases h4 : c ≤ 126 <;> by_cases h5 : c ≤ 65532 <;> by_cases h6 : c ≤ 55295 <;> by_cases h7 : 57344 ≤ c <;> by_cases h8 : 65536 ≤ c <;> by_cases h9 : c ≤ 1114111
 all_goals first | (exfalso; omega) | skip
 all_goals first | (have hp : plainP c = true := (by rw [plainP_iff]; omega)) | (have hp : plainP c = false := (by rw [plainP_not]; omega))
 all_goals
  rw [hp]
  go_enter Tryz.func167, Tryz.ntmps167
  go_wp2
  go_ret
  exact ⟨rfl, rfl⟩
set_option maxRecDepth 1000000 in
set_option maxHeartbeats 800000 in
theorem hexa_any (c k : Nat) (w : World) (hc : c ≤ 1114111) (hk : k ≤ 8) :
  Calls Tryz.prog 125 #[.int .i32 c, .int .i64 k] w fun e w' => e = .returned (.string ⟨(hexL c k).toArray⟩) ∧ Below w.heap.size w w' := by
 go_enter Tryz.func125, Tryz.ntmps125
 go_wp2
 go_loopg [1] k (fun m n wr => n = .int .i64 ((m : Int) - 1) ∧ m ≤ k ∧ Lib.IsBuilderF 73 5 w.heap.size w.heap.size (Lib.byteCells (hexL (c / 16 ^ m) (k - m))) wr ∧ Below w.heap.size w wr)
 case atStart =>
  refine ⟨rfl, Nat.le_refl _, ?_, (Below.refl _ w).alloc (Nat.le_refl _) _⟩
  rw [Nat.sub_self]
  exact Lib.IsBuilderF.of (Lib.fresh_isBuilder 73 5 w)
 case round =>
  obtain ⟨rfl, hm, hI, hb⟩ := hrel
  have hsz := hb.size
  cases gk with
  | zero =>
    go_wp2_with (go_at_call 29; refine (Tryz.builderString w.heap.size w.heap.size _ _ hI hsz).mono ?_)
    rintro e w1 ⟨rfl, _, hb1, _⟩
    go_wp2
    go_ret
    refine ⟨?_, hb.trans hb1⟩
    simp
  | succ j =>
    have ej : ((j + 1 : Nat) : Int) - 1 = (j : Int) := by omega
    rw [ej]
    have h4 : wrap64 (4 * (j : Int)) = 4 * (j : Int) := by unfold wrap64; omega
    have h16 : c / 16 ^ j % 16 < 16 := Nat.mod_lt _ (by omega)
    have hle : c / 16 ^ j ≤ c := Nat.div_le_self _ _
    have hbits : bits .and .i32 ((c : Int) / 2 ^ (4 * j)) 15 = ((c / 16 ^ j % 16 : Nat) : Int) := by rw [shr_nat, bits15 _ (by omega)]
    obtain ⟨d, hd⟩ : ∃ d, c / 16 ^ j % 16 = d := ⟨_, rfl⟩
    rw [hd] at hbits h16
    have hd' : d < (ByteArray.mk #[48, 49, 50, 51, 52, 53, 54, 55, 56, 57, 97, 98, 99, 100, 101, 102]).size := h16
    go_wp2_with (go_at_call 123; refine (Tryz.writeByte w.heap.size w.heap.size _ _ _ hI (by rw [Lib.byteCells_length, hexL_len]; omega) hsz).mono ?_)
    rintro e w1 ⟨rfl, h1, hb1, _⟩
    rw [small_at, cells_hex _ _ _ h16] at h1
    go_wp2
    go_roundg j
    case measure => omega
    case rel =>
     refine ⟨val_int (by omega), by omega, ?_, hb.trans hb1⟩
     rw [hexL_more c k j hm, hd]
     exact Or.inr h1
end Go.Proofs.YtjfmhghpkefihaaGreatDoor
namespace Go.Proofs.YtjfmhghpkefihaaGreatDoor
open Go.RowKit
end Go.Proofs.YtjfmhghpkefihaaGreatDoor
