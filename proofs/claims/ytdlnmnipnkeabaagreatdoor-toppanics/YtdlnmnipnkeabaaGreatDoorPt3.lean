/- INumD, Runes, Hexa, Plain5, IWritten, Decode: these texts in one. -/
import Derived.Test.YtdlnmnipnkeabaaGreatDoorPt2
import Derived.Test.YtdlnmnipnkeabaaGreatDoorPt1
import Derived.Test.YtdlnmnipnkeabaaGreatDoorRows
import Derived.WalkSpells
import Derived.WalkLawsBesides
import Derived.Laws.BytesArg
import Derived.Test.YtdlnmnipnkeabaaGreatDoorShelf
import Derived.Deep.LoopGhost
import Derived.Laws.BitsLemmas
import Derived.WalkKit
namespace Go.Proofs.YtdlnmnipnkeabaaGreatDoor
open Go.RowKit
def lenS (s : ByteArray) (n : Int) : ByteArray := run 48 (wdt (n - (s.size : Nat))) ++ s
theorem lenS_size (s : ByteArray) (n : Int) : (lenS s n).size ≤ s.size + 1000 ∧ s.size ≤ (lenS s n).size := by
 have := wdt_le (n - (s.size : Nat))
 unfold lenS
 rw [app_size, run_size]; omega
def digT (g : Bool) (b n : Nat) : ByteArray := ⟨(digS g b n).toArray⟩
theorem digT_size (g : Bool) (b n : Nat) : (digT g b n).size ≤ 65 ∧ 1 ≤ (digT g b n).size := by
 have h1 := digS_len g b n
 have h2 := digS_len1 g b n
 have h3 : (digT g b n).size = (digS g b n).length := by simp [digT, ByteArray.size]
 omega
def digBy (size b : Nat) (prec verb : Int) : ByteArray := if size = 0 ∧ prec = 0 then ⟨#[]⟩ else lenS (digT (decide (verb = 88)) b size) (wdt prec : Nat)
theorem digBy_size (size b : Nat) (prec verb : Int) : (digBy size b prec verb).size ≤ 2000 := by
 have h1 := digT_size (decide (verb = 88)) b size
 have h2 := lenS_size (digT (decide (verb = 88)) b size) (wdt prec : Nat)
 unfold digBy
 split
 ·exact Nat.zero_le _
 ·omega
def markB (d : ByteArray) (sh : Bool) (verb : Int) : ByteArray :=
 if verb = 79 then ⟨#[48, 111]⟩ else if sh = false then ⟨#[]⟩ else if verb = 98 then ⟨#[48, 98]⟩ else if verb = 111 then (if bt d 0 = 48 then ⟨#[]⟩ else ⟨#[48]⟩) else if verb = 120 then ⟨#[48, 120]⟩ else if verb = 88 then ⟨#[48, 88]⟩ else ⟨#[]⟩
theorem markB_size (d : ByteArray) (sh : Bool) (verb : Int) : (markB d sh verb).size ≤ 2 := by
 unfold markB
 repeat' split
 all_goals decide
def widD (d : ByteArray) (a : Nat) (mi z : Bool) (wid prec : Int) : ByteArray := if z = true ∧ mi = false ∧ prec < 0 then lenS d ((wdt wid : Nat) - (a : Nat)) else d
theorem widD_size (d : ByteArray) (a : Nat) (mi z : Bool) (wid prec : Int) : (widD d a mi z wid prec).size ≤ d.size + 1000 := by
 have := lenS_size d ((wdt wid : Nat) - (a : Nat))
 unfold widD
 split <;> omega
def coreB (size b : Nat) (sign : ByteArray) (mi sh z : Bool) (wid prec verb : Int) : ByteArray :=
 if (digBy size b prec verb).size = 0 then ⟨#[]⟩ else (sign ++ markB (digBy size b prec verb) sh verb) ++ widD (digBy size b prec verb) (sign ++ markB (digBy size b prec verb) sh verb).size mi z wid prec
theorem coreB_size (size b : Nat) (sign : ByteArray) (mi sh z : Bool) (wid prec verb : Int) (hs : sign.size ≤ 1) : (coreB size b sign mi sh z wid prec verb).size ≤ 4000 := by
 have h1 := digBy_size size b prec verb
 have h2 := markB_size (digBy size b prec verb) sh verb
 have h3 := widD_size (digBy size b prec verb) (sign ++ markB (digBy size b prec verb) sh verb).size mi z wid prec
 unfold coreB
 split
 ·exact Nat.zero_le _
 ·rw [app_size, app_size] at *; omega
def ptN (bits : Nat) : Nat := if 1114111 < bits then 65533 else bits
def nameA (bits : Nat) (prec : Int) : ByteArray := (⟨#[85, 43]⟩ : ByteArray) ++ lenS (digT true 16 bits) (max 4 (wdt prec : Nat))
def nameS (bits : Nat) (sh : Bool) (prec : Int) : ByteArray := if sh = true ∧ plainP (ptN bits : Int) = true then ((nameA bits prec ++ ⟨#[32, 39]⟩) ++ Utf8.encode (ptN bits : Int)) ++ ⟨#[39]⟩ else nameA bits prec
theorem nameA_size (bits : Nat) (prec : Int) : (nameA bits prec).size ≤ 1100 := by
 have h1 := digT_size true 16 bits
 have h2 := lenS_size (digT true 16 bits) (max 4 (wdt prec : Nat))
 have h3 : (⟨#[85, 43]⟩ : ByteArray).size = 2 := rfl
 unfold nameA
 rw [app_size]; omega
theorem enc_size4 (c : Nat) : (Utf8.encode (c : Int)).size ≤ 4 := by
 have := enc_len c
 rw [list_len] at this; exact this
theorem nameS_size (bits : Nat) (sh : Bool) (prec : Int) : (nameS bits sh prec).size ≤ 1200 := by
 have h1 := nameA_size bits prec
 have h2 := enc_size4 (ptN bits)
 have h3 : (⟨#[32, 39]⟩ : ByteArray).size = 2 := rfl
 have h4 : (⟨#[39]⟩ : ByteArray).size = 1 := rfl
 unfold nameS
 split
 ·rw [app_size, app_size, app_size]; omega
 ·omega
def signA (p sp : Bool) : ByteArray := if p = true then ⟨#[43]⟩ else if sp = true then ⟨#[32]⟩ else ⟨#[]⟩
theorem signA_size (p sp : Bool) : (signA p sp).size ≤ 1 := by cases p <;> cases sp <;> decide
def baseV (verb : Int) : Nat := if verb = 100 ∨ verb = 118 then 10 else if verb = 98 then 2 else if verb = 111 ∨ verb = 79 then 8 else if verb = 120 ∨ verb = 88 then 16 else 0
theorem baseV_is (verb : Int) (h : ¬ baseV verb = 0) : baseV verb = 2 ∨ baseV verb = 8 ∨ baseV verb = 10 ∨ baseV verb = 16 := by
 unfold baseV at *
 repeat' split at h
 all_goals simp_all
end Go.Proofs.YtdlnmnipnkeabaaGreatDoor
namespace Go.Proofs.YtdlnmnipnkeabaaGreatDoor
open Go.RowKit
set_option maxHeartbeats 400000 in
theorem rune_any (c : Int) (w : World) :
  Calls Tryz.prog 10 #[.int .i32 c] w fun e w' => e = .returned (.string (Utf8.encode c)) ∧ w' = w := by
 go_enter Tryz.func10, Tryz.ntmps10
 go_wp2
 go_ret
 exact ⟨rfl, rfl⟩
end Go.Proofs.YtdlnmnipnkeabaaGreatDoor
namespace Go.Proofs.YtdlnmnipnkeabaaGreatDoor
open Go.RowKit
theorem small_at (i : Nat) (h : i < (ByteArray.mk #[48, 49, 50, 51, 52, 53, 54, 55, 56, 57, 97, 98, 99, 100, 101, 102]).size) : ((ByteArray.mk #[48, 49, 50, 51, 52, 53, 54, 55, 56, 57, 97, 98, 99, 100, 101, 102])[i]'h).toNat = hexN false i := by
 match i, h with
 | 0, _ => rfl
 | 1, _ => rfl
 | 2, _ => rfl
 | 3, _ => rfl
 | 4, _ => rfl
 | 5, _ => rfl
 | 6, _ => rfl
 | 7, _ => rfl
 | 8, _ => rfl
 | 9, _ => rfl
 | 10, _ => rfl
 | 11, _ => rfl
 | 12, _ => rfl
 | 13, _ => rfl
 | 14, _ => rfl
 | 15, _ => rfl
 | n + 16, h => exact absurd h (by show ¬ n + 16 < 16; omega)
theorem great_at (i : Nat) (h : i < (ByteArray.mk #[48, 49, 50, 51, 52, 53, 54, 55, 56, 57, 65, 66, 67, 68, 69, 70]).size) : ((ByteArray.mk #[48, 49, 50, 51, 52, 53, 54, 55, 56, 57, 65, 66, 67, 68, 69, 70])[i]'h).toNat = hexN true i := by
 match i, h with
 | 0, _ => rfl
 | 1, _ => rfl
 | 2, _ => rfl
 | 3, _ => rfl
 | 4, _ => rfl
 | 5, _ => rfl
 | 6, _ => rfl
 | 7, _ => rfl
 | 8, _ => rfl
 | 9, _ => rfl
 | 10, _ => rfl
 | 11, _ => rfl
 | 12, _ => rfl
 | 13, _ => rfl
 | 14, _ => rfl
 | 15, _ => rfl
 | n + 16, h => exact absurd h (by show ¬ n + 16 < 16; omega)
theorem wraps_i32_31 (n : Int) (h₀ : 0 ≤ n) (h₁ : n < 2 ^ 31) : IntKind.i32.wrap n = n := by
 have e : (2 : Int) ^ 31 = 2147483648 := by decide
 rw [e] at h₁
 rw [IntKind.wrap_i32]
 omega
theorem bits15 (x : Nat) (h : x < 2147483648) : bits .and .i32 (x : Int) 15 = ((x % 16 : Nat) : Int) := by
 have e := bits_mask .i32 31 (by decide) wraps_i32_31 4 (by decide) (x : Int) (by omega) (by have : (2 : Int) ^ 31 = 2147483648 := by decide
                                                                                             omega)
 have e1 : ((2 : Int) ^ 4 - 1) = 15 := by decide
 have e2 : ((2 : Int) ^ 4) = 16 := by decide
 rw [e1, e2] at e
 rw [e]
 omega
theorem shr_nat (c j : Nat) : (c : Int) / 2 ^ (4 * j) = ((c / 16 ^ j : Nat) : Int) := by
 have : (2 : Int) ^ (4 * j) = ((16 ^ j : Nat) : Int) := by
  rw [Int.pow_mul]; simp
 rw [this]; simp
theorem hexN_lt (g : Bool) (i : Nat) (h : i < 16) : hexN g i < 256 := by unfold hexN; split <;> (try split) <;> omega
theorem hexB_nat (g : Bool) (i : Nat) (h : i < 16) : (hexB g i).toNat = hexN g i := by
 have := hexN_lt g i h
 unfold hexB
 simp
 omega
theorem cells_hex (l : List UInt8) (g : Bool) (i : Nat) (h : i < 16) : Lib.byteCells l ++ [.int .u8 (hexN g i : Nat)] = Lib.byteCells (l ++ [hexB g i]) := by
 rw [Lib.byteCells_append, ← hexB_nat g i h]; rfl
set_option maxHeartbeats 400000 in
theorem plain_any (c : Int) (w : World) :
  Calls Tryz.prog 205 #[.int .i32 c] w fun e w' => e = .returned (.bool (plainP c)) ∧ w' = w := by
 by_cases h1 : c = 173 <;> by_cases h2 : c ≤ 160 <;> by_cases h3 : 32 ≤ c <;> by_cases h4 : c ≤ 126 <;> by_cases h5 : c ≤ 65532 <;> by_cases h6 : c ≤ 55295 <;> by_cases h7 : 57344 ≤ c <;> by_cases h8 : 65536 ≤ c <;> by_cases h9 : c ≤ 1114111
 all_goals first | (exfalso; omega) | skip
 all_goals first | (have hp : plainP c = true := (by rw [plainP_iff]; omega)) | (have hp : plainP c = false := (by rw [plainP_not]; omega))
 all_goals
  rw [hp]
  go_enter Tryz.func205, Tryz.ntmps205
  go_wp2
  go_ret
  exact ⟨rfl, rfl⟩
set_option maxRecDepth 1000000 in
set_option maxHeartbeats 800000 in
theorem hexa_any (c k : Nat) (w : World) (hc : c ≤ 1114111) (hk : k ≤ 8) :
  Calls Tryz.prog 161 #[.int .i32 c, .int .i64 k] w fun e w' => e = .returned (.string ⟨(hexL c k).toArray⟩) ∧ Below w.heap.size w w' := by
 go_enter Tryz.func161, Tryz.ntmps161
 go_wp2
 go_loopg [1] k (fun m n wr => n = .int .i64 ((m : Int) - 1) ∧ m ≤ k ∧ Lib.IsBuilderF 73 5 w.heap.size w.heap.size (Lib.byteCells (hexL (c / 16 ^ m) (k - m))) wr ∧ Below w.heap.size w wr)
 case atStart =>
  refine ⟨rfl, Nat.le_refl _, ?_, (Below.refl _ w).alloc (Nat.le_refl _) _⟩
  rw [Nat.sub_self]
  exact Lib.IsBuilderF.of (Lib.fresh_isBuilder 73 5 w)
 case round =>
  obtain ⟨rfl, hm, hI, hb⟩ := hrel
  have hsz := hb.size
  cases gk with
  | zero =>
    go_wp2_with (go_at_call 32; refine (Tryz.builderString w.heap.size w.heap.size _ _ hI hsz).mono ?_)
    rintro e w1 ⟨rfl, _, hb1, _⟩
    go_wp2
    go_ret
    refine ⟨?_, hb.trans hb1⟩
    simp
  | succ j =>
    have ej : ((j + 1 : Nat) : Int) - 1 = (j : Int) := by omega
    rw [ej]
    have h4 : wrap64 (4 * (j : Int)) = 4 * (j : Int) := by unfold wrap64; omega
    have h16 : c / 16 ^ j % 16 < 16 := Nat.mod_lt _ (by omega)
    have hle : c / 16 ^ j ≤ c := Nat.div_le_self _ _
    have hbits : bits .and .i32 ((c : Int) / 2 ^ (4 * j)) 15 = ((c / 16 ^ j % 16 : Nat) : Int) := by rw [shr_nat, bits15 _ (by omega)]
    obtain ⟨d, hd⟩ : ∃ d, c / 16 ^ j % 16 = d := ⟨_, rfl⟩
    rw [hd] at hbits h16
    have hd' : d < (ByteArray.mk #[48, 49, 50, 51, 52, 53, 54, 55, 56, 57, 97, 98, 99, 100, 101, 102]).size := h16
    go_wp2_with (go_at_call 159; refine (Tryz.writeByte w.heap.size w.heap.size _ _ _ hI (by rw [Lib.byteCells_length, hexL_len]; omega) hsz).mono ?_)
    rintro e w1 ⟨rfl, h1, hb1, _⟩
    rw [small_at, cells_hex _ _ _ h16] at h1
    go_wp2
    go_roundg j
    case measure => omega
    case rel =>
     refine ⟨val_int (by omega), by omega, ?_, hb.trans hb1⟩
     rw [hexL_more c k j hm, hd]
     exact Or.inr h1
end Go.Proofs.YtdlnmnipnkeabaaGreatDoor
namespace Go.Proofs.YtdlnmnipnkeabaaGreatDoor
open Go.RowKit
end Go.Proofs.YtdlnmnipnkeabaaGreatDoor
namespace Go.Proofs.YtdlnmnipnkeabaaGreatDoor
open Go.RowKit
set_option linter.unusedVariables false
structure Row64 (w : World) (B m : Nat) (ds : List UInt8) : Prop where
 len : m + ds.length = 64
 some_ : ∀ i, i < 64 → ∃ v, w.cell? ⟨B, i, none⟩ = some v
 at_ : ∀ i, i < ds.length → w.cell? ⟨B, m + i, none⟩ = some (.int .u8 (ds.getD i 0).toNat)
 froz : ∀ i, w.frozen? ⟨B, i, none⟩ = false
theorem Row64.put {w : World} {B j : Nat} {ds : List UInt8} (h : Row64 w B (j + 1) ds) (x : UInt8) : Row64 (w.setCell ⟨B, j, none⟩ (.int .u8 x.toNat)) B j (x :: ds) where
 len := by have := h.len; simp; omega
 some_ := fun i hi => cell?_setCell_some (h.some_ i hi).choose_spec
 at_ := fun i hi => by
  have hl := h.len
  cases i with
  | zero =>
    obtain ⟨v, hv⟩ := h.some_ j (by omega)
    exact World.cell?_setCell_same _ _ _ hv
  | succ i =>
    have hi' : i < ds.length := by simp at hi; exact hi
    rw [World.cell?_setCell_other _ _ _ _ (by intro e; have := congrArg Addr.off e; simp at this)]
    have := h.at_ i hi'
    rw [show j + (i + 1) = j + 1 + i by omega]
    exact this
 froz := fun i => by rw [World.frozen?_setCell]; exact h.froz i
theorem row64_new (w : World) (vs : Array Value) (T : TypeId) (hv : vs.size = 64) : Row64 (w.alloc (.cells vs T)) w.heap.size 64 [] where
 len := rfl
 some_ := fun i hi => ⟨vs[i]'(by omega), by simp [hv, hi]⟩
 at_ := fun i hi => by simp at hi
 froz := fun i => by simp
theorem two_pow (a q n : Nat) (h : q * 2 ^ (64 - a) ≤ n) (hn : n < 18446744073709551616) (hq : 0 < q) : 0 < a := by
 rcases Nat.eq_zero_or_pos a with h0 | h0
 ·exfalso
  subst h0
  have : (2 : Nat) ^ 64 = 18446744073709551616 := by decide
  have h1 : 1 * 2 ^ 64 ≤ q * 2 ^ 64 := Nat.mul_le_mul_right _ hq
  omega
 ·exact h0
theorem two_step (j q b n : Nat) (h : q * 2 ^ (64 - (j + 1)) ≤ n) (hj : j + 1 ≤ 64) (hb : 2 ≤ b) : q / b * 2 ^ (64 - j) ≤ n := by
 have e : 64 - j = 64 - (j + 1) + 1 := by omega
 have hd : q / b ≤ q / 2 := Nat.div_le_div_left hb (by omega)
 rw [e, Nat.pow_succ]
 have h1 : q / b * 2 ≤ q := by omega
 calc q / b * (2 ^ (64 - (j + 1)) * 2) = q / b * 2 * 2 ^ (64 - (j + 1)) := by rw [Nat.mul_comm (2 ^ (64 - (j + 1))) 2, Nat.mul_assoc]
  _ ≤ q * 2 ^ (64 - (j + 1)) := Nat.mul_le_mul_right _ h1
  _ ≤ n := h
def wRel (b n a q : Nat) (ds : List UInt8) : Prop := (a = 64 ∧ q = n ∧ ds = []) ∨ (a < 64 ∧ digP false b q ++ ds = digS false b n)
theorem wRel_step (b n j q : Nat) (ds : List UInt8) (hb : 2 ≤ b) (hq : q < 2 ^ 64) (h : wRel b n (j + 1) q ds) (hj : j + 1 ≤ 64) (hgo : j + 1 = 64 ∨ q ≠ 0) : wRel b n j (q / b) (hexB false (q % b) :: ds) := by
 refine .inr ⟨by omega, ?_⟩
 rcases h with ⟨h1, rfl, rfl⟩ | ⟨h1, h2⟩
 ·rfl
 ·rw [← h2, digP_step false b q hb (by omega) hq]
  simp
theorem arr64Len : Tryz.prog.arrayLen 387 = 64 := by kernel_rfl
theorem arr64Elem : Tryz.prog.elem 387 = 5 := by kernel_rfl
theorem arr64Under : Tryz.prog.underlying 387 = some (.array (Tryz.prog.arrayLen 387) (Tryz.prog.elem 387)) := by kernel_rfl
theorem at64_l (W : World) (g n : Nat) (hn : n < 64) :
  (Instr.sliceAt 387 (.pointer (some ⟨g, 0, none⟩)) (some (.int .i64 n)) none none).run Tryz.prog W = .ok (.slice (some ⟨g, n, none⟩) (64 - n) (64 - n)) W := by
 rw [run_sliceAt_array_l W 387 ⟨g, 0, none⟩ arr64Under .i64 n (by omega) (by rw [arr64Len]; omega), arr64Elem, Tryz.sizeOf5, arr64Len]
 have hne : ¬ 64 = n := by omega
 simp [slicedAt, hne, Addr.add]
 omega
theorem conv64 (W : World) (g m : Nat) (ds : List UInt8) (h : Row64 W g m ds) :
  (convert 47 9 (.slice (some ⟨g, m, none⟩) (64 - m) (64 - m))).run Tryz.prog W = .ok (.string ⟨ds.toArray⟩) W := by
 have hl := h.len
 have := run_convert_bytes_arg W 47 5 Tryz.underlying47 Tryz.underlying5 g m (64 - m) (64 - m) (ds.map fun x => (x.toNat : Int)) (by simp; omega) (fun i hi => by
  rw [h.at_ i (by omega)]
  have : i < ds.length := by omega
  simp [this, List.getD]) 9 Tryz.underlying9
 rw [this]
 have e : strOfNums (ds.map fun x => (x.toNat : Int)) = ⟨ds.toArray⟩ := by
  apply ByteArray.ext
  have : (ds.map fun x => (x.toNat : Int)).map (fun n : Int => UInt8.ofNat n.toNat) = ds := by
   rw [List.map_map]
   conv => rhs; rw [← List.map_id ds]
   exact List.map_congr_left fun x _ => by simp
  show ((ds.map fun x => (x.toNat : Int)).map (fun n : Int => UInt8.ofNat n.toNat)).toArray = _
  rw [this]
 rw [e]
set_option maxRecDepth 1000000 in
set_option maxHeartbeats 800000 in
theorem written_any (n b : Nat) (w : World) (hn : n < 18446744073709551616) (hb : 2 ≤ b) (hb16 : b ≤ 16) :
  Calls Tryz.prog 296 #[.int .u64 n, .int .u64 b] w fun e w' => e = .returned (.string ⟨(digS false b n).toArray⟩) ∧ Below w.heap.size w w' := by
 go_enter Tryz.func296, Tryz.ntmps296
 go_wp2
 go_loopg [0, 6] 65 (fun g nn at_ wr => ∃ (q a : Nat) (ds : List UInt8), nn = .int .u64 q ∧ at_ = .int .i64 a ∧ a + 1 = g ∧ q ≤ n ∧ a ≤ 64 ∧ Row64 wr w.heap.size a ds ∧ Below w.heap.size w wr ∧ Hid (q * 2 ^ (64 - a) ≤ n ∧ wRel b n a q ds))
 case atStart =>
  exact ⟨n, 64, [], rfl, rfl, rfl, Nat.le_refl _, Nat.le_refl _, row64_new w _ _ rfl, (Below.refl _ _).alloc (Nat.le_refl _) _, by simp, .inl ⟨rfl, rfl, rfl⟩⟩
 case round =>
  obtain ⟨q, a, ds, rfl, rfl, hag, hqn, ha, hR, hbl, HH⟩ := hrel
  have hq0 : 0 < q → 0 < a := two_pow a q n HH.out.1 hn
  by_cases hgo : a = 64 ∨ 0 < q
  ·obtain ⟨j, rfl⟩ : ∃ j, a = j + 1 := ⟨a - 1, by omega⟩
   have hW : Hid (q / b * 2 ^ (64 - j) ≤ n ∧ wRel b n j (q / b) (hexB false (q % b) :: ds)) := ⟨two_step j q b n HH.out.1 ha hb, wRel_step b n j q ds hb (by omega) HH.out.2 ha (by omega)⟩
   have hd : q % b < b := Nat.mod_lt _ (by omega)
   have hqd : q / b ≤ q := Nat.div_le_self _ _
   have hm1 : (q : Int).tmod b = ((q % b : Nat) : Int) := by rw [Int.tmod_eq_emod_of_nonneg (by omega)]; simp
   have hm2 : (q : Int).tdiv b = ((q / b : Nat) : Int) := by rw [Int.tdiv_eq_ediv_of_nonneg (by omega)]; simp
   have hm3 : (q : Int) % b = ((q % b : Nat) : Int) := by simp
   have hm4 : (q : Int) / b = ((q / b : Nat) : Int) := by simp
   have hbz : ¬ (b : Int) = 0 := by omega
   generalize q % b = d at *
   generalize q / b = q' at *
   have ej : ((j + 1 : Nat) : Int) = (j : Int) + 1 := by omega
   rw [ej]
   have hd' : d < (ByteArray.mk #[48, 49, 50, 51, 52, 53, 54, 55, 56, 57, 97, 98, 99, 100, 101, 102]).size := by show d < 16; omega
   have hsm := small_at d hd'
   have HS : Hid (∀ W, Row64 W w.heap.size (j + 1) ds → Row64 (W.setCell ⟨w.heap.size, j, none⟩ (.int .u8 (((ByteArray.mk #[48, 49, 50, 51, 52, 53, 54, 55, 56, 57, 97, 98, 99, 100, 101, 102])[d]'hd').toNat : Nat))) w.heap.size j (hexB false d :: ds)) := fun W h => by
    rw [hsm, ← hexB_nat false d (by omega)]
    exact h.put _
   clear hsm
   by_cases h64 : j = 63
   ·subst h64
    obtain ⟨v0, hv0⟩ := hR.some_ 63 (by omega)
    have hf0 := hR.froz 63
    go_wp2
    go_roundg (gk - 1)
    case measure => omega
    case rel => exact ⟨q', 63, _, rfl, rfl, by omega, by omega, by omega, HS.out _ hR, hbl.setCell (Nat.le_refl _) _, hW⟩
   ·have hq1 : 0 < (q : Int) := by omega
    have h641 : ¬ (j : Int) + 1 = 64 := by omega
    have hj0 : (j : Int) < 64 := by omega
    obtain ⟨v0, hv0⟩ := hR.some_ j (by omega)
    have hf0 := hR.froz j
    go_wp2
    go_roundg (gk - 1)
    case measure => omega
    case rel => exact ⟨q', j, _, rfl, rfl, by omega, by omega, by omega, HS.out _ hR, hbl.setCell (Nat.le_refl _) _, hW⟩
  ·have ha1 : ¬ (a : Int) = 64 := by omega
   have hq1 : ¬ 0 < (q : Int) := by omega
   have ha2 : a < 64 := by omega
   have hq2 : q = 0 := by omega
   have HF : Hid (ds = digS false b n) := by
    rcases HH.out.2 with ⟨h1, -⟩ | ⟨h1, h2⟩
    ·omega
    ·rw [hq2, digP_zero] at h2
     exact h2
   clear hq2
   have hsl := at64_l wr w.heap.size a ha2
   have hcv := conv64 wr w.heap.size a ds hR
   have hb1 : ((a : Int) == 64) = false := by simp; omega
   have hb2 : decide (0 < q) = false := by simp; omega
   go_wp2
   go_ret
   rw [← HF.out]
   exact ⟨rfl, hbl⟩
set_option maxRecDepth 1000000 in
set_option maxHeartbeats 400000 in
theorem idigits_any (n b : Nat) (w : World) (hn : n < 18446744073709551616) (hb : b = 2 ∨ b = 8 ∨ b = 10 ∨ b = 16) :
  Calls Tryz.prog 272 #[.int .u64 n, .int .i64 b] w fun e w' => e = .returned (.string ⟨(digS false b n).toArray⟩) ∧ Below w.heap.size w w' := by
 have hW : ∀ w, Calls Tryz.prog 296 #[.int .u64 n, .int .u64 b] w fun e w' => e = .returned (.string ⟨(digS false b n).toArray⟩) ∧ Below w.heap.size w w' := fun w => written_any n b w hn (by omega) (by omega)
 generalize (⟨(digS false b n).toArray⟩ : ByteArray) = r at *
 rcases hb with rfl | rfl | rfl | rfl
 all_goals
  go_enter Tryz.func272, Tryz.ntmps272
  go_wp2_with (go_at_call 296; refine (hW _).mono ?_; rintro e w1 ⟨rfl, hb1⟩)
  go_ret
  exact ⟨rfl, hb1⟩
end Go.Proofs.YtdlnmnipnkeabaaGreatDoor
namespace Go.Proofs.YtdlnmnipnkeabaaGreatDoor
open Go.RowKit
set_option maxRecDepth 1000000 in
set_option maxHeartbeats 800000 in
theorem decode_any (s : ByteArray) (w : World) :
  Calls Tryz.prog 62 #[.string s] w fun e w' => e = .returned (.tuple #[.int .i32 (dec s).1, .int .i64 (dec s).2]) ∧ Below w.heap.size w w' := by
 go_enter Tryz.func62, Tryz.ntmps62
 go_wp2
 go_loopw [4] (fun f w' => ∃ pos : Nat, w' = w.iter s pos ∧ ((pos = 0 ∧ f = .int .i32 0) ∨ (0 < s.size ∧ pos = (Utf8.decode s 0).2 ∧ f = .int .i32 (Utf8.decode s 0).1))) (fun _ w' => s.size - w'.iterPos w.heap.size)
 case atStart => exact ⟨0, rfl, .inl ⟨rfl, rfl⟩⟩
 case round =>
  obtain ⟨pos, rfl, hc⟩ := hrel
  rcases hc with ⟨rfl, rfl⟩ | ⟨h0, rfl, rfl⟩
  ·by_cases hp : 0 < s.size
   ·have hnx : ∀ ty, (Instr.next (.pointer (some ⟨w.heap.size, 0, none⟩)) true ty).run Tryz.prog (w.iter s 0) = _ := fun ty => run_next_any w s 0 ty hp
    go_wp2
    go_roundw
    case rel => exact ⟨_, rfl, .inr ⟨hp, by omega, rfl⟩⟩
    case measure =>
     have := wid_pos s 0
     simp
     omega
   ·have hnx : ∀ ty, (Instr.next (.pointer (some ⟨w.heap.size, 0, none⟩)) true ty).run Tryz.prog (w.iter s 0) = _ := fun ty => run_next_end w s 0 ty hp
    go_wp2
    go_ret2
    rw [dec_nil s (by omega)]
    exact ⟨ret_dec rfl (by omega), iter_below _ _ _⟩
  ·have hw := wid_pos s 0
   by_cases hp : (Utf8.decode s 0).2 < s.size
   ·have hnx : ∀ ty, (Instr.next (.pointer (some ⟨w.heap.size, 0, none⟩)) true ty).run Tryz.prog (w.iter s (Utf8.decode s 0).2) = _ := fun ty => run_next_any w s _ ty hp
    go_wp2
    go_ret2
    rw [dec_ne s h0]
    exact ⟨rfl, iter_below _ _ _⟩
   ·have hnx : ∀ ty, (Instr.next (.pointer (some ⟨w.heap.size, 0, none⟩)) true ty).run Tryz.prog (w.iter s (Utf8.decode s 0).2) = _ := fun ty => run_next_end w s _ ty hp
    have hl := wid_le s 0 h0
    go_wp2
    go_ret2
    rw [dec_ne s h0]
    exact ⟨ret_dec rfl (by omega), iter_below _ _ _⟩
end Go.Proofs.YtdlnmnipnkeabaaGreatDoor
