/- XDo, XQuiet, XPut, IDig, INumD, Runes, Hexa, Plain5, IWritten, Decode: these texts in one. -/
import Derived.Test.YtdlnmnipnkeabaaGreatDoorPt2
import Derived.Defers
import Derived.Recover
import Derived.Test.YtdlnmnipnkeabaaGreatDoorPt1
import Derived.Lib.Case
import Derived.Test.YtdlnmnipnkeabaaGreatDoorRows
import Derived.WalkSpells
import Derived.WalkLawsBesides
import Derived.Laws.BytesArg
import Derived.Test.YtdlnmnipnkeabaaGreatDoorShelf
import Derived.Deep.LoopGhost
import Derived.Laws.BitsLemmas
import Derived.WalkKit
namespace Go.Proofs.YtdlnmnipnkeabaaGreatDoor
open Go.RowKit
set_option linter.unusedVariables false
set_option linter.unusedSimpArgs false
set_option maxRecDepth 1000000 in
set_option maxHeartbeats 2000000 in
theorem tells_any (x : Ac) (g : Value) (w : World) : Calls Tryz.prog 229 #[.agg (x.v ++ [g]).toArray] w fun e w' => e = .returned (.string x.t) ∧ Below w.heap.size w w' := by
 obtain ⟨L, hL⟩ : ∃ L, L = x.v ++ [g] := ⟨_, rfl⟩
 have h0 : L[1]? = some (.string x.t) := by rw [hL]; rfl
 obtain ⟨W1, hW1⟩ : ∃ W1, W1 = w.alloc (.cells L.toArray 288) := ⟨_, rfl⟩
 have hb : Blk W1 w.heap.size L := by rw [hW1]; exact Blk.new _ _ _
 have hw1 : Below w.heap.size w W1 := by rw [hW1]; exact (Below.refl _ _).alloc (Nat.le_refl _) _
 have c0 := hb.c 1 _ h0
 rw [← hL]
 clear hL
 generalize x.t = t at *
 go_enter Tryz.func229, Tryz.ntmps229
 go_upto_region 1 with fail
 rw [← hW1]
 clear hW1
 go_wp2
 go_ret
 exact ⟨rfl, hw1⟩
abbrev thV (d : Ds) : Value := .iface 328 (.agg d.v.toArray)
abbrev PT (d : Ds) : List PanicEntry := [{ v := thV d, recovered := false }]
theorem bld_thrown (d : Ds) (w : World) : (Instr.build 328 #[(0, .agg d.v.toArray)]).run Tryz.prog w = .ok (.agg d.v.toArray) w := by
 obtain ⟨a0, a1, a2, a3, a4, ⟨na, nn, nc⟩, ⟨pa, pn, pc⟩, a7⟩ := d
 kernel_rfl
set_option maxRecDepth 1000000 in
set_option maxHeartbeats 2000000 in
theorem throws_any (x : Ac) (g : Value) (w : World) : Calls Tryz.prog 230 #[.agg (x.v ++ [g]).toArray] w fun e w' => e = .panicked (PT x.p) ∧ Below w.heap.size w w' := by
 obtain ⟨L, hL⟩ : ∃ L, L = x.v ++ [g] := ⟨_, rfl⟩
 obtain ⟨W1, hW1⟩ : ∃ W1, W1 = w.alloc (.cells L.toArray 288) := ⟨_, rfl⟩
 have hb : Blk W1 w.heap.size L := by rw [hW1]; exact Blk.new _ _ _
 have hw1 : Below w.heap.size w W1 := by rw [hW1]; exact (Below.refl _ _).alloc (Nat.le_refl _) _
 have hr : W1.rangeAt w.heap.size 4 x.p.v := by
  rw [hL] at hb
  have hb' : Blk W1 w.heap.size ([.int .i64 x.k, .string x.t, .string x.f, .slice x.l.a x.l.n x.l.c] ++ (x.p.v ++ [g])) := hb
  exact Blk.mid hb' rfl
 have hB := fun w => bld_thrown x.p w
 have hl := x.p.len
 rw [← hL]
 clear hL hb
 unfold PT thV
 generalize x.p.v = P at *
 go_enter Tryz.func230, Tryz.ntmps230
 go_upto_region 1 with fail
 rw [← hW1]
 clear hW1
 go_wp2_with (first
  | (refine wpl_ld row_Desc rfl (.tmp 4) rfl (vs := P) rfl hr hl ?_)
  | (refine wpl_bld rfl _ _ rfl [(0, .agg P.toArray)] rfl (hB _) ?_))
 exact ⟨rfl, rfl, hw1⟩
theorem xcatch_idle (p : Nat) (w : World) (v : Value) (c : w.cell? ⟨p, 0, none⟩ = some v) (z : w.frozen? ⟨p, 0, none⟩ = false) :
  CallsD Tryz.prog 232 #[.pointer (some ⟨p, 0, none⟩)] .returning w fun e u' w' => e = .returned (.tuple #[]) ∧ u' = .returning ∧ w' = w.setCell ⟨p, 0, none⟩ .nilIface := by
 refine callsD_of_wpS Tryz.func232 rfl fun c₀ cs hu => ?_
 apply wpS_region
 simp [wpOpsS, go_sem, recoverD, hu, Tryz.ntmps232, Exit.thenS, c, z]
 exact ⟨rfl, .returning, by rw [← hu], _, results_none rfl _ _ _, rfl, rfl, rfl⟩
theorem xcatch_throw (d : Ds) (p : Nat) (w : World) (v : Value) (c : w.cell? ⟨p, 0, none⟩ = some v) (z : w.frozen? ⟨p, 0, none⟩ = false) :
  CallsD Tryz.prog 232 #[.pointer (some ⟨p, 0, none⟩)] (.panicking (PT d)) w fun e u' w' => e = .returned (.tuple #[]) ∧ u' = .panicking [{ v := thV d, recovered := true }] ∧ w' = w.setCell ⟨p, 0, none⟩ (thV d) := by
 unfold PT thV
 generalize d.v.toArray = D
 refine callsD_of_wpS Tryz.func232 rfl fun c₀ cs hu => ?_
 apply wpS_region
 simp [wpOpsS, go_sem, recoverD, hu, Tryz.ntmps232, Exit.thenS, c, z]
 exact ⟨rfl, _, rfl, _, results_none rfl _ _ _, rfl, rfl, rfl⟩
theorem Blk.other {w : World} {B B' o : Nat} {vs : List Value} (h : Blk w B vs) (hne : B' ≠ B) (v : Value) : Blk (w.setCell ⟨B', o, none⟩ v) B vs := by
 have hB : (w.setCell ⟨B', o, none⟩ v).heap[B]? = w.heap[B]? := Below.heap_setCell _ _ _ _ hne.symm
 exact ⟨fun i u hu => (World.cell?_of_block (w := w) (a := ⟨B, i, none⟩) hB).trans (h.c i u hu), fun i => (World.frozen?_of_block (w := w) (a := ⟨B, i, none⟩) hB).trans (h.z i), by simpa [World.setCell] using h.b⟩
theorem Blk.set {w : World} {B : Nat} {vs : List Value} (h : Blk w B vs) (i : Nat) (hi : i < vs.length) (v : Value) : Blk (w.setCell ⟨B, i, none⟩ v) B (vs.set i v) := by
 refine ⟨fun j u hu => ?_, fun j => (World.frozen?_setCell _ _ _ _).trans (h.z j), by simpa [World.setCell] using h.b⟩
 by_cases e : i = j
 ·subst e
  rw [List.getElem?_set_self hi] at hu
  obtain rfl := Option.some.inj hu
  exact World.cell?_setCell_same _ _ _ (h.c i _ (List.getElem?_eq_getElem hi))
 ·rw [List.getElem?_set_ne e] at hu
  rw [World.cell?_setCell_other _ _ _ _ (fun k => e (congrArg Addr.off k))]
  exact h.c j u hu
end Go.Proofs.YtdlnmnipnkeabaaGreatDoor
namespace Go.Proofs.YtdlnmnipnkeabaaGreatDoor
open Go.RowKit
set_option linter.unusedVariables false
end Go.Proofs.YtdlnmnipnkeabaaGreatDoor
namespace Go.Proofs.YtdlnmnipnkeabaaGreatDoor
open Go.RowKit
set_option linter.unusedVariables false
theorem Blk.thereMid {w : World} {B : Nat} {p cs q : List Value} (h : Blk w B (p ++ (cs ++ q))) : w.there B p.length cs.length := fun j hj => by
 refine ⟨?_, h.z _⟩
 have hlt : p.length + j < (p ++ (cs ++ q)).length := by simp; omega
 rw [h.c (p.length + j) _ (List.getElem?_eq_getElem hlt)]
 rfl
theorem Blk.put {w : World} {B : Nat} {p cs q : List Value} (h : Blk w B (p ++ (cs ++ q))) (us : List Value) (hl : us.length = cs.length) : Blk (w.setCells B p.length us) B (p ++ (us ++ q)) := by
 refine ⟨fun i v hv => ?_, fun i => (World.frozen?_setCells _ _ _ _ _).trans (h.z i), by rw [xsc_size]; exact h.b⟩
 have r1 : (w.setCells B p.length us).rangeAt B 0 p := by
  refine World.rangeAt_setCells_apart (fun j u hu => ?_) B p.length us (.inr (.inl (by omega)))
  rw [Nat.zero_add]
  exact h.c j u (by rw [List.getElem?_append_left (List.getElem?_eq_some_iff.1 hu).1]; exact hu)
 have r2 : (w.setCells B p.length us).rangeAt B p.length us := World.rangeAt_setCells_same w B p.length us (by rw [hl]; exact h.thereMid)
 have r3 : (w.setCells B p.length us).rangeAt B (p.length + cs.length) q := by
  refine World.rangeAt_setCells_apart (fun j u hu => ?_) B p.length us (.inr (.inr (by omega)))
  refine h.c _ u ?_
  rw [← List.append_assoc, List.getElem?_append_right (by simp), List.length_append, Nat.add_sub_cancel_left]
  exact hu
 rcases Nat.lt_or_ge i p.length with h1 | h1
 ·rw [List.getElem?_append_left h1] at hv
  have := r1 i v hv
  rwa [Nat.zero_add] at this
 ·rw [List.getElem?_append_right h1] at hv
  rcases Nat.lt_or_ge (i - p.length) us.length with h2 | h2
  ·rw [List.getElem?_append_left h2] at hv
   have := r2 _ v hv
   rwa [show p.length + (i - p.length) = i by omega] at this
  ·rw [List.getElem?_append_right h2] at hv
   have := r3 _ v hv
   rwa [show p.length + cs.length + (i - p.length - us.length) = i by omega] at this
theorem wpl_stm {ops : Array Oper} {rest : List Oper} {op : Oper} {a : Act} {w : World} {Q : Exit → Act → World → Prop} {t n : Nat} (hr : Row t n) (hgd : op.guard = none) (x y : Operand) (ho : op.op = .store t x y) {B o : Nat} {us : List Value}
  (hx : a.eval x = .pointer (some ⟨B, o, none⟩)) (hy : a.eval y = .agg us.toArray) (ht : w.there B o n) (hu : us.length = n) (h1 : ∀ v ∈ us, v.oneCell' = true)
  (h : wpList Tryz.prog ops Q rest (a.put op.dst undef) (w.setCells B o us)) : wpList Tryz.prog ops Q (op :: rest) a w := by
 refine wpList_store_mid hgd t x y ho B o us.toArray hx hy (by simpa [hu] using ht) (by simp [hu, hr.2]) (all_oneCell_toArray h1) ?_
 simpa using h
end Go.Proofs.YtdlnmnipnkeabaaGreatDoor
namespace Go.Proofs.YtdlnmnipnkeabaaGreatDoor
open Go.RowKit
def digF (g : Bool) (b : Nat) : Nat → Nat → List UInt8
 | 0, _ => []
 | f + 1, m => if m = 0 then [] else digF g b f (m / b) ++ [hexB g (m % b)]
def digP (g : Bool) (b m : Nat) : List UInt8 := digF g b 64 m
def digS (g : Bool) (b n : Nat) : List UInt8 := digP g b (n / b) ++ [hexB g (n % b)]
end Go.Proofs.YtdlnmnipnkeabaaGreatDoor
namespace Go.Proofs.YtdlnmnipnkeabaaGreatDoor
open Go.RowKit
def digT (g : Bool) (b n : Nat) : ByteArray := ⟨(digS g b n).toArray⟩
def signA (p sp : Bool) : ByteArray := if p = true then ⟨#[43]⟩ else if sp = true then ⟨#[32]⟩ else ⟨#[]⟩
end Go.Proofs.YtdlnmnipnkeabaaGreatDoor
namespace Go.Proofs.YtdlnmnipnkeabaaGreatDoor
open Go.RowKit
set_option maxHeartbeats 400000 in
theorem rune_any (c : Int) (w : World) :
  Calls Tryz.prog 10 #[.int .i32 c] w fun e w' => e = .returned (.string (Utf8.encode c)) ∧ w' = w := by
 go_enter Tryz.func10, Tryz.ntmps10
 go_wp2
 go_ret
 exact ⟨rfl, rfl⟩
end Go.Proofs.YtdlnmnipnkeabaaGreatDoor
namespace Go.Proofs.YtdlnmnipnkeabaaGreatDoor
open Go.RowKit
theorem small_at (i : Nat) (h : i < (ByteArray.mk #[48, 49, 50, 51, 52, 53, 54, 55, 56, 57, 97, 98, 99, 100, 101, 102]).size) : ((ByteArray.mk #[48, 49, 50, 51, 52, 53, 54, 55, 56, 57, 97, 98, 99, 100, 101, 102])[i]'h).toNat = hexN false i := by
 match i, h with
 | 0, _ => rfl
 | 1, _ => rfl
 | 2, _ => rfl
 | 3, _ => rfl
 | 4, _ => rfl
 | 5, _ => rfl
 | 6, _ => rfl
 | 7, _ => rfl
 | 8, _ => rfl
 | 9, _ => rfl
 | 10, _ => rfl
 | 11, _ => rfl
 | 12, _ => rfl
 | 13, _ => rfl
 | 14, _ => rfl
 | 15, _ => rfl
 | n + 16, h => exact absurd h (by show ¬ n + 16 < 16; omega)
theorem great_at (i : Nat) (h : i < (ByteArray.mk #[48, 49, 50, 51, 52, 53, 54, 55, 56, 57, 65, 66, 67, 68, 69, 70]).size) : ((ByteArray.mk #[48, 49, 50, 51, 52, 53, 54, 55, 56, 57, 65, 66, 67, 68, 69, 70])[i]'h).toNat = hexN true i := by
 match i, h with
 | 0, _ => rfl
 | 1, _ => rfl
 | 2, _ => rfl
 | 3, _ => rfl
 | 4, _ => rfl
 | 5, _ => rfl
 | 6, _ => rfl
 | 7, _ => rfl
 | 8, _ => rfl
 | 9, _ => rfl
 | 10, _ => rfl
 | 11, _ => rfl
 | 12, _ => rfl
 | 13, _ => rfl
 | 14, _ => rfl
 | 15, _ => rfl
 | n + 16, h => exact absurd h (by show ¬ n + 16 < 16; omega)
theorem wraps_i32_31 (n : Int) (h₀ : 0 ≤ n) (h₁ : n < 2 ^ 31) : IntKind.i32.wrap n = n := by
 have e : (2 : Int) ^ 31 = 2147483648 := by decide
 rw [e] at h₁
 rw [IntKind.wrap_i32]
 omega
theorem bits15 (x : Nat) (h : x < 2147483648) : bits .and .i32 (x : Int) 15 = ((x % 16 : Nat) : Int) := by
 have e := bits_mask .i32 31 (by decide) wraps_i32_31 4 (by decide) (x : Int) (by omega) (by have : (2 : Int) ^ 31 = 2147483648 := by decide
                                                                                             omega)
 have e1 : ((2 : Int) ^ 4 - 1) = 15 := by decide
 have e2 : ((2 : Int) ^ 4) = 16 := by decide
 rw [e1, e2] at e
 rw [e]
 omega
theorem shr_nat (c j : Nat) : (c : Int) / 2 ^ (4 * j) = ((c / 16 ^ j : Nat) : Int) := by
 have : (2 : Int) ^ (4 * j) = ((16 ^ j : Nat) : Int) := by
  rw [Int.pow_mul]; simp
 rw [this]; simp
theorem hexN_lt (g : Bool) (i : Nat) (h : i < 16) : hexN g i < 256 := by unfold hexN; split <;> (try split) <;> omega
theorem hexB_nat (g : Bool) (i : Nat) (h : i < 16) : (hexB g i).toNat = hexN g i := by
 have := hexN_lt g i h
 unfold hexB
 simp
 omega
theorem cells_hex (l : List UInt8) (g : Bool) (i : Nat) (h : i < 16) : Lib.byteCells l ++ [.int .u8 (hexN g i : Nat)] = Lib.byteCells (l ++ [hexB g i]) := by
 rw [Lib.byteCells_append, ← hexB_nat g i h]; rfl
set_option maxHeartbeats 400000 in
theorem plain_any (c : Int) (w : World) :
  Calls Tryz.prog 205 #[.int .i32 c] w fun e w' => e = .returned (.bool (plainP c)) ∧ w' = w := by
 by_cases h1 : c = 173 <;> by_cases h2 : c ≤ 160 <;> by_cases h3 : 32 ≤ c <;> by_cases h4 : c ≤ 126 <;> by_cases h5 : c ≤ 65532 <;> by_cases h6 : c ≤ 55295 <;> by_cases h7 : 57344 ≤ c <;> by_cases h8 : 65536 ≤ c <;> by_cases h9 : c ≤ 1114111
 all_goals first | (exfalso; omega) | skip
 all_goals first | (have hp : plainP c = true := (by rw [plainP_iff]; omega)) | (have hp : plainP c = false := (by rw [plainP_not]; omega))
 all_goals
  rw [hp]
  go_enter Tryz.func205, Tryz.ntmps205
  go_wp2
  go_ret
  exact ⟨rfl, rfl⟩
set_option maxRecDepth 1000000 in
set_option maxHeartbeats 800000 in
theorem hexa_any (c k : Nat) (w : World) (hc : c ≤ 1114111) (hk : k ≤ 8) :
  Calls Tryz.prog 161 #[.int .i32 c, .int .i64 k] w fun e w' => e = .returned (.string ⟨(hexL c k).toArray⟩) ∧ Below w.heap.size w w' := by
 go_enter Tryz.func161, Tryz.ntmps161
 go_wp2
 go_loopg [1] k (fun m n wr => n = .int .i64 ((m : Int) - 1) ∧ m ≤ k ∧ Lib.IsBuilderF 73 5 w.heap.size w.heap.size (Lib.byteCells (hexL (c / 16 ^ m) (k - m))) wr ∧ Below w.heap.size w wr)
 case atStart =>
  refine ⟨rfl, Nat.le_refl _, ?_, (Below.refl _ w).alloc (Nat.le_refl _) _⟩
  rw [Nat.sub_self]
  exact Lib.IsBuilderF.of (Lib.fresh_isBuilder 73 5 w)
 case round =>
  obtain ⟨rfl, hm, hI, hb⟩ := hrel
  have hsz := hb.size
  cases gk with
  | zero =>
    go_wp2_with (go_at_call 32; refine (Tryz.builderString w.heap.size w.heap.size _ _ hI hsz).mono ?_)
    rintro e w1 ⟨rfl, _, hb1, _⟩
    go_wp2
    go_ret
    refine ⟨?_, hb.trans hb1⟩
    simp
  | succ j =>
    have ej : ((j + 1 : Nat) : Int) - 1 = (j : Int) := by omega
    rw [ej]
    have h4 : wrap64 (4 * (j : Int)) = 4 * (j : Int) := by unfold wrap64; omega
    have h16 : c / 16 ^ j % 16 < 16 := Nat.mod_lt _ (by omega)
    have hle : c / 16 ^ j ≤ c := Nat.div_le_self _ _
    have hbits : bits .and .i32 ((c : Int) / 2 ^ (4 * j)) 15 = ((c / 16 ^ j % 16 : Nat) : Int) := by rw [shr_nat, bits15 _ (by omega)]
    obtain ⟨d, hd⟩ : ∃ d, c / 16 ^ j % 16 = d := ⟨_, rfl⟩
    rw [hd] at hbits h16
    have hd' : d < (ByteArray.mk #[48, 49, 50, 51, 52, 53, 54, 55, 56, 57, 97, 98, 99, 100, 101, 102]).size := h16
    go_wp2_with (go_at_call 159; refine (Tryz.writeByte w.heap.size w.heap.size _ _ _ hI (by rw [Lib.byteCells_length, hexL_len]; omega) hsz).mono ?_)
    rintro e w1 ⟨rfl, h1, hb1, _⟩
    rw [small_at, cells_hex _ _ _ h16] at h1
    go_wp2
    go_roundg j
    case measure => omega
    case rel =>
     refine ⟨val_int (by omega), by omega, ?_, hb.trans hb1⟩
     rw [hexL_more c k j hm, hd]
     exact Or.inr h1
end Go.Proofs.YtdlnmnipnkeabaaGreatDoor
namespace Go.Proofs.YtdlnmnipnkeabaaGreatDoor
open Go.RowKit
end Go.Proofs.YtdlnmnipnkeabaaGreatDoor
namespace Go.Proofs.YtdlnmnipnkeabaaGreatDoor
open Go.RowKit
set_option linter.unusedVariables false
structure Row64 (w : World) (B m : Nat) (ds : List UInt8) : Prop where
 len : m + ds.length = 64
 some_ : ∀ i, i < 64 → ∃ v, w.cell? ⟨B, i, none⟩ = some v
 at_ : ∀ i, i < ds.length → w.cell? ⟨B, m + i, none⟩ = some (.int .u8 (ds.getD i 0).toNat)
 froz : ∀ i, w.frozen? ⟨B, i, none⟩ = false
theorem Row64.put {w : World} {B j : Nat} {ds : List UInt8} (h : Row64 w B (j + 1) ds) (x : UInt8) : Row64 (w.setCell ⟨B, j, none⟩ (.int .u8 x.toNat)) B j (x :: ds) where
 len := by have := h.len; simp; omega
 some_ := fun i hi => cell?_setCell_some (h.some_ i hi).choose_spec
 at_ := fun i hi => by
  have hl := h.len
  cases i with
  | zero =>
    obtain ⟨v, hv⟩ := h.some_ j (by omega)
    exact World.cell?_setCell_same _ _ _ hv
  | succ i =>
    have hi' : i < ds.length := by simp at hi; exact hi
    rw [World.cell?_setCell_other _ _ _ _ (by intro e; have := congrArg Addr.off e; simp at this)]
    have := h.at_ i hi'
    rw [show j + (i + 1) = j + 1 + i by omega]
    exact this
 froz := fun i => by rw [World.frozen?_setCell]; exact h.froz i
end Go.Proofs.YtdlnmnipnkeabaaGreatDoor
namespace Go.Proofs.YtdlnmnipnkeabaaGreatDoor
open Go.RowKit
set_option maxRecDepth 1000000 in
set_option maxHeartbeats 800000 in
theorem decode_any (s : ByteArray) (w : World) :
  Calls Tryz.prog 62 #[.string s] w fun e w' => e = .returned (.tuple #[.int .i32 (dec s).1, .int .i64 (dec s).2]) ∧ Below w.heap.size w w' := by
 go_enter Tryz.func62, Tryz.ntmps62
 go_wp2
 go_loopw [4] (fun f w' => ∃ pos : Nat, w' = w.iter s pos ∧ ((pos = 0 ∧ f = .int .i32 0) ∨ (0 < s.size ∧ pos = (Utf8.decode s 0).2 ∧ f = .int .i32 (Utf8.decode s 0).1))) (fun _ w' => s.size - w'.iterPos w.heap.size)
 case atStart => exact ⟨0, rfl, .inl ⟨rfl, rfl⟩⟩
 case round =>
  obtain ⟨pos, rfl, hc⟩ := hrel
  rcases hc with ⟨rfl, rfl⟩ | ⟨h0, rfl, rfl⟩
  ·by_cases hp : 0 < s.size
   ·have hnx : ∀ ty, (Instr.next (.pointer (some ⟨w.heap.size, 0, none⟩)) true ty).run Tryz.prog (w.iter s 0) = _ := fun ty => run_next_any w s 0 ty hp
    go_wp2
    go_roundw
    case rel => exact ⟨_, rfl, .inr ⟨hp, by omega, rfl⟩⟩
    case measure =>
     have := wid_pos s 0
     simp
     omega
   ·have hnx : ∀ ty, (Instr.next (.pointer (some ⟨w.heap.size, 0, none⟩)) true ty).run Tryz.prog (w.iter s 0) = _ := fun ty => run_next_end w s 0 ty hp
    go_wp2
    go_ret2
    rw [dec_nil s (by omega)]
    exact ⟨ret_dec rfl (by omega), iter_below _ _ _⟩
  ·have hw := wid_pos s 0
   by_cases hp : (Utf8.decode s 0).2 < s.size
   ·have hnx : ∀ ty, (Instr.next (.pointer (some ⟨w.heap.size, 0, none⟩)) true ty).run Tryz.prog (w.iter s (Utf8.decode s 0).2) = _ := fun ty => run_next_any w s _ ty hp
    go_wp2
    go_ret2
    rw [dec_ne s h0]
    exact ⟨rfl, iter_below _ _ _⟩
   ·have hnx : ∀ ty, (Instr.next (.pointer (some ⟨w.heap.size, 0, none⟩)) true ty).run Tryz.prog (w.iter s (Utf8.decode s 0).2) = _ := fun ty => run_next_end w s _ ty hp
    have hl := wid_le s 0 h0
    go_wp2
    go_ret2
    rw [dec_ne s h0]
    exact ⟨ret_dec rfl (by omega), iter_below _ _ _⟩
end Go.Proofs.YtdlnmnipnkeabaaGreatDoor
