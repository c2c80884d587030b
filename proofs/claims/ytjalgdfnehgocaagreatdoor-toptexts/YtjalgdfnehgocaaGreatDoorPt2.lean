/- XRow, XWalkA, XWalkB, XWalkC, XDo, XQuiet, XPut, IDig, INumD, Runes, Hexa, Plain5, IWritten, Decode: these texts in one. -/
import Derived.Test.YtjalgdfnehgocaaGreatDoorProg
import Derived.Test.YtjalgdfnehgocaaGreatDoorPt1
import Derived.Lib.MapLaws
import Derived.Deep.LoopGhost
import Derived.Deep.RegionWith
import Derived.Maps.AppendAt
import Derived.Deep.DeepCutAuto
import Derived.Deep.CutBlock
import Derived.Deep.MidRow
import Derived.Deep.Upon
import Derived.Handy
import Derived.LoopN
import Derived.Defers
import Derived.Recover
import Derived.Lib.Case
import Derived.Test.YtjalgdfnehgocaaGreatDoorRows
import Derived.WalkSpells
import Derived.WalkLawsBesides
import Derived.Laws.BytesArg
import Derived.Test.YtjalgdfnehgocaaGreatDoorShelf
import Derived.Laws.BitsLemmas
import Derived.WalkKit
namespace Go.Proofs.YtjalgdfnehgocaaGreatDoor
open Go.RowKit
set_option linter.unusedVariables false
set_option linter.unusedSimpArgs false
structure Sl where
 a : Option Addr
 n : Nat
 c : Nat
def Sl.v (s : Sl) : Value := .slice s.a s.n s.c
def Sl.no : Sl := ⟨none, 0, 0⟩
structure Ds where
 k : Int
 ty : ByteArray
 bi : Int
 im : Int
 tx : ByteArray
 ns : Sl
 ps : Sl
 hk : Int
def Ds.v (d : Ds) : List Value := [.int .i64 d.k, .string d.ty, .int .u64 d.bi, .int .u64 d.im, .string d.tx, .slice d.ns.a d.ns.n d.ns.c, .slice d.ps.a d.ps.n d.ps.c, .int .i64 d.hk]
def Ds.no : Ds := ⟨0, ⟨#[]⟩, 0, 0, ⟨#[]⟩, .no, .no, 0⟩
structure Ac where
 k : Int
 t : ByteArray
 f : ByteArray
 l : Sl
 p : Ds
def Ac.v (x : Ac) : List Value := [.int .i64 x.k, .string x.t, .string x.f, .slice x.l.a x.l.n x.l.c] ++ x.p.v
def Ac.no : Ac := ⟨0, ⟨#[]⟩, ⟨#[]⟩, .no, .no⟩
structure Hk where
 a : Ac
 b : Ac
 c : Ac
 d : Ac
def Hk.v (h : Hk) : List Value := h.a.v ++ (h.b.v ++ (h.c.v ++ h.d.v))
theorem Ds.len (d : Ds) : d.v.length = 8 := rfl
theorem Ac.len (x : Ac) : x.v.length = 12 := rfl
theorem Hk.len (h : Hk) : h.v.length = 48 := rfl
theorem Ds.one (d : Ds) : ∀ v ∈ d.v, v.oneCell' = true := by
 intro v hv
 simp only [Ds.v, List.mem_cons, List.not_mem_nil, or_false] at hv
 rcases hv with rfl | rfl | rfl | rfl | rfl | rfl | rfl | rfl <;> rfl
theorem Ac.one (x : Ac) : ∀ v ∈ x.v, v.oneCell' = true := by
 intro v hv
 simp only [Ac.v, List.mem_append, List.mem_cons, List.not_mem_nil, or_false] at hv
 rcases hv with (rfl | rfl | rfl | rfl) | hv
 ·rfl
 ·rfl
 ·rfl
 ·rfl
 ·exact x.p.one v hv
theorem Hk.one (h : Hk) : ∀ v ∈ h.v, v.oneCell' = true := by
 intro v hv
 simp only [Hk.v, List.mem_append] at hv
 rcases hv with hv | hv | hv | hv
 ·exact h.a.one v hv
 ·exact h.b.one v hv
 ·exact h.c.one v hv
 ·exact h.d.one v hv
structure Blk (w : World) (B : Nat) (vs : List Value) : Prop where
 c : ∀ i v, vs[i]? = some v → w.cell? ⟨B, i, none⟩ = some v
 z : ∀ i, w.frozen? ⟨B, i, none⟩ = false
 b : B < w.heap.size
theorem Blk.up {w w' : World} {B : Nat} {vs : List Value} (h : Blk w B vs) (hb : Below w.heap.size w w') : Blk w' B vs :=
 ⟨fun i v hv => (hb.cell (p := ⟨B, i, none⟩) h.b).trans (h.c i v hv), fun i => (hb.frozen (p := ⟨B, i, none⟩) h.b).trans (h.z i), Nat.lt_of_lt_of_le h.b hb.size⟩
theorem Blk.grown {w w' : World} {B : Nat} {vs : List Value} {R : Nat} (h : Blk w B vs) (hg : w.grownBy w' (some R)) (hne : B ≠ R) : Blk w' B vs := by
 have hB := hg.block B h.b (by simpa using hne)
 exact ⟨fun i v hv => (World.cell?_of_block (w := w) (a := ⟨B, i, none⟩) hB).trans (h.c i v hv), fun i => (World.frozen?_of_block (w := w) (a := ⟨B, i, none⟩) hB).trans (h.z i), Nat.lt_of_lt_of_le h.b hg.size⟩
theorem Blk.new (w : World) (vs : List Value) (t : TypeId) : Blk (w.alloc (.cells vs.toArray t)) w.heap.size vs :=
 ⟨fun i v hv => by simp [hv], fun i => by simp, by simp⟩
theorem Blk.alloc {w : World} {B : Nat} {vs : List Value} (h : Blk w B vs) (o : Obj) : Blk (w.alloc o) B vs := h.up ((Below.refl _ _).alloc (Nat.le_refl _) _)
theorem Blk.mid {w : World} {B : Nat} {p cs q : List Value} (h : Blk w B (p ++ (cs ++ q))) {o : Nat} (ho : p.length = o) : w.rangeAt B o cs := fun j v hv => by
 subst ho
 refine h.c _ v ?_
 rw [List.getElem?_append_right (by omega), Nat.add_sub_cancel_left, List.getElem?_append_left]
 ·exact hv
 ·exact (List.getElem?_eq_some_iff.1 hv).1
theorem Blk.range {w : World} {B : Nat} {vs : List Value} (h : Blk w B vs) : w.rangeAt B 0 vs := fun j v hv => by rw [Nat.zero_add]; exact h.c j v hv
theorem Blk.there {w : World} {B : Nat} {vs : List Value} (h : Blk w B vs) : w.there B 0 vs.length := fun j hj => by
 rw [Nat.zero_add]
 exact ⟨by rw [h.c j _ (List.getElem?_eq_getElem hj)]; rfl, h.z j⟩
theorem xsc_size (w : World) (b : Nat) : ∀ (vs : List Value) (o : Nat), (w.setCells b o vs).heap.size = w.heap.size := by
 intro vs
 induction vs generalizing w with
 | nil => intro o; rfl
 | cons v r ih => intro o; rw [World.setCells, ih]; simp [World.setCell]
theorem xsc_heap (b k : Nat) (hk : k ≠ b) : ∀ (vs : List Value) (w : World) (o : Nat), (w.setCells b o vs).heap[k]? = w.heap[k]?
 | [], _, _ => rfl
 | v :: r, w, o => by rw [World.setCells, xsc_heap b k hk r, Below.heap_setCell _ _ _ _ hk]
theorem xsc_rest (b : Nat) : ∀ (vs : List Value) (w : World) (o : Nat), (w.setCells b o vs).os = w.os ∧ (w.setCells b o vs).tape = w.tape ∧ (w.setCells b o vs).output = w.output
 | [], _, _ => ⟨rfl, rfl, rfl⟩
 | v :: r, w, o => by
   rw [World.setCells]
   obtain ⟨h1, h2, h3⟩ := xsc_rest b r (w.setCell ⟨b, o, none⟩ v) (o + 1)
   exact ⟨h1, h2, h3⟩
theorem xbelow_sc {N : Nat} {w w' : World} {B : Nat} (h : Below N w w') (hB : N ≤ B) (o : Nat) (vs : List Value) : Below N w (w'.setCells B o vs) := by
 obtain ⟨h1, h2, h3⟩ := xsc_rest B vs w' o
 exact ⟨h1.trans h.os, h2.trans h.tape, h3.trans h.output, by rw [xsc_size]; exact h.size, fun k hk => by rw [xsc_heap B k (by omega)]; exact h.block k hk⟩
theorem Blk.all {w : World} {B : Nat} {vs : List Value} (h : Blk w B vs) (us : List Value) (hl : us.length = vs.length) : Blk (w.setCells B 0 us) B us := by
 refine ⟨fun i v hv => ?_, fun i => (World.frozen?_setCells _ _ _ _ _).trans (h.z i), by rw [xsc_size]; exact h.b⟩
 have := World.rangeAt_setCells_same w B 0 us (by rw [hl]; exact h.there) i v hv
 rwa [Nat.zero_add] at this
theorem Blk.oth {w : World} {B B' : Nat} {vs : List Value} (h : Blk w B vs) (hne : B' ≠ B) (o : Nat) (us : List Value) : Blk (w.setCells B' o us) B vs := by
 have hB := xsc_heap B' B hne.symm us w o
 exact ⟨fun i u hu => (World.cell?_of_block (w := w) (a := ⟨B, i, none⟩) hB).trans (h.c i u hu), fun i => (World.frozen?_of_block (w := w) (a := ⟨B, i, none⟩) hB).trans (h.z i), by rw [xsc_size]; exact h.b⟩
def Row (t n : Nat) : Prop := (∃ d, Tryz.prog.underlying t = some d ∧ d.isRow = true) ∧ (Tryz.prog.info? t).map (·.size) = some n
theorem row_Hook : Row 34 48 := ⟨⟨_, Tryz.underlying34, rfl⟩, by kernel_rfl⟩
theorem row_Spec : Row 151 8 := ⟨⟨_, Tryz.underlying151, rfl⟩, by kernel_rfl⟩
theorem wpl_ld {ops : Array Oper} {rest : List Oper} {op : Oper} {a : Act} {w : World} {Q : Exit → Act → World → Prop} {t n : Nat} (hr : Row t n) (hgd : op.guard = none) (x : Operand) (ho : op.op = .load t x) {B o : Nat} {vs : List Value}
  (hx : a.eval x = .pointer (some ⟨B, o, none⟩)) (hB : w.rangeAt B o vs) (hl : vs.length = n)
  (h : wpList Tryz.prog ops Q rest (a.put op.dst (.agg vs.toArray)) w) : wpList Tryz.prog ops Q (op :: rest) a w := by
 obtain ⟨⟨d, h1, h2⟩, h3⟩ := hr
 exact wpList_load_mid hgd t x ho B o hx vs d hB h1 h2 (by rw [hl]; exact h3) h
theorem wpl_st {ops : Array Oper} {rest : List Oper} {op : Oper} {a : Act} {w : World} {Q : Exit → Act → World → Prop} {t n : Nat} (hr : Row t n) (hgd : op.guard = none) (x y : Operand) (ho : op.op = .store t x y) {B : Nat} {vs us : List Value}
  (hx : a.eval x = .pointer (some ⟨B, 0, none⟩)) (hy : a.eval y = .agg us.toArray) (hB : Blk w B vs) (hl : vs.length = n) (hu : us.length = n) (h1 : ∀ v ∈ us, v.oneCell' = true)
  (h : wpList Tryz.prog ops Q rest (a.put op.dst undef) (w.setCells B 0 us)) : wpList Tryz.prog ops Q (op :: rest) a w := by
 refine wpList_store_mid hgd t x y ho B 0 us.toArray hx hy (by have := hB.there; rw [hl] at this; simpa [hu] using this) (by simp [hu, hr.2]) (all_oneCell_toArray h1) ?_
 simpa using h
theorem wpl_bld {ops : Array Oper} {rest : List Oper} {op : Oper} {a : Act} {w : World} {Q : Exit → Act → World → Prop} (hgd : op.guard = none) (t : TypeId) (parts : Array (Nat × Operand)) (ho : op.op = .build t parts) {V : Value} (ps : List (Nat × Value))
  (hx : parts.toList.map (fun x => (x.1, a.eval x.2)) = ps) (hb : (Instr.build t ps.toArray).run Tryz.prog w = .ok V w)
  (h : wpList Tryz.prog ops Q rest (a.put op.dst V) w) : wpList Tryz.prog ops Q (op :: rest) a w := by
 have hx' : (parts.map fun (i, x) => (i, a.eval x)) = ps.toArray := by
  rw [← hx]
  apply Array.ext'
  simp
 refine wpList_plain hgd fun K hK => ?_
 unfold Oper.wp execOp
 simp only [ho, hx', hb, Sem.run_bind, Sem.run_pure, Result.andThen_ok]
 exact hK _ _ h
theorem res_row {t n s : Nat} (hw : Row t n) {f : Func} (hr : f.results = #[.cell s t]) {tmps : Array Value} {w : World} {B : Nat} {vs : List Value} (ht : tmps.getD s undef = .pointer (some ⟨B, 0, none⟩)) (h : Blk w B vs) (hl : vs.length = n) : (results f tmps).run Tryz.prog w = .ok (.agg vs.toArray) w := by
 obtain ⟨⟨d, h1, h2⟩, h3⟩ := hw
 have hL := run_loadVar_mid (P := Tryz.prog) w B 0 t vs d h.range h1 h2 (by rw [hl]; exact h3)
 have ht' : tmps[s]?.getD undef = .pointer (some ⟨B, 0, none⟩) := by simpa using ht
 simp [results, hr, ht', hL, asAddr]
end Go.Proofs.YtjalgdfnehgocaaGreatDoor
namespace Go.Proofs.YtjalgdfnehgocaaGreatDoor
open Go.RowKit
set_option linter.unusedVariables false
set_option linter.unusedSimpArgs false
def hat (h : Hk) (n : Int) : Ac := if n = 1 then h.a else if n = 2 then h.b else if n = 3 then h.c else if n = 4 then h.d else .no
end Go.Proofs.YtjalgdfnehgocaaGreatDoor
namespace Go.Proofs.YtjalgdfnehgocaaGreatDoor
open Go.RowKit
set_option linter.unusedVariables false
set_option linter.unusedSimpArgs false
end Go.Proofs.YtjalgdfnehgocaaGreatDoor
namespace Go.Proofs.YtjalgdfnehgocaaGreatDoor
open Go.RowKit
set_option linter.unusedVariables false
set_option linter.unusedSimpArgs false
end Go.Proofs.YtjalgdfnehgocaaGreatDoor
namespace Go.Proofs.YtjalgdfnehgocaaGreatDoor
open Go.RowKit
set_option linter.unusedVariables false
set_option linter.unusedSimpArgs false
theorem Blk.other {w : World} {B B' o : Nat} {vs : List Value} (h : Blk w B vs) (hne : B' ≠ B) (v : Value) : Blk (w.setCell ⟨B', o, none⟩ v) B vs := by
 have hB : (w.setCell ⟨B', o, none⟩ v).heap[B]? = w.heap[B]? := Below.heap_setCell _ _ _ _ hne.symm
 exact ⟨fun i u hu => (World.cell?_of_block (w := w) (a := ⟨B, i, none⟩) hB).trans (h.c i u hu), fun i => (World.frozen?_of_block (w := w) (a := ⟨B, i, none⟩) hB).trans (h.z i), by simpa [World.setCell] using h.b⟩
theorem Blk.set {w : World} {B : Nat} {vs : List Value} (h : Blk w B vs) (i : Nat) (hi : i < vs.length) (v : Value) : Blk (w.setCell ⟨B, i, none⟩ v) B (vs.set i v) := by
 refine ⟨fun j u hu => ?_, fun j => (World.frozen?_setCell _ _ _ _).trans (h.z j), by simpa [World.setCell] using h.b⟩
 by_cases e : i = j
 ·subst e
  rw [List.getElem?_set_self hi] at hu
  obtain rfl := Option.some.inj hu
  exact World.cell?_setCell_same _ _ _ (h.c i _ (List.getElem?_eq_getElem hi))
 ·rw [List.getElem?_set_ne e] at hu
  rw [World.cell?_setCell_other _ _ _ _ (fun k => e (congrArg Addr.off k))]
  exact h.c j u hu
end Go.Proofs.YtjalgdfnehgocaaGreatDoor
namespace Go.Proofs.YtjalgdfnehgocaaGreatDoor
open Go.RowKit
set_option linter.unusedVariables false
end Go.Proofs.YtjalgdfnehgocaaGreatDoor
namespace Go.Proofs.YtjalgdfnehgocaaGreatDoor
open Go.RowKit
set_option linter.unusedVariables false
theorem Blk.thereMid {w : World} {B : Nat} {p cs q : List Value} (h : Blk w B (p ++ (cs ++ q))) : w.there B p.length cs.length := fun j hj => by
 refine ⟨?_, h.z _⟩
 have hlt : p.length + j < (p ++ (cs ++ q)).length := by simp; omega
 rw [h.c (p.length + j) _ (List.getElem?_eq_getElem hlt)]
 rfl
theorem Blk.put {w : World} {B : Nat} {p cs q : List Value} (h : Blk w B (p ++ (cs ++ q))) (us : List Value) (hl : us.length = cs.length) : Blk (w.setCells B p.length us) B (p ++ (us ++ q)) := by
 refine ⟨fun i v hv => ?_, fun i => (World.frozen?_setCells _ _ _ _ _).trans (h.z i), by rw [xsc_size]; exact h.b⟩
 have r1 : (w.setCells B p.length us).rangeAt B 0 p := by
  refine World.rangeAt_setCells_apart (fun j u hu => ?_) B p.length us (.inr (.inl (by omega)))
  rw [Nat.zero_add]
  exact h.c j u (by rw [List.getElem?_append_left (List.getElem?_eq_some_iff.1 hu).1]; exact hu)
 have r2 : (w.setCells B p.length us).rangeAt B p.length us := World.rangeAt_setCells_same w B p.length us (by rw [hl]; exact h.thereMid)
 have r3 : (w.setCells B p.length us).rangeAt B (p.length + cs.length) q := by
  refine World.rangeAt_setCells_apart (fun j u hu => ?_) B p.length us (.inr (.inr (by omega)))
  refine h.c _ u ?_
  rw [← List.append_assoc, List.getElem?_append_right (by simp), List.length_append, Nat.add_sub_cancel_left]
  exact hu
 rcases Nat.lt_or_ge i p.length with h1 | h1
 ·rw [List.getElem?_append_left h1] at hv
  have := r1 i v hv
  rwa [Nat.zero_add] at this
 ·rw [List.getElem?_append_right h1] at hv
  rcases Nat.lt_or_ge (i - p.length) us.length with h2 | h2
  ·rw [List.getElem?_append_left h2] at hv
   have := r2 _ v hv
   rwa [show p.length + (i - p.length) = i by omega] at this
  ·rw [List.getElem?_append_right h2] at hv
   have := r3 _ v hv
   rwa [show p.length + cs.length + (i - p.length - us.length) = i by omega] at this
end Go.Proofs.YtjalgdfnehgocaaGreatDoor
namespace Go.Proofs.YtjalgdfnehgocaaGreatDoor
open Go.RowKit
def digF (g : Bool) (b : Nat) : Nat → Nat → List UInt8
 | 0, _ => []
 | f + 1, m => if m = 0 then [] else digF g b f (m / b) ++ [hexB g (m % b)]
def digP (g : Bool) (b m : Nat) : List UInt8 := digF g b 64 m
def digS (g : Bool) (b n : Nat) : List UInt8 := digP g b (n / b) ++ [hexB g (n % b)]
theorem digF_fuel (g : Bool) (b : Nat) (hb : 2 ≤ b) : ∀ (f h m : Nat), m < 2 ^ f → m < 2 ^ h → digF g b f m = digF g b h m
 | 0, 0, _, _, _ => rfl
 | 0, h + 1, m, hf, _ => by
   have : m = 0 := by simp at hf; omega
   simp [digF, this]
 | f + 1, 0, m, _, hh => by
   have : m = 0 := by simp at hh; omega
   simp [digF, this]
 | f + 1, h + 1, m, hf, hh => by
   by_cases hm : m = 0
   ·simp [digF, hm]
   ·simp only [digF, if_neg hm]
    have hd : m / b ≤ m / 2 := Nat.div_le_div_left hb (by omega)
    rw [digF_fuel g b hb f h (m / b) (by rw [Nat.pow_succ] at hf; omega) (by rw [Nat.pow_succ] at hh; omega)]
theorem digP_zero (g : Bool) (b : Nat) : digP g b 0 = [] := by simp [digP, digF]
theorem digF_succ (g : Bool) (b f m : Nat) : digF g b (f + 1) m = if m = 0 then [] else digF g b f (m / b) ++ [hexB g (m % b)] := rfl
theorem digP_step (g : Bool) (b m : Nat) (hb : 2 ≤ b) (h0 : m ≠ 0) (hm : m < 2 ^ 64) : digP g b m = digP g b (m / b) ++ [hexB g (m % b)] := by
 have hd : m / b ≤ m / 2 := Nat.div_le_div_left hb (by omega)
 have e : digF g b 63 (m / b) = digF g b 64 (m / b) := digF_fuel g b hb 63 64 _ (by have : (2 : Nat) ^ 64 = 2 * 2 ^ 63 := by decide
                                                                                    omega) (by omega)
 have e0 := digF_succ g b 63 m
 rw [if_neg h0, e] at e0
 exact e0
theorem digS_pos (g : Bool) (b n : Nat) (hb : 2 ≤ b) (h0 : n ≠ 0) (hn : n < 2 ^ 64) : digS g b n = digP g b n := (digP_step g b n hb h0 hn).symm
theorem digF_len (g : Bool) (b : Nat) : ∀ (f m : Nat), (digF g b f m).length ≤ f
 | 0, _ => by simp [digF]
 | f + 1, m => by
   have := digF_len g b f (m / b)
   simp only [digF]
   split
   ·simp
   ·simp; omega
theorem digP_len (g : Bool) (b m : Nat) : (digP g b m).length ≤ 64 := digF_len g b 64 m
theorem digS_len (g : Bool) (b n : Nat) : (digS g b n).length ≤ 65 := by
 have := digP_len g b (n / b)
 simp [digS]; omega
theorem digS_len1 (g : Bool) (b n : Nat) : 1 ≤ (digS g b n).length := by simp [digS]
theorem digF_mem (g : Bool) (b : Nat) (hb : 0 < b) : ∀ (f m : Nat) (x : UInt8), x ∈ digF g b f m → ∃ d, d < b ∧ x = hexB g d
 | 0, _, x, h => by simp [digF] at h
 | f + 1, m, x, h => by
   simp only [digF] at h
   split at h
   ·simp at h
   ·rcases List.mem_append.1 h with h | h
    ·exact digF_mem g b hb f _ x h
    ·exact ⟨m % b, Nat.mod_lt _ hb, by simpa using h⟩
theorem digS_mem (g : Bool) (b n : Nat) (hb : 0 < b) (x : UInt8) (h : x ∈ digS g b n) : ∃ d, d < b ∧ x = hexB g d := by
 rcases List.mem_append.1 h with h | h
 ·exact digF_mem g b hb 64 _ x h
 ·exact ⟨n % b, Nat.mod_lt _ hb, by simpa using h⟩
theorem hexB_ascii (g : Bool) (d : Nat) (h : d < 16) : (hexB g d).toNat < 128 := by
 have : ∀ i : Fin 16, (hexB false i.val).toNat < 128 ∧ (hexB true i.val).toNat < 128 := by decide
 have := this ⟨d, h⟩
 cases g
 ·exact this.1
 ·exact this.2
theorem digS_ascii (g : Bool) (b n : Nat) (hb : 0 < b) (h16 : b ≤ 16) (x : UInt8) (h : x ∈ digS g b n) : x.toNat < 128 := by
 obtain ⟨d, hd, rfl⟩ := digS_mem g b n hb x h
 exact hexB_ascii g d (by omega)
end Go.Proofs.YtjalgdfnehgocaaGreatDoor
namespace Go.Proofs.YtjalgdfnehgocaaGreatDoor
open Go.RowKit
def lenS (s : ByteArray) (n : Int) : ByteArray := run 48 (wdt (n - (s.size : Nat))) ++ s
def digT (g : Bool) (b n : Nat) : ByteArray := ⟨(digS g b n).toArray⟩
theorem digT_size (g : Bool) (b n : Nat) : (digT g b n).size ≤ 65 ∧ 1 ≤ (digT g b n).size := by
 have h1 := digS_len g b n
 have h2 := digS_len1 g b n
 have h3 : (digT g b n).size = (digS g b n).length := by simp [digT, ByteArray.size]
 omega
def signA (p sp : Bool) : ByteArray := if p = true then ⟨#[43]⟩ else if sp = true then ⟨#[32]⟩ else ⟨#[]⟩
end Go.Proofs.YtjalgdfnehgocaaGreatDoor
namespace Go.Proofs.YtjalgdfnehgocaaGreatDoor
open Go.RowKit
set_option maxHeartbeats 400000 in
theorem rune_any (c : Int) (w : World) :
  Calls Tryz.prog 17 #[.int .i32 c] w fun e w' => e = .returned (.string (Utf8.encode c)) ∧ w' = w := by
 go_enter Tryz.func17, Tryz.ntmps17
 go_wp2
 go_ret
 exact ⟨rfl, rfl⟩
theorem conv_new (w : World) (xs : List Int) (n : Nat) (hn : xs.length = n) :
  (convert 25 9 (.slice (some ⟨w.heap.size, 0, none⟩) n n)).run Tryz.prog (w.alloc (.cells (xs.map (Value.int .u8)).toArray 5)) = .ok (.string (strOfNums xs)) (w.alloc (.cells (xs.map (Value.int .u8)).toArray 5)) := by
 refine run_convert_bytes_arg _ 25 5 Tryz.underlying25 Tryz.underlying5 w.heap.size 0 n n xs hn (fun i hi => ?_) 9 Tryz.underlying9
 have hi' : i < xs.length := by omega
 simp [hi', List.getD]
theorem conv1 (w : World) (x : Int) :
  (convert 25 9 (.slice (some ⟨w.heap.size, 0, none⟩) 1 1)).run Tryz.prog (w.alloc (.cells #[.int .u8 x] 5)) = .ok (.string (strOfNums [x])) (w.alloc (.cells #[.int .u8 x] 5)) := conv_new w [x] 1 rfl
end Go.Proofs.YtjalgdfnehgocaaGreatDoor
namespace Go.Proofs.YtjalgdfnehgocaaGreatDoor
open Go.RowKit
theorem small_at (i : Nat) (h : i < (ByteArray.mk #[48, 49, 50, 51, 52, 53, 54, 55, 56, 57, 97, 98, 99, 100, 101, 102]).size) : ((ByteArray.mk #[48, 49, 50, 51, 52, 53, 54, 55, 56, 57, 97, 98, 99, 100, 101, 102])[i]'h).toNat = hexN false i := by
 match i, h with
 | 0, _ => rfl
 | 1, _ => rfl
 | 2, _ => rfl
 | 3, _ => rfl
 | 4, _ => rfl
 | 5, _ => rfl
 | 6, _ => rfl
 | 7, _ => rfl
 | 8, _ => rfl
 | 9, _ => rfl
 | 10, _ => rfl
 | 11, _ => rfl
 | 12, _ => rfl
 | 13, _ => rfl
 | 14, _ => rfl
 | 15, _ => rfl
 | n + 16, h => exact absurd h (by show ¬ n + 16 < 16; omega)
theorem great_at (i : Nat) (h : i < (ByteArray.mk #[48, 49, 50, 51, 52, 53, 54, 55, 56, 57, 65, 66, 67, 68, 69, 70]).size) : ((ByteArray.mk #[48, 49, 50, 51, 52, 53, 54, 55, 56, 57, 65, 66, 67, 68, 69, 70])[i]'h).toNat = hexN true i := by
 match i, h with
 | 0, _ => rfl
 | 1, _ => rfl
 | 2, _ => rfl
 | 3, _ => rfl
 | 4, _ => rfl
 | 5, _ => rfl
 | 6, _ => rfl
 | 7, _ => rfl
 | 8, _ => rfl
 | 9, _ => rfl
 | 10, _ => rfl
 | 11, _ => rfl
 | 12, _ => rfl
 | 13, _ => rfl
 | 14, _ => rfl
 | 15, _ => rfl
 | n + 16, h => exact absurd h (by show ¬ n + 16 < 16; omega)
theorem wraps_i32_31 (n : Int) (h₀ : 0 ≤ n) (h₁ : n < 2 ^ 31) : IntKind.i32.wrap n = n := by
 have e : (2 : Int) ^ 31 = 2147483648 := by decide
 rw [e] at h₁
 rw [IntKind.wrap_i32]
 omega
theorem bits15 (x : Nat) (h : x < 2147483648) : bits .and .i32 (x : Int) 15 = ((x % 16 : Nat) : Int) := by
 have e := bits_mask .i32 31 (by decide) wraps_i32_31 4 (by decide) (x : Int) (by omega) (by have : (2 : Int) ^ 31 = 2147483648 := by decide
                                                                                             omega)
 have e1 : ((2 : Int) ^ 4 - 1) = 15 := by decide
 have e2 : ((2 : Int) ^ 4) = 16 := by decide
 rw [e1, e2] at e
 rw [e]
 omega
theorem shr_nat (c j : Nat) : (c : Int) / 2 ^ (4 * j) = ((c / 16 ^ j : Nat) : Int) := by
 have : (2 : Int) ^ (4 * j) = ((16 ^ j : Nat) : Int) := by
  rw [Int.pow_mul]; simp
 rw [this]; simp
theorem hexN_lt (g : Bool) (i : Nat) (h : i < 16) : hexN g i < 256 := by unfold hexN; split <;> (try split) <;> omega
theorem hexB_nat (g : Bool) (i : Nat) (h : i < 16) : (hexB g i).toNat = hexN g i := by
 have := hexN_lt g i h
 unfold hexB
 simp
 omega
theorem cells_hex (l : List UInt8) (g : Bool) (i : Nat) (h : i < 16) : Lib.byteCells l ++ [.int .u8 (hexN g i : Nat)] = Lib.byteCells (l ++ [hexB g i]) := by
 rw [Lib.byteCells_append, ← hexB_nat g i h]; rfl
set_option maxHeartbeats 400000 in
theorem plain_any (c : Int) (w : World) :
  Calls Tryz.prog 65 #[.int .i32 c] w fun e w' => e = .returned (.bool (plainP c)) ∧ w' = w := by
 by_cases h1 : c = 173 <;> by_cases h2 : c ≤ 160 <;> by_cases h3 : 32 ≤ c <;> by_cases h4 : c ≤ 126 <;> by_cases h5 : c ≤ 65532 <;> by_cases h6 : c ≤ 55295 <;> by_cases h7 : 57344 ≤ c <;> by_cases h8 : 65536 ≤ c <;> by_cases h9 : c ≤ 1114111
 all_goals first | (exfalso; omega) | skip
 all_goals first | (have hp : plainP c = true := (by rw [plainP_iff]; omega)) | (have hp : plainP c = false := (by rw [plainP_not]; omega))
 all_goals
  rw [hp]
  go_enter Tryz.func65, Tryz.ntmps65
  go_wp2
  go_ret
  exact ⟨rfl, rfl⟩
set_option maxRecDepth 1000000 in
set_option maxHeartbeats 800000 in
theorem hexa_any (c k : Nat) (w : World) (hc : c ≤ 1114111) (hk : k ≤ 8) :
  Calls Tryz.prog 44 #[.int .i32 c, .int .i64 k] w fun e w' => e = .returned (.string ⟨(hexL c k).toArray⟩) ∧ Below w.heap.size w w' := by
 go_enter Tryz.func44, Tryz.ntmps44
 go_wp2
 go_loopg [1] k (fun m n wr => n = .int .i64 ((m : Int) - 1) ∧ m ≤ k ∧ Lib.IsBuilderF 82 5 w.heap.size w.heap.size (Lib.byteCells (hexL (c / 16 ^ m) (k - m))) wr ∧ Below w.heap.size w wr)
 case atStart =>
  refine ⟨rfl, Nat.le_refl _, ?_, (Below.refl _ w).alloc (Nat.le_refl _) _⟩
  rw [Nat.sub_self]
  exact Lib.IsBuilderF.of (Lib.fresh_isBuilder 82 5 w)
 case round =>
  obtain ⟨rfl, hm, hI, hb⟩ := hrel
  have hsz := hb.size
  cases gk with
  | zero =>
    go_wp2_with (go_at_call 39; refine (Tryz.builderString w.heap.size w.heap.size _ _ hI hsz).mono ?_)
    rintro e w1 ⟨rfl, _, hb1, _⟩
    go_wp2
    go_ret
    refine ⟨?_, hb.trans hb1⟩
    simp
  | succ j =>
    have ej : ((j + 1 : Nat) : Int) - 1 = (j : Int) := by omega
    rw [ej]
    have h4 : wrap64 (4 * (j : Int)) = 4 * (j : Int) := by unfold wrap64; omega
    have h16 : c / 16 ^ j % 16 < 16 := Nat.mod_lt _ (by omega)
    have hle : c / 16 ^ j ≤ c := Nat.div_le_self _ _
    have hbits : bits .and .i32 ((c : Int) / 2 ^ (4 * j)) 15 = ((c / 16 ^ j % 16 : Nat) : Int) := by rw [shr_nat, bits15 _ (by omega)]
    obtain ⟨d, hd⟩ : ∃ d, c / 16 ^ j % 16 = d := ⟨_, rfl⟩
    rw [hd] at hbits h16
    have hd' : d < (ByteArray.mk #[48, 49, 50, 51, 52, 53, 54, 55, 56, 57, 97, 98, 99, 100, 101, 102]).size := h16
    go_wp2_with (go_at_call 42; refine (Tryz.writeByte w.heap.size w.heap.size _ _ _ hI (by rw [Lib.byteCells_length, hexL_len]; omega) hsz).mono ?_)
    rintro e w1 ⟨rfl, h1, hb1, _⟩
    rw [small_at, cells_hex _ _ _ h16] at h1
    go_wp2
    go_roundg j
    case measure => omega
    case rel =>
     refine ⟨val_int (by omega), by omega, ?_, hb.trans hb1⟩
     rw [hexL_more c k j hm, hd]
     exact Or.inr h1
end Go.Proofs.YtjalgdfnehgocaaGreatDoor
namespace Go.Proofs.YtjalgdfnehgocaaGreatDoor
open Go.RowKit
end Go.Proofs.YtjalgdfnehgocaaGreatDoor
namespace Go.Proofs.YtjalgdfnehgocaaGreatDoor
open Go.RowKit
set_option linter.unusedVariables false
structure Row64 (w : World) (B m : Nat) (ds : List UInt8) : Prop where
 len : m + ds.length = 64
 some_ : ∀ i, i < 64 → ∃ v, w.cell? ⟨B, i, none⟩ = some v
 at_ : ∀ i, i < ds.length → w.cell? ⟨B, m + i, none⟩ = some (.int .u8 (ds.getD i 0).toNat)
 froz : ∀ i, w.frozen? ⟨B, i, none⟩ = false
theorem Row64.put {w : World} {B j : Nat} {ds : List UInt8} (h : Row64 w B (j + 1) ds) (x : UInt8) : Row64 (w.setCell ⟨B, j, none⟩ (.int .u8 x.toNat)) B j (x :: ds) where
 len := by have := h.len; simp; omega
 some_ := fun i hi => cell?_setCell_some (h.some_ i hi).choose_spec
 at_ := fun i hi => by
  have hl := h.len
  cases i with
  | zero =>
    obtain ⟨v, hv⟩ := h.some_ j (by omega)
    exact World.cell?_setCell_same _ _ _ hv
  | succ i =>
    have hi' : i < ds.length := by simp at hi; exact hi
    rw [World.cell?_setCell_other _ _ _ _ (by intro e; have := congrArg Addr.off e; simp at this)]
    have := h.at_ i hi'
    rw [show j + (i + 1) = j + 1 + i by omega]
    exact this
 froz := fun i => by rw [World.frozen?_setCell]; exact h.froz i
theorem row64_new (w : World) (vs : Array Value) (T : TypeId) (hv : vs.size = 64) : Row64 (w.alloc (.cells vs T)) w.heap.size 64 [] where
 len := rfl
 some_ := fun i hi => ⟨vs[i]'(by omega), by simp [hv, hi]⟩
 at_ := fun i hi => by simp at hi
 froz := fun i => by simp
theorem two_pow (a q n : Nat) (h : q * 2 ^ (64 - a) ≤ n) (hn : n < 18446744073709551616) (hq : 0 < q) : 0 < a := by
 rcases Nat.eq_zero_or_pos a with h0 | h0
 ·exfalso
  subst h0
  have : (2 : Nat) ^ 64 = 18446744073709551616 := by decide
  have h1 : 1 * 2 ^ 64 ≤ q * 2 ^ 64 := Nat.mul_le_mul_right _ hq
  omega
 ·exact h0
theorem two_step (j q b n : Nat) (h : q * 2 ^ (64 - (j + 1)) ≤ n) (hj : j + 1 ≤ 64) (hb : 2 ≤ b) : q / b * 2 ^ (64 - j) ≤ n := by
 have e : 64 - j = 64 - (j + 1) + 1 := by omega
 have hd : q / b ≤ q / 2 := Nat.div_le_div_left hb (by omega)
 rw [e, Nat.pow_succ]
 have h1 : q / b * 2 ≤ q := by omega
 calc q / b * (2 ^ (64 - (j + 1)) * 2) = q / b * 2 * 2 ^ (64 - (j + 1)) := by rw [Nat.mul_comm (2 ^ (64 - (j + 1))) 2, Nat.mul_assoc]
  _ ≤ q * 2 ^ (64 - (j + 1)) := Nat.mul_le_mul_right _ h1
  _ ≤ n := h
def wRel (b n a q : Nat) (ds : List UInt8) : Prop := (a = 64 ∧ q = n ∧ ds = []) ∨ (a < 64 ∧ digP false b q ++ ds = digS false b n)
theorem wRel_step (b n j q : Nat) (ds : List UInt8) (hb : 2 ≤ b) (hq : q < 2 ^ 64) (h : wRel b n (j + 1) q ds) (hj : j + 1 ≤ 64) (hgo : j + 1 = 64 ∨ q ≠ 0) : wRel b n j (q / b) (hexB false (q % b) :: ds) := by
 refine .inr ⟨by omega, ?_⟩
 rcases h with ⟨h1, rfl, rfl⟩ | ⟨h1, h2⟩
 ·rfl
 ·rw [← h2, digP_step false b q hb (by omega) hq]
  simp
theorem arr64Len : Tryz.prog.arrayLen 404 = 64 := by kernel_rfl
theorem arr64Elem : Tryz.prog.elem 404 = 5 := by kernel_rfl
theorem arr64Under : Tryz.prog.underlying 404 = some (.array (Tryz.prog.arrayLen 404) (Tryz.prog.elem 404)) := by kernel_rfl
theorem at64_l (W : World) (g n : Nat) (hn : n < 64) :
  (Instr.sliceAt 404 (.pointer (some ⟨g, 0, none⟩)) (some (.int .i64 n)) none none).run Tryz.prog W = .ok (.slice (some ⟨g, n, none⟩) (64 - n) (64 - n)) W := by
 rw [run_sliceAt_array_l W 404 ⟨g, 0, none⟩ arr64Under .i64 n (by omega) (by rw [arr64Len]; omega), arr64Elem, Tryz.sizeOf5, arr64Len]
 have hne : ¬ 64 = n := by omega
 simp [slicedAt, hne, Addr.add]
 omega
theorem conv64 (W : World) (g m : Nat) (ds : List UInt8) (h : Row64 W g m ds) :
  (convert 25 9 (.slice (some ⟨g, m, none⟩) (64 - m) (64 - m))).run Tryz.prog W = .ok (.string ⟨ds.toArray⟩) W := by
 have hl := h.len
 have := run_convert_bytes_arg W 25 5 Tryz.underlying25 Tryz.underlying5 g m (64 - m) (64 - m) (ds.map fun x => (x.toNat : Int)) (by simp; omega) (fun i hi => by
  rw [h.at_ i (by omega)]
  have : i < ds.length := by omega
  simp [this, List.getD]) 9 Tryz.underlying9
 rw [this]
 have e : strOfNums (ds.map fun x => (x.toNat : Int)) = ⟨ds.toArray⟩ := by
  apply ByteArray.ext
  have : (ds.map fun x => (x.toNat : Int)).map (fun n : Int => UInt8.ofNat n.toNat) = ds := by
   rw [List.map_map]
   conv => rhs; rw [← List.map_id ds]
   exact List.map_congr_left fun x _ => by simp
  show ((ds.map fun x => (x.toNat : Int)).map (fun n : Int => UInt8.ofNat n.toNat)).toArray = _
  rw [this]
 rw [e]
set_option maxRecDepth 1000000 in
set_option maxHeartbeats 800000 in
theorem written_any (n b : Nat) (w : World) (hn : n < 18446744073709551616) (hb : 2 ≤ b) (hb16 : b ≤ 16) :
  Calls Tryz.prog 330 #[.int .u64 n, .int .u64 b] w fun e w' => e = .returned (.string ⟨(digS false b n).toArray⟩) ∧ Below w.heap.size w w' := by
 go_enter Tryz.func330, Tryz.ntmps330
 go_wp2
 go_loopg [0, 6] 65 (fun g nn at_ wr => ∃ (q a : Nat) (ds : List UInt8), nn = .int .u64 q ∧ at_ = .int .i64 a ∧ a + 1 = g ∧ q ≤ n ∧ a ≤ 64 ∧ Row64 wr w.heap.size a ds ∧ Below w.heap.size w wr ∧ Hid (q * 2 ^ (64 - a) ≤ n ∧ wRel b n a q ds))
 case atStart =>
  exact ⟨n, 64, [], rfl, rfl, rfl, Nat.le_refl _, Nat.le_refl _, row64_new w _ _ rfl, (Below.refl _ _).alloc (Nat.le_refl _) _, by simp, .inl ⟨rfl, rfl, rfl⟩⟩
 case round =>
  obtain ⟨q, a, ds, rfl, rfl, hag, hqn, ha, hR, hbl, HH⟩ := hrel
  have hq0 : 0 < q → 0 < a := two_pow a q n HH.out.1 hn
  by_cases hgo : a = 64 ∨ 0 < q
  ·obtain ⟨j, rfl⟩ : ∃ j, a = j + 1 := ⟨a - 1, by omega⟩
   have hW : Hid (q / b * 2 ^ (64 - j) ≤ n ∧ wRel b n j (q / b) (hexB false (q % b) :: ds)) := ⟨two_step j q b n HH.out.1 ha hb, wRel_step b n j q ds hb (by omega) HH.out.2 ha (by omega)⟩
   have hd : q % b < b := Nat.mod_lt _ (by omega)
   have hqd : q / b ≤ q := Nat.div_le_self _ _
   have hm1 : (q : Int).tmod b = ((q % b : Nat) : Int) := by rw [Int.tmod_eq_emod_of_nonneg (by omega)]; simp
   have hm2 : (q : Int).tdiv b = ((q / b : Nat) : Int) := by rw [Int.tdiv_eq_ediv_of_nonneg (by omega)]; simp
   have hm3 : (q : Int) % b = ((q % b : Nat) : Int) := by simp
   have hm4 : (q : Int) / b = ((q / b : Nat) : Int) := by simp
   have hbz : ¬ (b : Int) = 0 := by omega
   generalize q % b = d at *
   generalize q / b = q' at *
   have ej : ((j + 1 : Nat) : Int) = (j : Int) + 1 := by omega
   rw [ej]
   have hd' : d < (ByteArray.mk #[48, 49, 50, 51, 52, 53, 54, 55, 56, 57, 97, 98, 99, 100, 101, 102]).size := by show d < 16; omega
   have hsm := small_at d hd'
   have HS : Hid (∀ W, Row64 W w.heap.size (j + 1) ds → Row64 (W.setCell ⟨w.heap.size, j, none⟩ (.int .u8 (((ByteArray.mk #[48, 49, 50, 51, 52, 53, 54, 55, 56, 57, 97, 98, 99, 100, 101, 102])[d]'hd').toNat : Nat))) w.heap.size j (hexB false d :: ds)) := fun W h => by
    rw [hsm, ← hexB_nat false d (by omega)]
    exact h.put _
   clear hsm
   by_cases h64 : j = 63
   ·subst h64
    obtain ⟨v0, hv0⟩ := hR.some_ 63 (by omega)
    have hf0 := hR.froz 63
    go_wp2
    go_roundg (gk - 1)
    case measure => omega
    case rel => exact ⟨q', 63, _, rfl, rfl, by omega, by omega, by omega, HS.out _ hR, hbl.setCell (Nat.le_refl _) _, hW⟩
   ·have hq1 : 0 < (q : Int) := by omega
    have h641 : ¬ (j : Int) + 1 = 64 := by omega
    have hj0 : (j : Int) < 64 := by omega
    obtain ⟨v0, hv0⟩ := hR.some_ j (by omega)
    have hf0 := hR.froz j
    go_wp2
    go_roundg (gk - 1)
    case measure => omega
    case rel => exact ⟨q', j, _, rfl, rfl, by omega, by omega, by omega, HS.out _ hR, hbl.setCell (Nat.le_refl _) _, hW⟩
  ·have ha1 : ¬ (a : Int) = 64 := by omega
   have hq1 : ¬ 0 < (q : Int) := by omega
   have ha2 : a < 64 := by omega
   have hq2 : q = 0 := by omega
   have HF : Hid (ds = digS false b n) := by
    rcases HH.out.2 with ⟨h1, -⟩ | ⟨h1, h2⟩
    ·omega
    ·rw [hq2, digP_zero] at h2
     exact h2
   clear hq2
   have hsl := at64_l wr w.heap.size a ha2
   have hcv := conv64 wr w.heap.size a ds hR
   have hb1 : ((a : Int) == 64) = false := by simp; omega
   have hb2 : decide (0 < q) = false := by simp; omega
   go_wp2
   go_ret
   rw [← HF.out]
   exact ⟨rfl, hbl⟩
set_option maxRecDepth 1000000 in
set_option maxHeartbeats 400000 in
theorem idigits_any (n b : Nat) (w : World) (hn : n < 18446744073709551616) (hb : b = 2 ∨ b = 8 ∨ b = 10 ∨ b = 16) :
  Calls Tryz.prog 306 #[.int .u64 n, .int .i64 b] w fun e w' => e = .returned (.string ⟨(digS false b n).toArray⟩) ∧ Below w.heap.size w w' := by
 have hW : ∀ w, Calls Tryz.prog 330 #[.int .u64 n, .int .u64 b] w fun e w' => e = .returned (.string ⟨(digS false b n).toArray⟩) ∧ Below w.heap.size w w' := fun w => written_any n b w hn (by omega) (by omega)
 generalize (⟨(digS false b n).toArray⟩ : ByteArray) = r at *
 rcases hb with rfl | rfl | rfl | rfl
 all_goals
  go_enter Tryz.func306, Tryz.ntmps306
  go_wp2_with (go_at_call 330; refine (hW _).mono ?_; rintro e w1 ⟨rfl, hb1⟩)
  go_ret
  exact ⟨rfl, hb1⟩
end Go.Proofs.YtjalgdfnehgocaaGreatDoor
namespace Go.Proofs.YtjalgdfnehgocaaGreatDoor
open Go.RowKit
set_option maxRecDepth 1000000 in
set_option maxHeartbeats 800000 in
theorem decode_any (s : ByteArray) (w : World) :
  Calls Tryz.prog 60 #[.string s] w fun e w' => e = .returned (.tuple #[.int .i32 (dec s).1, .int .i64 (dec s).2]) ∧ Below w.heap.size w w' := by
 go_enter Tryz.func60, Tryz.ntmps60
 go_wp2
 go_loopw [4] (fun f w' => ∃ pos : Nat, w' = w.iter s pos ∧ ((pos = 0 ∧ f = .int .i32 0) ∨ (0 < s.size ∧ pos = (Utf8.decode s 0).2 ∧ f = .int .i32 (Utf8.decode s 0).1))) (fun _ w' => s.size - w'.iterPos w.heap.size)
 case atStart => exact ⟨0, rfl, .inl ⟨rfl, rfl⟩⟩
 case round =>
  obtain ⟨pos, rfl, hc⟩ := hrel
  rcases hc with ⟨rfl, rfl⟩ | ⟨h0, rfl, rfl⟩
  ·by_cases hp : 0 < s.size
   ·have hnx : ∀ ty, (Instr.next (.pointer (some ⟨w.heap.size, 0, none⟩)) true ty).run Tryz.prog (w.iter s 0) = _ := fun ty => run_next_any w s 0 ty hp
    go_wp2
    go_roundw
    case rel => exact ⟨_, rfl, .inr ⟨hp, by omega, rfl⟩⟩
    case measure =>
     have := wid_pos s 0
     simp
     omega
   ·have hnx : ∀ ty, (Instr.next (.pointer (some ⟨w.heap.size, 0, none⟩)) true ty).run Tryz.prog (w.iter s 0) = _ := fun ty => run_next_end w s 0 ty hp
    go_wp2
    go_ret2
    rw [dec_nil s (by omega)]
    exact ⟨ret_dec rfl (by omega), iter_below _ _ _⟩
  ·have hw := wid_pos s 0
   by_cases hp : (Utf8.decode s 0).2 < s.size
   ·have hnx : ∀ ty, (Instr.next (.pointer (some ⟨w.heap.size, 0, none⟩)) true ty).run Tryz.prog (w.iter s (Utf8.decode s 0).2) = _ := fun ty => run_next_any w s _ ty hp
    go_wp2
    go_ret2
    rw [dec_ne s h0]
    exact ⟨rfl, iter_below _ _ _⟩
   ·have hnx : ∀ ty, (Instr.next (.pointer (some ⟨w.heap.size, 0, none⟩)) true ty).run Tryz.prog (w.iter s (Utf8.decode s 0).2) = _ := fun ty => run_next_end w s _ ty hp
    have hl := wid_le s 0 h0
    go_wp2
    go_ret2
    rw [dec_ne s h0]
    exact ⟨ret_dec rfl (by omega), iter_below _ _ _⟩
end Go.Proofs.YtjalgdfnehgocaaGreatDoor
