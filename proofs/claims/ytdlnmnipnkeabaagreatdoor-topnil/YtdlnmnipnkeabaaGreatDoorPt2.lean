/- XRow, XWalkA, XWalkB, XWalkC: these texts in one. -/
import Derived.Test.YtdlnmnipnkeabaaGreatDoorProg
import Derived.Test.YtdlnmnipnkeabaaGreatDoorPt1
import Derived.Lib.MapLaws
import Derived.Deep.LoopGhost
import Derived.Deep.RegionWith
import Derived.Maps.AppendAt
import Derived.Deep.DeepCutAuto
import Derived.Deep.CutBlock
import Derived.Deep.MidRow
import Derived.Deep.Upon
import Derived.Handy
import Derived.LoopN
namespace Go.Proofs.YtdlnmnipnkeabaaGreatDoor
open Go.RowKit
set_option linter.unusedVariables false
set_option linter.unusedSimpArgs false
structure Sl where
 a : Option Addr
 n : Nat
 c : Nat
def Sl.v (s : Sl) : Value := .slice s.a s.n s.c
def Sl.no : Sl := ⟨none, 0, 0⟩
structure Ds where
 k : Int
 ty : ByteArray
 bi : Int
 im : Int
 tx : ByteArray
 ns : Sl
 ps : Sl
 hk : Int
def Ds.v (d : Ds) : List Value := [.int .i64 d.k, .string d.ty, .int .u64 d.bi, .int .u64 d.im, .string d.tx, .slice d.ns.a d.ns.n d.ns.c, .slice d.ps.a d.ps.n d.ps.c, .int .i64 d.hk]
def Ds.no : Ds := ⟨0, ⟨#[]⟩, 0, 0, ⟨#[]⟩, .no, .no, 0⟩
structure Ac where
 k : Int
 t : ByteArray
 f : ByteArray
 l : Sl
 p : Ds
def Ac.v (x : Ac) : List Value := [.int .i64 x.k, .string x.t, .string x.f, .slice x.l.a x.l.n x.l.c] ++ x.p.v
def Ac.no : Ac := ⟨0, ⟨#[]⟩, ⟨#[]⟩, .no, .no⟩
structure Hk where
 a : Ac
 b : Ac
 c : Ac
 d : Ac
def Hk.v (h : Hk) : List Value := h.a.v ++ (h.b.v ++ (h.c.v ++ h.d.v))
theorem Ds.len (d : Ds) : d.v.length = 8 := rfl
theorem Ac.len (x : Ac) : x.v.length = 12 := rfl
theorem Hk.len (h : Hk) : h.v.length = 48 := rfl
theorem Ds.one (d : Ds) : ∀ v ∈ d.v, v.oneCell' = true := by
 intro v hv
 simp only [Ds.v, List.mem_cons, List.not_mem_nil, or_false] at hv
 rcases hv with rfl | rfl | rfl | rfl | rfl | rfl | rfl | rfl <;> rfl
theorem Ac.one (x : Ac) : ∀ v ∈ x.v, v.oneCell' = true := by
 intro v hv
 simp only [Ac.v, List.mem_append, List.mem_cons, List.not_mem_nil, or_false] at hv
 rcases hv with (rfl | rfl | rfl | rfl) | hv
 ·rfl
 ·rfl
 ·rfl
 ·rfl
 ·exact x.p.one v hv
theorem Hk.one (h : Hk) : ∀ v ∈ h.v, v.oneCell' = true := by
 intro v hv
 simp only [Hk.v, List.mem_append] at hv
 rcases hv with hv | hv | hv | hv
 ·exact h.a.one v hv
 ·exact h.b.one v hv
 ·exact h.c.one v hv
 ·exact h.d.one v hv
structure Blk (w : World) (B : Nat) (vs : List Value) : Prop where
 c : ∀ i v, vs[i]? = some v → w.cell? ⟨B, i, none⟩ = some v
 z : ∀ i, w.frozen? ⟨B, i, none⟩ = false
 b : B < w.heap.size
theorem Blk.up {w w' : World} {B : Nat} {vs : List Value} (h : Blk w B vs) (hb : Below w.heap.size w w') : Blk w' B vs :=
 ⟨fun i v hv => (hb.cell (p := ⟨B, i, none⟩) h.b).trans (h.c i v hv), fun i => (hb.frozen (p := ⟨B, i, none⟩) h.b).trans (h.z i), Nat.lt_of_lt_of_le h.b hb.size⟩
theorem Blk.grown {w w' : World} {B : Nat} {vs : List Value} {R : Nat} (h : Blk w B vs) (hg : w.grownBy w' (some R)) (hne : B ≠ R) : Blk w' B vs := by
 have hB := hg.block B h.b (by simpa using hne)
 exact ⟨fun i v hv => (World.cell?_of_block (w := w) (a := ⟨B, i, none⟩) hB).trans (h.c i v hv), fun i => (World.frozen?_of_block (w := w) (a := ⟨B, i, none⟩) hB).trans (h.z i), Nat.lt_of_lt_of_le h.b hg.size⟩
theorem Blk.new (w : World) (vs : List Value) (t : TypeId) : Blk (w.alloc (.cells vs.toArray t)) w.heap.size vs :=
 ⟨fun i v hv => by simp [hv], fun i => by simp, by simp⟩
theorem Blk.alloc {w : World} {B : Nat} {vs : List Value} (h : Blk w B vs) (o : Obj) : Blk (w.alloc o) B vs := h.up ((Below.refl _ _).alloc (Nat.le_refl _) _)
theorem Blk.mid {w : World} {B : Nat} {p cs q : List Value} (h : Blk w B (p ++ (cs ++ q))) {o : Nat} (ho : p.length = o) : w.rangeAt B o cs := fun j v hv => by
 subst ho
 refine h.c _ v ?_
 rw [List.getElem?_append_right (by omega), Nat.add_sub_cancel_left, List.getElem?_append_left]
 ·exact hv
 ·exact (List.getElem?_eq_some_iff.1 hv).1
theorem Blk.range {w : World} {B : Nat} {vs : List Value} (h : Blk w B vs) : w.rangeAt B 0 vs := fun j v hv => by rw [Nat.zero_add]; exact h.c j v hv
theorem Blk.there {w : World} {B : Nat} {vs : List Value} (h : Blk w B vs) : w.there B 0 vs.length := fun j hj => by
 rw [Nat.zero_add]
 exact ⟨by rw [h.c j _ (List.getElem?_eq_getElem hj)]; rfl, h.z j⟩
theorem xsc_size (w : World) (b : Nat) : ∀ (vs : List Value) (o : Nat), (w.setCells b o vs).heap.size = w.heap.size := by
 intro vs
 induction vs generalizing w with
 | nil => intro o; rfl
 | cons v r ih => intro o; rw [World.setCells, ih]; simp [World.setCell]
theorem xsc_heap (b k : Nat) (hk : k ≠ b) : ∀ (vs : List Value) (w : World) (o : Nat), (w.setCells b o vs).heap[k]? = w.heap[k]?
 | [], _, _ => rfl
 | v :: r, w, o => by rw [World.setCells, xsc_heap b k hk r, Below.heap_setCell _ _ _ _ hk]
theorem xsc_rest (b : Nat) : ∀ (vs : List Value) (w : World) (o : Nat), (w.setCells b o vs).os = w.os ∧ (w.setCells b o vs).tape = w.tape ∧ (w.setCells b o vs).output = w.output
 | [], _, _ => ⟨rfl, rfl, rfl⟩
 | v :: r, w, o => by
   rw [World.setCells]
   obtain ⟨h1, h2, h3⟩ := xsc_rest b r (w.setCell ⟨b, o, none⟩ v) (o + 1)
   exact ⟨h1, h2, h3⟩
theorem xbelow_sc {N : Nat} {w w' : World} {B : Nat} (h : Below N w w') (hB : N ≤ B) (o : Nat) (vs : List Value) : Below N w (w'.setCells B o vs) := by
 obtain ⟨h1, h2, h3⟩ := xsc_rest B vs w' o
 exact ⟨h1.trans h.os, h2.trans h.tape, h3.trans h.output, by rw [xsc_size]; exact h.size, fun k hk => by rw [xsc_heap B k (by omega)]; exact h.block k hk⟩
theorem Blk.all {w : World} {B : Nat} {vs : List Value} (h : Blk w B vs) (us : List Value) (hl : us.length = vs.length) : Blk (w.setCells B 0 us) B us := by
 refine ⟨fun i v hv => ?_, fun i => (World.frozen?_setCells _ _ _ _ _).trans (h.z i), by rw [xsc_size]; exact h.b⟩
 have := World.rangeAt_setCells_same w B 0 us (by rw [hl]; exact h.there) i v hv
 rwa [Nat.zero_add] at this
theorem Blk.oth {w : World} {B B' : Nat} {vs : List Value} (h : Blk w B vs) (hne : B' ≠ B) (o : Nat) (us : List Value) : Blk (w.setCells B' o us) B vs := by
 have hB := xsc_heap B' B hne.symm us w o
 exact ⟨fun i u hu => (World.cell?_of_block (w := w) (a := ⟨B, i, none⟩) hB).trans (h.c i u hu), fun i => (World.frozen?_of_block (w := w) (a := ⟨B, i, none⟩) hB).trans (h.z i), by rw [xsc_size]; exact h.b⟩
def Row (t n : Nat) : Prop := (∃ d, Tryz.prog.underlying t = some d ∧ d.isRow = true) ∧ (Tryz.prog.info? t).map (·.size) = some n
theorem row_Desc : Row 29 8 := ⟨⟨_, Tryz.underlying29, rfl⟩, by kernel_rfl⟩
theorem row_Act : Row 31 12 := ⟨⟨_, Tryz.underlying31, rfl⟩, by kernel_rfl⟩
theorem row_Hook : Row 34 48 := ⟨⟨_, Tryz.underlying34, rfl⟩, by kernel_rfl⟩
theorem row_script : Row 288 13 := ⟨⟨_, Tryz.underlying288, rfl⟩, by kernel_rfl⟩
theorem row_thrown : Row 328 8 := ⟨⟨_, Tryz.underlying328, rfl⟩, by kernel_rfl⟩
theorem row_Spec : Row 113 8 := ⟨⟨_, Tryz.underlying113, rfl⟩, by kernel_rfl⟩
theorem wpl_ld {ops : Array Oper} {rest : List Oper} {op : Oper} {a : Act} {w : World} {Q : Exit → Act → World → Prop} {t n : Nat} (hr : Row t n) (hgd : op.guard = none) (x : Operand) (ho : op.op = .load t x) {B o : Nat} {vs : List Value}
  (hx : a.eval x = .pointer (some ⟨B, o, none⟩)) (hB : w.rangeAt B o vs) (hl : vs.length = n)
  (h : wpList Tryz.prog ops Q rest (a.put op.dst (.agg vs.toArray)) w) : wpList Tryz.prog ops Q (op :: rest) a w := by
 obtain ⟨⟨d, h1, h2⟩, h3⟩ := hr
 exact wpList_load_mid hgd t x ho B o hx vs d hB h1 h2 (by rw [hl]; exact h3) h
theorem wpl_st {ops : Array Oper} {rest : List Oper} {op : Oper} {a : Act} {w : World} {Q : Exit → Act → World → Prop} {t n : Nat} (hr : Row t n) (hgd : op.guard = none) (x y : Operand) (ho : op.op = .store t x y) {B : Nat} {vs us : List Value}
  (hx : a.eval x = .pointer (some ⟨B, 0, none⟩)) (hy : a.eval y = .agg us.toArray) (hB : Blk w B vs) (hl : vs.length = n) (hu : us.length = n) (h1 : ∀ v ∈ us, v.oneCell' = true)
  (h : wpList Tryz.prog ops Q rest (a.put op.dst undef) (w.setCells B 0 us)) : wpList Tryz.prog ops Q (op :: rest) a w := by
 refine wpList_store_mid hgd t x y ho B 0 us.toArray hx hy (by have := hB.there; rw [hl] at this; simpa [hu] using this) (by simp [hu, hr.2]) (all_oneCell_toArray h1) ?_
 simpa using h
theorem wpl_bld {ops : Array Oper} {rest : List Oper} {op : Oper} {a : Act} {w : World} {Q : Exit → Act → World → Prop} (hgd : op.guard = none) (t : TypeId) (parts : Array (Nat × Operand)) (ho : op.op = .build t parts) {V : Value} (ps : List (Nat × Value))
  (hx : parts.toList.map (fun x => (x.1, a.eval x.2)) = ps) (hb : (Instr.build t ps.toArray).run Tryz.prog w = .ok V w)
  (h : wpList Tryz.prog ops Q rest (a.put op.dst V) w) : wpList Tryz.prog ops Q (op :: rest) a w := by
 have hx' : (parts.map fun (i, x) => (i, a.eval x)) = ps.toArray := by
  rw [← hx]
  apply Array.ext'
  simp
 refine wpList_plain hgd fun K hK => ?_
 unfold Oper.wp execOp
 simp only [ho, hx', hb, Sem.run_bind, Sem.run_pure, Result.andThen_ok]
 exact hK _ _ h
theorem bld_script0 (x : Ac) (w : World) : (Instr.build 288 #[(0, .agg x.v.toArray)]).run Tryz.prog w = .ok (.agg (x.v ++ [Value.nilFunc]).toArray) w := by
 obtain ⟨k, t, f, ⟨la, ln, lc⟩, ⟨a0, a1, a2, a3, a4, ⟨na, nn, nc⟩, ⟨pa, pn, pc⟩, a7⟩⟩ := x
 kernel_rfl
theorem bld_script1 (x : Ac) (g : Value) (hg : ∃ f a b, g = .func f a b) (w : World) : (Instr.build 288 #[(0, .agg x.v.toArray), (1, g)]).run Tryz.prog w = .ok (.agg (x.v ++ [g]).toArray) w := by
 obtain ⟨k, t, f, ⟨la, ln, lc⟩, ⟨a0, a1, a2, a3, a4, ⟨na, nn, nc⟩, ⟨pa, pn, pc⟩, a7⟩⟩ := x
 obtain ⟨f, a, b, rfl⟩ := hg
 kernel_rfl
theorem res_row {t n s : Nat} (hw : Row t n) {f : Func} (hr : f.results = #[.cell s t]) {tmps : Array Value} {w : World} {B : Nat} {vs : List Value} (ht : tmps.getD s undef = .pointer (some ⟨B, 0, none⟩)) (h : Blk w B vs) (hl : vs.length = n) : (results f tmps).run Tryz.prog w = .ok (.agg vs.toArray) w := by
 obtain ⟨⟨d, h1, h2⟩, h3⟩ := hw
 have hL := run_loadVar_mid (P := Tryz.prog) w B 0 t vs d h.range h1 h2 (by rw [hl]; exact h3)
 have ht' : tmps[s]?.getD undef = .pointer (some ⟨B, 0, none⟩) := by simpa using ht
 simp [results, hr, ht', hL, asAddr]
theorem fneq_t (f : Fn) (a c : Array Value) (w : World) : (binOp BinOp.neq 45 (.func f a c) .nilFunc).run Tryz.prog w = .ok (.bool true) w := by kernel_rfl
theorem fneq_n (w : World) : (binOp BinOp.neq 45 .nilFunc .nilFunc).run Tryz.prog w = .ok (.bool false) w := by kernel_rfl
theorem feql_fstr (f : Fn) (a c : Array Value) (w : World) : (binOp BinOp.eql 45 (.func f a c) .nilFunc).run Tryz.prog w = .ok (.bool false) w := by kernel_rfl
end Go.Proofs.YtdlnmnipnkeabaaGreatDoor
namespace Go.Proofs.YtdlnmnipnkeabaaGreatDoor
open Go.RowKit
set_option linter.unusedVariables false
set_option linter.unusedSimpArgs false
def doV (x : Ac) (g : Value) : Value :=
 if x.k = 1 then .func (.func 229) #[.agg (x.v ++ [g]).toArray] #[] else if x.k = 2 then .func (.func 230) #[.agg (x.v ++ [g]).toArray] #[] else if x.k = 3 then .func (.func 231) #[.agg (x.v ++ [g]).toArray] #[] else .nilFunc
set_option maxRecDepth 1000000 in
set_option maxHeartbeats 2000000 in
theorem does_any (x : Ac) (g : Value) (w : World) : Calls Tryz.prog 184 #[.agg (x.v ++ [g]).toArray] w fun e w' => e = .returned (doV x g) ∧ Below w.heap.size w w' := by
 obtain ⟨L, hL⟩ : ∃ L, L = x.v ++ [g] := ⟨_, rfl⟩
 have hl : L.length = 13 := by rw [hL]; simp [x.len]
 have h0 : L[0]? = some (.int .i64 x.k) := by rw [hL]; rfl
 obtain ⟨W1, hW1⟩ : ∃ W1, W1 = w.alloc (.cells L.toArray 288) := ⟨_, rfl⟩
 have hb : Blk W1 w.heap.size L := by rw [hW1]; exact Blk.new _ _ _
 have hw1 : Below w.heap.size w W1 := by rw [hW1]; exact (Below.refl _ _).alloc (Nat.le_refl _) _
 have c0 := hb.c 0 _ h0
 have hv : doV x g = if x.k = 1 then .func (.func 229) #[.agg L.toArray] #[] else if x.k = 2 then .func (.func 230) #[.agg L.toArray] #[] else if x.k = 3 then .func (.func 231) #[.agg L.toArray] #[] else .nilFunc := by rw [hL]; rfl
 rw [hv, ← hL]
 clear hL hv
 generalize x.k = k at *
 go_enter Tryz.func184, Tryz.ntmps184
 go_upto_region 1 with fail
 rw [← hW1]
 clear hW1
 by_cases e1 : k = 1
 ·subst e1
  go_wp2_with (refine wpl_ld row_script rfl (.tmp 1) rfl (vs := L) rfl hb.range hl ?_)
  go_ret
  exact ⟨rfl, hw1⟩
 ·by_cases e2 : k = 2
  ·subst e2
   go_wp2_with (refine wpl_ld row_script rfl (.tmp 1) rfl (vs := L) rfl hb.range hl ?_)
   go_ret
   exact ⟨rfl, hw1⟩
  ·by_cases e3 : k = 3
   ·subst e3
    go_wp2_with (refine wpl_ld row_script rfl (.tmp 1) rfl (vs := L) rfl hb.range hl ?_)
    go_ret
    exact ⟨rfl, hw1⟩
   ·go_wp2
    go_ret
    simp only [e1, e2, e3, if_false]
    exact ⟨rfl, hw1⟩
def thB (x : Ac) : Bool := x.k == 1 || x.k == 2 || x.k == 3
theorem thB_dec (x : Ac) : thB x = decide (x.k = 1 ∨ x.k = 2 ∨ x.k = 3) := by
 unfold thB
 by_cases e1 : x.k = 1 <;> by_cases e2 : x.k = 2 <;> by_cases e3 : x.k = 3 <;> simp [e1, e2, e3]
theorem doV_th (x : Ac) (g : Value) (h : thB x = true) : ∃ f, doV x g = .func (.func f) #[.agg (x.v ++ [g]).toArray] #[] := by
 rw [thB_dec] at h
 have h' := of_decide_eq_true h
 unfold doV
 by_cases e1 : x.k = 1
 ·exact ⟨_, if_pos e1⟩
 ·by_cases e2 : x.k = 2
  ·rw [if_neg e1, if_pos e2]; exact ⟨_, rfl⟩
  ·have e3 : x.k = 3 := by omega
   rw [if_neg e1, if_neg e2, if_pos e3]; exact ⟨_, rfl⟩
theorem doV_no (x : Ac) (g : Value) (h : thB x = false) : doV x g = .nilFunc := by
 rw [thB_dec] at h
 have h' := of_decide_eq_false h
 unfold doV
 rw [if_neg (fun e => h' (.inl e)), if_neg (fun e => h' (.inr (.inl e))), if_neg (fun e => h' (.inr (.inr e)))]
set_option maxRecDepth 1000000 in
set_option maxHeartbeats 2000000 in
theorem there_any (x : Ac) (w : World) : Calls Tryz.prog 181 #[.agg x.v.toArray] w fun e w' => e = .returned (.bool (thB x)) ∧ Below w.heap.size w w' := by
 obtain ⟨L, hL⟩ : ∃ L, L = x.v := ⟨_, rfl⟩
 obtain ⟨M, hM⟩ : ∃ M, M = x.v ++ [Value.nilFunc] := ⟨_, rfl⟩
 have hl : L.length = 12 := by rw [hL]; exact x.len
 have hN := doV_no x .nilFunc
 have hT := doV_th x .nilFunc
 rw [← hM] at hT
 rw [← hL]
 have hD : ∀ w, Calls Tryz.prog 184 #[.agg M.toArray] w fun e w' => e = .returned (doV x .nilFunc) ∧ Below w.heap.size w w' := by rw [hM]; exact fun w => does_any x .nilFunc w
 have hB : ∀ w, (Instr.build 288 #[(0, .agg L.toArray)]).run Tryz.prog w = .ok (.agg M.toArray) w := by rw [hL, hM]; exact fun w => bld_script0 x w
 obtain ⟨W1, hW1⟩ : ∃ W1, W1 = w.alloc (.cells L.toArray 31) := ⟨_, rfl⟩
 have hb : Blk W1 w.heap.size L := by rw [hW1]; exact Blk.new _ _ _
 have hw1 : Below w.heap.size w W1 := by rw [hW1]; exact (Below.refl _ _).alloc (Nat.le_refl _) _
 clear hL hM
 cases hq : thB x with
 | true =>
   obtain ⟨f, hf⟩ := hT hq
   rw [hf] at hD
   clear hf hq hT hN
   have hn := fun w => fneq_t (.func f) #[.agg M.toArray] #[] w
   go_enter Tryz.func181, Tryz.ntmps181
   go_upto_region 1 with fail
   rw [← hW1]
   clear hW1
   go_wp2_with (first
    | (refine wpl_ld row_Act rfl (.tmp 1) rfl (vs := L) rfl hb.range hl ?_)
    | (refine wpl_bld rfl _ _ rfl [(0, .agg L.toArray)] rfl (hB _) ?_)
    | (go_at_call 184; refine (hD _).mono ?_; rintro e w2 ⟨rfl, h2⟩))
   go_ret
   exact ⟨rfl, hw1.trans (h2.mono hw1.size)⟩
 | false =>
   rw [hN hq] at hD
   clear hq hT hN
   have hn := fun w => fneq_n w
   go_enter Tryz.func181, Tryz.ntmps181
   go_upto_region 1 with fail
   rw [← hW1]
   clear hW1
   go_wp2_with (first
    | (refine wpl_ld row_Act rfl (.tmp 1) rfl (vs := L) rfl hb.range hl ?_)
    | (refine wpl_bld rfl _ _ rfl [(0, .agg L.toArray)] rfl (hB _) ?_)
    | (go_at_call 184; refine (hD _).mono ?_; rintro e w2 ⟨rfl, h2⟩))
   go_ret
   exact ⟨rfl, hw1.trans (h2.mono hw1.size)⟩
def hat (h : Hk) (n : Int) : Ac := if n = 1 then h.a else if n = 2 then h.b else if n = 3 then h.c else if n = 4 then h.d else .no
theorem hk_a {h : Hk} {w : World} {B : Nat} (hb : Blk w B h.v) : w.rangeAt B 0 h.a.v := by
 have := hb; unfold Hk.v at this
 exact Blk.mid (p := []) this rfl
theorem hk_b {h : Hk} {w : World} {B : Nat} (hb : Blk w B h.v) : w.rangeAt B 12 h.b.v := by
 have := hb; unfold Hk.v at this
 exact Blk.mid (p := h.a.v) this rfl
theorem hk_c {h : Hk} {w : World} {B : Nat} (hb : Blk w B h.v) : w.rangeAt B 24 h.c.v := by
 have := hb; unfold Hk.v at this
 rw [← List.append_assoc] at this
 exact Blk.mid (p := h.a.v ++ h.b.v) this rfl
theorem hk_d {h : Hk} {w : World} {B : Nat} (hb : Blk w B h.v) : w.rangeAt B 36 h.d.v := by
 have := hb; unfold Hk.v at this
 rw [← List.append_assoc, ← List.append_assoc, ← List.append_nil h.d.v] at this
 exact Blk.mid (p := (h.a.v ++ h.b.v) ++ h.c.v) this rfl
theorem bld_act0 (w : World) : (Instr.build 31 #[]).run Tryz.prog w = .ok (.agg Ac.no.v.toArray) w := by kernel_rfl
set_option maxRecDepth 1000000 in
set_option maxHeartbeats 4000000 in
theorem act_any (h : Hk) (n : Int) (w : World) : Calls Tryz.prog 143 #[.agg h.v.toArray, .int .i64 n] w fun e w' => e = .returned (.agg (hat h n).v.toArray) ∧ Below w.heap.size w w' := by
 obtain ⟨L, hL⟩ : ∃ L, L = h.v := ⟨_, rfl⟩
 obtain ⟨W1, hW1⟩ : ∃ W1, W1 = (w.alloc (.cells L.toArray 34)).alloc (.cells #[.int .i64 0, .string ⟨#[]⟩, .string ⟨#[]⟩, .slice none 0 0, .int .i64 0, .string ⟨#[]⟩, .int .u64 0, .int .u64 0, .string ⟨#[]⟩, .slice none 0 0, .slice none 0 0, .int .i64 0] 31) := ⟨_, rfl⟩
 have hb : Blk W1 w.heap.size h.v := by rw [hW1, hL]; exact (Blk.new _ _ _).alloc _
 have hr : Blk W1 (w.heap.size + 1) Ac.no.v := by
  rw [hW1]
  have := Blk.new (w.alloc (.cells L.toArray 34)) Ac.no.v 31
  rw [show (w.alloc (.cells L.toArray 34)).heap.size = w.heap.size + 1 by simp] at this
  exact this
 have hw1 : Below w.heap.size w W1 := by rw [hW1]; exact ((Below.refl _ _).alloc (Nat.le_refl _) _).alloc (by simp) _
 have fin : ∀ x : Ac, Blk (W1.setCells (w.heap.size + 1) 0 x.v) (w.heap.size + 1) x.v ∧ Below w.heap.size w (W1.setCells (w.heap.size + 1) 0 x.v) := fun x => ⟨hr.all _ rfl, xbelow_sc hw1 (by omega) _ _⟩
 rw [← hL]
 clear hL
 by_cases e1 : n = 1
 ·subst e1
  obtain ⟨X, hX⟩ : ∃ X, X = h.a := ⟨_, rfl⟩
  have hm := hk_a hb
  rw [← hX] at hm
  obtain ⟨f1, f2⟩ := fin X
  rw [show hat h 1 = X by rw [hX]; rfl]
  clear hX hb fin
  go_enter Tryz.func143, Tryz.ntmps143
  go_upto_region 1 with fail
  rw [← hW1]
  clear hW1
  go_wp2_with (first
   | (refine wpl_ld row_Act rfl (.tmp 8) rfl (vs := X.v) rfl hm X.len ?_)
   | (refine wpl_st row_Act rfl (.tmp 4) (.tmp 9) rfl (us := X.v) rfl rfl hr rfl X.len X.one ?_; generalize W1.setCells (w.heap.size + 1) 0 X.v = Wf at *))
  exact bodyPost_ret (res_row row_Act Tryz.results143 rfl f1 X.len) rfl ⟨rfl, f2⟩
 ·skip
  by_cases e2 : n = 2
  ·subst e2
   obtain ⟨X, hX⟩ : ∃ X, X = h.b := ⟨_, rfl⟩
   have hm := hk_b hb
   rw [← hX] at hm
   obtain ⟨f1, f2⟩ := fin X
   rw [show hat h 2 = X by rw [hX]; rfl]
   clear hX hb fin
   go_enter Tryz.func143, Tryz.ntmps143
   go_upto_region 1 with fail
   rw [← hW1]
   clear hW1
   go_wp2_with (first
    | (refine wpl_ld row_Act rfl (.tmp 12) rfl (vs := X.v) rfl hm X.len ?_)
    | (refine wpl_st row_Act rfl (.tmp 4) (.tmp 13) rfl (us := X.v) rfl rfl hr rfl X.len X.one ?_; generalize W1.setCells (w.heap.size + 1) 0 X.v = Wf at *))
   exact bodyPost_ret (res_row row_Act Tryz.results143 rfl f1 X.len) rfl ⟨rfl, f2⟩
  ·skip
   by_cases e3 : n = 3
   ·subst e3
    obtain ⟨X, hX⟩ : ∃ X, X = h.c := ⟨_, rfl⟩
    have hm := hk_c hb
    rw [← hX] at hm
    obtain ⟨f1, f2⟩ := fin X
    rw [show hat h 3 = X by rw [hX]; rfl]
    clear hX hb fin
    go_enter Tryz.func143, Tryz.ntmps143
    go_upto_region 1 with fail
    rw [← hW1]
    clear hW1
    go_wp2_with (first
     | (refine wpl_ld row_Act rfl (.tmp 16) rfl (vs := X.v) rfl hm X.len ?_)
     | (refine wpl_st row_Act rfl (.tmp 4) (.tmp 17) rfl (us := X.v) rfl rfl hr rfl X.len X.one ?_; generalize W1.setCells (w.heap.size + 1) 0 X.v = Wf at *))
    exact bodyPost_ret (res_row row_Act Tryz.results143 rfl f1 X.len) rfl ⟨rfl, f2⟩
   ·skip
    by_cases e4 : n = 4
    ·subst e4
     obtain ⟨X, hX⟩ : ∃ X, X = h.d := ⟨_, rfl⟩
     have hm := hk_d hb
     rw [← hX] at hm
     obtain ⟨f1, f2⟩ := fin X
     rw [show hat h 4 = X by rw [hX]; rfl]
     clear hX hb fin
     go_enter Tryz.func143, Tryz.ntmps143
     go_upto_region 1 with fail
     rw [← hW1]
     clear hW1
     go_wp2_with (first
      | (refine wpl_ld row_Act rfl (.tmp 20) rfl (vs := X.v) rfl hm X.len ?_)
      | (refine wpl_st row_Act rfl (.tmp 4) (.tmp 21) rfl (us := X.v) rfl rfl hr rfl X.len X.one ?_; generalize W1.setCells (w.heap.size + 1) 0 X.v = Wf at *))
     exact bodyPost_ret (res_row row_Act Tryz.results143 rfl f1 X.len) rfl ⟨rfl, f2⟩
    ·skip
     obtain ⟨f1, f2⟩ := fin .no
     rw [show hat h n = .no by unfold hat; rw [if_neg e1, if_neg e2, if_neg e3, if_neg e4]]
     clear fin hb
     go_enter Tryz.func143, Tryz.ntmps143
     go_upto_region 1 with fail
     rw [← hW1]
     clear hW1
     go_wp2_with (first
      | (refine wpl_bld rfl _ _ rfl [] rfl (bld_act0 _) ?_)
      | (refine wpl_st row_Act rfl (.tmp 4) (.tmp 22) rfl (us := Ac.no.v) rfl rfl hr rfl rfl Ac.no.one ?_; generalize W1.setCells (w.heap.size + 1) 0 Ac.no.v = Wf at *))
     exact bodyPost_ret (res_row row_Act Tryz.results143 rfl f1 rfl) rfl ⟨rfl, f2⟩
end Go.Proofs.YtdlnmnipnkeabaaGreatDoor
namespace Go.Proofs.YtdlnmnipnkeabaaGreatDoor
open Go.RowKit
set_option linter.unusedVariables false
set_option linter.unusedSimpArgs false
def hnmB (v : Int) : Bool := v == 118 || v == 115 || v == 120 || v == 88 || v == 113
set_option maxRecDepth 1000000 in
theorem takes_any (v : Int) (w : World) : Calls Tryz.prog 183 #[.int .i32 v] w fun e w' => e = .returned (.bool (hnmB v)) ∧ w' = w := by
 by_cases e1 : v = 118
 ·subst e1
  go_enter Tryz.func183, Tryz.ntmps183
  go_wp2
  go_ret
  exact ⟨rfl, rfl⟩
 ·by_cases e2 : v = 115
  ·subst e2
   go_enter Tryz.func183, Tryz.ntmps183
   go_wp2
   go_ret
   exact ⟨rfl, rfl⟩
  ·by_cases e3 : v = 120
   ·subst e3
    go_enter Tryz.func183, Tryz.ntmps183
    go_wp2
    go_ret
    exact ⟨rfl, rfl⟩
   ·by_cases e4 : v = 88
    ·subst e4
     go_enter Tryz.func183, Tryz.ntmps183
     go_wp2
     go_ret
     exact ⟨rfl, rfl⟩
    ·by_cases e5 : v = 113
     ·subst e5
      go_enter Tryz.func183, Tryz.ntmps183
      go_wp2
      go_ret
      exact ⟨rfl, rfl⟩
     ·go_enter Tryz.func183, Tryz.ntmps183
      go_wp2
      go_ret
      rw [show hnmB v = false by simp [hnmB, e1, e2, e3, e4, e5]]
      exact ⟨rfl, rfl⟩
def fst2 (h : Hk) : Int := if thB h.b then 2 else 0
def fst34 (h : Hk) : Int := if thB h.c then 3 else if thB h.d then 4 else 0
set_option maxRecDepth 1000000 in
set_option maxHeartbeats 4000000 in
theorem first2_any (h : Hk) (g : Nat) (w : World) (hc : w.cell? ⟨g, 0, none⟩ = some (.int .i64 2)) (hg : g < w.heap.size) : Calls Tryz.prog 182 #[.agg h.v.toArray, .slice (some ⟨g, 0, none⟩) 1 1] w fun e w' => e = .returned (.int .i64 (fst2 h)) ∧ Below w.heap.size w w' := by
 have hA : ∀ w, Calls Tryz.prog 143 #[.agg h.v.toArray, .int .i64 2] w fun e w' => e = .returned (.agg h.b.v.toArray) ∧ Below w.heap.size w w' := fun w => act_any h 2 w
 have hT := fun w => there_any h.b w
 have HF : Hid (fst2 h = if thB h.b then 2 else 0) := rfl
 obtain ⟨W1, hW1⟩ : ∃ W1, W1 = w.alloc (.cells h.v.toArray 34) := ⟨_, rfl⟩
 have hb : Blk W1 w.heap.size h.v := by rw [hW1]; exact Blk.new _ _ _
 have hw1 : Below w.heap.size w W1 := by rw [hW1]; exact (Below.refl _ _).alloc (Nat.le_refl _) _
 have c1 : W1.cell? ⟨g, 0, none⟩ = some (.int .i64 2) := (hw1.cell (p := ⟨g, 0, none⟩) hg).trans hc
 generalize thB h.b = b at *
 generalize h.b.v = lb at *
 have hl : h.v.length = 48 := h.len
 generalize h.v = L at *
 cases b
 ·go_enter Tryz.func182, Tryz.ntmps182
  go_upto_region 1 with fail
  rw [← hW1]
  clear hW1
  go_wp2
  refine wp_loop_rounds 2 ?_
  rw [rounds_succ]
  go_wp2_with (first
   | (refine wpl_ld row_Hook rfl (.tmp 2) rfl (vs := L) rfl hb.range hl ?_)
   | (go_at_call 143; refine (hA _).mono ?_; rintro e w2 ⟨rfl, h2⟩)
   | (go_at_call 181; refine (hT _).mono ?_; rintro e w3 ⟨rfl, h3⟩))
  rw [rounds_succ]
  go_wp2
  go_ret
  rw [HF.out]
  exact ⟨rfl, hw1.trans ((h2.trans (h3.mono h2.size)).mono hw1.size)⟩
 ·go_enter Tryz.func182, Tryz.ntmps182
  go_upto_region 1 with fail
  rw [← hW1]
  clear hW1
  go_wp2
  refine wp_loop_rounds 2 ?_
  rw [rounds_succ]
  go_wp2_with (first
   | (refine wpl_ld row_Hook rfl (.tmp 2) rfl (vs := L) rfl hb.range hl ?_)
   | (go_at_call 143; refine (hA _).mono ?_; rintro e w2 ⟨rfl, h2⟩)
   | (go_at_call 181; refine (hT _).mono ?_; rintro e w3 ⟨rfl, h3⟩))
  go_ret
  rw [HF.out]
  exact ⟨rfl, hw1.trans ((h2.trans (h3.mono h2.size)).mono hw1.size)⟩
set_option maxRecDepth 1000000 in
set_option maxHeartbeats 4000000 in
theorem first34_any (h : Hk) (g : Nat) (w : World) (hc : w.cell? ⟨g, 0, none⟩ = some (.int .i64 3)) (hc2 : w.cell? ⟨g, 1, none⟩ = some (.int .i64 4)) (hg : g < w.heap.size) : Calls Tryz.prog 182 #[.agg h.v.toArray, .slice (some ⟨g, 0, none⟩) 2 2] w fun e w' => e = .returned (.int .i64 (fst34 h)) ∧ Below w.heap.size w w' := by
 have hA : ∀ w, Calls Tryz.prog 143 #[.agg h.v.toArray, .int .i64 3] w fun e w' => e = .returned (.agg h.c.v.toArray) ∧ Below w.heap.size w w' := fun w => act_any h 3 w
 have hA4 : ∀ w, Calls Tryz.prog 143 #[.agg h.v.toArray, .int .i64 4] w fun e w' => e = .returned (.agg h.d.v.toArray) ∧ Below w.heap.size w w' := fun w => act_any h 4 w
 have hT := fun w => there_any h.c w
 have hT4 := fun w => there_any h.d w
 have HF : Hid (fst34 h = if thB h.c then 3 else if thB h.d then 4 else 0) := rfl
 obtain ⟨W1, hW1⟩ : ∃ W1, W1 = w.alloc (.cells h.v.toArray 34) := ⟨_, rfl⟩
 have hb : Blk W1 w.heap.size h.v := by rw [hW1]; exact Blk.new _ _ _
 have hw1 : Below w.heap.size w W1 := by rw [hW1]; exact (Below.refl _ _).alloc (Nat.le_refl _) _
 have c1 : W1.cell? ⟨g, 0, none⟩ = some (.int .i64 3) := (hw1.cell (p := ⟨g, 0, none⟩) hg).trans hc
 have hg1 : g < W1.heap.size := Nat.lt_of_lt_of_le hg hw1.size
 have c2 : W1.cell? ⟨g, 1, none⟩ = some (.int .i64 4) := (hw1.cell (p := ⟨g, 1, none⟩) hg).trans hc2
 generalize thB h.c = b at *
 generalize h.c.v = lb at *
 generalize thB h.d = b4 at *
 generalize h.d.v = lb4 at *
 have hl : h.v.length = 48 := h.len
 generalize h.v = L at *
 cases b
 ·cases b4
  ·skip
   go_enter Tryz.func182, Tryz.ntmps182
   go_upto_region 1 with fail
   rw [← hW1]
   clear hW1
   go_wp2
   refine wp_loop_rounds 3 ?_
   rw [rounds_succ]
   go_wp2_with (first
    | (refine wpl_ld row_Hook rfl (.tmp 2) rfl (vs := L) rfl hb.range hl ?_)
    | (go_at_call 143; refine (hA _).mono ?_; rintro e w2 ⟨rfl, h2⟩)
    | (go_at_call 181; refine (hT _).mono ?_; rintro e w3 ⟨rfl, h3⟩))
   have h4 : Below W1.heap.size W1 w3 := h2.trans (h3.mono h2.size)
   have hb4 := hb.up h4
   have c4 : w3.cell? ⟨g, 1, none⟩ = some (.int .i64 4) := (h4.cell (p := ⟨g, 1, none⟩) hg1).trans c2
   rw [rounds_succ]
   go_wp2_with (first
    | (refine wpl_ld row_Hook rfl (.tmp 2) rfl (vs := L) rfl hb4.range hl ?_)
    | (go_at_call 143; refine (hA4 _).mono ?_; rintro e w5 ⟨rfl, h5⟩)
    | (go_at_call 181; refine (hT4 _).mono ?_; rintro e w6 ⟨rfl, h6⟩))
   have h7 : Below W1.heap.size W1 w6 := h4.trans ((h5.trans (h6.mono h5.size)).mono h4.size)
   rw [rounds_succ]
   go_wp2
   go_ret
   rw [HF.out]
   exact ⟨rfl, hw1.trans (h7.mono hw1.size)⟩
  ·skip
   go_enter Tryz.func182, Tryz.ntmps182
   go_upto_region 1 with fail
   rw [← hW1]
   clear hW1
   go_wp2
   refine wp_loop_rounds 3 ?_
   rw [rounds_succ]
   go_wp2_with (first
    | (refine wpl_ld row_Hook rfl (.tmp 2) rfl (vs := L) rfl hb.range hl ?_)
    | (go_at_call 143; refine (hA _).mono ?_; rintro e w2 ⟨rfl, h2⟩)
    | (go_at_call 181; refine (hT _).mono ?_; rintro e w3 ⟨rfl, h3⟩))
   have h4 : Below W1.heap.size W1 w3 := h2.trans (h3.mono h2.size)
   have hb4 := hb.up h4
   have c4 : w3.cell? ⟨g, 1, none⟩ = some (.int .i64 4) := (h4.cell (p := ⟨g, 1, none⟩) hg1).trans c2
   rw [rounds_succ]
   go_wp2_with (first
    | (refine wpl_ld row_Hook rfl (.tmp 2) rfl (vs := L) rfl hb4.range hl ?_)
    | (go_at_call 143; refine (hA4 _).mono ?_; rintro e w5 ⟨rfl, h5⟩)
    | (go_at_call 181; refine (hT4 _).mono ?_; rintro e w6 ⟨rfl, h6⟩))
   have h7 : Below W1.heap.size W1 w6 := h4.trans ((h5.trans (h6.mono h5.size)).mono h4.size)
   go_ret
   rw [HF.out]
   exact ⟨rfl, hw1.trans (h7.mono hw1.size)⟩
 ·skip
  go_enter Tryz.func182, Tryz.ntmps182
  go_upto_region 1 with fail
  rw [← hW1]
  clear hW1
  go_wp2
  refine wp_loop_rounds 3 ?_
  rw [rounds_succ]
  go_wp2_with (first
   | (refine wpl_ld row_Hook rfl (.tmp 2) rfl (vs := L) rfl hb.range hl ?_)
   | (go_at_call 143; refine (hA _).mono ?_; rintro e w2 ⟨rfl, h2⟩)
   | (go_at_call 181; refine (hT _).mono ?_; rintro e w3 ⟨rfl, h3⟩))
  go_ret
  rw [HF.out]
  exact ⟨rfl, hw1.trans ((h2.trans (h3.mono h2.size)).mono hw1.size)⟩
end Go.Proofs.YtdlnmnipnkeabaaGreatDoor
namespace Go.Proofs.YtdlnmnipnkeabaaGreatDoor
open Go.RowKit
set_option linter.unusedVariables false
set_option linter.unusedSimpArgs false
def whN (h : Hk) (v : Int) (sh : Bool) : Int := if thB h.a = true then 1 else if v = 118 ∧ sh = true then fst2 h else if hnmB v = true then fst34 h else 0
set_option maxRecDepth 1000000 in
set_option maxHeartbeats 4000000 in
theorem which_any (h : Hk) (v : Int) (sh : Bool) (w : World) : Calls Tryz.prog 141 #[.agg h.v.toArray, .int .i32 v, .bool sh] w fun e w' => e = .returned (.int .i64 (whN h v sh)) ∧ Below w.heap.size w w' := by
 obtain ⟨W1, hW1⟩ : ∃ W1, W1 = w.alloc (.cells h.v.toArray 34) := ⟨_, rfl⟩
 have hb : Blk W1 w.heap.size h.v := by rw [hW1]; exact Blk.new _ _ _
 have hw1 : Below w.heap.size w W1 := by rw [hW1]; exact (Below.refl _ _).alloc (Nat.le_refl _) _
 have hl : h.v.length = 48 := h.len
 have hA := fun w => there_any h.a w
 have hm := hk_a hb
 have h2 := fun g w hc hg => first2_any h g w hc hg
 have h34 := fun g w hc hc2 hg => first34_any h g w hc hc2 hg
 have hN := fun w => takes_any v w
 have HW : Hid (whN h v sh = if thB h.a = true then 1 else if v = 118 ∧ sh = true then fst2 h else if hnmB v = true then fst34 h else 0) := rfl
 have hla := h.a.len
 generalize h.v = L at *
 generalize h.a.v = La at *
 generalize thB h.a = b at *
 generalize fst2 h = n2 at *
 generalize fst34 h = n34 at *
 generalize whN h v sh = R at *
 generalize hnm : hnmB v = nm at *
 cases b
 ·have k2 : ∀ w2, Below W1.heap.size W1 w2 → Blk w2 w.heap.size L ∧ Below w.heap.size w w2 := fun w2 q2 => ⟨hb.up q2, hw1.trans (q2.mono hw1.size)⟩
  by_cases e1 : v = 118
  ·subst e1
   obtain rfl : true = nm := hnm
   cases sh
   ·have HR : Hid (R = n34) := by rw [HW.out]; rfl
    go_enter Tryz.func141, Tryz.ntmps141
    go_upto_region 1 with fail
    rw [← hW1]
    clear hW1
    go_upto_region 3 with (first
     | (refine wpl_ld row_Act rfl (.tmp 8) rfl (vs := La) rfl hm hla ?_)
     | (go_at_call 181; refine (hA _).mono ?_; rintro e w2 ⟨rfl, q2⟩))
    obtain ⟨b2, w2'⟩ := k2 _ q2
    go_wp2_with (first
     | (go_at_call 183; refine (hN _).mono ?_; rintro e w4 ⟨rfl, q4⟩; subst q4)
     | (refine wpl_ld row_Hook rfl (.tmp 3) rfl (vs := L) rfl b2.range hl ?_)
     | (go_at_call 182; refine (h34 _ _ (by simp) (by simp) (by simp)).mono ?_; rintro e w3 ⟨rfl, q3⟩))
    go_ret
    rw [HR.out]
    exact ⟨rfl, w2'.trans (Below.mono (((Below.refl _ _).alloc (Nat.le_refl _) _).trans (q3.mono (by simp))) w2'.size)⟩
   ·have HR : Hid (R = n2) := by rw [HW.out]; rfl
    go_enter Tryz.func141, Tryz.ntmps141
    go_upto_region 1 with fail
    rw [← hW1]
    clear hW1
    go_upto_region 3 with (first
     | (refine wpl_ld row_Act rfl (.tmp 8) rfl (vs := La) rfl hm hla ?_)
     | (go_at_call 181; refine (hA _).mono ?_; rintro e w2 ⟨rfl, q2⟩))
    obtain ⟨b2, w2'⟩ := k2 _ q2
    go_wp2_with (first
     | (refine wpl_ld row_Hook rfl (.tmp 3) rfl (vs := L) rfl b2.range hl ?_)
     | (go_at_call 182; refine (h2 _ _ (by simp) (by simp)).mono ?_; rintro e w3 ⟨rfl, q3⟩))
    go_ret
    rw [HR.out]
    exact ⟨rfl, w2'.trans (Below.mono (((Below.refl _ _).alloc (Nat.le_refl _) _).trans (q3.mono (by simp))) w2'.size)⟩
  ·cases nm
   ·have HR : Hid (R = 0) := (by rw [HW.out]; simp [e1] : R = 0)
    clear hnm
    go_enter Tryz.func141, Tryz.ntmps141
    go_upto_region 1 with fail
    rw [← hW1]
    clear hW1
    go_upto_region 3 with (first
     | (refine wpl_ld row_Act rfl (.tmp 8) rfl (vs := La) rfl hm hla ?_)
     | (go_at_call 181; refine (hA _).mono ?_; rintro e w2 ⟨rfl, q2⟩))
    obtain ⟨b2, w2'⟩ := k2 _ q2
    go_wp2_with (go_at_call 183; refine (hN _).mono ?_; rintro e w4 ⟨rfl, q4⟩; subst q4)
    go_ret
    rw [HR.out]
    exact ⟨rfl, w2'⟩
   ·have HR : Hid (R = n34) := (by rw [HW.out]; simp [e1] : R = n34)
    clear hnm
    go_enter Tryz.func141, Tryz.ntmps141
    go_upto_region 1 with fail
    rw [← hW1]
    clear hW1
    go_upto_region 3 with (first
     | (refine wpl_ld row_Act rfl (.tmp 8) rfl (vs := La) rfl hm hla ?_)
     | (go_at_call 181; refine (hA _).mono ?_; rintro e w2 ⟨rfl, q2⟩))
    obtain ⟨b2, w2'⟩ := k2 _ q2
    go_wp2_with (first
     | (go_at_call 183; refine (hN _).mono ?_; rintro e w4 ⟨rfl, q4⟩; subst q4)
     | (refine wpl_ld row_Hook rfl (.tmp 3) rfl (vs := L) rfl b2.range hl ?_)
     | (go_at_call 182; refine (h34 _ _ (by simp) (by simp) (by simp)).mono ?_; rintro e w3 ⟨rfl, q3⟩))
    go_ret
    rw [HR.out]
    exact ⟨rfl, w2'.trans (Below.mono (((Below.refl _ _).alloc (Nat.le_refl _) _).trans (q3.mono (by simp))) w2'.size)⟩
 ·have HR : Hid (R = 1) := by rw [HW.out]; rfl
  clear hnm
  go_enter Tryz.func141, Tryz.ntmps141
  go_upto_region 1 with fail
  rw [← hW1]
  clear hW1
  go_wp2_with (first
   | (refine wpl_ld row_Act rfl (.tmp 8) rfl (vs := La) rfl hm hla ?_)
   | (go_at_call 181; refine (hA _).mono ?_; rintro e w2 ⟨rfl, q2⟩))
  go_ret
  rw [HR.out]
  exact ⟨rfl, hw1.trans (q2.mono hw1.size)⟩
end Go.Proofs.YtdlnmnipnkeabaaGreatDoor
