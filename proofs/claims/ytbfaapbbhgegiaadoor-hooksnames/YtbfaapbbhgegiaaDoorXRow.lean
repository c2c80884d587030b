/- Package hooks: descriptors, methods and rows as values; many cells loaded, stored and built at once. -/
import Derived.Test.YtbfaapbbhgegiaaDoorProg
import Derived.Test.YtbfaapbbhgegiaaDoorQReg
import Derived.Lib.MapLaws
import Derived.Deep.LoopGhost
import Derived.Deep.RegionWith
import Derived.Maps.AppendAt
import Derived.Deep.DeepCutAuto
import Derived.Deep.CutBlock
import Derived.Test.YtbfaapbbhgegiaaDoorQPlain
import Derived.Deep.MidRow
import Derived.Deep.Upon
import Derived.Handy
namespace Go.Proofs.YtbfaapbbhgegiaaDoor
open Go.RowKit
set_option linter.unusedVariables false
set_option linter.unusedSimpArgs false

/-- A list as a value. -/
structure Sl where
  a : Option Addr
  n : Nat
  c : Nat
def Sl.v (s : Sl) : Value := .slice s.a s.n s.c
def Sl.no : Sl := ⟨none, 0, 0⟩
/-- A descriptor, a method, a row as values. -/
structure Ds where
  k : Int
  ty : ByteArray
  bi : Int
  im : Int
  tx : ByteArray
  ns : Sl
  ps : Sl
  hk : Int
def Ds.v (d : Ds) : List Value := [.int .i64 d.k, .string d.ty, .int .u64 d.bi, .int .u64 d.im, .string d.tx, .slice d.ns.a d.ns.n d.ns.c, .slice d.ps.a d.ps.n d.ps.c, .int .i64 d.hk]
def Ds.no : Ds := ⟨0, ⟨#[]⟩, 0, 0, ⟨#[]⟩, .no, .no, 0⟩
structure Ac where
  k : Int
  t : ByteArray
  f : ByteArray
  l : Sl
  p : Ds
def Ac.v (x : Ac) : List Value := [.int .i64 x.k, .string x.t, .string x.f, .slice x.l.a x.l.n x.l.c] ++ x.p.v
def Ac.no : Ac := ⟨0, ⟨#[]⟩, ⟨#[]⟩, .no, .no⟩
structure Hk where
  a : Ac
  b : Ac
  c : Ac
  d : Ac
def Hk.v (h : Hk) : List Value := h.a.v ++ (h.b.v ++ (h.c.v ++ h.d.v))
theorem Ds.len (d : Ds) : d.v.length = 8 := rfl
theorem Ac.len (x : Ac) : x.v.length = 12 := rfl
theorem Hk.len (h : Hk) : h.v.length = 48 := rfl
theorem Ds.one (d : Ds) : ∀ v ∈ d.v, v.oneCell' = true := by
  intro v hv
  simp only [Ds.v, List.mem_cons, List.not_mem_nil, or_false] at hv
  rcases hv with rfl | rfl | rfl | rfl | rfl | rfl | rfl | rfl <;> rfl
theorem Ac.one (x : Ac) : ∀ v ∈ x.v, v.oneCell' = true := by
  intro v hv
  simp only [Ac.v, List.mem_append, List.mem_cons, List.not_mem_nil, or_false] at hv
  rcases hv with (rfl | rfl | rfl | rfl) | hv
  · rfl
  · rfl
  · rfl
  · rfl
  · exact x.p.one v hv
theorem Hk.one (h : Hk) : ∀ v ∈ h.v, v.oneCell' = true := by
  intro v hv
  simp only [Hk.v, List.mem_append] at hv
  rcases hv with hv | hv | hv | hv
  · exact h.a.one v hv
  · exact h.b.one v hv
  · exact h.c.one v hv
  · exact h.d.one v hv

/-- A block of cells that may be written. -/
structure Blk (w : World) (B : Nat) (vs : List Value) : Prop where
  c : ∀ i v, vs[i]? = some v → w.cell? ⟨B, i, none⟩ = some v
  z : ∀ i, w.frozen? ⟨B, i, none⟩ = false
  b : B < w.heap.size
theorem Blk.up {w w' : World} {B : Nat} {vs : List Value} (h : Blk w B vs) (hb : Below w.heap.size w w') : Blk w' B vs :=
  ⟨fun i v hv => (hb.cell (p := ⟨B, i, none⟩) h.b).trans (h.c i v hv), fun i => (hb.frozen (p := ⟨B, i, none⟩) h.b).trans (h.z i), Nat.lt_of_lt_of_le h.b hb.size⟩
theorem Blk.grown {w w' : World} {B : Nat} {vs : List Value} {R : Nat} (h : Blk w B vs) (hg : w.grownBy w' (some R)) (hne : B ≠ R) : Blk w' B vs := by
  have hB := hg.block B h.b (by simpa using hne)
  exact ⟨fun i v hv => (World.cell?_of_block (w := w) (a := ⟨B, i, none⟩) hB).trans (h.c i v hv), fun i => (World.frozen?_of_block (w := w) (a := ⟨B, i, none⟩) hB).trans (h.z i), Nat.lt_of_lt_of_le h.b hg.size⟩
theorem Blk.new (w : World) (vs : List Value) (t : TypeId) : Blk (w.alloc (.cells vs.toArray t)) w.heap.size vs :=
  ⟨fun i v hv => by simp [hv], fun i => by simp, by simp⟩
theorem Blk.alloc {w : World} {B : Nat} {vs : List Value} (h : Blk w B vs) (o : Obj) : Blk (w.alloc o) B vs := h.up ((Below.refl _ _).alloc (Nat.le_refl _) _)
theorem Blk.mid {w : World} {B : Nat} {p cs q : List Value} (h : Blk w B (p ++ (cs ++ q))) {o : Nat} (ho : p.length = o) : w.rangeAt B o cs := fun j v hv => by
  subst ho
  refine h.c _ v ?_
  rw [List.getElem?_append_right (by omega), Nat.add_sub_cancel_left, List.getElem?_append_left]
  · exact hv
  · exact (List.getElem?_eq_some_iff.1 hv).1
theorem Blk.range {w : World} {B : Nat} {vs : List Value} (h : Blk w B vs) : w.rangeAt B 0 vs := fun j v hv => by rw [Nat.zero_add]; exact h.c j v hv
theorem Blk.there {w : World} {B : Nat} {vs : List Value} (h : Blk w B vs) : w.there B 0 vs.length := fun j hj => by
  rw [Nat.zero_add]
  exact ⟨by rw [h.c j _ (List.getElem?_eq_getElem hj)]; rfl, h.z j⟩
theorem xsc_size (w : World) (b : Nat) : ∀ (vs : List Value) (o : Nat), (w.setCells b o vs).heap.size = w.heap.size := by
  intro vs
  induction vs generalizing w with
  | nil => intro o; rfl
  | cons v r ih => intro o; rw [World.setCells, ih]; simp [World.setCell]
theorem xsc_heap (b k : Nat) (hk : k ≠ b) : ∀ (vs : List Value) (w : World) (o : Nat), (w.setCells b o vs).heap[k]? = w.heap[k]?
  | [], _, _ => rfl
  | v :: r, w, o => by rw [World.setCells, xsc_heap b k hk r, Below.heap_setCell _ _ _ _ hk]
theorem xsc_rest (b : Nat) : ∀ (vs : List Value) (w : World) (o : Nat), (w.setCells b o vs).os = w.os ∧ (w.setCells b o vs).tape = w.tape ∧ (w.setCells b o vs).output = w.output
  | [], _, _ => ⟨rfl, rfl, rfl⟩
  | v :: r, w, o => by
    rw [World.setCells]
    obtain ⟨h1, h2, h3⟩ := xsc_rest b r (w.setCell ⟨b, o, none⟩ v) (o + 1)
    exact ⟨h1, h2, h3⟩
theorem xbelow_sc {N : Nat} {w w' : World} {B : Nat} (h : Below N w w') (hB : N ≤ B) (o : Nat) (vs : List Value) : Below N w (w'.setCells B o vs) := by
  obtain ⟨h1, h2, h3⟩ := xsc_rest B vs w' o
  exact ⟨h1.trans h.os, h2.trans h.tape, h3.trans h.output, by rw [xsc_size]; exact h.size, fun k hk => by rw [xsc_heap B k (by omega)]; exact h.block k hk⟩
theorem Blk.all {w : World} {B : Nat} {vs : List Value} (h : Blk w B vs) (us : List Value) (hl : us.length = vs.length) : Blk (w.setCells B 0 us) B us := by
  refine ⟨fun i v hv => ?_, fun i => (World.frozen?_setCells _ _ _ _ _).trans (h.z i), by rw [xsc_size]; exact h.b⟩
  have := World.rangeAt_setCells_same w B 0 us (by rw [hl]; exact h.there) i v hv
  rwa [Nat.zero_add] at this
theorem Blk.oth {w : World} {B B' : Nat} {vs : List Value} (h : Blk w B vs) (hne : B' ≠ B) (o : Nat) (us : List Value) : Blk (w.setCells B' o us) B vs := by
  have hB := xsc_heap B' B hne.symm us w o
  exact ⟨fun i u hu => (World.cell?_of_block (w := w) (a := ⟨B, i, none⟩) hB).trans (h.c i u hu), fun i => (World.frozen?_of_block (w := w) (a := ⟨B, i, none⟩) hB).trans (h.z i), by rw [xsc_size]; exact h.b⟩
/-- A struct of n cells. -/
def Row (t n : Nat) : Prop := (∃ d, Tryd.prog.underlying t = some d ∧ d.isRow = true) ∧ (Tryd.prog.info? t).map (·.size) = some n
theorem row_Desc : Row 26 8 := ⟨⟨_, Tryd.underlying26, rfl⟩, by kernel_rfl⟩
theorem row_Act : Row 28 12 := ⟨⟨_, Tryd.underlying28, rfl⟩, by kernel_rfl⟩
theorem row_Hook : Row 30 48 := ⟨⟨_, Tryd.underlying30, rfl⟩, by kernel_rfl⟩
theorem row_script : Row 63 13 := ⟨⟨_, Tryd.underlying63, rfl⟩, by kernel_rfl⟩
theorem row_thrown : Row 81 8 := ⟨⟨_, Tryd.underlying81, rfl⟩, by kernel_rfl⟩
theorem row_Spec : Row 52 8 := ⟨⟨_, Tryd.underlying52, rfl⟩, by kernel_rfl⟩
/-- At the operation, for the walk. -/
theorem wpl_ld {ops : Array Oper} {rest : List Oper} {op : Oper} {a : Act} {w : World} {Q : Exit → Act → World → Prop} {t n : Nat} (hr : Row t n) (hgd : op.guard = none) (x : Operand) (ho : op.op = .load t x) {B o : Nat} {vs : List Value}
    (hx : a.eval x = .pointer (some ⟨B, o, none⟩)) (hB : w.rangeAt B o vs) (hl : vs.length = n)
    (h : wpList Tryd.prog ops Q rest (a.put op.dst (.agg vs.toArray)) w) : wpList Tryd.prog ops Q (op :: rest) a w := by
  obtain ⟨⟨d, h1, h2⟩, h3⟩ := hr
  exact wpList_load_mid hgd t x ho B o hx vs d hB h1 h2 (by rw [hl]; exact h3) h
theorem wpl_ldg {ops : Array Oper} {rest : List Oper} {op : Oper} {a : Act} {w : World} {Q : Exit → Act → World → Prop} {t n : Nat} (hr : Row t n) (hw : Region.wanted op (yielded ops a.tmps) = true) (x : Operand) (ho : op.op = .load t x) {B o : Nat} {vs : List Value}
    (hx : a.eval x = .pointer (some ⟨B, o, none⟩)) (hB : w.rangeAt B o vs) (hl : vs.length = n)
    (h : wpList Tryd.prog ops Q rest (a.put op.dst (.agg vs.toArray)) w) : wpList Tryd.prog ops Q (op :: rest) a w := by
  obtain ⟨⟨d, h1, h2⟩, h3⟩ := hr
  exact wpList_step fun K hK => by
    rw [if_pos hw]
    exact wp_load_mid t x ho B o hx vs d hB h1 h2 (by rw [hl]; exact h3) (hK _ _ h)
theorem wpl_st {ops : Array Oper} {rest : List Oper} {op : Oper} {a : Act} {w : World} {Q : Exit → Act → World → Prop} {t n : Nat} (hr : Row t n) (hgd : op.guard = none) (x y : Operand) (ho : op.op = .store t x y) {B : Nat} {vs us : List Value}
    (hx : a.eval x = .pointer (some ⟨B, 0, none⟩)) (hy : a.eval y = .agg us.toArray) (hB : Blk w B vs) (hl : vs.length = n) (hu : us.length = n) (h1 : ∀ v ∈ us, v.oneCell' = true)
    (h : wpList Tryd.prog ops Q rest (a.put op.dst undef) (w.setCells B 0 us)) : wpList Tryd.prog ops Q (op :: rest) a w := by
  refine wpList_store_mid hgd t x y ho B 0 us.toArray hx hy (by have := hB.there; rw [hl] at this; simpa [hu] using this) (by simp [hu, hr.2]) (all_oneCell_toArray h1) ?_
  simpa using h
theorem wpl_bld {ops : Array Oper} {rest : List Oper} {op : Oper} {a : Act} {w : World} {Q : Exit → Act → World → Prop} (hgd : op.guard = none) (t : TypeId) (parts : Array (Nat × Operand)) (ho : op.op = .build t parts) {V : Value} (ps : List (Nat × Value))
    (hx : parts.toList.map (fun x => (x.1, a.eval x.2)) = ps) (hb : (Instr.build t ps.toArray).run Tryd.prog w = .ok V w)
    (h : wpList Tryd.prog ops Q rest (a.put op.dst V) w) : wpList Tryd.prog ops Q (op :: rest) a w := by
  have hx' : (parts.map fun (i, x) => (i, a.eval x)) = ps.toArray := by
    rw [← hx]
    apply Array.ext'
    simp
  refine wpList_plain hgd fun K hK => ?_
  unfold Oper.wp execOp
  simp only [ho, hx', hb, Sem.run_bind, Sem.run_pure, Result.andThen_ok]
  exact hK _ _ h
theorem bld_script0 (x : Ac) (w : World) : (Instr.build 63 #[(0, .agg x.v.toArray)]).run Tryd.prog w = .ok (.agg (x.v ++ [Value.nilFunc]).toArray) w := by
  obtain ⟨k, t, f, ⟨la, ln, lc⟩, ⟨a0, a1, a2, a3, a4, ⟨na, nn, nc⟩, ⟨pa, pn, pc⟩, a7⟩⟩ := x
  kernel_rfl
theorem bld_script1 (x : Ac) (g : Value) (hg : ∃ f a b, g = .func f a b) (w : World) : (Instr.build 63 #[(0, .agg x.v.toArray), (1, g)]).run Tryd.prog w = .ok (.agg (x.v ++ [g]).toArray) w := by
  obtain ⟨k, t, f, ⟨la, ln, lc⟩, ⟨a0, a1, a2, a3, a4, ⟨na, nn, nc⟩, ⟨pa, pn, pc⟩, a7⟩⟩ := x
  obtain ⟨f, a, b, rfl⟩ := hg
  kernel_rfl
/-- A struct is the result. -/
theorem res_row {t n s : Nat} (hw : Row t n) {f : Func} (hr : f.results = #[.cell s t]) {tmps : Array Value} {w : World} {B : Nat} {vs : List Value} (ht : tmps.getD s undef = .pointer (some ⟨B, 0, none⟩)) (h : Blk w B vs) (hl : vs.length = n) : (results f tmps).run Tryd.prog w = .ok (.agg vs.toArray) w := by
  obtain ⟨⟨d, h1, h2⟩, h3⟩ := hw
  have hL := run_loadVar_mid (P := Tryd.prog) w B 0 t vs d h.range h1 h2 (by rw [hl]; exact h3)
  have ht' : tmps[s]?.getD undef = .pointer (some ⟨B, 0, none⟩) := by simpa using ht
  simp [results, hr, ht', hL, asAddr]
/-- Functions are held against nil. -/
theorem fneq_t (f : Fn) (a c : Array Value) (w : World) : (binOp BinOp.neq 61 (.func f a c) .nilFunc).run Tryd.prog w = .ok (.bool true) w := by kernel_rfl
theorem fneq_n (w : World) : (binOp BinOp.neq 61 .nilFunc .nilFunc).run Tryd.prog w = .ok (.bool false) w := by kernel_rfl
theorem feql_fstr (f : Fn) (a c : Array Value) (w : World) : (binOp BinOp.eql 61 (.func f a c) .nilFunc).run Tryd.prog w = .ok (.bool false) w := by kernel_rfl
theorem feql_fprint (f : Fn) (a c : Array Value) (w : World) : (binOp BinOp.eql 46 (.func f a c) .nilFunc).run Tryd.prog w = .ok (.bool false) w := by kernel_rfl
theorem feql_fshow (f : Fn) (a c : Array Value) (w : World) : (binOp BinOp.eql 47 (.func f a c) .nilFunc).run Tryd.prog w = .ok (.bool false) w := by kernel_rfl
theorem feql_n (w : World) : (binOp BinOp.eql 61 .nilFunc .nilFunc).run Tryd.prog w = .ok (.bool true) w := by kernel_rfl
end Go.Proofs.YtbfaapbbhgegiaaDoor
