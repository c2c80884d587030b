/- A struct of many cells, taken and stored at once: the library's laws of a row in the midst of a block, at boxes. -/
import Derived.Test.YtpknjcdodnoibaaPWalkG
import Derived.Deep.MidRow
import Derived.Deep.Upon
namespace Go.Proofs.Ytpknjcdodnoibaa
open Go.RowKit
set_option linter.unusedVariables false
set_option linter.unusedSimpArgs false

theorem sc_size (w : World) (b : Nat) : ∀ (vs : List Value) (o : Nat), (w.setCells b o vs).heap.size = w.heap.size := by
  intro vs
  induction vs generalizing w with
  | nil => intro o; rfl
  | cons v r ih => intro o; rw [World.setCells, ih]; simp [World.setCell]
theorem sc_heap (b k : Nat) (hk : k ≠ b) : ∀ (vs : List Value) (w : World) (o : Nat), (w.setCells b o vs).heap[k]? = w.heap[k]?
  | [], _, _ => rfl
  | v :: r, w, o => by rw [World.setCells, sc_heap b k hk r, Below.heap_setCell _ _ _ _ hk]
theorem sc_rest (b : Nat) : ∀ (vs : List Value) (w : World) (o : Nat), (w.setCells b o vs).os = w.os ∧ (w.setCells b o vs).tape = w.tape ∧ (w.setCells b o vs).output = w.output
  | [], _, _ => ⟨rfl, rfl, rfl⟩
  | v :: r, w, o => by
    rw [World.setCells]
    obtain ⟨h1, h2, h3⟩ := sc_rest b r (w.setCell ⟨b, o, none⟩ v) (o + 1)
    exact ⟨h1, h2, h3⟩
theorem gr_sc {w w' : World} {row : Option Nat} {B : Nat} (h : w.grownBy w' row) (hB : w.heap.size ≤ B) (o : Nat) (vs : List Value) : w.grownBy (w'.setCells B o vs) row := by
  obtain ⟨h1, h2, h3⟩ := sc_rest B vs w' o
  exact ⟨h1.trans h.os, h2.trans h.tape, h3.trans h.output, by rw [sc_size]; exact h.size, fun k hk hne => by rw [sc_heap B k (by omega)]; exact h.block k hk hne⟩
theorem below_sc {N : Nat} {w w' : World} {B : Nat} (h : Below N w w') (hB : N ≤ B) (o : Nat) (vs : List Value) : Below N w (w'.setCells B o vs) := by
  obtain ⟨h1, h2, h3⟩ := sc_rest B vs w' o
  exact ⟨h1.trans h.os, h2.trans h.tape, h3.trans h.output, by rw [sc_size]; exact h.size, fun k hk => by rw [sc_heap B k (by omega)]; exact h.block k hk⟩
theorem Bx.there {w : World} {B : Nat} {vs : List Value} (h : Bx w B vs) : w.there B 0 vs.length := fun j hj => by
  rw [Nat.zero_add]
  exact ⟨by rw [h.c j _ (List.getElem?_eq_getElem hj)]; rfl, h.z j⟩
theorem Bx.range {w : World} {B : Nat} {vs : List Value} (h : Bx w B vs) : w.rangeAt B 0 vs := fun j v hv => by rw [Nat.zero_add]; exact h.c j v hv
theorem Bx.all {w : World} {B : Nat} {vs : List Value} (h : Bx w B vs) (us : List Value) (hl : us.length = vs.length) : Bx (w.setCells B 0 us) B us := by
  refine ⟨fun i v hv => ?_, fun i => (World.frozen?_setCells _ _ _ _ _).trans (h.z i), by rw [sc_size]; exact h.b⟩
  have := World.rangeAt_setCells_same w B 0 us (by rw [hl]; exact h.there) i v hv
  rwa [Nat.zero_add] at this
theorem Bx.oth {w : World} {B B' : Nat} {vs : List Value} (h : Bx w B vs) (hne : B' ≠ B) (o : Nat) (us : List Value) : Bx (w.setCells B' o us) B vs := by
  have hB := sc_heap B' B hne.symm us w o
  exact ⟨fun i u hu => (World.cell?_of_block (w := w) (a := ⟨B, i, none⟩) hB).trans (h.c i u hu), fun i => (World.frozen?_of_block (w := w) (a := ⟨B, i, none⟩) hB).trans (h.z i), by rw [sc_size]; exact h.b⟩
theorem RdW.sc {s : ByteArray} {R F P : Nat} {l : Bs} {w : World} (h : RdW s R F P l w) {B : Nat} (hR : B ≠ R) (hF : B ≠ F) (o : Nat) (us : List Value) : RdW s R F P l (w.setCells B o us) := by
  have a := sc_heap B R hR.symm us w o
  have b := sc_heap B F hF.symm us w o
  exact ⟨(World.cell?_of_block (w := w) (a := ⟨R, 0, none⟩) a).trans h.a, (World.cell?_of_block (w := w) (a := ⟨R, 1, none⟩) a).trans h.n, (World.cell?_of_block (w := w) (a := ⟨F, 0, none⟩) b).trans h.f, (World.frozen?_of_block (w := w) (a := ⟨R, 0, none⟩) a).trans h.z, h.d, h.e, h.ne, h.m⟩
theorem info20 : (Try.prog.info? 40).map (·.size) = some 20 := by kernel_rfl
theorem isrow20 : ∃ d, Try.prog.underlying 40 = some d ∧ d.isRow = true := ⟨_, Try.underlying40, rfl⟩
/-- A piece is loaded. -/
theorem load20 {w : World} {B : Nat} {vs : List Value} (h : Bx w B vs) (hl : vs.length = 20) : (Instr.loadAt 40 (.pointer (some ⟨B, 0, none⟩))).run Try.prog w = .ok (.agg vs.toArray) w := by
  obtain ⟨d, h1, h2⟩ := isrow20
  exact run_loadAt_mid w B 0 _ vs d h.range h1 h2 (by rw [hl]; exact info20)
/-- A piece is stored. -/
theorem store20 {w : World} {B : Nat} {vs : List Value} (h : Bx w B vs) (hl : vs.length = 20) (us : List Value) (hu : us.length = 20) (h1 : ∀ v ∈ us, v.oneCell' = true) : (Instr.storeAt 40 (.pointer (some ⟨B, 0, none⟩)) (.agg us.toArray)).run Try.prog w = .ok () (w.setCells B 0 us) := by
  have := run_storeAt_mid (P := Try.prog) w B 0 40 us.toArray (by have := h.there; rw [hl] at this; simpa [hu] using this) (by simp [hu, info20]) (all_oneCell_toArray h1)
  simpa using this
/-- A piece is the result. -/
theorem res20 {f : Func} (hr : f.results = #[.cell 2 40]) {tmps : Array Value} {w : World} {B : Nat} {vs : List Value} (ht : tmps.getD 2 undef = .pointer (some ⟨B, 0, none⟩)) (h : Bx w B vs) (hl : vs.length = 20) : (results f tmps).run Try.prog w = .ok (.agg vs.toArray) w := by
  obtain ⟨d, h1, h2⟩ := isrow20
  have hL := run_loadVar_mid (P := Try.prog) w B 0 40 vs d h.range h1 h2 (by rw [hl]; exact info20)
  have ht' : tmps[2]?.getD undef = .pointer (some ⟨B, 0, none⟩) := by simpa using ht
  simp [results, hr, ht', hL, asAddr]
/-- At the operation, for the walk. -/
theorem wpl_store20 {ops : Array Oper} {rest : List Oper} {op : Oper} {a : Act} {w : World} {Q : Exit → Act → World → Prop} (hgd : op.guard = none) (x y : Operand) (ho : op.op = .store 40 x y) {B : Nat} {vs us : List Value}
    (hx : a.eval x = .pointer (some ⟨B, 0, none⟩)) (hy : a.eval y = .agg us.toArray) (hB : Bx w B vs) (hl : vs.length = 20) (hu : us.length = 20) (h1 : ∀ v ∈ us, v.oneCell' = true)
    (h : wpList Try.prog ops Q rest (a.put op.dst undef) (w.setCells B 0 us)) : wpList Try.prog ops Q (op :: rest) a w := by
  refine wpList_store_mid hgd 40 x y ho B 0 us.toArray hx hy (by have := hB.there; rw [hl] at this; simpa [hu] using this) (by simp [hu, info20]) (all_oneCell_toArray h1) ?_
  simpa using h
theorem wpl_load20 {ops : Array Oper} {rest : List Oper} {op : Oper} {a : Act} {w : World} {Q : Exit → Act → World → Prop} (hgd : op.guard = none) (x : Operand) (ho : op.op = .load 40 x) {B : Nat} {vs : List Value}
    (hx : a.eval x = .pointer (some ⟨B, 0, none⟩)) (hB : Bx w B vs) (hl : vs.length = 20)
    (h : wpList Try.prog ops Q rest (a.put op.dst (.agg vs.toArray)) w) : wpList Try.prog ops Q (op :: rest) a w := by
  obtain ⟨d, h1, h2⟩ := isrow20
  exact wpList_load_mid hgd 40 x ho B 0 hx vs d hB.range h1 h2 (by rw [hl]; exact info20) h
end Go.Proofs.Ytpknjcdodnoibaa
