/- A buffer in memory: its cells, and what the operations that touch all of it do. -/
import Derived.Test.YtnbbjfajcolpkabRows
import Derived.WalkKit
import Derived.WalkSpells
import Derived.WalkLawsBesides
import Derived.Laws.CopyOwn
import Derived.Laws.BytesArg
namespace Go.Proofs.Ytnbbjfajcolpkab
open Go.RowKit

/-- The cells of a buffer: its bytes, and how many were put. -/
def bufCells (kb : List UInt8) (n : Nat) : List Value := kb.map (fun b => Value.int .u8 b.toNat) ++ [.int .i64 n]
def zeroBuf : List Value := bufCells (List.replicate 4096 0) 0

set_option maxRecDepth 1000000 in
theorem zero_buf (w : World) : (zeroValue 25).run Try.prog w = .ok (.agg zeroBuf.toArray) w := by kernel_rfl

theorem wpList_alloc_buf {ops : Array Oper} {rest : List Oper} {o : Oper} {a : Act} {w : World} {Q : Exit → Act → World → Prop} (hg : o.guard = none) (ho : o.op = .alloc 25)
    (h : wpList Try.prog ops Q rest (a.put o.dst (.pointer (some ⟨w.heap.size, 0, none⟩))) (w.alloc (.cells zeroBuf.toArray 25))) : wpList Try.prog ops Q (o :: rest) a w := by
  refine wpList_plain hg fun K hK => ?_
  unfold Oper.wp execOp
  simp only [ho, Instr.alloc, Sem.run_bind, zero_buf, Result.andThen_ok, newVar, newRow, Value.cells]
  exact hK _ _ h

theorem run_copy_str {P : Program} (w : World) (dT sT ty elem : TypeId) (g o dLen dCap : Nat) (s : ByteArray) (cur : Array Value) (t : TypeId) (k : Nat)
    (hu : P.underlying dT = some (.slice elem)) (hs : (P.info? elem).map (·.size) = some 1)
    (hg : w.heap[g]? = some (.cells cur t (0, 0))) (hk : k = Nat.min s.size dLen) (hfit : o + k ≤ cur.size) :
    (Builtin.copy_ #[dT, sT] ty #[.slice (some ⟨g, o, none⟩) dLen dCap, .string s]).run P w =
      .ok (goInt k) (w.setRow g (cur.toList.take o ++ (s.data.toList.take k).map (fun b => Value.int .u8 b.toNat) ++ cur.toList.drop (o + k)).toArray) := by
  have hst := run_storeCells_at P g o t ((s.data.toList.take k).map (fun b => Value.int .u8 b.toNat)) 0 cur w hg (by
    have : ((s.data.toList.take k).map (fun b => Value.int .u8 (b.toNat : Int))).length ≤ k := by simp; omega
    omega) (by intro v hv; obtain ⟨b, _, rfl⟩ := List.mem_map.1 hv; rfl)
  have hl : ((s.data.toList.take k).map (fun b => Value.int .u8 (b.toNat : Int))).length = k := by
    have : k ≤ s.data.toList.length := by
      have h1 : s.size = s.data.toList.length := by rw [Array.length_toList]; rfl
      have : Nat.min s.size dLen ≤ s.size := Nat.min_le_left _ _
      omega
    rw [List.length_map, List.length_take]; omega
  rw [hl, Nat.add_zero] at hst
  have hc : ((s.extract 0 k).data.map fun b => Value.int .u8 (b.toNat : Int)).toList = (s.data.toList.take k).map (fun b => Value.int .u8 b.toNat) := by
    rw [Array.toList_map, ByteArray.data_extract, Array.toList_extract]; simp
  cases hq : P.info? elem with
  | none => simp [hq] at hs
  | some i =>
    have hi : i.size = 1 := by simpa [hq] using hs
    rw [List.map_take] at hst hc ⊢
    simp [Builtin.copy_, run_underlying hu, Builtin.lenOf, Builtin.firstCells, sizeOf, typeInfo, hq, ← hk, hst]

theorem built_buf : Try.prog.built 25 [] = some zeroBuf.toArray := by kernel_rfl
theorem wpList_build_buf {ops : Array Oper} {rest : List Oper} {o : Oper} {a : Act} {w : World} {Q : Exit → Act → World → Prop} (hg : o.guard = none) (ho : o.op = .build 25 #[])
    (h : wpList Try.prog ops Q rest (a.put o.dst (.agg zeroBuf.toArray)) w) : wpList Try.prog ops Q (o :: rest) a w := by
  refine wpList_plain hg fun K hK => ?_
  unfold Oper.wp execOp
  simp only [ho, Sem.run_bind, Array.map_empty, run_build w 25 #[] zeroBuf.toArray built_buf, Result.andThen_ok]
  exact hK _ _ h

/-- All that lay there but one block is as it was. -/
structure Kept (g : Nat) (w w' : World) : Prop where
  os : w'.os = w.os
  tape : w'.tape = w.tape
  output : w'.output = w.output
  size : w.heap.size ≤ w'.heap.size
  block : ∀ k, k < w.heap.size → k ≠ g → w'.heap[k]? = w.heap[k]?
theorem Kept.refl (g : Nat) (w : World) : Kept g w w := ⟨rfl, rfl, rfl, Nat.le_refl _, fun _ _ _ => rfl⟩
theorem Kept.trans {g : Nat} {a b c : World} (h : Kept g a b) (k : Kept g b c) : Kept g a c :=
  ⟨k.os.trans h.os, k.tape.trans h.tape, k.output.trans h.output, Nat.le_trans h.size k.size, fun i hi hg => (k.block i (Nat.lt_of_lt_of_le hi h.size) hg).trans (h.block i hi hg)⟩
theorem Kept.of_below {g : Nat} {a b : World} (h : Below a.heap.size a b) : Kept g a b := ⟨h.os, h.tape, h.output, h.size, fun i hi _ => h.block i hi⟩
theorem Kept.below {g B : Nat} {a b : World} (h : Kept g a b) (hB : B ≤ g) (hs : B ≤ a.heap.size) : Below B a b :=
  ⟨h.os, h.tape, h.output, h.size, fun i hi => h.block i (Nat.lt_of_lt_of_le hi hs) (by omega)⟩
theorem Kept.setRow {g : Nat} {a b : World} (h : Kept g a b) (cs : Array Value) : Kept g a (b.setRow g cs) :=
  ⟨h.os, h.tape, h.output, by rw [setRow_size]; exact h.size, fun i hi hg => (setRow_other b g i cs hg).trans (h.block i hi hg)⟩
theorem Kept.setCell {g : Nat} {a b : World} (h : Kept g a b) (j : Nat) (v : Value) : Kept g a (b.setCell ⟨g, j, none⟩ v) :=
  ⟨h.os, h.tape, h.output, by simpa using h.size, fun i hi hg => (heap_setCell_other b ⟨g, j, none⟩ i v hg).trans (h.block i hi hg)⟩
theorem Kept.drew {g : Nat} {a b : World} (h : Kept g a b) : Kept g a b.drew := ⟨h.os, h.tape, h.output, h.size, h.block⟩

/-- At the block g lies a buffer to which the bytes l were put. -/
def IsBuf (W : World) (g : Nat) (l : List UInt8) : Prop :=
  ∃ kb : List UInt8, kb.length = 4096 ∧ kb.take l.length = l.take 4096 ∧ W.heap[g]? = some (.cells (bufCells kb l.length).toArray 25 (0, 0))
/-- The same ahead of its count. -/
def MidBuf (W : World) (g n : Nat) (l : List UInt8) : Prop :=
  ∃ kb : List UInt8, kb.length = 4096 ∧ kb.take l.length = l.take 4096 ∧ W.heap[g]? = some (.cells (bufCells kb n).toArray 25 (0, 0))
theorem bufCells_get (kb : List UInt8) (n : Nat) (h : kb.length = 4096) : (bufCells kb n)[4096]? = some (.int .i64 n) := by
  unfold bufCells
  rw [List.getElem?_append_right (by simp [h])]
  simp [h]
theorem bufCells_byte (kb : List UInt8) (n i : Nat) (hi : i < kb.length) : (bufCells kb n)[i]? = some (.int .u8 (kb[i].toNat : Int)) := by
  unfold bufCells
  rw [List.getElem?_append_left (by simpa using hi)]
  simp [hi]
theorem bufCells_len (kb : List UInt8) (n : Nat) : (bufCells kb n).length = kb.length + 1 := by simp [bufCells]
theorem bufCells_set (kb : List UInt8) (n m : Nat) (h : kb.length = 4096) : (bufCells kb n).toArray.setIfInBounds 4096 (.int .i64 m) = (bufCells kb m).toArray := by
  apply Array.ext'
  rw [Array.toList_setIfInBounds]
  show (bufCells kb n).set 4096 _ = bufCells kb m
  unfold bufCells
  rw [List.set_append_right _ _ (by simp [h])]
  simp [h]
theorem MidBuf.cell {W : World} {g n : Nat} {l : List UInt8} (h : MidBuf W g n l) : W.cell? ⟨g, 4096, none⟩ = some (.int .i64 n) := by
  obtain ⟨kb, h1, _, h3⟩ := h
  rw [cell_of_row W g 4096 _ _ _ h3]
  simpa using bufCells_get kb n h1
theorem MidBuf.frozen {W : World} {g n : Nat} {l : List UInt8} (h : MidBuf W g n l) (j : Nat) : W.frozen? ⟨g, j, none⟩ = false := by
  obtain ⟨kb, h1, _, h3⟩ := h
  exact frozen_of_row W g j _ _ h3
theorem IsBuf.mid {W : World} {g : Nat} {l : List UInt8} (h : IsBuf W g l) : MidBuf W g l.length l := h
theorem IsBuf.lt {W : World} {g : Nat} {l : List UInt8} (h : IsBuf W g l) : g < W.heap.size := by
  obtain ⟨kb, _, _, h3⟩ := h
  exact (Array.getElem?_eq_some_iff.1 h3).1
theorem IsBuf.kept {W W' : World} {g g' : Nat} {l : List UInt8} (h : IsBuf W g l) (k : Kept g' W W') (hg : g ≠ g') : IsBuf W' g l := by
  have hl := h.lt
  obtain ⟨kb, h1, h2, h3⟩ := h
  exact ⟨kb, h1, h2, (k.block g hl hg).trans h3⟩
theorem IsBuf.below {W W' : World} {g : Nat} {l : List UInt8} (h : IsBuf W g l) (k : Below W.heap.size W W') : IsBuf W' g l := by
  have hl := h.lt
  obtain ⟨kb, h1, h2, h3⟩ := h
  exact ⟨kb, h1, h2, (k.block g hl).trans h3⟩
theorem MidBuf.done {W : World} {g n : Nat} {l : List UInt8} (h : MidBuf W g n l) : IsBuf (W.setCell ⟨g, 4096, none⟩ (.int .i64 l.length)) g l := by
  obtain ⟨kb, h1, h2, h3⟩ := h
  refine ⟨kb, h1, h2, ?_⟩
  rw [heap_setCell_same W g 4096 _ _ _ h3, bufCells_set kb n l.length h1]
theorem isBuf_new (w : World) : IsBuf (w.alloc (.cells zeroBuf.toArray 25)) w.heap.size [] :=
  ⟨List.replicate 4096 0, List.length_replicate .., by simp, heap_alloc_new w _⟩
/-- What is copied into a buffer's bytes. -/
theorem IsBuf.copied {W : World} {g : Nat} {l s : List UInt8} (h : IsBuf W g l) (hn : l.length < 4096) (k : Nat) (hk : k = Nat.min s.length (4096 - l.length)) :
    ∃ cur : Array Value, W.heap[g]? = some (.cells cur 25 (0, 0)) ∧ l.length + k ≤ cur.size ∧
      ∀ W' : World, W'.heap[g]? = some (.cells (cur.toList.take l.length ++ (s.take k).map (fun b => Value.int .u8 b.toNat) ++ cur.toList.drop (l.length + k)).toArray 25 (0, 0)) → MidBuf W' g l.length (l ++ s) := by
  obtain ⟨kb, h1, h2, h3⟩ := h
  refine ⟨_, h3, by rw [List.size_toArray, bufCells_len, hk]; have : Nat.min s.length (4096 - l.length) ≤ 4096 - l.length := Nat.min_le_right _ _; omega, ?_⟩
  intro W' hW
  have hk1 : k ≤ s.length := by rw [hk]; exact Nat.min_le_left _ _
  have hk2 : k ≤ 4096 - l.length := by rw [hk]; exact Nat.min_le_right _ _
  have hk3 : k = s.length ∨ k = 4096 - l.length := by
    have : Nat.min s.length (4096 - l.length) = s.length ∨ Nat.min s.length (4096 - l.length) = 4096 - l.length := by
      rcases Nat.le_total s.length (4096 - l.length) with h | h
      · exact .inl (Nat.min_eq_left h)
      · exact .inr (Nat.min_eq_right h)
    omega
  refine ⟨kb.take l.length ++ s.take k ++ kb.drop (l.length + k), ?_, ?_, ?_⟩
  · simp only [List.length_append, List.length_take, List.length_drop, h1]; omega
  · rw [h2, List.take_of_length_le (show l.length ≤ 4096 by omega), List.append_assoc]
    rcases hk3 with e | e
    · subst e
      rw [List.take_length, ← List.append_assoc, List.take_left, List.take_of_length_le (by rw [List.length_append]; omega)]
    · rw [List.take_append, List.take_append (l₁ := l) (l₂ := s), List.take_of_length_le (show l.length ≤ 4096 by omega), List.take_of_length_le (show l.length ≤ (l ++ s).length by simp)]
      congr 1
      have hd : kb.drop (l.length + k) = [] := List.drop_eq_nil_of_le (by omega)
      rw [hd, List.append_nil, ← e]
      apply List.take_of_length_le
      rw [List.length_take, List.length_append]; omega
  · rw [hW]
    congr 3
    unfold bufCells
    rw [List.take_append_of_le_length (by simp [h1]; omega), List.drop_append_of_le_length (by simp [h1]; omega)]
    simp [List.map_take, List.map_drop]
theorem IsBuf.full {W : World} {g : Nat} {l s : List UInt8} (h : IsBuf W g l) (hn : ¬ l.length < 4096) : MidBuf W g l.length (l ++ s) := by
  obtain ⟨kb, h1, h2, h3⟩ := h
  refine ⟨kb, h1, ?_, h3⟩
  rw [List.take_of_length_le (by omega)] at h2
  rw [List.take_of_length_le (by rw [List.length_append]; omega), List.take_append_of_le_length (by omega), h2]
end Go.Proofs.Ytnbbjfajcolpkab
