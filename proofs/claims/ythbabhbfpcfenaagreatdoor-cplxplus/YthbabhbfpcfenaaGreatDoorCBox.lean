/- What the laws of layer 7 share: the boxes of a pair of bits and of a spec. -/
import Derived.Test.YthbabhbfpcfenaaGreatDoorCLive
namespace Go.Proofs.YthbabhbfpcfenaaGreatDoor
open Go.RowKit
set_option linter.unusedVariables false
set_option linter.unusedSimpArgs false

/-- In the world W lie a pair's box, and a spec's behind it; all that was in w0 is as it was. -/
structure Bx7 (w0 W : World) (re im : Nat) (p mi sh sp z : Bool) (wid prec verb : Int) : Prop where
  q0 : W.cell? ⟨w0.heap.size, 0, none⟩ = some (.int .u64 re)
  q1 : W.cell? ⟨w0.heap.size, 1, none⟩ = some (.int .u64 im)
  c0 : W.cell? ⟨w0.heap.size + 1, 0, none⟩ = some (.bool p)
  c1 : W.cell? ⟨w0.heap.size + 1, 1, none⟩ = some (.bool mi)
  c2 : W.cell? ⟨w0.heap.size + 1, 2, none⟩ = some (.bool sh)
  c3 : W.cell? ⟨w0.heap.size + 1, 3, none⟩ = some (.bool sp)
  c4 : W.cell? ⟨w0.heap.size + 1, 4, none⟩ = some (.bool z)
  c5 : W.cell? ⟨w0.heap.size + 1, 5, none⟩ = some (.int .i64 wid)
  c6 : W.cell? ⟨w0.heap.size + 1, 6, none⟩ = some (.int .i64 prec)
  c7 : W.cell? ⟨w0.heap.size + 1, 7, none⟩ = some (.int .i32 verb)
  fr : ∀ i, W.frozen? ⟨w0.heap.size + 1, i, none⟩ = false
  lt : w0.heap.size + 1 < W.heap.size
  bl : Below w0.heap.size w0 W
theorem Bx7.cells {w0 W : World} {re im : Nat} {p mi sh sp z : Bool} {wid prec verb : Int} (h : Bx7 w0 W re im p mi sh sp z wid prec verb) : W.cell? ⟨w0.heap.size, 0, none⟩ = some (.int .u64 re) ∧ W.cell? ⟨w0.heap.size, 1, none⟩ = some (.int .u64 im) ∧ W.cell? ⟨w0.heap.size + 1, 0, none⟩ = some (.bool p) ∧ W.cell? ⟨w0.heap.size + 1, 1, none⟩ = some (.bool mi) ∧ W.cell? ⟨w0.heap.size + 1, 2, none⟩ = some (.bool sh) ∧ W.cell? ⟨w0.heap.size + 1, 3, none⟩ = some (.bool sp) ∧ W.cell? ⟨w0.heap.size + 1, 4, none⟩ = some (.bool z) ∧ W.cell? ⟨w0.heap.size + 1, 5, none⟩ = some (.int .i64 wid) ∧ W.cell? ⟨w0.heap.size + 1, 6, none⟩ = some (.int .i64 prec) ∧ W.cell? ⟨w0.heap.size + 1, 7, none⟩ = some (.int .i32 verb) ∧ (∀ i, W.frozen? ⟨w0.heap.size + 1, i, none⟩ = false) := ⟨h.q0, h.q1, h.c0, h.c1, h.c2, h.c3, h.c4, h.c5, h.c6, h.c7, h.fr⟩
abbrev PB (w : World) (re im : Nat) (p mi sh sp z : Bool) (wid prec verb : Int) : World := (w.alloc (.cells #[.int .u64 re, .int .u64 im] 24)).alloc (.cells #[.bool p, .bool mi, .bool sh, .bool sp, .bool z, .int .i64 wid, .int .i64 prec, .int .i32 verb] 26)
theorem Bx7.new (w : World) (re im : Nat) (p mi sh sp z : Bool) (wid prec verb : Int) : Bx7 w (PB w re im p mi sh sp z wid prec verb) re im p mi sh sp z wid prec verb where
  q0 := by simp
  q1 := by simp
  c0 := by simp
  c1 := by simp
  c2 := by simp
  c3 := by simp
  c4 := by simp
  c5 := by simp
  c6 := by simp
  c7 := by simp
  fr := fun i => by simp
  lt := by simp
  bl := ((Below.refl _ _).alloc (Nat.le_refl _) _).alloc (by simp) _
theorem Bx7.call {w0 W W2 : World} {re im : Nat} {p mi sh sp z : Bool} {wid prec verb : Int} (h : Bx7 w0 W re im p mi sh sp z wid prec verb) (b : Below W.heap.size W W2) : Bx7 w0 W2 re im p mi sh sp z wid prec verb where
  q0 := (b.cell (p := ⟨w0.heap.size, 0, none⟩) (Nat.lt_trans (Nat.lt_succ_self _) h.lt)).trans h.q0
  q1 := (b.cell (p := ⟨w0.heap.size, 1, none⟩) (Nat.lt_trans (Nat.lt_succ_self _) h.lt)).trans h.q1
  c0 := (b.cell (p := ⟨w0.heap.size + 1, 0, none⟩) h.lt).trans h.c0
  c1 := (b.cell (p := ⟨w0.heap.size + 1, 1, none⟩) h.lt).trans h.c1
  c2 := (b.cell (p := ⟨w0.heap.size + 1, 2, none⟩) h.lt).trans h.c2
  c3 := (b.cell (p := ⟨w0.heap.size + 1, 3, none⟩) h.lt).trans h.c3
  c4 := (b.cell (p := ⟨w0.heap.size + 1, 4, none⟩) h.lt).trans h.c4
  c5 := (b.cell (p := ⟨w0.heap.size + 1, 5, none⟩) h.lt).trans h.c5
  c6 := (b.cell (p := ⟨w0.heap.size + 1, 6, none⟩) h.lt).trans h.c6
  c7 := (b.cell (p := ⟨w0.heap.size + 1, 7, none⟩) h.lt).trans h.c7
  fr := fun i => (b.frozen (p := ⟨w0.heap.size + 1, i, none⟩) h.lt).trans (h.fr i)
  lt := Nat.lt_of_lt_of_le h.lt b.size
  bl := h.bl.trans (b.mono h.bl.size)
theorem Bx7.set0 {w0 W : World} {re im : Nat} {p mi sh sp z : Bool} {wid prec verb : Int} (h : Bx7 w0 W re im p mi sh sp z wid prec verb) (y : Bool) : Bx7 w0 (W.setCell ⟨w0.heap.size + 1, 0, none⟩ (.bool y)) re im y mi sh sp z wid prec verb where
  q0 := set_past (Nat.succ_ne_self _) h.q0
  q1 := set_past (Nat.succ_ne_self _) h.q1
  c0 := World.cell?_setCell_same _ _ _ h.c0
  c1 := set_other (by decide) h.c1
  c2 := set_other (by decide) h.c2
  c3 := set_other (by decide) h.c3
  c4 := set_other (by decide) h.c4
  c5 := set_other (by decide) h.c5
  c6 := set_other (by decide) h.c6
  c7 := set_other (by decide) h.c7
  fr := fun i => by rw [World.frozen?_setCell]; exact h.fr i
  lt := by rw [show (W.setCell ⟨w0.heap.size + 1, 0, none⟩ (.bool y)).heap.size = W.heap.size by simp [World.setCell]]; exact h.lt
  bl := h.bl.setCell (Nat.le_succ _) _
end Go.Proofs.YthbabhbfpcfenaaGreatDoor
