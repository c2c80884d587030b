/- A spec's box in memory, as a law turns its fields between calls. -/
import Derived.Test.YtnoelbomcogndabDoorInq
import Derived.Test.YtnoelbomcogndabDoorQReg
namespace Go.Proofs.YtnoelbomcogndabDoor
open Go.RowKit
set_option linter.unusedVariables false

/-- At block B of the world W lies a spec's box; all that was in w0 is as it was. -/
structure BoxAt (B : Nat) (w0 W : World) (p mi sh sp z : Bool) (wid prec verb : Int) : Prop where
  c0 : W.cell? ⟨B, 0, none⟩ = some (.bool p)
  c1 : W.cell? ⟨B, 1, none⟩ = some (.bool mi)
  c2 : W.cell? ⟨B, 2, none⟩ = some (.bool sh)
  c3 : W.cell? ⟨B, 3, none⟩ = some (.bool sp)
  c4 : W.cell? ⟨B, 4, none⟩ = some (.bool z)
  c5 : W.cell? ⟨B, 5, none⟩ = some (.int .i64 wid)
  c6 : W.cell? ⟨B, 6, none⟩ = some (.int .i64 prec)
  c7 : W.cell? ⟨B, 7, none⟩ = some (.int .i32 verb)
  fr : ∀ i, W.frozen? ⟨B, i, none⟩ = false
  lt : B < W.heap.size
  ge : w0.heap.size ≤ B
  bl : Below w0.heap.size w0 W
  es0 : Esc w0
theorem BoxAt.es {B : Nat} {w0 W : World} {p mi sh sp z : Bool} {wid prec verb : Int} (h : BoxAt B w0 W p mi sh sp z wid prec verb) : Esc W := h.es0.below h.bl
theorem BoxAt.cells {B : Nat} {w0 W : World} {p mi sh sp z : Bool} {wid prec verb : Int} (h : BoxAt B w0 W p mi sh sp z wid prec verb) :
    W.cell? ⟨B, 0, none⟩ = some (.bool p) ∧ W.cell? ⟨B, 1, none⟩ = some (.bool mi) ∧ W.cell? ⟨B, 2, none⟩ = some (.bool sh) ∧ W.cell? ⟨B, 3, none⟩ = some (.bool sp) ∧ W.cell? ⟨B, 4, none⟩ = some (.bool z) ∧ W.cell? ⟨B, 5, none⟩ = some (.int .i64 wid) ∧ W.cell? ⟨B, 6, none⟩ = some (.int .i64 prec) ∧ W.cell? ⟨B, 7, none⟩ = some (.int .i32 verb) ∧ (∀ i, W.frozen? ⟨B, i, none⟩ = false) :=
  ⟨h.c0, h.c1, h.c2, h.c3, h.c4, h.c5, h.c6, h.c7, h.fr⟩
theorem BoxAt.new {w0 : World} (w : World) (p mi sh sp z : Bool) (wid prec verb : Int) (hb : Below w0.heap.size w0 w) (hE : Esc w0) : BoxAt w.heap.size w0 (w.alloc (.cells #[.bool p, .bool mi, .bool sh, .bool sp, .bool z, .int .i64 wid, .int .i64 prec, .int .i32 verb] 27)) p mi sh sp z wid prec verb where
  c0 := by simp
  c1 := by simp
  c2 := by simp
  c3 := by simp
  c4 := by simp
  c5 := by simp
  c6 := by simp
  c7 := by simp
  fr := fun i => by simp
  lt := by simp
  ge := hb.size
  bl := hb.alloc hb.size _
  es0 := hE
theorem BoxAt.call {B : Nat} {w0 W W' : World} {p mi sh sp z : Bool} {wid prec verb : Int} (h : BoxAt B w0 W p mi sh sp z wid prec verb) (b : Below W.heap.size W W') : BoxAt B w0 W' p mi sh sp z wid prec verb where
  c0 := (b.cell (p := ⟨B, 0, none⟩) h.lt).trans h.c0
  c1 := (b.cell (p := ⟨B, 1, none⟩) h.lt).trans h.c1
  c2 := (b.cell (p := ⟨B, 2, none⟩) h.lt).trans h.c2
  c3 := (b.cell (p := ⟨B, 3, none⟩) h.lt).trans h.c3
  c4 := (b.cell (p := ⟨B, 4, none⟩) h.lt).trans h.c4
  c5 := (b.cell (p := ⟨B, 5, none⟩) h.lt).trans h.c5
  c6 := (b.cell (p := ⟨B, 6, none⟩) h.lt).trans h.c6
  c7 := (b.cell (p := ⟨B, 7, none⟩) h.lt).trans h.c7
  fr := fun i => (b.frozen (p := ⟨B, i, none⟩) h.lt).trans (h.fr i)
  lt := Nat.lt_of_lt_of_le h.lt b.size
  ge := h.ge
  bl := h.bl.trans (b.mono h.bl.size)
  es0 := h.es0
theorem BoxAt.drew {B : Nat} {w0 W : World} {p mi sh sp z : Bool} {wid prec verb : Int} (h : BoxAt B w0 W p mi sh sp z wid prec verb) : BoxAt B w0 W.drew p mi sh sp z wid prec verb := h.call (Below.refl _ _).drew
theorem set_other {W : World} {B i j : Nat} {u v : Value} (hij : i ≠ j) (h : W.cell? ⟨B, j, none⟩ = some v) : (W.setCell ⟨B, i, none⟩ u).cell? ⟨B, j, none⟩ = some v := by
  rw [World.cell?_setCell_other _ _ _ _ (by intro e; have := congrArg Addr.off e; simp at this; exact hij this)]; exact h
theorem size_set (W : World) (a : Addr) (u : Value) : (W.setCell a u).heap.size = W.heap.size := by simp [World.setCell]
theorem BoxAt.set0 {B : Nat} {w0 W : World} {p mi sh sp z : Bool} {wid prec verb : Int} (h : BoxAt B w0 W p mi sh sp z wid prec verb) (y : Bool) : BoxAt B w0 (W.setCell ⟨B, 0, none⟩ (.bool y)) y mi sh sp z wid prec verb where
  c0 := World.cell?_setCell_same _ _ _ h.c0
  c1 := set_other (by omega) h.c1
  c2 := set_other (by omega) h.c2
  c3 := set_other (by omega) h.c3
  c4 := set_other (by omega) h.c4
  c5 := set_other (by omega) h.c5
  c6 := set_other (by omega) h.c6
  c7 := set_other (by omega) h.c7
  fr := fun j => by rw [World.frozen?_setCell]; exact h.fr j
  lt := by rw [size_set]; exact h.lt
  ge := h.ge
  bl := h.bl.setCell h.ge _
  es0 := h.es0
theorem BoxAt.set1 {B : Nat} {w0 W : World} {p mi sh sp z : Bool} {wid prec verb : Int} (h : BoxAt B w0 W p mi sh sp z wid prec verb) (y : Bool) : BoxAt B w0 (W.setCell ⟨B, 1, none⟩ (.bool y)) p y sh sp z wid prec verb where
  c0 := set_other (by omega) h.c0
  c1 := World.cell?_setCell_same _ _ _ h.c1
  c2 := set_other (by omega) h.c2
  c3 := set_other (by omega) h.c3
  c4 := set_other (by omega) h.c4
  c5 := set_other (by omega) h.c5
  c6 := set_other (by omega) h.c6
  c7 := set_other (by omega) h.c7
  fr := fun j => by rw [World.frozen?_setCell]; exact h.fr j
  lt := by rw [size_set]; exact h.lt
  ge := h.ge
  bl := h.bl.setCell h.ge _
  es0 := h.es0
theorem BoxAt.set2 {B : Nat} {w0 W : World} {p mi sh sp z : Bool} {wid prec verb : Int} (h : BoxAt B w0 W p mi sh sp z wid prec verb) (y : Bool) : BoxAt B w0 (W.setCell ⟨B, 2, none⟩ (.bool y)) p mi y sp z wid prec verb where
  c0 := set_other (by omega) h.c0
  c1 := set_other (by omega) h.c1
  c2 := World.cell?_setCell_same _ _ _ h.c2
  c3 := set_other (by omega) h.c3
  c4 := set_other (by omega) h.c4
  c5 := set_other (by omega) h.c5
  c6 := set_other (by omega) h.c6
  c7 := set_other (by omega) h.c7
  fr := fun j => by rw [World.frozen?_setCell]; exact h.fr j
  lt := by rw [size_set]; exact h.lt
  ge := h.ge
  bl := h.bl.setCell h.ge _
  es0 := h.es0
theorem BoxAt.set3 {B : Nat} {w0 W : World} {p mi sh sp z : Bool} {wid prec verb : Int} (h : BoxAt B w0 W p mi sh sp z wid prec verb) (y : Bool) : BoxAt B w0 (W.setCell ⟨B, 3, none⟩ (.bool y)) p mi sh y z wid prec verb where
  c0 := set_other (by omega) h.c0
  c1 := set_other (by omega) h.c1
  c2 := set_other (by omega) h.c2
  c3 := World.cell?_setCell_same _ _ _ h.c3
  c4 := set_other (by omega) h.c4
  c5 := set_other (by omega) h.c5
  c6 := set_other (by omega) h.c6
  c7 := set_other (by omega) h.c7
  fr := fun j => by rw [World.frozen?_setCell]; exact h.fr j
  lt := by rw [size_set]; exact h.lt
  ge := h.ge
  bl := h.bl.setCell h.ge _
  es0 := h.es0
theorem BoxAt.set4 {B : Nat} {w0 W : World} {p mi sh sp z : Bool} {wid prec verb : Int} (h : BoxAt B w0 W p mi sh sp z wid prec verb) (y : Bool) : BoxAt B w0 (W.setCell ⟨B, 4, none⟩ (.bool y)) p mi sh sp y wid prec verb where
  c0 := set_other (by omega) h.c0
  c1 := set_other (by omega) h.c1
  c2 := set_other (by omega) h.c2
  c3 := set_other (by omega) h.c3
  c4 := World.cell?_setCell_same _ _ _ h.c4
  c5 := set_other (by omega) h.c5
  c6 := set_other (by omega) h.c6
  c7 := set_other (by omega) h.c7
  fr := fun j => by rw [World.frozen?_setCell]; exact h.fr j
  lt := by rw [size_set]; exact h.lt
  ge := h.ge
  bl := h.bl.setCell h.ge _
  es0 := h.es0
theorem BoxAt.set5 {B : Nat} {w0 W : World} {p mi sh sp z : Bool} {wid prec verb : Int} (h : BoxAt B w0 W p mi sh sp z wid prec verb) (y : Int) : BoxAt B w0 (W.setCell ⟨B, 5, none⟩ (.int .i64 y)) p mi sh sp z y prec verb where
  c0 := set_other (by omega) h.c0
  c1 := set_other (by omega) h.c1
  c2 := set_other (by omega) h.c2
  c3 := set_other (by omega) h.c3
  c4 := set_other (by omega) h.c4
  c5 := World.cell?_setCell_same _ _ _ h.c5
  c6 := set_other (by omega) h.c6
  c7 := set_other (by omega) h.c7
  fr := fun j => by rw [World.frozen?_setCell]; exact h.fr j
  lt := by rw [size_set]; exact h.lt
  ge := h.ge
  bl := h.bl.setCell h.ge _
  es0 := h.es0
theorem BoxAt.set6 {B : Nat} {w0 W : World} {p mi sh sp z : Bool} {wid prec verb : Int} (h : BoxAt B w0 W p mi sh sp z wid prec verb) (y : Int) : BoxAt B w0 (W.setCell ⟨B, 6, none⟩ (.int .i64 y)) p mi sh sp z wid y verb where
  c0 := set_other (by omega) h.c0
  c1 := set_other (by omega) h.c1
  c2 := set_other (by omega) h.c2
  c3 := set_other (by omega) h.c3
  c4 := set_other (by omega) h.c4
  c5 := set_other (by omega) h.c5
  c6 := World.cell?_setCell_same _ _ _ h.c6
  c7 := set_other (by omega) h.c7
  fr := fun j => by rw [World.frozen?_setCell]; exact h.fr j
  lt := by rw [size_set]; exact h.lt
  ge := h.ge
  bl := h.bl.setCell h.ge _
  es0 := h.es0
theorem BoxAt.set7 {B : Nat} {w0 W : World} {p mi sh sp z : Bool} {wid prec verb : Int} (h : BoxAt B w0 W p mi sh sp z wid prec verb) (y : Int) : BoxAt B w0 (W.setCell ⟨B, 7, none⟩ (.int .i32 y)) p mi sh sp z wid prec y where
  c0 := set_other (by omega) h.c0
  c1 := set_other (by omega) h.c1
  c2 := set_other (by omega) h.c2
  c3 := set_other (by omega) h.c3
  c4 := set_other (by omega) h.c4
  c5 := set_other (by omega) h.c5
  c6 := set_other (by omega) h.c6
  c7 := World.cell?_setCell_same _ _ _ h.c7
  fr := fun j => by rw [World.frozen?_setCell]; exact h.fr j
  lt := by rw [size_set]; exact h.lt
  ge := h.ge
  bl := h.bl.setCell h.ge _
  es0 := h.es0
end Go.Proofs.YtnoelbomcogndabDoor
