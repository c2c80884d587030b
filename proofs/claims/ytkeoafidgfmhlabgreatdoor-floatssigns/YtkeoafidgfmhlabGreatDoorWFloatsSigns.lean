/- The walk of the law FloatsSigns. -/
import Derived.Test.YtkeoafidgfmhlabGreatDoorPkF26
namespace Go.Proofs.YtkeoafidgfmhlabGreatDoor
open Go.RowKit
set_option linter.unusedVariables false
set_option linter.unusedSimpArgs false

/-- At block B of the world W lies a spec's box; all that was in w0 is as it was. -/
structure Bx6 (B : Nat) (w0 W : World) (p mi sh sp z : Bool) (wid prec verb : Int) : Prop where
  c0 : W.cell? ⟨B, 0, none⟩ = some (.bool p)
  c1 : W.cell? ⟨B, 1, none⟩ = some (.bool mi)
  c2 : W.cell? ⟨B, 2, none⟩ = some (.bool sh)
  c3 : W.cell? ⟨B, 3, none⟩ = some (.bool sp)
  c4 : W.cell? ⟨B, 4, none⟩ = some (.bool z)
  c5 : W.cell? ⟨B, 5, none⟩ = some (.int .i64 wid)
  c6 : W.cell? ⟨B, 6, none⟩ = some (.int .i64 prec)
  c7 : W.cell? ⟨B, 7, none⟩ = some (.int .i32 verb)
  fr : ∀ i, W.frozen? ⟨B, i, none⟩ = false
  lt : B < W.heap.size
  ge : w0.heap.size ≤ B
  bl : Below w0.heap.size w0 W
theorem Bx6.cells {B : Nat} {w0 W : World} {p mi sh sp z : Bool} {wid prec verb : Int} (h : Bx6 B w0 W p mi sh sp z wid prec verb) :
    W.cell? ⟨B, 0, none⟩ = some (.bool p) ∧ W.cell? ⟨B, 1, none⟩ = some (.bool mi) ∧ W.cell? ⟨B, 2, none⟩ = some (.bool sh) ∧ W.cell? ⟨B, 3, none⟩ = some (.bool sp) ∧ W.cell? ⟨B, 4, none⟩ = some (.bool z) ∧ W.cell? ⟨B, 5, none⟩ = some (.int .i64 wid) ∧ W.cell? ⟨B, 6, none⟩ = some (.int .i64 prec) ∧ W.cell? ⟨B, 7, none⟩ = some (.int .i32 verb) ∧ (∀ i, W.frozen? ⟨B, i, none⟩ = false) :=
  ⟨h.c0, h.c1, h.c2, h.c3, h.c4, h.c5, h.c6, h.c7, h.fr⟩
theorem Bx6.new (w : World) (p mi sh sp z : Bool) (wid prec verb : Int) : Bx6 w.heap.size w (w.alloc (.cells #[.bool p, .bool mi, .bool sh, .bool sp, .bool z, .int .i64 wid, .int .i64 prec, .int .i32 verb] 24)) p mi sh sp z wid prec verb where
  c0 := by simp
  c1 := by simp
  c2 := by simp
  c3 := by simp
  c4 := by simp
  c5 := by simp
  c6 := by simp
  c7 := by simp
  fr := fun i => by simp
  lt := by simp
  ge := Nat.le_refl _
  bl := (Below.refl _ _).alloc (Nat.le_refl _) _
theorem Bx6.call {B : Nat} {w0 W W' : World} {p mi sh sp z : Bool} {wid prec verb : Int} (h : Bx6 B w0 W p mi sh sp z wid prec verb) (b : Below W.heap.size W W') : Bx6 B w0 W' p mi sh sp z wid prec verb where
  c0 := (b.cell (p := ⟨B, 0, none⟩) h.lt).trans h.c0
  c1 := (b.cell (p := ⟨B, 1, none⟩) h.lt).trans h.c1
  c2 := (b.cell (p := ⟨B, 2, none⟩) h.lt).trans h.c2
  c3 := (b.cell (p := ⟨B, 3, none⟩) h.lt).trans h.c3
  c4 := (b.cell (p := ⟨B, 4, none⟩) h.lt).trans h.c4
  c5 := (b.cell (p := ⟨B, 5, none⟩) h.lt).trans h.c5
  c6 := (b.cell (p := ⟨B, 6, none⟩) h.lt).trans h.c6
  c7 := (b.cell (p := ⟨B, 7, none⟩) h.lt).trans h.c7
  fr := fun i => (b.frozen (p := ⟨B, i, none⟩) h.lt).trans (h.fr i)
  lt := Nat.lt_of_lt_of_le h.lt b.size
  ge := h.ge
  bl := h.bl.trans (b.mono h.bl.size)
theorem Bx6.set0 {B : Nat} {w0 W : World} {p mi sh sp z : Bool} {wid prec verb : Int} (h : Bx6 B w0 W p mi sh sp z wid prec verb) (y : Bool) : Bx6 B w0 (W.setCell ⟨B, 0, none⟩ (.bool y)) y mi sh sp z wid prec verb where
  c0 := World.cell?_setCell_same _ _ _ h.c0
  c1 := set_other (by decide) h.c1
  c2 := set_other (by decide) h.c2
  c3 := set_other (by decide) h.c3
  c4 := set_other (by decide) h.c4
  c5 := set_other (by decide) h.c5
  c6 := set_other (by decide) h.c6
  c7 := set_other (by decide) h.c7
  fr := fun i => by rw [World.frozen?_setCell]; exact h.fr i
  lt := by rw [show (W.setCell ⟨B, 0, none⟩ (.bool y)).heap.size = W.heap.size by simp [World.setCell]]; exact h.lt
  ge := h.ge
  bl := h.bl.setCell h.ge _
theorem or_top (a n : Nat) (h : a < 2 ^ n) : a ||| 2 ^ n = a + 2 ^ n := by
  have := Nat.two_pow_add_eq_or_of_lt h 1
  rw [Nat.mul_one] at this
  rw [Nat.or_comm, ← this, Nat.add_comm]
theorem bits_or (a n T : Nat) (ha : a < T) (hT : T = 2 ^ n) (hT2 : T < 18446744073709551616) : bits .or .u64 (a : Int) (T : Int) = ((a + T : Nat) : Int) := by
  rw [u64_or_nat a T (by omega) hT2, hT, or_top a n (by rw [← hT]; exact ha)]
set_option maxRecDepth 1000000 in
set_option maxHeartbeats 4000000 in
theorem signs_no {bits p0 m : Nat} {n x k T : Int} {b sg : Bool} (p mi sh sp z : Bool) (wid prec verb : Int) (hb : b = true ∧ n = 64 ∧ T = 9223372036854775808 ∨ b = false ∧ n = 32 ∧ T = 2147483648) (hand : Go.bits BinOp.and IntKind.u64 (bits : Int) (T - 1) = (p0 : Nat)) (hk : ¬ k = 0) (hP : PtC p0 n sg m x k) (w : World) :
    Calls Tryz.prog 4 #[.int .u64 bits, .bool b, .agg #[.bool p, .bool mi, .bool sh, .bool sp, .bool z, .int .i64 wid, .int .i64 prec, .int .i32 verb]] w fun e w' => e = .returned (.bool true) ∧ Below w.heap.size w w' := by
  have hL := lives6_any
  have hbx := Bx6.new w p mi sh sp z wid prec verb
  have b1 : (k == 0) = false := by simp [hk]
  have hbA : Below w.heap.size w (w.alloc (.cells #[.bool false, .bool mi, .bool sh, .bool false, .bool z, .int .i64 (-1), .int .i64 prec, .int .i32 verb] 24)) := (Below.refl _ _).alloc (Nat.le_refl _) _
  rcases hb with ⟨rfl, rfl, rfl⟩ | ⟨rfl, rfl, rfl⟩
  · have hZ := sized6_any true
    simp only [if_true] at hZ
    rw [show (9223372036854775808 : Int) - 1 = 9223372036854775807 by decide] at hand
    go_enter Tryz.func4, Tryz.ntmps4
    go_wp2_with (first
      | (go_at_call 9; (with_reducible refine (hZ _).mono ?_); rintro x w2 ⟨rfl, rfl⟩)
      | (go_at_call 10; (with_reducible refine (hP _).mono ?_); rintro x w3 ⟨rfl, hb3⟩)
      | (go_at_call 11; refine (hL _).mono ?_; rintro x w4 ⟨rfl, hb4⟩))
    go_ret
    exact ⟨rfl, bel_call (bel_call hbA hb3 (Nat.le_refl _)) hb4 (Nat.le_refl _)⟩
  · have hZ := sized6_any false
    simp only [Bool.false_eq_true, if_false] at hZ
    rw [show (2147483648 : Int) - 1 = 2147483647 by decide] at hand
    go_enter Tryz.func4, Tryz.ntmps4
    go_wp2_with (first
      | (go_at_call 9; (with_reducible refine (hZ _).mono ?_); rintro x w2 ⟨rfl, rfl⟩)
      | (go_at_call 10; (with_reducible refine (hP _).mono ?_); rintro x w3 ⟨rfl, hb3⟩)
      | (go_at_call 11; refine (hL _).mono ?_; rintro x w4 ⟨rfl, hb4⟩))
    go_ret
    exact ⟨rfl, bel_call (bel_call hbA hb3 (Nat.le_refl _)) hb4 (Nat.le_refl _)⟩
set_option maxRecDepth 1000000 in
set_option maxHeartbeats 8000000 in
theorem signs_yes {bits p0 q0 m : Nat} {n x T : Int} {b sg : Bool} {T1 T2 T3 : ByteArray} (p mi sh sp z : Bool) (wid prec verb : Int) (hb : b = true ∧ n = 64 ∧ T = 9223372036854775808 ∨ b = false ∧ n = 32 ∧ T = 2147483648) (hand : Go.bits BinOp.and IntKind.u64 (bits : Int) (T - 1) = (p0 : Nat)) (hor : Go.bits BinOp.or IntKind.u64 (p0 : Int) T = (q0 : Nat)) (hP : PtC p0 n sg m x 0)
    (hA : FlC p0 n false mi sh false z (-1) prec verb T1 true) (hB : FlC q0 n false mi sh false z (-1) prec verb T2 true) (hC : FlC p0 n true mi sh false z (-1) prec verb T3 true) (hD : FlC q0 n true mi sh false z (-1) prec verb T2 true) (h2 : (⟨#[45]⟩ : ByteArray) ++ T1 = T2) (h3 : (⟨#[43]⟩ : ByteArray) ++ T1 = T3) (z1 : ¬ 9223372036854775807 < (⟨#[45]⟩ : ByteArray).size + T1.size) (z2 : ¬ 9223372036854775807 < (⟨#[43]⟩ : ByteArray).size + T1.size) (w : World) :
    Calls Tryz.prog 4 #[.int .u64 bits, .bool b, .agg #[.bool p, .bool mi, .bool sh, .bool sp, .bool z, .int .i64 wid, .int .i64 prec, .int .i32 verb]] w fun e w' => e = .returned (.bool true) ∧ Below w.heap.size w w' := by
  have hL := lives6_any
  have hbx := Bx6.new w false mi sh false z (-1) prec verb
  rcases hb with ⟨rfl, rfl, rfl⟩ | ⟨rfl, rfl, rfl⟩
  · have hZ := sized6_any true
    simp only [if_true] at hZ
    rw [show (9223372036854775808 : Int) - 1 = 9223372036854775807 by decide] at hand
    go_enter Tryz.func4, Tryz.ntmps4
    go_wp2_with (first
      | (go_at_call 9; (with_reducible refine (hZ _).mono ?_); rintro x w2 ⟨rfl, rfl⟩)
      | (go_at_call 10; (with_reducible refine (hP _).mono ?_); rintro x w3 ⟨rfl, hb3⟩; have hx3 := hbx.call hb3; obtain ⟨a0, a1, a2, a3, a4, a5, a6, a7, a8⟩ := hx3.cells)
      | (go_at_call_of 12 ((q0 : Nat) : Int); go_at_call_of 12 (Value.bool true); (with_reducible refine (hD _).mono ?_); rintro x w7 ⟨rfl, hb7⟩; have hx7 := hx6.call hb7)
      | (go_at_call_of 12 ((p0 : Nat) : Int); go_at_call_of 12 (Value.bool true); (with_reducible refine (hC _).mono ?_); rintro x w6 ⟨rfl, hb6⟩; have hx6 := hx5b.call hb6; obtain ⟨d0, d1, d2, d3, d4, d5, d6, d7, d8⟩ := hx6.cells)
      | (go_at_call_of 12 ((q0 : Nat) : Int); (with_reducible refine (hB _).mono ?_); rintro x w5 ⟨rfl, hb5⟩; have hx5 := hx4.call hb5; obtain ⟨c0, c1, c2, c3, c4, c5, c6, c7, c8⟩ := hx5.cells; have hx5b := hx5.set0 true; obtain ⟨e0, e1, e2, e3, e4, e5, e6, e7, e8⟩ := hx5b.cells)
      | (go_at_call_of 12 ((p0 : Nat) : Int); (with_reducible refine (hA _).mono ?_); rintro x w4 ⟨rfl, hb4⟩; have hx4 := hx3.call hb4; obtain ⟨b0, b1, b2, b3, b4, b5, b6, b7, b8⟩ := hx4.cells)
      | (go_at_call 11; refine (hL _).mono ?_; rintro x w8 ⟨rfl, hb8⟩))
    go_ret
    exact ⟨rfl, bel_call hx7.bl hb8 (Nat.le_refl _)⟩
  · have hZ := sized6_any false
    simp only [Bool.false_eq_true, if_false] at hZ
    rw [show (2147483648 : Int) - 1 = 2147483647 by decide] at hand
    go_enter Tryz.func4, Tryz.ntmps4
    go_wp2_with (first
      | (go_at_call 9; (with_reducible refine (hZ _).mono ?_); rintro x w2 ⟨rfl, rfl⟩)
      | (go_at_call 10; (with_reducible refine (hP _).mono ?_); rintro x w3 ⟨rfl, hb3⟩; have hx3 := hbx.call hb3; obtain ⟨a0, a1, a2, a3, a4, a5, a6, a7, a8⟩ := hx3.cells)
      | (go_at_call_of 12 ((q0 : Nat) : Int); go_at_call_of 12 (Value.bool true); (with_reducible refine (hD _).mono ?_); rintro x w7 ⟨rfl, hb7⟩; have hx7 := hx6.call hb7)
      | (go_at_call_of 12 ((p0 : Nat) : Int); go_at_call_of 12 (Value.bool true); (with_reducible refine (hC _).mono ?_); rintro x w6 ⟨rfl, hb6⟩; have hx6 := hx5b.call hb6; obtain ⟨d0, d1, d2, d3, d4, d5, d6, d7, d8⟩ := hx6.cells)
      | (go_at_call_of 12 ((q0 : Nat) : Int); (with_reducible refine (hB _).mono ?_); rintro x w5 ⟨rfl, hb5⟩; have hx5 := hx4.call hb5; obtain ⟨c0, c1, c2, c3, c4, c5, c6, c7, c8⟩ := hx5.cells; have hx5b := hx5.set0 true; obtain ⟨e0, e1, e2, e3, e4, e5, e6, e7, e8⟩ := hx5b.cells)
      | (go_at_call_of 12 ((p0 : Nat) : Int); (with_reducible refine (hA _).mono ?_); rintro x w4 ⟨rfl, hb4⟩; have hx4 := hx3.call hb4; obtain ⟨b0, b1, b2, b3, b4, b5, b6, b7, b8⟩ := hx4.cells)
      | (go_at_call 11; refine (hL _).mono ?_; rintro x w8 ⟨rfl, hb8⟩))
    go_ret
    exact ⟨rfl, bel_call hx7.bl hb8 (Nat.le_refl _)⟩
set_option maxRecDepth 1000000 in
set_option maxHeartbeats 8000000 in
theorem signs_ref {bits p0 q0 m : Nat} {n x T : Int} {b sg : Bool} (p mi sh sp z : Bool) (wid prec verb : Int) (hb : b = true ∧ n = 64 ∧ T = 9223372036854775808 ∨ b = false ∧ n = 32 ∧ T = 2147483648) (hand : Go.bits BinOp.and IntKind.u64 (bits : Int) (T - 1) = (p0 : Nat)) (hor : Go.bits BinOp.or IntKind.u64 (p0 : Int) T = (q0 : Nat)) (hP : PtC p0 n sg m x 0)
    (hA : FlC p0 n false mi sh false z (-1) prec verb ⟨#[]⟩ false) (hB : FlC q0 n false mi sh false z (-1) prec verb ⟨#[]⟩ false) (hC : FlC p0 n true mi sh false z (-1) prec verb ⟨#[]⟩ false) (hD : FlC q0 n true mi sh false z (-1) prec verb ⟨#[]⟩ false) (w : World) :
    Calls Tryz.prog 4 #[.int .u64 bits, .bool b, .agg #[.bool p, .bool mi, .bool sh, .bool sp, .bool z, .int .i64 wid, .int .i64 prec, .int .i32 verb]] w fun e w' => e = .returned (.bool true) ∧ Below w.heap.size w w' := by
  have hL := lives6_any
  have hbx := Bx6.new w false mi sh false z (-1) prec verb
  rcases hb with ⟨rfl, rfl, rfl⟩ | ⟨rfl, rfl, rfl⟩
  · have hZ := sized6_any true
    simp only [if_true] at hZ
    rw [show (9223372036854775808 : Int) - 1 = 9223372036854775807 by decide] at hand
    go_enter Tryz.func4, Tryz.ntmps4
    go_wp2_with (first
      | (go_at_call 9; (with_reducible refine (hZ _).mono ?_); rintro x w2 ⟨rfl, rfl⟩)
      | (go_at_call 10; (with_reducible refine (hP _).mono ?_); rintro x w3 ⟨rfl, hb3⟩; have hx3 := hbx.call hb3; obtain ⟨a0, a1, a2, a3, a4, a5, a6, a7, a8⟩ := hx3.cells)
      | (go_at_call_of 12 ((q0 : Nat) : Int); go_at_call_of 12 (Value.bool true); (with_reducible refine (hD _).mono ?_); rintro x w7 ⟨rfl, hb7⟩; have hx7 := hx6.call hb7)
      | (go_at_call_of 12 ((p0 : Nat) : Int); go_at_call_of 12 (Value.bool true); (with_reducible refine (hC _).mono ?_); rintro x w6 ⟨rfl, hb6⟩; have hx6 := hx5b.call hb6; obtain ⟨d0, d1, d2, d3, d4, d5, d6, d7, d8⟩ := hx6.cells)
      | (go_at_call_of 12 ((q0 : Nat) : Int); (with_reducible refine (hB _).mono ?_); rintro x w5 ⟨rfl, hb5⟩; have hx5 := hx4.call hb5; obtain ⟨c0, c1, c2, c3, c4, c5, c6, c7, c8⟩ := hx5.cells; have hx5b := hx5.set0 true; obtain ⟨e0, e1, e2, e3, e4, e5, e6, e7, e8⟩ := hx5b.cells)
      | (go_at_call_of 12 ((p0 : Nat) : Int); (with_reducible refine (hA _).mono ?_); rintro x w4 ⟨rfl, hb4⟩; have hx4 := hx3.call hb4; obtain ⟨b0, b1, b2, b3, b4, b5, b6, b7, b8⟩ := hx4.cells)
      | (go_at_call 11; refine (hL _).mono ?_; rintro x w8 ⟨rfl, hb8⟩))
    go_ret
    exact ⟨rfl, bel_call hx7.bl hb8 (Nat.le_refl _)⟩
  · have hZ := sized6_any false
    simp only [Bool.false_eq_true, if_false] at hZ
    rw [show (2147483648 : Int) - 1 = 2147483647 by decide] at hand
    go_enter Tryz.func4, Tryz.ntmps4
    go_wp2_with (first
      | (go_at_call 9; (with_reducible refine (hZ _).mono ?_); rintro x w2 ⟨rfl, rfl⟩)
      | (go_at_call 10; (with_reducible refine (hP _).mono ?_); rintro x w3 ⟨rfl, hb3⟩; have hx3 := hbx.call hb3; obtain ⟨a0, a1, a2, a3, a4, a5, a6, a7, a8⟩ := hx3.cells)
      | (go_at_call_of 12 ((q0 : Nat) : Int); go_at_call_of 12 (Value.bool true); (with_reducible refine (hD _).mono ?_); rintro x w7 ⟨rfl, hb7⟩; have hx7 := hx6.call hb7)
      | (go_at_call_of 12 ((p0 : Nat) : Int); go_at_call_of 12 (Value.bool true); (with_reducible refine (hC _).mono ?_); rintro x w6 ⟨rfl, hb6⟩; have hx6 := hx5b.call hb6; obtain ⟨d0, d1, d2, d3, d4, d5, d6, d7, d8⟩ := hx6.cells)
      | (go_at_call_of 12 ((q0 : Nat) : Int); (with_reducible refine (hB _).mono ?_); rintro x w5 ⟨rfl, hb5⟩; have hx5 := hx4.call hb5; obtain ⟨c0, c1, c2, c3, c4, c5, c6, c7, c8⟩ := hx5.cells; have hx5b := hx5.set0 true; obtain ⟨e0, e1, e2, e3, e4, e5, e6, e7, e8⟩ := hx5b.cells)
      | (go_at_call_of 12 ((p0 : Nat) : Int); (with_reducible refine (hA _).mono ?_); rintro x w4 ⟨rfl, hb4⟩; have hx4 := hx3.call hb4; obtain ⟨b0, b1, b2, b3, b4, b5, b6, b7, b8⟩ := hx4.cells)
      | (go_at_call 11; refine (hL _).mono ?_; rintro x w8 ⟨rfl, hb8⟩))
    go_ret
    exact ⟨rfl, bel_call hx7.bl hb8 (Nat.le_refl _)⟩
theorem sg_app (t : ByteArray) : (⟨#[]⟩ : ByteArray) ++ t = t := by
  apply ByteArray.ext; apply Array.ext'
  rw [app_list]; rfl
theorem floatsSigns_walk (m0 : Int) (hm0 : (Lit.int .u64 m0).wf = true) (b : Bool) (p mi sh sp z : Bool) (wid prec verb : Int) (_h5 : (Lit.int .i64 wid).wf = true) (_h6 : (Lit.int .i64 prec).wf = true) (w : World) :
    Calls Tryz.prog 4 #[.int .u64 m0, .bool b, .agg #[.bool p, .bool mi, .bool sh, .bool sp, .bool z, .int .i64 wid, .int .i64 prec, .int .i32 verb]] w fun e w' => e = .returned (.bool true) ∧ Below w.heap.size w w' := by
  obtain ⟨h0, h1⟩ := wfu64 m0 hm0
  obtain ⟨bits, rfl⟩ := Int.eq_ofNat_of_zero_le h0
  have hb : bits < 18446744073709551616 := by omega
  obtain ⟨n, f, ww, least, I, T, p0, hly, hbn, hand, hp0, hT2, hbp, hbq, hsp, hsq⟩ : ∃ (n : Int) (f ww : Nat) (least : Int) (I : Nat) (T p0 : Nat), Ly n f ww least I ∧ (b = true ∧ n = 64 ∧ (T : Int) = 9223372036854775808 ∨ b = false ∧ n = 32 ∧ (T : Int) = 2147483648) ∧ Go.bits BinOp.and IntKind.u64 (bits : Int) ((T : Int) - 1) = (p0 : Nat) ∧ p0 < T ∧ (∃ k, T = 2 ^ k ∧ T < 18446744073709551616 ∧ p0 + T < 18446744073709551616) ∧ bare f ww p0 = p0 ∧ bare f ww (p0 + T) = p0 ∧ sgn f ww p0 = false ∧ sgn f ww (p0 + T) = true := by
    cases b with
    | true =>
      have hp : bits % (9223372036854775807 + 1) < 9223372036854775808 := Nat.mod_lt _ (by decide)
      refine ⟨64, 52, 11, -1074, 9218868437227405312, 9223372036854775808, bits % (9223372036854775807 + 1), lyB, .inl ⟨rfl, rfl, rfl⟩, bits_low bits 63 9223372036854775807 hb rfl (by decide), hp, ⟨63, rfl, by decide, by omega⟩, ?_, ?_, ?_, ?_⟩
      all_goals generalize bits % (9223372036854775807 + 1) = p0 at *
      · show p0 % 9223372036854775808 = p0; omega
      · show (p0 + 9223372036854775808) % 9223372036854775808 = p0; omega
      · show decide (p0 / 9223372036854775808 % 2 = 1) = false; exact decide_eq_false (by omega)
      · show decide ((p0 + 9223372036854775808) / 9223372036854775808 % 2 = 1) = true; exact decide_eq_true (by omega)
    | false =>
      have hp : bits % (2147483647 + 1) < 2147483648 := Nat.mod_lt _ (by decide)
      refine ⟨32, 23, 8, -149, 2139095040, 2147483648, bits % (2147483647 + 1), lyA, .inr ⟨rfl, rfl, rfl⟩, bits_low bits 31 2147483647 hb rfl (by decide), hp, ⟨31, rfl, by decide, by omega⟩, ?_, ?_, ?_, ?_⟩
      all_goals generalize bits % (2147483647 + 1) = p0 at *
      · show p0 % 2147483648 = p0; omega
      · show (p0 + 2147483648) % 2147483648 = p0; omega
      · show decide (p0 / 2147483648 % 2 = 1) = false; exact decide_eq_false (by omega)
      · show decide ((p0 + 2147483648) / 2147483648 % 2 = 1) = true; exact decide_eq_true (by omega)
  obtain ⟨k, hk, hT3, hq⟩ := hT2
  have hor := bits_or p0 k T hp0 hk hT3
  have hpt := ptc_any (bits := p0) hly (by omega)
  by_cases hp : bare f ww p0 < I
  · have e3 : ptK f ww I p0 = 0 := by unfold ptK; rw [if_pos hp]
    rw [e3] at hpt
    cases hv : fVerb verb with
    | false => exact signs_ref p mi sh sp z wid prec verb hbn hand hor hpt (float_none (by omega) false mi sh false z (-1) prec verb (.inl hv)) (float_none (by omega) false mi sh false z (-1) prec verb (.inl hv)) (float_none (by omega) true mi sh false z (-1) prec verb (.inl hv)) (float_none (by omega) true mi sh false z (-1) prec verb (.inl hv)) w
    | true =>
      obtain ⟨d, hd, gd, hF⟩ := fin_of (bits := p0) hly (by omega) hp
      obtain ⟨d2, hd2, gd2, hF2⟩ := fin_of (bits := p0 + T) hly (by omega) (by rw [hbq, ← hbp]; exact hp)
      rw [hbp] at hd hF
      rw [hbq] at hd2 hF2
      have ed := hd.uniq hd2
      subst ed
      rw [hsp] at hF
      rw [hsq] at hF2
      have A := float_fin hF false mi sh false z (-1) prec verb hv
      have B := float_fin hF2 false mi sh false z (-1) prec verb hv
      have C := float_fin hF true mi sh false z (-1) prec verb hv
      have D := float_fin hF2 true mi sh false z (-1) prec verb hv
      have hz := (fin_size (sh := sh) (prec := prec) (e := least + pk f p0) (verb := verb) hF.fv hF.dl hF.dp hF.m53).2
      rw [filT_off _ _ _ _ (sgF_size _ _ _)] at A B C D
      rw [show sgF false false false = ⟨#[]⟩ from rfl, sg_app] at A
      exact signs_yes p mi sh sp z wid prec verb hbn hand hor hpt A B C D rfl rfl (by rw [show (⟨#[45]⟩ : ByteArray).size = 1 from rfl]; omega) (by rw [show (⟨#[43]⟩ : ByteArray).size = 1 from rfl]; omega) w
  · have e3 : ¬ ptK f ww I p0 = 0 := by unfold ptK; rw [if_neg hp]; split <;> decide
    exact signs_no p mi sh sp z wid prec verb hbn hand e3 hpt w
end Go.Proofs.YtkeoafidgfmhlabGreatDoor
