/- MWalkD, KMath, KArith: these texts in one. -/
import Derived.Test.YthbabhbfpcfenaaGreatDoorPkM11
import Derived.Test.YthbabhbfpcfenaaGreatDoorPkF26
import Derived.Test.YthbabhbfpcfenaaGreatDoorPkF1
import Derived.Test.YthbabhbfpcfenaaGreatDoorPkM10
import Derived.Test.YthbabhbfpcfenaaGreatDoorPkM7
/- The document's answer for layer 6: Verb, Float. -/
namespace Go.Proofs.YthbabhbfpcfenaaGreatDoor
open Go.RowKit
set_option linter.unusedVariables false
set_option linter.unusedSimpArgs false

abbrev MfC (bits : Nat) (size : Int) (p mi sh sp z : Bool) (wid prec verb : Int) (s : ByteArray) (b : Bool) : Prop := ∀ w, Calls Tryz.prog 17 #[.int .u64 bits, .int .i64 size, .agg #[.bool p, .bool mi, .bool sh, .bool sp, .bool z, .int .i64 wid, .int .i64 prec, .int .i32 verb]] w fun e w' => e = .returned (.tuple #[.string s, .bool b]) ∧ Below w.heap.size w w'
abbrev KpC (bits : Nat) (size : Int) (sg : Bool) (m : Nat) (x k : Int) : Prop := ∀ w, Calls Tryz.prog 30 #[.int .u64 bits, .int .i64 size] w fun e w' => e = .returned (.tuple #[.bool sg, .int .u64 m, .int .i64 x, .int .i64 k]) ∧ Below w.heap.size w w'
set_option maxRecDepth 1000000 in
set_option maxHeartbeats 1000000 in
theorem mfl_size {bits m : Nat} {size x : Int} {sg : Bool} (p mi sh sp z : Bool) (wid prec verb : Int) (hP : KpC bits size sg m x 3) : MfC bits size p mi sh sp z wid prec verb ⟨#[]⟩ false := fun w => by
  have hbA : Below w.heap.size w (w.alloc (.cells #[.bool p, .bool mi, .bool sh, .bool sp, .bool z, .int .i64 wid, .int .i64 prec, .int .i32 verb] 26)) := (Below.refl _ _).alloc (Nat.le_refl _) _
  have f0 : ∀ x : Cl (w.alloc (.cells #[.bool p, .bool mi, .bool sh, .bool sp, .bool z, .int .i64 wid, .int .i64 prec, .int .i32 verb] 26)), x.w.cell? ⟨w.heap.size, 0, none⟩ = some (.bool p) := fun x => x.cell (by simp)
  have f1 : ∀ x : Cl (w.alloc (.cells #[.bool p, .bool mi, .bool sh, .bool sp, .bool z, .int .i64 wid, .int .i64 prec, .int .i32 verb] 26)), x.w.cell? ⟨w.heap.size, 1, none⟩ = some (.bool mi) := fun x => x.cell (by simp)
  have f2 : ∀ x : Cl (w.alloc (.cells #[.bool p, .bool mi, .bool sh, .bool sp, .bool z, .int .i64 wid, .int .i64 prec, .int .i32 verb] 26)), x.w.cell? ⟨w.heap.size, 2, none⟩ = some (.bool sh) := fun x => x.cell (by simp)
  have f3 : ∀ x : Cl (w.alloc (.cells #[.bool p, .bool mi, .bool sh, .bool sp, .bool z, .int .i64 wid, .int .i64 prec, .int .i32 verb] 26)), x.w.cell? ⟨w.heap.size, 3, none⟩ = some (.bool sp) := fun x => x.cell (by simp)
  have f4 : ∀ x : Cl (w.alloc (.cells #[.bool p, .bool mi, .bool sh, .bool sp, .bool z, .int .i64 wid, .int .i64 prec, .int .i32 verb] 26)), x.w.cell? ⟨w.heap.size, 4, none⟩ = some (.bool z) := fun x => x.cell (by simp)
  have f5 : ∀ x : Cl (w.alloc (.cells #[.bool p, .bool mi, .bool sh, .bool sp, .bool z, .int .i64 wid, .int .i64 prec, .int .i32 verb] 26)), x.w.cell? ⟨w.heap.size, 5, none⟩ = some (.int .i64 wid) := fun x => x.cell (by simp)
  have f6 : ∀ x : Cl (w.alloc (.cells #[.bool p, .bool mi, .bool sh, .bool sp, .bool z, .int .i64 wid, .int .i64 prec, .int .i32 verb] 26)), x.w.cell? ⟨w.heap.size, 6, none⟩ = some (.int .i64 prec) := fun x => x.cell (by simp)
  have f7 : ∀ x : Cl (w.alloc (.cells #[.bool p, .bool mi, .bool sh, .bool sp, .bool z, .int .i64 wid, .int .i64 prec, .int .i32 verb] 26)), x.w.cell? ⟨w.heap.size, 7, none⟩ = some (.int .i32 verb) := fun x => x.cell (by simp)
  go_enter Tryz.func17, Tryz.ntmps17
  go_wp2_with (go_at_call 30; (with_reducible refine (hP _).mono ?_); rintro x w0 ⟨rfl, hb0⟩; obtain ⟨y0, rfl⟩ := Cl.start hb0)
  go_returns
  exact ⟨rfl, bel_call hbA y0.below (Nat.le_refl _)⟩
set_option maxRecDepth 1000000 in
set_option maxHeartbeats 1000000 in
theorem mfl_verb {bits m : Nat} {size x k : Int} {sg : Bool} (p mi sh sp z : Bool) (wid prec verb : Int) (hk : ¬ k = 3) (hV : MvC verb false) (hP : KpC bits size sg m x k) : MfC bits size p mi sh sp z wid prec verb ⟨#[]⟩ false := fun w => by
  have hbA : Below w.heap.size w (w.alloc (.cells #[.bool p, .bool mi, .bool sh, .bool sp, .bool z, .int .i64 wid, .int .i64 prec, .int .i32 verb] 26)) := (Below.refl _ _).alloc (Nat.le_refl _) _
  have f0 : ∀ x : Cl (w.alloc (.cells #[.bool p, .bool mi, .bool sh, .bool sp, .bool z, .int .i64 wid, .int .i64 prec, .int .i32 verb] 26)), x.w.cell? ⟨w.heap.size, 0, none⟩ = some (.bool p) := fun x => x.cell (by simp)
  have f1 : ∀ x : Cl (w.alloc (.cells #[.bool p, .bool mi, .bool sh, .bool sp, .bool z, .int .i64 wid, .int .i64 prec, .int .i32 verb] 26)), x.w.cell? ⟨w.heap.size, 1, none⟩ = some (.bool mi) := fun x => x.cell (by simp)
  have f2 : ∀ x : Cl (w.alloc (.cells #[.bool p, .bool mi, .bool sh, .bool sp, .bool z, .int .i64 wid, .int .i64 prec, .int .i32 verb] 26)), x.w.cell? ⟨w.heap.size, 2, none⟩ = some (.bool sh) := fun x => x.cell (by simp)
  have f3 : ∀ x : Cl (w.alloc (.cells #[.bool p, .bool mi, .bool sh, .bool sp, .bool z, .int .i64 wid, .int .i64 prec, .int .i32 verb] 26)), x.w.cell? ⟨w.heap.size, 3, none⟩ = some (.bool sp) := fun x => x.cell (by simp)
  have f4 : ∀ x : Cl (w.alloc (.cells #[.bool p, .bool mi, .bool sh, .bool sp, .bool z, .int .i64 wid, .int .i64 prec, .int .i32 verb] 26)), x.w.cell? ⟨w.heap.size, 4, none⟩ = some (.bool z) := fun x => x.cell (by simp)
  have f5 : ∀ x : Cl (w.alloc (.cells #[.bool p, .bool mi, .bool sh, .bool sp, .bool z, .int .i64 wid, .int .i64 prec, .int .i32 verb] 26)), x.w.cell? ⟨w.heap.size, 5, none⟩ = some (.int .i64 wid) := fun x => x.cell (by simp)
  have f6 : ∀ x : Cl (w.alloc (.cells #[.bool p, .bool mi, .bool sh, .bool sp, .bool z, .int .i64 wid, .int .i64 prec, .int .i32 verb] 26)), x.w.cell? ⟨w.heap.size, 6, none⟩ = some (.int .i64 prec) := fun x => x.cell (by simp)
  have f7 : ∀ x : Cl (w.alloc (.cells #[.bool p, .bool mi, .bool sh, .bool sp, .bool z, .int .i64 wid, .int .i64 prec, .int .i32 verb] 26)), x.w.cell? ⟨w.heap.size, 7, none⟩ = some (.int .i32 verb) := fun x => x.cell (by simp)
  have b1 : (k == 3) = false := by simp [hk]
  go_enter Tryz.func17, Tryz.ntmps17
  go_wp2_with (first
    | (go_at_call 30; (with_reducible refine (hP _).mono ?_); rintro x w0 ⟨rfl, hb0⟩; obtain ⟨y0, rfl⟩ := Cl.start hb0)
    | (go_at_call 15; (with_reducible refine (hV _).mono ?_); rintro x w3 ⟨rfl, hb3⟩; obtain ⟨y3, rfl⟩ := Cl.next hb3))
  go_returns
  exact ⟨rfl, bel_call hbA y3.below (Nat.le_refl _)⟩
set_option maxRecDepth 1000000 in
set_option maxHeartbeats 2000000 in
theorem mfl_nan {bits m : Nat} {size x : Int} {sg : Bool} (p mi sh sp z : Bool) (wid prec verb : Int) (hV : MvC verb true) (hP : KpC bits size sg m x 2) : MfC bits size p mi sh sp z wid prec verb (padS (sgF false p sp ++ ⟨#[78, 97, 78]⟩) mi false wid) true := fun w => by
  have hbA : Below w.heap.size w (w.alloc (.cells #[.bool p, .bool mi, .bool sh, .bool sp, .bool z, .int .i64 wid, .int .i64 prec, .int .i32 verb] 26)) := (Below.refl _ _).alloc (Nat.le_refl _) _
  have f0 : ∀ x : Cl (w.alloc (.cells #[.bool p, .bool mi, .bool sh, .bool sp, .bool z, .int .i64 wid, .int .i64 prec, .int .i32 verb] 26)), x.w.cell? ⟨w.heap.size, 0, none⟩ = some (.bool p) := fun x => x.cell (by simp)
  have f1 : ∀ x : Cl (w.alloc (.cells #[.bool p, .bool mi, .bool sh, .bool sp, .bool z, .int .i64 wid, .int .i64 prec, .int .i32 verb] 26)), x.w.cell? ⟨w.heap.size, 1, none⟩ = some (.bool mi) := fun x => x.cell (by simp)
  have f2 : ∀ x : Cl (w.alloc (.cells #[.bool p, .bool mi, .bool sh, .bool sp, .bool z, .int .i64 wid, .int .i64 prec, .int .i32 verb] 26)), x.w.cell? ⟨w.heap.size, 2, none⟩ = some (.bool sh) := fun x => x.cell (by simp)
  have f3 : ∀ x : Cl (w.alloc (.cells #[.bool p, .bool mi, .bool sh, .bool sp, .bool z, .int .i64 wid, .int .i64 prec, .int .i32 verb] 26)), x.w.cell? ⟨w.heap.size, 3, none⟩ = some (.bool sp) := fun x => x.cell (by simp)
  have f4 : ∀ x : Cl (w.alloc (.cells #[.bool p, .bool mi, .bool sh, .bool sp, .bool z, .int .i64 wid, .int .i64 prec, .int .i32 verb] 26)), x.w.cell? ⟨w.heap.size, 4, none⟩ = some (.bool z) := fun x => x.cell (by simp)
  have f5 : ∀ x : Cl (w.alloc (.cells #[.bool p, .bool mi, .bool sh, .bool sp, .bool z, .int .i64 wid, .int .i64 prec, .int .i32 verb] 26)), x.w.cell? ⟨w.heap.size, 5, none⟩ = some (.int .i64 wid) := fun x => x.cell (by simp)
  have f6 : ∀ x : Cl (w.alloc (.cells #[.bool p, .bool mi, .bool sh, .bool sp, .bool z, .int .i64 wid, .int .i64 prec, .int .i32 verb] 26)), x.w.cell? ⟨w.heap.size, 6, none⟩ = some (.int .i64 prec) := fun x => x.cell (by simp)
  have f7 : ∀ x : Cl (w.alloc (.cells #[.bool p, .bool mi, .bool sh, .bool sp, .bool z, .int .i64 wid, .int .i64 prec, .int .i32 verb] 26)), x.w.cell? ⟨w.heap.size, 7, none⟩ = some (.int .i32 verb) := fun x => x.cell (by simp)
  have hs := sgF_size false p sp
  have h1 : (⟨#[78, 97, 78]⟩ : ByteArray).size = 3 := rfl
  have hPl : ∀ w, Calls Tryz.prog 31 #[.string (sgF false p sp ++ ⟨#[78, 97, 78]⟩), .agg #[.bool p, .bool mi, .bool sh, .bool sp, .bool z, .int .i64 wid, .int .i64 prec, .int .i32 verb]] w fun e w' => e = .returned (.string (padS (sgF false p sp ++ ⟨#[78, 97, 78]⟩) mi false wid)) ∧ Below w.heap.size w w' := fun w => rplain_any _ p mi sh sp z wid prec verb w (by rw [app_size]; omega)
  clear hs
  generalize padS (sgF false p sp ++ ⟨#[78, 97, 78]⟩) mi false wid = R at *
  cases p <;> cases sp
  all_goals
    go_enter Tryz.func17, Tryz.ntmps17
    go_wp2_with (first
      | (go_at_call 30; (with_reducible refine (hP _).mono ?_); rintro x w0 ⟨rfl, hb0⟩; obtain ⟨y0, rfl⟩ := Cl.start hb0)
      | (go_at_call 15; (with_reducible refine (hV _).mono ?_); rintro x w3 ⟨rfl, hb3⟩; obtain ⟨y3, rfl⟩ := Cl.next hb3)
      | (go_at_call 31; refine (hPl _).mono ?_; rintro x w4 ⟨rfl, hb4⟩; obtain ⟨y4, rfl⟩ := Cl.next hb4))
    go_returns
    exact ⟨rfl, bel_call hbA y4.below (Nat.le_refl _)⟩
set_option maxRecDepth 1000000 in
set_option maxHeartbeats 2000000 in
theorem mfl_inf {bits m : Nat} {size x : Int} {sg : Bool} (p mi sh sp z : Bool) (wid prec verb : Int) (hV : MvC verb true) (hP : KpC bits size sg m x 1) : MfC bits size p mi sh sp z wid prec verb (padS (sgI sg p sp ++ ⟨#[73, 110, 102]⟩) mi false wid) true := fun w => by
  have hbA : Below w.heap.size w (w.alloc (.cells #[.bool p, .bool mi, .bool sh, .bool sp, .bool z, .int .i64 wid, .int .i64 prec, .int .i32 verb] 26)) := (Below.refl _ _).alloc (Nat.le_refl _) _
  have f0 : ∀ x : Cl (w.alloc (.cells #[.bool p, .bool mi, .bool sh, .bool sp, .bool z, .int .i64 wid, .int .i64 prec, .int .i32 verb] 26)), x.w.cell? ⟨w.heap.size, 0, none⟩ = some (.bool p) := fun x => x.cell (by simp)
  have f1 : ∀ x : Cl (w.alloc (.cells #[.bool p, .bool mi, .bool sh, .bool sp, .bool z, .int .i64 wid, .int .i64 prec, .int .i32 verb] 26)), x.w.cell? ⟨w.heap.size, 1, none⟩ = some (.bool mi) := fun x => x.cell (by simp)
  have f2 : ∀ x : Cl (w.alloc (.cells #[.bool p, .bool mi, .bool sh, .bool sp, .bool z, .int .i64 wid, .int .i64 prec, .int .i32 verb] 26)), x.w.cell? ⟨w.heap.size, 2, none⟩ = some (.bool sh) := fun x => x.cell (by simp)
  have f3 : ∀ x : Cl (w.alloc (.cells #[.bool p, .bool mi, .bool sh, .bool sp, .bool z, .int .i64 wid, .int .i64 prec, .int .i32 verb] 26)), x.w.cell? ⟨w.heap.size, 3, none⟩ = some (.bool sp) := fun x => x.cell (by simp)
  have f4 : ∀ x : Cl (w.alloc (.cells #[.bool p, .bool mi, .bool sh, .bool sp, .bool z, .int .i64 wid, .int .i64 prec, .int .i32 verb] 26)), x.w.cell? ⟨w.heap.size, 4, none⟩ = some (.bool z) := fun x => x.cell (by simp)
  have f5 : ∀ x : Cl (w.alloc (.cells #[.bool p, .bool mi, .bool sh, .bool sp, .bool z, .int .i64 wid, .int .i64 prec, .int .i32 verb] 26)), x.w.cell? ⟨w.heap.size, 5, none⟩ = some (.int .i64 wid) := fun x => x.cell (by simp)
  have f6 : ∀ x : Cl (w.alloc (.cells #[.bool p, .bool mi, .bool sh, .bool sp, .bool z, .int .i64 wid, .int .i64 prec, .int .i32 verb] 26)), x.w.cell? ⟨w.heap.size, 6, none⟩ = some (.int .i64 prec) := fun x => x.cell (by simp)
  have f7 : ∀ x : Cl (w.alloc (.cells #[.bool p, .bool mi, .bool sh, .bool sp, .bool z, .int .i64 wid, .int .i64 prec, .int .i32 verb] 26)), x.w.cell? ⟨w.heap.size, 7, none⟩ = some (.int .i32 verb) := fun x => x.cell (by simp)
  have hs := sgI_size sg p sp
  have h1 : (⟨#[73, 110, 102]⟩ : ByteArray).size = 3 := rfl
  have hPl : ∀ w, Calls Tryz.prog 31 #[.string (sgI sg p sp ++ ⟨#[73, 110, 102]⟩), .agg #[.bool p, .bool mi, .bool sh, .bool sp, .bool z, .int .i64 wid, .int .i64 prec, .int .i32 verb]] w fun e w' => e = .returned (.string (padS (sgI sg p sp ++ ⟨#[73, 110, 102]⟩) mi false wid)) ∧ Below w.heap.size w w' := fun w => rplain_any _ p mi sh sp z wid prec verb w (by rw [app_size]; omega)
  clear hs
  generalize padS (sgI sg p sp ++ ⟨#[73, 110, 102]⟩) mi false wid = R at *
  cases sg <;> cases p <;> cases sp
  all_goals
    go_enter Tryz.func17, Tryz.ntmps17
    go_wp2_with (first
      | (go_at_call 30; (with_reducible refine (hP _).mono ?_); rintro x w0 ⟨rfl, hb0⟩; obtain ⟨y0, rfl⟩ := Cl.start hb0)
      | (go_at_call 15; (with_reducible refine (hV _).mono ?_); rintro x w3 ⟨rfl, hb3⟩; obtain ⟨y3, rfl⟩ := Cl.next hb3)
      | (go_at_call 31; refine (hPl _).mono ?_; rintro x w4 ⟨rfl, hb4⟩; obtain ⟨y4, rfl⟩ := Cl.next hb4))
    go_returns
    exact ⟨rfl, bel_call hbA y4.below (Nat.le_refl _)⟩
end Go.Proofs.YthbabhbfpcfenaaGreatDoor

/- Plain mathematics of rows of digits, the lowest first; the walk of the document's less. -/
namespace Go.Proofs.YthbabhbfpcfenaaGreatDoor
open Go.RowKit
set_option linter.unusedVariables false
set_option linter.unusedSimpArgs false

theorem le_nil : le [] = 0 := rfl
theorem le_cons (d : Nat) (l : List Nat) : le (d :: l) = d + 10 * le l := rfl
theorem le_app (a b : List Nat) : le (a ++ b) = le a + 10 ^ a.length * le b := by
  induction a with
  | nil => simp [le_nil]
  | cons x a ih =>
    rw [List.cons_append, le_cons, ih, le_cons, List.length_cons, Nat.pow_succ, Nat.mul_add, Nat.mul_comm (10 ^ a.length) 10, Nat.mul_assoc, Nat.add_assoc]
theorem le_bound (l : List Nat) (h : ∀ x ∈ l, x < 10) : le l < 10 ^ l.length := by
  induction l with
  | nil => simp [le_nil]
  | cons x l ih =>
    have h1 := ih fun y hy => h y (by simp [hy])
    have h2 := h x (by simp)
    rw [le_cons, List.length_cons, Nat.pow_succ]; omega
theorem le_drop (xs : List Nat) (j : Nat) : le (xs.drop j) = xs.getD j 0 + 10 * le (xs.drop (j + 1)) := by
  rcases Nat.lt_or_ge j xs.length with h | h
  · rw [List.drop_eq_getElem_cons h, le_cons, List.getD_eq_getElem?_getD, List.getElem?_eq_getElem h, Option.getD_some]
  · rw [List.drop_eq_nil_of_le h, List.drop_eq_nil_of_le (by omega), List.getD_eq_getElem?_getD, List.getElem?_eq_none h]
    simp [le_nil]
theorem le_split (xs : List Nat) (j : Nat) : le xs = le (xs.take j) + 10 ^ j * le (xs.drop j) := by
  rcases Nat.lt_or_ge j xs.length with h | h
  · conv => lhs; rw [← List.take_append_drop j xs]
    rw [le_app, List.length_take, Nat.min_eq_left (by omega)]
  · rw [List.take_of_length_le h, List.drop_eq_nil_of_le h]
    simp [le_nil]
theorem le_take_lt (xs : List Nat) (h : ∀ x ∈ xs, x < 10) (j : Nat) : le (xs.take j) < 10 ^ j := by
  have := le_bound (xs.take j) fun x hx => h x (List.mem_of_mem_take hx)
  exact Nat.lt_of_lt_of_le this (Nat.pow_le_pow_right (by decide) (by rw [List.length_take]; omega))
theorem le_lt_of {xs ys : List Nat} (hx : ∀ x ∈ xs, x < 10) {j : Nat} (h : le (xs.drop (j + 1)) = le (ys.drop (j + 1))) (hlt : xs.getD j 0 < ys.getD j 0) : le xs < le ys := by
  have a := le_take_lt xs hx j
  have e1 := le_split xs j
  have e2 := le_split ys j
  have d1 := le_drop xs j
  have d2 := le_drop ys j
  have h1 : le (xs.drop j) + 1 ≤ le (ys.drop j) := by omega
  have h2 := Nat.mul_le_mul_left (10 ^ j) h1
  rw [Nat.mul_add, Nat.mul_one] at h2
  omega
theorem getD_lt {xs : List Nat} (h : ∀ x ∈ xs, x < 10) (j : Nat) : xs.getD j 0 < 10 := by
  rcases Nat.lt_or_ge j xs.length with hj | hj
  · rw [List.getD_eq_getElem?_getD, List.getElem?_eq_getElem hj, Option.getD_some]
    exact h _ (List.getElem_mem hj)
  · rw [List.getD_eq_getElem?_getD, List.getElem?_eq_none hj]; decide
theorem getD_past {xs : List Nat} {j : Nat} (hj : xs.length ≤ j) : xs.getD j 0 = 0 := by
  rw [List.getD_eq_getElem?_getD, List.getElem?_eq_none hj]; rfl
theorem take_succ_le (xs : List Nat) (j : Nat) : le (xs.take (j + 1)) = le (xs.take j) + 10 ^ j * xs.getD j 0 := by
  rcases Nat.lt_or_ge j xs.length with h | h
  · rw [List.take_succ_eq_append_getElem h, le_snoc, List.length_take, Nat.min_eq_left (by omega), List.getD_eq_getElem?_getD, List.getElem?_eq_getElem h, Option.getD_some, Nat.mul_comm]
  · rw [List.take_of_length_le h, List.take_of_length_le (by omega), getD_past h, Nat.mul_zero, Nat.add_zero]
/-- A digit of a row, or 0 behind it, as the walks read it. -/
def DigAt (w : World) (ao : Option Addr) (n j x : Nat) : Prop := (j < n ∧ ∃ g, ao = some ⟨g, 0, none⟩ ∧ w.cell? ⟨g, j, none⟩ = some (.int .u8 (x : Int))) ∨ (n ≤ j ∧ x = 0)
theorem Nm.at {w : World} {B : Nat} {ao : Option Addr} {n c : Nat} {xs : List Nat} (h : Nm w B ao n c xs) (j : Nat) : DigAt w ao n j (xs.getD j 0) := by
  have hl := h.len
  rcases Nat.lt_or_ge j n with hj | hj
  · obtain ⟨g, rfl, -, -⟩ := h.head (by omega)
    exact .inl ⟨hj, g, rfl, h.cell j hj⟩
  · exact .inr ⟨hj, getD_past (by omega)⟩
set_option maxRecDepth 1000000 in
set_option maxHeartbeats 6400000 in
theorem kless_any {B B2 n c n2 c2 : Nat} {ao ao2 : Option Addr} {xs ys : List Nat} (w : World) (h : Nm w B ao n c xs) (k : Nm w B2 ao2 n2 c2 ys) (hn : n ≤ 100000) (hn2 : n2 ≤ 100000) :
    Calls Tryz.prog 158 #[.slice ao n c, .slice ao2 n2 c2] w fun e w' => e = .returned (.bool (decide (le xs < le ys))) ∧ w' = w := by
  have HD : Hid (∀ j, DigAt w ao n j (xs.getD j 0) ∧ DigAt w ao2 n2 j (ys.getD j 0) ∧ xs.getD j 0 < 10 ∧ ys.getD j 0 < 10) := fun j => ⟨h.at j, k.at j, getD_lt h.lim j, getD_lt k.lim j⟩
  have HL : Hid (∀ j, le (xs.drop (j + 1)) = le (ys.drop (j + 1)) → (xs.getD j 0 < ys.getD j 0 → decide (le xs < le ys) = true) ∧ (ys.getD j 0 < xs.getD j 0 → decide (le xs < le ys) = false) ∧ (xs.getD j 0 = ys.getD j 0 → le (xs.drop j) = le (ys.drop j))) := fun j hj => by
    refine ⟨fun hlt => ?_, fun hlt => ?_, fun he => ?_⟩
    · exact decide_eq_true (le_lt_of h.lim hj hlt)
    · have := le_lt_of k.lim hj.symm hlt
      exact decide_eq_false (by omega)
    · rw [le_drop xs j, le_drop ys j, hj, he]
  have HE : Hid (le (xs.drop 0) = le (ys.drop 0) → decide (le xs < le ys) = false) := fun he => by
    rw [List.drop_zero, List.drop_zero] at he
    exact decide_eq_false (by omega)
  have HM : Hid (∀ m, n ≤ m → n2 ≤ m → le (xs.drop m) = le (ys.drop m)) := fun m h1 h2 => by
    have a := h.len
    have b := k.len
    rw [List.drop_eq_nil_of_le (by omega), List.drop_eq_nil_of_le (by omega)]
  clear h k
  generalize decide (le xs < le ys) = R at *
  obtain ⟨m, hm0, hm1, hm2⟩ : ∃ m, ((n < n2 ∧ m = n2) ∨ (¬ n < n2 ∧ m = n)) ∧ n ≤ m ∧ n2 ≤ m := by
    by_cases hlt : n < n2
    · exact ⟨n2, .inl ⟨hlt, rfl⟩, by omega, by omega⟩
    · exact ⟨n, .inr ⟨hlt, rfl⟩, by omega, by omega⟩
  have HM' : Hid (le (xs.drop m) = le (ys.drop m)) := HM.out m hm1 hm2
  have hm3 : m ≤ 100000 := by omega
  clear HM
  go_enter Tryz.func158, Tryz.ntmps158
  rcases hm0 with ⟨hlt, rfl⟩ | ⟨hlt, rfl⟩
  · have hltI : (n : Int) < m := by omega
    go_wp2
    go_loopg [6, 7, 8] m (fun g iv xv yv wr => wr = w ∧ ∃ k : Nat, iv = .int .i64 ((k : Int) - 1) ∧ k ≤ g ∧ k ≤ m ∧ Hid (le (xs.drop k) = le (ys.drop k)))
    case atStart => exact ⟨rfl, m, rfl, Nat.le_refl _, Nat.le_refl _, HM'⟩
    case round =>
      obtain ⟨rfl, k, rfl, hkg, hkm, HK⟩ := hrel
      cases k with
      | zero =>
        have e := HE.out HK.out
        subst e
        go_wp2
        go_ret
        exact ⟨rfl, rfl⟩
      | succ j =>
        obtain ⟨hd1, hd2, hd3, hd4⟩ := HD.out j
        have HLj : Hid ((xs.getD j 0 < ys.getD j 0 → R = true) ∧ (ys.getD j 0 < xs.getD j 0 → R = false) ∧ (xs.getD j 0 = ys.getD j 0 → le (xs.drop j) = le (ys.drop j))) := HL.out j HK.out
        clear HD HL HE HK HM'
        generalize xs.getD j 0 = x at *
        generalize ys.getD j 0 = y at *
        have hj0 : ¬ ((j : Int) + 1 - 1 < 0) := by omega
        rcases hd1 with ⟨a1, g1, rfl, a2⟩ | ⟨a1, rfl⟩ <;> rcases hd2 with ⟨b1, g2, rfl, b2⟩ | ⟨b1, rfl⟩
        · have a1I : (j : Int) < n := by omega
          have b1I : (j : Int) < m := by omega
          rcases Nat.lt_trichotomy x y with hxy | hxy | hxy
          · have e := HLj.out.1 hxy
            subst e
            have q1 : ((x : Nat) : Int) < (y : Nat) := by omega
            go_wp2
            all_goals go_ret
            all_goals exact ⟨by first | rfl | (show Ending.returned (.bool (decide (x < y))) = _; rw [decide_eq_true (by omega)]), rfl⟩
          · have HK2 : Hid (le (xs.drop j) = le (ys.drop j)) := HLj.out.2.2 hxy
            clear HLj
            subst hxy
            go_wp2
            go_roundg (gk - 1)
            case measure => omega
            case rel => exact ⟨rfl, j, by go_num, by omega, by omega, HK2⟩
          · have e := HLj.out.2.1 hxy
            subst e
            have q1 : ((y : Nat) : Int) < (x : Nat) := by omega
            go_wp2
            all_goals go_ret
            all_goals exact ⟨by first | rfl | (show Ending.returned (.bool (decide (x < y))) = _; rw [decide_eq_false (by omega)]), rfl⟩
        · have a1I : (j : Int) < n := by omega
          have b1I : ¬ (j : Int) < m := by omega
          rcases Nat.lt_trichotomy x 0 with hxy | hxy | hxy
          · exact absurd hxy (Nat.not_lt_zero _)
          · have HK2 : Hid (le (xs.drop j) = le (ys.drop j)) := HLj.out.2.2 hxy
            clear HLj
            subst hxy
            go_wp2
            go_roundg (gk - 1)
            case measure => omega
            case rel => exact ⟨rfl, j, by go_num, by omega, by omega, HK2⟩
          · have e := HLj.out.2.1 hxy
            subst e
            have q1 : ((0 : Nat) : Int) < (x : Nat) := by omega
            go_wp2
            all_goals go_ret
            all_goals exact ⟨by first | rfl | (show Ending.returned (.bool (decide (x < 0))) = _; rw [decide_eq_false (by omega)]), rfl⟩
        · have a1I : ¬ (j : Int) < n := by omega
          have b1I : (j : Int) < m := by omega
          rcases Nat.lt_trichotomy 0 y with hxy | hxy | hxy
          · have e := HLj.out.1 hxy
            subst e
            have q1 : ((0 : Nat) : Int) < (y : Nat) := by omega
            go_wp2
            all_goals go_ret
            all_goals exact ⟨by first | rfl | (show Ending.returned (.bool (decide (0 < y))) = _; rw [decide_eq_true (by omega)]), rfl⟩
          · have HK2 : Hid (le (xs.drop j) = le (ys.drop j)) := HLj.out.2.2 hxy
            clear HLj
            subst hxy
            go_wp2
            go_roundg (gk - 1)
            case measure => omega
            case rel => exact ⟨rfl, j, by go_num, by omega, by omega, HK2⟩
          · exact absurd hxy (Nat.not_lt_zero _)
        · have a1I : ¬ (j : Int) < n := by omega
          have b1I : ¬ (j : Int) < m := by omega
          rcases Nat.lt_trichotomy 0 0 with hxy | hxy | hxy
          · exact absurd hxy (Nat.not_lt_zero _)
          · have HK2 : Hid (le (xs.drop j) = le (ys.drop j)) := HLj.out.2.2 hxy
            clear HLj
            clear hxy
            go_wp2
            go_roundg (gk - 1)
            case measure => omega
            case rel => exact ⟨rfl, j, by go_num, by omega, by omega, HK2⟩
          · exact absurd hxy (Nat.not_lt_zero _)
  · have hltI : ¬ (m : Int) < n2 := by omega
    go_wp2
    go_loopg [6, 7, 8] m (fun g iv xv yv wr => wr = w ∧ ∃ k : Nat, iv = .int .i64 ((k : Int) - 1) ∧ k ≤ g ∧ k ≤ m ∧ Hid (le (xs.drop k) = le (ys.drop k)))
    case atStart => exact ⟨rfl, m, rfl, Nat.le_refl _, Nat.le_refl _, HM'⟩
    case round =>
      obtain ⟨rfl, k, rfl, hkg, hkm, HK⟩ := hrel
      cases k with
      | zero =>
        have e := HE.out HK.out
        subst e
        go_wp2
        go_ret
        exact ⟨rfl, rfl⟩
      | succ j =>
        obtain ⟨hd1, hd2, hd3, hd4⟩ := HD.out j
        have HLj : Hid ((xs.getD j 0 < ys.getD j 0 → R = true) ∧ (ys.getD j 0 < xs.getD j 0 → R = false) ∧ (xs.getD j 0 = ys.getD j 0 → le (xs.drop j) = le (ys.drop j))) := HL.out j HK.out
        clear HD HL HE HK HM'
        generalize xs.getD j 0 = x at *
        generalize ys.getD j 0 = y at *
        have hj0 : ¬ ((j : Int) + 1 - 1 < 0) := by omega
        rcases hd1 with ⟨a1, g1, rfl, a2⟩ | ⟨a1, rfl⟩ <;> rcases hd2 with ⟨b1, g2, rfl, b2⟩ | ⟨b1, rfl⟩
        · have a1I : (j : Int) < m := by omega
          have b1I : (j : Int) < n2 := by omega
          rcases Nat.lt_trichotomy x y with hxy | hxy | hxy
          · have e := HLj.out.1 hxy
            subst e
            have q1 : ((x : Nat) : Int) < (y : Nat) := by omega
            go_wp2
            all_goals go_ret
            all_goals exact ⟨by first | rfl | (show Ending.returned (.bool (decide (x < y))) = _; rw [decide_eq_true (by omega)]), rfl⟩
          · have HK2 : Hid (le (xs.drop j) = le (ys.drop j)) := HLj.out.2.2 hxy
            clear HLj
            subst hxy
            go_wp2
            go_roundg (gk - 1)
            case measure => omega
            case rel => exact ⟨rfl, j, by go_num, by omega, by omega, HK2⟩
          · have e := HLj.out.2.1 hxy
            subst e
            have q1 : ((y : Nat) : Int) < (x : Nat) := by omega
            go_wp2
            all_goals go_ret
            all_goals exact ⟨by first | rfl | (show Ending.returned (.bool (decide (x < y))) = _; rw [decide_eq_false (by omega)]), rfl⟩
        · have a1I : (j : Int) < m := by omega
          have b1I : ¬ (j : Int) < n2 := by omega
          rcases Nat.lt_trichotomy x 0 with hxy | hxy | hxy
          · exact absurd hxy (Nat.not_lt_zero _)
          · have HK2 : Hid (le (xs.drop j) = le (ys.drop j)) := HLj.out.2.2 hxy
            clear HLj
            subst hxy
            go_wp2
            go_roundg (gk - 1)
            case measure => omega
            case rel => exact ⟨rfl, j, by go_num, by omega, by omega, HK2⟩
          · have e := HLj.out.2.1 hxy
            subst e
            have q1 : ((0 : Nat) : Int) < (x : Nat) := by omega
            go_wp2
            all_goals go_ret
            all_goals exact ⟨by first | rfl | (show Ending.returned (.bool (decide (x < 0))) = _; rw [decide_eq_false (by omega)]), rfl⟩
        · have a1I : ¬ (j : Int) < m := by omega
          have b1I : (j : Int) < n2 := by omega
          rcases Nat.lt_trichotomy 0 y with hxy | hxy | hxy
          · have e := HLj.out.1 hxy
            subst e
            have q1 : ((0 : Nat) : Int) < (y : Nat) := by omega
            go_wp2
            all_goals go_ret
            all_goals exact ⟨by first | rfl | (show Ending.returned (.bool (decide (0 < y))) = _; rw [decide_eq_true (by omega)]), rfl⟩
          · have HK2 : Hid (le (xs.drop j) = le (ys.drop j)) := HLj.out.2.2 hxy
            clear HLj
            subst hxy
            go_wp2
            go_roundg (gk - 1)
            case measure => omega
            case rel => exact ⟨rfl, j, by go_num, by omega, by omega, HK2⟩
          · exact absurd hxy (Nat.not_lt_zero _)
        · have a1I : ¬ (j : Int) < m := by omega
          have b1I : ¬ (j : Int) < n2 := by omega
          rcases Nat.lt_trichotomy 0 0 with hxy | hxy | hxy
          · exact absurd hxy (Nat.not_lt_zero _)
          · have HK2 : Hid (le (xs.drop j) = le (ys.drop j)) := HLj.out.2.2 hxy
            clear HLj
            clear hxy
            go_wp2
            go_roundg (gk - 1)
            case measure => omega
            case rel => exact ⟨rfl, j, by go_num, by omega, by omega, HK2⟩
          · exact absurd hxy (Nat.not_lt_zero _)
end Go.Proofs.YthbabhbfpcfenaaGreatDoor

/- Plain mathematics of the document's Read: rows of digits, the quotient bit by bit, the value as a by b. -/
namespace Go.Proofs.YthbabhbfpcfenaaGreatDoor
open Go.RowKit
set_option linter.unusedVariables false
set_option linter.unusedSimpArgs false

theorem le_zeros (z : Nat) : le (List.replicate z 0) = 0 := by
  induction z with
  | zero => rfl
  | succ z ih => rw [List.replicate_succ, le_cons, ih]
/-- One more digit of whole. -/
theorem whole_step {xs : List Nat} {suf : List UInt8} {x : UInt8} {z : Nat} (hl : xs.length = z + suf.length) (h : le xs = num suf * 10 ^ z) : le (xs ++ [dg x]) = num (x :: suf) * 10 ^ z := by
  rw [le_snoc, hl, h, num_cons, Nat.add_mul, Nat.pow_add, Nat.mul_comm (10 ^ z), ← Nat.mul_assoc, Nat.add_comm]
/-- One step of minus. -/
structure MinAt (xs ys ds : List Nat) (k bo : Nat) : Prop where
  len : ds.length = k
  lim : ∀ x ∈ ds, x < 10
  bo1 : bo ≤ 1
  eq : le ds + le (ys.take k) + 10 ^ k * 0 = le (xs.take k) + 10 ^ k * bo
theorem min_start (xs ys : List Nat) : MinAt xs ys [] 0 0 := ⟨rfl, (fun x h => by cases h), by omega, by simp [le_nil]⟩
theorem min_step {xs ys ds : List Nat} {k bo d bo' : Nat} (h : MinAt xs ys ds k bo) (hd : d < 10) (hb : bo' ≤ 1) (e : d + bo + ys.getD k 0 = xs.getD k 0 + 10 * bo') : MinAt xs ys (ds ++ [d]) (k + 1) bo' := by
  refine ⟨by rw [List.length_append, h.len]; rfl, ?_, hb, ?_⟩
  · intro y hy
    rcases List.mem_append.1 hy with hy | hy
    · exact h.lim y hy
    · simp at hy; omega
  · have h1 := h.eq
    rw [Nat.mul_zero, Nat.add_zero] at h1 ⊢
    rw [le_snoc, h.len, take_succ_le, take_succ_le, Nat.pow_succ]
    have e2 := congrArg (10 ^ k * ·) e
    simp only [Nat.mul_add] at e2
    rw [← Nat.mul_assoc] at e2
    rw [Nat.mul_comm d]
    omega
theorem min_end {xs ys ds : List Nat} {n bo : Nat} (h : MinAt xs ys ds n bo) (hx : xs.length = n) (hxl : ∀ x ∈ xs, x < 10) (hle : le ys ≤ le xs) : le ds = le xs - le ys := by
  have h1 := h.eq
  rw [Nat.mul_zero, Nat.add_zero, List.take_of_length_le (Nat.le_of_eq hx)] at h1
  have h2 := le_bound ds h.lim
  have h3 := le_bound xs hxl
  have h4 := le_split ys n
  rw [h.len] at h2
  rw [hx] at h3
  have h5 : le (ys.drop n) = 0 := by
    rcases Nat.eq_zero_or_pos (le (ys.drop n)) with h | h
    · exact h
    · have := Nat.mul_le_mul_left (10 ^ n) h
      omega
  rw [h5, Nat.mul_zero, Nat.add_zero] at h4
  have h6 : bo = 0 := by
    have := h.bo1
    rcases Nat.eq_zero_or_pos bo with h | h
    · exact h
    · have : bo = 1 := by omega
      rw [this] at h1; omega
  rw [h6, Nat.mul_zero] at h1
  omega
/-- The quotient, bit by bit: A is q times B 2^k and a, a below it. -/
structure DivAt (A B q a k : Nat) : Prop where
  eq : A = q * (B * 2 ^ k) + a
  lt : a < B * 2 ^ k
theorem div_yes {A B q a k : Nat} (h : DivAt A B q a (k + 1)) (hl : B * 2 ^ k ≤ a) : DivAt A B (2 * q + 1) (a - B * 2 ^ k) k := by
  have h1 := h.eq
  have h2 := h.lt
  rw [Nat.pow_succ, ← Nat.mul_assoc B] at h1 h2
  have e : ∀ T, q * (T * 2) = 2 * q * T := fun T => by rw [Nat.mul_comm T 2, ← Nat.mul_assoc, Nat.mul_comm q 2]
  rw [e] at h1
  refine ⟨?_, by omega⟩
  rw [Nat.add_mul, Nat.one_mul]
  omega
theorem div_no {A B q a k : Nat} (h : DivAt A B q a (k + 1)) (hl : a < B * 2 ^ k) : DivAt A B (2 * q) a k := by
  have h1 := h.eq
  rw [Nat.pow_succ, ← Nat.mul_assoc B] at h1
  have e : ∀ T, q * (T * 2) = 2 * q * T := fun T => by rw [Nat.mul_comm T 2, ← Nat.mul_assoc, Nat.mul_comm q 2]
  rw [e] at h1
  exact ⟨h1, hl⟩
theorem div_end {A B q a : Nat} (h : DivAt A B q a 0) : q = A / B ∧ a = A % B := by
  have h1 := h.eq
  have h2 := h.lt
  rw [Nat.pow_zero, Nat.mul_one] at h1 h2
  have hB : 0 < B := by omega
  have e : A = a + B * q := by rw [h1, Nat.mul_comm, Nat.add_comm]
  constructor
  · rw [e, Nat.add_mul_div_left _ _ hB, Nat.div_eq_of_lt h2, Nat.zero_add]
  · rw [e, Nat.add_mul_mod_self_left, Nat.mod_eq_of_lt h2]
theorem div_q {A B q a k n : Nat} (h : DivAt A B q a k) (hA : A < B * 2 ^ n) (hk : k ≤ n) : q < 2 ^ (n - k) := by
  have h1 := h.eq
  rcases Nat.lt_or_ge q (2 ^ (n - k)) with h3 | h3
  · exact h3
  · exfalso
    have h4 := Nat.mul_le_mul_right (B * 2 ^ k) h3
    have e : 2 ^ (n - k) * (B * 2 ^ k) = B * 2 ^ n := by
      rw [Nat.mul_comm, Nat.mul_assoc, ← Nat.pow_add]; congr 2; omega
    rw [e] at h4
    omega
/-- The value of a decimal as a by b. -/
theorem val_up {v N l K : Nat} {p : Int} (hK : K = 10000) (hv : v = N * 10 ^ (p - l + 10000).toNat) (hlt : (l : Int) < p) : v * 1 = N * 10 ^ (p - l).toNat * 10 ^ K := by
  rw [hv, Nat.mul_one, Nat.mul_assoc, ← Nat.pow_add]; congr 2; omega
theorem val_dn {v N l K : Nat} {p : Int} (hK : K = 10000) (hv : v = N * 10 ^ (p - l + 10000).toNat) (hge : p ≤ l) (hp : -10000 ≤ p - l) : v * 10 ^ ((l : Int) - p).toNat = N * 10 ^ K := by
  rw [hv, Nat.mul_assoc, ← Nat.pow_add]; congr 2; omega
/-- Ten thousand places are so many units. -/
theorem un_ten {K : Nat} (hK : K = 10000) (least : Int) (h : -1199 ≤ least) (h1 : least ≤ 1) : un least * 2 ^ (1 - least).toNat = 10 ^ K := by
  have h2 := exU_shift 1 (least - 1) (1 - least).toNat (by omega) (by omega)
  have e : least - 1 + ((1 - least).toNat : Nat) = 0 := by omega
  rw [e, Nat.one_mul] at h2
  have h3 : exU 1 0 = 10 ^ K := by
    rw [exU_up 1 (Int.le_refl 0)]
    have e1 : ((0 : Int) + 10000).toNat = K := by omega
    have e2 : (0 : Int).toNat = 0 := rfl
    rw [e1, e2, Nat.pow_zero, Nat.one_mul]
  unfold un
  rw [Nat.mul_comm, ← h2, h3]
end Go.Proofs.YthbabhbfpcfenaaGreatDoor
