/- The walks of package floats: signs, widths, Float. -/
import Derived.Test.YtkeoafidgfmhlabGreatDoorFWalkD
import Derived.Test.YtkeoafidgfmhlabGreatDoorSLive
namespace Go.Proofs.YtkeoafidgfmhlabGreatDoor
open Go.RowKit
set_option linter.unusedVariables false
set_option linter.unusedSimpArgs false

set_option maxRecDepth 1000000 in
theorem fsign_any (neg : Bool) (p mi sh sp z : Bool) (wid prec verb : Int) (w : World) :
    Calls Tryz.prog 31 #[.bool neg, .agg #[.bool p, .bool mi, .bool sh, .bool sp, .bool z, .int .i64 wid, .int .i64 prec, .int .i32 verb]] w fun x w' => x = .returned (.string (sgF neg p sp)) ∧ Below w.heap.size w w' := by
  cases neg <;> cases p <;> cases sp
  all_goals
    go_enter Tryz.func31, Tryz.ntmps31
    go_wp2
    go_ret
    exact ⟨rfl, by go_grown⟩
set_option maxRecDepth 1000000 in
theorem fsignI_any (neg : Bool) (p mi sh sp z : Bool) (wid prec verb : Int) (w : World) :
    Calls Tryz.prog 32 #[.bool neg, .agg #[.bool p, .bool mi, .bool sh, .bool sp, .bool z, .int .i64 wid, .int .i64 prec, .int .i32 verb]] w fun x w' => x = .returned (.string (sgI neg p sp)) ∧ Below w.heap.size w w' := by
  have hS : ∀ w, Calls Tryz.prog 31 #[.bool neg, .agg #[.bool p, .bool mi, .bool sh, .bool sp, .bool z, .int .i64 wid, .int .i64 prec, .int .i32 verb]] w fun x w' => x = .returned (.string (sgF neg p sp)) ∧ Below w.heap.size w w' := fun w => fsign_any neg p mi sh sp z wid prec verb w
  have hbA : Below w.heap.size w (w.alloc (.cells #[.bool p, .bool mi, .bool sh, .bool sp, .bool z, .int .i64 wid, .int .i64 prec, .int .i32 verb] 24)) := (Below.refl _ _).alloc (Nat.le_refl _) _
  unfold sgI
  by_cases h0 : (sgF neg p sp).size = 0
  · have hue : (sgF neg p sp).toList.isEmpty = true := empty_yes _ h0
    rw [if_pos h0]
    clear h0
    generalize sgF neg p sp = r at *
    go_enter Tryz.func32, Tryz.ntmps32
    go_wp2_with (go_at_call 31; (with_reducible refine (hS _).mono ?_); rintro x w1 ⟨rfl, hb1⟩)
    go_ret
    exact ⟨rfl, bel_call hbA hb1 (Nat.le_refl _)⟩
  · have hue : (sgF neg p sp).toList.isEmpty = false := empty_no _ (by omega)
    rw [if_neg h0]
    clear h0
    generalize sgF neg p sp = r at *
    go_enter Tryz.func32, Tryz.ntmps32
    go_wp2_with (go_at_call 31; (with_reducible refine (hS _).mono ?_); rintro x w1 ⟨rfl, hb1⟩)
    go_ret
    exact ⟨rfl, bel_call hbA hb1 (Nat.le_refl _)⟩
set_option maxRecDepth 1000000 in
set_option maxHeartbeats 1000000 in
theorem fpad_any (s : ByteArray) (p mi sh sp z : Bool) (wid prec verb : Int) (w : World) (hs : s.size ≤ 1000000) :
    Calls Tryz.prog 29 #[.string s, .agg #[.bool p, .bool mi, .bool sh, .bool sp, .bool z, .int .i64 wid, .int .i64 prec, .int .i32 verb]] w fun e w' => e = .returned (.string (padS s mi false wid)) ∧ Below w.heap.size w w' := by
  have hP : ∀ w, Calls Tryz.prog 57 #[.string s, .agg #[.bool p, .bool mi, .bool sh, .bool sp, .bool false, .int .i64 wid, .int .i64 prec, .int .i32 verb]] w fun e w' => e = .returned (.string (padS s mi false wid)) ∧ Below w.heap.size w w' := fun w => pad_any s p mi sh sp false wid prec verb w hs
  generalize padS s mi false wid = r at *
  have hbA : Below w.heap.size w (w.alloc (.cells #[.bool p, .bool mi, .bool sh, .bool sp, .bool false, .int .i64 wid, .int .i64 prec, .int .i32 verb] 24)) := (Below.refl _ _).alloc (Nat.le_refl _) _
  go_enter Tryz.func29, Tryz.ntmps29
  go_wp2_with (go_at_call 57; refine (hP _).mono ?_; rintro e w1 ⟨rfl, hb1⟩)
  go_ret
  exact ⟨rfl, hbA.trans (hb1.mono hbA.size)⟩
theorem great_any (verb : Int) (w : World) : Calls Tryz.prog 33 #[.int .i32 verb] w fun e w' => e = .returned (.bool (grV verb)) ∧ w' = w := by
  by_cases h1 : verb = 69
  · subst h1
    go_enter Tryz.func33, Tryz.ntmps33
    go_wp2
    go_ret
    exact ⟨rfl, rfl⟩
  by_cases h2 : verb = 71
  · subst h2
    go_enter Tryz.func33, Tryz.ntmps33
    go_wp2
    go_ret
    exact ⟨rfl, rfl⟩
  by_cases h3 : verb = 88
  · subst h3
    go_enter Tryz.func33, Tryz.ntmps33
    go_wp2
    go_ret
    exact ⟨rfl, rfl⟩
  have e : grV verb = false := decide_eq_false (by omega)
  rw [e]
  have b1 : (verb == 69) = false := by simp [h1]
  have b2 : (verb == 71) = false := by simp [h2]
  have b3 : (verb == 88) = false := by simp [h3]
  go_enter Tryz.func33, Tryz.ntmps33
  go_wp2
  go_ret
  exact ⟨rfl, rfl⟩
/-- What a verb writes with. -/
def wrF (verb : Int) : Nat := if verb = 101 ∨ verb = 69 then 52 else if verb = 102 ∨ verb = 70 then 53 else if verb = 98 then 55 else if verb = 120 ∨ verb = 88 then 56 else 54
abbrev WrC (verb : Int) (v : Value) (b : Bool) : Prop := ∀ w, Calls Tryz.prog 28 #[.int .i32 verb] w fun e w' => e = .returned (.tuple #[v, .bool b]) ∧ w' = w
set_option maxRecDepth 1000000 in
theorem writer_no {verb : Int} (h : fVerb verb = false) : WrC verb .nilFunc false := fun w => by
  have h := of_decide_eq_false h
  have b1 : (verb == 101) = false := by simp; omega
  have b2 : (verb == 69) = false := by simp; omega
  have b3 : (verb == 102) = false := by simp; omega
  have b4 : (verb == 70) = false := by simp; omega
  have b5 : (verb == 103) = false := by simp; omega
  have b6 : (verb == 71) = false := by simp; omega
  have b7 : (verb == 118) = false := by simp; omega
  have b8 : (verb == 98) = false := by simp; omega
  have b9 : (verb == 120) = false := by simp; omega
  have ba : (verb == 88) = false := by simp; omega
  clear h
  go_enter Tryz.func28, Tryz.ntmps28
  go_wp2
  go_returns
  exact ⟨rfl, rfl⟩
set_option maxRecDepth 1000000 in
theorem writer_yes {verb : Int} (h : fVerb verb = true) : WrC verb (.func (.func (wrF verb)) #[] #[]) true := fun w => by
  have h := of_decide_eq_true h
  rcases h with rfl | rfl | rfl | rfl | rfl | rfl | rfl | rfl | rfl | rfl
  all_goals
    go_enter Tryz.func28, Tryz.ntmps28
    go_wp2
    go_returns
    exact ⟨rfl, rfl⟩
end Go.Proofs.YtkeoafidgfmhlabGreatDoor
