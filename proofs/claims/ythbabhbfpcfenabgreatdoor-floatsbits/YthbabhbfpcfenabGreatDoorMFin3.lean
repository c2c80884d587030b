/- The document's Float at a finite number, with Zero and Minus. -/
import Derived.Test.YthbabhbfpcfenabGreatDoorPkM12
namespace Go.Proofs.YthbabhbfpcfenabGreatDoor
open Go.RowKit
set_option linter.unusedVariables false
set_option linter.unusedSimpArgs false

set_option maxRecDepth 1000000 in
set_option maxHeartbeats 20000000 in
theorem mfl_fin_c {bits m : Nat} {size x : Int} {sg : Bool} {T : ByteArray} (p sh sp : Bool) (wid prec verb : Int) (hV : MvC verb true) (hP : KpC bits size sg m x 0) (hB : BaC bits size m x p true sh sp true wid prec verb T) (hT : T.size ≤ 200000) : MfC bits size p true sh sp true wid prec verb (filT (sgF sg p sp) T true true wid) true := fun w => by
  have hbA : Below w.heap.size w (w.alloc (.cells #[.bool p, .bool true, .bool sh, .bool sp, .bool true, .int .i64 wid, .int .i64 prec, .int .i32 verb] 35)) := (Below.refl _ _).alloc (Nat.le_refl _) _
  have f0 : ∀ x : Cl (w.alloc (.cells #[.bool p, .bool true, .bool sh, .bool sp, .bool true, .int .i64 wid, .int .i64 prec, .int .i32 verb] 35)), x.w.cell? ⟨w.heap.size, 0, none⟩ = some (.bool p) := fun x => x.cell (by simp)
  have f1 : ∀ x : Cl (w.alloc (.cells #[.bool p, .bool true, .bool sh, .bool sp, .bool true, .int .i64 wid, .int .i64 prec, .int .i32 verb] 35)), x.w.cell? ⟨w.heap.size, 1, none⟩ = some (.bool true) := fun x => x.cell (by simp)
  have f2 : ∀ x : Cl (w.alloc (.cells #[.bool p, .bool true, .bool sh, .bool sp, .bool true, .int .i64 wid, .int .i64 prec, .int .i32 verb] 35)), x.w.cell? ⟨w.heap.size, 2, none⟩ = some (.bool sh) := fun x => x.cell (by simp)
  have f3 : ∀ x : Cl (w.alloc (.cells #[.bool p, .bool true, .bool sh, .bool sp, .bool true, .int .i64 wid, .int .i64 prec, .int .i32 verb] 35)), x.w.cell? ⟨w.heap.size, 3, none⟩ = some (.bool sp) := fun x => x.cell (by simp)
  have f4 : ∀ x : Cl (w.alloc (.cells #[.bool p, .bool true, .bool sh, .bool sp, .bool true, .int .i64 wid, .int .i64 prec, .int .i32 verb] 35)), x.w.cell? ⟨w.heap.size, 4, none⟩ = some (.bool true) := fun x => x.cell (by simp)
  have f5 : ∀ x : Cl (w.alloc (.cells #[.bool p, .bool true, .bool sh, .bool sp, .bool true, .int .i64 wid, .int .i64 prec, .int .i32 verb] 35)), x.w.cell? ⟨w.heap.size, 5, none⟩ = some (.int .i64 wid) := fun x => x.cell (by simp)
  have f6 : ∀ x : Cl (w.alloc (.cells #[.bool p, .bool true, .bool sh, .bool sp, .bool true, .int .i64 wid, .int .i64 prec, .int .i32 verb] 35)), x.w.cell? ⟨w.heap.size, 6, none⟩ = some (.int .i64 prec) := fun x => x.cell (by simp)
  have f7 : ∀ x : Cl (w.alloc (.cells #[.bool p, .bool true, .bool sh, .bool sp, .bool true, .int .i64 wid, .int .i64 prec, .int .i32 verb] 35)), x.w.cell? ⟨w.heap.size, 7, none⟩ = some (.int .i32 verb) := fun x => x.cell (by simp)
  have hs := sgF_size sg p sp
  have eF : filT (sgF sg p sp) T true true wid = padS (sgF sg p sp ++ T) true false wid := by unfold filT; rw [if_neg (by simp)]
  rw [eF]
  have hPl : ∀ w, Calls Tryz.prog 64 #[.string (sgF sg p sp ++ T), .agg #[.bool p, .bool true, .bool sh, .bool sp, .bool true, .int .i64 wid, .int .i64 prec, .int .i32 verb]] w fun e w' => e = .returned (.string (padS (sgF sg p sp ++ T) true false wid)) ∧ Below w.heap.size w w' := fun w => rplain_any _ p true sh sp true wid prec verb w (by rw [app_size]; omega)
  have z2 : ¬ 9223372036854775807 < (sgF sg p sp).size + T.size := by omega
  clear eF
  generalize padS (sgF sg p sp ++ T) true false wid = R at *
  obtain ⟨F, hF⟩ : ∃ F, sgF sg p sp ++ T = F := ⟨_, rfl⟩
  rw [hF] at hPl
  cases sg <;> cases p <;> cases sp
  all_goals
    simp only [sgF, signA, Bool.false_eq_true, if_true, if_false, ↓reduceIte] at hF z2 hs
    go_enter Tryz.func33, Tryz.ntmps33
    go_wp2_with (first
      | (go_at_call 23; (with_reducible refine (hP _).mono ?_); rintro x w0 ⟨rfl, hb0⟩; obtain ⟨y0, rfl⟩ := Cl.start hb0)
      | (go_at_call 63; (with_reducible refine (hV _).mono ?_); rintro x w3 ⟨rfl, hb3⟩; obtain ⟨y3, rfl⟩ := Cl.next hb3)
      | (go_at_call 65; (with_reducible refine (hB _).mono ?_); rintro x w4 ⟨rfl, hb4⟩; obtain ⟨y4, rfl⟩ := Cl.next hb4)
      | (go_at_call 64; refine (hPl _).mono ?_; rintro x w5 ⟨rfl, hb5⟩; obtain ⟨y5, rfl⟩ := Cl.next hb5))
    go_returns
    exact ⟨rfl, bel_call hbA y5.below (Nat.le_refl _)⟩
end Go.Proofs.YthbabhbfpcfenabGreatDoor
