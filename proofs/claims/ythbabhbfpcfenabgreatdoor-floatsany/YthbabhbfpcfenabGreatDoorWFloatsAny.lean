/- The document's Float is the program's, whatever it is asked for. -/
import Derived.Test.YthbabhbfpcfenabGreatDoorPkG1
import Derived.Test.YthbabhbfpcfenabGreatDoorPkG3
import Derived.Test.YthbabhbfpcfenabGreatDoorPkG2
namespace Go.Proofs.YthbabhbfpcfenabGreatDoor
open Go.RowKit
set_option linter.unusedVariables false
set_option linter.unusedSimpArgs false

theorem same_any {bits : Nat} (hb : bits < 18446744073709551616) (size : Int) (p mi sh sp z : Bool) (wid prec verb : Int) : SameC bits size p mi sh sp z wid prec verb := by
  by_cases hs : size = 32 ∨ size = 64
  · obtain ⟨f, ww, least, I, hly⟩ : ∃ (f ww : Nat) (least : Int) (I : Nat), Ly size f ww least I := by
      rcases hs with rfl | rfl
      · exact ⟨_, _, _, _, lyA⟩
      · exact ⟨_, _, _, _, lyB⟩
    cases hv : fVerb verb with
    | false => exact same_none hb p mi sh sp z wid prec verb (.inl hv)
    | true =>
      rcases Nat.lt_or_ge (bare f ww bits) I with hp | hp
      · refine same_fin hly hb hp p mi sh sp z wid prec verb hv (fun d hd gd hF hX => ?_)
        have hK := kshort_fin hly hb hp hd
        have e53 : (2 : Nat) ^ 53 = 9007199254740992 := by decide
        have hv2 := of_decide_eq_true hv
        rcases hv2 with rfl | rfl | rfl | rfl | rfl | rfl | rfl | rfl | rfl | rfl
        · exact mbare_e hX hF.fv p mi sh sp z wid prec 101 d (.inl rfl)
        · exact mbare_e hX hF.fv p mi sh sp z wid prec 69 d (.inr rfl)
        · exact mbare_f hX hF.fv p mi sh sp z wid prec 102 d (.inl rfl)
        · exact mbare_f hX hF.fv p mi sh sp z wid prec 70 d (.inr rfl)
        · exact mbare_g hX hF.fv hK hF.dl hF.dp p mi sh sp z wid prec 103 (.inl rfl)
        · exact mbare_g hX hF.fv hK hF.dl hF.dp p mi sh sp z wid prec 71 (.inr (.inl rfl))
        · exact mbare_g hX hF.fv hK hF.dl hF.dp p mi sh sp z wid prec 118 (.inr (.inr rfl))
        · exact mbare_b hX (by rw [← e53]; exact hF.m53) hF.e0 hF.e1 p mi sh sp z wid prec d
        · exact mbare_x hX hF.m53 hF.e0 hF.e1 p mi sh sp z wid prec d
        · exact mbare_X hX hF.m53 hF.e0 hF.e1 p mi sh sp z wid prec d
      · exact same_odd hly hb hp p mi sh sp z wid prec verb hv
  · exact same_none hb p mi sh sp z wid prec verb (.inr ⟨by omega, by omega⟩)
set_option maxRecDepth 1000000 in
set_option maxHeartbeats 2000000 in
theorem floatsAny_run {bits : Nat} {size : Int} (p mi sh sp z : Bool) (wid prec verb : Int) (hS : SameC bits size p mi sh sp z wid prec verb) (w : World) :
    Calls Tryz.prog 6 #[.int .u64 bits, .int .i64 size, .agg #[.bool p, .bool mi, .bool sh, .bool sp, .bool z, .int .i64 wid, .int .i64 prec, .int .i32 verb]] w fun e w' => e = .returned (.bool true) ∧ Below w.heap.size w w' := by
  have hL := lives6_any
  have hSm := fun w => same6_any p mi sh sp z wid prec verb hS w
  have hbA : Below w.heap.size w (w.alloc (.cells #[.bool p, .bool mi, .bool sh, .bool sp, .bool z, .int .i64 wid, .int .i64 prec, .int .i32 verb] 35)) := (Below.refl _ _).alloc (Nat.le_refl _) _
  have f0 : ∀ x : Cl (w.alloc (.cells #[.bool p, .bool mi, .bool sh, .bool sp, .bool z, .int .i64 wid, .int .i64 prec, .int .i32 verb] 35)), x.w.cell? ⟨w.heap.size, 0, none⟩ = some (.bool p) := fun x => x.cell (by simp)
  have f1 : ∀ x : Cl (w.alloc (.cells #[.bool p, .bool mi, .bool sh, .bool sp, .bool z, .int .i64 wid, .int .i64 prec, .int .i32 verb] 35)), x.w.cell? ⟨w.heap.size, 1, none⟩ = some (.bool mi) := fun x => x.cell (by simp)
  have f2 : ∀ x : Cl (w.alloc (.cells #[.bool p, .bool mi, .bool sh, .bool sp, .bool z, .int .i64 wid, .int .i64 prec, .int .i32 verb] 35)), x.w.cell? ⟨w.heap.size, 2, none⟩ = some (.bool sh) := fun x => x.cell (by simp)
  have f3 : ∀ x : Cl (w.alloc (.cells #[.bool p, .bool mi, .bool sh, .bool sp, .bool z, .int .i64 wid, .int .i64 prec, .int .i32 verb] 35)), x.w.cell? ⟨w.heap.size, 3, none⟩ = some (.bool sp) := fun x => x.cell (by simp)
  have f4 : ∀ x : Cl (w.alloc (.cells #[.bool p, .bool mi, .bool sh, .bool sp, .bool z, .int .i64 wid, .int .i64 prec, .int .i32 verb] 35)), x.w.cell? ⟨w.heap.size, 4, none⟩ = some (.bool z) := fun x => x.cell (by simp)
  have f5 : ∀ x : Cl (w.alloc (.cells #[.bool p, .bool mi, .bool sh, .bool sp, .bool z, .int .i64 wid, .int .i64 prec, .int .i32 verb] 35)), x.w.cell? ⟨w.heap.size, 5, none⟩ = some (.int .i64 wid) := fun x => x.cell (by simp)
  have f6 : ∀ x : Cl (w.alloc (.cells #[.bool p, .bool mi, .bool sh, .bool sp, .bool z, .int .i64 wid, .int .i64 prec, .int .i32 verb] 35)), x.w.cell? ⟨w.heap.size, 6, none⟩ = some (.int .i64 prec) := fun x => x.cell (by simp)
  have f7 : ∀ x : Cl (w.alloc (.cells #[.bool p, .bool mi, .bool sh, .bool sp, .bool z, .int .i64 wid, .int .i64 prec, .int .i32 verb] 35)), x.w.cell? ⟨w.heap.size, 7, none⟩ = some (.int .i32 verb) := fun x => x.cell (by simp)
  clear hS
  go_enter Tryz.func6, Tryz.ntmps6
  go_wp2_with (first
    | (go_at_call 10; (with_reducible refine (hSm _).mono ?_); rintro x w2 ⟨rfl, hb2⟩; obtain ⟨y2, rfl⟩ := Cl.start hb2)
    | (go_at_call 13; refine (hL _).mono ?_; rintro x w3 ⟨rfl, hb3⟩; obtain ⟨y3, rfl⟩ := Cl.next hb3))
  go_ret
  exact ⟨rfl, bel_call hbA y3.below (Nat.le_refl _)⟩
theorem floatsAny_walk (m0 : Int) (hm0 : (Lit.int .u64 m0).wf = true) (size : Int) (_hs : (Lit.int .i64 size).wf = true) (p mi sh sp z : Bool) (wid prec verb : Int) (_h5 : (Lit.int .i64 wid).wf = true) (_h6 : (Lit.int .i64 prec).wf = true) (w : World) :
    Calls Tryz.prog 6 #[.int .u64 m0, .int .i64 size, .agg #[.bool p, .bool mi, .bool sh, .bool sp, .bool z, .int .i64 wid, .int .i64 prec, .int .i32 verb]] w fun e w' => e = .returned (.bool true) ∧ Below w.heap.size w w' := by
  obtain ⟨h0, h1⟩ := wfu64 m0 hm0
  obtain ⟨bits, rfl⟩ := Int.eq_ofNat_of_zero_le h0
  exact floatsAny_run p mi sh sp z wid prec verb (same_any (by omega) size p mi sh sp z wid prec verb) w
end Go.Proofs.YthbabhbfpcfenabGreatDoor
