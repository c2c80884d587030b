/- The walk of the law FloatsGeneral. -/
import Derived.Test.YthbabhbfpcfenabGreatDoorPkG1
import Derived.Test.YthbabhbfpcfenabGreatDoorPkG2
namespace Go.Proofs.YthbabhbfpcfenabGreatDoor
open Go.RowKit
set_option linter.unusedVariables false
set_option linter.unusedSimpArgs false

set_option maxRecDepth 1000000 in
set_option maxHeartbeats 2000000 in
theorem floatsGeneral_run {bits k : Nat} {n c : Int} {b : Bool} (p mi sh sp z : Bool) (wid prec verb : Int) (hZ : Si6 b n) (hV : Vb6 p mi sh sp z wid prec verb k ⟨#[118, 103, 71]⟩ c) (hS : SameC bits n p mi sh sp z wid prec c) (w : World) :
    Calls Tryz.prog 4 #[.agg #[.int .u64 bits, .bool b], .agg #[.bool p, .bool mi, .bool sh, .bool sp, .bool z, .int .i64 wid, .int .i64 prec, .int .i32 verb], .int .u64 k] w fun e w' => e = .returned (.bool true) ∧ Below w.heap.size w w' := by
  have hL := lives6_any
  have hSm := fun w => same6_any p mi sh sp z wid prec c hS w
  have hbA : Below w.heap.size w ((w.alloc (.cells #[.int .u64 bits, .bool b] 33)).alloc (.cells #[.bool p, .bool mi, .bool sh, .bool sp, .bool z, .int .i64 wid, .int .i64 prec, .int .i32 verb] 35)) := ((Below.refl _ _).alloc (Nat.le_refl _) _).alloc (by simp) _
  have a0 : ∀ x : Cl ((w.alloc (.cells #[.int .u64 bits, .bool b] 33)).alloc (.cells #[.bool p, .bool mi, .bool sh, .bool sp, .bool z, .int .i64 wid, .int .i64 prec, .int .i32 verb] 35)), x.w.cell? ⟨w.heap.size, 0, none⟩ = some (.int .u64 bits) := fun x => x.cell (by simp)
  have a1 : ∀ x : Cl ((w.alloc (.cells #[.int .u64 bits, .bool b] 33)).alloc (.cells #[.bool p, .bool mi, .bool sh, .bool sp, .bool z, .int .i64 wid, .int .i64 prec, .int .i32 verb] 35)), x.w.cell? ⟨w.heap.size, 1, none⟩ = some (.bool b) := fun x => x.cell (by simp)
  have f0 : ∀ x : Cl ((w.alloc (.cells #[.int .u64 bits, .bool b] 33)).alloc (.cells #[.bool p, .bool mi, .bool sh, .bool sp, .bool z, .int .i64 wid, .int .i64 prec, .int .i32 verb] 35)), x.w.cell? ⟨w.heap.size + 1, 0, none⟩ = some (.bool p) := fun x => x.cell (by simp)
  have f1 : ∀ x : Cl ((w.alloc (.cells #[.int .u64 bits, .bool b] 33)).alloc (.cells #[.bool p, .bool mi, .bool sh, .bool sp, .bool z, .int .i64 wid, .int .i64 prec, .int .i32 verb] 35)), x.w.cell? ⟨w.heap.size + 1, 1, none⟩ = some (.bool mi) := fun x => x.cell (by simp)
  have f2 : ∀ x : Cl ((w.alloc (.cells #[.int .u64 bits, .bool b] 33)).alloc (.cells #[.bool p, .bool mi, .bool sh, .bool sp, .bool z, .int .i64 wid, .int .i64 prec, .int .i32 verb] 35)), x.w.cell? ⟨w.heap.size + 1, 2, none⟩ = some (.bool sh) := fun x => x.cell (by simp)
  have f3 : ∀ x : Cl ((w.alloc (.cells #[.int .u64 bits, .bool b] 33)).alloc (.cells #[.bool p, .bool mi, .bool sh, .bool sp, .bool z, .int .i64 wid, .int .i64 prec, .int .i32 verb] 35)), x.w.cell? ⟨w.heap.size + 1, 3, none⟩ = some (.bool sp) := fun x => x.cell (by simp)
  have f4 : ∀ x : Cl ((w.alloc (.cells #[.int .u64 bits, .bool b] 33)).alloc (.cells #[.bool p, .bool mi, .bool sh, .bool sp, .bool z, .int .i64 wid, .int .i64 prec, .int .i32 verb] 35)), x.w.cell? ⟨w.heap.size + 1, 4, none⟩ = some (.bool z) := fun x => x.cell (by simp)
  have f5 : ∀ x : Cl ((w.alloc (.cells #[.int .u64 bits, .bool b] 33)).alloc (.cells #[.bool p, .bool mi, .bool sh, .bool sp, .bool z, .int .i64 wid, .int .i64 prec, .int .i32 verb] 35)), x.w.cell? ⟨w.heap.size + 1, 5, none⟩ = some (.int .i64 wid) := fun x => x.cell (by simp)
  have f6 : ∀ x : Cl ((w.alloc (.cells #[.int .u64 bits, .bool b] 33)).alloc (.cells #[.bool p, .bool mi, .bool sh, .bool sp, .bool z, .int .i64 wid, .int .i64 prec, .int .i32 verb] 35)), x.w.cell? ⟨w.heap.size + 1, 6, none⟩ = some (.int .i64 prec) := fun x => x.cell (by simp)
  have f7 : ∀ x : Cl ((w.alloc (.cells #[.int .u64 bits, .bool b] 33)).alloc (.cells #[.bool p, .bool mi, .bool sh, .bool sp, .bool z, .int .i64 wid, .int .i64 prec, .int .i32 verb] 35)), x.w.cell? ⟨w.heap.size + 1, 7, none⟩ = some (.int .i32 verb) := fun x => x.cell (by simp)
  clear hS
  go_enter Tryz.func4, Tryz.ntmps4
  go_wp2
  refine wp_region_above ((w.alloc (.cells #[.int .u64 bits, .bool b] 33)).alloc (.cells #[.bool p, .bool mi, .bool sh, .bool sp, .bool z, .int .i64 wid, .int .i64 prec, .int .i32 verb] 35)) (Below.refl _ _) (by kernel_rfl) (by kernel_rfl) ?_
  intro hCl
  repeat (go_big_quiet_step ((first | (go_at_call 11; exact Cl.call_same (hZ _)) | (go_at_call 12; exact Cl.call (hV _)) | (go_at_call 10; exact Cl.call (hSm _)) | (go_at_call 13; exact Cl.call (hL _)))))
  refine wpQuiet_nil ?_
  intro _ hw'
  obtain ⟨y6, hz⟩ := hw'
  subst hz
  go_wp2
  go_ret
  exact ⟨rfl, bel_call hbA y6.below (Nat.le_refl _)⟩
theorem floatsGeneral_walk (m0 : Int) (b : Bool) (hm0 : (Lit.int .u64 m0).wf = true) (p mi sh sp z : Bool) (wid prec verb : Int) (_h5 : (Lit.int .i64 wid).wf = true) (_h6 : (Lit.int .i64 prec).wf = true) (k0 : Int) (hk0 : (Lit.int .u64 k0).wf = true) (w : World) :
    Calls Tryz.prog 4 #[.agg #[.int .u64 m0, .bool b], .agg #[.bool p, .bool mi, .bool sh, .bool sp, .bool z, .int .i64 wid, .int .i64 prec, .int .i32 verb], .int .u64 k0] w fun e w' => e = .returned (.bool true) ∧ Below w.heap.size w w' := by
  obtain ⟨h0, h1⟩ := wfu64 m0 hm0
  obtain ⟨bits, rfl⟩ := Int.eq_ofNat_of_zero_le h0
  obtain ⟨g0, g1⟩ := wfu64 k0 hk0
  obtain ⟨k, rfl⟩ := Int.eq_ofNat_of_zero_le g0
  have hb : bits < 18446744073709551616 := by omega
  obtain ⟨f, ww, least, I, hly, -, -⟩ := ly_of b
  have hZ := sized6_any b
  have hj : k % 3 < 3 := Nat.mod_lt _ (by decide)
  have hV := verb6_any ⟨#[118, 103, 71]⟩ p mi sh sp z wid prec verb k (k % 3) hj (by decide) rfl (by omega)
  have hc : ((((⟨#[118, 103, 71]⟩ : ByteArray)[k % 3]'hj).toNat : Nat) : Int) = 118 ∨ ((((⟨#[118, 103, 71]⟩ : ByteArray)[k % 3]'hj).toNat : Nat) : Int) = 103 ∨ ((((⟨#[118, 103, 71]⟩ : ByteArray)[k % 3]'hj).toNat : Nat) : Int) = 71 := by
    generalize k % 3 = j at hj ⊢
    have : j = 0 ∨ j = 1 ∨ j = 2 := by omega
    rcases this with rfl | rfl | rfl
    · exact .inl rfl
    · exact .inr (.inl rfl)
    · exact .inr (.inr (rfl))
  refine floatsGeneral_run p mi sh sp z wid prec verb hZ hV ?_ w
  generalize ((((⟨#[118, 103, 71]⟩ : ByteArray)[k % 3]'hj).toNat : Nat) : Int) = c at hc
  have hv : fVerb c = true := by
    rcases hc with rfl | rfl | rfl <;> decide
  rcases Nat.lt_or_ge (bare f ww bits) I with hp | hp
  · refine same_fin hly hb hp p mi sh sp z wid prec c hv (fun d hd gd hF hX => ?_)
    have hK := kshort_fin hly hb hp hd
    rcases hc with rfl | rfl | rfl
    · exact mbare_g hX hF.fv hK hF.dl hF.dp p mi sh sp z wid prec 118 (.inr (.inr rfl))
    · exact mbare_g hX hF.fv hK hF.dl hF.dp p mi sh sp z wid prec 103 (.inl rfl)
    · exact mbare_g hX hF.fv hK hF.dl hF.dp p mi sh sp z wid prec 71 (.inr (.inl rfl))
  · exact same_odd hly hb hp p mi sh sp z wid prec c hv
end Go.Proofs.YthbabhbfpcfenabGreatDoor
