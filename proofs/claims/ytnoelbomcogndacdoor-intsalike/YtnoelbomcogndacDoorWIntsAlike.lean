/- The walk of the law IntsAlike. -/
import Derived.Test.YtnoelbomcogndacDoorINumE
namespace Go.Proofs.YtnoelbomcogndacDoor
open Go.RowKit
set_option linter.unusedVariables false

set_option maxRecDepth 1000000 in
set_option maxHeartbeats 1000000 in
theorem intsAlike_walk (v : Int) (hv : (Lit.int .i64 v).wf = true) (p mi sh sp z : Bool) (wid prec verb : Int) (_h5 : (Lit.int .i64 wid).wf = true) (_h6 : (Lit.int .i64 prec).wf = true) (w : World) (hE : Esc w) :
    Calls Tryd.prog 4 #[.int .i64 v, .agg #[.bool p, .bool mi, .bool sh, .bool sp, .bool z, .int .i64 wid, .int .i64 prec, .int .i32 verb]] w fun e w' => e = .returned (.bool true) ∧ Below w.heap.size w w' := by
  have hv' := wf64 v hv
  have hbA : Below w.heap.size w (w.alloc (.cells #[.bool p, .bool mi, .bool sh, .bool sp, .bool z, .int .i64 wid, .int .i64 prec, .int .i32 verb] 24)) := (Below.refl _ _).alloc (Nat.le_refl _) _
  have f0 : ∀ x : Cl (w.alloc (.cells #[.bool p, .bool mi, .bool sh, .bool sp, .bool z, .int .i64 wid, .int .i64 prec, .int .i32 verb] 24)), x.w.cell? ⟨w.heap.size, 0, none⟩ = some (.bool p) := fun x => x.cell (by simp)
  have f1 : ∀ x : Cl (w.alloc (.cells #[.bool p, .bool mi, .bool sh, .bool sp, .bool z, .int .i64 wid, .int .i64 prec, .int .i32 verb] 24)), x.w.cell? ⟨w.heap.size, 1, none⟩ = some (.bool mi) := fun x => x.cell (by simp)
  have f2 : ∀ x : Cl (w.alloc (.cells #[.bool p, .bool mi, .bool sh, .bool sp, .bool z, .int .i64 wid, .int .i64 prec, .int .i32 verb] 24)), x.w.cell? ⟨w.heap.size, 2, none⟩ = some (.bool sh) := fun x => x.cell (by simp)
  have f3 : ∀ x : Cl (w.alloc (.cells #[.bool p, .bool mi, .bool sh, .bool sp, .bool z, .int .i64 wid, .int .i64 prec, .int .i32 verb] 24)), x.w.cell? ⟨w.heap.size, 3, none⟩ = some (.bool sp) := fun x => x.cell (by simp)
  have f4 : ∀ x : Cl (w.alloc (.cells #[.bool p, .bool mi, .bool sh, .bool sp, .bool z, .int .i64 wid, .int .i64 prec, .int .i32 verb] 24)), x.w.cell? ⟨w.heap.size, 4, none⟩ = some (.bool z) := fun x => x.cell (by simp)
  have f5 : ∀ x : Cl (w.alloc (.cells #[.bool p, .bool mi, .bool sh, .bool sp, .bool z, .int .i64 wid, .int .i64 prec, .int .i32 verb] 24)), x.w.cell? ⟨w.heap.size, 5, none⟩ = some (.int .i64 wid) := fun x => x.cell (by simp)
  have f6 : ∀ x : Cl (w.alloc (.cells #[.bool p, .bool mi, .bool sh, .bool sp, .bool z, .int .i64 wid, .int .i64 prec, .int .i32 verb] 24)), x.w.cell? ⟨w.heap.size, 6, none⟩ = some (.int .i64 prec) := fun x => x.cell (by simp)
  have f7 : ∀ x : Cl (w.alloc (.cells #[.bool p, .bool mi, .bool sh, .bool sp, .bool z, .int .i64 wid, .int .i64 prec, .int .i32 verb] 24)), x.w.cell? ⟨w.heap.size, 7, none⟩ = some (.int .i32 verb) := fun x => x.cell (by simp)
  have hE1 : ∀ x : Cl (w.alloc (.cells #[.bool p, .bool mi, .bool sh, .bool sp, .bool z, .int .i64 wid, .int .i64 prec, .int .i32 verb] 24)), Esc x.w := fun x => (hE.below hbA).below x.below
  have hE2 := hE.below hbA
  clear hv _h5 _h6
  by_cases hs : verb = 118 ∧ sh = true
  · obtain ⟨rfl, rfl⟩ := hs
    go_enter Tryd.func4, Tryd.ntmps4
    go_wp2_with ((go_at_call 9; (first | refine (Cl.go (lives3_any _ (hE1 _))).mono ?_ | refine (Cl.go0 (lives3_any _ hE2)).mono ?_); rintro e w9 ⟨y, rfl, rfl⟩))
    go_ret
    exact ⟨rfl, hbA.trans (y.below.mono hbA.size)⟩
  · have hA : ∀ w, Esc w → _ := fun w hE => isigned_any v p mi sh sp z wid prec verb w hE hv'.1 hv'.2
    have hB : ∀ w, Esc w → _ := fun w hE => iunsigned_any (uN v) p mi sh sp z wid prec verb w hE (uN_lt v)
    have eu : uVerb sh verb = verb := by unfold uVerb; rw [if_neg hs]
    rw [eu] at hB
    have hW := wrap_uN v
    by_cases hn : v < 0
    · clear hA hB hW
      by_cases h1 : verb = 118
      · have h2 : sh = false := by cases sh with | false => rfl | true => exact absurd ⟨h1, rfl⟩ hs
        subst h1 h2
        go_enter Tryd.func4, Tryd.ntmps4
        go_wp2_with ((go_at_call 9; (first | refine (Cl.go (lives3_any _ (hE1 _))).mono ?_ | refine (Cl.go0 (lives3_any _ hE2)).mono ?_); rintro e w9 ⟨y, rfl, rfl⟩))
        go_ret
        exact ⟨rfl, hbA.trans (y.below.mono hbA.size)⟩
      · go_enter Tryd.func4, Tryd.ntmps4
        go_wp2_with ((go_at_call 9; (first | refine (Cl.go (lives3_any _ (hE1 _))).mono ?_ | refine (Cl.go0 (lives3_any _ hE2)).mono ?_); rintro e w9 ⟨y, rfl, rfl⟩))
        go_ret
        exact ⟨rfl, hbA.trans (y.below.mono hbA.size)⟩
    · have e1 : v.natAbs = uN v := by unfold uN; omega
      have e2 : sgS v p sp = signA p sp := by unfold sgS; rw [if_neg hn]
      rw [e1, e2] at hA
      generalize numS (uN v) (uN v) (signA p sp) p mi sh z wid prec verb = r at *
      generalize numK verb = kk at *
      clear e1 e2
      generalize uN v = u at *
      by_cases h1 : verb = 118
      · have h2 : sh = false := by cases sh with | false => rfl | true => exact absurd ⟨h1, rfl⟩ hs
        subst h1 h2
        clear hs eu
        go_enter Tryd.func4, Tryd.ntmps4
        go_wp2_with (first | (go_at_call 8; refine (Cl.go0 (hA _ hE2)).mono ?_; rintro e w9 ⟨y, rfl, rfl⟩) | (go_at_call 10; refine (Cl.go (hB _ (hE1 _))).mono ?_; rintro e w9 ⟨y, rfl, rfl⟩) | (go_at_call 9; (first | refine (Cl.go (lives3_any _ (hE1 _))).mono ?_ | refine (Cl.go0 (lives3_any _ hE2)).mono ?_); rintro e w9 ⟨y, rfl, rfl⟩))
        go_ret
        exact ⟨rfl, hbA.trans (y.below.mono hbA.size)⟩
      · clear hs eu
        go_enter Tryd.func4, Tryd.ntmps4
        go_wp2_with (first | (go_at_call 8; refine (Cl.go0 (hA _ hE2)).mono ?_; rintro e w9 ⟨y, rfl, rfl⟩) | (go_at_call 10; refine (Cl.go (hB _ (hE1 _))).mono ?_; rintro e w9 ⟨y, rfl, rfl⟩) | (go_at_call 9; (first | refine (Cl.go (lives3_any _ (hE1 _))).mono ?_ | refine (Cl.go0 (lives3_any _ hE2)).mono ?_); rintro e w9 ⟨y, rfl, rfl⟩))
        go_ret
        exact ⟨rfl, hbA.trans (y.below.mono hbA.size)⟩
end Go.Proofs.YtnoelbomcogndacDoor
