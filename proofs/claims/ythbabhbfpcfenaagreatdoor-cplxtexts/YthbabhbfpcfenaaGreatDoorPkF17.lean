/- SWalkD, SWalkE: these texts in one. -/
import Derived.Test.YthbabhbfpcfenaaGreatDoorPkF16
/- The walks of package short: has, and the closure of Read. -/
namespace Go.Proofs.YthbabhbfpcfenaaGreatDoor
open Go.RowKit
set_option linter.unusedVariables false
set_option linter.unusedSimpArgs false

/-- What has answers. -/
def hasB (ev : Bool) (r1 r2 : Int) : Bool := if ev then decide (0 ≤ r1) && decide (r2 ≤ 0) else decide (0 < r1) && decide (r2 < 0)
set_option maxRecDepth 1000000 in
set_option maxHeartbeats 1600000 in
theorem has_walk {s S1 S2 : ByteArray} {p P1 P2 r1 r2 : Int} {ev : Bool} (h1 : CpC s p S1 P1 r1) (h2 : CpC s p S2 P2 r2) (w : World) :
    Calls Tryz.prog 144 #[.agg #[.string S1, .int .i64 P1, .string S2, .int .i64 P2, .bool ev], .agg #[.string s, .int .i64 p]] w fun x w' => x = .returned (.bool (hasB ev r1 r2)) ∧ Below w.heap.size w w' := by
  obtain ⟨W2, hW2⟩ : ∃ W2, (w.alloc (.cells #[.string S1, .int .i64 P1, .string S2, .int .i64 P2, .bool ev] 160)).alloc (.cells #[.string s, .int .i64 p] 91) = W2 := ⟨_, rfl⟩
  have hbW : Below w.heap.size w W2 := by rw [← hW2]; go_grown
  have c0 : ∀ x : Cl W2, x.w.cell? ⟨w.heap.size, 0, none⟩ = some (.string S1) := fun x => x.cell (by rw [← hW2]; simp [go_sem])
  have c1 : ∀ x : Cl W2, x.w.cell? ⟨w.heap.size, 1, none⟩ = some (.int .i64 P1) := fun x => x.cell (by rw [← hW2]; simp [go_sem])
  have c2 : ∀ x : Cl W2, x.w.cell? ⟨w.heap.size, 2, none⟩ = some (.string S2) := fun x => x.cell (by rw [← hW2]; simp [go_sem])
  have c3 : ∀ x : Cl W2, x.w.cell? ⟨w.heap.size, 3, none⟩ = some (.int .i64 P2) := fun x => x.cell (by rw [← hW2]; simp [go_sem])
  have c4 : ∀ x : Cl W2, x.w.cell? ⟨w.heap.size, 4, none⟩ = some (.bool ev) := fun x => x.cell (by rw [← hW2]; simp [go_sem])
  have c5 : ∀ x : Cl W2, x.w.cell? ⟨w.heap.size + 1, 0, none⟩ = some (.string s) := fun x => x.cell (by rw [← hW2]; simp [go_sem])
  have c6 : ∀ x : Cl W2, x.w.cell? ⟨w.heap.size + 1, 1, none⟩ = some (.int .i64 p) := fun x => x.cell (by rw [← hW2]; simp [go_sem])
  go_enter Tryz.func144, Tryz.ntmps144
  go_wp2
  refine wp_region_above W2 (Below.refl _ _) (by kernel_rfl) (by kernel_rfl) ?_
  intro hCl
  repeat (go_big_quiet_step ((first | (go_at_call 168; with_reducible exact Cl.call (h1 _)) | (go_at_call 168; with_reducible exact Cl.call (h2 _)))))
  refine wpQuiet_nil ?_
  intro _ hw'
  obtain ⟨y, hx⟩ := hw'
  subst hx
  have hb := bel_call hbW y.below (Nat.le_refl _)
  cases ev
  · by_cases k1 : 0 < r1
    · go_wp2
      go_ret
      refine ⟨?_, hb⟩
      simp [hasB, k1] <;> omega
    · go_wp2
      go_ret
      refine ⟨?_, hb⟩
      simp [hasB, k1] <;> omega
  · by_cases k1 : 0 ≤ r1
    · go_wp2
      go_ret
      refine ⟨?_, hb⟩
      simp [hasB, k1] <;> omega
    · go_wp2
      go_ret
      refine ⟨?_, hb⟩
      simp [hasB, k1] <;> omega
/-- What the closure answers. -/
def tg (A v p : Nat) : Bool := decide (v < A) || (decide (v = A) && decide (p % 2 = 1))
end Go.Proofs.YthbabhbfpcfenaaGreatDoor

/- The walks of package short: greatest, Read. -/
namespace Go.Proofs.YthbabhbfpcfenaaGreatDoor
open Go.RowKit
set_option linter.unusedVariables false
set_option linter.unusedSimpArgs false

theorem tg_iff {f u v p : Nat} : tg (pa f (p - 1) * u) v p = true ↔ TG f u v p := by
  unfold tg TG; simp
end Go.Proofs.YthbabhbfpcfenaaGreatDoor
