/- The walks of package short: has, and the closure of Read. -/
import Derived.Test.YthbabhbfpcfenabDoorSWalkC
namespace Go.Proofs.YthbabhbfpcfenabDoor
open Go.RowKit
set_option linter.unusedVariables false
set_option linter.unusedSimpArgs false

/-- What has answers. -/
def hasB (ev : Bool) (r1 r2 : Int) : Bool := if ev then decide (0 ≤ r1) && decide (r2 ≤ 0) else decide (0 < r1) && decide (r2 < 0)
set_option maxRecDepth 1000000 in
set_option maxHeartbeats 1600000 in
theorem has_walk {s S1 S2 : ByteArray} {p P1 P2 r1 r2 : Int} {ev : Bool} (h1 : CpC s p S1 P1 r1) (h2 : CpC s p S2 P2 r2) (w : World) :
    Calls Tryd.prog 35 #[.agg #[.string S1, .int .i64 P1, .string S2, .int .i64 P2, .bool ev], .agg #[.string s, .int .i64 p]] w fun x w' => x = .returned (.bool (hasB ev r1 r2)) ∧ Below w.heap.size w w' := by
  obtain ⟨W2, hW2⟩ : ∃ W2, (w.alloc (.cells #[.string S1, .int .i64 P1, .string S2, .int .i64 P2, .bool ev] 72)).alloc (.cells #[.string s, .int .i64 p] 23) = W2 := ⟨_, rfl⟩
  have hbW : Below w.heap.size w W2 := by rw [← hW2]; go_grown
  have c0 : ∀ x : Cl W2, x.w.cell? ⟨w.heap.size, 0, none⟩ = some (.string S1) := fun x => x.cell (by rw [← hW2]; simp [go_sem])
  have c1 : ∀ x : Cl W2, x.w.cell? ⟨w.heap.size, 1, none⟩ = some (.int .i64 P1) := fun x => x.cell (by rw [← hW2]; simp [go_sem])
  have c2 : ∀ x : Cl W2, x.w.cell? ⟨w.heap.size, 2, none⟩ = some (.string S2) := fun x => x.cell (by rw [← hW2]; simp [go_sem])
  have c3 : ∀ x : Cl W2, x.w.cell? ⟨w.heap.size, 3, none⟩ = some (.int .i64 P2) := fun x => x.cell (by rw [← hW2]; simp [go_sem])
  have c4 : ∀ x : Cl W2, x.w.cell? ⟨w.heap.size, 4, none⟩ = some (.bool ev) := fun x => x.cell (by rw [← hW2]; simp [go_sem])
  have c5 : ∀ x : Cl W2, x.w.cell? ⟨w.heap.size + 1, 0, none⟩ = some (.string s) := fun x => x.cell (by rw [← hW2]; simp [go_sem])
  have c6 : ∀ x : Cl W2, x.w.cell? ⟨w.heap.size + 1, 1, none⟩ = some (.int .i64 p) := fun x => x.cell (by rw [← hW2]; simp [go_sem])
  go_enter Tryd.func35, Tryd.ntmps35
  go_wp2
  refine wp_region_above W2 (Below.refl _ _) (by kernel_rfl) (by kernel_rfl) ?_
  intro hCl
  repeat (go_big_quiet_step ((first | (go_at_call 10; with_reducible exact Cl.call (h1 _)) | (go_at_call 10; with_reducible exact Cl.call (h2 _)))))
  refine wpQuiet_nil ?_
  intro _ hw'
  obtain ⟨y, hx⟩ := hw'
  subst hx
  have hb := bel_call hbW y.below (Nat.le_refl _)
  cases ev
  · by_cases k1 : 0 < r1
    · go_wp2
      go_ret
      refine ⟨?_, hb⟩
      simp [hasB, k1] <;> omega
    · go_wp2
      go_ret
      refine ⟨?_, hb⟩
      simp [hasB, k1] <;> omega
  · by_cases k1 : 0 ≤ r1
    · go_wp2
      go_ret
      refine ⟨?_, hb⟩
      simp [hasB, k1] <;> omega
    · go_wp2
      go_ret
      refine ⟨?_, hb⟩
      simp [hasB, k1] <;> omega
/-- What the closure answers. -/
def tg (A v p : Nat) : Bool := decide (v < A) || (decide (v = A) && decide (p % 2 = 1))
set_option maxRecDepth 1000000 in
set_option maxHeartbeats 1600000 in
theorem great_walk {s S : ByteArray} {q P least : Int} {f ww p A v Bd Bl : Nat} (h1 : AbC f ww least ((p : Int) - 1) S P) (h2 : CpC s q S P (ordN v A)) (hp0 : 1 ≤ p) (hp : p < 9300000000000000000) (w : World)
    (d0 : w.cell? ⟨Bd, 0, none⟩ = some (.string s)) (d1 : w.cell? ⟨Bd, 1, none⟩ = some (.int .i64 q))
    (l0 : w.cell? ⟨Bl, 0, none⟩ = some (.int .i64 ww)) (l1 : w.cell? ⟨Bl, 1, none⟩ = some (.int .i64 f)) (l2 : w.cell? ⟨Bl, 2, none⟩ = some (.int .i64 least)) :
    Calls Tryd.prog 9 #[.int .u64 p, .pointer (some ⟨Bd, 0, none⟩), .pointer (some ⟨Bl, 0, none⟩)] w fun x w' => x = .returned (.bool (tg A v p)) ∧ Below w.heap.size w w' := by
  have h3 := fun w => iseven_any p w (by omega)
  have hpI : 1 ≤ (p : Int) := by omega
  have hwr : IntKind.u64.wrap ((p : Int) - 1) = (p : Int) - 1 := by rw [IntKind.wrap_u64]; omega
  have h1' : AbC f ww least (IntKind.u64.wrap ((p : Int) - 1)) S P := by rw [hwr]; exact h1
  clear hwr
  have c0 : ∀ x : Cl w, x.w.cell? ⟨Bd, 0, none⟩ = some (.string s) := fun x => x.cell d0
  have c1 : ∀ x : Cl w, x.w.cell? ⟨Bd, 1, none⟩ = some (.int .i64 q) := fun x => x.cell d1
  have c2 : ∀ x : Cl w, x.w.cell? ⟨Bl, 0, none⟩ = some (.int .i64 ww) := fun x => x.cell l0
  have c3 : ∀ x : Cl w, x.w.cell? ⟨Bl, 1, none⟩ = some (.int .i64 f) := fun x => x.cell l1
  have c4 : ∀ x : Cl w, x.w.cell? ⟨Bl, 2, none⟩ = some (.int .i64 least) := fun x => x.cell l2
  have HT : Hid (tg A v p = if v < A then true else if v = A then decide (p % 2 = 1) else false) := by
    show tg A v p = _
    unfold tg
    by_cases k1 : v < A
    · simp [k1]
    · by_cases k2 : v = A
      · simp [k2]
      · simp [k1, k2]
  have HO : Hid ((v < A → ordN v A = -1) ∧ (v = A → ordN v A = 0) ∧ (A < v → ordN v A = 1)) := ⟨ordN_lt, ordN_eq, ordN_gt⟩
  have HP : Hid ((p % 2 = 1 → decide (p % 2 = 0) = false) ∧ (p % 2 = 0 → decide (p % 2 = 0) = true)) := ⟨fun h => by simp [h], fun h => by simp [h]⟩
  generalize tg A v p = T at *
  have hne : decide (p % 2 = 0) = !decide (p % 2 = 1) := by
    rcases Nat.mod_two_eq_zero_or_one p with h | h <;> simp [h]
  generalize decide (p % 2 = 0) = ev at *
  go_enter Tryd.func9, Tryd.ntmps9
  go_wp2
  refine wp_region_above w (Below.refl _ _) (by kernel_rfl) (by kernel_rfl) ?_
  intro hCl
  repeat (go_big_quiet_step ((first | (go_at_call 11; with_reducible exact Cl.call (h1' _)) | (go_at_call 11; with_reducible exact Cl.call (h1 _)) | (go_at_call 10; with_reducible exact Cl.call (h2 _)))))
  refine wpQuiet_nil ?_
  intro _ hw'
  obtain ⟨y, hx⟩ := hw'
  subst hx
  rcases Nat.lt_trichotomy v A with k | k | k
  · have e := HO.out.1 k
    have eT : T = true := by rw [HT.out, if_pos k]
    subst eT
    rw [e]
    clear HT HO HP hne
    go_wp2
    go_ret
    exact ⟨rfl, y.below⟩
  · have e := HO.out.2.1 k
    have eT : T = !ev := by rw [HT.out, if_neg (by omega), if_pos k, hne, Bool.not_not]
    subst eT
    rw [e]
    clear HT HO HP hne
    go_wp2_with (go_at_call 12; refine (h3 _).mono ?_; rintro x w5 ⟨rfl, rfl⟩)
    go_ret
    exact ⟨rfl, y.below⟩
  · have e := HO.out.2.2 k
    have eT : T = false := by rw [HT.out, if_neg (by omega), if_neg (by omega)]
    subst eT
    rw [e]
    clear HT HO HP hne
    go_wp2
    go_ret
    exact ⟨rfl, y.below⟩
end Go.Proofs.YthbabhbfpcfenabDoor
