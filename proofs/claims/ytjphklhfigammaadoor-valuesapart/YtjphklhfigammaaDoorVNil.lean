/- made at a struct, a map, a list and a pointer without parts; Build of any descriptor without names and parts. -/
import Derived.Test.YtjphklhfigammaaDoorVLives
import Derived.Test.YtjphklhfigammaaDoorShelf
import Derived.BigQuiet
import Derived.Deep.LoopGhost
namespace Go.Proofs.YtjphklhfigammaaDoor
open Go.RowKit
set_option linter.unusedVariables false
set_option linter.unusedSimpArgs false

theorem madeall_nil (w : World) : Calls Tryd.prog 53 #[.slice none 0 0] w fun e w' => e = .returned (.slice none 0 0) ∧ w' = w := by
  go_enter Tryd.func53, Tryd.ntmps53
  go_wp2
  refine wp_loop_rounds 1 ?_
  rw [rounds_succ]
  go_wp2
  go_ret
  exact ⟨rfl, rfl⟩
theorem anytwice_nil (w : World) : Calls Tryd.prog 51 #[.slice none 0 0] w fun e w' => e = .returned (.bool false) ∧ w' = w := by
  go_enter Tryd.func51, Tryd.ntmps51
  go_wp2
  refine wp_loop_rounds 1 ?_
  rw [rounds_succ]
  go_wp2
  go_ret
  exact ⟨rfl, rfl⟩
theorem sort_nil (w : World) : Calls Tryd.prog 69 #[.slice none 0 0, .func (.func 70) #[] #[]] w fun e w' => e = .returned (.tuple #[]) ∧ w' = w :=
  AnyF.slices_SortFunc_none Tryd.laysSort none 0 _ w
set_option maxRecDepth 1000000 in
set_option maxHeartbeats 1000000 in
theorem entries_nil (w : World) : Calls Tryd.prog 54 #[.slice none 0 0] w fun e w' => e = .returned (.slice none 0 0) ∧ w' = w := by
  go_enter Tryd.func54, Tryd.ntmps54
  go_wp2
  refine wp_loop_rounds 1 ?_
  rw [rounds_succ]
  go_wp2_with (go_at_call 69; refine (sort_nil _).mono ?_; rintro e w1 ⟨rfl, rfl⟩)
  refine wp_loop_rounds 1 ?_
  rw [rounds_succ]
  go_wp2
  go_ret
  exact ⟨rfl, rfl⟩
set_option maxRecDepth 1000000 in
set_option maxHeartbeats 4000000 in
theorem madenil_18 (bits imag hook : Int) (ty text : ByteArray) (w : World) :
    Calls Tryd.prog 26 #[.agg #[.int .i64 18, .string ty, .int .u64 bits, .int .u64 imag, .string text, .slice none 0 0, .slice none 0 0, .int .i64 hook]] w fun e w' => e = .returned (.iface 83 (.agg #[.int .i64 18, .string ty, .int .i64 hook, .slice none 0 0, .slice none 0 0])) ∧ Below w.heap.size w w' := by
  obtain ⟨W2, hW2⟩ : ∃ W2, W2 = (w.alloc (.cells #[.int .i64 18, .string ty, .int .u64 bits, .int .u64 imag, .string text, .slice none 0 0, .slice none 0 0, .int .i64 hook] 26)).alloc (.cells #[.int .i64 18, .string ty, .int .i64 hook] 53) := ⟨_, rfl⟩
  have f2 : ∀ x : Cl W2, x.w.cell? ⟨w.heap.size, 2, none⟩ = some (.int .u64 bits) := fun x => x.cell (by rw [hW2]; simp [go_sem])
  have f5 : ∀ x : Cl W2, x.w.cell? ⟨w.heap.size, 5, none⟩ = some (.slice none 0 0) := fun x => x.cell (by rw [hW2]; simp [go_sem])
  have f6 : ∀ x : Cl W2, x.w.cell? ⟨w.heap.size, 6, none⟩ = some (.slice none 0 0) := fun x => x.cell (by rw [hW2]; simp [go_sem])
  have g0 : ∀ x : Cl W2, x.w.cell? ⟨w.heap.size + 1, 0, none⟩ = some (.int .i64 18) := fun x => x.cell (by rw [hW2]; simp [go_sem])
  have g1 : ∀ x : Cl W2, x.w.cell? ⟨w.heap.size + 1, 1, none⟩ = some (.string ty) := fun x => x.cell (by rw [hW2]; simp [go_sem])
  have g2 : ∀ x : Cl W2, x.w.cell? ⟨w.heap.size + 1, 2, none⟩ = some (.int .i64 hook) := fun x => x.cell (by rw [hW2]; simp [go_sem])
  have hbW : Below w.heap.size w W2 := by rw [hW2]; exact ((Below.refl _ _).alloc (Nat.le_refl _) _).alloc (by simp) _
  go_enter Tryd.func26, Tryd.ntmps26
  go_wp2_with (first | (go_at_call 51; refine (anytwice_nil _).mono ?_; rintro e w1 ⟨rfl, hw⟩; subst hw) | (go_at_call 42; refine (must_ok _ _).mono ?_; rintro e w1 ⟨rfl, hw⟩; subst hw))
  rw [← hW2]
  refine wp_region_above W2 (Below.refl _ _) (by kernel_rfl) (by kernel_rfl) ?_
  intro hCl
  repeat (go_big_quiet_step ((first | (go_at_call 52; exact Cl.call_same (Tryd.slices_Clone_nil 0 0 _)) | (go_at_call 53; exact Cl.call_same (madeall_nil _)) | exact rfl)))
  refine wpQuiet_nil ?_
  intro _ hw'
  obtain ⟨y, hx⟩ := hw'
  subst hx
  go_wp2
  go_ret
  exact ⟨rfl, hbW.trans (y.below.mono hbW.size)⟩
set_option maxRecDepth 1000000 in
set_option maxHeartbeats 4000000 in
theorem madenil_19 (bits imag hook : Int) (ty text : ByteArray) (w : World) :
    Calls Tryd.prog 26 #[.agg #[.int .i64 19, .string ty, .int .u64 bits, .int .u64 imag, .string text, .slice none 0 0, .slice none 0 0, .int .i64 hook]] w fun e w' => e = .returned (.iface 96 (.agg #[.int .i64 19, .string ty, .int .i64 hook, .slice none 0 0])) ∧ Below w.heap.size w w' := by
  obtain ⟨W2, hW2⟩ : ∃ W2, W2 = (w.alloc (.cells #[.int .i64 19, .string ty, .int .u64 bits, .int .u64 imag, .string text, .slice none 0 0, .slice none 0 0, .int .i64 hook] 26)).alloc (.cells #[.int .i64 19, .string ty, .int .i64 hook] 53) := ⟨_, rfl⟩
  have f2 : ∀ x : Cl W2, x.w.cell? ⟨w.heap.size, 2, none⟩ = some (.int .u64 bits) := fun x => x.cell (by rw [hW2]; simp [go_sem])
  have f5 : ∀ x : Cl W2, x.w.cell? ⟨w.heap.size, 5, none⟩ = some (.slice none 0 0) := fun x => x.cell (by rw [hW2]; simp [go_sem])
  have f6 : ∀ x : Cl W2, x.w.cell? ⟨w.heap.size, 6, none⟩ = some (.slice none 0 0) := fun x => x.cell (by rw [hW2]; simp [go_sem])
  have g0 : ∀ x : Cl W2, x.w.cell? ⟨w.heap.size + 1, 0, none⟩ = some (.int .i64 19) := fun x => x.cell (by rw [hW2]; simp [go_sem])
  have g1 : ∀ x : Cl W2, x.w.cell? ⟨w.heap.size + 1, 1, none⟩ = some (.string ty) := fun x => x.cell (by rw [hW2]; simp [go_sem])
  have g2 : ∀ x : Cl W2, x.w.cell? ⟨w.heap.size + 1, 2, none⟩ = some (.int .i64 hook) := fun x => x.cell (by rw [hW2]; simp [go_sem])
  have hbW : Below w.heap.size w W2 := by rw [hW2]; exact ((Below.refl _ _).alloc (Nat.le_refl _) _).alloc (by simp) _
  go_enter Tryd.func26, Tryd.ntmps26
  go_wp2
  rw [← hW2]
  refine wp_region_above W2 (Below.refl _ _) (by kernel_rfl) (by kernel_rfl) ?_
  intro hCl
  repeat (go_big_quiet_step ((first | (go_at_call 53; exact Cl.call_same (madeall_nil _)) | exact rfl)))
  refine wpQuiet_nil ?_
  intro _ hw'
  obtain ⟨y, hx⟩ := hw'
  subst hx
  go_wp2
  go_ret
  exact ⟨rfl, hbW.trans (y.below.mono hbW.size)⟩
set_option maxRecDepth 1000000 in
set_option maxHeartbeats 4000000 in
theorem madenil_20 (bits imag hook : Int) (ty text : ByteArray) (w : World) :
    Calls Tryd.prog 26 #[.agg #[.int .i64 20, .string ty, .int .u64 bits, .int .u64 imag, .string text, .slice none 0 0, .slice none 0 0, .int .i64 hook]] w fun e w' => e = .returned (.iface 96 (.agg #[.int .i64 20, .string ty, .int .i64 hook, .slice none 0 0])) ∧ Below w.heap.size w w' := by
  obtain ⟨W2, hW2⟩ : ∃ W2, W2 = (w.alloc (.cells #[.int .i64 20, .string ty, .int .u64 bits, .int .u64 imag, .string text, .slice none 0 0, .slice none 0 0, .int .i64 hook] 26)).alloc (.cells #[.int .i64 20, .string ty, .int .i64 hook] 53) := ⟨_, rfl⟩
  have f2 : ∀ x : Cl W2, x.w.cell? ⟨w.heap.size, 2, none⟩ = some (.int .u64 bits) := fun x => x.cell (by rw [hW2]; simp [go_sem])
  have f5 : ∀ x : Cl W2, x.w.cell? ⟨w.heap.size, 5, none⟩ = some (.slice none 0 0) := fun x => x.cell (by rw [hW2]; simp [go_sem])
  have f6 : ∀ x : Cl W2, x.w.cell? ⟨w.heap.size, 6, none⟩ = some (.slice none 0 0) := fun x => x.cell (by rw [hW2]; simp [go_sem])
  have g0 : ∀ x : Cl W2, x.w.cell? ⟨w.heap.size + 1, 0, none⟩ = some (.int .i64 20) := fun x => x.cell (by rw [hW2]; simp [go_sem])
  have g1 : ∀ x : Cl W2, x.w.cell? ⟨w.heap.size + 1, 1, none⟩ = some (.string ty) := fun x => x.cell (by rw [hW2]; simp [go_sem])
  have g2 : ∀ x : Cl W2, x.w.cell? ⟨w.heap.size + 1, 2, none⟩ = some (.int .i64 hook) := fun x => x.cell (by rw [hW2]; simp [go_sem])
  have hbW : Below w.heap.size w W2 := by rw [hW2]; exact ((Below.refl _ _).alloc (Nat.le_refl _) _).alloc (by simp) _
  go_enter Tryd.func26, Tryd.ntmps26
  go_wp2
  rw [← hW2]
  refine wp_region_above W2 (Below.refl _ _) (by kernel_rfl) (by kernel_rfl) ?_
  intro hCl
  repeat (go_big_quiet_step ((first | (go_at_call 53; exact Cl.call_same (madeall_nil _)) | exact rfl)))
  refine wpQuiet_nil ?_
  intro _ hw'
  obtain ⟨y, hx⟩ := hw'
  subst hx
  go_wp2
  go_ret
  exact ⟨rfl, hbW.trans (y.below.mono hbW.size)⟩
set_option maxRecDepth 1000000 in
set_option maxHeartbeats 4000000 in
theorem madenil_21 (bits imag hook : Int) (ty text : ByteArray) (w : World) :
    Calls Tryd.prog 26 #[.agg #[.int .i64 21, .string ty, .int .u64 bits, .int .u64 imag, .string text, .slice none 0 0, .slice none 0 0, .int .i64 hook]] w fun e w' => e = .returned (.iface 100 (.agg #[.int .i64 21, .string ty, .int .i64 hook, .slice none 0 0])) ∧ Below w.heap.size w w' := by
  obtain ⟨W2, hW2⟩ : ∃ W2, W2 = (w.alloc (.cells #[.int .i64 21, .string ty, .int .u64 bits, .int .u64 imag, .string text, .slice none 0 0, .slice none 0 0, .int .i64 hook] 26)).alloc (.cells #[.int .i64 21, .string ty, .int .i64 hook] 53) := ⟨_, rfl⟩
  have f2 : ∀ x : Cl W2, x.w.cell? ⟨w.heap.size, 2, none⟩ = some (.int .u64 bits) := fun x => x.cell (by rw [hW2]; simp [go_sem])
  have f5 : ∀ x : Cl W2, x.w.cell? ⟨w.heap.size, 5, none⟩ = some (.slice none 0 0) := fun x => x.cell (by rw [hW2]; simp [go_sem])
  have f6 : ∀ x : Cl W2, x.w.cell? ⟨w.heap.size, 6, none⟩ = some (.slice none 0 0) := fun x => x.cell (by rw [hW2]; simp [go_sem])
  have g0 : ∀ x : Cl W2, x.w.cell? ⟨w.heap.size + 1, 0, none⟩ = some (.int .i64 21) := fun x => x.cell (by rw [hW2]; simp [go_sem])
  have g1 : ∀ x : Cl W2, x.w.cell? ⟨w.heap.size + 1, 1, none⟩ = some (.string ty) := fun x => x.cell (by rw [hW2]; simp [go_sem])
  have g2 : ∀ x : Cl W2, x.w.cell? ⟨w.heap.size + 1, 2, none⟩ = some (.int .i64 hook) := fun x => x.cell (by rw [hW2]; simp [go_sem])
  have hbW : Below w.heap.size w W2 := by rw [hW2]; exact ((Below.refl _ _).alloc (Nat.le_refl _) _).alloc (by simp) _
  go_enter Tryd.func26, Tryd.ntmps26
  go_wp2
  rw [← hW2]
  refine wp_region_above W2 (Below.refl _ _) (by kernel_rfl) (by kernel_rfl) ?_
  intro hCl
  repeat (go_big_quiet_step ((first | (go_at_call 53; exact Cl.call_same (madeall_nil _)) | (go_at_call 54; exact Cl.call_same (entries_nil _)) | exact rfl)))
  refine wpQuiet_nil ?_
  intro _ hw'
  obtain ⟨y, hx⟩ := hw'
  subst hx
  go_wp2
  go_ret
  exact ⟨rfl, hbW.trans (y.below.mono hbW.size)⟩
set_option maxRecDepth 1000000 in
set_option maxHeartbeats 4000000 in
theorem madenil_22 (bits imag hook : Int) (ty text : ByteArray) (w : World) :
    Calls Tryd.prog 26 #[.agg #[.int .i64 22, .string ty, .int .u64 bits, .int .u64 imag, .string text, .slice none 0 0, .slice none 0 0, .int .i64 hook]] w fun e w' => e = .returned (.iface 85 (.agg #[.int .i64 22, .string ty, .int .i64 hook, .int .u64 bits, .slice none 0 0])) ∧ Below w.heap.size w w' := by
  obtain ⟨W2, hW2⟩ : ∃ W2, W2 = (w.alloc (.cells #[.int .i64 22, .string ty, .int .u64 bits, .int .u64 imag, .string text, .slice none 0 0, .slice none 0 0, .int .i64 hook] 26)).alloc (.cells #[.int .i64 22, .string ty, .int .i64 hook] 53) := ⟨_, rfl⟩
  have f2 : ∀ x : Cl W2, x.w.cell? ⟨w.heap.size, 2, none⟩ = some (.int .u64 bits) := fun x => x.cell (by rw [hW2]; simp [go_sem])
  have f5 : ∀ x : Cl W2, x.w.cell? ⟨w.heap.size, 5, none⟩ = some (.slice none 0 0) := fun x => x.cell (by rw [hW2]; simp [go_sem])
  have f6 : ∀ x : Cl W2, x.w.cell? ⟨w.heap.size, 6, none⟩ = some (.slice none 0 0) := fun x => x.cell (by rw [hW2]; simp [go_sem])
  have g0 : ∀ x : Cl W2, x.w.cell? ⟨w.heap.size + 1, 0, none⟩ = some (.int .i64 22) := fun x => x.cell (by rw [hW2]; simp [go_sem])
  have g1 : ∀ x : Cl W2, x.w.cell? ⟨w.heap.size + 1, 1, none⟩ = some (.string ty) := fun x => x.cell (by rw [hW2]; simp [go_sem])
  have g2 : ∀ x : Cl W2, x.w.cell? ⟨w.heap.size + 1, 2, none⟩ = some (.int .i64 hook) := fun x => x.cell (by rw [hW2]; simp [go_sem])
  have hbW : Below w.heap.size w W2 := by rw [hW2]; exact ((Below.refl _ _).alloc (Nat.le_refl _) _).alloc (by simp) _
  go_enter Tryd.func26, Tryd.ntmps26
  go_wp2
  rw [← hW2]
  refine wp_region_above W2 (Below.refl _ _) (by kernel_rfl) (by kernel_rfl) ?_
  intro hCl
  repeat (go_big_quiet_step ((first | (go_at_call 53; exact Cl.call_same (madeall_nil _)) | exact rfl)))
  refine wpQuiet_nil ?_
  intro _ hw'
  obtain ⟨y, hx⟩ := hw'
  subst hx
  go_wp2
  go_ret
  exact ⟨rfl, hbW.trans (y.below.mono hbW.size)⟩
/-- Build of whatever descriptor has no names and no parts: a value, or why there is none. -/
theorem buildnil_any (k b i h : Int) (ty s : ByteArray) (w : World) (hf : Fit (D0 k b i h ty s)) :
    Calls Tryd.prog 10 #[.agg #[.int .i64 k, .string ty, .int .u64 b, .int .u64 i, .string s, .slice none 0 0, .slice none 0 0, .int .i64 h]] w fun e w' => Below w.heap.size w w' ∧
      ((chk0 (D0 k b i h ty s) = 0 ∧ ∃ v, e = .returned (.tuple #[v, .int .i64 0]) ∧ v ≠ .nilIface) ∨ (chk0 (D0 k b i h ty s) ≠ 0 ∧ e = .returned (.tuple #[.nilIface, .int .i64 (chk0 (D0 k b i h ty s))]))) := by
  refine (build_any 1 (D0 k b i h ty s) _ _ w (rd0 k b i h ty s w hf) (by omega) False (fun _ _ => True) ?_).mono ?_
  · intro hc W hW _
    have h3 : ok3 0 (D0 k b i h ty s) 0 = true := by
      unfold chk0 at hc
      rw [pre0] at hc
      cases h3 : ok3 0 (D0 k b i h ty s) 0 with
      | true => rfl
      | false =>
        simp only [runV, h3] at hc
        repeat' split at hc
        all_goals simp_all
    have h4 : 0 ≤ k ∧ k ≤ 22 := by simpa [ok3] using h3
    by_cases h17 : k ≤ 17
    · refine (made_flat (D0 k b i h ty s) none none 0 0 W h4.1 h17 hf.2.1.1 hf.2.1.2 hf.2.2.1.1 hf.2.2.1.2).mono ?_
      rintro e W' ⟨rfl, hb⟩
      obtain ⟨t, x, hx⟩ : ∃ t x, mdV (D0 k b i h ty s) = .iface t x := by
        unfold mdV
        repeat' split
        all_goals exact ⟨_, _, rfl⟩
      exact ⟨hb, .inl ⟨id, t, x, by rw [hx], fun _ _ => trivial⟩⟩
    · have hk : k = 18 ∨ k = 19 ∨ k = 20 ∨ k = 21 ∨ k = 22 := by omega
      rcases hk with rfl | rfl | rfl | rfl | rfl
      · refine (madenil_18 b i h ty s W).mono ?_
        rintro e W' ⟨rfl, hb⟩
        exact ⟨hb, .inl ⟨id, _, _, rfl, fun _ _ => trivial⟩⟩
      · refine (madenil_19 b i h ty s W).mono ?_
        rintro e W' ⟨rfl, hb⟩
        exact ⟨hb, .inl ⟨id, _, _, rfl, fun _ _ => trivial⟩⟩
      · refine (madenil_20 b i h ty s W).mono ?_
        rintro e W' ⟨rfl, hb⟩
        exact ⟨hb, .inl ⟨id, _, _, rfl, fun _ _ => trivial⟩⟩
      · refine (madenil_21 b i h ty s W).mono ?_
        rintro e W' ⟨rfl, hb⟩
        exact ⟨hb, .inl ⟨id, _, _, rfl, fun _ _ => trivial⟩⟩
      · refine (madenil_22 b i h ty s W).mono ?_
        rintro e W' ⟨rfl, hb⟩
        exact ⟨hb, .inl ⟨id, _, _, rfl, fun _ _ => trivial⟩⟩
  · rintro e w' ⟨hb, (⟨h0, -, v, rfl, hv, -⟩ | ⟨-, hF, -⟩ | ⟨hne, rfl⟩)⟩
    · exact ⟨hb, .inl ⟨h0, v, rfl, hv⟩⟩
    · exact hF.elim
    · exact ⟨hb, .inr ⟨hne, rfl⟩⟩
end Go.Proofs.YtjphklhfigammaaDoor
