/- The walk of the law ShortRefuses. -/
import Derived.Test.YtgcdmeonoiaplabDoorSLaw
namespace Go.Proofs.YtgcdmeonoiaplabDoor
open Go.RowKit
set_option linter.unusedVariables false
set_option linter.unusedSimpArgs false

set_option maxRecDepth 1000000 in
set_option maxHeartbeats 1600000 in
theorem refuses_walk {bits m r : Nat} {size e k F G : Int} {sg : Bool} {S : ByteArray} {P : Int} (hP : PtC bits size sg m e k) (hS : ShC bits size S P F) (hR : ReadC ⟨#[]⟩ 0 size r G)
    (hh : (¬ size = 32 ∧ ¬ size = 64 ∧ k = 3 ∧ m = 0 ∧ e = 0 ∧ F = 1 ∧ G = 1 ∧ S = ⟨#[]⟩ ∧ P = 0) ∨ ((size = 32 ∨ size = 64) ∧ ¬ k = 0 ∧ m = 0 ∧ e = 0 ∧ F = 1 ∧ S = ⟨#[]⟩ ∧ P = 0 ∧ G = 0) ∨ ((size = 32 ∨ size = 64) ∧ k = 0 ∧ F = 0 ∧ G = 0)) (w : World) :
    Calls Tryd.prog 6 #[.int .u64 bits, .int .i64 size] w fun e w' => e = .returned (.bool true) ∧ Below w.heap.size w w' := by
  have hL := lives5_any
  rcases hh with ⟨h1, h2, rfl, rfl, rfl, rfl, rfl, rfl, rfl⟩ | ⟨h1 | h1, h2, rfl, rfl, rfl, rfl, rfl, rfl⟩ | ⟨h1 | h1, rfl, rfl, rfl⟩
  · have b1 : (size != 32) = true := by simp [h1]
    have b2 : (size != 64) = true := by simp [h2]
    go_enter Tryd.func6, Tryd.ntmps6
    go_wp2_with (first
      | (go_at_call 9; refine (hP _).mono ?_; rintro x w2 ⟨rfl, hb2⟩)
      | (go_at_call 14; refine (hS _).mono ?_; rintro x w3 ⟨rfl, hb3⟩)
      | (go_at_call 11; refine (hR _).mono ?_; rintro x w4 ⟨rfl, hb4⟩; obtain ⟨a0, a1, a2, a3⟩ := keepb hb4 (B := w3.heap.size) (x := .string ⟨#[]⟩) (y := .int .i64 0) (by simp [BoxD, go_sem]))
      | (go_at_call 12; refine (hL _).mono ?_; rintro x w5 ⟨rfl, hb5⟩))
    go_ret
    refine ⟨rfl, ?_⟩
    have h1 := bel_call hb2 hb3 (Nat.le_refl _)
    have h1 := bel_call (h1.alloc h1.size _) hb4 (Nat.le_refl _)
    exact bel_call h1 hb5 (Nat.le_refl _)
  · subst h1
    have b2 : (k != 0) = true := by simp [h2]
    go_enter Tryd.func6, Tryd.ntmps6
    go_wp2_with (first
      | (go_at_call 9; refine (hP _).mono ?_; rintro x w2 ⟨rfl, hb2⟩)
      | (go_at_call 14; refine (hS _).mono ?_; rintro x w3 ⟨rfl, hb3⟩)
      | (go_at_call 11; refine (hR _).mono ?_; rintro x w4 ⟨rfl, hb4⟩; obtain ⟨a0, a1, a2, a3⟩ := keepb hb4 (B := w3.heap.size) (x := .string ⟨#[]⟩) (y := .int .i64 0) (by simp [BoxD, go_sem]))
      | (go_at_call 12; refine (hL _).mono ?_; rintro x w5 ⟨rfl, hb5⟩))
    go_ret
    refine ⟨rfl, ?_⟩
    have h1 := bel_call hb2 hb3 (Nat.le_refl _)
    have h1 := bel_call (h1.alloc h1.size _) hb4 (Nat.le_refl _)
    exact bel_call h1 hb5 (Nat.le_refl _)
  · subst h1
    have b2 : (k != 0) = true := by simp [h2]
    go_enter Tryd.func6, Tryd.ntmps6
    go_wp2_with (first
      | (go_at_call 9; refine (hP _).mono ?_; rintro x w2 ⟨rfl, hb2⟩)
      | (go_at_call 14; refine (hS _).mono ?_; rintro x w3 ⟨rfl, hb3⟩)
      | (go_at_call 11; refine (hR _).mono ?_; rintro x w4 ⟨rfl, hb4⟩; obtain ⟨a0, a1, a2, a3⟩ := keepb hb4 (B := w3.heap.size) (x := .string ⟨#[]⟩) (y := .int .i64 0) (by simp [BoxD, go_sem]))
      | (go_at_call 12; refine (hL _).mono ?_; rintro x w5 ⟨rfl, hb5⟩))
    go_ret
    refine ⟨rfl, ?_⟩
    have h1 := bel_call hb2 hb3 (Nat.le_refl _)
    have h1 := bel_call (h1.alloc h1.size _) hb4 (Nat.le_refl _)
    exact bel_call h1 hb5 (Nat.le_refl _)
  · subst h1
    go_enter Tryd.func6, Tryd.ntmps6
    go_wp2_with (first
      | (go_at_call 9; refine (hP _).mono ?_; rintro x w2 ⟨rfl, hb2⟩)
      | (go_at_call 14; refine (hS _).mono ?_; rintro x w3 ⟨rfl, hb3⟩)
      | (go_at_call 11; refine (hR _).mono ?_; rintro x w4 ⟨rfl, hb4⟩; obtain ⟨a0, a1, a2, a3⟩ := keepb hb4 (B := w3.heap.size) (x := .string S) (y := .int .i64 P) (by simp [BoxD, go_sem]))
      | (go_at_call 12; refine (hL _).mono ?_; rintro x w5 ⟨rfl, hb5⟩))
    go_ret
    refine ⟨rfl, ?_⟩
    have h1 := bel_call hb2 hb3 (Nat.le_refl _)
    have h1 := bel_call (h1.alloc h1.size _) hb4 (Nat.le_refl _)
    exact bel_call h1 hb5 (Nat.le_refl _)
  · subst h1
    go_enter Tryd.func6, Tryd.ntmps6
    go_wp2_with (first
      | (go_at_call 9; refine (hP _).mono ?_; rintro x w2 ⟨rfl, hb2⟩)
      | (go_at_call 14; refine (hS _).mono ?_; rintro x w3 ⟨rfl, hb3⟩)
      | (go_at_call 11; refine (hR _).mono ?_; rintro x w4 ⟨rfl, hb4⟩; obtain ⟨a0, a1, a2, a3⟩ := keepb hb4 (B := w3.heap.size) (x := .string S) (y := .int .i64 P) (by simp [BoxD, go_sem]))
      | (go_at_call 12; refine (hL _).mono ?_; rintro x w5 ⟨rfl, hb5⟩))
    go_ret
    refine ⟨rfl, ?_⟩
    have h1 := bel_call hb2 hb3 (Nat.le_refl _)
    have h1 := bel_call (h1.alloc h1.size _) hb4 (Nat.le_refl _)
    exact bel_call h1 hb5 (Nat.le_refl _)
theorem shortRefuses_walk (m0 : Int) (hm0 : (Lit.int .u64 m0).wf = true) (size : Int) (_hs : (Lit.int .i64 size).wf = true) (w : World) :
    Calls Tryd.prog 6 #[.int .u64 m0, .int .i64 size] w fun e w' => e = .returned (.bool true) ∧ Below w.heap.size w w' := by
  obtain ⟨bits, rfl, hb⟩ : ∃ m : Nat, m0 = (m : Int) ∧ m < 18446744073709551616 := by
    have := wfu64 m0 hm0
    exact ⟨m0.toNat, by omega, by omega⟩
  by_cases hz : size = 32 ∨ size = 64
  · obtain ⟨f, ww, least, I, h⟩ : ∃ (f ww : Nat) (least : Int) (I : Nat), Ly size f ww least I := by
      rcases hz with rfl | rfl
      · exact ⟨_, _, _, _, lyA⟩
      · exact ⟨_, _, _, _, lyB⟩
    obtain ⟨-, -, -, hI, -⟩ := h.pk
    have e0 : normE ⟨#[]⟩ 0 = 0 := by decide
    have e1 : normV ⟨#[]⟩ 0 = 0 := by rw [normV_ok e0]; unfold V; rw [show num (⟨#[]⟩ : ByteArray).data.toList = 0 from rfl, Nat.zero_mul]
    have hR : ReadC ⟨#[]⟩ 0 size 0 0 := fun w => read_ok h (by decide) e0 (by rw [e1, RD_zero (by omega)]; omega) w
    have hP : PtC bits size _ _ _ _ := fun w => parts_any h hb w
    by_cases hp : bare f ww bits < I
    · have k0 : ptK f ww I bits = 0 := if_pos hp
      obtain ⟨S, P, hS⟩ : ∃ (S : ByteArray) (P : Int), ShC bits size S P 0 := by
        by_cases hp0 : bare f ww bits = 0
        · refine ⟨⟨#[]⟩, 0, fun w => ?_⟩
          have := short_none h hb (.inr hp0) w
          rw [if_pos hp0] at this
          exact this
        · obtain ⟨d, hd⟩ := sh_ex (fun x => RD f I (un least) x (bare f ww bits)) (val f least (bare f ww bits))
          exact ⟨_, _, fun w => short_ok h hb hp hp0 hd w⟩
      exact refuses_walk hP hS hR (.inr (.inr ⟨hz, k0, rfl, rfl⟩)) w
    · have hp0 : ¬ bare f ww bits = 0 := by omega
      have hS : ShC bits size ⟨#[]⟩ 0 1 := fun w => by
        have := short_none h hb (.inl (by omega)) w
        rw [if_neg hp0] at this
        exact this
      have m1 : ptM f ww I bits = 0 := if_neg hp
      have m2 : ptE f ww I least bits = 0 := if_neg hp
      have m3 : ¬ ptK f ww I bits = 0 := by unfold ptK; rw [if_neg hp]; split <;> decide
      rw [m1, m2] at hP
      exact refuses_walk hP hS hR (.inr (.inl ⟨hz, m3, rfl, rfl, rfl, rfl, rfl, rfl⟩)) w
  · have h1 : ¬ size = 32 := fun h => hz (.inl h)
    have h2 : ¬ size = 64 := fun h => hz (.inr h)
    have hP : PtC bits size false 0 0 3 := fun w => parts_size h1 h2 w
    have hS : ShC bits size ⟨#[]⟩ 0 1 := fun w => short_size h1 h2 w
    have hR : ReadC ⟨#[]⟩ 0 size 0 1 := fun w => read_size h1 h2 w
    exact refuses_walk hP hS hR (.inl ⟨h1, h2, rfl, rfl, rfl, rfl, rfl, rfl, rfl⟩) w
end Go.Proofs.YtgcdmeonoiaplabDoor
