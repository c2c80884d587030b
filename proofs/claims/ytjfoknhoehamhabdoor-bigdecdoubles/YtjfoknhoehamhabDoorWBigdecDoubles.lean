/- The walk of the law BigdecDoubles. -/
import Derived.Test.YtjfoknhoehamhabDoorBLaw
namespace Go.Proofs.YtjfoknhoehamhabDoor
open Go.RowKit
set_option linter.unusedVariables false
set_option linter.unusedSimpArgs false

def ExactC (m : Nat) (e : Int) (S : ByteArray) (P E : Int) : Prop := ∀ w, Calls Tryd.prog 7 #[.int .u64 m, .int .i64 e] w fun x w' => x = .returned (.tuple #[.agg #[.string S, .int .i64 P], .int .i64 E]) ∧ Below w.heap.size w w'
set_option maxRecDepth 1000000 in
set_option maxHeartbeats 800000 in
theorem dbl_end (m : Nat) (e e1 : Int) {S S1 : ByteArray} {P P1 E E1 : Int} (he1 : min e 1199 + 1 = e1) (hA : ExactC m e S P E) (hB : ExactC m e1 S1 P1 E1) (hb0 : -9223372036854775808 ≤ e) (hb1 : e1 ≤ 1200)
    (h : (E = 0 ∧ 1199 < e ∧ e ≤ 1200) ∨ (E = 1 ∧ e < -1200) ∨ (E = 1 ∧ 1200 < e)) (w : World) :
    Calls Tryd.prog 3 #[.int .u64 m, .int .i64 e] w fun x w' => x = .returned (.bool true) ∧ Below w.heap.size w w' := by
  have hL := lives4_any
  rcases h with ⟨rfl, h1, h2⟩ | ⟨rfl, h1⟩ | ⟨rfl, h1⟩
  · have h3 : -1200 ≤ e := by omega
    go_enter Tryd.func3, Tryd.ntmps3
    go_wp2_with (first
      | (go_at_call_of 7 e1; refine (hB _).mono ?_; rintro x w3 ⟨rfl, hb3⟩)
      | (go_at_call_of 7 e; refine (hA _).mono ?_; rintro x w2 ⟨rfl, hb2⟩)
      | (go_at_call 8; refine (hL _).mono ?_; rintro x w4 ⟨rfl, hb4⟩))
    go_ret
    refine ⟨rfl, ?_⟩
    have h0 := bel_call (hb2.alloc (B := w.heap.size) hb2.size _) hb3 (Nat.le_refl _)
    exact bel_call (h0.alloc h0.size _) hb4 (Nat.le_refl _)
  · go_enter Tryd.func3, Tryd.ntmps3
    go_wp2_with (first
      | (go_at_call_of 7 e1; refine (hB _).mono ?_; rintro x w3 ⟨rfl, hb3⟩)
      | (go_at_call_of 7 e; refine (hA _).mono ?_; rintro x w2 ⟨rfl, hb2⟩)
      | (go_at_call 8; refine (hL _).mono ?_; rintro x w4 ⟨rfl, hb4⟩))
    go_ret
    refine ⟨rfl, ?_⟩
    have h0 := bel_call (hb2.alloc (B := w.heap.size) hb2.size _) hb3 (Nat.le_refl _)
    exact bel_call (h0.alloc h0.size _) hb4 (Nat.le_refl _)
  · have h3 : -1200 ≤ e := by omega
    have h4 : decide (e ≤ 1200) = false := by simp; omega
    go_enter Tryd.func3, Tryd.ntmps3
    go_wp2_with (first
      | (go_at_call_of 7 e1; refine (hB _).mono ?_; rintro x w3 ⟨rfl, hb3⟩)
      | (go_at_call_of 7 e; refine (hA _).mono ?_; rintro x w2 ⟨rfl, hb2⟩)
      | (go_at_call 8; refine (hL _).mono ?_; rintro x w4 ⟨rfl, hb4⟩))
    go_ret
    refine ⟨rfl, ?_⟩
    have h0 := bel_call (hb2.alloc (B := w.heap.size) hb2.size _) hb3 (Nat.le_refl _)
    exact bel_call (h0.alloc h0.size _) hb4 (Nat.le_refl _)
set_option maxRecDepth 1000000 in
set_option maxHeartbeats 1600000 in
theorem dbl_main (m : Nat) (e e1 : Int) {S S1 : ByteArray} {P P1 : Int} (he1 : min e 1199 + 1 = e1) (hA : ExactC m e S P 0) (hB : ExactC m e1 S1 P1 0) (hC : AddC S P S P S1 P1 0) (hb0 : -1200 ≤ e) (hb1 : e ≤ 1199) (hb2 : e1 ≤ 1200) (w : World) :
    Calls Tryd.prog 3 #[.int .u64 m, .int .i64 e] w fun x w' => x = .returned (.bool true) ∧ Below w.heap.size w w' := by
  have hL := lives4_any
  go_enter Tryd.func3, Tryd.ntmps3
  go_wp2_with (first
    | (go_at_call_of 7 e1; refine (hB _).mono ?_; rintro x w3 ⟨rfl, hb3⟩; obtain ⟨a0, a1, a2, a3⟩ := keepb hb3 (B := w2.heap.size) (x := .string S) (y := .int .i64 P) (by simp [BoxD, go_sem]); have hlt : w2.heap.size < w3.heap.size := World.block_lt_of_cell? w3 _ a0)
    | (go_at_call_of 7 e; refine (hA _).mono ?_; rintro x w2 ⟨rfl, hb2⟩)
    | (go_at_call 9; refine (hC _).mono ?_; rintro x w4 ⟨rfl, hb4⟩; obtain ⟨b0, b1, b2, b3⟩ := keepb hb4 (B := w3.heap.size) (x := .string S1) (y := .int .i64 P1) (by simp [BoxD, go_sem]); have hlt2 : w3.heap.size < w4.heap.size := World.block_lt_of_cell? w4 _ b0)
    | (go_at_call 8; refine (hL _).mono ?_; rintro x w5 ⟨rfl, hb5⟩))
  go_ret
  refine ⟨rfl, ?_⟩
  have h0 := bel_call (hb2.alloc (B := w.heap.size) hb2.size _) hb3 (Nat.le_refl _)
  have h1 := bel_call (h0.alloc h0.size _) hb4 (Nat.le_refl _)
  exact bel_call (h1.alloc h1.size _) hb5 (Nat.le_refl _)
theorem exactC (m : Nat) (e : Int) (hm : m < 18446744073709551616) : ExactC m e (oS (xV m e)) (oP (xV m e)) (xE e) := fun w => exact_any m e w hm
theorem bigdecDoubles_walk (m0 : Int) (hm0 : (Lit.int .u64 m0).wf = true) (e : Int) (he : (Lit.int .i64 e).wf = true) (w : World) :
    Calls Tryd.prog 3 #[.int .u64 m0, .int .i64 e] w fun x w' => x = .returned (.bool true) ∧ Below w.heap.size w w' := by
  obtain ⟨m, rfl, hm⟩ : ∃ m : Nat, m0 = (m : Int) ∧ m < 18446744073709551616 := by
    have := wfu64 m0 hm0
    exact ⟨m0.toNat, by omega, by omega⟩
  obtain ⟨hb0, hb1⟩ := wfi64 e he
  by_cases h : -1200 ≤ e ∧ e ≤ 1199
  · obtain ⟨h1, h2⟩ := h
    have e0 : xE e = 0 := if_neg (by omega)
    have e1 : xE (min e 1199 + 1) = 0 := if_neg (by omega)
    have v0 : xV m e = exU m e := by unfold xV; rw [if_pos e0]
    have v1 : xV m (min e 1199 + 1) = exU m e + exU m e := by unfold xV; rw [if_pos e1, show min e 1199 + 1 = e + 1 by omega]; exact exU_double m e h1 h2
    have hA := exactC m e hm
    have hB := exactC m (min e 1199 + 1) hm
    rw [e0, v0] at hA
    rw [e1, v1] at hB
    obtain ⟨g1, g2⟩ := exU_good hm h1 (show e ≤ 1200 by omega)
    exact dbl_main m e (min e 1199 + 1) rfl hA hB (addC g1 g1 g2) h1 h2 (by omega) w
  · refine dbl_end m e (min e 1199 + 1) rfl (exactC m e hm) (exactC m _ hm) (by omega) (by omega) ?_ w
    by_cases h1 : e < -1200
    · exact .inr (.inl ⟨if_pos (.inl h1), h1⟩)
    · by_cases h2 : 1200 < e
      · exact .inr (.inr ⟨if_pos (.inr h2), h2⟩)
      · exact .inl ⟨if_neg (by omega), by omega, by omega⟩
end Go.Proofs.YtjfoknhoehamhabDoor
