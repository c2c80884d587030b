/- The walk of inQuotes, whatever the code point. -/
import Derived.Test.YtbfaapbbhgegiaaDoorInq
namespace Go.Proofs.YtbfaapbbhgegiaaDoor
open Go.RowKit

set_option maxRecDepth 1000000 in
set_option maxHeartbeats 400000 in
theorem inq_p (c q : Nat) (a : Bool) (w : World) (h : ¬ (c = q ∨ c = 92)) (h1 : ¬ (7 ≤ c ∧ c ≤ 13)) (h2 : plainP c = true ∧ (c ≤ 126 ∨ a = false)) :
    Calls Tryd.prog 75 #[.int .i32 c, .int .i32 q, .bool a] w fun e w' => e = .returned (.string ⟨(inL c q a).toArray⟩) ∧ Below w.heap.size w w' := by
  rw [inL_p c q a h h1 h2, ba_list]
  obtain ⟨t, ht⟩ : ∃ t, Utf8.encode (c : Int) = t := ⟨_, rfl⟩
  rw [ht]
  obtain ⟨hp, h3⟩ := h2
  have n1 : ¬ (c : Int) = (q : Int) := by omega
  have n2 : ¬ (c : Int) = 92 := by omega
  have n3 : ¬ (c : Int) = 7 := by omega
  have n4 : ¬ (c : Int) = 8 := by omega
  have n5 : ¬ (c : Int) = 9 := by omega
  have n6 : ¬ (c : Int) = 10 := by omega
  have n7 : ¬ (c : Int) = 11 := by omega
  have n8 : ¬ (c : Int) = 12 := by omega
  have n9 : ¬ (c : Int) = 13 := by omega
  have hR := rune_is c t ht
  have hP : ∀ w, Calls Tryd.prog 89 #[.int .i32 c] w fun e w' => e = .returned (.bool true) ∧ w' = w := fun w => plain_yes c w hp
  clear ht hp
  by_cases hle : c ≤ 126
  · have hle' : (c : Int) ≤ 126 := by omega
    clear h3 h h1
    go_enter Tryd.func75, Tryd.ntmps75
    go_wp2_with (first | (go_at_call 48; refine (hR _).mono ?_; rintro e w' ⟨rfl, rfl⟩) | (go_at_call 89; refine (hP _).mono ?_; rintro e w' ⟨rfl, rfl⟩))
    go_ret
    exact ⟨rfl, Below.refl _ _⟩
  · obtain rfl : a = false := by
      rcases h3 with h3 | h3
      · omega
      · exact h3
    have hle' : ¬ (c : Int) ≤ 126 := by omega
    clear h3 h h1
    go_enter Tryd.func75, Tryd.ntmps75
    go_wp2_with (first | (go_at_call 48; refine (hR _).mono ?_; rintro e w' ⟨rfl, rfl⟩) | (go_at_call 89; refine (hP _).mono ?_; rintro e w' ⟨rfl, rfl⟩))
    go_ret
    exact ⟨rfl, Below.refl _ _⟩

theorem inq_any (c q : Nat) (a : Bool) (w : World) (hE : Esc w) (hc : c ≤ 1114111) (hq : q = 34 ∨ q = 39) :
    Calls Tryd.prog 75 #[.int .i32 c, .int .i32 q, .bool a] w fun e w' => e = .returned (.string ⟨(inL c q a).toArray⟩) ∧ Below w.heap.size w w' := by
  by_cases h : c = q ∨ c = 92
  · exact inq_q c q a w (by omega) h
  by_cases h1 : 7 ≤ c ∧ c ≤ 13
  · exact inq_e c q a w hE (by omega) h1
  by_cases h2 : plainP c = true ∧ (c ≤ 126 ∨ a = false)
  · exact inq_p c q a w h h1 h2
  by_cases h3 : c < 128
  · exact inq_x c q a w hc h h1 h2 h3
  by_cases h4 : c ≤ 65535
  · exact inq_u c q a w hc h h1 h2 h3 h4
  · exact inq_U c q a w hc h h1 h2 h3 h4
end Go.Proofs.YtbfaapbbhgegiaaDoor
