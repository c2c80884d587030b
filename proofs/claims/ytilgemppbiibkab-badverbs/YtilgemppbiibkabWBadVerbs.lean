/- The walk of the law BadVerbs. -/
import Derived.Test.YtilgemppbiibkabBLive
namespace Go.Proofs.Ytilgemppbiibkab
open Go.RowKit
set_option linter.unusedVariables false
set_option linter.unusedSimpArgs false

set_option maxRecDepth 1000000 in
set_option maxHeartbeats 4000000 in
theorem badVerbs_walk (c : Int) (hc : (Lit.int .i32 c).wf = true) (a0 : ByteArray) (ha0 : a0.size ≤ 9223372036854775807) (b0 : ByteArray) (hb0 : b0.size ≤ 9223372036854775807) (w : World) :
    Calls Try.prog 4 #[.int .i32 c, .string a0, .string b0] w fun e w' => e = .returned (.bool true) ∧ Below w.heap.size w w' := by
  obtain ⟨a, ha, hCa⟩ := cut10_any a0
  obtain ⟨b, hb, hCb⟩ := cut10_any b0
  have hL := lives10_any
  have p1 := fun w => bverb_any c a ha b hb w
  have p2 := fun w => bnil_any c w
  have p3 := fun w => bmissing_any c w
  have p4 := fun w => bindex_any c w
  have p5 := fun w => bpanic_any c a ha b hb w
  have q1 := fun w => uverb_any c a ha b hb w
  have q2 := fun w => unil_any c w
  have q3 := fun w => umissing_any c w
  have q4 := fun w => uindex_any c w
  have q5 := fun w => upanic_any c a ha b hb w
  generalize bT (vB c) (a.data.toList ++ [61] ++ b.data.toList) = R1 at *
  generalize bT (vB c) [60, 110, 105, 108, 62] = R2 at *
  generalize bT (vB c) [77, 73, 83, 83, 73, 78, 71] = R3 at *
  generalize bT (vB c) [66, 65, 68, 73, 78, 68, 69, 88] = R4 at *
  generalize bT (vB c) ([80, 65, 78, 73, 67, 61] ++ a.data.toList ++ [32, 109, 101, 116, 104, 111, 100, 58, 32] ++ b.data.toList) = R5 at *
  clear hc ha0 hb0 ha hb
  have step : ∀ {V V' : World}, Below w.heap.size w V → Below V.heap.size V V' → Below w.heap.size w V' := fun h h' => h.trans (h'.mono h.size)
  go_enter Try.func4, Try.ntmps4
  go_wp2_with (first
    | (go_at_call_of 11 a0; refine (hCa _).mono ?_; rintro e w1 ⟨rfl, hw1⟩; subst w1)
    | (go_at_call_of 11 b0; refine (hCb _).mono ?_; rintro e w1 ⟨rfl, hw1⟩; subst w1)
    | (go_at_call 12; refine (p1 _).mono ?_; rintro e w2 ⟨rfl, b2⟩)
    | (go_at_call 13; refine (q1 _).mono ?_; rintro e w3 ⟨rfl, b3⟩)
    | (go_at_call 14; refine (p2 _).mono ?_; rintro e w4 ⟨rfl, b4⟩)
    | (go_at_call 15; refine (q2 _).mono ?_; rintro e w5 ⟨rfl, b5⟩)
    | (go_at_call 16; refine (p3 _).mono ?_; rintro e w6 ⟨rfl, b6⟩)
    | (go_at_call 17; refine (q3 _).mono ?_; rintro e w7 ⟨rfl, b7⟩)
    | (go_at_call 18; refine (p4 _).mono ?_; rintro e w8 ⟨rfl, b8⟩)
    | (go_at_call 19; refine (q4 _).mono ?_; rintro e w9 ⟨rfl, b9⟩)
    | (go_at_call 20; refine (p5 _).mono ?_; rintro e w10 ⟨rfl, b10⟩)
    | (go_at_call 21; refine (q5 _).mono ?_; rintro e w11 ⟨rfl, b11⟩)
    | (go_at_call 22; refine (hL _).mono ?_; rintro e w12 ⟨rfl, b12⟩))
  go_ret
  exact ⟨rfl, step (step (step (step (step (step (step (step (step (step b2 b3) b4) b5) b6) b7) b8) b9) b10) b11) b12⟩
end Go.Proofs.Ytilgemppbiibkab
