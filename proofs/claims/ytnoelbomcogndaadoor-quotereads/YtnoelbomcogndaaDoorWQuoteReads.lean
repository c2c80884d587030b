/- The walk of the law QuoteReads. -/
import Derived.Test.YtnoelbomcogndaaDoorLives2
import Derived.Test.YtnoelbomcogndaaDoorLawCut
import Derived.Test.YtnoelbomcogndaaDoorDUnq
namespace Go.Proofs.YtnoelbomcogndaaDoor
open Go.RowKit
set_option linter.unusedVariables false

/-- Unquote and the document's Unquote answer the same. -/
theorem reads_both (s : ByteArray) (hs : s.size ≤ 1000) : ∃ (r : ByteArray) (b : Bool),
    (∀ w, Esc w → Calls Tryd.prog 10 #[.string s] w fun e w' => e = .returned (.tuple #[.string r, .bool b]) ∧ Below w.heap.size w w') ∧
    (∀ w, Calls Tryd.prog 11 #[.string s] w fun e w' => e = .returned (.tuple #[.string r, .bool b]) ∧ Below w.heap.size w w') := by
  by_cases h : ∃ u a, s = quoS u a
  · obtain ⟨u, a, hu⟩ := h
    refine ⟨u, true, fun w hE => ?_, fun w => ?_⟩
    · rw [hu] at hs ⊢
      exact unquote_yes u a w hE (by omega)
    · refine (dunquote_any s w hs).mono ?_
      rintro e w' ⟨r, ok, rfl, hb, b, rfl, hA⟩
      rcases hA with ⟨rfl, h1, -⟩ | ⟨-, -, h1⟩
      · rw [h1 u a hu]; exact ⟨rfl, hb⟩
      · exact absurd ⟨u, a, hu⟩ h1
  · refine ⟨⟨#[]⟩, false, fun w hE => unquote_no s w hE (by omega) h, fun w => ?_⟩
    refine (dunquote_any s w hs).mono ?_
    rintro e w' ⟨r, ok, rfl, hb, b, rfl, hA⟩
    rcases hA with ⟨-, -, a, h1⟩ | ⟨rfl, rfl, -⟩
    · exact absurd ⟨r, a, h1⟩ h
    · exact ⟨rfl, hb⟩

set_option maxRecDepth 1000000 in
set_option maxHeartbeats 400000 in
theorem quoteReads_walk (s : ByteArray) (_hs : s.size ≤ maxLen) (w : World) (hE : Esc w) :
    Calls Tryd.prog 3 #[.string s] w fun e w' => e = .returned (.bool true) ∧ Below w.heap.size w w' := by
  obtain ⟨u, hu, hc⟩ := lawCut_any s
  obtain ⟨r, b, hA, hB⟩ := reads_both u hu
  have hE1 : ∀ x : Cl w, Esc x.w := fun x => hE.below x.below
  go_enter Tryd.func3, Tryd.ntmps3
  go_wp2_with (first | (go_at_call 9; refine (hc _).mono ?_; rintro e w ⟨rfl, rfl⟩) | (go_at_call 10; refine (Cl.go0 (hA _ hE)).mono ?_; rintro e w9 ⟨y, rfl, rfl⟩) | (go_at_call 11; refine (Cl.go (hB _)).mono ?_; rintro e w9 ⟨y, rfl, rfl⟩) | (go_at_call 12; refine (Cl.go (lives2_any _ (hE1 _))).mono ?_; rintro e w9 ⟨y, rfl, rfl⟩))
  go_ret
  exact ⟨rfl, y.below⟩
end Go.Proofs.YtnoelbomcogndaaDoor
