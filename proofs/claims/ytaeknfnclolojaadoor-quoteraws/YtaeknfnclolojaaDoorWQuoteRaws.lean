/- The walk of the law QuoteRaws. -/
import Derived.Test.YtaeknfnclolojaaDoorLives2
import Derived.Test.YtaeknfnclolojaaDoorDRaw
import Derived.Test.YtaeknfnclolojaaDoorLawCut
namespace Go.Proofs.YtaeknfnclolojaaDoor
open Go.RowKit
set_option linter.unusedVariables false

set_option maxRecDepth 1000000 in
set_option maxHeartbeats 400000 in
theorem quoteRaws_walk (s : ByteArray) (_ : s.size ≤ maxLen) (w : World) (hE : Esc w) :
    Calls Tryd.prog 6 #[.string s] w fun e w' => e = .returned (.bool true) ∧ Below w.heap.size w w' := by
  obtain ⟨u, hu, hC⟩ := lawCut_any s
  obtain ⟨b, hb⟩ : ∃ b, rawF u 0 = b := ⟨_, rfl⟩
  have h1 := fun w => raw_any u b w (by omega) hb
  have h2 := fun w => draw_any u b w (by omega) hb
  have hL := fun w hE => lives2_any w hE
  generalize rawT u = t at *
  clear hb
  cases b
  all_goals
    go_enter Tryd.func6, Tryd.ntmps6
    go_wp2_with (first | (go_at_call 12; refine (hC _).mono ?_; rintro e w1 ⟨rfl, rfl⟩) | (go_at_call 17; refine (h1 _).mono ?_; rintro e w1 ⟨rfl, hb1⟩) | (go_at_call 18; refine (h2 _).mono ?_; rintro e w2 ⟨rfl, hb2⟩; have hb12 := hb1.trans (hb2.mono hb1.size)) | (go_at_call 11; refine (hL _ (hE.below hb12)).mono ?_; rintro e w3 ⟨rfl, hb3⟩))
    go_ret
    exact ⟨rfl, hb12.trans (hb3.mono hb12.size)⟩
end Go.Proofs.YtaeknfnclolojaaDoor
