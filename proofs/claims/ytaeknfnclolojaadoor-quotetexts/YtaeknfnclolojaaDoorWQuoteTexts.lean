/- The walk of the law QuoteTexts. -/
import Derived.Test.YtaeknfnclolojaaDoorLives2
import Derived.Test.YtaeknfnclolojaaDoorDQuo
import Derived.Test.YtaeknfnclolojaaDoorLawCut
namespace Go.Proofs.YtaeknfnclolojaaDoor
open Go.RowKit
set_option linter.unusedVariables false

set_option maxRecDepth 1000000 in
set_option maxHeartbeats 400000 in
theorem quoteTexts_walk (s : ByteArray) (_ : s.size ≤ maxLen) (a : Bool) (w : World) (hE : Esc w) :
    Calls Tryd.prog 4 #[.string s, .bool a] w fun e w' => e = .returned (.bool true) ∧ Below w.heap.size w w' := by
  obtain ⟨u, hu, hC⟩ := lawCut_any s
  have h1 := fun w hE => quote_any u a w hE (by omega)
  have h2 := fun w => dquote_any u a w (by omega)
  have hL := fun w hE => lives2_any w hE
  generalize quoS u a = r at *
  go_enter Tryd.func4, Tryd.ntmps4
  go_wp2_with (first | (go_at_call 12; refine (hC _).mono ?_; rintro e w0 ⟨rfl, rfl⟩) | (go_at_call 13; refine (h1 _ hE).mono ?_; rintro e w1 ⟨rfl, hb1⟩) | (go_at_call 14; refine (h2 _).mono ?_; rintro e w2 ⟨rfl, hb2⟩; have hb12 := hb1.trans (hb2.mono hb1.size)) | (go_at_call 11; refine (hL _ (hE.below hb12)).mono ?_; rintro e w3 ⟨rfl, hb3⟩))
  go_ret
  exact ⟨rfl, hb12.trans (hb3.mono hb12.size)⟩
end Go.Proofs.YtaeknfnclolojaaDoor
