/- The walk of the law QuoteChars. -/
import Derived.Test.YtaeknfnclolojaaDoorLives2
import Derived.Test.YtaeknfnclolojaaDoorDChr
namespace Go.Proofs.YtaeknfnclolojaaDoor
open Go.RowKit
set_option linter.unusedVariables false

theorem beq_self (r : ByteArray) : (r.toList == r.toList) = true := beq_y r r rfl
set_option maxRecDepth 1000000 in
set_option maxHeartbeats 400000 in
theorem quoteChars_walk (c : Int) (_ : (Lit.int .i32 c).wf = true) (a : Bool) (w : World) (hE : Esc w) :
    Calls Tryd.prog 5 #[.int .i32 c, .bool a] w fun e w' => e = .returned (.bool true) ∧ Below w.heap.size w w' := by
  have h1 := fun w hE => char_any c a w hE
  have h2 := fun w => dchar_any c a w
  have hL := fun w hE => lives2_any w hE
  generalize chrS c a = r at *
  go_enter Tryd.func5, Tryd.ntmps5
  go_wp2_with (first | (go_at_call 15; refine (h1 _ hE).mono ?_; rintro e w1 ⟨rfl, hb1⟩) | (go_at_call 16; refine (h2 _).mono ?_; rintro e w2 ⟨rfl, hb2⟩; have hb12 := hb1.trans (hb2.mono hb1.size)) | (go_at_call 11; refine (hL _ (hE.below hb12)).mono ?_; rintro e w3 ⟨rfl, hb3⟩))
  go_ret
  exact ⟨rfl, hb12.trans (hb3.mono hb12.size)⟩
end Go.Proofs.YtaeknfnclolojaaDoor
