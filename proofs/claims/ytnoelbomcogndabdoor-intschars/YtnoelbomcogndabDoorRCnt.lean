/- The walk of the document's Count. -/
import Derived.Test.YtnoelbomcogndabDoorRDecodeB
import Derived.Test.YtnoelbomcogndabDoorPlain4
namespace Go.Proofs.YtnoelbomcogndabDoor
open Go.RowKit

set_option maxRecDepth 1000000 in
set_option maxHeartbeats 800000 in
theorem rcount_any (s : ByteArray) (w : World) (hs : s.size ≤ maxLen) :
    Calls Tryd.prog 54 #[.string s] w fun e w' => e = .returned (.int .i64 (cntR s : Nat)) ∧ Below w.heap.size w w' := by
  have hcs := cntR_le s
  go_enter Tryd.func54, Tryd.ntmps54
  go_wp2
  go_loopg [0, 3] s.size (fun g t k w' => ∃ (u : ByteArray) (q : Nat), t = .string u ∧ k = .int .i64 q ∧ u.size ≤ g ∧ u.size ≤ s.size ∧ q + u.size ≤ s.size ∧ Hid (q + cntR u = cntR s) ∧ Below w.heap.size w w')
  case atStart => exact ⟨s, 0, rfl, rfl, Nat.le_refl _, Nat.le_refl _, by omega, Nat.zero_add _, Below.refl _ _⟩
  case round =>
    obtain ⟨u, q, rfl, rfl, hg, hus, hq, hc, hb⟩ := hrel
    have hms : u.size ≤ maxLen := Nat.le_trans hus hs
    have hs' := hs
    unfold maxLen at hs'
    by_cases h0 : 0 < u.size
    · have hne := empty_no u h0
      obtain ⟨hd1, hd2⟩ := dec_wid u h0
      go_wp2_with (go_at_call 66; refine (rdecodeB_any _ _ hms).mono ?_; rintro e w2 ⟨rfl, hb2⟩)
      go_roundg (u.size - (dec u).2)
      case measure => omega
      case rel =>
        refine ⟨_, q + 1, rfl, by go_num, ?_, ?_, ?_, ?_, hb.trans (hb2.mono hb.size)⟩
        · rw [tail_size]; exact Nat.le_refl _
        · rw [tail_size]; omega
        · rw [tail_size]; omega
        · show q + 1 + cntR _ = _
          have := hc.out
          rw [cntR_step u h0] at this
          omega
    · have hne := empty_yes u (by omega)
      go_wp2
      go_ret
      have := hc.out
      rw [cntR_nil u (by omega)] at this
      exact ⟨ret_int (by omega), hb⟩

end Go.Proofs.YtnoelbomcogndabDoor
