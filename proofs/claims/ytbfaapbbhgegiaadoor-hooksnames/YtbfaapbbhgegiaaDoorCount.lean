/- The walk of Count. -/
import Derived.Test.YtbfaapbbhgegiaaDoorRunes
namespace Go.Proofs.YtbfaapbbhgegiaaDoor
open Go.RowKit

set_option maxRecDepth 1000000 in
set_option maxHeartbeats 800000 in
theorem count_any (s : ByteArray) (w : World) (hs : s.size ≤ maxLen) :
    Calls Tryd.prog 69 #[.string s] w fun e w' => e = .returned (.int .i64 (cntR s : Nat)) ∧ Below w.heap.size w w' := by
  unfold maxLen at hs
  go_enter Tryd.func69, Tryd.ntmps69
  go_wp2
  go_loopw [3] (fun n w' => ∃ pos k : Nat, w' = w.iter s pos ∧ n = .int .i64 k ∧ pos ≤ s.size ∧ k ≤ pos ∧ Hid (k + cntFrom s pos = cntR s)) (fun _ w' => s.size - w'.iterPos w.heap.size)
  case atStart => exact ⟨0, 0, rfl, rfl, Nat.zero_le _, Nat.le_refl _, by unfold cntR; exact Nat.zero_add _⟩
  case round =>
    obtain ⟨pos, k, rfl, rfl, hpos, hk, hc⟩ := hrel
    by_cases hp : pos < s.size
    · have hnx : ∀ ty, (Instr.next (.pointer (some ⟨w.heap.size, 0, none⟩)) true ty).run Tryd.prog (w.iter s pos) = _ := fun ty => run_next_any w s pos ty hp
      go_wp2
      have hw := wid_pos s pos
      have hl := wid_le s pos hp
      go_roundw
      case rel =>
        refine ⟨pos + (Utf8.decode s pos).2, k + 1, rfl, by go_num, hl, by omega, ?_⟩
        have := hc.out
        rw [cntFrom_step s pos hp] at this
        show k + 1 + cntFrom s _ = _
        omega
      case measure =>
        simp
        omega
    · have hnx : ∀ ty, (Instr.next (.pointer (some ⟨w.heap.size, 0, none⟩)) true ty).run Tryd.prog (w.iter s pos) = _ := fun ty => run_next_end w s pos ty hp
      go_wp2
      go_ret
      have := hc.out
      rw [cntFrom_end s pos hp] at this
      refine ⟨ret_int ?_, iter_below _ _ _⟩
      omega
end Go.Proofs.YtbfaapbbhgegiaaDoor
