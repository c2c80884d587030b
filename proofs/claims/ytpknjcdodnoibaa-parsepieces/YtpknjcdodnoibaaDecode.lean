/- The walk of Decode. -/
import Derived.Test.YtpknjcdodnoibaaRunes
namespace Go.Proofs.Ytpknjcdodnoibaa
open Go.RowKit

set_option maxRecDepth 1000000 in
set_option maxHeartbeats 800000 in
theorem decode_any (s : ByteArray) (w : World) :
    Calls Try.prog 10 #[.string s] w fun e w' => e = .returned (.tuple #[.int .i32 (dec s).1, .int .i64 (dec s).2]) ∧ Below w.heap.size w w' := by
  go_enter Try.func10, Try.ntmps10
  go_wp2
  go_loopw [4] (fun f w' => ∃ pos : Nat, w' = w.iter s pos ∧ ((pos = 0 ∧ f = .int .i32 0) ∨ (0 < s.size ∧ pos = (Utf8.decode s 0).2 ∧ f = .int .i32 (Utf8.decode s 0).1))) (fun _ w' => s.size - w'.iterPos w.heap.size)
  case atStart => exact ⟨0, rfl, .inl ⟨rfl, rfl⟩⟩
  case round =>
    obtain ⟨pos, rfl, hc⟩ := hrel
    rcases hc with ⟨rfl, rfl⟩ | ⟨h0, rfl, rfl⟩
    · by_cases hp : 0 < s.size
      · have hnx : ∀ ty, (Instr.next (.pointer (some ⟨w.heap.size, 0, none⟩)) true ty).run Try.prog (w.iter s 0) = _ := fun ty => run_next_any w s 0 ty hp
        go_wp2
        go_roundw
        case rel => exact ⟨_, rfl, .inr ⟨hp, by omega, rfl⟩⟩
        case measure =>
          have := wid_pos s 0
          simp
          omega
      · have hnx : ∀ ty, (Instr.next (.pointer (some ⟨w.heap.size, 0, none⟩)) true ty).run Try.prog (w.iter s 0) = _ := fun ty => run_next_end w s 0 ty hp
        go_wp2
        go_ret2
        rw [dec_nil s (by omega)]
        exact ⟨ret_dec rfl (by omega), iter_below _ _ _⟩
    · have hw := wid_pos s 0
      by_cases hp : (Utf8.decode s 0).2 < s.size
      · have hnx : ∀ ty, (Instr.next (.pointer (some ⟨w.heap.size, 0, none⟩)) true ty).run Try.prog (w.iter s (Utf8.decode s 0).2) = _ := fun ty => run_next_any w s _ ty hp
        go_wp2
        go_ret2
        rw [dec_ne s h0]
        exact ⟨rfl, iter_below _ _ _⟩
      · have hnx : ∀ ty, (Instr.next (.pointer (some ⟨w.heap.size, 0, none⟩)) true ty).run Try.prog (w.iter s (Utf8.decode s 0).2) = _ := fun ty => run_next_end w s _ ty hp
        have hl := wid_le s 0 h0
        go_wp2
        go_ret2
        rw [dec_ne s h0]
        exact ⟨ret_dec rfl (by omega), iter_below _ _ _⟩
end Go.Proofs.Ytpknjcdodnoibaa
