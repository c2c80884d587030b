/- RawW, Cut: these texts in one. -/
import Derived.Test.YtjfmhghpkefihaaGreatDoorPt6
import Derived.Test.YtjfmhghpkefihaaGreatDoorPt4
import Derived.Test.YtjfmhghpkefihaaGreatDoorPt1
namespace Go.Proofs.YtjfmhghpkefihaaGreatDoor
open Go.RowKit
set_option linter.unusedVariables false
end Go.Proofs.YtjfmhghpkefihaaGreatDoor
namespace Go.Proofs.YtjfmhghpkefihaaGreatDoor
open Go.RowKit
set_option linter.unusedVariables false
set_option maxRecDepth 1000000 in
set_option maxHeartbeats 800000 in
theorem cut_nat (s : ByteArray) (N : Nat) (w : World) (hs : s.size ≤ maxLen) (hN : N ≤ 9223372036854775807) :
  Calls Tryz.prog 88 #[.string s, .int .i64 N] w fun e w' => e = .returned (.string (s.extract 0 (posGo s N 0))) ∧ Below w.heap.size w w' := by
 unfold maxLen at hs
 go_enter Tryz.func88, Tryz.ntmps88
 go_wp2
 go_loopw [1] (fun n w' => ∃ pos r : Nat, w' = w.iter s pos ∧ n = .int .i64 r ∧ pos ≤ s.size ∧ r ≤ 9223372036854775807 ∧ Hid (posGo s r pos = posGo s N 0)) (fun _ w' => s.size - w'.iterPos w.heap.size)
 case atStart => exact ⟨0, N, rfl, rfl, Nat.zero_le _, hN, rfl⟩
 case round =>
  obtain ⟨pos, r, rfl, rfl, hpos, hr, hc⟩ := hrel
  by_cases hp : pos < s.size
  ·have hnx : ∀ ty, (Instr.next (.pointer (some ⟨w.heap.size, 0, none⟩)) true ty).run Tryz.prog (w.iter s pos) = _ := fun ty => run_next_any w s pos ty hp
   have hw := wid_pos s pos
   have hl := wid_le s pos hp
   by_cases h0 : r = 0
   ·subst h0
    go_wp2
    go_ret
    refine ⟨ret_str ?_, iter_below _ _ _⟩
    rw [← hc.out]; rfl
   ·have h0' : ((r : Int) == 0) = false := by simp; omega
    go_wp2
    go_roundw
    case rel =>
     refine ⟨pos + (Utf8.decode s pos).2, r - 1, rfl, val_int (by omega), hl, by omega, ?_⟩
     have := hc.out
     obtain ⟨q, rfl⟩ : ∃ q, r = q + 1 := ⟨r - 1, by omega⟩
     rw [posGo_step s q pos hp] at this
     exact this
    case measure =>
     simp
     omega
  ·have hnx : ∀ ty, (Instr.next (.pointer (some ⟨w.heap.size, 0, none⟩)) true ty).run Tryz.prog (w.iter s pos) = _ := fun ty => run_next_end w s pos ty hp
   go_wp2
   go_ret
   refine ⟨ret_str ?_, iter_below _ _ _⟩
   rw [← hc.out, posGo_end s r pos hp, show pos = s.size by omega, extract_all]
set_option maxRecDepth 1000000 in
set_option maxHeartbeats 400000 in
theorem cut_neg (s : ByteArray) (n : Int) (w : World) (hn : n < 0) :
  Calls Tryz.prog 88 #[.string s, .int .i64 n] w fun e w' => e = .returned (.string s) ∧ Below w.heap.size w w' := by
 go_enter Tryz.func88, Tryz.ntmps88
 go_wp2
 go_ret
 exact ⟨rfl, Below.refl _ _⟩
theorem cut_any (s : ByteArray) (n : Int) (w : World) (hs : s.size ≤ maxLen) (hn : n ≤ 9223372036854775807) :
  Calls Tryz.prog 88 #[.string s, .int .i64 n] w fun e w' => e = .returned (.string (cutS s n)) ∧ Below w.heap.size w w' := by
 unfold cutS
 by_cases h : n < 0
 ·rw [if_pos h]; exact cut_neg s n w h
 ·rw [if_neg h]
  obtain ⟨N, rfl⟩ : ∃ N : Nat, n = N := ⟨n.toNat, by omega⟩
  exact cut_nat s N w hs (by omega)
end Go.Proofs.YtjfmhghpkefihaaGreatDoor
