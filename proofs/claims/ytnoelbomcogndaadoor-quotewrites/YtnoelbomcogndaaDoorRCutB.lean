/- The walk of the document's Cut. -/
import Derived.Test.YtnoelbomcogndaaDoorRCnt
import Derived.Test.YtnoelbomcogndaaDoorPlain4
namespace Go.Proofs.YtnoelbomcogndaaDoor
open Go.RowKit

set_option maxRecDepth 1000000 in
set_option maxHeartbeats 800000 in
theorem rcut_nat (s : ByteArray) (N : Nat) (w : World) (hs : s.size ≤ maxLen) (hN : N ≤ 9223372036854775807) :
    Calls Tryd.prog 38 #[.string s, .int .i64 N] w fun e w' => e = .returned (.string (s.extract 0 (posGo s N 0))) ∧ Below w.heap.size w w' := by
  go_enter Tryd.func38, Tryd.ntmps38
  go_wp2
  go_loopg [5, 6] s.size (fun g a k w' => ∃ at' q : Nat, a = .int .i64 at' ∧ k = .int .i64 q ∧ at' + g = s.size ∧ q ≤ at' ∧ q ≤ N ∧ Hid (posGo s (N - q) at' = posGo s N 0) ∧ Below w.heap.size w w')
  case atStart => exact ⟨0, 0, rfl, rfl, Nat.zero_add _, Nat.le_refl _, Nat.zero_le _, rfl, Below.refl _ _⟩
  case round =>
    obtain ⟨at', q, rfl, rfl, hg, hqa, hqN, hc, hb⟩ := hrel
    have hs' := hs
    unfold maxLen at hs'
    by_cases h0 : q < N
    · by_cases h1 : at' < s.size
      · have hi : (at' : Int) < s.size := by omega
        have hi0 : (q : Int) < N := by omega
        have hms : (s.extract at' s.size).size ≤ maxLen := by rw [tail_size]; unfold maxLen; omega
        have hd := dec_tail s at' h1
        have hw := wid_pos s at'
        have hl := wid_le s at' h1
        go_wp2_with (go_at_call 48; refine (rdecodeB_any _ _ hms).mono ?_; rintro e w2 ⟨rfl, hb2⟩)
        go_roundg (s.size - (at' + (Utf8.decode s at').2))
        case measure => omega
        case rel =>
          refine ⟨at' + (Utf8.decode s at').2, q + 1, by go_num, by go_num, by omega, by omega, by omega, ?_, hb.trans (hb2.mono hb.size)⟩
          have := hc.out
          rw [show N - q = (N - (q + 1)) + 1 by omega, posGo_step s _ _ h1] at this
          exact this
      · have hi : ¬ (at' : Int) < s.size := by omega
        have hle : at' ≤ s.size := by omega
        go_wp2
        go_ret
        refine ⟨ret_str ?_, hb⟩
        rw [← hc.out, posGo_end s _ at' h1]
    · have hi0 : ¬ (q : Int) < N := by omega
      have hle : at' ≤ s.size := by omega
      go_wp2
      go_ret
      refine ⟨ret_str ?_, hb⟩
      rw [← hc.out, show N - q = 0 by omega]
      rfl

set_option maxRecDepth 1000000 in
set_option maxHeartbeats 400000 in
theorem rcut_neg (s : ByteArray) (n : Int) (w : World) (hn : n < 0) :
    Calls Tryd.prog 38 #[.string s, .int .i64 n] w fun e w' => e = .returned (.string s) ∧ Below w.heap.size w w' := by
  go_enter Tryd.func38, Tryd.ntmps38
  go_wp2
  go_ret
  exact ⟨rfl, Below.refl _ _⟩

theorem rcut_any (s : ByteArray) (n : Int) (w : World) (hs : s.size ≤ maxLen) (hn : n ≤ 9223372036854775807) :
    Calls Tryd.prog 38 #[.string s, .int .i64 n] w fun e w' => e = .returned (.string (cutS s n)) ∧ Below w.heap.size w w' := by
  unfold cutS
  by_cases h : n < 0
  · rw [if_pos h]; exact rcut_neg s n w h
  · rw [if_neg h]
    obtain ⟨N, rfl⟩ : ∃ N : Nat, n = N := ⟨n.toNat, by omega⟩
    exact rcut_nat s N w hs (by omega)
end Go.Proofs.YtnoelbomcogndaaDoor
