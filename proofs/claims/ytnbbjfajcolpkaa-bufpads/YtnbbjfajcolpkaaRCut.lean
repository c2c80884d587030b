/- The walks of the document's Count and Cut. -/
import Derived.Test.YtnbbjfajcolpkaaRDecode
import Derived.Test.YtnbbjfajcolpkaaPlain4
namespace Go.Proofs.Ytnbbjfajcolpkaa
open Go.RowKit

set_option maxRecDepth 1000000 in
set_option maxHeartbeats 800000 in
theorem rcount_any (s : ByteArray) (w : World) (hs : s.size ≤ maxLen) :
    Calls Try.prog 15 #[.string s] w fun e w' => e = .returned (.int .i64 (cntR s : Nat)) ∧ Below w.heap.size w w' := by
  have hcs := cntR_le s
  go_enter Try.func15, Try.ntmps15
  go_wp2
  go_loopg [0, 3] s.size (fun g t k w' => ∃ (u : ByteArray) (q : Nat), t = .string u ∧ k = .int .i64 q ∧ u.size ≤ g ∧ u.size ≤ s.size ∧ q + u.size ≤ s.size ∧ Hid (q + cntR u = cntR s) ∧ Below w.heap.size w w')
  case atStart => exact ⟨s, 0, rfl, rfl, Nat.le_refl _, Nat.le_refl _, by omega, Nat.zero_add _, Below.refl _ _⟩
  case round =>
    obtain ⟨u, q, rfl, rfl, hg, hus, hq, hc, hb⟩ := hrel
    have hms : u.size ≤ maxLen := Nat.le_trans hus hs
    have hs' := hs
    unfold maxLen at hs'
    by_cases h0 : 0 < u.size
    · have hne := empty_no u h0
      obtain ⟨hd1, hd2⟩ := dec_wid u h0
      go_wp2_with (go_at_call 13; refine (rdecode_any _ _ hms).mono ?_; rintro e w2 ⟨v, rfl, hb2⟩)
      go_roundg (u.size - (dec u).2)
      case measure => omega
      case rel =>
        refine ⟨_, q + 1, rfl, by go_num, ?_, ?_, ?_, ?_, hb.trans (hb2.mono hb.size)⟩
        · rw [tail_size]; exact Nat.le_refl _
        · rw [tail_size]; omega
        · rw [tail_size]; omega
        · show q + 1 + cntR _ = _
          have := hc.out
          rw [cntR_step u h0] at this
          omega
    · have hne := empty_yes u (by omega)
      go_wp2
      go_ret
      have := hc.out
      rw [cntR_nil u (by omega)] at this
      exact ⟨ret_int (by omega), hb⟩

set_option maxRecDepth 1000000 in
set_option maxHeartbeats 800000 in
theorem rcut_nat (s : ByteArray) (N : Nat) (w : World) (hs : s.size ≤ maxLen) (hN : N ≤ 9223372036854775807) :
    Calls Try.prog 17 #[.string s, .int .i64 N] w fun e w' => e = .returned (.string (s.extract 0 (posGo s N 0))) ∧ Below w.heap.size w w' := by
  go_enter Try.func17, Try.ntmps17
  go_wp2
  go_loopg [5, 6] s.size (fun g a k w' => ∃ at' q : Nat, a = .int .i64 at' ∧ k = .int .i64 q ∧ at' + g = s.size ∧ q ≤ at' ∧ q ≤ N ∧ Hid (posGo s (N - q) at' = posGo s N 0) ∧ Below w.heap.size w w')
  case atStart => exact ⟨0, 0, rfl, rfl, Nat.zero_add _, Nat.le_refl _, Nat.zero_le _, rfl, Below.refl _ _⟩
  case round =>
    obtain ⟨at', q, rfl, rfl, hg, hqa, hqN, hc, hb⟩ := hrel
    have hs' := hs
    unfold maxLen at hs'
    by_cases h0 : q < N
    · by_cases h1 : at' < s.size
      · have hi : (at' : Int) < s.size := by omega
        have hi0 : (q : Int) < N := by omega
        have hms : (s.extract at' s.size).size ≤ maxLen := by rw [tail_size]; unfold maxLen; omega
        have hd := dec_tail s at' h1
        have hw := wid_pos s at'
        have hl := wid_le s at' h1
        go_wp2_with (go_at_call 13; refine (rdecode_any _ _ hms).mono ?_; rintro e w2 ⟨v, rfl, hb2⟩)
        go_roundg (s.size - (at' + (Utf8.decode s at').2))
        case measure => omega
        case rel =>
          refine ⟨at' + (Utf8.decode s at').2, q + 1, by go_num, by go_num, by omega, by omega, by omega, ?_, hb.trans (hb2.mono hb.size)⟩
          have := hc.out
          rw [show N - q = (N - (q + 1)) + 1 by omega, posGo_step s _ _ h1] at this
          exact this
      · have hi : ¬ (at' : Int) < s.size := by omega
        have hle : at' ≤ s.size := by omega
        go_wp2
        go_ret
        refine ⟨ret_str ?_, hb⟩
        rw [← hc.out, posGo_end s _ at' h1]
    · have hi0 : ¬ (q : Int) < N := by omega
      have hle : at' ≤ s.size := by omega
      go_wp2
      go_ret
      refine ⟨ret_str ?_, hb⟩
      rw [← hc.out, show N - q = 0 by omega]
      rfl

set_option maxRecDepth 1000000 in
set_option maxHeartbeats 400000 in
theorem rcut_neg (s : ByteArray) (n : Int) (w : World) (hn : n < 0) :
    Calls Try.prog 17 #[.string s, .int .i64 n] w fun e w' => e = .returned (.string s) ∧ Below w.heap.size w w' := by
  go_enter Try.func17, Try.ntmps17
  go_wp2
  go_ret
  exact ⟨rfl, Below.refl _ _⟩

theorem rcut_any (s : ByteArray) (n : Int) (w : World) (hs : s.size ≤ maxLen) (hn : n ≤ 9223372036854775807) :
    Calls Try.prog 17 #[.string s, .int .i64 n] w fun e w' => e = .returned (.string (cutS s n)) ∧ Below w.heap.size w w' := by
  unfold cutS
  by_cases h : n < 0
  · rw [if_pos h]; exact rcut_neg s n w h
  · rw [if_neg h]
    obtain ⟨N, rfl⟩ : ∃ N : Nat, n = N := ⟨n.toNat, by omega⟩
    exact rcut_nat s N w hs (by omega)
end Go.Proofs.Ytnbbjfajcolpkaa
