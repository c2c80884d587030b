/- The walk of the law BufBack. -/
import Derived.Test.YtnbbjfajcolpkabLives
import Derived.Test.YtnbbjfajcolpkabPlain7
import Derived.OpenShut
import Derived.SizedLaws
namespace Go.Proofs.Ytnbbjfajcolpkab
open Go.RowKit

theorem decode_back (c : Int) (s : ByteArray) (w : World) :
    Calls Try.prog 18 #[.string (Utf8.encode c ++ s)] w fun e w' => e = .returned (.tuple #[.int .i32 (pt c : Nat), .int .i64 (Utf8.encode c).size]) ∧ Below w.heap.size w w' := by
  refine (decode_any _ w).mono ?_
  rintro e w' ⟨rfl, hb⟩
  rw [back_dec c s]
  exact ⟨rfl, hb⟩

set_option maxRecDepth 1000000 in
set_option maxHeartbeats 800000 in
theorem bufBack_ok (c : Int) (s : ByteArray) (hs : s.size ≤ 140737488355328) (w : World) (hv : Utf8.valid c = true) :
    Calls Try.prog 5 #[.int .i32 c, .string s] w fun e w' => e = .returned (.bool true) ∧ Below w.heap.size w w' := by
  have h := (valid_iff c).1 hv
  have hp : ((pt c : Nat) : Int) = c := by unfold pt; rw [if_pos hv]; omega
  have h4 := enc_size_le c
  have hsum : ¬ 9223372036854775807 < (Utf8.encode c).size + s.size := by omega
  have h0 : ¬ c < 0 := by omega
  have h1 : ¬ 1114111 < c := by omega
  rcases h with h | h
  all_goals
    go_enter Try.func5, Try.ntmps5
    go_wp2_with (first | (go_at_call 19; refine (rune_any _ _).mono ?_; rintro e w1 ⟨rfl, rfl⟩) | (go_at_call 18; refine (decode_back _ _ _).mono ?_; rintro e w2 ⟨rfl, hb2⟩) | (go_at_call 17; refine (lives_any _).mono ?_; rintro e w3 ⟨rfl, hb3⟩))
    go_ret
    exact ⟨rfl, hb2.trans (hb3.mono hb2.size)⟩

set_option maxRecDepth 1000000 in
set_option maxHeartbeats 800000 in
theorem bufBack_bad (c : Int) (s : ByteArray) (hs : s.size ≤ 140737488355328) (w : World) (hv : Utf8.valid c = false) :
    Calls Try.prog 5 #[.int .i32 c, .string s] w fun e w' => e = .returned (.bool true) ∧ Below w.heap.size w w' := by
  have h : c < 0 ∨ 1114111 < c ∨ (55296 ≤ c ∧ c ≤ 57343) := by
    have := mt (valid_iff c).2 (by rw [hv]; decide)
    omega
  have hp : pt c = 65533 := by unfold pt; rw [hv]; rfl
  have h4 := enc_size_le c
  have hsum : ¬ 9223372036854775807 < (Utf8.encode c).size + s.size := by omega
  rcases h with h | h | ⟨h, h'⟩
  · go_enter Try.func5, Try.ntmps5
    go_wp2_with (first | (go_at_call 19; refine (rune_any _ _).mono ?_; rintro e w1 ⟨rfl, rfl⟩) | (go_at_call 18; refine (decode_back _ _ _).mono ?_; rintro e w2 ⟨rfl, hb2⟩) | (go_at_call 17; refine (lives_any _).mono ?_; rintro e w3 ⟨rfl, hb3⟩))
    go_ret
    exact ⟨rfl, hb2.trans (hb3.mono hb2.size)⟩
  · have h0 : ¬ c < 0 := by omega
    go_enter Try.func5, Try.ntmps5
    go_wp2_with (first | (go_at_call 19; refine (rune_any _ _).mono ?_; rintro e w1 ⟨rfl, rfl⟩) | (go_at_call 18; refine (decode_back _ _ _).mono ?_; rintro e w2 ⟨rfl, hb2⟩) | (go_at_call 17; refine (lives_any _).mono ?_; rintro e w3 ⟨rfl, hb3⟩))
    go_ret
    exact ⟨rfl, hb2.trans (hb3.mono hb2.size)⟩
  · have h0 : ¬ c < 0 := by omega
    have h1 : ¬ 1114111 < c := by omega
    go_enter Try.func5, Try.ntmps5
    go_wp2_with (first | (go_at_call 19; refine (rune_any _ _).mono ?_; rintro e w1 ⟨rfl, rfl⟩) | (go_at_call 18; refine (decode_back _ _ _).mono ?_; rintro e w2 ⟨rfl, hb2⟩) | (go_at_call 17; refine (lives_any _).mono ?_; rintro e w3 ⟨rfl, hb3⟩))
    go_ret
    exact ⟨rfl, hb2.trans (hb3.mono hb2.size)⟩

theorem bufBack_walk (c : Int) (_ : (Lit.int .i32 c).wf = true) (s : ByteArray) (_ : s.size ≤ maxLen) (hr : s.data.toList.length ≤ reachBytes) (w : World) :
    Calls Try.prog 5 #[.int .i32 c, .string s] w fun e w' => e = .returned (.bool true) ∧ Below w.heap.size w w' := by
  have hs : s.size ≤ 140737488355328 := by
    have := reachBytes_lt
    rw [Lib.size_eq s]
    omega
  cases hv : Utf8.valid c with
  | true => exact bufBack_ok c s hs w hv
  | false => exact bufBack_bad c s hs w hv
end Go.Proofs.Ytnbbjfajcolpkab
