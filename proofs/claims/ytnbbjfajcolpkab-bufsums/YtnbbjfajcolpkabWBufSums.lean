/- The walk of the law BufSums. -/
import Derived.Test.YtnbbjfajcolpkabLives
import Derived.Test.YtnbbjfajcolpkabCut
import Derived.Test.YtnbbjfajcolpkabPlain7
import Derived.OpenShut
import Derived.Deep.LoopGhost
import Derived.Deep.DeepCutAuto
import Derived.Deep.CutBlock
namespace Go.Proofs.Ytnbbjfajcolpkab
open Go.RowKit
set_option linter.unusedVariables false

set_option maxRecDepth 1000000 in
set_option maxHeartbeats 1600000 in
theorem bufSums_walk (s : ByteArray) (_ : s.size ≤ maxLen) (n : Int) (hn : (Lit.int .i64 n).wf = true) (w : World) :
    Calls Try.prog 6 #[.string s, .int .i64 n] w fun e w' => e = .returned (.bool true) ∧ Below w.heap.size w w' := by
  have hn' := (bounds_i64 hn).2
  go_enter Try.func6, Try.ntmps6
  go_upto_if 10 with fail
  go_cut [0] (fun v wx => wx = w ∧ ∃ u : ByteArray, v = .string u ∧ u.size ≤ 2000)
  case first =>
    go_wp2
    all_goals go_meet
    · exact ⟨rfl, _, rfl, by rw [ByteArray.size_extract]; omega⟩
    · exact ⟨rfl, _, rfl, by omega⟩
  case rest =>
    obtain ⟨rfl, u, rfl, hu⟩ := hcut
    have hum : u.size ≤ maxLen := by unfold maxLen; omega
    obtain ⟨hA1, hA2, hA3, hA4, hA5⟩ := cut_facts u n
    obtain ⟨A, hA⟩ : ∃ A, cutS u n = A := ⟨_, rfl⟩
    have hcut : ∀ w', Calls Try.prog 20 #[.string u, .int .i64 n] w' fun e w'' => e = .returned (.string A) ∧ Below w'.heap.size w' w'' := by
      intro w'; rw [← hA]; exact cut_any u n w' hum hn'
    rw [hA] at hA1 hA2 hA3 hA4 hA5
    have hAm : A.size ≤ maxLen := Nat.le_trans hA1 hum
    have hRm : (u.extract A.size u.size).size ≤ maxLen := by rw [tail_size]; unfold maxLen; omega
    have hcu := cntR_le u
    have hca := cntR_le A
    have hsub : ((cntR (u.extract A.size u.size) : Nat) : Int) = (cntR u : Int) - (cntR A : Int) := by omega
    clear hA hA5
    by_cases h0 : 0 ≤ n
    · have hmin := hA3 h0
      clear hA3 hA4
      go_wp2_with (first | (go_at_call 20; refine (hcut _).mono ?_; rintro e w1 ⟨rfl, hb1⟩) | (go_at_call_of 21 (Value.string u); refine (count_any u _ hum).mono ?_; rintro e w2 ⟨rfl, hb2⟩) | (go_at_call_of 21 (Value.string A); refine (count_any A _ hAm).mono ?_; rintro e w3 ⟨rfl, hb3⟩) | (go_at_call 21; refine (count_any _ _ hRm).mono ?_; rintro e w4 ⟨rfl, hb4⟩) | (go_at_call 17; refine (lives_any _).mono ?_; rintro e w5 ⟨rfl, hb5⟩))
      go_ret
      exact ⟨rfl, hb1.trans ((hb2.trans ((hb3.trans ((hb4.trans (hb5.mono hb4.size)).mono hb3.size)).mono hb2.size)).mono hb1.size)⟩
    · have hk := hA4 (by omega)
      have hk0 : cntR (u.extract A.size u.size) = 0 := by omega
      clear hA3 hA4 hsub
      go_wp2_with (first | (go_at_call 20; refine (hcut _).mono ?_; rintro e w1 ⟨rfl, hb1⟩) | (go_at_call_of 21 (Value.string u); refine (count_any u _ hum).mono ?_; rintro e w2 ⟨rfl, hb2⟩) | (go_at_call_of 21 (Value.string A); refine (count_any A _ hAm).mono ?_; rintro e w3 ⟨rfl, hb3⟩) | (go_at_call 21; refine (count_any _ _ hRm).mono ?_; rintro e w4 ⟨rfl, hb4⟩) | (go_at_call 17; refine (lives_any _).mono ?_; rintro e w5 ⟨rfl, hb5⟩))
      go_ret
      exact ⟨rfl, hb1.trans ((hb2.trans ((hb3.trans ((hb4.trans (hb5.mono hb4.size)).mono hb3.size)).mono hb2.size)).mono hb1.size)⟩
end Go.Proofs.Ytnbbjfajcolpkab
