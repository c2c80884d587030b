/- The walk of the law BufCounts. -/
import Derived.Test.YtnbbjfajcolpkaaLives
import Derived.Test.YtnbbjfajcolpkaaRCut
import Derived.Test.YtnbbjfajcolpkaaCut
import Derived.OpenShut
namespace Go.Proofs.Ytnbbjfajcolpkaa
open Go.RowKit
theorem ext_le (s : ByteArray) (h : 2000 < s.size) : (s.extract 0 2000).size ≤ maxLen := by
  rw [ByteArray.size_extract]; unfold maxLen; omega
set_option maxRecDepth 1000000 in
set_option maxHeartbeats 400000 in
theorem bufCounts_walk (s : ByteArray) (hs : s.size ≤ maxLen) (n : Int) (hn : (Lit.int .i64 n).wf = true) (w : World) :
    Calls Try.prog 5 #[.string s, .int .i64 n] w fun e w' => e = .returned (.bool true) ∧ Below w.heap.size w w' := by
  have hn' := (bounds_i64 hn).2
  by_cases h : (2000 : Int) < s.size
  · have hz := ext_le s (by omega)
    go_enter Try.func5, Try.ntmps5
    go_wp2_with (first | (go_at_call 14; refine (count_any _ _ hz).mono ?_; rintro e w1 ⟨rfl, hb1⟩) | (go_at_call 15; refine (rcount_any _ _ hz).mono ?_; rintro e w2 ⟨rfl, hb2⟩) | (go_at_call 16; refine (cut_any _ _ _ hz hn').mono ?_; rintro e w3 ⟨rfl, hb3⟩) | (go_at_call 17; refine (rcut_any _ _ _ hz hn').mono ?_; rintro e w4 ⟨rfl, hb4⟩) | (go_at_call 11; refine (lives_any _).mono ?_; rintro e w5 ⟨rfl, hb5⟩))
    go_ret
    exact ⟨rfl, hb1.trans ((hb2.trans ((hb3.trans ((hb4.trans (hb5.mono hb4.size)).mono hb3.size)).mono hb2.size)).mono hb1.size)⟩
  · go_enter Try.func5, Try.ntmps5
    go_wp2_with (first | (go_at_call 14; refine (count_any _ _ hs).mono ?_; rintro e w1 ⟨rfl, hb1⟩) | (go_at_call 15; refine (rcount_any _ _ hs).mono ?_; rintro e w2 ⟨rfl, hb2⟩) | (go_at_call 16; refine (cut_any _ _ _ hs hn').mono ?_; rintro e w3 ⟨rfl, hb3⟩) | (go_at_call 17; refine (rcut_any _ _ _ hs hn').mono ?_; rintro e w4 ⟨rfl, hb4⟩) | (go_at_call 11; refine (lives_any _).mono ?_; rintro e w5 ⟨rfl, hb5⟩))
    go_ret
    exact ⟨rfl, hb1.trans ((hb2.trans ((hb3.trans ((hb4.trans (hb5.mono hb4.size)).mono hb3.size)).mono hb2.size)).mono hb1.size)⟩
end Go.Proofs.Ytnbbjfajcolpkaa
