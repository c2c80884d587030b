/- The law FreeNone. -/
import Derived.Test.YtdedhiipamnahaaYLive
namespace Go.Proofs.Ytdedhiipamnahaa
open Go.RowKit Go.Conc
set_option linter.unusedVariables false
set_option linter.unusedSimpArgs false

set_option maxRecDepth 1000000 in
set_option maxHeartbeats 2000000 in
theorem freeNone_walk (x : Int) (hx : (Lit.int .i64 x).wf = true) (s : ByteArray) (hs : s.size ≤ maxLen) (w : World) : Calls Try.prog 6 #[.int .i64 x, .string s] w fun e w' => e = .returned (.bool true) ∧ Below w.heap.size w w' := by
  clear hx hs
  obtain ⟨W1, hW1⟩ : ∃ W1, W1 = w.alloc (.cells #[.chan none, .nilFunc, .int .i64 0] 47) := ⟨_, rfl⟩
  have hb : Bq W1 w.heap.size [.chan none, .nilFunc, .int .i64 0] := by rw [hW1]; exact Bq.new _ [_, _, _] _
  have b1 : Below w.heap.size w W1 := by rw [hW1]; exact (Below.refl _ _).alloc (Nat.le_refl _) _
  have hs1 : w.heap.size < W1.heap.size := by rw [hW1]; simp
  have n1 := isMadei_nil W1
  have n2 := isMades_no hb
  go_enter Try.func6, Try.ntmps6
  go_upto_region 3 with fail
  rw [← hW1]
  clear hW1
  go_wp2_with (first
    | (go_at_call 15; refine (geti_none n1).mono ?_; rintro e w9 ⟨rfl, rfl⟩)
    | (go_at_call 13; refine (puti_none n1 x).mono ?_; rintro e w9 ⟨rfl, rfl⟩)
    | (go_at_call 17; refine (leni_none n1).mono ?_; rintro e w9 ⟨rfl, rfl⟩)
    | (go_at_call 18; refine (madei_none n1).mono ?_; rintro e w9 ⟨rfl, rfl⟩)
    | (go_at_call 24; refine (gets_none n2).mono ?_; rintro e w9 ⟨rfl, rfl⟩)
    | (go_at_call 22; refine (puts_none n2 s).mono ?_; rintro e w9 ⟨rfl, rfl⟩)
    | (go_at_call 23; refine (lens_none n2).mono ?_; rintro e w9 ⟨rfl, rfl⟩)
    | (go_at_call 25; refine (mades_none n2).mono ?_; rintro e w9 ⟨rfl, rfl⟩)
    | (go_at_call 19; refine (lives13_any _).mono ?_; rintro e w9 ⟨rfl, hb9⟩))
  go_ret
  exact ⟨rfl, b1.trans (hb9.mono (Nat.le_of_lt hs1))⟩
end Go.Proofs.Ytdedhiipamnahaa
