/- The walk of the law CplxSplits. -/
import Derived.Test.YthbabhbfpcfenaaGreatDoorNWalk
import Derived.Test.YthbabhbfpcfenaaGreatDoorCLive
namespace Go.Proofs.YthbabhbfpcfenaaGreatDoor
open Go.RowKit
set_option linter.unusedVariables false
set_option linter.unusedSimpArgs false

set_option maxRecDepth 1000000 in
set_option maxHeartbeats 2000000 in
theorem splits_few {s x y : ByteArray} {ok : Bool} (h : ¬ 2000 < (s.size : Int)) (hA : SpC s x y ok) (hB : NsC s x y ok) (w : World) :
    Calls Tryz.prog 4 #[.string s] w fun e w' => e = .returned (.bool true) ∧ Below w.heap.size w w' := by
  have hL := lives7_any
  go_enter Tryz.func4, Tryz.ntmps4
  go_wp2_with (first
    | (go_at_call 12; (with_reducible refine (hA _).mono ?_); rintro x w3 ⟨rfl, hb3⟩)
    | (go_at_call 13; (with_reducible refine (hB _).mono ?_); rintro x w4 ⟨rfl, hb4⟩)
    | (go_at_call 11; refine (hL _).mono ?_; rintro x w8 ⟨rfl, hb8⟩))
  go_ret
  exact ⟨rfl, bel_call (bel_call hb3 hb4 (Nat.le_refl _)) hb8 (Nat.le_refl _)⟩
set_option maxRecDepth 1000000 in
set_option maxHeartbeats 2000000 in
theorem splits_many {s t x y : ByteArray} {ok : Bool} (h : 2000 < (s.size : Int)) (ht : s.extract 0 2000 = t) (hA : SpC t x y ok) (hB : NsC t x y ok) (w : World) :
    Calls Tryz.prog 4 #[.string s] w fun e w' => e = .returned (.bool true) ∧ Below w.heap.size w w' := by
  have hL := lives7_any
  have h2 : 2000 ≤ s.size := by omega
  have h3 : (2000 : Int) ≤ s.size := by omega
  go_enter Tryz.func4, Tryz.ntmps4
  go_wp2_with (first
    | (go_at_call 12; (with_reducible refine (hA _).mono ?_); rintro x w3 ⟨rfl, hb3⟩)
    | (go_at_call 13; (with_reducible refine (hB _).mono ?_); rintro x w4 ⟨rfl, hb4⟩)
    | (go_at_call 11; refine (hL _).mono ?_; rintro x w8 ⟨rfl, hb8⟩))
  go_ret
  exact ⟨rfl, bel_call (bel_call hb3 hb4 (Nat.le_refl _)) hb8 (Nat.le_refl _)⟩
theorem cplxSplits_walk (s : ByteArray) (hs : s.size ≤ 9223372036854775807) (w : World) :
    Calls Tryz.prog 4 #[.string s] w fun e w' => e = .returned (.bool true) ∧ Below w.heap.size w w' := by
  by_cases h : 2000 < s.size
  · have hz : (s.extract 0 2000).size ≤ 100000 := by rw [ByteArray.size_extract]; omega
    obtain ⟨x, y, ok, hA, hB⟩ := split_both _ hz
    exact splits_many (by omega) rfl hA hB w
  · obtain ⟨x, y, ok, hA, hB⟩ := split_both s (by omega)
    exact splits_few (by omega) hA hB w
end Go.Proofs.YthbabhbfpcfenaaGreatDoor
