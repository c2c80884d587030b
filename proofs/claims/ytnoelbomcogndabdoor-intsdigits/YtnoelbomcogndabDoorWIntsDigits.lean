/- The walk of the law IntsDigits. -/
import Derived.Test.YtnoelbomcogndabDoorINumE
import Derived.Test.YtnoelbomcogndabDoorEDig
namespace Go.Proofs.YtnoelbomcogndabDoor
open Go.RowKit
set_option linter.unusedVariables false

theorem digits_both (n : Nat) (b : Int) (hn : n < 18446744073709551616) : ∃ r : ByteArray,
    (∀ w, Calls Tryd.prog 9 #[.int .u64 n, .int .i64 b] w fun e w' => e = .returned (.string r) ∧ Below w.heap.size w w') ∧
    (∀ w, Calls Tryd.prog 10 #[.int .u64 n, .int .i64 b] w fun e w' => e = .returned (.string r) ∧ w' = w) := by
  by_cases h : b = 2 ∨ b = 8 ∨ b = 10 ∨ b = 16
  · obtain ⟨c, rfl⟩ : ∃ c : Nat, b = c := ⟨b.toNat, by omega⟩
    exact ⟨_, fun w => idigits_any n c w hn (by omega), fun w => edigits_any n c w hn (by omega)⟩
  · exact ⟨_, fun w => idigits_no n b w (by omega) (by omega) (by omega) (by omega), fun w => edigits_no n b w (by omega) (by omega) (by omega) (by omega)⟩

set_option maxRecDepth 1000000 in
set_option maxHeartbeats 400000 in
theorem intsDigits_walk (n0 : Int) (hn0 : (Lit.int .u64 n0).wf = true) (b : Int) (_hb : (Lit.int .i64 b).wf = true) (w : World) (hE : Esc w) :
    Calls Tryd.prog 3 #[.int .u64 n0, .int .i64 b] w fun e w' => e = .returned (.bool true) ∧ Below w.heap.size w w' := by
  have hn' := wfu64 n0 hn0
  obtain ⟨n, rfl⟩ : ∃ n : Nat, n0 = n := ⟨n0.toNat, by omega⟩
  obtain ⟨r, hA, hB⟩ := digits_both n b (by omega)
  have hE1 : ∀ x : Cl w, Esc x.w := fun x => hE.below x.below
  clear hn0 _hb
  go_enter Tryd.func3, Tryd.ntmps3
  go_wp2_with (first | (go_at_call 9; refine (Cl.go0 (hA _)).mono ?_; rintro e w9 ⟨y, rfl, rfl⟩) | (go_at_call 10; refine (hB _).mono ?_; rintro e w9 ⟨rfl, rfl⟩) | (go_at_call 11; refine (Cl.go (lives3_any _ (hE1 _))).mono ?_; rintro e w9 ⟨y, rfl, rfl⟩))
  go_ret
  exact ⟨rfl, y.below⟩
end Go.Proofs.YtnoelbomcogndabDoor
