/- The walk of the document's Fill. -/
import Derived.Test.YtbfaapbbhgegiaaDoorRunes
import Derived.Test.YtbfaapbbhgegiaaDoorPlain2
namespace Go.Proofs.YtbfaapbbhgegiaaDoor
open Go.RowKit

theorem val_str {a b : ByteArray} (h : a = b) : Value.string a = .string b := by rw [h]

set_option maxRecDepth 1000000 in
set_option maxHeartbeats 400000 in
theorem rfill_mid (c : Nat) (n : Int) (w : World) (hn : n ≤ 1000) :
    Calls Tryd.prog 81 #[.int .u8 c, .int .i64 n] w fun e w' => e = .returned (.string (run c (wdt n))) ∧ Below w.heap.size w w' := by
  go_enter Tryd.func81, Tryd.ntmps81
  go_wp2
  go_loopw [5, 6] (fun s i w' => ∃ k : Nat, k ≤ wdt n ∧ s = .string (run c k) ∧ i = .int .i64 k ∧ Below w.heap.size w w') (fun _ i _ => wdt n - (intOf i).toNat)
  case atStart => exact ⟨0, Nat.zero_le _, rfl, rfl, Below.refl _ _⟩
  case round =>
    obtain ⟨k, hk, rfl, rfl, hb⟩ := hrel
    have hwl := wdt_le n
    by_cases hlt : (k : Int) < n
    · have hm : ((wdt n : Nat) : Int) = n := wdt_mid n (by omega) hn
      have hlt' : k < wdt n := by omega
      clear hm
      have hsum : ¬ 9223372036854775807 < (run c k).size + (strOfNums [(c : Int)]).size := by rw [run_size, strOfNums_size]; simp; omega
      have kc := conv1
      go_wp2
      go_roundw
      case rel => exact ⟨k + 1, hlt', val_str (run_snoc c k), by go_num, hb.alloc hb.size _⟩
      case measure => simp [intOf]; omega
    · have hm : wdt n = k := by unfold wdt at hk ⊢; omega
      have HM : Hid (wdt n = k) := hm
      clear hm
      go_wp2
      go_ret
      rw [HM.out]
      exact ⟨rfl, hb⟩

set_option maxRecDepth 1000000 in
set_option maxHeartbeats 400000 in
theorem rfill_big (c : Nat) (n : Int) (w : World) (hn : 1000 < n) :
    Calls Tryd.prog 81 #[.int .u8 c, .int .i64 n] w fun e w' => e = .returned (.string (run c 1000)) ∧ Below w.heap.size w w' := by
  go_enter Tryd.func81, Tryd.ntmps81
  go_wp2
  go_loopw [5, 6] (fun s i w' => ∃ k : Nat, k ≤ 1000 ∧ s = .string (run c k) ∧ i = .int .i64 k ∧ Below w.heap.size w w') (fun _ i _ => 1000 - (intOf i).toNat)
  case atStart => exact ⟨0, Nat.zero_le _, rfl, rfl, Below.refl _ _⟩
  case round =>
    obtain ⟨k, hk, rfl, rfl, hb⟩ := hrel
    by_cases hlt : (k : Int) < 1000
    · have hsum : ¬ 9223372036854775807 < (run c k).size + (strOfNums [(c : Int)]).size := by rw [run_size, strOfNums_size]; simp; omega
      have kc := conv1
      go_wp2
      go_roundw
      case rel => exact ⟨k + 1, by omega, val_str (run_snoc c k), by go_num, hb.alloc hb.size _⟩
      case measure => simp [intOf]; omega
    · have HM : Hid (k = 1000) := by show k = 1000; omega
      go_wp2
      go_ret
      refine ⟨ret_str ?_, hb⟩
      rw [HM.out]

theorem rfill_any (c : Nat) (n : Int) (w : World) :
    Calls Tryd.prog 81 #[.int .u8 c, .int .i64 n] w fun e w' => e = .returned (.string (run c (wdt n))) ∧ Below w.heap.size w w' := by
  by_cases h : n ≤ 1000
  · exact rfill_mid c n w h
  · rw [wdt_big n (by omega)]; exact rfill_big c n w (by omega)

end Go.Proofs.YtbfaapbbhgegiaaDoor
