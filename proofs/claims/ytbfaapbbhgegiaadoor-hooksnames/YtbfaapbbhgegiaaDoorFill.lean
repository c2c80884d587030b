/- The walks of width and Fill. -/
import Derived.Test.YtbfaapbbhgegiaaDoorRunes
import Derived.Test.YtbfaapbbhgegiaaDoorPlain2
import Derived.Test.YtbfaapbbhgegiaaDoorShelf
import Derived.Deep.QuietTactic
import Derived.BigQuiet
namespace Go.Proofs.YtbfaapbbhgegiaaDoor
open Go.RowKit

set_option maxHeartbeats 400000 in
theorem width_any (n : Int) (w : World) :
    Calls Tryd.prog 68 #[.int .i64 n] w fun e w' => e = .returned (.int .i64 (wdt n : Nat)) ∧ w' = w := by
  go_enter Tryd.func68, Tryd.ntmps68
  go_wp2
  go_ret
  exact ⟨ret_int (wdt_eq n), rfl⟩

theorem conv1d (w : World) (x : Int) :
    (convert 93 9 (.slice (some ⟨w.heap.size, 0, none⟩) 1 1)).run Tryd.prog (w.alloc (.cells #[.int .u8 x] 5)).drew = .ok (.string (strOfNums [x])) (w.alloc (.cells #[.int .u8 x] 5)).drew := by
  refine run_convert_bytes_arg _ 93 5 Tryd.underlying93 Tryd.underlying5 w.heap.size 0 1 1 [x] rfl (fun i hi => ?_) 9 Tryd.underlying9
  have : i = 0 := by omega
  subst this
  simp

theorem repeat_byte (x : Int) (k : Nat) (w : World) (hk : k ≤ 1000) :
    Calls Tryd.prog 86 #[.string (strOfNums [x]), .int .i64 k] w fun e w' => e = .returned (.string ⟨(List.replicate k (UInt8.ofNat x.toNat)).toArray⟩) ∧ Below w.heap.size w w' := by
  have hz : (strOfNums [x]).size = 1 := rfl
  refine (Tryd.strings_Repeat (strOfNums [x]) k w (by omega) (by rw [hz]; omega)).mono ?_
  rintro e w' ⟨rfl, hb⟩
  refine ⟨ret_str ?_, hb⟩
  have e : (strOfNums [x]).data.toList = List.replicate 1 (UInt8.ofNat x.toNat) := rfl
  rw [e, Lib.repeatL_replicate, Nat.mul_one]

set_option maxRecDepth 1000000 in
set_option maxHeartbeats 400000 in
theorem fill_any (c : Nat) (n : Int) (w : World) :
    Calls Tryd.prog 70 #[.int .u8 c, .int .i64 n] w fun e w' => e = .returned (.string (run c (wdt n))) ∧ Below w.heap.size w w' := by
  have kc := conv1d
  go_enter Tryd.func70, Tryd.ntmps70
  go_wp2_with fail
  go_region_with (first | (go_at_call 68; refine (width_any _ _).mono ?_; rintro e w' ⟨rfl, rfl⟩) | (go_at_call 86; refine (repeat_byte _ _ _ (wdt_le n)).mono ?_; rintro e w1 ⟨rfl, hb⟩))
  all_goals go_wp2
  all_goals go_ret
  all_goals exact ⟨rfl, (((Below.refl _ _).alloc (Nat.le_refl _) _).drew).trans (hb.mono (by simp))⟩
end Go.Proofs.YtbfaapbbhgegiaaDoor
