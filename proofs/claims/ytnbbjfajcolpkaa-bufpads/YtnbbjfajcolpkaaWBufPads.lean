/- The walk of the law BufPads. -/
import Derived.Test.YtnbbjfajcolpkaaLives
import Derived.Test.YtnbbjfajcolpkaaRPad
import Derived.Test.YtnbbjfajcolpkaaPlain5
import Derived.Deep.RegionWith
import Derived.OpenShut
namespace Go.Proofs.Ytnbbjfajcolpkaa
open Go.RowKit
theorem ext_le1 (s : ByteArray) (h : 2000 < s.size) : (s.extract 0 2000).size ≤ 1000000 := by
  rw [ByteArray.size_extract]; omega
set_option maxRecDepth 1000000 in
set_option maxHeartbeats 1000000 in
theorem bufPads_big (s : ByteArray) (p mi sh sp z : Bool) (wid prec verb : Int) (w : World) (h : (2000 : Int) < s.size) :
    Calls Try.prog 7 #[.string s, .agg #[.bool p, .bool mi, .bool sh, .bool sp, .bool z, .int .i64 wid, .int .i64 prec, .int .i32 verb]] w fun e w' => e = .returned (.bool true) ∧ Below w.heap.size w w' := by
  have hz := ext_le1 s (by omega)
  go_enter Try.func7, Try.ntmps7
  go_wp2_with fail
  go_region_with (first | (go_at_call 20; refine (pad_any _ _ _ _ _ _ _ _ _ _ hz).mono ?_; rintro e w1 ⟨rfl, hb1⟩; obtain ⟨hc1, hf1⟩ := bcell hb1) | (go_at_call 21; refine (rpad_any _ _ _ _ _ _ _ _ _ _ hz).mono ?_; rintro e w2 ⟨rfl, hb2⟩) | (go_at_call 11; refine (lives_any _).mono ?_; rintro e w3 ⟨rfl, hb3⟩))
  all_goals go_wp2
  all_goals go_ret
  all_goals exact ⟨rfl, (((Below.refl _ _).alloc (Nat.le_refl _) _).drew).trans ((hb1.trans ((hb2.trans (hb3.mono hb2.size)).mono hb1.size)).mono (by simp))⟩
set_option maxRecDepth 1000000 in
set_option maxHeartbeats 1000000 in
theorem bufPads_small (s : ByteArray) (p mi sh sp z : Bool) (wid prec verb : Int) (w : World) (h : ¬ (2000 : Int) < s.size) :
    Calls Try.prog 7 #[.string s, .agg #[.bool p, .bool mi, .bool sh, .bool sp, .bool z, .int .i64 wid, .int .i64 prec, .int .i32 verb]] w fun e w' => e = .returned (.bool true) ∧ Below w.heap.size w w' := by
  have hz : s.size ≤ 1000000 := by omega
  go_enter Try.func7, Try.ntmps7
  go_wp2_with fail
  go_region_with (first | (go_at_call 20; refine (pad_any _ _ _ _ _ _ _ _ _ _ hz).mono ?_; rintro e w1 ⟨rfl, hb1⟩; obtain ⟨hc1, hf1⟩ := bcell hb1) | (go_at_call 21; refine (rpad_any _ _ _ _ _ _ _ _ _ _ hz).mono ?_; rintro e w2 ⟨rfl, hb2⟩) | (go_at_call 11; refine (lives_any _).mono ?_; rintro e w3 ⟨rfl, hb3⟩))
  all_goals go_wp2
  all_goals go_ret
  all_goals exact ⟨rfl, (((Below.refl _ _).alloc (Nat.le_refl _) _).drew).trans ((hb1.trans ((hb2.trans (hb3.mono hb2.size)).mono hb1.size)).mono (by simp))⟩
theorem bufPads_walk (s : ByteArray) (_ : s.size ≤ maxLen) (p mi sh sp z : Bool) (wid prec verb : Int) (_ : (Lit.int .i64 wid).wf = true) (w : World) :
    Calls Try.prog 7 #[.string s, .agg #[.bool p, .bool mi, .bool sh, .bool sp, .bool z, .int .i64 wid, .int .i64 prec, .int .i32 verb]] w fun e w' => e = .returned (.bool true) ∧ Below w.heap.size w w' := by
  by_cases h : (2000 : Int) < s.size
  · exact bufPads_big s p mi sh sp z wid prec verb w h
  · exact bufPads_small s p mi sh sp z wid prec verb w h
end Go.Proofs.Ytnbbjfajcolpkaa
