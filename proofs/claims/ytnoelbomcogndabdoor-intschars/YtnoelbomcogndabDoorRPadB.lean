/- The walks of the document's Width and Pad. -/
import Derived.Test.YtnoelbomcogndabDoorRCnt
import Derived.Test.YtnoelbomcogndabDoorRFill
namespace Go.Proofs.YtnoelbomcogndabDoor
open Go.RowKit
set_option linter.unusedVariables false

theorem app_nil (s : ByteArray) : s ++ run 32 0 = s := by
  apply ByteArray.ext; rw [ByteArray.data_append]; exact Array.append_empty
theorem nil_app (c : Nat) (s : ByteArray) : run c 0 ++ s = s := by
  apply ByteArray.ext; rw [ByteArray.data_append]; exact Array.empty_append
theorem padS_short (s : ByteArray) (mi z : Bool) (wid : Int) (h : ((wdt wid : Nat) : Int) - (cntR s : Nat) ≤ 0) : padS s mi z wid = s := by
  have e : wdt (((wdt wid : Nat) : Int) - (cntR s : Nat)) = 0 := by
    generalize ((wdt wid : Nat) : Int) - (cntR s : Nat) = x at h
    unfold wdt; omega
  unfold padS
  rw [e]
  cases mi
  · cases z
    · exact nil_app 32 s
    · exact nil_app 48 s
  · exact app_nil s

set_option maxHeartbeats 400000 in
theorem rwidth_neg (n : Int) (w : World) (h : n < 0) :
    Calls Tryd.prog 38 #[.int .i64 n] w fun e w' => e = .returned (.int .i64 (-1)) ∧ w' = w := by
  go_enter Tryd.func38, Tryd.ntmps38
  go_wp2
  go_ret
  exact ⟨rfl, rfl⟩
set_option maxHeartbeats 400000 in
theorem rwidth_pos (n : Int) (w : World) (h : 0 ≤ n) :
    Calls Tryd.prog 38 #[.int .i64 n] w fun e w' => e = .returned (.int .i64 (wdt n : Nat)) ∧ w' = w := by
  by_cases hb : 1000 < n
  · have E : Hid (wdt n = 1000) := wdt_big n hb
    go_enter Tryd.func38, Tryd.ntmps38
    go_wp2
    go_ret
    refine ⟨?_, rfl⟩
    rw [E.out]
    rfl
  · have e := wdt_mid n h (by omega)
    have E : Hid (((wdt n : Nat) : Int) = n) := e
    clear e
    go_enter Tryd.func38, Tryd.ntmps38
    go_wp2
    go_ret
    exact ⟨ret_int E.out.symm, rfl⟩

set_option maxRecDepth 1000000 in
set_option maxHeartbeats 400000 in
theorem rpad_neg (s : ByteArray) (p mi sh sp z : Bool) (wid prec verb : Int) (w : World) (hs : s.size ≤ 1000000) (hn : wid < 0) :
    Calls Tryd.prog 34 #[.string s, .agg #[.bool p, .bool mi, .bool sh, .bool sp, .bool z, .int .i64 wid, .int .i64 prec, .int .i32 verb]] w fun e w' => e = .returned (.string s) ∧ Below w.heap.size w w' := by
  have hcn := cntR_le s
  have hm : s.size ≤ maxLen := by unfold maxLen; omega
  go_enter Tryd.func34, Tryd.ntmps34
  go_wp2_with (first | (go_at_call 38; refine (rwidth_neg _ _ hn).mono ?_; rintro e w' ⟨rfl, rfl⟩) | (go_at_call 54; refine (rcount_any _ _ hm).mono ?_; rintro e w1 ⟨rfl, hb1⟩))
  go_ret
  exact ⟨rfl, ((Below.refl _ _).alloc (Nat.le_refl _) _).trans (hb1.mono (by simp))⟩

set_option maxRecDepth 1000000 in
set_option maxHeartbeats 400000 in
theorem rpad_short (s : ByteArray) (p mi sh sp z : Bool) (wid prec verb : Int) (w : World) (hs : s.size ≤ 1000000) (hn : 0 ≤ wid) (hk : ((wdt wid : Nat) : Int) - (cntR s : Nat) ≤ 0) :
    Calls Tryd.prog 34 #[.string s, .agg #[.bool p, .bool mi, .bool sh, .bool sp, .bool z, .int .i64 wid, .int .i64 prec, .int .i32 verb]] w fun e w' => e = .returned (.string s) ∧ Below w.heap.size w w' := by
  have hcn := cntR_le s
  have hm : s.size ≤ maxLen := by unfold maxLen; omega
  have hwl := wdt_le wid
  go_enter Tryd.func34, Tryd.ntmps34
  go_wp2_with (first | (go_at_call 38; refine (rwidth_pos _ _ hn).mono ?_; rintro e w' ⟨rfl, rfl⟩) | (go_at_call 54; refine (rcount_any _ _ hm).mono ?_; rintro e w1 ⟨rfl, hb1⟩))
  go_ret
  exact ⟨rfl, ((Below.refl _ _).alloc (Nat.le_refl _) _).trans (hb1.mono (by simp))⟩

set_option maxRecDepth 1000000 in
set_option maxHeartbeats 800000 in
theorem rpad_long (s : ByteArray) (p mi sh sp z : Bool) (wid prec verb : Int) (w : World) (hs : s.size ≤ 1000000) (hn : 0 ≤ wid) (hk : ¬ ((wdt wid : Nat) : Int) - (cntR s : Nat) ≤ 0) :
    Calls Tryd.prog 34 #[.string s, .agg #[.bool p, .bool mi, .bool sh, .bool sp, .bool z, .int .i64 wid, .int .i64 prec, .int .i32 verb]] w fun e w' => e = .returned (.string (padS s mi z wid)) ∧ Below w.heap.size w w' := by
  have hcn := cntR_le s
  have hm : s.size ≤ maxLen := by unfold maxLen; omega
  have hwl := wdt_le wid
  have hk2 := wdt_le ((wdt wid : Nat) - (cntR s : Nat) : Int)
  cases mi with
  | true =>
    have hsum : ¬ 9223372036854775807 < s.size + (run 32 (wdt ((wdt wid : Nat) - (cntR s : Nat) : Int))).size := by rw [run_size]; omega
    go_enter Tryd.func34, Tryd.ntmps34
    go_wp2_with (first | (go_at_call 38; refine (rwidth_pos _ _ hn).mono ?_; rintro e w' ⟨rfl, rfl⟩) | (go_at_call 54; refine (rcount_any _ _ hm).mono ?_; rintro e w1 ⟨rfl, hb1⟩; have c1 : w1.cell? ⟨w.heap.size, 1, none⟩ = some (.bool true) := (by rw [hb1.cell (by simp)]; simp)) | (go_at_call 55; refine (rfill_any 32 _ _).mono ?_; rintro e w2 ⟨rfl, hb2⟩))
    go_ret
    exact ⟨rfl, ((Below.refl _ _).alloc (Nat.le_refl _) _).trans ((hb1.trans (hb2.mono hb1.size)).mono (by simp))⟩
  | false =>
    cases z with
    | true =>
      have hsum : ¬ 9223372036854775807 < (run 48 (wdt ((wdt wid : Nat) - (cntR s : Nat) : Int))).size + s.size := by rw [run_size]; omega
      go_enter Tryd.func34, Tryd.ntmps34
      go_wp2_with (first | (go_at_call 38; refine (rwidth_pos _ _ hn).mono ?_; rintro e w' ⟨rfl, rfl⟩) | (go_at_call 54; refine (rcount_any _ _ hm).mono ?_; rintro e w1 ⟨rfl, hb1⟩; have c1 : w1.cell? ⟨w.heap.size, 1, none⟩ = some (.bool false) := (by rw [hb1.cell (by simp)]; simp); have c4 : w1.cell? ⟨w.heap.size, 4, none⟩ = some (.bool true) := (by rw [hb1.cell (by simp)]; simp)) | (go_at_call 55; refine (rfill_any 48 _ _).mono ?_; rintro e w2 ⟨rfl, hb2⟩))
      go_ret
      exact ⟨rfl, ((Below.refl _ _).alloc (Nat.le_refl _) _).trans ((hb1.trans (hb2.mono hb1.size)).mono (by simp))⟩
    | false =>
      have hsum : ¬ 9223372036854775807 < (run 32 (wdt ((wdt wid : Nat) - (cntR s : Nat) : Int))).size + s.size := by rw [run_size]; omega
      go_enter Tryd.func34, Tryd.ntmps34
      go_wp2_with (first | (go_at_call 38; refine (rwidth_pos _ _ hn).mono ?_; rintro e w' ⟨rfl, rfl⟩) | (go_at_call 54; refine (rcount_any _ _ hm).mono ?_; rintro e w1 ⟨rfl, hb1⟩; have c1 : w1.cell? ⟨w.heap.size, 1, none⟩ = some (.bool false) := (by rw [hb1.cell (by simp)]; simp); have c4 : w1.cell? ⟨w.heap.size, 4, none⟩ = some (.bool false) := (by rw [hb1.cell (by simp)]; simp)) | (go_at_call 55; refine (rfill_any 32 _ _).mono ?_; rintro e w2 ⟨rfl, hb2⟩))
      go_ret
      exact ⟨rfl, ((Below.refl _ _).alloc (Nat.le_refl _) _).trans ((hb1.trans (hb2.mono hb1.size)).mono (by simp))⟩

theorem rpad_any (s : ByteArray) (p mi sh sp z : Bool) (wid prec verb : Int) (w : World) (hs : s.size ≤ 1000000) :
    Calls Tryd.prog 34 #[.string s, .agg #[.bool p, .bool mi, .bool sh, .bool sp, .bool z, .int .i64 wid, .int .i64 prec, .int .i32 verb]] w fun e w' => e = .returned (.string (padS s mi z wid)) ∧ Below w.heap.size w w' := by
  by_cases hn : wid < 0
  · rw [padS_short s mi z wid (by rw [wdt_neg wid hn]; omega)]
    exact rpad_neg s p mi sh sp z wid prec verb w hs hn
  by_cases hk : ((wdt wid : Nat) : Int) - (cntR s : Nat) ≤ 0
  · rw [padS_short s mi z wid hk]
    exact rpad_short s p mi sh sp z wid prec verb w hs (by omega) hk
  · exact rpad_long s p mi sh sp z wid prec verb w hs (by omega) hk
end Go.Proofs.YtnoelbomcogndabDoor
