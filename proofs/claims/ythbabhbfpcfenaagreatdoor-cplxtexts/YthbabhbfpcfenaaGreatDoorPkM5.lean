/- RCnt, RPadB, EWriA, MWalkA, MWalkB: these texts in one. -/
import Derived.Test.YthbabhbfpcfenaaGreatDoorPkM4
import Derived.Test.YthbabhbfpcfenaaGreatDoorPkF1
import Derived.Test.YthbabhbfpcfenaaGreatDoorPkM1
import Derived.Test.YthbabhbfpcfenaaGreatDoorPkM3
import Derived.Deep.DeepCutAuto
import Derived.Deep.CutBlock
import Derived.Test.YthbabhbfpcfenaaGreatDoorPkF10
import Derived.Test.YthbabhbfpcfenaaGreatDoorPkF26
/- The walk of the document's Count. -/
namespace Go.Proofs.YthbabhbfpcfenaaGreatDoor
open Go.RowKit

set_option maxRecDepth 1000000 in
set_option maxHeartbeats 800000 in
theorem rcount_any (s : ByteArray) (w : World) (hs : s.size ≤ maxLen) :
    Calls Tryz.prog 99 #[.string s] w fun e w' => e = .returned (.int .i64 (cntR s : Nat)) ∧ Below w.heap.size w w' := by
  have hcs := cntR_le s
  go_enter Tryz.func99, Tryz.ntmps99
  go_wp2
  go_loopg [0, 3] s.size (fun g t k w' => ∃ (u : ByteArray) (q : Nat), t = .string u ∧ k = .int .i64 q ∧ u.size ≤ g ∧ u.size ≤ s.size ∧ q + u.size ≤ s.size ∧ Hid (q + cntR u = cntR s) ∧ Below w.heap.size w w')
  case atStart => exact ⟨s, 0, rfl, rfl, Nat.le_refl _, Nat.le_refl _, by omega, Nat.zero_add _, Below.refl _ _⟩
  case round =>
    obtain ⟨u, q, rfl, rfl, hg, hus, hq, hc, hb⟩ := hrel
    have hms : u.size ≤ maxLen := Nat.le_trans hus hs
    have hs' := hs
    unfold maxLen at hs'
    by_cases h0 : 0 < u.size
    · have hne := empty_no u h0
      obtain ⟨hd1, hd2⟩ := dec_wid u h0
      go_wp2_with (go_at_call 126; refine (rdecodeB_any _ _ hms).mono ?_; rintro e w2 ⟨rfl, hb2⟩)
      go_roundg (u.size - (dec u).2)
      case measure => omega
      case rel =>
        refine ⟨_, q + 1, rfl, by go_num, ?_, ?_, ?_, ?_, hb.trans (hb2.mono hb.size)⟩
        · rw [tail_size]; exact Nat.le_refl _
        · rw [tail_size]; omega
        · rw [tail_size]; omega
        · show q + 1 + cntR _ = _
          have := hc.out
          rw [cntR_step u h0] at this
          omega
    · have hne := empty_yes u (by omega)
      go_wp2
      go_ret
      have := hc.out
      rw [cntR_nil u (by omega)] at this
      exact ⟨ret_int (by omega), hb⟩

end Go.Proofs.YthbabhbfpcfenaaGreatDoor

/- The walks of the document's Width and Pad. -/
namespace Go.Proofs.YthbabhbfpcfenaaGreatDoor
open Go.RowKit
set_option linter.unusedVariables false

theorem app_nil (s : ByteArray) : s ++ run 32 0 = s := by
  apply ByteArray.ext; rw [ByteArray.data_append]; exact Array.append_empty
theorem nil_app (c : Nat) (s : ByteArray) : run c 0 ++ s = s := by
  apply ByteArray.ext; rw [ByteArray.data_append]; exact Array.empty_append
theorem padS_short (s : ByteArray) (mi z : Bool) (wid : Int) (h : ((wdt wid : Nat) : Int) - (cntR s : Nat) ≤ 0) : padS s mi z wid = s := by
  have e : wdt (((wdt wid : Nat) : Int) - (cntR s : Nat)) = 0 := by
    generalize ((wdt wid : Nat) : Int) - (cntR s : Nat) = x at h
    unfold wdt; omega
  unfold padS
  rw [e]
  cases mi
  · cases z
    · exact nil_app 32 s
    · exact nil_app 48 s
  · exact app_nil s

set_option maxHeartbeats 400000 in
theorem rwidth_neg (n : Int) (w : World) (h : n < 0) :
    Calls Tryz.prog 34 #[.int .i64 n] w fun e w' => e = .returned (.int .i64 (-1)) ∧ w' = w := by
  go_enter Tryz.func34, Tryz.ntmps34
  go_wp2
  go_ret
  exact ⟨rfl, rfl⟩
set_option maxHeartbeats 400000 in
theorem rwidth_pos (n : Int) (w : World) (h : 0 ≤ n) :
    Calls Tryz.prog 34 #[.int .i64 n] w fun e w' => e = .returned (.int .i64 (wdt n : Nat)) ∧ w' = w := by
  by_cases hb : 1000 < n
  · have E : Hid (wdt n = 1000) := wdt_big n hb
    go_enter Tryz.func34, Tryz.ntmps34
    go_wp2
    go_ret
    refine ⟨?_, rfl⟩
    rw [E.out]
    rfl
  · have e := wdt_mid n h (by omega)
    have E : Hid (((wdt n : Nat) : Int) = n) := e
    clear e
    go_enter Tryz.func34, Tryz.ntmps34
    go_wp2
    go_ret
    exact ⟨ret_int E.out.symm, rfl⟩

set_option maxRecDepth 1000000 in
set_option maxHeartbeats 400000 in
theorem rpad_neg (s : ByteArray) (p mi sh sp z : Bool) (wid prec verb : Int) (w : World) (hs : s.size ≤ 1000000) (hn : wid < 0) :
    Calls Tryz.prog 59 #[.string s, .agg #[.bool p, .bool mi, .bool sh, .bool sp, .bool z, .int .i64 wid, .int .i64 prec, .int .i32 verb]] w fun e w' => e = .returned (.string s) ∧ Below w.heap.size w w' := by
  have hcn := cntR_le s
  have hm : s.size ≤ maxLen := by unfold maxLen; omega
  go_enter Tryz.func59, Tryz.ntmps59
  go_wp2_with (first | (go_at_call 34; refine (rwidth_neg _ _ hn).mono ?_; rintro e w' ⟨rfl, rfl⟩) | (go_at_call 99; refine (rcount_any _ _ hm).mono ?_; rintro e w1 ⟨rfl, hb1⟩))
  go_ret
  exact ⟨rfl, ((Below.refl _ _).alloc (Nat.le_refl _) _).trans (hb1.mono (by simp))⟩

set_option maxRecDepth 1000000 in
set_option maxHeartbeats 400000 in
theorem rpad_short (s : ByteArray) (p mi sh sp z : Bool) (wid prec verb : Int) (w : World) (hs : s.size ≤ 1000000) (hn : 0 ≤ wid) (hk : ((wdt wid : Nat) : Int) - (cntR s : Nat) ≤ 0) :
    Calls Tryz.prog 59 #[.string s, .agg #[.bool p, .bool mi, .bool sh, .bool sp, .bool z, .int .i64 wid, .int .i64 prec, .int .i32 verb]] w fun e w' => e = .returned (.string s) ∧ Below w.heap.size w w' := by
  have hcn := cntR_le s
  have hm : s.size ≤ maxLen := by unfold maxLen; omega
  have hwl := wdt_le wid
  go_enter Tryz.func59, Tryz.ntmps59
  go_wp2_with (first | (go_at_call 34; refine (rwidth_pos _ _ hn).mono ?_; rintro e w' ⟨rfl, rfl⟩) | (go_at_call 99; refine (rcount_any _ _ hm).mono ?_; rintro e w1 ⟨rfl, hb1⟩))
  go_ret
  exact ⟨rfl, ((Below.refl _ _).alloc (Nat.le_refl _) _).trans (hb1.mono (by simp))⟩

set_option maxRecDepth 1000000 in
set_option maxHeartbeats 800000 in
theorem rpad_long (s : ByteArray) (p mi sh sp z : Bool) (wid prec verb : Int) (w : World) (hs : s.size ≤ 1000000) (hn : 0 ≤ wid) (hk : ¬ ((wdt wid : Nat) : Int) - (cntR s : Nat) ≤ 0) :
    Calls Tryz.prog 59 #[.string s, .agg #[.bool p, .bool mi, .bool sh, .bool sp, .bool z, .int .i64 wid, .int .i64 prec, .int .i32 verb]] w fun e w' => e = .returned (.string (padS s mi z wid)) ∧ Below w.heap.size w w' := by
  have hcn := cntR_le s
  have hm : s.size ≤ maxLen := by unfold maxLen; omega
  have hwl := wdt_le wid
  have hk2 := wdt_le ((wdt wid : Nat) - (cntR s : Nat) : Int)
  cases mi with
  | true =>
    have hsum : ¬ 9223372036854775807 < s.size + (run 32 (wdt ((wdt wid : Nat) - (cntR s : Nat) : Int))).size := by rw [run_size]; omega
    go_enter Tryz.func59, Tryz.ntmps59
    go_wp2_with (first | (go_at_call 34; refine (rwidth_pos _ _ hn).mono ?_; rintro e w' ⟨rfl, rfl⟩) | (go_at_call 99; refine (rcount_any _ _ hm).mono ?_; rintro e w1 ⟨rfl, hb1⟩; have c1 : w1.cell? ⟨w.heap.size, 1, none⟩ = some (.bool true) := (by rw [hb1.cell (by simp)]; simp)) | (go_at_call 100; refine (rfill_any 32 _ _).mono ?_; rintro e w2 ⟨rfl, hb2⟩))
    go_ret
    exact ⟨rfl, ((Below.refl _ _).alloc (Nat.le_refl _) _).trans ((hb1.trans (hb2.mono hb1.size)).mono (by simp))⟩
  | false =>
    cases z with
    | true =>
      have hsum : ¬ 9223372036854775807 < (run 48 (wdt ((wdt wid : Nat) - (cntR s : Nat) : Int))).size + s.size := by rw [run_size]; omega
      go_enter Tryz.func59, Tryz.ntmps59
      go_wp2_with (first | (go_at_call 34; refine (rwidth_pos _ _ hn).mono ?_; rintro e w' ⟨rfl, rfl⟩) | (go_at_call 99; refine (rcount_any _ _ hm).mono ?_; rintro e w1 ⟨rfl, hb1⟩; have c1 : w1.cell? ⟨w.heap.size, 1, none⟩ = some (.bool false) := (by rw [hb1.cell (by simp)]; simp); have c4 : w1.cell? ⟨w.heap.size, 4, none⟩ = some (.bool true) := (by rw [hb1.cell (by simp)]; simp)) | (go_at_call 100; refine (rfill_any 48 _ _).mono ?_; rintro e w2 ⟨rfl, hb2⟩))
      go_ret
      exact ⟨rfl, ((Below.refl _ _).alloc (Nat.le_refl _) _).trans ((hb1.trans (hb2.mono hb1.size)).mono (by simp))⟩
    | false =>
      have hsum : ¬ 9223372036854775807 < (run 32 (wdt ((wdt wid : Nat) - (cntR s : Nat) : Int))).size + s.size := by rw [run_size]; omega
      go_enter Tryz.func59, Tryz.ntmps59
      go_wp2_with (first | (go_at_call 34; refine (rwidth_pos _ _ hn).mono ?_; rintro e w' ⟨rfl, rfl⟩) | (go_at_call 99; refine (rcount_any _ _ hm).mono ?_; rintro e w1 ⟨rfl, hb1⟩; have c1 : w1.cell? ⟨w.heap.size, 1, none⟩ = some (.bool false) := (by rw [hb1.cell (by simp)]; simp); have c4 : w1.cell? ⟨w.heap.size, 4, none⟩ = some (.bool false) := (by rw [hb1.cell (by simp)]; simp)) | (go_at_call 100; refine (rfill_any 32 _ _).mono ?_; rintro e w2 ⟨rfl, hb2⟩))
      go_ret
      exact ⟨rfl, ((Below.refl _ _).alloc (Nat.le_refl _) _).trans ((hb1.trans (hb2.mono hb1.size)).mono (by simp))⟩

theorem rpad_any (s : ByteArray) (p mi sh sp z : Bool) (wid prec verb : Int) (w : World) (hs : s.size ≤ 1000000) :
    Calls Tryz.prog 59 #[.string s, .agg #[.bool p, .bool mi, .bool sh, .bool sp, .bool z, .int .i64 wid, .int .i64 prec, .int .i32 verb]] w fun e w' => e = .returned (.string (padS s mi z wid)) ∧ Below w.heap.size w w' := by
  by_cases hn : wid < 0
  · rw [padS_short s mi z wid (by rw [wdt_neg wid hn]; omega)]
    exact rpad_neg s p mi sh sp z wid prec verb w hs hn
  by_cases hk : ((wdt wid : Nat) : Int) - (cntR s : Nat) ≤ 0
  · rw [padS_short s mi z wid hk]
    exact rpad_short s p mi sh sp z wid prec verb w hs (by omega) hk
  · exact rpad_long s p mi sh sp z wid prec verb w hs (by omega) hk
end Go.Proofs.YthbabhbfpcfenaaGreatDoor

/- The walks of the document's Signed and Unsigned of layer 3. -/
namespace Go.Proofs.YthbabhbfpcfenaaGreatDoor
open Go.RowKit
set_option linter.unusedVariables false

set_option maxRecDepth 1000000 in
set_option maxHeartbeats 1000000 in
theorem rplain_any (s : ByteArray) (p mi sh sp z : Bool) (wid prec verb : Int) (w : World) (hs : s.size ≤ 1000000) :
    Calls Tryz.prog 31 #[.string s, .agg #[.bool p, .bool mi, .bool sh, .bool sp, .bool z, .int .i64 wid, .int .i64 prec, .int .i32 verb]] w fun e w' => e = .returned (.string (padS s mi false wid)) ∧ Below w.heap.size w w' := by
  have hP : ∀ w, Calls Tryz.prog 59 #[.string s, .agg #[.bool p, .bool mi, .bool sh, .bool sp, .bool false, .int .i64 wid, .int .i64 prec, .int .i32 verb]] w fun e w' => e = .returned (.string (padS s mi false wid)) ∧ Below w.heap.size w w' := fun w => rpad_any s p mi sh sp false wid prec verb w hs
  generalize padS s mi false wid = r at *
  have hbA : Below w.heap.size w (w.alloc (.cells #[.bool p, .bool mi, .bool sh, .bool sp, .bool false, .int .i64 wid, .int .i64 prec, .int .i32 verb] 26)) := (Below.refl _ _).alloc (Nat.le_refl _) _
  go_enter Tryz.func31, Tryz.ntmps31
  go_wp2_with (go_at_call 59; refine (hP _).mono ?_; rintro e w1 ⟨rfl, hb1⟩)
  go_ret
  exact ⟨rfl, hbA.trans (hb1.mono hbA.size)⟩
/-- A precision as the document has it. -/
def wdE (n : Int) : Int := if n < 0 then -1 else (wdt n : Nat)
theorem rwidth_any (n : Int) (w : World) :
    Calls Tryz.prog 34 #[.int .i64 n] w fun e w' => e = .returned (.int .i64 (wdE n)) ∧ w' = w := by
  by_cases h : n < 0
  · have e : wdE n = -1 := by unfold wdE; rw [if_pos h]
    rw [e]; exact rwidth_neg n w h
  · have e : wdE n = (wdt n : Nat) := by unfold wdE; rw [if_neg h]
    rw [e]; exact rwidth_pos n w (by omega)
theorem wdE_facts (n : Int) : wdE n ≤ 1000 ∧ -1 ≤ wdE n ∧ (wdE n < 0 ↔ n < 0) ∧ (wdE n = 0 ↔ n = 0) := by
  unfold wdE wdt
  split <;> omega
theorem lenS_wdE (s : ByteArray) (n : Int) : lenS s (wdE n) = lenS s (wdt n : Nat) := by
  have e : wdt (wdE n - (s.size : Nat)) = wdt ((wdt n : Nat) - (s.size : Nat) : Int) := by unfold wdE wdt; split <;> omega
  unfold lenS
  rw [e]
/-- The mark of a verb. -/
def mark0 (verb : Int) : ByteArray := if verb = 98 then ⟨#[48, 98]⟩ else if verb = 111 then ⟨#[48]⟩ else if verb = 79 then ⟨#[48, 111]⟩ else if verb = 120 then ⟨#[48, 120]⟩ else if verb = 88 then ⟨#[48, 88]⟩ else ⟨#[]⟩

end Go.Proofs.YthbabhbfpcfenaaGreatDoor

/- The document's answer for layer 6: zeros, Verb, digits, first, power, point, scientific, at. -/
namespace Go.Proofs.YthbabhbfpcfenaaGreatDoor
open Go.RowKit
set_option linter.unusedVariables false
set_option linter.unusedSimpArgs false

theorem run_zero_app (k : Nat) (s : ByteArray) : (s ++ run 48 k) ++ ⟨#[48]⟩ = s ++ run 48 (k + 1) := by
  apply ByteArray.ext; apply Array.ext'
  rw [app_list, app_list, app_list, run_list, run_list, List.append_assoc, List.replicate_succ']; rfl
theorem emp_app (s : ByteArray) : (⟨#[]⟩ : ByteArray) ++ s = s := by
  apply ByteArray.ext; apply Array.ext'
  rw [app_list]; rfl
theorem app_emp (s : ByteArray) : s ++ (⟨#[]⟩ : ByteArray) = s := by
  apply ByteArray.ext; apply Array.ext'
  rw [app_list]; simp
set_option maxRecDepth 1000000 in
theorem mzeros_any (n : Int) (w : World) (hn : n ≤ 100000) :
    Calls Tryz.prog 33 #[.int .i64 n] w fun e w' => e = .returned (.string (run 48 n.toNat)) ∧ w' = w := by
  have HS : Hid (∀ k, (run 48 k) ++ (⟨#[48]⟩ : ByteArray) = run 48 (k + 1)) := fun k => by
    have := run_zero_app k ⟨#[]⟩
    rw [emp_app, emp_app] at this; exact this
  go_enter Tryz.func33, Tryz.ntmps33
  go_wp2
  go_loopg [3, 4] n.toNat (fun g sv iv wr => wr = w ∧ ∃ (k : Nat) (s : ByteArray), sv = .string s ∧ iv = .int .i64 k ∧ k + g = n.toNat ∧ s.size ≤ 100000 ∧ s.size = k ∧ Hid (s = run 48 k))
  case atStart => exact ⟨rfl, 0, ⟨#[]⟩, rfl, rfl, by omega, by decide, rfl, rfl⟩
  case round =>
    obtain ⟨rfl, k, s, rfl, rfl, hkg, hz, hzk, HX⟩ := hrel
    by_cases hk : (k : Int) < n
    · obtain ⟨s2, hs2, HX2⟩ : ∃ s2, s ++ (⟨#[48]⟩ : ByteArray) = s2 ∧ Hid (s2 = run 48 (k + 1)) := ⟨_, rfl, by show _ = _; rw [HX.out, HS.out]⟩
      have hz2 : s2.size = k + 1 := by rw [HX2.out, run_size]
      have hsum : ¬ 9223372036854775807 < s.size + (⟨#[48]⟩ : ByteArray).size := by rw [show (⟨#[48]⟩ : ByteArray).size = 1 from rfl]; omega
      clear HX HS hzk
      go_wp2
      go_roundg (gk - 1)
      case measure => omega
      case rel => exact ⟨rfl, k + 1, s2, rfl, by go_num, by omega, by omega, hz2, HX2⟩
    · have e : k = n.toNat := by omega
      have HX3 : Hid (s = run 48 n.toNat) := by show _ = _; rw [HX.out, e]
      clear HX HS e
      go_wp2
      go_ret
      exact ⟨ret_str HX3.out, rfl⟩
set_option maxRecDepth 1000000 in
theorem mdigits_any (S : ByteArray) (Q n : Int) (w : World) (hS : S.size ≤ 100000) (hn : n ≤ 100000) :
    Calls Tryz.prog 67 #[.agg #[.string S, .int .i64 Q], .int .i64 n] w fun e w' => e = .returned (.string (lnB S n)) ∧ Below w.heap.size w w' := by
  have HS : Hid (∀ k, (S ++ run 48 k) ++ (⟨#[48]⟩ : ByteArray) = S ++ run 48 (k + 1)) := fun k => run_zero_app k S
  have H0 : Hid (S = S ++ run 48 0) := by show _ = _; rw [run_zero]; exact (app_emp S).symm
  have HE : Hid (lnB S n = S ++ run 48 (n - (S.size : Nat)).toNat) := rfl
  generalize lnB S n = R at *
  go_enter Tryz.func67, Tryz.ntmps67
  go_wp2
  go_loopg [5] (n - (S.size : Nat)).toNat (fun g sv wr => wr = w.alloc (.cells #[.string S, .int .i64 Q] 91) ∧ ∃ (k : Nat) (s : ByteArray), sv = .string s ∧ k + g = (n - (S.size : Nat)).toNat ∧ s.size ≤ 200000 ∧ s.size = S.size + k ∧ Hid (s = S ++ run 48 k))
  case atStart => exact ⟨rfl, 0, S, rfl, by omega, by omega, by omega, H0⟩
  case round =>
    obtain ⟨rfl, k, s, rfl, hkg, hz, hzk, HX⟩ := hrel
    by_cases hk : (s.size : Int) < n
    · obtain ⟨s2, hs2, HX2⟩ : ∃ s2, s ++ (⟨#[48]⟩ : ByteArray) = s2 ∧ Hid (s2 = S ++ run 48 (k + 1)) := ⟨_, rfl, by show _ = _; rw [HX.out, HS.out]⟩
      have hz2 : s2.size = S.size + (k + 1) := by rw [HX2.out, app_size, run_size]
      have hsum : ¬ 9223372036854775807 < s.size + (⟨#[48]⟩ : ByteArray).size := by rw [show (⟨#[48]⟩ : ByteArray).size = 1 from rfl]; omega
      have hg1 : k + 1 + (gk - 1) = (n - (S.size : Nat)).toNat ∧ gk - 1 < gk ∧ s2.size ≤ 200000 := by omega
      clear HX HS H0 HE hzk
      go_wp2
      go_roundg (gk - 1)
      case measure => omega
      case rel => exact ⟨rfl, k + 1, s2, rfl, hg1.1, hg1.2.2, hz2, HX2⟩
    · have e : k = (n - (S.size : Nat)).toNat := by omega
      have HX3 : Hid (s = R) := by show _ = _; rw [HE.out, HX.out, e]
      clear HX HS e H0 HE hzk hkg
      go_wp2
      go_ret
      exact ⟨ret_str HX3.out, by go_grown⟩
set_option maxRecDepth 1000000 in
theorem mfirst_any (v : Nat) (w : World) (hp0 : -100000 ≤ oP v) (hp1 : oP v ≤ 100000) :
    Calls Tryz.prog 68 #[.agg #[.string (oS v), .int .i64 (oP v)]] w fun x w' => x = .returned (.int .i64 (pw0 v)) ∧ Below w.heap.size w w' := by
  have hz : (oS v).size = 0 ↔ v = 0 := by
    rw [oS_size, List.length_eq_zero_iff]; exact oL_nil
  unfold pw0
  by_cases h : v = 0
  · have hue : (oS v).toList.isEmpty = true := empty_yes _ (hz.2 h)
    rw [if_pos h]
    clear hz h
    generalize oS v = S at *
    generalize oP v = Q at *
    go_enter Tryz.func68, Tryz.ntmps68
    go_wp2
    go_ret
    exact ⟨rfl, by go_grown⟩
  · have hue : (oS v).toList.isEmpty = false := empty_no _ (by have := mt hz.1 h; omega)
    rw [if_neg h]
    clear hz h
    generalize oS v = S at *
    generalize oP v = Q at *
    go_enter Tryz.func68, Tryz.ntmps68
    go_wp2
    go_ret
    exact ⟨rfl, by go_grown⟩
abbrev EdC (n b : Int) (r : ByteArray) : Prop := ∀ w, Calls Tryz.prog 61 #[.int .u64 n, .int .i64 b] w fun e w' => e = .returned (.string r) ∧ w' = w
abbrev EzC (s : ByteArray) (n : Int) (r : ByteArray) : Prop := ∀ w, Calls Tryz.prog 106 #[.string s, .int .i64 n] w fun e w' => e = .returned (.string r) ∧ w' = w
set_option maxRecDepth 1000000 in
theorem mpower_any (n least : Int) (w : World) (h0 : -1000000 ≤ n) (h1 : n ≤ 1000000) (hl : least ≤ 10) (hl0 : 0 ≤ least) :
    Calls Tryz.prog 62 #[.int .i64 n, .int .i64 least] w fun e w' => e = .returned (.string (sgd n least)) ∧ Below w.heap.size w w' := by
  have hd := digT_size false 10 n.natAbs
  have hD : EdC (n.natAbs : Nat) 10 (digT false 10 n.natAbs) := fun w => edigits_any n.natAbs 10 w (by omega) (.inr (.inr (.inl rfl)))
  have hL : EzC (digT false 10 n.natAbs) least (lenS (digT false 10 n.natAbs) least) := fun w => ezeros_any _ _ w (by omega) (by omega)
  rw [lenS_lnA _ _ (by omega)] at hL
  have hz := lnA_size (digT false 10 n.natAbs) least
  have hz2 : (lnA (digT false 10 n.natAbs) least).size ≤ 100 := by omega
  unfold sgd sx1
  clear hz
  generalize lnA (digT false 10 n.natAbs) least = r at *
  generalize digT false 10 n.natAbs = t at *
  have hs1 : ¬ 9223372036854775807 < (⟨#[45]⟩ : ByteArray).size + r.size := by rw [show (⟨#[45]⟩ : ByteArray).size = 1 from rfl]; omega
  have hs2 : ¬ 9223372036854775807 < (⟨#[43]⟩ : ByteArray).size + r.size := by rw [show (⟨#[43]⟩ : ByteArray).size = 1 from rfl]; omega
  by_cases hn : n < 0
  · have e0 : ((n.natAbs : Nat) : Int) = -n := by omega
    rw [e0] at hD
    rw [if_pos hn]
    obtain ⟨R, hR⟩ : ∃ R, (⟨#[45]⟩ : ByteArray) ++ r = R := ⟨_, rfl⟩
    rw [hR]
    go_enter Tryz.func62, Tryz.ntmps62
    go_wp2_with (first
      | (go_at_call 61; refine (hD _).mono ?_; rintro e w2 ⟨rfl, rfl⟩)
      | (go_at_call 106; refine (hL _).mono ?_; rintro e w3 ⟨rfl, rfl⟩))
    go_ret
    exact ⟨rfl, Below.refl _ _⟩
  · have e0 : ((n.natAbs : Nat) : Int) = n := by omega
    rw [e0] at hD
    rw [if_neg hn]
    obtain ⟨R, hR⟩ : ∃ R, (⟨#[43]⟩ : ByteArray) ++ r = R := ⟨_, rfl⟩
    rw [hR]
    go_enter Tryz.func62, Tryz.ntmps62
    go_wp2_with (first
      | (go_at_call 61; refine (hD _).mono ?_; rintro e w2 ⟨rfl, rfl⟩)
      | (go_at_call 106; refine (hL _).mono ?_; rintro e w3 ⟨rfl, rfl⟩))
    go_ret
    exact ⟨rfl, Below.refl _ _⟩
/-- What stands behind a point, with it. -/
def ptB (sh : Bool) (b : ByteArray) : ByteArray := if b.size = 0 ∧ sh = false then ⟨#[]⟩ else (⟨#[46]⟩ : ByteArray) ++ b
theorem app_assoc3 (a b c : ByteArray) : (a ++ b) ++ c = a ++ (b ++ c) := by
  apply ByteArray.ext; apply Array.ext'
  rw [app_list, app_list, app_list, app_list, List.append_assoc]
theorem ptd_ptB (sh : Bool) (a b : ByteArray) : a ++ ptB sh b = ptd sh a b := by
  unfold ptB ptd
  split
  · exact app_emp a
  · rw [app_assoc3]
theorem ptB_size (sh : Bool) (b : ByteArray) : (ptB sh b).size ≤ b.size + 1 := by
  have : (⟨#[46]⟩ : ByteArray).size = 1 := rfl
  unfold ptB
  split
  · exact Nat.zero_le _
  · rw [app_size]; omega
set_option maxRecDepth 1000000 in
theorem mpoint_any (b : ByteArray) (sh : Bool) (w : World) (hb : b.size ≤ 1000000) :
    Calls Tryz.prog 107 #[.string b, .bool sh] w fun x w' => x = .returned (.string (ptB sh b)) ∧ w' = w := by
  have hs : ¬ 9223372036854775807 < (⟨#[46]⟩ : ByteArray).size + b.size := by rw [show (⟨#[46]⟩ : ByteArray).size = 1 from rfl]; omega
  unfold ptB
  obtain ⟨R, hR⟩ : ∃ R, (⟨#[46]⟩ : ByteArray) ++ b = R := ⟨_, rfl⟩
  by_cases h0 : b.size = 0
  · have hue : b.toList.isEmpty = true := empty_yes b h0
    cases sh with
    | false =>
      rw [if_pos ⟨h0, rfl⟩]
      clear h0
      go_enter Tryz.func107, Tryz.ntmps107
      go_wp2
      go_ret
      exact ⟨rfl, rfl⟩
    | true =>
      rw [if_neg (by simp), hR]
      clear h0
      go_enter Tryz.func107, Tryz.ntmps107
      go_wp2
      go_ret
      exact ⟨rfl, rfl⟩
  · have hue : b.toList.isEmpty = false := empty_no b (by omega)
    rw [if_neg (by omega), hR]
    go_enter Tryz.func107, Tryz.ntmps107
    go_wp2
    go_ret
    exact ⟨rfl, rfl⟩
set_option maxRecDepth 1000000 in
theorem mat_any (S : ByteArray) (Q q : Int) (w : World) (hS : S.size ≤ 100000) (h0 : -100000 ≤ Q) (h1 : Q ≤ 100000) (h2 : -100000 ≤ q) (h3 : q ≤ 100000) :
    Calls Tryz.prog 110 #[.agg #[.string S, .int .i64 Q], .int .i64 q] w fun x w' => x = .returned (.string ⟨#[ch S (Q - 1 - q)]⟩) ∧ Below w.heap.size w w' := by
  by_cases hi : Q - 1 - q < 0
  · rw [ch_out S _ (.inl hi)]
    go_enter Tryz.func110, Tryz.ntmps110
    go_wp2
    go_ret
    exact ⟨rfl, by go_grown⟩
  · by_cases hj : (S.size : Int) ≤ Q - 1 - q
    · rw [ch_out S _ (.inr hj)]
      go_enter Tryz.func110, Tryz.ntmps110
      go_wp2
      go_ret
      exact ⟨rfl, by go_grown⟩
    · obtain ⟨k, hk⟩ := Int.eq_ofNat_of_zero_le (show 0 ≤ Q - 1 - q by omega)
      have hkz : k < S.size := by omega
      have hkI : (k : Int) < S.size := by omega
      have hkI2 : (k : Int) + 1 ≤ S.size := by omega
      have HR : Hid (S.extract k (k + 1) = ⟨#[ch S k]⟩) := by
        show _ = _
        apply ByteArray.ext; apply Array.ext'
        rw [ext_li, ch_in S k hkz, List.take_succ_eq_append_getElem (by rw [list_len]; exact hkz), List.drop_append_of_le_length (by rw [List.length_take, list_len]; omega), List.drop_of_length_le (by rw [List.length_take]; omega)]
        rfl
      rw [hk]
      clear hi hj
      generalize (⟨#[ch S k]⟩ : ByteArray) = R at *
      go_enter Tryz.func110, Tryz.ntmps110
      go_wp2
      go_ret
      exact ⟨ret_str HR.out, by go_grown⟩
end Go.Proofs.YthbabhbfpcfenaaGreatDoor

/- The document's answer for layer 6: scientific, positional, Verb. -/
namespace Go.Proofs.YthbabhbfpcfenaaGreatDoor
open Go.RowKit
set_option linter.unusedVariables false
set_option linter.unusedSimpArgs false

/-- Digits and an exponent behind a mark. -/
def sciM (mk : ByteArray) (sh : Bool) (d : ByteArray) (x : Int) : ByteArray := ((d.extract 0 1 ++ ptB sh (d.extract 1 d.size)) ++ mk) ++ sgd x 2
theorem sciM_e (sh : Bool) (d : ByteArray) (x : Int) : sciM ⟨#[101]⟩ sh d x = sci sh d x := by unfold sciM sci; rw [ptd_ptB]
abbrev MpC (b : ByteArray) (sh : Bool) (r : ByteArray) : Prop := ∀ w, Calls Tryz.prog 107 #[.string b, .bool sh] w fun x w' => x = .returned (.string r) ∧ w' = w
abbrev MwC (n l : Int) (r : ByteArray) : Prop := ∀ w, Calls Tryz.prog 62 #[.int .i64 n, .int .i64 l] w fun e w' => e = .returned (.string r) ∧ Below w.heap.size w w'
set_option maxRecDepth 1000000 in
set_option maxHeartbeats 1000000 in
theorem msci_e {d A B P G R1 R2 R3 : ByteArray} {x verb : Int} {sh : Bool} (hv1 : ¬ verb = 69) (hv2 : ¬ verb = 71) (hd : 1 ≤ d.size) (hA : d.extract 0 1 = A) (hB : d.extract 1 d.size = B) (hP : MpC B sh P) (hG : MwC x 2 G) (h1 : A ++ P = R1) (h2 : R1 ++ (⟨#[101]⟩ : ByteArray) = R2) (h3 : R2 ++ G = R3) (z1 : ¬ 9223372036854775807 < A.size + P.size) (z2 : ¬ 9223372036854775807 < R1.size + (⟨#[101]⟩ : ByteArray).size) (z3 : ¬ 9223372036854775807 < R2.size + G.size) (w : World) :
    Calls Tryz.prog 66 #[.string d, .int .i64 x, .int .i32 verb, .bool sh] w fun x w' => x = .returned (.string R3) ∧ Below w.heap.size w w' := by
  have hdI : (1 : Int) ≤ d.size := by omega
  have b1 : (verb == 69) = false := by simp [hv1]
  have b2 : (verb == 71) = false := by simp [hv2]
  go_enter Tryz.func66, Tryz.ntmps66
  go_wp2
  refine wp_region_above w (Below.refl _ _) (by kernel_rfl) (by kernel_rfl) ?_
  intro hCl
  repeat (go_big_quiet_step ((first | (go_at_call 107; exact Cl.call_same (hP _)) | (go_at_call 62; exact Cl.call (hG _)))))
  refine wpQuiet_nil ?_
  intro _ hw'
  obtain ⟨y, hz⟩ := hw'
  subst hz
  go_wp2
  go_ret
  exact ⟨rfl, y.below⟩
set_option maxRecDepth 1000000 in
set_option maxHeartbeats 1000000 in
theorem msci_E {d A B P G R1 R2 R3 : ByteArray} {x verb : Int} {sh : Bool} (hv : verb = 69 ∨ verb = 71) (hd : 1 ≤ d.size) (hA : d.extract 0 1 = A) (hB : d.extract 1 d.size = B) (hP : MpC B sh P) (hG : MwC x 2 G) (h1 : A ++ P = R1) (h2 : R1 ++ (⟨#[69]⟩ : ByteArray) = R2) (h3 : R2 ++ G = R3) (z1 : ¬ 9223372036854775807 < A.size + P.size) (z2 : ¬ 9223372036854775807 < R1.size + (⟨#[69]⟩ : ByteArray).size) (z3 : ¬ 9223372036854775807 < R2.size + G.size) (w : World) :
    Calls Tryz.prog 66 #[.string d, .int .i64 x, .int .i32 verb, .bool sh] w fun x w' => x = .returned (.string R3) ∧ Below w.heap.size w w' := by
  have hdI : (1 : Int) ≤ d.size := by omega
  rcases hv with rfl | rfl
  all_goals
    go_enter Tryz.func66, Tryz.ntmps66
    go_wp2
    refine wp_region_above w (Below.refl _ _) (by kernel_rfl) (by kernel_rfl) ?_
    intro hCl
    repeat (go_big_quiet_step ((first | (go_at_call 107; exact Cl.call_same (hP _)) | (go_at_call 62; exact Cl.call (hG _)))))
    refine wpQuiet_nil ?_
    intro _ hw'
    obtain ⟨y, hz⟩ := hw'
    subst hz
    go_wp2
    go_ret
    exact ⟨rfl, y.below⟩
def mkE (verb : Int) : ByteArray := if verb = 69 ∨ verb = 71 then ⟨#[69]⟩ else ⟨#[101]⟩
theorem msci_any (d : ByteArray) (x verb : Int) (sh : Bool) (w : World) (hd : 1 ≤ d.size) (hd2 : d.size ≤ 100000) (hx0 : -1000000 ≤ x) (hx1 : x ≤ 1000000) :
    Calls Tryz.prog 66 #[.string d, .int .i64 x, .int .i32 verb, .bool sh] w fun e w' => e = .returned (.string (sciM (mkE verb) sh d x)) ∧ Below w.heap.size w w' := by
  have h4 : (d.extract 0 1).size ≤ 1 := by rw [ByteArray.size_extract]; omega
  have h5 : (d.extract 1 d.size).size ≤ d.size := by rw [ByteArray.size_extract]; omega
  have h6 := ptB_size sh (d.extract 1 d.size)
  have h7 := sgd_size x 2 (by decide)
  have m1 : (⟨#[69]⟩ : ByteArray).size = 1 := rfl
  have m2 : (⟨#[101]⟩ : ByteArray).size = 1 := rfl
  have hP : MpC (d.extract 1 d.size) sh (ptB sh (d.extract 1 d.size)) := fun w => mpoint_any _ sh w (by omega)
  have hG : MwC x 2 (sgd x 2) := fun w => mpower_any x 2 w hx0 hx1 (by decide) (by decide)
  unfold sciM mkE
  by_cases hv : verb = 69 ∨ verb = 71
  · rw [if_pos hv]
    exact msci_E hv hd rfl rfl hP hG rfl rfl rfl (by omega) (by rw [app_size]; omega) (by rw [app_size, app_size]; omega) w
  · rw [if_neg hv]
    exact msci_e (by omega) (by omega) hd rfl rfl hP hG rfl rfl rfl (by omega) (by rw [app_size]; omega) (by rw [app_size, app_size]; omega) w
/-- What positional writes ahead of the point. -/
def ahT (v : Nat) : ByteArray := if pw0 v < 0 then ⟨#[48]⟩ else ⟨(chs (oS v) (oP v - 1 - pw0 v) (pw0 v + 1).toNat).toArray⟩
def bhT (v : Nat) (k : Nat) : ByteArray := ⟨(chs (oS v) (oP v) k).toArray⟩
theorem chs_push (S : ByteArray) (i : Int) (k : Nat) : (⟨(chs S i k).toArray⟩ : ByteArray) ++ ⟨#[ch S (i + k)]⟩ = ⟨(chs S i (k + 1)).toArray⟩ := by
  apply ByteArray.ext; apply Array.ext'
  rw [app_list, chs_succ]
abbrev AtC (S : ByteArray) (Q q : Int) (r : ByteArray) : Prop := ∀ w, Calls Tryz.prog 110 #[.agg #[.string S, .int .i64 Q], .int .i64 q] w fun x w' => x = .returned (.string r) ∧ Below w.heap.size w w'
set_option maxRecDepth 1000000 in
set_option maxHeartbeats 2000000 in
theorem pos_walk {S : ByteArray} {Q X : Int} {pl : Nat} {sh : Bool} {R1 R2 R : ByteArray} (hF : ∀ w, Calls Tryz.prog 68 #[.agg #[.string S, .int .i64 Q]] w fun x w' => x = .returned (.int .i64 X) ∧ Below w.heap.size w w')
    (hAt : ∀ q, -50000 ≤ q → q ≤ 50000 → AtC S Q q ⟨#[ch S (Q - 1 - q)]⟩) (hX : X ≤ 20000) (hX0 : -20000 ≤ X) (hpl : pl ≤ 20000)
    (hR1 : R1 = if X < 0 then ⟨#[48]⟩ else ⟨(chs S (Q - 1 - X) (X + 1).toNat).toArray⟩) (hR2 : Hid (⟨(chs S Q pl).toArray⟩ = R2)) (hP : MpC R2 sh R) (zR : R.size ≤ 100000) (w : World) :
    Calls Tryz.prog 70 #[.agg #[.string S, .int .i64 Q], .int .i64 pl, .bool sh] w fun x w' => x = .returned (.string (R1 ++ R)) ∧ Below w.heap.size w w' := by
  have hbA : Below w.heap.size w (w.alloc (.cells #[.string S, .int .i64 Q] 91)) := (Below.refl _ _).alloc (Nat.le_refl _) _
  have f0 : ∀ x : Cl (w.alloc (.cells #[.string S, .int .i64 Q] 91)), x.w.cell? ⟨w.heap.size, 0, none⟩ = some (.string S) := fun x => x.cell (by simp)
  have f1 : ∀ x : Cl (w.alloc (.cells #[.string S, .int .i64 Q] 91)), x.w.cell? ⟨w.heap.size, 1, none⟩ = some (.int .i64 Q) := fun x => x.cell (by simp)
  have HA : Hid (∀ (i : Int) (k : Nat), (⟨(chs S i k).toArray⟩ : ByteArray) ++ ⟨#[ch S (i + k)]⟩ = ⟨(chs S i (k + 1)).toArray⟩) := chs_push S
  have zR1 : R1.size ≤ 30000 := by
    rw [hR1]
    split
    · decide
    · rw [mk_size, chs_len]; omega
  have HR1 : Hid (R1 = if X < 0 then ⟨#[48]⟩ else ⟨(chs S (Q - 1 - X) (X + 1).toNat).toArray⟩) := hR1
  clear hR1
  have HAt : Hid (∀ q, -50000 ≤ q → q ≤ 50000 → AtC S Q q ⟨#[ch S (Q - 1 - q)]⟩) := hAt
  clear hAt
  obtain ⟨F, hFF⟩ : ∃ F, R1 ++ R = F := ⟨_, rfl⟩
  have zF : ¬ 9223372036854775807 < R1.size + R.size := by omega
  rw [hFF]
  go_enter Tryz.func70, Tryz.ntmps70
  go_wp2_with (go_at_call 68; (with_reducible refine (hF _).mono ?_); rintro x w1 ⟨rfl, hb1⟩; obtain ⟨y1, rfl⟩ := Cl.start hb1)
  go_loopg [7, 9] (X + 1).toNat (fun g av pv wr => ∃ (y : Cl (w.alloc (.cells #[.string S, .int .i64 Q] 91))) (k : Nat) (s : ByteArray), wr = y.w ∧ av = .string s ∧ pv = .int .i64 (X - k) ∧ k + g = (X + 1).toNat ∧ s.size ≤ 30000 ∧ s.size = k ∧ Hid (s = ⟨(chs S (Q - 1 - X) k).toArray⟩))
  case atStart => exact ⟨y1, 0, ⟨#[]⟩, rfl, rfl, by go_num, by omega, by decide, rfl, rfl⟩
  case round =>
    obtain ⟨y, k, s, rfl, rfl, rfl, hkg, hz, hzk, HX⟩ := hrel
    by_cases hk : 0 ≤ X - k
    · have hA := HAt.out (X - k) (by omega) (by omega)
      rw [show Q - 1 - (X - (k : Int)) = Q - 1 - X + k by omega] at hA
      obtain ⟨s2, hs2, HX2⟩ : ∃ s2, s ++ (⟨#[ch S (Q - 1 - X + k)]⟩ : ByteArray) = s2 ∧ Hid (s2 = ⟨(chs S (Q - 1 - X) (k + 1)).toArray⟩) := ⟨_, rfl, by show _ = _; rw [HX.out, HA.out]⟩
      have hz2 : s2.size = k + 1 := by rw [HX2.out, mk_size, chs_len]
      have hsum : ¬ 9223372036854775807 < s.size + (⟨#[ch S (Q - 1 - X + k)]⟩ : ByteArray).size := by rw [show (⟨#[ch S (Q - 1 - X + k)]⟩ : ByteArray).size = 1 from rfl]; omega
      have hg : k + 1 + (gk - 1) = (X + 1).toNat ∧ gk - 1 < gk := by omega
      clear HX HAt HA HR1 hR2 hP hF
      generalize (⟨#[ch S (Q - 1 - X + k)]⟩ : ByteArray) = c1 at *
      go_wp2_with (go_at_call 110; (with_reducible refine (hA _).mono ?_); rintro x w2 ⟨rfl, hb2⟩; obtain ⟨y2, rfl⟩ := Cl.next hb2)
      go_roundg (gk - 1)
      case measure => exact hg.2
      case rel => exact ⟨y2, k + 1, s2, rfl, rfl, by go_num, hg.1, by omega, hz2, HX2⟩
    · have HS : Hid (¬ X < 0 → s = R1) := fun h => by
        rw [HR1.out, if_neg h, HX.out, show k = (X + 1).toNat by omega]
      have hsz : X < 0 ∧ s.size = 0 ∨ ¬ X < 0 ∧ 0 < s.size := by omega
      have HS0 : Hid (X < 0 → R1 = ⟨#[48]⟩) := fun h => by rw [HR1.out, if_pos h]
      clear HX HR1
      rcases hsz with ⟨h1, h2⟩ | ⟨h1, h2⟩
      · have hue : s.toList.isEmpty = true := empty_yes s h2
        have e := HS0.out h1
        clear HS HS0
        subst e
        go_wp2
        go_loopg [8, 10] pl (fun g av pv wr => ∃ (y : Cl (w.alloc (.cells #[.string S, .int .i64 Q] 91))) (k : Nat) (s : ByteArray), wr = y.w ∧ av = .string s ∧ pv = .int .i64 (k + 1) ∧ k + g = pl ∧ s.size ≤ 30000 ∧ s.size = k ∧ Hid (s = ⟨(chs S Q k).toArray⟩))
        case atStart => exact ⟨y, 0, ⟨#[]⟩, rfl, rfl, by go_num, by omega, by decide, rfl, rfl⟩
        case round =>
          obtain ⟨y3, k2, s3, rfl, rfl, rfl, hkg2, hz3, hzk3, HX3⟩ := hrel
          by_cases hk2 : k2 < pl
          · have hkI : (k2 : Int) + 1 ≤ pl := by omega
            have hA := HAt.out (-((k2 : Int) + 1)) (by omega) (by omega)
            rw [show Q - 1 - -((k2 : Int) + 1) = Q + k2 by omega] at hA
            obtain ⟨s2, hs2, HX2⟩ : ∃ s2, s3 ++ (⟨#[ch S (Q + k2)]⟩ : ByteArray) = s2 ∧ Hid (s2 = ⟨(chs S Q (k2 + 1)).toArray⟩) := ⟨_, rfl, by show _ = _; rw [HX3.out, HA.out]⟩
            have hz2 : s2.size = k2 + 1 := by rw [HX2.out, mk_size, chs_len]
            have hsum : ¬ 9223372036854775807 < s3.size + (⟨#[ch S (Q + k2)]⟩ : ByteArray).size := by rw [show (⟨#[ch S (Q + k2)]⟩ : ByteArray).size = 1 from rfl]; omega
            clear HX3 HAt HA hR2 hP hF hue h2
            generalize (⟨#[ch S (Q + k2)]⟩ : ByteArray) = c1 at *
            go_wp2_with (go_at_call 110; (with_reducible refine (hA _).mono ?_); rintro x w2 ⟨rfl, hb2⟩; obtain ⟨y2, rfl⟩ := Cl.next hb2)
            go_roundg (gk - 1)
            case measure => omega
            case rel => exact ⟨y2, k2 + 1, s2, rfl, rfl, by go_num, by omega, by omega, hz2, HX2⟩
          · have hkI : ¬ (k2 : Int) + 1 ≤ pl := by omega
            have e2 : s3 = R2 := by rw [← hR2.out, HX3.out, show k2 = pl by omega]
            clear HX3 HAt HA hR2
            subst e2
            go_wp2_with (go_at_call 107; (with_reducible refine (hP _).mono ?_); rintro x w2 ⟨rfl, rfl⟩)
            go_ret
            exact ⟨rfl, bel_call hbA y3.below (Nat.le_refl _)⟩
      · have hue : s.toList.isEmpty = false := empty_no s h2
        have e := HS.out h1
        clear HS HS0
        subst e
        go_wp2
        go_loopg [8, 10] pl (fun g av pv wr => ∃ (y : Cl (w.alloc (.cells #[.string S, .int .i64 Q] 91))) (k : Nat) (s : ByteArray), wr = y.w ∧ av = .string s ∧ pv = .int .i64 (k + 1) ∧ k + g = pl ∧ s.size ≤ 30000 ∧ s.size = k ∧ Hid (s = ⟨(chs S Q k).toArray⟩))
        case atStart => exact ⟨y, 0, ⟨#[]⟩, rfl, rfl, by go_num, by omega, by decide, rfl, rfl⟩
        case round =>
          obtain ⟨y3, k2, s3, rfl, rfl, rfl, hkg2, hz3, hzk3, HX3⟩ := hrel
          by_cases hk2 : k2 < pl
          · have hkI : (k2 : Int) + 1 ≤ pl := by omega
            have hA := HAt.out (-((k2 : Int) + 1)) (by omega) (by omega)
            rw [show Q - 1 - -((k2 : Int) + 1) = Q + k2 by omega] at hA
            obtain ⟨s2, hs2, HX2⟩ : ∃ s2, s3 ++ (⟨#[ch S (Q + k2)]⟩ : ByteArray) = s2 ∧ Hid (s2 = ⟨(chs S Q (k2 + 1)).toArray⟩) := ⟨_, rfl, by show _ = _; rw [HX3.out, HA.out]⟩
            have hz2 : s2.size = k2 + 1 := by rw [HX2.out, mk_size, chs_len]
            have hsum : ¬ 9223372036854775807 < s3.size + (⟨#[ch S (Q + k2)]⟩ : ByteArray).size := by rw [show (⟨#[ch S (Q + k2)]⟩ : ByteArray).size = 1 from rfl]; omega
            clear HX3 HAt HA hR2 hP hF hue h2
            generalize (⟨#[ch S (Q + k2)]⟩ : ByteArray) = c1 at *
            go_wp2_with (go_at_call 110; (with_reducible refine (hA _).mono ?_); rintro x w2 ⟨rfl, hb2⟩; obtain ⟨y2, rfl⟩ := Cl.next hb2)
            go_roundg (gk - 1)
            case measure => omega
            case rel => exact ⟨y2, k2 + 1, s2, rfl, rfl, by go_num, by omega, by omega, hz2, HX2⟩
          · have hkI : ¬ (k2 : Int) + 1 ≤ pl := by omega
            have e2 : s3 = R2 := by rw [← hR2.out, HX3.out, show k2 = pl by omega]
            clear HX3 HAt HA hR2
            subst e2
            go_wp2_with (go_at_call 107; (with_reducible refine (hP _).mono ?_); rintro x w2 ⟨rfl, rfl⟩)
            go_ret
            exact ⟨rfl, bel_call hbA y3.below (Nat.le_refl _)⟩
theorem mpos_any (v : Nat) (pl : Nat) (sh : Bool) (w : World) (hl : (oL v).length ≤ 10000) (hp : oP v ≤ 10000) (hpl : pl ≤ 20000) :
    Calls Tryz.prog 70 #[.agg #[.string (oS v), .int .i64 (oP v)], .int .i64 pl, .bool sh] w fun x w' => x = .returned (.string (ahT v ++ ptB sh (bhT v pl))) ∧ Below w.heap.size w w' := by
  have hs := oS_size v
  have h0 := oP_lo v
  have hx : -20000 ≤ pw0 v ∧ pw0 v ≤ 10000 := by unfold pw0; split <;> omega
  have hb : (bhT v pl).size = pl := by unfold bhT; rw [mk_size, chs_len]
  have hz := ptB_size sh (bhT v pl)
  exact pos_walk (fun w => mfirst_any v w (by omega) (by omega)) (fun q q0 q1 w => mat_any _ _ q w (by omega) (by omega) (by omega) (by omega) (by omega)) (by omega) (by omega) hpl rfl (by show _ = _; rfl) (fun w => mpoint_any _ sh w (by omega)) (by omega) w
/-- It is what the program writes. -/
theorem ahT_is (v : Nat) : ahT v = arA (oS v) (oP v) := by
  unfold ahT
  by_cases h : v = 0
  · subst h
    have e : pw0 0 = 0 := by simp [pw0]
    rw [e, o_zero.2, zero_S]
    decide
  · have e : pw0 v = oP v - 1 := by unfold pw0; rw [if_neg h]
    rw [e]
    by_cases hp : oP v - 1 < 0
    · rw [if_pos hp]; unfold arA; rw [if_pos (by omega)]
    · rw [if_neg hp]
      apply ByteArray.ext; apply Array.ext'
      rw [arA_chs _ _ (by omega)]
      show chs _ _ _ = _
      congr 1 <;> omega
theorem bhT_is {v : Nat} {k : Int} (hk : 0 ≤ k) (h : ((oL v).length : Int) - oP v ≤ k) : bhT v k.toNat = lnB (arB (oS v) (oP v)) k := by
  apply ByteArray.ext; apply Array.ext'
  rw [arBn_chs _ _ _ (by rw [oS_size]; exact h) hk]
  rfl
end Go.Proofs.YthbabhbfpcfenaaGreatDoor
