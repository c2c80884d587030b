/- The walks of package ints. -/
import Derived.Test.YtdlnmnipnkeabaaGreatDoorPt3
import Derived.Test.YtdlnmnipnkeabaaGreatDoorPt4
import Derived.Test.YtdlnmnipnkeabaaGreatDoorPt1
namespace Go.Proofs.YtdlnmnipnkeabaaGreatDoor
open Go.RowKit
set_option linter.unusedVariables false
set_option maxHeartbeats 400000 in
theorem ilimit_any (n : Int) (w : World) :
  Calls Tryz.prog 274 #[.int .i64 n] w fun e w' => e = .returned (.int .i64 (wdt n : Nat)) ∧ w' = w := by
 go_enter Tryz.func274, Tryz.ntmps274
 go_wp2
 go_ret
 exact ⟨ret_int (wdt_eq n), rfl⟩
set_option maxHeartbeats 400000 in
theorem ipoint_any (bits : Nat) (w : World) (hb : bits < 18446744073709551616) :
  Calls Tryz.prog 244 #[.int .u64 bits] w fun e w' => e = .returned (.int .i32 (ptN bits : Nat)) ∧ w' = w := by
 by_cases h : 1114111 < bits
 ·have h' : (1114111 : Int) < bits := by omega
  go_enter Tryz.func244, Tryz.ntmps244
  go_wp2
  go_ret
  exact ⟨ret_int (by unfold ptN; rw [if_pos h]; rfl), rfl⟩
 ·have h' : ¬ (1114111 : Int) < bits := by omega
  have hw : IntKind.i32.wrap (bits : Int) = bits := by rw [IntKind.wrap_i32]; omega
  go_enter Tryz.func244, Tryz.ntmps244
  go_wp2
  go_ret
  exact ⟨ret_int (by unfold ptN; rw [if_neg h]), rfl⟩
set_option maxRecDepth 1000000 in
set_option maxHeartbeats 1000000 in
theorem ilengthen_any (s : ByteArray) (n : Int) (w : World) (hs : s.size ≤ 100000) (h1 : -100000 ≤ n) (h2 : n ≤ 100000) :
  Calls Tryz.prog 273 #[.string s, .int .i64 n] w fun e w' => e = .returned (.string (lenS s n)) ∧ Below w.heap.size w w' := by
 have hF : ∀ w, Calls Tryz.prog 158 #[.int .u8 48, .int .i64 (n - (s.size : Nat))] w fun e w' => e = .returned (.string (run 48 (wdt (n - (s.size : Nat))))) ∧ Below w.heap.size w w' := fun w => fill_any 48 _ w
 have hk := wdt_le (n - (s.size : Nat))
 have hsum : ¬ 9223372036854775807 < (run 48 (wdt (n - (s.size : Nat)))).size + s.size := by rw [run_size]; omega
 have HL : Hid (run 48 (wdt (n - (s.size : Nat))) ++ s = lenS s n) := rfl
 generalize run 48 (wdt (n - (s.size : Nat))) = t at *
 go_enter Tryz.func273, Tryz.ntmps273
 go_wp2_with (go_at_call 158; refine (hF _).mono ?_; rintro e w1 ⟨rfl, hb1⟩)
 go_ret
 exact ⟨ret_str HL.out, hb1⟩
set_option maxRecDepth 1000000 in
set_option maxHeartbeats 1000000 in
theorem ipad_any (s : ByteArray) (p mi sh sp z : Bool) (wid prec verb : Int) (w : World) (hs : s.size ≤ 1000000) :
  Calls Tryz.prog 246 #[.string s, .agg #[.bool p, .bool mi, .bool sh, .bool sp, .bool z, .int .i64 wid, .int .i64 prec, .int .i32 verb]] w fun e w' => e = .returned (.string (padS s mi false wid)) ∧ Below w.heap.size w w' := by
 have hP : ∀ w, Calls Tryz.prog 129 #[.string s, .agg #[.bool p, .bool mi, .bool sh, .bool sp, .bool false, .int .i64 wid, .int .i64 prec, .int .i32 verb]] w fun e w' => e = .returned (.string (padS s mi false wid)) ∧ Below w.heap.size w w' := fun w => pad_any s p mi sh sp false wid prec verb w hs
 generalize padS s mi false wid = r at *
 have hbA : Below w.heap.size w (w.alloc (.cells #[.bool p, .bool mi, .bool sh, .bool sp, .bool false, .int .i64 wid, .int .i64 prec, .int .i32 verb] 113)) := (Below.refl _ _).alloc (Nat.le_refl _) _
 go_enter Tryz.func246, Tryz.ntmps246
 go_wp2_with (go_at_call 129; refine (hP _).mono ?_; rintro e w1 ⟨rfl, hb1⟩)
 go_ret
 exact ⟨rfl, hbA.trans (hb1.mono hbA.size)⟩
set_option maxRecDepth 1000000 in
set_option maxHeartbeats 1000000 in
theorem isign_any (p mi sh sp z : Bool) (wid prec verb : Int) (w : World) :
  Calls Tryz.prog 208 #[.agg #[.bool p, .bool mi, .bool sh, .bool sp, .bool z, .int .i64 wid, .int .i64 prec, .int .i32 verb]] w fun e w' => e = .returned (.string (signA p sp)) ∧ Below w.heap.size w w' := by
 cases p <;> cases sp
 all_goals
  go_enter Tryz.func208, Tryz.ntmps208
  go_wp2
  go_ret
  exact ⟨rfl, (Below.refl _ _).alloc (Nat.le_refl _) _⟩
set_option maxRecDepth 1000000 in
set_option maxHeartbeats 1000000 in
theorem ibase_any (verb : Int) (w : World) :
  Calls Tryz.prog 248 #[.int .i32 verb] w fun e w' => e = .returned (.int .i64 (baseV verb : Nat)) ∧ w' = w := by
 by_cases h1 : verb = 100
 ·subst h1
  go_enter Tryz.func248, Tryz.ntmps248
  go_wp2
  go_ret
  exact ⟨rfl, rfl⟩
 by_cases h2 : verb = 118
 ·subst h2
  go_enter Tryz.func248, Tryz.ntmps248
  go_wp2
  go_ret
  exact ⟨rfl, rfl⟩
 by_cases h3 : verb = 98
 ·subst h3
  go_enter Tryz.func248, Tryz.ntmps248
  go_wp2
  go_ret
  exact ⟨rfl, rfl⟩
 by_cases h4 : verb = 111
 ·subst h4
  go_enter Tryz.func248, Tryz.ntmps248
  go_wp2
  go_ret
  exact ⟨rfl, rfl⟩
 by_cases h5 : verb = 79
 ·subst h5
  go_enter Tryz.func248, Tryz.ntmps248
  go_wp2
  go_ret
  exact ⟨rfl, rfl⟩
 by_cases h6 : verb = 120
 ·subst h6
  go_enter Tryz.func248, Tryz.ntmps248
  go_wp2
  go_ret
  exact ⟨rfl, rfl⟩
 by_cases h7 : verb = 88
 ·subst h7
  go_enter Tryz.func248, Tryz.ntmps248
  go_wp2
  go_ret
  exact ⟨rfl, rfl⟩
 go_enter Tryz.func248, Tryz.ntmps248
 go_wp2
 go_ret
 exact ⟨ret_int (by simp [baseV, h1, h2, h3, h4, h5, h6, h7]), rfl⟩
set_option maxRecDepth 1000000 in
set_option maxHeartbeats 1000000 in
theorem imark_any (d : ByteArray) (p mi sh sp z : Bool) (wid prec verb : Int) (w : World) (hd : 0 < d.size) :
  Calls Tryz.prog 276 #[.string d, .agg #[.bool p, .bool mi, .bool sh, .bool sp, .bool z, .int .i64 wid, .int .i64 prec, .int .i32 verb]] w fun e w' => e = .returned (.string (markB d sh verb)) ∧ Below w.heap.size w w' := by
 by_cases h1 : verb = 79
 ·subst h1
  go_enter Tryz.func276, Tryz.ntmps276
  go_wp2
  go_ret
  exact ⟨ret_str (by simp [markB]), (Below.refl _ _).alloc (Nat.le_refl _) _⟩
 cases sh with
 | false =>
   go_enter Tryz.func276, Tryz.ntmps276
   go_wp2
   go_ret
   exact ⟨ret_str (by simp [markB, h1]), (Below.refl _ _).alloc (Nat.le_refl _) _⟩
 | true =>
 by_cases h2 : verb = 98
 ·subst h2
  go_enter Tryz.func276, Tryz.ntmps276
  go_wp2
  go_ret
  exact ⟨ret_str (by simp [markB]), (Below.refl _ _).alloc (Nat.le_refl _) _⟩
 by_cases h3 : verb = 111
 ·subst h3
  have hbt := bt_at d 0 hd
  by_cases h0 : bt d 0 = 48
  ·have h0' : ((d[0]'hd).toNat : Int) = 48 := by rw [hbt]; omega
   have hm : markB d true 111 = ⟨#[]⟩ := by simp [markB, h0]
   rw [hm]
   clear hm hbt h0
   go_enter Tryz.func276, Tryz.ntmps276
   go_wp2
   go_ret
   exact ⟨ret_str (by rfl), (Below.refl _ _).alloc (Nat.le_refl _) _⟩
  ·have h0' : ¬ ((d[0]'hd).toNat : Int) = 48 := by rw [hbt]; omega
   have hm : markB d true 111 = ⟨#[48]⟩ := by simp [markB, h0]
   rw [hm]
   clear hm hbt h0
   go_enter Tryz.func276, Tryz.ntmps276
   go_wp2
   go_ret
   exact ⟨ret_str (by rfl), (Below.refl _ _).alloc (Nat.le_refl _) _⟩
 by_cases h4 : verb = 120
 ·subst h4
  go_enter Tryz.func276, Tryz.ntmps276
  go_wp2
  go_ret
  exact ⟨ret_str (by simp [markB]), (Below.refl _ _).alloc (Nat.le_refl _) _⟩
 by_cases h5 : verb = 88
 ·subst h5
  go_enter Tryz.func276, Tryz.ntmps276
  go_wp2
  go_ret
  exact ⟨ret_str (by simp [markB]), (Below.refl _ _).alloc (Nat.le_refl _) _⟩
 go_enter Tryz.func276, Tryz.ntmps276
 go_wp2
 go_ret
 exact ⟨ret_str (by simp [markB, h1, h2, h3, h4, h5]), (Below.refl _ _).alloc (Nat.le_refl _) _⟩
end Go.Proofs.YtdlnmnipnkeabaaGreatDoor
