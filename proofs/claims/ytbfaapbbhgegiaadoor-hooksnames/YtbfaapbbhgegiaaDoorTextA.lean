/- The walk of Text, by every verb. -/
import Derived.Test.YtbfaapbbhgegiaaDoorQuoted
import Derived.Test.YtbfaapbbhgegiaaDoorQReg
namespace Go.Proofs.YtbfaapbbhgegiaaDoor
open Go.RowKit
set_option linter.unusedVariables false

set_option maxRecDepth 1000000 in
set_option maxHeartbeats 2000000 in
theorem text_s0 (s : ByteArray) (p mi sp z : Bool) (wid prec : Int) (w : World) (hE : Esc w) (hs : s.size ≤ 9000) (hpr : prec ≤ 9223372036854775807) :
    Calls Tryd.prog 40 #[.string s, .agg #[.bool p, .bool mi, .bool false, .bool sp, .bool z, .int .i64 wid, .int .i64 prec, .int .i32 115]] w fun e w' => e = .returned (.tuple #[.string (padS (cutS s (min prec 1000)) mi z wid), .bool true]) ∧ Below w.heap.size w w' := by
  have hbA : Below w.heap.size w (w.alloc (.cells #[.bool p, .bool mi, .bool false, .bool sp, .bool z, .int .i64 wid, .int .i64 prec, .int .i32 115] 52)) := (Below.refl _ _).alloc (Nat.le_refl _) _
  have f0 : ∀ x : Cl (w.alloc (.cells #[.bool p, .bool mi, .bool false, .bool sp, .bool z, .int .i64 wid, .int .i64 prec, .int .i32 115] 52)), x.w.cell? ⟨w.heap.size, 0, none⟩ = some (.bool p) := fun x => x.cell (by simp)
  have f1 : ∀ x : Cl (w.alloc (.cells #[.bool p, .bool mi, .bool false, .bool sp, .bool z, .int .i64 wid, .int .i64 prec, .int .i32 115] 52)), x.w.cell? ⟨w.heap.size, 1, none⟩ = some (.bool mi) := fun x => x.cell (by simp)
  have f2 : ∀ x : Cl (w.alloc (.cells #[.bool p, .bool mi, .bool false, .bool sp, .bool z, .int .i64 wid, .int .i64 prec, .int .i32 115] 52)), x.w.cell? ⟨w.heap.size, 2, none⟩ = some (.bool false) := fun x => x.cell (by simp)
  have f3 : ∀ x : Cl (w.alloc (.cells #[.bool p, .bool mi, .bool false, .bool sp, .bool z, .int .i64 wid, .int .i64 prec, .int .i32 115] 52)), x.w.cell? ⟨w.heap.size, 3, none⟩ = some (.bool sp) := fun x => x.cell (by simp)
  have f4 : ∀ x : Cl (w.alloc (.cells #[.bool p, .bool mi, .bool false, .bool sp, .bool z, .int .i64 wid, .int .i64 prec, .int .i32 115] 52)), x.w.cell? ⟨w.heap.size, 4, none⟩ = some (.bool z) := fun x => x.cell (by simp)
  have f5 : ∀ x : Cl (w.alloc (.cells #[.bool p, .bool mi, .bool false, .bool sp, .bool z, .int .i64 wid, .int .i64 prec, .int .i32 115] 52)), x.w.cell? ⟨w.heap.size, 5, none⟩ = some (.int .i64 wid) := fun x => x.cell (by simp)
  have f6 : ∀ x : Cl (w.alloc (.cells #[.bool p, .bool mi, .bool false, .bool sp, .bool z, .int .i64 wid, .int .i64 prec, .int .i32 115] 52)), x.w.cell? ⟨w.heap.size, 6, none⟩ = some (.int .i64 prec) := fun x => x.cell (by simp)
  have f7 : ∀ x : Cl (w.alloc (.cells #[.bool p, .bool mi, .bool false, .bool sp, .bool z, .int .i64 wid, .int .i64 prec, .int .i32 115] 52)), x.w.cell? ⟨w.heap.size, 7, none⟩ = some (.int .i32 115) := fun x => x.cell (by simp)
  have hE1 : ∀ x : Cl (w.alloc (.cells #[.bool p, .bool mi, .bool false, .bool sp, .bool z, .int .i64 wid, .int .i64 prec, .int .i32 115] 52)), Esc x.w := fun x => (hE.below hbA).below x.below
  have hP := prec_any p mi false sp z wid prec 115
  have hcs := (cut_facts s (min prec 1000)).1
  have hC : ∀ w, Calls Tryd.prog 55 #[.string s, .int .i64 (min prec 1000)] w fun e w' => e = .returned (.string (cutS s (min prec 1000))) ∧ Below w.heap.size w w' := fun w => cut_any s _ w (by unfold maxLen; omega) (by omega)
  have hPd : ∀ w, Calls Tryd.prog 53 #[.string (cutS s (min prec 1000)), .agg #[.bool p, .bool mi, .bool false, .bool sp, .bool z, .int .i64 wid, .int .i64 prec, .int .i32 115]] w fun e w' => e = .returned (.string (padS (cutS s (min prec 1000)) mi z wid)) ∧ Below w.heap.size w w' := fun w => pad_any _ p mi false sp z wid prec 115 w (by omega)
  clear hcs
  generalize padS (cutS s (min prec 1000)) mi z wid = rr at *
  generalize cutS s (min prec 1000) = r at *
  generalize min prec 1000 = q at *
  go_enter Tryd.func40, Tryd.ntmps40
  go_wp2
  refine wp_region_above (w.alloc (.cells #[.bool p, .bool mi, .bool false, .bool sp, .bool z, .int .i64 wid, .int .i64 prec, .int .i32 115] 52)) (Below.refl _ _) (by kernel_rfl) (by kernel_rfl) ?_
  intro hCl
  repeat (go_big_quiet_step ((first | (go_at_call 56; exact Cl.call (hP _)) | (go_at_call 55; exact Cl.call (hC _)) | (go_at_call 53; exact Cl.call (hPd _)))))
  refine wpQuiet_nil ?_
  intro _ hw'
  obtain ⟨x, hx⟩ := hw'
  subst hx
  go_wp2
  go_ret2
  exact ⟨rfl, hbA.trans (x.below.mono hbA.size)⟩

set_option maxRecDepth 1000000 in
set_option maxHeartbeats 2000000 in
theorem text_s1 (s : ByteArray) (p mi sp z : Bool) (wid prec : Int) (w : World) (hE : Esc w) (hs : s.size ≤ 9000) (hpr : prec ≤ 9223372036854775807) :
    Calls Tryd.prog 40 #[.string s, .agg #[.bool p, .bool mi, .bool true, .bool sp, .bool z, .int .i64 wid, .int .i64 prec, .int .i32 115]] w fun e w' => e = .returned (.tuple #[.string (padS (cutS s (min prec 1000)) mi z wid), .bool true]) ∧ Below w.heap.size w w' := by
  have hbA : Below w.heap.size w (w.alloc (.cells #[.bool p, .bool mi, .bool true, .bool sp, .bool z, .int .i64 wid, .int .i64 prec, .int .i32 115] 52)) := (Below.refl _ _).alloc (Nat.le_refl _) _
  have f0 : ∀ x : Cl (w.alloc (.cells #[.bool p, .bool mi, .bool true, .bool sp, .bool z, .int .i64 wid, .int .i64 prec, .int .i32 115] 52)), x.w.cell? ⟨w.heap.size, 0, none⟩ = some (.bool p) := fun x => x.cell (by simp)
  have f1 : ∀ x : Cl (w.alloc (.cells #[.bool p, .bool mi, .bool true, .bool sp, .bool z, .int .i64 wid, .int .i64 prec, .int .i32 115] 52)), x.w.cell? ⟨w.heap.size, 1, none⟩ = some (.bool mi) := fun x => x.cell (by simp)
  have f2 : ∀ x : Cl (w.alloc (.cells #[.bool p, .bool mi, .bool true, .bool sp, .bool z, .int .i64 wid, .int .i64 prec, .int .i32 115] 52)), x.w.cell? ⟨w.heap.size, 2, none⟩ = some (.bool true) := fun x => x.cell (by simp)
  have f3 : ∀ x : Cl (w.alloc (.cells #[.bool p, .bool mi, .bool true, .bool sp, .bool z, .int .i64 wid, .int .i64 prec, .int .i32 115] 52)), x.w.cell? ⟨w.heap.size, 3, none⟩ = some (.bool sp) := fun x => x.cell (by simp)
  have f4 : ∀ x : Cl (w.alloc (.cells #[.bool p, .bool mi, .bool true, .bool sp, .bool z, .int .i64 wid, .int .i64 prec, .int .i32 115] 52)), x.w.cell? ⟨w.heap.size, 4, none⟩ = some (.bool z) := fun x => x.cell (by simp)
  have f5 : ∀ x : Cl (w.alloc (.cells #[.bool p, .bool mi, .bool true, .bool sp, .bool z, .int .i64 wid, .int .i64 prec, .int .i32 115] 52)), x.w.cell? ⟨w.heap.size, 5, none⟩ = some (.int .i64 wid) := fun x => x.cell (by simp)
  have f6 : ∀ x : Cl (w.alloc (.cells #[.bool p, .bool mi, .bool true, .bool sp, .bool z, .int .i64 wid, .int .i64 prec, .int .i32 115] 52)), x.w.cell? ⟨w.heap.size, 6, none⟩ = some (.int .i64 prec) := fun x => x.cell (by simp)
  have f7 : ∀ x : Cl (w.alloc (.cells #[.bool p, .bool mi, .bool true, .bool sp, .bool z, .int .i64 wid, .int .i64 prec, .int .i32 115] 52)), x.w.cell? ⟨w.heap.size, 7, none⟩ = some (.int .i32 115) := fun x => x.cell (by simp)
  have hE1 : ∀ x : Cl (w.alloc (.cells #[.bool p, .bool mi, .bool true, .bool sp, .bool z, .int .i64 wid, .int .i64 prec, .int .i32 115] 52)), Esc x.w := fun x => (hE.below hbA).below x.below
  have hP := prec_any p mi true sp z wid prec 115
  have hcs := (cut_facts s (min prec 1000)).1
  have hC : ∀ w, Calls Tryd.prog 55 #[.string s, .int .i64 (min prec 1000)] w fun e w' => e = .returned (.string (cutS s (min prec 1000))) ∧ Below w.heap.size w w' := fun w => cut_any s _ w (by unfold maxLen; omega) (by omega)
  have hPd : ∀ w, Calls Tryd.prog 53 #[.string (cutS s (min prec 1000)), .agg #[.bool p, .bool mi, .bool true, .bool sp, .bool z, .int .i64 wid, .int .i64 prec, .int .i32 115]] w fun e w' => e = .returned (.string (padS (cutS s (min prec 1000)) mi z wid)) ∧ Below w.heap.size w w' := fun w => pad_any _ p mi true sp z wid prec 115 w (by omega)
  clear hcs
  generalize padS (cutS s (min prec 1000)) mi z wid = rr at *
  generalize cutS s (min prec 1000) = r at *
  generalize min prec 1000 = q at *
  go_enter Tryd.func40, Tryd.ntmps40
  go_wp2
  refine wp_region_above (w.alloc (.cells #[.bool p, .bool mi, .bool true, .bool sp, .bool z, .int .i64 wid, .int .i64 prec, .int .i32 115] 52)) (Below.refl _ _) (by kernel_rfl) (by kernel_rfl) ?_
  intro hCl
  repeat (go_big_quiet_step ((first | (go_at_call 56; exact Cl.call (hP _)) | (go_at_call 55; exact Cl.call (hC _)) | (go_at_call 53; exact Cl.call (hPd _)))))
  refine wpQuiet_nil ?_
  intro _ hw'
  obtain ⟨x, hx⟩ := hw'
  subst hx
  go_wp2
  go_ret2
  exact ⟨rfl, hbA.trans (x.below.mono hbA.size)⟩

set_option maxRecDepth 1000000 in
set_option maxHeartbeats 2000000 in
theorem text_v0 (s : ByteArray) (p mi sp z : Bool) (wid prec : Int) (w : World) (hE : Esc w) (hs : s.size ≤ 9000) (hpr : prec ≤ 9223372036854775807) :
    Calls Tryd.prog 40 #[.string s, .agg #[.bool p, .bool mi, .bool false, .bool sp, .bool z, .int .i64 wid, .int .i64 prec, .int .i32 118]] w fun e w' => e = .returned (.tuple #[.string (padS (cutS s (min prec 1000)) mi z wid), .bool true]) ∧ Below w.heap.size w w' := by
  have hbA : Below w.heap.size w (w.alloc (.cells #[.bool p, .bool mi, .bool false, .bool sp, .bool z, .int .i64 wid, .int .i64 prec, .int .i32 118] 52)) := (Below.refl _ _).alloc (Nat.le_refl _) _
  have f0 : ∀ x : Cl (w.alloc (.cells #[.bool p, .bool mi, .bool false, .bool sp, .bool z, .int .i64 wid, .int .i64 prec, .int .i32 118] 52)), x.w.cell? ⟨w.heap.size, 0, none⟩ = some (.bool p) := fun x => x.cell (by simp)
  have f1 : ∀ x : Cl (w.alloc (.cells #[.bool p, .bool mi, .bool false, .bool sp, .bool z, .int .i64 wid, .int .i64 prec, .int .i32 118] 52)), x.w.cell? ⟨w.heap.size, 1, none⟩ = some (.bool mi) := fun x => x.cell (by simp)
  have f2 : ∀ x : Cl (w.alloc (.cells #[.bool p, .bool mi, .bool false, .bool sp, .bool z, .int .i64 wid, .int .i64 prec, .int .i32 118] 52)), x.w.cell? ⟨w.heap.size, 2, none⟩ = some (.bool false) := fun x => x.cell (by simp)
  have f3 : ∀ x : Cl (w.alloc (.cells #[.bool p, .bool mi, .bool false, .bool sp, .bool z, .int .i64 wid, .int .i64 prec, .int .i32 118] 52)), x.w.cell? ⟨w.heap.size, 3, none⟩ = some (.bool sp) := fun x => x.cell (by simp)
  have f4 : ∀ x : Cl (w.alloc (.cells #[.bool p, .bool mi, .bool false, .bool sp, .bool z, .int .i64 wid, .int .i64 prec, .int .i32 118] 52)), x.w.cell? ⟨w.heap.size, 4, none⟩ = some (.bool z) := fun x => x.cell (by simp)
  have f5 : ∀ x : Cl (w.alloc (.cells #[.bool p, .bool mi, .bool false, .bool sp, .bool z, .int .i64 wid, .int .i64 prec, .int .i32 118] 52)), x.w.cell? ⟨w.heap.size, 5, none⟩ = some (.int .i64 wid) := fun x => x.cell (by simp)
  have f6 : ∀ x : Cl (w.alloc (.cells #[.bool p, .bool mi, .bool false, .bool sp, .bool z, .int .i64 wid, .int .i64 prec, .int .i32 118] 52)), x.w.cell? ⟨w.heap.size, 6, none⟩ = some (.int .i64 prec) := fun x => x.cell (by simp)
  have f7 : ∀ x : Cl (w.alloc (.cells #[.bool p, .bool mi, .bool false, .bool sp, .bool z, .int .i64 wid, .int .i64 prec, .int .i32 118] 52)), x.w.cell? ⟨w.heap.size, 7, none⟩ = some (.int .i32 118) := fun x => x.cell (by simp)
  have hE1 : ∀ x : Cl (w.alloc (.cells #[.bool p, .bool mi, .bool false, .bool sp, .bool z, .int .i64 wid, .int .i64 prec, .int .i32 118] 52)), Esc x.w := fun x => (hE.below hbA).below x.below
  have hP := prec_any p mi false sp z wid prec 118
  have hcs := (cut_facts s (min prec 1000)).1
  have hC : ∀ w, Calls Tryd.prog 55 #[.string s, .int .i64 (min prec 1000)] w fun e w' => e = .returned (.string (cutS s (min prec 1000))) ∧ Below w.heap.size w w' := fun w => cut_any s _ w (by unfold maxLen; omega) (by omega)
  have hPd : ∀ w, Calls Tryd.prog 53 #[.string (cutS s (min prec 1000)), .agg #[.bool p, .bool mi, .bool false, .bool sp, .bool z, .int .i64 wid, .int .i64 prec, .int .i32 118]] w fun e w' => e = .returned (.string (padS (cutS s (min prec 1000)) mi z wid)) ∧ Below w.heap.size w w' := fun w => pad_any _ p mi false sp z wid prec 118 w (by omega)
  clear hcs
  generalize padS (cutS s (min prec 1000)) mi z wid = rr at *
  generalize cutS s (min prec 1000) = r at *
  generalize min prec 1000 = q at *
  go_enter Tryd.func40, Tryd.ntmps40
  go_wp2
  refine wp_region_above (w.alloc (.cells #[.bool p, .bool mi, .bool false, .bool sp, .bool z, .int .i64 wid, .int .i64 prec, .int .i32 118] 52)) (Below.refl _ _) (by kernel_rfl) (by kernel_rfl) ?_
  intro hCl
  repeat (go_big_quiet_step ((first | (go_at_call 56; exact Cl.call (hP _)) | (go_at_call 55; exact Cl.call (hC _)) | (go_at_call 53; exact Cl.call (hPd _)))))
  refine wpQuiet_nil ?_
  intro _ hw'
  obtain ⟨x, hx⟩ := hw'
  subst hx
  go_wp2
  go_ret2
  exact ⟨rfl, hbA.trans (x.below.mono hbA.size)⟩

set_option maxRecDepth 1000000 in
set_option maxHeartbeats 2000000 in
theorem text_v1 (s : ByteArray) (p mi sp z : Bool) (wid prec : Int) (w : World) (hE : Esc w) (hs : s.size ≤ 9000) (hpr : prec ≤ 9223372036854775807) :
    Calls Tryd.prog 40 #[.string s, .agg #[.bool p, .bool mi, .bool true, .bool sp, .bool z, .int .i64 wid, .int .i64 prec, .int .i32 118]] w fun e w' => e = .returned (.tuple #[.string (padS (quoS s false) mi z wid), .bool true]) ∧ Below w.heap.size w w' := by
  have hbA : Below w.heap.size w (w.alloc (.cells #[.bool p, .bool mi, .bool true, .bool sp, .bool z, .int .i64 wid, .int .i64 prec, .int .i32 118] 52)) := (Below.refl _ _).alloc (Nat.le_refl _) _
  have f0 : ∀ x : Cl (w.alloc (.cells #[.bool p, .bool mi, .bool true, .bool sp, .bool z, .int .i64 wid, .int .i64 prec, .int .i32 118] 52)), x.w.cell? ⟨w.heap.size, 0, none⟩ = some (.bool p) := fun x => x.cell (by simp)
  have f1 : ∀ x : Cl (w.alloc (.cells #[.bool p, .bool mi, .bool true, .bool sp, .bool z, .int .i64 wid, .int .i64 prec, .int .i32 118] 52)), x.w.cell? ⟨w.heap.size, 1, none⟩ = some (.bool mi) := fun x => x.cell (by simp)
  have f2 : ∀ x : Cl (w.alloc (.cells #[.bool p, .bool mi, .bool true, .bool sp, .bool z, .int .i64 wid, .int .i64 prec, .int .i32 118] 52)), x.w.cell? ⟨w.heap.size, 2, none⟩ = some (.bool true) := fun x => x.cell (by simp)
  have f3 : ∀ x : Cl (w.alloc (.cells #[.bool p, .bool mi, .bool true, .bool sp, .bool z, .int .i64 wid, .int .i64 prec, .int .i32 118] 52)), x.w.cell? ⟨w.heap.size, 3, none⟩ = some (.bool sp) := fun x => x.cell (by simp)
  have f4 : ∀ x : Cl (w.alloc (.cells #[.bool p, .bool mi, .bool true, .bool sp, .bool z, .int .i64 wid, .int .i64 prec, .int .i32 118] 52)), x.w.cell? ⟨w.heap.size, 4, none⟩ = some (.bool z) := fun x => x.cell (by simp)
  have f5 : ∀ x : Cl (w.alloc (.cells #[.bool p, .bool mi, .bool true, .bool sp, .bool z, .int .i64 wid, .int .i64 prec, .int .i32 118] 52)), x.w.cell? ⟨w.heap.size, 5, none⟩ = some (.int .i64 wid) := fun x => x.cell (by simp)
  have f6 : ∀ x : Cl (w.alloc (.cells #[.bool p, .bool mi, .bool true, .bool sp, .bool z, .int .i64 wid, .int .i64 prec, .int .i32 118] 52)), x.w.cell? ⟨w.heap.size, 6, none⟩ = some (.int .i64 prec) := fun x => x.cell (by simp)
  have f7 : ∀ x : Cl (w.alloc (.cells #[.bool p, .bool mi, .bool true, .bool sp, .bool z, .int .i64 wid, .int .i64 prec, .int .i32 118] 52)), x.w.cell? ⟨w.heap.size, 7, none⟩ = some (.int .i32 118) := fun x => x.cell (by simp)
  have hE1 : ∀ x : Cl (w.alloc (.cells #[.bool p, .bool mi, .bool true, .bool sp, .bool z, .int .i64 wid, .int .i64 prec, .int .i32 118] 52)), Esc x.w := fun x => (hE.below hbA).below x.below
  have hqs := quoS_size s false
  have hQ : ∀ w, Esc w → Calls Tryd.prog 54 #[.string s, .bool false] w fun e w' => e = .returned (.string (quoS s false)) ∧ Below w.heap.size w w' := fun w hE => quote_any s false w hE (by omega)
  have hPd : ∀ w, Calls Tryd.prog 53 #[.string (quoS s false), .agg #[.bool p, .bool mi, .bool true, .bool sp, .bool z, .int .i64 wid, .int .i64 prec, .int .i32 118]] w fun e w' => e = .returned (.string (padS (quoS s false) mi z wid)) ∧ Below w.heap.size w w' := fun w => pad_any _ p mi true sp z wid prec 118 w (by omega)
  clear hqs
  generalize padS (quoS s false) mi z wid = rr at *
  generalize quoS s false = r at *
  go_enter Tryd.func40, Tryd.ntmps40
  go_wp2
  refine wp_region_above (w.alloc (.cells #[.bool p, .bool mi, .bool true, .bool sp, .bool z, .int .i64 wid, .int .i64 prec, .int .i32 118] 52)) (Below.refl _ _) (by kernel_rfl) (by kernel_rfl) ?_
  intro hCl
  repeat (go_big_quiet_step ((first | (go_at_call 54; exact Cl.call (hQ _ (hE1 _))) | (go_at_call 53; exact Cl.call (hPd _)))))
  refine wpQuiet_nil ?_
  intro _ hw'
  obtain ⟨x, hx⟩ := hw'
  subst hx
  go_wp2
  go_ret2
  exact ⟨rfl, hbA.trans (x.below.mono hbA.size)⟩

set_option maxRecDepth 1000000 in
set_option maxHeartbeats 2000000 in
theorem text_q (s : ByteArray) (p mi sh sp z : Bool) (wid prec : Int) (w : World) (hE : Esc w) (hs : s.size ≤ 9000) (hpr : prec ≤ 9223372036854775807) :
    Calls Tryd.prog 40 #[.string s, .agg #[.bool p, .bool mi, .bool sh, .bool sp, .bool z, .int .i64 wid, .int .i64 prec, .int .i32 113]] w fun e w' => e = .returned (.tuple #[.string (padS (quotedS (cutS s (min prec 1000)) sh p) mi z wid), .bool true]) ∧ Below w.heap.size w w' := by
  have hbA : Below w.heap.size w (w.alloc (.cells #[.bool p, .bool mi, .bool sh, .bool sp, .bool z, .int .i64 wid, .int .i64 prec, .int .i32 113] 52)) := (Below.refl _ _).alloc (Nat.le_refl _) _
  have f0 : ∀ x : Cl (w.alloc (.cells #[.bool p, .bool mi, .bool sh, .bool sp, .bool z, .int .i64 wid, .int .i64 prec, .int .i32 113] 52)), x.w.cell? ⟨w.heap.size, 0, none⟩ = some (.bool p) := fun x => x.cell (by simp)
  have f1 : ∀ x : Cl (w.alloc (.cells #[.bool p, .bool mi, .bool sh, .bool sp, .bool z, .int .i64 wid, .int .i64 prec, .int .i32 113] 52)), x.w.cell? ⟨w.heap.size, 1, none⟩ = some (.bool mi) := fun x => x.cell (by simp)
  have f2 : ∀ x : Cl (w.alloc (.cells #[.bool p, .bool mi, .bool sh, .bool sp, .bool z, .int .i64 wid, .int .i64 prec, .int .i32 113] 52)), x.w.cell? ⟨w.heap.size, 2, none⟩ = some (.bool sh) := fun x => x.cell (by simp)
  have f3 : ∀ x : Cl (w.alloc (.cells #[.bool p, .bool mi, .bool sh, .bool sp, .bool z, .int .i64 wid, .int .i64 prec, .int .i32 113] 52)), x.w.cell? ⟨w.heap.size, 3, none⟩ = some (.bool sp) := fun x => x.cell (by simp)
  have f4 : ∀ x : Cl (w.alloc (.cells #[.bool p, .bool mi, .bool sh, .bool sp, .bool z, .int .i64 wid, .int .i64 prec, .int .i32 113] 52)), x.w.cell? ⟨w.heap.size, 4, none⟩ = some (.bool z) := fun x => x.cell (by simp)
  have f5 : ∀ x : Cl (w.alloc (.cells #[.bool p, .bool mi, .bool sh, .bool sp, .bool z, .int .i64 wid, .int .i64 prec, .int .i32 113] 52)), x.w.cell? ⟨w.heap.size, 5, none⟩ = some (.int .i64 wid) := fun x => x.cell (by simp)
  have f6 : ∀ x : Cl (w.alloc (.cells #[.bool p, .bool mi, .bool sh, .bool sp, .bool z, .int .i64 wid, .int .i64 prec, .int .i32 113] 52)), x.w.cell? ⟨w.heap.size, 6, none⟩ = some (.int .i64 prec) := fun x => x.cell (by simp)
  have f7 : ∀ x : Cl (w.alloc (.cells #[.bool p, .bool mi, .bool sh, .bool sp, .bool z, .int .i64 wid, .int .i64 prec, .int .i32 113] 52)), x.w.cell? ⟨w.heap.size, 7, none⟩ = some (.int .i32 113) := fun x => x.cell (by simp)
  have hE1 : ∀ x : Cl (w.alloc (.cells #[.bool p, .bool mi, .bool sh, .bool sp, .bool z, .int .i64 wid, .int .i64 prec, .int .i32 113] 52)), Esc x.w := fun x => (hE.below hbA).below x.below
  have hP := prec_any p mi sh sp z wid prec 113
  have hcs := (cut_facts s (min prec 1000)).1
  have hqs := quotedS_size (cutS s (min prec 1000)) sh p
  have hC : ∀ w, Calls Tryd.prog 55 #[.string s, .int .i64 (min prec 1000)] w fun e w' => e = .returned (.string (cutS s (min prec 1000))) ∧ Below w.heap.size w w' := fun w => cut_any s _ w (by unfold maxLen; omega) (by omega)
  have hQ : ∀ w, Esc w → Calls Tryd.prog 57 #[.string (cutS s (min prec 1000)), .agg #[.bool p, .bool mi, .bool sh, .bool sp, .bool z, .int .i64 wid, .int .i64 prec, .int .i32 113]] w fun e w' => e = .returned (.string (quotedS (cutS s (min prec 1000)) sh p)) ∧ Below w.heap.size w w' := fun w hE => quoted_any _ p mi sh sp z wid prec 113 w hE (by omega)
  have hPd : ∀ w, Calls Tryd.prog 53 #[.string (quotedS (cutS s (min prec 1000)) sh p), .agg #[.bool p, .bool mi, .bool sh, .bool sp, .bool z, .int .i64 wid, .int .i64 prec, .int .i32 113]] w fun e w' => e = .returned (.string (padS (quotedS (cutS s (min prec 1000)) sh p) mi z wid)) ∧ Below w.heap.size w w' := fun w => pad_any _ p mi sh sp z wid prec 113 w (by omega)
  clear hcs hqs
  generalize padS (quotedS (cutS s (min prec 1000)) sh p) mi z wid = rr at *
  generalize quotedS (cutS s (min prec 1000)) sh p = r2 at *
  generalize cutS s (min prec 1000) = r at *
  generalize min prec 1000 = q at *
  go_enter Tryd.func40, Tryd.ntmps40
  go_wp2
  refine wp_region_above (w.alloc (.cells #[.bool p, .bool mi, .bool sh, .bool sp, .bool z, .int .i64 wid, .int .i64 prec, .int .i32 113] 52)) (Below.refl _ _) (by kernel_rfl) (by kernel_rfl) ?_
  intro hCl
  repeat (go_big_quiet_step ((first | (go_at_call 56; exact Cl.call (hP _)) | (go_at_call 55; exact Cl.call (hC _)) | (go_at_call 57; exact Cl.call (hQ _ (hE1 _))) | (go_at_call 53; exact Cl.call (hPd _)))))
  refine wpQuiet_nil ?_
  intro _ hw'
  obtain ⟨x, hx⟩ := hw'
  subst hx
  go_wp2
  go_ret2
  exact ⟨rfl, hbA.trans (x.below.mono hbA.size)⟩

set_option maxRecDepth 1000000 in
set_option maxHeartbeats 2000000 in
theorem text_x (s : ByteArray) (p mi sh sp z : Bool) (wid prec : Int) (w : World) (hE : Esc w) (hs : s.size ≤ 9000) (hpr : prec ≤ 9223372036854775807) :
    Calls Tryd.prog 40 #[.string s, .agg #[.bool p, .bool mi, .bool sh, .bool sp, .bool z, .int .i64 wid, .int .i64 prec, .int .i32 120]] w fun e w' => e = .returned (.tuple #[.string (padS (hexS s sh sp false prec) mi z wid), .bool true]) ∧ Below w.heap.size w w' := by
  have hbA : Below w.heap.size w (w.alloc (.cells #[.bool p, .bool mi, .bool sh, .bool sp, .bool z, .int .i64 wid, .int .i64 prec, .int .i32 120] 52)) := (Below.refl _ _).alloc (Nat.le_refl _) _
  have f0 : ∀ x : Cl (w.alloc (.cells #[.bool p, .bool mi, .bool sh, .bool sp, .bool z, .int .i64 wid, .int .i64 prec, .int .i32 120] 52)), x.w.cell? ⟨w.heap.size, 0, none⟩ = some (.bool p) := fun x => x.cell (by simp)
  have f1 : ∀ x : Cl (w.alloc (.cells #[.bool p, .bool mi, .bool sh, .bool sp, .bool z, .int .i64 wid, .int .i64 prec, .int .i32 120] 52)), x.w.cell? ⟨w.heap.size, 1, none⟩ = some (.bool mi) := fun x => x.cell (by simp)
  have f2 : ∀ x : Cl (w.alloc (.cells #[.bool p, .bool mi, .bool sh, .bool sp, .bool z, .int .i64 wid, .int .i64 prec, .int .i32 120] 52)), x.w.cell? ⟨w.heap.size, 2, none⟩ = some (.bool sh) := fun x => x.cell (by simp)
  have f3 : ∀ x : Cl (w.alloc (.cells #[.bool p, .bool mi, .bool sh, .bool sp, .bool z, .int .i64 wid, .int .i64 prec, .int .i32 120] 52)), x.w.cell? ⟨w.heap.size, 3, none⟩ = some (.bool sp) := fun x => x.cell (by simp)
  have f4 : ∀ x : Cl (w.alloc (.cells #[.bool p, .bool mi, .bool sh, .bool sp, .bool z, .int .i64 wid, .int .i64 prec, .int .i32 120] 52)), x.w.cell? ⟨w.heap.size, 4, none⟩ = some (.bool z) := fun x => x.cell (by simp)
  have f5 : ∀ x : Cl (w.alloc (.cells #[.bool p, .bool mi, .bool sh, .bool sp, .bool z, .int .i64 wid, .int .i64 prec, .int .i32 120] 52)), x.w.cell? ⟨w.heap.size, 5, none⟩ = some (.int .i64 wid) := fun x => x.cell (by simp)
  have f6 : ∀ x : Cl (w.alloc (.cells #[.bool p, .bool mi, .bool sh, .bool sp, .bool z, .int .i64 wid, .int .i64 prec, .int .i32 120] 52)), x.w.cell? ⟨w.heap.size, 6, none⟩ = some (.int .i64 prec) := fun x => x.cell (by simp)
  have f7 : ∀ x : Cl (w.alloc (.cells #[.bool p, .bool mi, .bool sh, .bool sp, .bool z, .int .i64 wid, .int .i64 prec, .int .i32 120] 52)), x.w.cell? ⟨w.heap.size, 7, none⟩ = some (.int .i32 120) := fun x => x.cell (by simp)
  have hE1 : ∀ x : Cl (w.alloc (.cells #[.bool p, .bool mi, .bool sh, .bool sp, .bool z, .int .i64 wid, .int .i64 prec, .int .i32 120] 52)), Esc x.w := fun x => (hE.below hbA).below x.below
  have hX : ∀ w, Calls Tryd.prog 58 #[.string s, .agg #[.bool p, .bool mi, .bool sh, .bool sp, .bool z, .int .i64 wid, .int .i64 prec, .int .i32 120]] w fun e w' => e = .returned (.string (padS (hexS s sh sp false prec) mi z wid)) ∧ Below w.heap.size w w' := fun w => hex_any s p mi sh sp z wid prec 120 w (by omega)
  generalize padS (hexS s sh sp false prec) mi z wid = rr at *
  go_enter Tryd.func40, Tryd.ntmps40
  go_wp2_with (go_at_call 58; refine (hX _).mono ?_; rintro e w1 ⟨rfl, hb1⟩)
  go_ret2
  exact ⟨rfl, hbA.trans (hb1.mono hbA.size)⟩

set_option maxRecDepth 1000000 in
set_option maxHeartbeats 2000000 in
theorem text_X (s : ByteArray) (p mi sh sp z : Bool) (wid prec : Int) (w : World) (hE : Esc w) (hs : s.size ≤ 9000) (hpr : prec ≤ 9223372036854775807) :
    Calls Tryd.prog 40 #[.string s, .agg #[.bool p, .bool mi, .bool sh, .bool sp, .bool z, .int .i64 wid, .int .i64 prec, .int .i32 88]] w fun e w' => e = .returned (.tuple #[.string (padS (hexS s sh sp true prec) mi z wid), .bool true]) ∧ Below w.heap.size w w' := by
  have hbA : Below w.heap.size w (w.alloc (.cells #[.bool p, .bool mi, .bool sh, .bool sp, .bool z, .int .i64 wid, .int .i64 prec, .int .i32 88] 52)) := (Below.refl _ _).alloc (Nat.le_refl _) _
  have f0 : ∀ x : Cl (w.alloc (.cells #[.bool p, .bool mi, .bool sh, .bool sp, .bool z, .int .i64 wid, .int .i64 prec, .int .i32 88] 52)), x.w.cell? ⟨w.heap.size, 0, none⟩ = some (.bool p) := fun x => x.cell (by simp)
  have f1 : ∀ x : Cl (w.alloc (.cells #[.bool p, .bool mi, .bool sh, .bool sp, .bool z, .int .i64 wid, .int .i64 prec, .int .i32 88] 52)), x.w.cell? ⟨w.heap.size, 1, none⟩ = some (.bool mi) := fun x => x.cell (by simp)
  have f2 : ∀ x : Cl (w.alloc (.cells #[.bool p, .bool mi, .bool sh, .bool sp, .bool z, .int .i64 wid, .int .i64 prec, .int .i32 88] 52)), x.w.cell? ⟨w.heap.size, 2, none⟩ = some (.bool sh) := fun x => x.cell (by simp)
  have f3 : ∀ x : Cl (w.alloc (.cells #[.bool p, .bool mi, .bool sh, .bool sp, .bool z, .int .i64 wid, .int .i64 prec, .int .i32 88] 52)), x.w.cell? ⟨w.heap.size, 3, none⟩ = some (.bool sp) := fun x => x.cell (by simp)
  have f4 : ∀ x : Cl (w.alloc (.cells #[.bool p, .bool mi, .bool sh, .bool sp, .bool z, .int .i64 wid, .int .i64 prec, .int .i32 88] 52)), x.w.cell? ⟨w.heap.size, 4, none⟩ = some (.bool z) := fun x => x.cell (by simp)
  have f5 : ∀ x : Cl (w.alloc (.cells #[.bool p, .bool mi, .bool sh, .bool sp, .bool z, .int .i64 wid, .int .i64 prec, .int .i32 88] 52)), x.w.cell? ⟨w.heap.size, 5, none⟩ = some (.int .i64 wid) := fun x => x.cell (by simp)
  have f6 : ∀ x : Cl (w.alloc (.cells #[.bool p, .bool mi, .bool sh, .bool sp, .bool z, .int .i64 wid, .int .i64 prec, .int .i32 88] 52)), x.w.cell? ⟨w.heap.size, 6, none⟩ = some (.int .i64 prec) := fun x => x.cell (by simp)
  have f7 : ∀ x : Cl (w.alloc (.cells #[.bool p, .bool mi, .bool sh, .bool sp, .bool z, .int .i64 wid, .int .i64 prec, .int .i32 88] 52)), x.w.cell? ⟨w.heap.size, 7, none⟩ = some (.int .i32 88) := fun x => x.cell (by simp)
  have hE1 : ∀ x : Cl (w.alloc (.cells #[.bool p, .bool mi, .bool sh, .bool sp, .bool z, .int .i64 wid, .int .i64 prec, .int .i32 88] 52)), Esc x.w := fun x => (hE.below hbA).below x.below
  have hX : ∀ w, Calls Tryd.prog 58 #[.string s, .agg #[.bool p, .bool mi, .bool sh, .bool sp, .bool z, .int .i64 wid, .int .i64 prec, .int .i32 88]] w fun e w' => e = .returned (.string (padS (hexS s sh sp true prec) mi z wid)) ∧ Below w.heap.size w w' := fun w => hex_any s p mi sh sp z wid prec 88 w (by omega)
  generalize padS (hexS s sh sp true prec) mi z wid = rr at *
  go_enter Tryd.func40, Tryd.ntmps40
  go_wp2_with (go_at_call 58; refine (hX _).mono ?_; rintro e w1 ⟨rfl, hb1⟩)
  go_ret2
  exact ⟨rfl, hbA.trans (hb1.mono hbA.size)⟩

set_option maxRecDepth 1000000 in
set_option maxHeartbeats 2000000 in
theorem text_no (s : ByteArray) (p mi sh sp z : Bool) (wid prec verb : Int) (w : World) (h1 : ¬ verb = 118) (h2 : ¬ verb = 115) (h3 : ¬ verb = 113) (h4 : ¬ verb = 120) (h5 : ¬ verb = 88) :
    Calls Tryd.prog 40 #[.string s, .agg #[.bool p, .bool mi, .bool sh, .bool sp, .bool z, .int .i64 wid, .int .i64 prec, .int .i32 verb]] w fun e w' => e = .returned (.tuple #[.string ⟨#[]⟩, .bool false]) ∧ Below w.heap.size w w' := by
  go_enter Tryd.func40, Tryd.ntmps40
  go_wp2
  go_ret2
  exact ⟨rfl, (Below.refl _ _).alloc (Nat.le_refl _) _⟩
end Go.Proofs.YtbfaapbbhgegiaaDoor
