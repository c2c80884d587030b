/- The walk of the document's Text, by every verb. -/
import Derived.Test.YtnoelbomcogndaaDoorTextA
import Derived.Test.YtnoelbomcogndaaDoorDHexW
import Derived.Test.YtnoelbomcogndaaDoorDQuo
import Derived.Test.YtnoelbomcogndaaDoorRCutB
namespace Go.Proofs.YtnoelbomcogndaaDoor
open Go.RowKit
set_option linter.unusedVariables false

theorem rawT_size (s : ByteArray) : (rawT s).size = s.size + 2 := by
  have h3 : (96 :: (s.data.toList ++ [96])).length = s.size + 2 := by
    rw [List.length_cons, List.length_append, list_len]; rfl
  exact h3

theorem posGo_all (s : ByteArray) : ∀ (k p : Nat), p ≤ s.size → s.size - p ≤ k → posGo s k p = s.size
  | 0, p, h1, h2 => by show p = _; omega
  | k + 1, p, h1, h2 => by
    by_cases hp : p < s.size
    · rw [posGo_step s k p hp]
      have := wid_pos s p
      exact posGo_all s k _ (wid_le s p hp) (by omega)
    · rw [posGo_end s _ p hp]; omega
theorem cut_same (s : ByteArray) (prec : Int) (hs : s.size ≤ 1000) : cutS s (min prec 1000) = cutS s prec := by
  by_cases h : prec ≤ 1000
  · rw [show min prec 1000 = prec by omega]
  · rw [show min prec 1000 = 1000 by omega]
    unfold cutS
    rw [if_neg (by omega), if_neg (by omega), posGo_all s _ 0 (by omega) (by omega), posGo_all s _ 0 (by omega) (by omega)]

set_option maxRecDepth 1000000 in
set_option maxHeartbeats 2000000 in
theorem dtext_s (s : ByteArray) (p mi sh sp z : Bool) (wid prec : Int) (w : World) (hs : s.size ≤ 1000) (hpr : prec ≤ 9223372036854775807) :
    Calls Tryd.prog 16 #[.string s, .agg #[.bool p, .bool mi, .bool sh, .bool sp, .bool z, .int .i64 wid, .int .i64 prec, .int .i32 115]] w fun e w' => e = .returned (.tuple #[.string (padS (cutS s (min prec 1000)) mi z wid), .bool true]) ∧ Below w.heap.size w w' := by
  have hbA : Below w.heap.size w (w.alloc (.cells #[.bool p, .bool mi, .bool sh, .bool sp, .bool z, .int .i64 wid, .int .i64 prec, .int .i32 115] 28)) := (Below.refl _ _).alloc (Nat.le_refl _) _
  have f0 : ∀ x : Cl (w.alloc (.cells #[.bool p, .bool mi, .bool sh, .bool sp, .bool z, .int .i64 wid, .int .i64 prec, .int .i32 115] 28)), x.w.cell? ⟨w.heap.size, 0, none⟩ = some (.bool p) := fun x => x.cell (by simp)
  have f1 : ∀ x : Cl (w.alloc (.cells #[.bool p, .bool mi, .bool sh, .bool sp, .bool z, .int .i64 wid, .int .i64 prec, .int .i32 115] 28)), x.w.cell? ⟨w.heap.size, 1, none⟩ = some (.bool mi) := fun x => x.cell (by simp)
  have f2 : ∀ x : Cl (w.alloc (.cells #[.bool p, .bool mi, .bool sh, .bool sp, .bool z, .int .i64 wid, .int .i64 prec, .int .i32 115] 28)), x.w.cell? ⟨w.heap.size, 2, none⟩ = some (.bool sh) := fun x => x.cell (by simp)
  have f3 : ∀ x : Cl (w.alloc (.cells #[.bool p, .bool mi, .bool sh, .bool sp, .bool z, .int .i64 wid, .int .i64 prec, .int .i32 115] 28)), x.w.cell? ⟨w.heap.size, 3, none⟩ = some (.bool sp) := fun x => x.cell (by simp)
  have f4 : ∀ x : Cl (w.alloc (.cells #[.bool p, .bool mi, .bool sh, .bool sp, .bool z, .int .i64 wid, .int .i64 prec, .int .i32 115] 28)), x.w.cell? ⟨w.heap.size, 4, none⟩ = some (.bool z) := fun x => x.cell (by simp)
  have f5 : ∀ x : Cl (w.alloc (.cells #[.bool p, .bool mi, .bool sh, .bool sp, .bool z, .int .i64 wid, .int .i64 prec, .int .i32 115] 28)), x.w.cell? ⟨w.heap.size, 5, none⟩ = some (.int .i64 wid) := fun x => x.cell (by simp)
  have f6 : ∀ x : Cl (w.alloc (.cells #[.bool p, .bool mi, .bool sh, .bool sp, .bool z, .int .i64 wid, .int .i64 prec, .int .i32 115] 28)), x.w.cell? ⟨w.heap.size, 6, none⟩ = some (.int .i64 prec) := fun x => x.cell (by simp)
  have f7 : ∀ x : Cl (w.alloc (.cells #[.bool p, .bool mi, .bool sh, .bool sp, .bool z, .int .i64 wid, .int .i64 prec, .int .i32 115] 28)), x.w.cell? ⟨w.heap.size, 7, none⟩ = some (.int .i32 115) := fun x => x.cell (by simp)
  have hcs := (cut_facts s prec).1
  have hC : ∀ w, Calls Tryd.prog 38 #[.string s, .int .i64 prec] w fun e w' => e = .returned (.string (cutS s prec)) ∧ Below w.heap.size w w' := fun w => rcut_any s _ w (by unfold maxLen; omega) hpr
  rw [cut_same s prec hs]
  have hPd : ∀ w, Calls Tryd.prog 35 #[.string (cutS s prec), .agg #[.bool p, .bool mi, .bool sh, .bool sp, .bool z, .int .i64 wid, .int .i64 prec, .int .i32 115]] w fun e w' => e = .returned (.string (padS (cutS s prec) mi z wid)) ∧ Below w.heap.size w w' := fun w => rpad_any _ p mi sh sp z wid prec 115 w (by omega)
  clear hcs
  generalize padS (cutS s prec) mi z wid = rr at *
  generalize cutS s prec = r at *
  go_enter Tryd.func16, Tryd.ntmps16
  go_wp2_with (first | (go_at_call 38; (first | refine (Cl.go (hC _)).mono ?_ | refine (Cl.go0 (hC _)).mono ?_); rintro e w9 ⟨y, rfl, rfl⟩) | (go_at_call 35; (first | refine (Cl.go (hPd _)).mono ?_ | refine (Cl.go0 (hPd _)).mono ?_); rintro e w9 ⟨y, rfl, rfl⟩))
  go_ret2
  exact ⟨rfl, hbA.trans (y.below.mono hbA.size)⟩

set_option maxRecDepth 1000000 in
set_option maxHeartbeats 2000000 in
theorem dtext_v0 (s : ByteArray) (p mi sp z : Bool) (wid prec : Int) (w : World) (hs : s.size ≤ 1000) (hpr : prec ≤ 9223372036854775807) :
    Calls Tryd.prog 16 #[.string s, .agg #[.bool p, .bool mi, .bool false, .bool sp, .bool z, .int .i64 wid, .int .i64 prec, .int .i32 118]] w fun e w' => e = .returned (.tuple #[.string (padS (cutS s (min prec 1000)) mi z wid), .bool true]) ∧ Below w.heap.size w w' := by
  have hbA : Below w.heap.size w (w.alloc (.cells #[.bool p, .bool mi, .bool false, .bool sp, .bool z, .int .i64 wid, .int .i64 prec, .int .i32 118] 28)) := (Below.refl _ _).alloc (Nat.le_refl _) _
  have f0 : ∀ x : Cl (w.alloc (.cells #[.bool p, .bool mi, .bool false, .bool sp, .bool z, .int .i64 wid, .int .i64 prec, .int .i32 118] 28)), x.w.cell? ⟨w.heap.size, 0, none⟩ = some (.bool p) := fun x => x.cell (by simp)
  have f1 : ∀ x : Cl (w.alloc (.cells #[.bool p, .bool mi, .bool false, .bool sp, .bool z, .int .i64 wid, .int .i64 prec, .int .i32 118] 28)), x.w.cell? ⟨w.heap.size, 1, none⟩ = some (.bool mi) := fun x => x.cell (by simp)
  have f2 : ∀ x : Cl (w.alloc (.cells #[.bool p, .bool mi, .bool false, .bool sp, .bool z, .int .i64 wid, .int .i64 prec, .int .i32 118] 28)), x.w.cell? ⟨w.heap.size, 2, none⟩ = some (.bool false) := fun x => x.cell (by simp)
  have f3 : ∀ x : Cl (w.alloc (.cells #[.bool p, .bool mi, .bool false, .bool sp, .bool z, .int .i64 wid, .int .i64 prec, .int .i32 118] 28)), x.w.cell? ⟨w.heap.size, 3, none⟩ = some (.bool sp) := fun x => x.cell (by simp)
  have f4 : ∀ x : Cl (w.alloc (.cells #[.bool p, .bool mi, .bool false, .bool sp, .bool z, .int .i64 wid, .int .i64 prec, .int .i32 118] 28)), x.w.cell? ⟨w.heap.size, 4, none⟩ = some (.bool z) := fun x => x.cell (by simp)
  have f5 : ∀ x : Cl (w.alloc (.cells #[.bool p, .bool mi, .bool false, .bool sp, .bool z, .int .i64 wid, .int .i64 prec, .int .i32 118] 28)), x.w.cell? ⟨w.heap.size, 5, none⟩ = some (.int .i64 wid) := fun x => x.cell (by simp)
  have f6 : ∀ x : Cl (w.alloc (.cells #[.bool p, .bool mi, .bool false, .bool sp, .bool z, .int .i64 wid, .int .i64 prec, .int .i32 118] 28)), x.w.cell? ⟨w.heap.size, 6, none⟩ = some (.int .i64 prec) := fun x => x.cell (by simp)
  have f7 : ∀ x : Cl (w.alloc (.cells #[.bool p, .bool mi, .bool false, .bool sp, .bool z, .int .i64 wid, .int .i64 prec, .int .i32 118] 28)), x.w.cell? ⟨w.heap.size, 7, none⟩ = some (.int .i32 118) := fun x => x.cell (by simp)
  have hcs := (cut_facts s prec).1
  have hC : ∀ w, Calls Tryd.prog 38 #[.string s, .int .i64 prec] w fun e w' => e = .returned (.string (cutS s prec)) ∧ Below w.heap.size w w' := fun w => rcut_any s _ w (by unfold maxLen; omega) hpr
  rw [cut_same s prec hs]
  have hPd : ∀ w, Calls Tryd.prog 35 #[.string (cutS s prec), .agg #[.bool p, .bool mi, .bool false, .bool sp, .bool z, .int .i64 wid, .int .i64 prec, .int .i32 118]] w fun e w' => e = .returned (.string (padS (cutS s prec) mi z wid)) ∧ Below w.heap.size w w' := fun w => rpad_any _ p mi false sp z wid prec 118 w (by omega)
  clear hcs
  generalize padS (cutS s prec) mi z wid = rr at *
  generalize cutS s prec = r at *
  go_enter Tryd.func16, Tryd.ntmps16
  go_wp2_with (first | (go_at_call 38; (first | refine (Cl.go (hC _)).mono ?_ | refine (Cl.go0 (hC _)).mono ?_); rintro e w9 ⟨y, rfl, rfl⟩) | (go_at_call 35; (first | refine (Cl.go (hPd _)).mono ?_ | refine (Cl.go0 (hPd _)).mono ?_); rintro e w9 ⟨y, rfl, rfl⟩))
  go_ret2
  exact ⟨rfl, hbA.trans (y.below.mono hbA.size)⟩

set_option maxRecDepth 1000000 in
set_option maxHeartbeats 2000000 in
theorem dtext_v1 (s : ByteArray) (p mi sp z : Bool) (wid prec : Int) (w : World) (hs : s.size ≤ 1000) (hpr : prec ≤ 9223372036854775807) :
    Calls Tryd.prog 16 #[.string s, .agg #[.bool p, .bool mi, .bool true, .bool sp, .bool z, .int .i64 wid, .int .i64 prec, .int .i32 118]] w fun e w' => e = .returned (.tuple #[.string (padS (quoS s false) mi z wid), .bool true]) ∧ Below w.heap.size w w' := by
  have hbA : Below w.heap.size w (w.alloc (.cells #[.bool p, .bool mi, .bool true, .bool sp, .bool z, .int .i64 wid, .int .i64 prec, .int .i32 118] 28)) := (Below.refl _ _).alloc (Nat.le_refl _) _
  have f0 : ∀ x : Cl (w.alloc (.cells #[.bool p, .bool mi, .bool true, .bool sp, .bool z, .int .i64 wid, .int .i64 prec, .int .i32 118] 28)), x.w.cell? ⟨w.heap.size, 0, none⟩ = some (.bool p) := fun x => x.cell (by simp)
  have f1 : ∀ x : Cl (w.alloc (.cells #[.bool p, .bool mi, .bool true, .bool sp, .bool z, .int .i64 wid, .int .i64 prec, .int .i32 118] 28)), x.w.cell? ⟨w.heap.size, 1, none⟩ = some (.bool mi) := fun x => x.cell (by simp)
  have f2 : ∀ x : Cl (w.alloc (.cells #[.bool p, .bool mi, .bool true, .bool sp, .bool z, .int .i64 wid, .int .i64 prec, .int .i32 118] 28)), x.w.cell? ⟨w.heap.size, 2, none⟩ = some (.bool true) := fun x => x.cell (by simp)
  have f3 : ∀ x : Cl (w.alloc (.cells #[.bool p, .bool mi, .bool true, .bool sp, .bool z, .int .i64 wid, .int .i64 prec, .int .i32 118] 28)), x.w.cell? ⟨w.heap.size, 3, none⟩ = some (.bool sp) := fun x => x.cell (by simp)
  have f4 : ∀ x : Cl (w.alloc (.cells #[.bool p, .bool mi, .bool true, .bool sp, .bool z, .int .i64 wid, .int .i64 prec, .int .i32 118] 28)), x.w.cell? ⟨w.heap.size, 4, none⟩ = some (.bool z) := fun x => x.cell (by simp)
  have f5 : ∀ x : Cl (w.alloc (.cells #[.bool p, .bool mi, .bool true, .bool sp, .bool z, .int .i64 wid, .int .i64 prec, .int .i32 118] 28)), x.w.cell? ⟨w.heap.size, 5, none⟩ = some (.int .i64 wid) := fun x => x.cell (by simp)
  have f6 : ∀ x : Cl (w.alloc (.cells #[.bool p, .bool mi, .bool true, .bool sp, .bool z, .int .i64 wid, .int .i64 prec, .int .i32 118] 28)), x.w.cell? ⟨w.heap.size, 6, none⟩ = some (.int .i64 prec) := fun x => x.cell (by simp)
  have f7 : ∀ x : Cl (w.alloc (.cells #[.bool p, .bool mi, .bool true, .bool sp, .bool z, .int .i64 wid, .int .i64 prec, .int .i32 118] 28)), x.w.cell? ⟨w.heap.size, 7, none⟩ = some (.int .i32 118) := fun x => x.cell (by simp)
  have hcs := (cut_facts s prec).1
  have hC : ∀ w, Calls Tryd.prog 38 #[.string s, .int .i64 prec] w fun e w' => e = .returned (.string (cutS s prec)) ∧ Below w.heap.size w w' := fun w => rcut_any s _ w (by unfold maxLen; omega) hpr
  have hqs := quoS_size s false
  have hQ : ∀ w, Calls Tryd.prog 28 #[.string s, .bool false] w fun e w' => e = .returned (.string (quoS s false)) ∧ Below w.heap.size w w' := fun w => dquote_any s false w (by omega)
  have hPd : ∀ w, Calls Tryd.prog 35 #[.string (quoS s false), .agg #[.bool p, .bool mi, .bool true, .bool sp, .bool z, .int .i64 wid, .int .i64 prec, .int .i32 118]] w fun e w' => e = .returned (.string (padS (quoS s false) mi z wid)) ∧ Below w.heap.size w w' := fun w => rpad_any _ p mi true sp z wid prec 118 w (by omega)
  clear hcs hqs
  generalize padS (quoS s false) mi z wid = rr at *
  generalize quoS s false = r2 at *
  generalize cutS s prec = r at *
  go_enter Tryd.func16, Tryd.ntmps16
  go_wp2_with ((go_at_call 38; (first | refine (Cl.go (hC _)).mono ?_ | refine (Cl.go0 (hC _)).mono ?_); rintro e w9 ⟨y, rfl, rfl⟩))
  refine wp_region_above (w.alloc (.cells #[.bool p, .bool mi, .bool true, .bool sp, .bool z, .int .i64 wid, .int .i64 prec, .int .i32 118] 28)) y.below (by kernel_rfl) (by kernel_rfl) ?_
  intro hCl
  repeat (go_big_quiet_step ((first | (go_at_call 28; exact Cl.call (hQ _)) | (go_at_call 35; exact Cl.call (hPd _)))))
  refine wpQuiet_nil ?_
  intro _ hw'
  obtain ⟨y, hx⟩ := hw'
  subst hx
  go_wp2
  go_ret2
  exact ⟨rfl, hbA.trans (y.below.mono hbA.size)⟩

set_option maxRecDepth 1000000 in
set_option maxHeartbeats 2000000 in
theorem dtext_q1 (s : ByteArray) (p mi sp z : Bool) (wid prec : Int) (w : World) (hs : s.size ≤ 1000) (hpr : prec ≤ 9223372036854775807) (hb0 : rawF (cutS s prec) 0 = true) :
    Calls Tryd.prog 16 #[.string s, .agg #[.bool p, .bool mi, .bool true, .bool sp, .bool z, .int .i64 wid, .int .i64 prec, .int .i32 113]] w fun e w' => e = .returned (.tuple #[.string (padS (rawT (cutS s prec)) mi z wid), .bool true]) ∧ Below w.heap.size w w' := by
  have hbA : Below w.heap.size w (w.alloc (.cells #[.bool p, .bool mi, .bool true, .bool sp, .bool z, .int .i64 wid, .int .i64 prec, .int .i32 113] 28)) := (Below.refl _ _).alloc (Nat.le_refl _) _
  have f0 : ∀ x : Cl (w.alloc (.cells #[.bool p, .bool mi, .bool true, .bool sp, .bool z, .int .i64 wid, .int .i64 prec, .int .i32 113] 28)), x.w.cell? ⟨w.heap.size, 0, none⟩ = some (.bool p) := fun x => x.cell (by simp)
  have f1 : ∀ x : Cl (w.alloc (.cells #[.bool p, .bool mi, .bool true, .bool sp, .bool z, .int .i64 wid, .int .i64 prec, .int .i32 113] 28)), x.w.cell? ⟨w.heap.size, 1, none⟩ = some (.bool mi) := fun x => x.cell (by simp)
  have f2 : ∀ x : Cl (w.alloc (.cells #[.bool p, .bool mi, .bool true, .bool sp, .bool z, .int .i64 wid, .int .i64 prec, .int .i32 113] 28)), x.w.cell? ⟨w.heap.size, 2, none⟩ = some (.bool true) := fun x => x.cell (by simp)
  have f3 : ∀ x : Cl (w.alloc (.cells #[.bool p, .bool mi, .bool true, .bool sp, .bool z, .int .i64 wid, .int .i64 prec, .int .i32 113] 28)), x.w.cell? ⟨w.heap.size, 3, none⟩ = some (.bool sp) := fun x => x.cell (by simp)
  have f4 : ∀ x : Cl (w.alloc (.cells #[.bool p, .bool mi, .bool true, .bool sp, .bool z, .int .i64 wid, .int .i64 prec, .int .i32 113] 28)), x.w.cell? ⟨w.heap.size, 4, none⟩ = some (.bool z) := fun x => x.cell (by simp)
  have f5 : ∀ x : Cl (w.alloc (.cells #[.bool p, .bool mi, .bool true, .bool sp, .bool z, .int .i64 wid, .int .i64 prec, .int .i32 113] 28)), x.w.cell? ⟨w.heap.size, 5, none⟩ = some (.int .i64 wid) := fun x => x.cell (by simp)
  have f6 : ∀ x : Cl (w.alloc (.cells #[.bool p, .bool mi, .bool true, .bool sp, .bool z, .int .i64 wid, .int .i64 prec, .int .i32 113] 28)), x.w.cell? ⟨w.heap.size, 6, none⟩ = some (.int .i64 prec) := fun x => x.cell (by simp)
  have f7 : ∀ x : Cl (w.alloc (.cells #[.bool p, .bool mi, .bool true, .bool sp, .bool z, .int .i64 wid, .int .i64 prec, .int .i32 113] 28)), x.w.cell? ⟨w.heap.size, 7, none⟩ = some (.int .i32 113) := fun x => x.cell (by simp)
  have hcs := (cut_facts s prec).1
  have hC : ∀ w, Calls Tryd.prog 38 #[.string s, .int .i64 prec] w fun e w' => e = .returned (.string (cutS s prec)) ∧ Below w.heap.size w w' := fun w => rcut_any s _ w (by unfold maxLen; omega) hpr
  have hR : ∀ w, Calls Tryd.prog 39 #[.string (cutS s prec)] w fun e w' => e = .returned (.tuple #[.string (rawT (cutS s prec)), .bool true]) ∧ Below w.heap.size w w' := fun w => draw_any _ true w (by omega) hb0
  have hrs := rawT_size (cutS s prec)
  have hPd : ∀ w, Calls Tryd.prog 35 #[.string (rawT (cutS s prec)), .agg #[.bool p, .bool mi, .bool true, .bool sp, .bool z, .int .i64 wid, .int .i64 prec, .int .i32 113]] w fun e w' => e = .returned (.string (padS (rawT (cutS s prec)) mi z wid)) ∧ Below w.heap.size w w' := fun w => rpad_any _ p mi true sp z wid prec 113 w (by omega)
  clear hcs hrs hb0
  generalize padS (rawT (cutS s prec)) mi z wid = rr at *
  generalize rawT (cutS s prec) = r2 at *
  generalize cutS s prec = r at *
  go_enter Tryd.func16, Tryd.ntmps16
  go_wp2_with (first | (go_at_call 38; (first | refine (Cl.go (hC _)).mono ?_ | refine (Cl.go0 (hC _)).mono ?_); rintro e w9 ⟨y, rfl, rfl⟩) | (go_at_call 39; (first | refine (Cl.go (hR _)).mono ?_ | refine (Cl.go0 (hR _)).mono ?_); rintro e w9 ⟨y, rfl, rfl⟩) | (go_at_call 35; (first | refine (Cl.go (hPd _)).mono ?_ | refine (Cl.go0 (hPd _)).mono ?_); rintro e w9 ⟨y, rfl, rfl⟩))
  go_ret2
  exact ⟨rfl, hbA.trans (y.below.mono hbA.size)⟩

set_option maxRecDepth 1000000 in
set_option maxHeartbeats 2000000 in
theorem dtext_q2 (s : ByteArray) (p mi sp z : Bool) (wid prec : Int) (w : World) (hs : s.size ≤ 1000) (hpr : prec ≤ 9223372036854775807) (hb0 : rawF (cutS s prec) 0 = false) :
    Calls Tryd.prog 16 #[.string s, .agg #[.bool p, .bool mi, .bool true, .bool sp, .bool z, .int .i64 wid, .int .i64 prec, .int .i32 113]] w fun e w' => e = .returned (.tuple #[.string (padS (quoS (cutS s prec) p) mi z wid), .bool true]) ∧ Below w.heap.size w w' := by
  have hbA : Below w.heap.size w (w.alloc (.cells #[.bool p, .bool mi, .bool true, .bool sp, .bool z, .int .i64 wid, .int .i64 prec, .int .i32 113] 28)) := (Below.refl _ _).alloc (Nat.le_refl _) _
  have f0 : ∀ x : Cl (w.alloc (.cells #[.bool p, .bool mi, .bool true, .bool sp, .bool z, .int .i64 wid, .int .i64 prec, .int .i32 113] 28)), x.w.cell? ⟨w.heap.size, 0, none⟩ = some (.bool p) := fun x => x.cell (by simp)
  have f1 : ∀ x : Cl (w.alloc (.cells #[.bool p, .bool mi, .bool true, .bool sp, .bool z, .int .i64 wid, .int .i64 prec, .int .i32 113] 28)), x.w.cell? ⟨w.heap.size, 1, none⟩ = some (.bool mi) := fun x => x.cell (by simp)
  have f2 : ∀ x : Cl (w.alloc (.cells #[.bool p, .bool mi, .bool true, .bool sp, .bool z, .int .i64 wid, .int .i64 prec, .int .i32 113] 28)), x.w.cell? ⟨w.heap.size, 2, none⟩ = some (.bool true) := fun x => x.cell (by simp)
  have f3 : ∀ x : Cl (w.alloc (.cells #[.bool p, .bool mi, .bool true, .bool sp, .bool z, .int .i64 wid, .int .i64 prec, .int .i32 113] 28)), x.w.cell? ⟨w.heap.size, 3, none⟩ = some (.bool sp) := fun x => x.cell (by simp)
  have f4 : ∀ x : Cl (w.alloc (.cells #[.bool p, .bool mi, .bool true, .bool sp, .bool z, .int .i64 wid, .int .i64 prec, .int .i32 113] 28)), x.w.cell? ⟨w.heap.size, 4, none⟩ = some (.bool z) := fun x => x.cell (by simp)
  have f5 : ∀ x : Cl (w.alloc (.cells #[.bool p, .bool mi, .bool true, .bool sp, .bool z, .int .i64 wid, .int .i64 prec, .int .i32 113] 28)), x.w.cell? ⟨w.heap.size, 5, none⟩ = some (.int .i64 wid) := fun x => x.cell (by simp)
  have f6 : ∀ x : Cl (w.alloc (.cells #[.bool p, .bool mi, .bool true, .bool sp, .bool z, .int .i64 wid, .int .i64 prec, .int .i32 113] 28)), x.w.cell? ⟨w.heap.size, 6, none⟩ = some (.int .i64 prec) := fun x => x.cell (by simp)
  have f7 : ∀ x : Cl (w.alloc (.cells #[.bool p, .bool mi, .bool true, .bool sp, .bool z, .int .i64 wid, .int .i64 prec, .int .i32 113] 28)), x.w.cell? ⟨w.heap.size, 7, none⟩ = some (.int .i32 113) := fun x => x.cell (by simp)
  have hcs := (cut_facts s prec).1
  have hC : ∀ w, Calls Tryd.prog 38 #[.string s, .int .i64 prec] w fun e w' => e = .returned (.string (cutS s prec)) ∧ Below w.heap.size w w' := fun w => rcut_any s _ w (by unfold maxLen; omega) hpr
  have hR : ∀ w, Calls Tryd.prog 39 #[.string (cutS s prec)] w fun e w' => e = .returned (.tuple #[.string (⟨#[]⟩), .bool false]) ∧ Below w.heap.size w w' := fun w => draw_any _ false w (by omega) hb0
  have hQ : ∀ w, Calls Tryd.prog 28 #[.string (cutS s prec), .bool p] w fun e w' => e = .returned (.string (quoS (cutS s prec) p)) ∧ Below w.heap.size w w' := fun w => dquote_any _ p w (by omega)
  have hqs := quoS_size (cutS s prec) p
  have hPd : ∀ w, Calls Tryd.prog 35 #[.string (quoS (cutS s prec) p), .agg #[.bool p, .bool mi, .bool true, .bool sp, .bool z, .int .i64 wid, .int .i64 prec, .int .i32 113]] w fun e w' => e = .returned (.string (padS (quoS (cutS s prec) p) mi z wid)) ∧ Below w.heap.size w w' := fun w => rpad_any _ p mi true sp z wid prec 113 w (by omega)
  clear hcs hqs hb0
  generalize padS (quoS (cutS s prec) p) mi z wid = rr at *
  generalize quoS (cutS s prec) p = r2 at *
  generalize cutS s prec = r at *
  go_enter Tryd.func16, Tryd.ntmps16
  go_wp2_with (first | (go_at_call 38; (first | refine (Cl.go (hC _)).mono ?_ | refine (Cl.go0 (hC _)).mono ?_); rintro e w9 ⟨y, rfl, rfl⟩) | (go_at_call 39; (first | refine (Cl.go (hR _)).mono ?_ | refine (Cl.go0 (hR _)).mono ?_); rintro e w9 ⟨y, rfl, rfl⟩))
  refine wp_region_above (w.alloc (.cells #[.bool p, .bool mi, .bool true, .bool sp, .bool z, .int .i64 wid, .int .i64 prec, .int .i32 113] 28)) y.below (by kernel_rfl) (by kernel_rfl) ?_
  intro hCl
  repeat (go_big_quiet_step ((first | (go_at_call 28; exact Cl.call (hQ _)) | (go_at_call 35; exact Cl.call (hPd _)))))
  refine wpQuiet_nil ?_
  intro _ hw'
  obtain ⟨y, hx⟩ := hw'
  subst hx
  go_wp2
  go_ret2
  exact ⟨rfl, hbA.trans (y.below.mono hbA.size)⟩

set_option maxRecDepth 1000000 in
set_option maxHeartbeats 2000000 in
theorem dtext_q3 (s : ByteArray) (p mi sp z : Bool) (wid prec : Int) (w : World) (hs : s.size ≤ 1000) (hpr : prec ≤ 9223372036854775807) (b : Bool) (hb0 : rawF (cutS s prec) 0 = b) :
    Calls Tryd.prog 16 #[.string s, .agg #[.bool p, .bool mi, .bool false, .bool sp, .bool z, .int .i64 wid, .int .i64 prec, .int .i32 113]] w fun e w' => e = .returned (.tuple #[.string (padS (quoS (cutS s prec) p) mi z wid), .bool true]) ∧ Below w.heap.size w w' := by
  have hbA : Below w.heap.size w (w.alloc (.cells #[.bool p, .bool mi, .bool false, .bool sp, .bool z, .int .i64 wid, .int .i64 prec, .int .i32 113] 28)) := (Below.refl _ _).alloc (Nat.le_refl _) _
  have f0 : ∀ x : Cl (w.alloc (.cells #[.bool p, .bool mi, .bool false, .bool sp, .bool z, .int .i64 wid, .int .i64 prec, .int .i32 113] 28)), x.w.cell? ⟨w.heap.size, 0, none⟩ = some (.bool p) := fun x => x.cell (by simp)
  have f1 : ∀ x : Cl (w.alloc (.cells #[.bool p, .bool mi, .bool false, .bool sp, .bool z, .int .i64 wid, .int .i64 prec, .int .i32 113] 28)), x.w.cell? ⟨w.heap.size, 1, none⟩ = some (.bool mi) := fun x => x.cell (by simp)
  have f2 : ∀ x : Cl (w.alloc (.cells #[.bool p, .bool mi, .bool false, .bool sp, .bool z, .int .i64 wid, .int .i64 prec, .int .i32 113] 28)), x.w.cell? ⟨w.heap.size, 2, none⟩ = some (.bool false) := fun x => x.cell (by simp)
  have f3 : ∀ x : Cl (w.alloc (.cells #[.bool p, .bool mi, .bool false, .bool sp, .bool z, .int .i64 wid, .int .i64 prec, .int .i32 113] 28)), x.w.cell? ⟨w.heap.size, 3, none⟩ = some (.bool sp) := fun x => x.cell (by simp)
  have f4 : ∀ x : Cl (w.alloc (.cells #[.bool p, .bool mi, .bool false, .bool sp, .bool z, .int .i64 wid, .int .i64 prec, .int .i32 113] 28)), x.w.cell? ⟨w.heap.size, 4, none⟩ = some (.bool z) := fun x => x.cell (by simp)
  have f5 : ∀ x : Cl (w.alloc (.cells #[.bool p, .bool mi, .bool false, .bool sp, .bool z, .int .i64 wid, .int .i64 prec, .int .i32 113] 28)), x.w.cell? ⟨w.heap.size, 5, none⟩ = some (.int .i64 wid) := fun x => x.cell (by simp)
  have f6 : ∀ x : Cl (w.alloc (.cells #[.bool p, .bool mi, .bool false, .bool sp, .bool z, .int .i64 wid, .int .i64 prec, .int .i32 113] 28)), x.w.cell? ⟨w.heap.size, 6, none⟩ = some (.int .i64 prec) := fun x => x.cell (by simp)
  have f7 : ∀ x : Cl (w.alloc (.cells #[.bool p, .bool mi, .bool false, .bool sp, .bool z, .int .i64 wid, .int .i64 prec, .int .i32 113] 28)), x.w.cell? ⟨w.heap.size, 7, none⟩ = some (.int .i32 113) := fun x => x.cell (by simp)
  have hcs := (cut_facts s prec).1
  have hC : ∀ w, Calls Tryd.prog 38 #[.string s, .int .i64 prec] w fun e w' => e = .returned (.string (cutS s prec)) ∧ Below w.heap.size w w' := fun w => rcut_any s _ w (by unfold maxLen; omega) hpr
  have hR : ∀ w, Calls Tryd.prog 39 #[.string (cutS s prec)] w fun e w' => e = .returned (.tuple #[.string (cond b (rawT (cutS s prec)) ⟨#[]⟩), .bool b]) ∧ Below w.heap.size w w' := fun w => draw_any _ b w (by omega) hb0
  have hQ : ∀ w, Calls Tryd.prog 28 #[.string (cutS s prec), .bool p] w fun e w' => e = .returned (.string (quoS (cutS s prec) p)) ∧ Below w.heap.size w w' := fun w => dquote_any _ p w (by omega)
  have hqs := quoS_size (cutS s prec) p
  have hPd : ∀ w, Calls Tryd.prog 35 #[.string (quoS (cutS s prec) p), .agg #[.bool p, .bool mi, .bool false, .bool sp, .bool z, .int .i64 wid, .int .i64 prec, .int .i32 113]] w fun e w' => e = .returned (.string (padS (quoS (cutS s prec) p) mi z wid)) ∧ Below w.heap.size w w' := fun w => rpad_any _ p mi false sp z wid prec 113 w (by omega)
  clear hcs hqs hb0
  generalize cond b (rawT (cutS s prec)) ⟨#[]⟩ = r9 at *
  generalize padS (quoS (cutS s prec) p) mi z wid = rr at *
  generalize quoS (cutS s prec) p = r2 at *
  generalize cutS s prec = r at *
  go_enter Tryd.func16, Tryd.ntmps16
  go_wp2_with (first | (go_at_call 38; (first | refine (Cl.go (hC _)).mono ?_ | refine (Cl.go0 (hC _)).mono ?_); rintro e w9 ⟨y, rfl, rfl⟩) | (go_at_call 39; (first | refine (Cl.go (hR _)).mono ?_ | refine (Cl.go0 (hR _)).mono ?_); rintro e w9 ⟨y, rfl, rfl⟩))
  refine wp_region_above (w.alloc (.cells #[.bool p, .bool mi, .bool false, .bool sp, .bool z, .int .i64 wid, .int .i64 prec, .int .i32 113] 28)) y.below (by kernel_rfl) (by kernel_rfl) ?_
  intro hCl
  repeat (go_big_quiet_step ((first | (go_at_call 28; exact Cl.call (hQ _)) | (go_at_call 35; exact Cl.call (hPd _)))))
  refine wpQuiet_nil ?_
  intro _ hw'
  obtain ⟨y, hx⟩ := hw'
  subst hx
  go_wp2
  go_ret2
  exact ⟨rfl, hbA.trans (y.below.mono hbA.size)⟩

set_option maxRecDepth 1000000 in
set_option maxHeartbeats 2000000 in
theorem dtext_x (s : ByteArray) (p mi sh sp z : Bool) (wid prec : Int) (w : World) (hs : s.size ≤ 1000) (hpr : prec ≤ 9223372036854775807) :
    Calls Tryd.prog 16 #[.string s, .agg #[.bool p, .bool mi, .bool sh, .bool sp, .bool z, .int .i64 wid, .int .i64 prec, .int .i32 120]] w fun e w' => e = .returned (.tuple #[.string (padS (hexS s sh sp false prec) mi z wid), .bool true]) ∧ Below w.heap.size w w' := by
  have hbA : Below w.heap.size w (w.alloc (.cells #[.bool p, .bool mi, .bool sh, .bool sp, .bool z, .int .i64 wid, .int .i64 prec, .int .i32 120] 28)) := (Below.refl _ _).alloc (Nat.le_refl _) _
  have f0 : ∀ x : Cl (w.alloc (.cells #[.bool p, .bool mi, .bool sh, .bool sp, .bool z, .int .i64 wid, .int .i64 prec, .int .i32 120] 28)), x.w.cell? ⟨w.heap.size, 0, none⟩ = some (.bool p) := fun x => x.cell (by simp)
  have f1 : ∀ x : Cl (w.alloc (.cells #[.bool p, .bool mi, .bool sh, .bool sp, .bool z, .int .i64 wid, .int .i64 prec, .int .i32 120] 28)), x.w.cell? ⟨w.heap.size, 1, none⟩ = some (.bool mi) := fun x => x.cell (by simp)
  have f2 : ∀ x : Cl (w.alloc (.cells #[.bool p, .bool mi, .bool sh, .bool sp, .bool z, .int .i64 wid, .int .i64 prec, .int .i32 120] 28)), x.w.cell? ⟨w.heap.size, 2, none⟩ = some (.bool sh) := fun x => x.cell (by simp)
  have f3 : ∀ x : Cl (w.alloc (.cells #[.bool p, .bool mi, .bool sh, .bool sp, .bool z, .int .i64 wid, .int .i64 prec, .int .i32 120] 28)), x.w.cell? ⟨w.heap.size, 3, none⟩ = some (.bool sp) := fun x => x.cell (by simp)
  have f4 : ∀ x : Cl (w.alloc (.cells #[.bool p, .bool mi, .bool sh, .bool sp, .bool z, .int .i64 wid, .int .i64 prec, .int .i32 120] 28)), x.w.cell? ⟨w.heap.size, 4, none⟩ = some (.bool z) := fun x => x.cell (by simp)
  have f5 : ∀ x : Cl (w.alloc (.cells #[.bool p, .bool mi, .bool sh, .bool sp, .bool z, .int .i64 wid, .int .i64 prec, .int .i32 120] 28)), x.w.cell? ⟨w.heap.size, 5, none⟩ = some (.int .i64 wid) := fun x => x.cell (by simp)
  have f6 : ∀ x : Cl (w.alloc (.cells #[.bool p, .bool mi, .bool sh, .bool sp, .bool z, .int .i64 wid, .int .i64 prec, .int .i32 120] 28)), x.w.cell? ⟨w.heap.size, 6, none⟩ = some (.int .i64 prec) := fun x => x.cell (by simp)
  have f7 : ∀ x : Cl (w.alloc (.cells #[.bool p, .bool mi, .bool sh, .bool sp, .bool z, .int .i64 wid, .int .i64 prec, .int .i32 120] 28)), x.w.cell? ⟨w.heap.size, 7, none⟩ = some (.int .i32 120) := fun x => x.cell (by simp)
  have hcs := (cut_facts s prec).1
  have hC : ∀ w, Calls Tryd.prog 38 #[.string s, .int .i64 prec] w fun e w' => e = .returned (.string (cutS s prec)) ∧ Below w.heap.size w w' := fun w => rcut_any s _ w (by unfold maxLen; omega) hpr
  have hX : ∀ w, Calls Tryd.prog 14 #[.string s, .agg #[.bool p, .bool mi, .bool sh, .bool sp, .bool z, .int .i64 wid, .int .i64 prec, .int .i32 120]] w fun e w' => e = .returned (.string (padS (hexS s sh sp false prec) mi z wid)) ∧ Below w.heap.size w w' := fun w => dhex_any s p mi sh sp z wid prec 120 w hs
  clear hcs
  generalize padS (hexS s sh sp false prec) mi z wid = rr at *
  generalize cutS s prec = r at *
  go_enter Tryd.func16, Tryd.ntmps16
  go_wp2_with (first | (go_at_call 38; (first | refine (Cl.go (hC _)).mono ?_ | refine (Cl.go0 (hC _)).mono ?_); rintro e w9 ⟨y, rfl, rfl⟩) | (go_at_call 14; (first | refine (Cl.go (hX _)).mono ?_ | refine (Cl.go0 (hX _)).mono ?_); rintro e w9 ⟨y, rfl, rfl⟩))
  go_ret2
  exact ⟨rfl, hbA.trans (y.below.mono hbA.size)⟩

set_option maxRecDepth 1000000 in
set_option maxHeartbeats 2000000 in
theorem dtext_X (s : ByteArray) (p mi sh sp z : Bool) (wid prec : Int) (w : World) (hs : s.size ≤ 1000) (hpr : prec ≤ 9223372036854775807) :
    Calls Tryd.prog 16 #[.string s, .agg #[.bool p, .bool mi, .bool sh, .bool sp, .bool z, .int .i64 wid, .int .i64 prec, .int .i32 88]] w fun e w' => e = .returned (.tuple #[.string (padS (hexS s sh sp true prec) mi z wid), .bool true]) ∧ Below w.heap.size w w' := by
  have hbA : Below w.heap.size w (w.alloc (.cells #[.bool p, .bool mi, .bool sh, .bool sp, .bool z, .int .i64 wid, .int .i64 prec, .int .i32 88] 28)) := (Below.refl _ _).alloc (Nat.le_refl _) _
  have f0 : ∀ x : Cl (w.alloc (.cells #[.bool p, .bool mi, .bool sh, .bool sp, .bool z, .int .i64 wid, .int .i64 prec, .int .i32 88] 28)), x.w.cell? ⟨w.heap.size, 0, none⟩ = some (.bool p) := fun x => x.cell (by simp)
  have f1 : ∀ x : Cl (w.alloc (.cells #[.bool p, .bool mi, .bool sh, .bool sp, .bool z, .int .i64 wid, .int .i64 prec, .int .i32 88] 28)), x.w.cell? ⟨w.heap.size, 1, none⟩ = some (.bool mi) := fun x => x.cell (by simp)
  have f2 : ∀ x : Cl (w.alloc (.cells #[.bool p, .bool mi, .bool sh, .bool sp, .bool z, .int .i64 wid, .int .i64 prec, .int .i32 88] 28)), x.w.cell? ⟨w.heap.size, 2, none⟩ = some (.bool sh) := fun x => x.cell (by simp)
  have f3 : ∀ x : Cl (w.alloc (.cells #[.bool p, .bool mi, .bool sh, .bool sp, .bool z, .int .i64 wid, .int .i64 prec, .int .i32 88] 28)), x.w.cell? ⟨w.heap.size, 3, none⟩ = some (.bool sp) := fun x => x.cell (by simp)
  have f4 : ∀ x : Cl (w.alloc (.cells #[.bool p, .bool mi, .bool sh, .bool sp, .bool z, .int .i64 wid, .int .i64 prec, .int .i32 88] 28)), x.w.cell? ⟨w.heap.size, 4, none⟩ = some (.bool z) := fun x => x.cell (by simp)
  have f5 : ∀ x : Cl (w.alloc (.cells #[.bool p, .bool mi, .bool sh, .bool sp, .bool z, .int .i64 wid, .int .i64 prec, .int .i32 88] 28)), x.w.cell? ⟨w.heap.size, 5, none⟩ = some (.int .i64 wid) := fun x => x.cell (by simp)
  have f6 : ∀ x : Cl (w.alloc (.cells #[.bool p, .bool mi, .bool sh, .bool sp, .bool z, .int .i64 wid, .int .i64 prec, .int .i32 88] 28)), x.w.cell? ⟨w.heap.size, 6, none⟩ = some (.int .i64 prec) := fun x => x.cell (by simp)
  have f7 : ∀ x : Cl (w.alloc (.cells #[.bool p, .bool mi, .bool sh, .bool sp, .bool z, .int .i64 wid, .int .i64 prec, .int .i32 88] 28)), x.w.cell? ⟨w.heap.size, 7, none⟩ = some (.int .i32 88) := fun x => x.cell (by simp)
  have hcs := (cut_facts s prec).1
  have hC : ∀ w, Calls Tryd.prog 38 #[.string s, .int .i64 prec] w fun e w' => e = .returned (.string (cutS s prec)) ∧ Below w.heap.size w w' := fun w => rcut_any s _ w (by unfold maxLen; omega) hpr
  have hX : ∀ w, Calls Tryd.prog 14 #[.string s, .agg #[.bool p, .bool mi, .bool sh, .bool sp, .bool z, .int .i64 wid, .int .i64 prec, .int .i32 88]] w fun e w' => e = .returned (.string (padS (hexS s sh sp true prec) mi z wid)) ∧ Below w.heap.size w w' := fun w => dhex_any s p mi sh sp z wid prec 88 w hs
  clear hcs
  generalize padS (hexS s sh sp true prec) mi z wid = rr at *
  generalize cutS s prec = r at *
  go_enter Tryd.func16, Tryd.ntmps16
  go_wp2_with (first | (go_at_call 38; (first | refine (Cl.go (hC _)).mono ?_ | refine (Cl.go0 (hC _)).mono ?_); rintro e w9 ⟨y, rfl, rfl⟩) | (go_at_call 14; (first | refine (Cl.go (hX _)).mono ?_ | refine (Cl.go0 (hX _)).mono ?_); rintro e w9 ⟨y, rfl, rfl⟩))
  go_ret2
  exact ⟨rfl, hbA.trans (y.below.mono hbA.size)⟩

set_option maxRecDepth 1000000 in
set_option maxHeartbeats 2000000 in
theorem dtext_no (s : ByteArray) (p mi sh sp z : Bool) (wid prec verb : Int) (w : World) (hs : s.size ≤ 1000) (hpr : prec ≤ 9223372036854775807) (h1 : ¬ verb = 118) (h2 : ¬ verb = 115) (h3 : ¬ verb = 113) (h4 : ¬ verb = 120) (h5 : ¬ verb = 88) :
    Calls Tryd.prog 16 #[.string s, .agg #[.bool p, .bool mi, .bool sh, .bool sp, .bool z, .int .i64 wid, .int .i64 prec, .int .i32 verb]] w fun e w' => e = .returned (.tuple #[.string ⟨#[]⟩, .bool false]) ∧ Below w.heap.size w w' := by
  have hbA : Below w.heap.size w (w.alloc (.cells #[.bool p, .bool mi, .bool sh, .bool sp, .bool z, .int .i64 wid, .int .i64 prec, .int .i32 verb] 28)) := (Below.refl _ _).alloc (Nat.le_refl _) _
  have f0 : ∀ x : Cl (w.alloc (.cells #[.bool p, .bool mi, .bool sh, .bool sp, .bool z, .int .i64 wid, .int .i64 prec, .int .i32 verb] 28)), x.w.cell? ⟨w.heap.size, 0, none⟩ = some (.bool p) := fun x => x.cell (by simp)
  have f1 : ∀ x : Cl (w.alloc (.cells #[.bool p, .bool mi, .bool sh, .bool sp, .bool z, .int .i64 wid, .int .i64 prec, .int .i32 verb] 28)), x.w.cell? ⟨w.heap.size, 1, none⟩ = some (.bool mi) := fun x => x.cell (by simp)
  have f2 : ∀ x : Cl (w.alloc (.cells #[.bool p, .bool mi, .bool sh, .bool sp, .bool z, .int .i64 wid, .int .i64 prec, .int .i32 verb] 28)), x.w.cell? ⟨w.heap.size, 2, none⟩ = some (.bool sh) := fun x => x.cell (by simp)
  have f3 : ∀ x : Cl (w.alloc (.cells #[.bool p, .bool mi, .bool sh, .bool sp, .bool z, .int .i64 wid, .int .i64 prec, .int .i32 verb] 28)), x.w.cell? ⟨w.heap.size, 3, none⟩ = some (.bool sp) := fun x => x.cell (by simp)
  have f4 : ∀ x : Cl (w.alloc (.cells #[.bool p, .bool mi, .bool sh, .bool sp, .bool z, .int .i64 wid, .int .i64 prec, .int .i32 verb] 28)), x.w.cell? ⟨w.heap.size, 4, none⟩ = some (.bool z) := fun x => x.cell (by simp)
  have f5 : ∀ x : Cl (w.alloc (.cells #[.bool p, .bool mi, .bool sh, .bool sp, .bool z, .int .i64 wid, .int .i64 prec, .int .i32 verb] 28)), x.w.cell? ⟨w.heap.size, 5, none⟩ = some (.int .i64 wid) := fun x => x.cell (by simp)
  have f6 : ∀ x : Cl (w.alloc (.cells #[.bool p, .bool mi, .bool sh, .bool sp, .bool z, .int .i64 wid, .int .i64 prec, .int .i32 verb] 28)), x.w.cell? ⟨w.heap.size, 6, none⟩ = some (.int .i64 prec) := fun x => x.cell (by simp)
  have f7 : ∀ x : Cl (w.alloc (.cells #[.bool p, .bool mi, .bool sh, .bool sp, .bool z, .int .i64 wid, .int .i64 prec, .int .i32 verb] 28)), x.w.cell? ⟨w.heap.size, 7, none⟩ = some (.int .i32 verb) := fun x => x.cell (by simp)
  have hC : ∀ w, Calls Tryd.prog 38 #[.string s, .int .i64 prec] w fun e w' => e = .returned (.string (cutS s prec)) ∧ Below w.heap.size w w' := fun w => rcut_any s _ w (by unfold maxLen; omega) hpr
  generalize cutS s prec = r at *
  go_enter Tryd.func16, Tryd.ntmps16
  go_wp2_with ((go_at_call 38; (first | refine (Cl.go (hC _)).mono ?_ | refine (Cl.go0 (hC _)).mono ?_); rintro e w9 ⟨y, rfl, rfl⟩))
  go_ret2
  exact ⟨rfl, hbA.trans (y.below.mono hbA.size)⟩
end Go.Proofs.YtnoelbomcogndaaDoor
