/- The walks of number, Signed and Unsigned of package ints. -/
import Derived.Test.YtdlnmnipnkeabaaGreatDoorINumB
namespace Go.Proofs.YtdlnmnipnkeabaaGreatDoor
open Go.RowKit
set_option linter.unusedVariables false
set_option maxRecDepth 1000000 in
set_option maxHeartbeats 1000000 in
theorem inum_c (bits size : Nat) (sign : ByteArray) (p mi sh sp z : Bool) (wid prec : Int) (w : World) (hE : Esc w) (hn : bits < 18446744073709551616) (hn2 : size < 18446744073709551616) (hs : sign.size ≤ 1) :
  Calls Tryz.prog 207 #[.int .u64 bits, .int .u64 size, .string sign, .agg #[.bool p, .bool mi, .bool sh, .bool sp, .bool z, .int .i64 wid, .int .i64 prec, .int .i32 99]] w fun e w' => e = .returned (.tuple #[.string (padS (Utf8.encode ((ptN bits : Nat) : Int)) mi z wid), .bool true]) ∧ Below w.heap.size w w' := by
 have hbA : Below w.heap.size w (w.alloc (.cells #[.bool p, .bool mi, .bool sh, .bool sp, .bool z, .int .i64 wid, .int .i64 prec, .int .i32 99] 113)) := (Below.refl _ _).alloc (Nat.le_refl _) _
 have f0 : ∀ x : Cl (w.alloc (.cells #[.bool p, .bool mi, .bool sh, .bool sp, .bool z, .int .i64 wid, .int .i64 prec, .int .i32 99] 113)), x.w.cell? ⟨w.heap.size, 0, none⟩ = some (.bool p) := fun x => x.cell (by simp)
 have f1 : ∀ x : Cl (w.alloc (.cells #[.bool p, .bool mi, .bool sh, .bool sp, .bool z, .int .i64 wid, .int .i64 prec, .int .i32 99] 113)), x.w.cell? ⟨w.heap.size, 1, none⟩ = some (.bool mi) := fun x => x.cell (by simp)
 have f2 : ∀ x : Cl (w.alloc (.cells #[.bool p, .bool mi, .bool sh, .bool sp, .bool z, .int .i64 wid, .int .i64 prec, .int .i32 99] 113)), x.w.cell? ⟨w.heap.size, 2, none⟩ = some (.bool sh) := fun x => x.cell (by simp)
 have f3 : ∀ x : Cl (w.alloc (.cells #[.bool p, .bool mi, .bool sh, .bool sp, .bool z, .int .i64 wid, .int .i64 prec, .int .i32 99] 113)), x.w.cell? ⟨w.heap.size, 3, none⟩ = some (.bool sp) := fun x => x.cell (by simp)
 have f4 : ∀ x : Cl (w.alloc (.cells #[.bool p, .bool mi, .bool sh, .bool sp, .bool z, .int .i64 wid, .int .i64 prec, .int .i32 99] 113)), x.w.cell? ⟨w.heap.size, 4, none⟩ = some (.bool z) := fun x => x.cell (by simp)
 have f5 : ∀ x : Cl (w.alloc (.cells #[.bool p, .bool mi, .bool sh, .bool sp, .bool z, .int .i64 wid, .int .i64 prec, .int .i32 99] 113)), x.w.cell? ⟨w.heap.size, 5, none⟩ = some (.int .i64 wid) := fun x => x.cell (by simp)
 have f6 : ∀ x : Cl (w.alloc (.cells #[.bool p, .bool mi, .bool sh, .bool sp, .bool z, .int .i64 wid, .int .i64 prec, .int .i32 99] 113)), x.w.cell? ⟨w.heap.size, 6, none⟩ = some (.int .i64 prec) := fun x => x.cell (by simp)
 have f7 : ∀ x : Cl (w.alloc (.cells #[.bool p, .bool mi, .bool sh, .bool sp, .bool z, .int .i64 wid, .int .i64 prec, .int .i32 99] 113)), x.w.cell? ⟨w.heap.size, 7, none⟩ = some (.int .i32 99) := fun x => x.cell (by simp)
 have hE1 : ∀ x : Cl (w.alloc (.cells #[.bool p, .bool mi, .bool sh, .bool sp, .bool z, .int .i64 wid, .int .i64 prec, .int .i32 99] 113)), Esc x.w := fun x => (hE.below hbA).below x.below
 have hP : ∀ w, Calls Tryz.prog 244 #[.int .u64 bits] w fun e w' => e = .returned (.int .i32 (ptN bits : Nat)) ∧ w' = w := fun w => ipoint_any bits w hn
 have hez := enc_size4 (ptN bits)
 have hR := rune_any (ptN bits : Nat)
 have hPd : ∀ w, Calls Tryz.prog 129 #[.string (Utf8.encode ((ptN bits : Nat) : Int)), .agg #[.bool p, .bool mi, .bool sh, .bool sp, .bool z, .int .i64 wid, .int .i64 prec, .int .i32 99]] w fun e w' => e = .returned (.string (padS (Utf8.encode ((ptN bits : Nat) : Int)) mi z wid)) ∧ Below w.heap.size w w' := fun w => pad_any _ p mi sh sp z wid prec 99 w (by omega)
 generalize padS (Utf8.encode ((ptN bits : Nat) : Int)) mi z wid = rr at *
 generalize Utf8.encode ((ptN bits : Nat) : Int) = r at *
 generalize ptN bits = c at *
 go_enter Tryz.func207, Tryz.ntmps207
 go_wp2
 refine wp_region_above (w.alloc (.cells #[.bool p, .bool mi, .bool sh, .bool sp, .bool z, .int .i64 wid, .int .i64 prec, .int .i32 99] 113)) (Below.refl _ _) (by kernel_rfl) (by kernel_rfl) ?_
 intro hCl
 repeat (go_big_quiet_step ((first | (go_at_call 244; exact Cl.call_same (hP _)) | (go_at_call 10; exact Cl.call_same (hR _)) | (go_at_call 129; exact Cl.call (hPd _)))))
 refine wpQuiet_nil ?_
 intro _ hw'
 obtain ⟨y, hx⟩ := hw'
 subst hx
 go_wp2
 go_ret2
 exact ⟨rfl, hbA.trans (y.below.mono hbA.size)⟩
theorem chrS_size (c : Int) (a : Bool) : (chrS c a).size ≤ 12 := by
 have h := inL_len (pt c) 39 a
 show (39 :: (inL (pt c) 39 a ++ [39])).toArray.size ≤ 12
 simp; omega
set_option maxRecDepth 1000000 in
set_option maxHeartbeats 1000000 in
theorem inum_q (bits size : Nat) (sign : ByteArray) (p mi sh sp z : Bool) (wid prec : Int) (w : World) (hE : Esc w) (hn : bits < 18446744073709551616) (hn2 : size < 18446744073709551616) (hs : sign.size ≤ 1) :
  Calls Tryz.prog 207 #[.int .u64 bits, .int .u64 size, .string sign, .agg #[.bool p, .bool mi, .bool sh, .bool sp, .bool z, .int .i64 wid, .int .i64 prec, .int .i32 113]] w fun e w' => e = .returned (.tuple #[.string (padS (chrS ((ptN bits : Nat) : Int) p) mi z wid), .bool true]) ∧ Below w.heap.size w w' := by
 have hbA : Below w.heap.size w (w.alloc (.cells #[.bool p, .bool mi, .bool sh, .bool sp, .bool z, .int .i64 wid, .int .i64 prec, .int .i32 113] 113)) := (Below.refl _ _).alloc (Nat.le_refl _) _
 have f0 : ∀ x : Cl (w.alloc (.cells #[.bool p, .bool mi, .bool sh, .bool sp, .bool z, .int .i64 wid, .int .i64 prec, .int .i32 113] 113)), x.w.cell? ⟨w.heap.size, 0, none⟩ = some (.bool p) := fun x => x.cell (by simp)
 have f1 : ∀ x : Cl (w.alloc (.cells #[.bool p, .bool mi, .bool sh, .bool sp, .bool z, .int .i64 wid, .int .i64 prec, .int .i32 113] 113)), x.w.cell? ⟨w.heap.size, 1, none⟩ = some (.bool mi) := fun x => x.cell (by simp)
 have f2 : ∀ x : Cl (w.alloc (.cells #[.bool p, .bool mi, .bool sh, .bool sp, .bool z, .int .i64 wid, .int .i64 prec, .int .i32 113] 113)), x.w.cell? ⟨w.heap.size, 2, none⟩ = some (.bool sh) := fun x => x.cell (by simp)
 have f3 : ∀ x : Cl (w.alloc (.cells #[.bool p, .bool mi, .bool sh, .bool sp, .bool z, .int .i64 wid, .int .i64 prec, .int .i32 113] 113)), x.w.cell? ⟨w.heap.size, 3, none⟩ = some (.bool sp) := fun x => x.cell (by simp)
 have f4 : ∀ x : Cl (w.alloc (.cells #[.bool p, .bool mi, .bool sh, .bool sp, .bool z, .int .i64 wid, .int .i64 prec, .int .i32 113] 113)), x.w.cell? ⟨w.heap.size, 4, none⟩ = some (.bool z) := fun x => x.cell (by simp)
 have f5 : ∀ x : Cl (w.alloc (.cells #[.bool p, .bool mi, .bool sh, .bool sp, .bool z, .int .i64 wid, .int .i64 prec, .int .i32 113] 113)), x.w.cell? ⟨w.heap.size, 5, none⟩ = some (.int .i64 wid) := fun x => x.cell (by simp)
 have f6 : ∀ x : Cl (w.alloc (.cells #[.bool p, .bool mi, .bool sh, .bool sp, .bool z, .int .i64 wid, .int .i64 prec, .int .i32 113] 113)), x.w.cell? ⟨w.heap.size, 6, none⟩ = some (.int .i64 prec) := fun x => x.cell (by simp)
 have f7 : ∀ x : Cl (w.alloc (.cells #[.bool p, .bool mi, .bool sh, .bool sp, .bool z, .int .i64 wid, .int .i64 prec, .int .i32 113] 113)), x.w.cell? ⟨w.heap.size, 7, none⟩ = some (.int .i32 113) := fun x => x.cell (by simp)
 have hE1 : ∀ x : Cl (w.alloc (.cells #[.bool p, .bool mi, .bool sh, .bool sp, .bool z, .int .i64 wid, .int .i64 prec, .int .i32 113] 113)), Esc x.w := fun x => (hE.below hbA).below x.below
 have hP : ∀ w, Calls Tryz.prog 244 #[.int .u64 bits] w fun e w' => e = .returned (.int .i32 (ptN bits : Nat)) ∧ w' = w := fun w => ipoint_any bits w hn
 have hez := chrS_size ((ptN bits : Nat) : Int) p
 have hC : ∀ w, Esc w → Calls Tryz.prog 245 #[.int .i32 ((ptN bits : Nat) : Int), .bool p] w fun e w' => e = .returned (.string (chrS ((ptN bits : Nat) : Int) p)) ∧ Below w.heap.size w w' := fun w hE => char_any _ p w hE
 have hPd : ∀ w, Calls Tryz.prog 129 #[.string (chrS ((ptN bits : Nat) : Int) p), .agg #[.bool p, .bool mi, .bool sh, .bool sp, .bool z, .int .i64 wid, .int .i64 prec, .int .i32 113]] w fun e w' => e = .returned (.string (padS (chrS ((ptN bits : Nat) : Int) p) mi z wid)) ∧ Below w.heap.size w w' := fun w => pad_any _ p mi sh sp z wid prec 113 w (by omega)
 generalize padS (chrS ((ptN bits : Nat) : Int) p) mi z wid = rr at *
 generalize chrS ((ptN bits : Nat) : Int) p = r at *
 generalize ptN bits = c at *
 go_enter Tryz.func207, Tryz.ntmps207
 go_wp2
 refine wp_region_above (w.alloc (.cells #[.bool p, .bool mi, .bool sh, .bool sp, .bool z, .int .i64 wid, .int .i64 prec, .int .i32 113] 113)) (Below.refl _ _) (by kernel_rfl) (by kernel_rfl) ?_
 intro hCl
 repeat (go_big_quiet_step ((first | (go_at_call 244; exact Cl.call_same (hP _)) | (go_at_call 245; exact Cl.call (hC _ (hE1 _))) | (go_at_call 129; exact Cl.call (hPd _)))))
 refine wpQuiet_nil ?_
 intro _ hw'
 obtain ⟨y, hx⟩ := hw'
 subst hx
 go_wp2
 go_ret2
 exact ⟨rfl, hbA.trans (y.below.mono hbA.size)⟩
set_option maxRecDepth 1000000 in
set_option maxHeartbeats 1000000 in
theorem inum_U (bits size : Nat) (sign : ByteArray) (p mi sh sp z : Bool) (wid prec : Int) (w : World) (hE : Esc w) (hn : bits < 18446744073709551616) (hn2 : size < 18446744073709551616) (hs : sign.size ≤ 1) :
  Calls Tryz.prog 207 #[.int .u64 bits, .int .u64 size, .string sign, .agg #[.bool p, .bool mi, .bool sh, .bool sp, .bool z, .int .i64 wid, .int .i64 prec, .int .i32 85]] w fun e w' => e = .returned (.tuple #[.string (padS (nameS bits sh prec) mi false wid), .bool true]) ∧ Below w.heap.size w w' := by
 have hbA : Below w.heap.size w (w.alloc (.cells #[.bool p, .bool mi, .bool sh, .bool sp, .bool z, .int .i64 wid, .int .i64 prec, .int .i32 85] 113)) := (Below.refl _ _).alloc (Nat.le_refl _) _
 have f0 : ∀ x : Cl (w.alloc (.cells #[.bool p, .bool mi, .bool sh, .bool sp, .bool z, .int .i64 wid, .int .i64 prec, .int .i32 85] 113)), x.w.cell? ⟨w.heap.size, 0, none⟩ = some (.bool p) := fun x => x.cell (by simp)
 have f1 : ∀ x : Cl (w.alloc (.cells #[.bool p, .bool mi, .bool sh, .bool sp, .bool z, .int .i64 wid, .int .i64 prec, .int .i32 85] 113)), x.w.cell? ⟨w.heap.size, 1, none⟩ = some (.bool mi) := fun x => x.cell (by simp)
 have f2 : ∀ x : Cl (w.alloc (.cells #[.bool p, .bool mi, .bool sh, .bool sp, .bool z, .int .i64 wid, .int .i64 prec, .int .i32 85] 113)), x.w.cell? ⟨w.heap.size, 2, none⟩ = some (.bool sh) := fun x => x.cell (by simp)
 have f3 : ∀ x : Cl (w.alloc (.cells #[.bool p, .bool mi, .bool sh, .bool sp, .bool z, .int .i64 wid, .int .i64 prec, .int .i32 85] 113)), x.w.cell? ⟨w.heap.size, 3, none⟩ = some (.bool sp) := fun x => x.cell (by simp)
 have f4 : ∀ x : Cl (w.alloc (.cells #[.bool p, .bool mi, .bool sh, .bool sp, .bool z, .int .i64 wid, .int .i64 prec, .int .i32 85] 113)), x.w.cell? ⟨w.heap.size, 4, none⟩ = some (.bool z) := fun x => x.cell (by simp)
 have f5 : ∀ x : Cl (w.alloc (.cells #[.bool p, .bool mi, .bool sh, .bool sp, .bool z, .int .i64 wid, .int .i64 prec, .int .i32 85] 113)), x.w.cell? ⟨w.heap.size, 5, none⟩ = some (.int .i64 wid) := fun x => x.cell (by simp)
 have f6 : ∀ x : Cl (w.alloc (.cells #[.bool p, .bool mi, .bool sh, .bool sp, .bool z, .int .i64 wid, .int .i64 prec, .int .i32 85] 113)), x.w.cell? ⟨w.heap.size, 6, none⟩ = some (.int .i64 prec) := fun x => x.cell (by simp)
 have f7 : ∀ x : Cl (w.alloc (.cells #[.bool p, .bool mi, .bool sh, .bool sp, .bool z, .int .i64 wid, .int .i64 prec, .int .i32 85] 113)), x.w.cell? ⟨w.heap.size, 7, none⟩ = some (.int .i32 85) := fun x => x.cell (by simp)
 have hE1 : ∀ x : Cl (w.alloc (.cells #[.bool p, .bool mi, .bool sh, .bool sp, .bool z, .int .i64 wid, .int .i64 prec, .int .i32 85] 113)), Esc x.w := fun x => (hE.below hbA).below x.below
 have hez := nameS_size bits sh prec
 have hC : ∀ w, Calls Tryz.prog 247 #[.int .u64 bits, .agg #[.bool p, .bool mi, .bool sh, .bool sp, .bool z, .int .i64 wid, .int .i64 prec, .int .i32 85]] w fun e w' => e = .returned (.string (nameS bits sh prec)) ∧ Below w.heap.size w w' := fun w => iname_any bits p mi sh sp z wid prec 85 w hn
 have hPd : ∀ w, Calls Tryz.prog 246 #[.string (nameS bits sh prec), .agg #[.bool p, .bool mi, .bool sh, .bool sp, .bool z, .int .i64 wid, .int .i64 prec, .int .i32 85]] w fun e w' => e = .returned (.string (padS (nameS bits sh prec) mi false wid)) ∧ Below w.heap.size w w' := fun w => ipad_any _ p mi sh sp z wid prec 85 w (by omega)
 generalize padS (nameS bits sh prec) mi false wid = rr at *
 generalize nameS bits sh prec = r at *
 go_enter Tryz.func207, Tryz.ntmps207
 go_wp2
 refine wp_region_above (w.alloc (.cells #[.bool p, .bool mi, .bool sh, .bool sp, .bool z, .int .i64 wid, .int .i64 prec, .int .i32 85] 113)) (Below.refl _ _) (by kernel_rfl) (by kernel_rfl) ?_
 intro hCl
 repeat (go_big_quiet_step ((first | (go_at_call 247; exact Cl.call (hC _)) | (go_at_call 246; exact Cl.call (hPd _)))))
 refine wpQuiet_nil ?_
 intro _ hw'
 obtain ⟨y, hx⟩ := hw'
 subst hx
 go_wp2
 go_ret2
 exact ⟨rfl, hbA.trans (y.below.mono hbA.size)⟩
set_option maxRecDepth 1000000 in
set_option maxHeartbeats 1000000 in
theorem inum_b (bits size : Nat) (sign : ByteArray) (p mi sh sp z : Bool) (wid prec verb : Int) (w : World) (hE : Esc w) (hn : bits < 18446744073709551616) (hn2 : size < 18446744073709551616) (hs : sign.size ≤ 1) (h1 : ¬ verb = 99) (h2 : ¬ verb = 113) (h3 : ¬ verb = 85) (hb : ¬ baseV verb = 0) :
  Calls Tryz.prog 207 #[.int .u64 bits, .int .u64 size, .string sign, .agg #[.bool p, .bool mi, .bool sh, .bool sp, .bool z, .int .i64 wid, .int .i64 prec, .int .i32 verb]] w fun e w' => e = .returned (.tuple #[.string (padS (coreB size (baseV verb) sign mi sh z wid prec verb) mi false wid), .bool true]) ∧ Below w.heap.size w w' := by
 have hbA : Below w.heap.size w (w.alloc (.cells #[.bool p, .bool mi, .bool sh, .bool sp, .bool z, .int .i64 wid, .int .i64 prec, .int .i32 verb] 113)) := (Below.refl _ _).alloc (Nat.le_refl _) _
 have f0 : ∀ x : Cl (w.alloc (.cells #[.bool p, .bool mi, .bool sh, .bool sp, .bool z, .int .i64 wid, .int .i64 prec, .int .i32 verb] 113)), x.w.cell? ⟨w.heap.size, 0, none⟩ = some (.bool p) := fun x => x.cell (by simp)
 have f1 : ∀ x : Cl (w.alloc (.cells #[.bool p, .bool mi, .bool sh, .bool sp, .bool z, .int .i64 wid, .int .i64 prec, .int .i32 verb] 113)), x.w.cell? ⟨w.heap.size, 1, none⟩ = some (.bool mi) := fun x => x.cell (by simp)
 have f2 : ∀ x : Cl (w.alloc (.cells #[.bool p, .bool mi, .bool sh, .bool sp, .bool z, .int .i64 wid, .int .i64 prec, .int .i32 verb] 113)), x.w.cell? ⟨w.heap.size, 2, none⟩ = some (.bool sh) := fun x => x.cell (by simp)
 have f3 : ∀ x : Cl (w.alloc (.cells #[.bool p, .bool mi, .bool sh, .bool sp, .bool z, .int .i64 wid, .int .i64 prec, .int .i32 verb] 113)), x.w.cell? ⟨w.heap.size, 3, none⟩ = some (.bool sp) := fun x => x.cell (by simp)
 have f4 : ∀ x : Cl (w.alloc (.cells #[.bool p, .bool mi, .bool sh, .bool sp, .bool z, .int .i64 wid, .int .i64 prec, .int .i32 verb] 113)), x.w.cell? ⟨w.heap.size, 4, none⟩ = some (.bool z) := fun x => x.cell (by simp)
 have f5 : ∀ x : Cl (w.alloc (.cells #[.bool p, .bool mi, .bool sh, .bool sp, .bool z, .int .i64 wid, .int .i64 prec, .int .i32 verb] 113)), x.w.cell? ⟨w.heap.size, 5, none⟩ = some (.int .i64 wid) := fun x => x.cell (by simp)
 have f6 : ∀ x : Cl (w.alloc (.cells #[.bool p, .bool mi, .bool sh, .bool sp, .bool z, .int .i64 wid, .int .i64 prec, .int .i32 verb] 113)), x.w.cell? ⟨w.heap.size, 6, none⟩ = some (.int .i64 prec) := fun x => x.cell (by simp)
 have f7 : ∀ x : Cl (w.alloc (.cells #[.bool p, .bool mi, .bool sh, .bool sp, .bool z, .int .i64 wid, .int .i64 prec, .int .i32 verb] 113)), x.w.cell? ⟨w.heap.size, 7, none⟩ = some (.int .i32 verb) := fun x => x.cell (by simp)
 have hE1 : ∀ x : Cl (w.alloc (.cells #[.bool p, .bool mi, .bool sh, .bool sp, .bool z, .int .i64 wid, .int .i64 prec, .int .i32 verb] 113)), Esc x.w := fun x => (hE.below hbA).below x.below
 have hB := ibase_any verb
 have hbz : ¬ ((baseV verb : Nat) : Int) = 0 := by omega
 have hC : ∀ w, Calls Tryz.prog 249 #[.int .u64 size, .int .i64 (baseV verb : Nat), .string sign, .agg #[.bool p, .bool mi, .bool sh, .bool sp, .bool z, .int .i64 wid, .int .i64 prec, .int .i32 verb]] w fun e w' => e = .returned (.string (padS (coreB size (baseV verb) sign mi sh z wid prec verb) mi false wid)) ∧ Below w.heap.size w w' := fun w => ibased_any size (baseV verb) sign p mi sh sp z wid prec verb w hn2 (baseV_is verb hb) hs
 clear hb
 generalize padS (coreB size (baseV verb) sign mi sh z wid prec verb) mi false wid = rr at *
 generalize baseV verb = b at *
 go_enter Tryz.func207, Tryz.ntmps207
 go_wp2_with (first | (go_at_call 248; refine (hB _).mono ?_; rintro e w9 ⟨rfl, rfl⟩) | (go_at_call 249; (first | refine (Cl.go (hC _)).mono ?_ | refine (Cl.go0 (hC _)).mono ?_); rintro e w9 ⟨y, rfl, rfl⟩))
 go_ret2
 exact ⟨rfl, hbA.trans (y.below.mono hbA.size)⟩
set_option maxRecDepth 1000000 in
set_option maxHeartbeats 1000000 in
theorem inum_no (bits size : Nat) (sign : ByteArray) (p mi sh sp z : Bool) (wid prec verb : Int) (w : World) (h1 : ¬ verb = 99) (h2 : ¬ verb = 113) (h3 : ¬ verb = 85) (hb : baseV verb = 0) :
  Calls Tryz.prog 207 #[.int .u64 bits, .int .u64 size, .string sign, .agg #[.bool p, .bool mi, .bool sh, .bool sp, .bool z, .int .i64 wid, .int .i64 prec, .int .i32 verb]] w fun e w' => e = .returned (.tuple #[.string ⟨#[]⟩, .bool false]) ∧ Below w.heap.size w w' := by
 have hbA : Below w.heap.size w (w.alloc (.cells #[.bool p, .bool mi, .bool sh, .bool sp, .bool z, .int .i64 wid, .int .i64 prec, .int .i32 verb] 113)) := (Below.refl _ _).alloc (Nat.le_refl _) _
 have hB : ∀ w, Calls Tryz.prog 248 #[.int .i32 verb] w fun e w' => e = .returned (.int .i64 0) ∧ w' = w := fun w => by
  have := ibase_any verb w
  rw [hb] at this
  exact this
 clear hb
 go_enter Tryz.func207, Tryz.ntmps207
 go_wp2_with ((go_at_call 248; refine (hB _).mono ?_; rintro e w9 ⟨rfl, rfl⟩))
 go_ret2
 exact ⟨rfl, hbA⟩
def numO (bits size : Nat) (sign : ByteArray) (p mi sh z : Bool) (wid prec verb : Int) : Option (ByteArray × Bool) :=
 if verb = 99 then some (Utf8.encode ((ptN bits : Nat) : Int), z) else if verb = 113 then some (chrS ((ptN bits : Nat) : Int) p, z) else if verb = 85 then some (nameS bits sh prec, false) else if baseV verb = 0 then none else some (coreB size (baseV verb) sign mi sh z wid prec verb, false)
def numS (bits size : Nat) (sign : ByteArray) (p mi sh z : Bool) (wid prec verb : Int) : ByteArray :=
 match numO bits size sign p mi sh z wid prec verb with
 | some (r, z') => padS r mi z' wid
 | none => ⟨#[]⟩
def numK (verb : Int) : Bool := decide (verb = 99 ∨ verb = 113 ∨ verb = 85 ∨ ¬ baseV verb = 0)
theorem inum_any (bits size : Nat) (sign : ByteArray) (p mi sh sp z : Bool) (wid prec verb : Int) (w : World) (hE : Esc w) (hn : bits < 18446744073709551616) (hn2 : size < 18446744073709551616) (hs : sign.size ≤ 1) :
  Calls Tryz.prog 207 #[.int .u64 bits, .int .u64 size, .string sign, .agg #[.bool p, .bool mi, .bool sh, .bool sp, .bool z, .int .i64 wid, .int .i64 prec, .int .i32 verb]] w fun e w' => e = .returned (.tuple #[.string (numS bits size sign p mi sh z wid prec verb), .bool (numK verb)]) ∧ Below w.heap.size w w' := by
 by_cases h1 : verb = 99
 ·subst h1; exact inum_c bits size sign p mi sh sp z wid prec w hE hn hn2 hs
 by_cases h2 : verb = 113
 ·subst h2; exact inum_q bits size sign p mi sh sp z wid prec w hE hn hn2 hs
 by_cases h3 : verb = 85
 ·subst h3; exact inum_U bits size sign p mi sh sp z wid prec w hE hn hn2 hs
 by_cases h4 : baseV verb = 0
 ·have e1 : numS bits size sign p mi sh z wid prec verb = ⟨#[]⟩ := by unfold numS numO; rw [if_neg h1, if_neg h2, if_neg h3, if_pos h4]
  have e2 : numK verb = false := by simp [numK, h1, h2, h3, h4]
  rw [e1, e2]
  exact inum_no bits size sign p mi sh sp z wid prec verb w h1 h2 h3 h4
 ·have e1 : numS bits size sign p mi sh z wid prec verb = padS (coreB size (baseV verb) sign mi sh z wid prec verb) mi false wid := by unfold numS numO; rw [if_neg h1, if_neg h2, if_neg h3, if_neg h4]
  have e2 : numK verb = true := by simp [numK, h4]
  rw [e1, e2]
  exact inum_b bits size sign p mi sh sp z wid prec verb w hE hn hn2 hs h1 h2 h3 h4
def uN (v : Int) : Nat := (v % 18446744073709551616).toNat
def sgS (v : Int) (p sp : Bool) : ByteArray := if v < 0 then ⟨#[45]⟩ else signA p sp
theorem uN_lt (v : Int) : uN v < 18446744073709551616 := by unfold uN; omega
theorem sgS_size (v : Int) (p sp : Bool) : (sgS v p sp).size ≤ 1 := by
 have := signA_size p sp
 unfold sgS
 split
 ·decide
 ·omega
theorem iwrap_u64 (n : Int) : IntKind.u64.wrap n = n % 18446744073709551616 := by
 unfold IntKind.wrap
 simp [IntKind.bits, IntKind.signed]
theorem wrap_uN (v : Int) : IntKind.u64.wrap v = ((uN v : Nat) : Int) := by
 rw [iwrap_u64]; unfold uN; omega
theorem wrap_neg (v : Int) (h1 : v < 0) (h2 : -9223372036854775808 ≤ v) : IntKind.u64.wrap (-((uN v : Nat) : Int)) = ((v.natAbs : Nat) : Int) := by
 rw [iwrap_u64]; unfold uN; omega
set_option maxRecDepth 1000000 in
set_option maxHeartbeats 1000000 in
theorem isigned_any (v : Int) (p mi sh sp z : Bool) (wid prec verb : Int) (w : World) (hE : Esc w) (hv1 : -9223372036854775808 ≤ v) (hv2 : v ≤ 9223372036854775807) :
  Calls Tryz.prog 168 #[.int .i64 v, .agg #[.bool p, .bool mi, .bool sh, .bool sp, .bool z, .int .i64 wid, .int .i64 prec, .int .i32 verb]] w fun e w' => e = .returned (.tuple #[.string (numS (uN v) v.natAbs (sgS v p sp) p mi sh z wid prec verb), .bool (numK verb)]) ∧ Below w.heap.size w w' := by
 have hbA : Below w.heap.size w (w.alloc (.cells #[.bool p, .bool mi, .bool sh, .bool sp, .bool z, .int .i64 wid, .int .i64 prec, .int .i32 verb] 113)) := (Below.refl _ _).alloc (Nat.le_refl _) _
 have f0 : ∀ x : Cl (w.alloc (.cells #[.bool p, .bool mi, .bool sh, .bool sp, .bool z, .int .i64 wid, .int .i64 prec, .int .i32 verb] 113)), x.w.cell? ⟨w.heap.size, 0, none⟩ = some (.bool p) := fun x => x.cell (by simp)
 have f1 : ∀ x : Cl (w.alloc (.cells #[.bool p, .bool mi, .bool sh, .bool sp, .bool z, .int .i64 wid, .int .i64 prec, .int .i32 verb] 113)), x.w.cell? ⟨w.heap.size, 1, none⟩ = some (.bool mi) := fun x => x.cell (by simp)
 have f2 : ∀ x : Cl (w.alloc (.cells #[.bool p, .bool mi, .bool sh, .bool sp, .bool z, .int .i64 wid, .int .i64 prec, .int .i32 verb] 113)), x.w.cell? ⟨w.heap.size, 2, none⟩ = some (.bool sh) := fun x => x.cell (by simp)
 have f3 : ∀ x : Cl (w.alloc (.cells #[.bool p, .bool mi, .bool sh, .bool sp, .bool z, .int .i64 wid, .int .i64 prec, .int .i32 verb] 113)), x.w.cell? ⟨w.heap.size, 3, none⟩ = some (.bool sp) := fun x => x.cell (by simp)
 have f4 : ∀ x : Cl (w.alloc (.cells #[.bool p, .bool mi, .bool sh, .bool sp, .bool z, .int .i64 wid, .int .i64 prec, .int .i32 verb] 113)), x.w.cell? ⟨w.heap.size, 4, none⟩ = some (.bool z) := fun x => x.cell (by simp)
 have f5 : ∀ x : Cl (w.alloc (.cells #[.bool p, .bool mi, .bool sh, .bool sp, .bool z, .int .i64 wid, .int .i64 prec, .int .i32 verb] 113)), x.w.cell? ⟨w.heap.size, 5, none⟩ = some (.int .i64 wid) := fun x => x.cell (by simp)
 have f6 : ∀ x : Cl (w.alloc (.cells #[.bool p, .bool mi, .bool sh, .bool sp, .bool z, .int .i64 wid, .int .i64 prec, .int .i32 verb] 113)), x.w.cell? ⟨w.heap.size, 6, none⟩ = some (.int .i64 prec) := fun x => x.cell (by simp)
 have f7 : ∀ x : Cl (w.alloc (.cells #[.bool p, .bool mi, .bool sh, .bool sp, .bool z, .int .i64 wid, .int .i64 prec, .int .i32 verb] 113)), x.w.cell? ⟨w.heap.size, 7, none⟩ = some (.int .i32 verb) := fun x => x.cell (by simp)
 have hE1 : ∀ x : Cl (w.alloc (.cells #[.bool p, .bool mi, .bool sh, .bool sp, .bool z, .int .i64 wid, .int .i64 prec, .int .i32 verb] 113)), Esc x.w := fun x => (hE.below hbA).below x.below
 have hE2 := hE.below hbA
 have hW := wrap_uN v
 have hul := uN_lt v
 by_cases h : v < 0
 ·have hWn := wrap_neg v h hv1
  have hsg : sgS v p sp = ⟨#[45]⟩ := by unfold sgS; rw [if_pos h]
  rw [hsg]
  have hN : ∀ w, Esc w → Calls Tryz.prog 207 #[.int .u64 (uN v : Nat), .int .u64 (v.natAbs : Nat), .string ⟨#[45]⟩, .agg #[.bool p, .bool mi, .bool sh, .bool sp, .bool z, .int .i64 wid, .int .i64 prec, .int .i32 verb]] w fun e w' => e = .returned (.tuple #[.string (numS (uN v) v.natAbs ⟨#[45]⟩ p mi sh z wid prec verb), .bool (numK verb)]) ∧ Below w.heap.size w w' := fun w hE => inum_any _ _ _ p mi sh sp z wid prec verb w hE hul (by omega) (by decide)
  generalize numS (uN v) v.natAbs ⟨#[45]⟩ p mi sh z wid prec verb = r at *
  generalize numK verb = k at *
  generalize uN v = u at *
  generalize v.natAbs = m at *
  go_enter Tryz.func168, Tryz.ntmps168
  go_wp2_with (go_at_call 207; refine (Cl.go0 (hN _ hE2)).mono ?_; rintro e w9 ⟨y, rfl, rfl⟩)
  go_ret2
  exact ⟨rfl, hbA.trans (y.below.mono hbA.size)⟩
 ·have hnat : uN v = v.natAbs := by unfold uN; omega
  rw [hnat]
  rw [hnat] at hW
  have hsg : sgS v p sp = signA p sp := by unfold sgS; rw [if_neg h]
  rw [hsg]
  have hS := isign_any p mi sh sp z wid prec verb
  have hN : ∀ w, Esc w → Calls Tryz.prog 207 #[.int .u64 (v.natAbs : Nat), .int .u64 (v.natAbs : Nat), .string (signA p sp), .agg #[.bool p, .bool mi, .bool sh, .bool sp, .bool z, .int .i64 wid, .int .i64 prec, .int .i32 verb]] w fun e w' => e = .returned (.tuple #[.string (numS v.natAbs v.natAbs (signA p sp) p mi sh z wid prec verb), .bool (numK verb)]) ∧ Below w.heap.size w w' := fun w hE => inum_any _ _ _ p mi sh sp z wid prec verb w hE (by omega) (by omega) (signA_size p sp)
  have hvn : v = (v.natAbs : Nat) := by omega
  generalize numS v.natAbs v.natAbs (signA p sp) p mi sh z wid prec verb = r at *
  generalize numK verb = k at *
  generalize signA p sp = sg at *
  generalize v.natAbs = m at *
  subst hvn
  go_enter Tryz.func168, Tryz.ntmps168
  go_wp2
  refine wp_region_above (w.alloc (.cells #[.bool p, .bool mi, .bool sh, .bool sp, .bool z, .int .i64 wid, .int .i64 prec, .int .i32 verb] 113)) (Below.refl _ _) (by kernel_rfl) (by kernel_rfl) ?_
  intro hCl
  repeat (go_big_quiet_step ((first | (go_at_call 208; exact Cl.call (hS _)) | (go_at_call 207; exact Cl.call (hN _ (hE1 _))))))
  refine wpQuiet_nil ?_
  intro _ hw'
  obtain ⟨y, hx⟩ := hw'
  subst hx
  go_wp2
  go_ret2
  exact ⟨rfl, hbA.trans (y.below.mono hbA.size)⟩
end Go.Proofs.YtdlnmnipnkeabaaGreatDoor
