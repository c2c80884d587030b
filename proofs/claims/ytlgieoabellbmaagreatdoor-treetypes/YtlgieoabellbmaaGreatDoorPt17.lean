/- Quoted, TextA, GtB, GtC: these texts in one. -/
import Derived.Test.YtlgieoabellbmaaGreatDoorPt16
import Derived.Test.YtlgieoabellbmaaGreatDoorHexW
import Derived.Test.YtlgieoabellbmaaGreatDoorPt4
import Derived.Test.YtlgieoabellbmaaGreatDoorGtF
import Derived.Test.YtlgieoabellbmaaGreatDoorGtA
import Derived.Test.YtlgieoabellbmaaGreatDoorPt14
import Derived.Test.YtlgieoabellbmaaGreatDoorINumC
namespace Go.Proofs.YtlgieoabellbmaaGreatDoor
open Go.RowKit
set_option linter.unusedVariables false
def quotedS (s : ByteArray) (sh p : Bool) : ByteArray := cond (sh && rawF s 0) (rawT s) (quoS s p)
theorem quotedS_size (s : ByteArray) (sh p : Bool) : (quotedS s sh p).size ≤ 10 * s.size + 2 := by
 have h1 := quoS_size s p
 have h2 : (rawT s).size = s.size + 2 := by
  have h3 : (96 :: (s.data.toList ++ [96])).length = s.size + 2 := by
   rw [List.length_cons, List.length_append, list_len]; rfl
  exact h3
 unfold quotedS
 cases (sh && rawF s 0)
 ·exact h1
 ·show (rawT s).size ≤ _
  omega
set_option maxRecDepth 1000000 in
set_option maxHeartbeats 800000 in
theorem quoted_any (s : ByteArray) (p mi sh sp z : Bool) (wid prec verb : Int) (w : World) (hE : Esc w) (hs : s.size ≤ 90000) :
  Calls Tryz.prog 40 #[.string s, .agg #[.bool p, .bool mi, .bool sh, .bool sp, .bool z, .int .i64 wid, .int .i64 prec, .int .i32 verb]] w fun e w' => e = .returned (.string (quotedS s sh p)) ∧ Below w.heap.size w w' := by
 have hbA : Below w.heap.size w (w.alloc (.cells #[.bool p, .bool mi, .bool sh, .bool sp, .bool z, .int .i64 wid, .int .i64 prec, .int .i32 verb] 33)) := (Below.refl _ _).alloc (Nat.le_refl _) _
 have hE1 := hE.below hbA
 have d0 : (w.alloc (.cells #[.bool p, .bool mi, .bool sh, .bool sp, .bool z, .int .i64 wid, .int .i64 prec, .int .i32 verb] 33)).cell? ⟨w.heap.size, 0, none⟩ = some (.bool p) := by simp
 have d1 : (w.alloc (.cells #[.bool p, .bool mi, .bool sh, .bool sp, .bool z, .int .i64 wid, .int .i64 prec, .int .i32 verb] 33)).cell? ⟨w.heap.size, 1, none⟩ = some (.bool mi) := by simp
 have d2 : (w.alloc (.cells #[.bool p, .bool mi, .bool sh, .bool sp, .bool z, .int .i64 wid, .int .i64 prec, .int .i32 verb] 33)).cell? ⟨w.heap.size, 2, none⟩ = some (.bool sh) := by simp
 have d3 : (w.alloc (.cells #[.bool p, .bool mi, .bool sh, .bool sp, .bool z, .int .i64 wid, .int .i64 prec, .int .i32 verb] 33)).cell? ⟨w.heap.size, 3, none⟩ = some (.bool sp) := by simp
 have d4 : (w.alloc (.cells #[.bool p, .bool mi, .bool sh, .bool sp, .bool z, .int .i64 wid, .int .i64 prec, .int .i32 verb] 33)).cell? ⟨w.heap.size, 4, none⟩ = some (.bool z) := by simp
 have d5 : (w.alloc (.cells #[.bool p, .bool mi, .bool sh, .bool sp, .bool z, .int .i64 wid, .int .i64 prec, .int .i32 verb] 33)).cell? ⟨w.heap.size, 5, none⟩ = some (.int .i64 wid) := by simp
 have d6 : (w.alloc (.cells #[.bool p, .bool mi, .bool sh, .bool sp, .bool z, .int .i64 wid, .int .i64 prec, .int .i32 verb] 33)).cell? ⟨w.heap.size, 6, none⟩ = some (.int .i64 prec) := by simp
 have d7 : (w.alloc (.cells #[.bool p, .bool mi, .bool sh, .bool sp, .bool z, .int .i64 wid, .int .i64 prec, .int .i32 verb] 33)).cell? ⟨w.heap.size, 7, none⟩ = some (.int .i32 verb) := by simp
 have hQ : ∀ w, Esc w → Calls Tryz.prog 37 #[.string s, .bool p] w fun e w' => e = .returned (.string (quoS s p)) ∧ Below w.heap.size w w' := fun w hE => quote_any s p w hE (by omega)
 have hR : ∀ b, rawF s 0 = b → ∀ w, Calls Tryz.prog 79 #[.string s] w fun e w' => e = .returned (.tuple #[.string (cond b (rawT s) ⟨#[]⟩), .bool b]) ∧ Below w.heap.size w w' := fun b h w => qraw_any s b w (by omega) h
 have HQ : Hid (∀ b, rawF s 0 = b → quotedS s true p = cond b (rawT s) (quoS s p)) := fun b h => by unfold quotedS; rw [h]; rfl
 have HQ0 : Hid (quotedS s false p = quoS s p) := by show _ = _; unfold quotedS; rfl
 cases sh with
 | false =>
   rw [HQ0.out]
   generalize quoS s p = r at *
   clear hR HQ HQ0
   go_enter Tryz.func40, Tryz.ntmps40
   go_wp2_with (go_at_call 37; refine (hQ _ hE1).mono ?_; rintro e w2 ⟨rfl, hb2⟩)
   go_ret
   exact ⟨rfl, hbA.trans (hb2.mono hbA.size)⟩
 | true =>
   cases hb : rawF s 0 with
   | true =>
     rw [HQ.out true hb]
     replace hR := hR true hb
     clear hb HQ HQ0 hQ
     generalize rawT s = t at *
     generalize quoS s p = r at *
     go_enter Tryz.func40, Tryz.ntmps40
     go_wp2_with (go_at_call 79; refine (hR _).mono ?_; rintro e w2 ⟨rfl, hb2⟩)
     go_ret
     exact ⟨rfl, hbA.trans (hb2.mono hbA.size)⟩
   | false =>
     rw [HQ.out false hb]
     replace hR := hR false hb
     clear hb HQ HQ0
     generalize rawT s = t at *
     generalize quoS s p = r at *
     go_enter Tryz.func40, Tryz.ntmps40
     go_wp2_with (first | (go_at_call 79; refine (hR _).mono ?_; rintro e w2 ⟨rfl, hb2⟩; have f0 := (hb2.cell (p := ⟨w.heap.size, 0, none⟩) (by simp)).trans d0) | (go_at_call 37; refine (hQ _ (hE1.below hb2)).mono ?_; rintro e w3 ⟨rfl, hb3⟩))
     go_ret
     exact ⟨rfl, hbA.trans ((hb2.trans (hb3.mono hb2.size)).mono hbA.size)⟩
end Go.Proofs.YtlgieoabellbmaaGreatDoor
namespace Go.Proofs.YtlgieoabellbmaaGreatDoor
open Go.RowKit
set_option linter.unusedVariables false
set_option maxRecDepth 1000000 in
set_option maxHeartbeats 2000000 in
theorem text_s0 (s : ByteArray) (p mi sp z : Bool) (wid prec : Int) (w : World) (hE : Esc w) (hs : s.size ≤ 9000) (hpr : prec ≤ 9223372036854775807) :
  Calls Tryz.prog 24 #[.string s, .agg #[.bool p, .bool mi, .bool false, .bool sp, .bool z, .int .i64 wid, .int .i64 prec, .int .i32 115]] w fun e w' => e = .returned (.tuple #[.string (padS (cutS s (min prec 1000)) mi z wid), .bool true]) ∧ Below w.heap.size w w' := by
 have hbA : Below w.heap.size w (w.alloc (.cells #[.bool p, .bool mi, .bool false, .bool sp, .bool z, .int .i64 wid, .int .i64 prec, .int .i32 115] 33)) := (Below.refl _ _).alloc (Nat.le_refl _) _
 have f0 : ∀ x : Cl (w.alloc (.cells #[.bool p, .bool mi, .bool false, .bool sp, .bool z, .int .i64 wid, .int .i64 prec, .int .i32 115] 33)), x.w.cell? ⟨w.heap.size, 0, none⟩ = some (.bool p) := fun x => x.cell (by simp)
 have f1 : ∀ x : Cl (w.alloc (.cells #[.bool p, .bool mi, .bool false, .bool sp, .bool z, .int .i64 wid, .int .i64 prec, .int .i32 115] 33)), x.w.cell? ⟨w.heap.size, 1, none⟩ = some (.bool mi) := fun x => x.cell (by simp)
 have f2 : ∀ x : Cl (w.alloc (.cells #[.bool p, .bool mi, .bool false, .bool sp, .bool z, .int .i64 wid, .int .i64 prec, .int .i32 115] 33)), x.w.cell? ⟨w.heap.size, 2, none⟩ = some (.bool false) := fun x => x.cell (by simp)
 have f3 : ∀ x : Cl (w.alloc (.cells #[.bool p, .bool mi, .bool false, .bool sp, .bool z, .int .i64 wid, .int .i64 prec, .int .i32 115] 33)), x.w.cell? ⟨w.heap.size, 3, none⟩ = some (.bool sp) := fun x => x.cell (by simp)
 have f4 : ∀ x : Cl (w.alloc (.cells #[.bool p, .bool mi, .bool false, .bool sp, .bool z, .int .i64 wid, .int .i64 prec, .int .i32 115] 33)), x.w.cell? ⟨w.heap.size, 4, none⟩ = some (.bool z) := fun x => x.cell (by simp)
 have f5 : ∀ x : Cl (w.alloc (.cells #[.bool p, .bool mi, .bool false, .bool sp, .bool z, .int .i64 wid, .int .i64 prec, .int .i32 115] 33)), x.w.cell? ⟨w.heap.size, 5, none⟩ = some (.int .i64 wid) := fun x => x.cell (by simp)
 have f6 : ∀ x : Cl (w.alloc (.cells #[.bool p, .bool mi, .bool false, .bool sp, .bool z, .int .i64 wid, .int .i64 prec, .int .i32 115] 33)), x.w.cell? ⟨w.heap.size, 6, none⟩ = some (.int .i64 prec) := fun x => x.cell (by simp)
 have f7 : ∀ x : Cl (w.alloc (.cells #[.bool p, .bool mi, .bool false, .bool sp, .bool z, .int .i64 wid, .int .i64 prec, .int .i32 115] 33)), x.w.cell? ⟨w.heap.size, 7, none⟩ = some (.int .i32 115) := fun x => x.cell (by simp)
 have hE1 : ∀ x : Cl (w.alloc (.cells #[.bool p, .bool mi, .bool false, .bool sp, .bool z, .int .i64 wid, .int .i64 prec, .int .i32 115] 33)), Esc x.w := fun x => (hE.below hbA).below x.below
 have hP := prec_any p mi false sp z wid prec 115
 have hcs := (cut_facts s (min prec 1000)).1
 have hC : ∀ w, Calls Tryz.prog 38 #[.string s, .int .i64 (min prec 1000)] w fun e w' => e = .returned (.string (cutS s (min prec 1000))) ∧ Below w.heap.size w w' := fun w => cut_any s _ w (by unfold maxLen; omega) (by omega)
 have hPd : ∀ w, Calls Tryz.prog 36 #[.string (cutS s (min prec 1000)), .agg #[.bool p, .bool mi, .bool false, .bool sp, .bool z, .int .i64 wid, .int .i64 prec, .int .i32 115]] w fun e w' => e = .returned (.string (padS (cutS s (min prec 1000)) mi z wid)) ∧ Below w.heap.size w w' := fun w => pad_any _ p mi false sp z wid prec 115 w (by omega)
 clear hcs
 generalize padS (cutS s (min prec 1000)) mi z wid = rr at *
 generalize cutS s (min prec 1000) = r at *
 generalize min prec 1000 = q at *
 go_enter Tryz.func24, Tryz.ntmps24
 go_wp2
 refine wp_region_above (w.alloc (.cells #[.bool p, .bool mi, .bool false, .bool sp, .bool z, .int .i64 wid, .int .i64 prec, .int .i32 115] 33)) (Below.refl _ _) (by kernel_rfl) (by kernel_rfl) ?_
 intro hCl
 repeat (go_big_quiet_step ((first | (go_at_call 39; exact Cl.call (hP _)) | (go_at_call 38; exact Cl.call (hC _)) | (go_at_call 36; exact Cl.call (hPd _)))))
 refine wpQuiet_nil ?_
 intro _ hw'
 obtain ⟨x, hx⟩ := hw'
 subst hx
 go_wp2
 go_ret2
 exact ⟨rfl, hbA.trans (x.below.mono hbA.size)⟩
set_option maxRecDepth 1000000 in
set_option maxHeartbeats 2000000 in
theorem text_s1 (s : ByteArray) (p mi sp z : Bool) (wid prec : Int) (w : World) (hE : Esc w) (hs : s.size ≤ 9000) (hpr : prec ≤ 9223372036854775807) :
  Calls Tryz.prog 24 #[.string s, .agg #[.bool p, .bool mi, .bool true, .bool sp, .bool z, .int .i64 wid, .int .i64 prec, .int .i32 115]] w fun e w' => e = .returned (.tuple #[.string (padS (cutS s (min prec 1000)) mi z wid), .bool true]) ∧ Below w.heap.size w w' := by
 have hbA : Below w.heap.size w (w.alloc (.cells #[.bool p, .bool mi, .bool true, .bool sp, .bool z, .int .i64 wid, .int .i64 prec, .int .i32 115] 33)) := (Below.refl _ _).alloc (Nat.le_refl _) _
 have f0 : ∀ x : Cl (w.alloc (.cells #[.bool p, .bool mi, .bool true, .bool sp, .bool z, .int .i64 wid, .int .i64 prec, .int .i32 115] 33)), x.w.cell? ⟨w.heap.size, 0, none⟩ = some (.bool p) := fun x => x.cell (by simp)
 have f1 : ∀ x : Cl (w.alloc (.cells #[.bool p, .bool mi, .bool true, .bool sp, .bool z, .int .i64 wid, .int .i64 prec, .int .i32 115] 33)), x.w.cell? ⟨w.heap.size, 1, none⟩ = some (.bool mi) := fun x => x.cell (by simp)
 have f2 : ∀ x : Cl (w.alloc (.cells #[.bool p, .bool mi, .bool true, .bool sp, .bool z, .int .i64 wid, .int .i64 prec, .int .i32 115] 33)), x.w.cell? ⟨w.heap.size, 2, none⟩ = some (.bool true) := fun x => x.cell (by simp)
 have f3 : ∀ x : Cl (w.alloc (.cells #[.bool p, .bool mi, .bool true, .bool sp, .bool z, .int .i64 wid, .int .i64 prec, .int .i32 115] 33)), x.w.cell? ⟨w.heap.size, 3, none⟩ = some (.bool sp) := fun x => x.cell (by simp)
 have f4 : ∀ x : Cl (w.alloc (.cells #[.bool p, .bool mi, .bool true, .bool sp, .bool z, .int .i64 wid, .int .i64 prec, .int .i32 115] 33)), x.w.cell? ⟨w.heap.size, 4, none⟩ = some (.bool z) := fun x => x.cell (by simp)
 have f5 : ∀ x : Cl (w.alloc (.cells #[.bool p, .bool mi, .bool true, .bool sp, .bool z, .int .i64 wid, .int .i64 prec, .int .i32 115] 33)), x.w.cell? ⟨w.heap.size, 5, none⟩ = some (.int .i64 wid) := fun x => x.cell (by simp)
 have f6 : ∀ x : Cl (w.alloc (.cells #[.bool p, .bool mi, .bool true, .bool sp, .bool z, .int .i64 wid, .int .i64 prec, .int .i32 115] 33)), x.w.cell? ⟨w.heap.size, 6, none⟩ = some (.int .i64 prec) := fun x => x.cell (by simp)
 have f7 : ∀ x : Cl (w.alloc (.cells #[.bool p, .bool mi, .bool true, .bool sp, .bool z, .int .i64 wid, .int .i64 prec, .int .i32 115] 33)), x.w.cell? ⟨w.heap.size, 7, none⟩ = some (.int .i32 115) := fun x => x.cell (by simp)
 have hE1 : ∀ x : Cl (w.alloc (.cells #[.bool p, .bool mi, .bool true, .bool sp, .bool z, .int .i64 wid, .int .i64 prec, .int .i32 115] 33)), Esc x.w := fun x => (hE.below hbA).below x.below
 have hP := prec_any p mi true sp z wid prec 115
 have hcs := (cut_facts s (min prec 1000)).1
 have hC : ∀ w, Calls Tryz.prog 38 #[.string s, .int .i64 (min prec 1000)] w fun e w' => e = .returned (.string (cutS s (min prec 1000))) ∧ Below w.heap.size w w' := fun w => cut_any s _ w (by unfold maxLen; omega) (by omega)
 have hPd : ∀ w, Calls Tryz.prog 36 #[.string (cutS s (min prec 1000)), .agg #[.bool p, .bool mi, .bool true, .bool sp, .bool z, .int .i64 wid, .int .i64 prec, .int .i32 115]] w fun e w' => e = .returned (.string (padS (cutS s (min prec 1000)) mi z wid)) ∧ Below w.heap.size w w' := fun w => pad_any _ p mi true sp z wid prec 115 w (by omega)
 clear hcs
 generalize padS (cutS s (min prec 1000)) mi z wid = rr at *
 generalize cutS s (min prec 1000) = r at *
 generalize min prec 1000 = q at *
 go_enter Tryz.func24, Tryz.ntmps24
 go_wp2
 refine wp_region_above (w.alloc (.cells #[.bool p, .bool mi, .bool true, .bool sp, .bool z, .int .i64 wid, .int .i64 prec, .int .i32 115] 33)) (Below.refl _ _) (by kernel_rfl) (by kernel_rfl) ?_
 intro hCl
 repeat (go_big_quiet_step ((first | (go_at_call 39; exact Cl.call (hP _)) | (go_at_call 38; exact Cl.call (hC _)) | (go_at_call 36; exact Cl.call (hPd _)))))
 refine wpQuiet_nil ?_
 intro _ hw'
 obtain ⟨x, hx⟩ := hw'
 subst hx
 go_wp2
 go_ret2
 exact ⟨rfl, hbA.trans (x.below.mono hbA.size)⟩
set_option maxRecDepth 1000000 in
set_option maxHeartbeats 2000000 in
theorem text_v0 (s : ByteArray) (p mi sp z : Bool) (wid prec : Int) (w : World) (hE : Esc w) (hs : s.size ≤ 9000) (hpr : prec ≤ 9223372036854775807) :
  Calls Tryz.prog 24 #[.string s, .agg #[.bool p, .bool mi, .bool false, .bool sp, .bool z, .int .i64 wid, .int .i64 prec, .int .i32 118]] w fun e w' => e = .returned (.tuple #[.string (padS (cutS s (min prec 1000)) mi z wid), .bool true]) ∧ Below w.heap.size w w' := by
 have hbA : Below w.heap.size w (w.alloc (.cells #[.bool p, .bool mi, .bool false, .bool sp, .bool z, .int .i64 wid, .int .i64 prec, .int .i32 118] 33)) := (Below.refl _ _).alloc (Nat.le_refl _) _
 have f0 : ∀ x : Cl (w.alloc (.cells #[.bool p, .bool mi, .bool false, .bool sp, .bool z, .int .i64 wid, .int .i64 prec, .int .i32 118] 33)), x.w.cell? ⟨w.heap.size, 0, none⟩ = some (.bool p) := fun x => x.cell (by simp)
 have f1 : ∀ x : Cl (w.alloc (.cells #[.bool p, .bool mi, .bool false, .bool sp, .bool z, .int .i64 wid, .int .i64 prec, .int .i32 118] 33)), x.w.cell? ⟨w.heap.size, 1, none⟩ = some (.bool mi) := fun x => x.cell (by simp)
 have f2 : ∀ x : Cl (w.alloc (.cells #[.bool p, .bool mi, .bool false, .bool sp, .bool z, .int .i64 wid, .int .i64 prec, .int .i32 118] 33)), x.w.cell? ⟨w.heap.size, 2, none⟩ = some (.bool false) := fun x => x.cell (by simp)
 have f3 : ∀ x : Cl (w.alloc (.cells #[.bool p, .bool mi, .bool false, .bool sp, .bool z, .int .i64 wid, .int .i64 prec, .int .i32 118] 33)), x.w.cell? ⟨w.heap.size, 3, none⟩ = some (.bool sp) := fun x => x.cell (by simp)
 have f4 : ∀ x : Cl (w.alloc (.cells #[.bool p, .bool mi, .bool false, .bool sp, .bool z, .int .i64 wid, .int .i64 prec, .int .i32 118] 33)), x.w.cell? ⟨w.heap.size, 4, none⟩ = some (.bool z) := fun x => x.cell (by simp)
 have f5 : ∀ x : Cl (w.alloc (.cells #[.bool p, .bool mi, .bool false, .bool sp, .bool z, .int .i64 wid, .int .i64 prec, .int .i32 118] 33)), x.w.cell? ⟨w.heap.size, 5, none⟩ = some (.int .i64 wid) := fun x => x.cell (by simp)
 have f6 : ∀ x : Cl (w.alloc (.cells #[.bool p, .bool mi, .bool false, .bool sp, .bool z, .int .i64 wid, .int .i64 prec, .int .i32 118] 33)), x.w.cell? ⟨w.heap.size, 6, none⟩ = some (.int .i64 prec) := fun x => x.cell (by simp)
 have f7 : ∀ x : Cl (w.alloc (.cells #[.bool p, .bool mi, .bool false, .bool sp, .bool z, .int .i64 wid, .int .i64 prec, .int .i32 118] 33)), x.w.cell? ⟨w.heap.size, 7, none⟩ = some (.int .i32 118) := fun x => x.cell (by simp)
 have hE1 : ∀ x : Cl (w.alloc (.cells #[.bool p, .bool mi, .bool false, .bool sp, .bool z, .int .i64 wid, .int .i64 prec, .int .i32 118] 33)), Esc x.w := fun x => (hE.below hbA).below x.below
 have hP := prec_any p mi false sp z wid prec 118
 have hcs := (cut_facts s (min prec 1000)).1
 have hC : ∀ w, Calls Tryz.prog 38 #[.string s, .int .i64 (min prec 1000)] w fun e w' => e = .returned (.string (cutS s (min prec 1000))) ∧ Below w.heap.size w w' := fun w => cut_any s _ w (by unfold maxLen; omega) (by omega)
 have hPd : ∀ w, Calls Tryz.prog 36 #[.string (cutS s (min prec 1000)), .agg #[.bool p, .bool mi, .bool false, .bool sp, .bool z, .int .i64 wid, .int .i64 prec, .int .i32 118]] w fun e w' => e = .returned (.string (padS (cutS s (min prec 1000)) mi z wid)) ∧ Below w.heap.size w w' := fun w => pad_any _ p mi false sp z wid prec 118 w (by omega)
 clear hcs
 generalize padS (cutS s (min prec 1000)) mi z wid = rr at *
 generalize cutS s (min prec 1000) = r at *
 generalize min prec 1000 = q at *
 go_enter Tryz.func24, Tryz.ntmps24
 go_wp2
 refine wp_region_above (w.alloc (.cells #[.bool p, .bool mi, .bool false, .bool sp, .bool z, .int .i64 wid, .int .i64 prec, .int .i32 118] 33)) (Below.refl _ _) (by kernel_rfl) (by kernel_rfl) ?_
 intro hCl
 repeat (go_big_quiet_step ((first | (go_at_call 39; exact Cl.call (hP _)) | (go_at_call 38; exact Cl.call (hC _)) | (go_at_call 36; exact Cl.call (hPd _)))))
 refine wpQuiet_nil ?_
 intro _ hw'
 obtain ⟨x, hx⟩ := hw'
 subst hx
 go_wp2
 go_ret2
 exact ⟨rfl, hbA.trans (x.below.mono hbA.size)⟩
set_option maxRecDepth 1000000 in
set_option maxHeartbeats 2000000 in
theorem text_v1 (s : ByteArray) (p mi sp z : Bool) (wid prec : Int) (w : World) (hE : Esc w) (hs : s.size ≤ 9000) (hpr : prec ≤ 9223372036854775807) :
  Calls Tryz.prog 24 #[.string s, .agg #[.bool p, .bool mi, .bool true, .bool sp, .bool z, .int .i64 wid, .int .i64 prec, .int .i32 118]] w fun e w' => e = .returned (.tuple #[.string (padS (quoS s false) mi z wid), .bool true]) ∧ Below w.heap.size w w' := by
 have hbA : Below w.heap.size w (w.alloc (.cells #[.bool p, .bool mi, .bool true, .bool sp, .bool z, .int .i64 wid, .int .i64 prec, .int .i32 118] 33)) := (Below.refl _ _).alloc (Nat.le_refl _) _
 have f0 : ∀ x : Cl (w.alloc (.cells #[.bool p, .bool mi, .bool true, .bool sp, .bool z, .int .i64 wid, .int .i64 prec, .int .i32 118] 33)), x.w.cell? ⟨w.heap.size, 0, none⟩ = some (.bool p) := fun x => x.cell (by simp)
 have f1 : ∀ x : Cl (w.alloc (.cells #[.bool p, .bool mi, .bool true, .bool sp, .bool z, .int .i64 wid, .int .i64 prec, .int .i32 118] 33)), x.w.cell? ⟨w.heap.size, 1, none⟩ = some (.bool mi) := fun x => x.cell (by simp)
 have f2 : ∀ x : Cl (w.alloc (.cells #[.bool p, .bool mi, .bool true, .bool sp, .bool z, .int .i64 wid, .int .i64 prec, .int .i32 118] 33)), x.w.cell? ⟨w.heap.size, 2, none⟩ = some (.bool true) := fun x => x.cell (by simp)
 have f3 : ∀ x : Cl (w.alloc (.cells #[.bool p, .bool mi, .bool true, .bool sp, .bool z, .int .i64 wid, .int .i64 prec, .int .i32 118] 33)), x.w.cell? ⟨w.heap.size, 3, none⟩ = some (.bool sp) := fun x => x.cell (by simp)
 have f4 : ∀ x : Cl (w.alloc (.cells #[.bool p, .bool mi, .bool true, .bool sp, .bool z, .int .i64 wid, .int .i64 prec, .int .i32 118] 33)), x.w.cell? ⟨w.heap.size, 4, none⟩ = some (.bool z) := fun x => x.cell (by simp)
 have f5 : ∀ x : Cl (w.alloc (.cells #[.bool p, .bool mi, .bool true, .bool sp, .bool z, .int .i64 wid, .int .i64 prec, .int .i32 118] 33)), x.w.cell? ⟨w.heap.size, 5, none⟩ = some (.int .i64 wid) := fun x => x.cell (by simp)
 have f6 : ∀ x : Cl (w.alloc (.cells #[.bool p, .bool mi, .bool true, .bool sp, .bool z, .int .i64 wid, .int .i64 prec, .int .i32 118] 33)), x.w.cell? ⟨w.heap.size, 6, none⟩ = some (.int .i64 prec) := fun x => x.cell (by simp)
 have f7 : ∀ x : Cl (w.alloc (.cells #[.bool p, .bool mi, .bool true, .bool sp, .bool z, .int .i64 wid, .int .i64 prec, .int .i32 118] 33)), x.w.cell? ⟨w.heap.size, 7, none⟩ = some (.int .i32 118) := fun x => x.cell (by simp)
 have hE1 : ∀ x : Cl (w.alloc (.cells #[.bool p, .bool mi, .bool true, .bool sp, .bool z, .int .i64 wid, .int .i64 prec, .int .i32 118] 33)), Esc x.w := fun x => (hE.below hbA).below x.below
 have hqs := quoS_size s false
 have hQ : ∀ w, Esc w → Calls Tryz.prog 37 #[.string s, .bool false] w fun e w' => e = .returned (.string (quoS s false)) ∧ Below w.heap.size w w' := fun w hE => quote_any s false w hE (by omega)
 have hPd : ∀ w, Calls Tryz.prog 36 #[.string (quoS s false), .agg #[.bool p, .bool mi, .bool true, .bool sp, .bool z, .int .i64 wid, .int .i64 prec, .int .i32 118]] w fun e w' => e = .returned (.string (padS (quoS s false) mi z wid)) ∧ Below w.heap.size w w' := fun w => pad_any _ p mi true sp z wid prec 118 w (by omega)
 clear hqs
 generalize padS (quoS s false) mi z wid = rr at *
 generalize quoS s false = r at *
 go_enter Tryz.func24, Tryz.ntmps24
 go_wp2
 refine wp_region_above (w.alloc (.cells #[.bool p, .bool mi, .bool true, .bool sp, .bool z, .int .i64 wid, .int .i64 prec, .int .i32 118] 33)) (Below.refl _ _) (by kernel_rfl) (by kernel_rfl) ?_
 intro hCl
 repeat (go_big_quiet_step ((first | (go_at_call 37; exact Cl.call (hQ _ (hE1 _))) | (go_at_call 36; exact Cl.call (hPd _)))))
 refine wpQuiet_nil ?_
 intro _ hw'
 obtain ⟨x, hx⟩ := hw'
 subst hx
 go_wp2
 go_ret2
 exact ⟨rfl, hbA.trans (x.below.mono hbA.size)⟩
set_option maxRecDepth 1000000 in
set_option maxHeartbeats 2000000 in
theorem text_q (s : ByteArray) (p mi sh sp z : Bool) (wid prec : Int) (w : World) (hE : Esc w) (hs : s.size ≤ 9000) (hpr : prec ≤ 9223372036854775807) :
  Calls Tryz.prog 24 #[.string s, .agg #[.bool p, .bool mi, .bool sh, .bool sp, .bool z, .int .i64 wid, .int .i64 prec, .int .i32 113]] w fun e w' => e = .returned (.tuple #[.string (padS (quotedS (cutS s (min prec 1000)) sh p) mi z wid), .bool true]) ∧ Below w.heap.size w w' := by
 have hbA : Below w.heap.size w (w.alloc (.cells #[.bool p, .bool mi, .bool sh, .bool sp, .bool z, .int .i64 wid, .int .i64 prec, .int .i32 113] 33)) := (Below.refl _ _).alloc (Nat.le_refl _) _
 have f0 : ∀ x : Cl (w.alloc (.cells #[.bool p, .bool mi, .bool sh, .bool sp, .bool z, .int .i64 wid, .int .i64 prec, .int .i32 113] 33)), x.w.cell? ⟨w.heap.size, 0, none⟩ = some (.bool p) := fun x => x.cell (by simp)
 have f1 : ∀ x : Cl (w.alloc (.cells #[.bool p, .bool mi, .bool sh, .bool sp, .bool z, .int .i64 wid, .int .i64 prec, .int .i32 113] 33)), x.w.cell? ⟨w.heap.size, 1, none⟩ = some (.bool mi) := fun x => x.cell (by simp)
 have f2 : ∀ x : Cl (w.alloc (.cells #[.bool p, .bool mi, .bool sh, .bool sp, .bool z, .int .i64 wid, .int .i64 prec, .int .i32 113] 33)), x.w.cell? ⟨w.heap.size, 2, none⟩ = some (.bool sh) := fun x => x.cell (by simp)
 have f3 : ∀ x : Cl (w.alloc (.cells #[.bool p, .bool mi, .bool sh, .bool sp, .bool z, .int .i64 wid, .int .i64 prec, .int .i32 113] 33)), x.w.cell? ⟨w.heap.size, 3, none⟩ = some (.bool sp) := fun x => x.cell (by simp)
 have f4 : ∀ x : Cl (w.alloc (.cells #[.bool p, .bool mi, .bool sh, .bool sp, .bool z, .int .i64 wid, .int .i64 prec, .int .i32 113] 33)), x.w.cell? ⟨w.heap.size, 4, none⟩ = some (.bool z) := fun x => x.cell (by simp)
 have f5 : ∀ x : Cl (w.alloc (.cells #[.bool p, .bool mi, .bool sh, .bool sp, .bool z, .int .i64 wid, .int .i64 prec, .int .i32 113] 33)), x.w.cell? ⟨w.heap.size, 5, none⟩ = some (.int .i64 wid) := fun x => x.cell (by simp)
 have f6 : ∀ x : Cl (w.alloc (.cells #[.bool p, .bool mi, .bool sh, .bool sp, .bool z, .int .i64 wid, .int .i64 prec, .int .i32 113] 33)), x.w.cell? ⟨w.heap.size, 6, none⟩ = some (.int .i64 prec) := fun x => x.cell (by simp)
 have f7 : ∀ x : Cl (w.alloc (.cells #[.bool p, .bool mi, .bool sh, .bool sp, .bool z, .int .i64 wid, .int .i64 prec, .int .i32 113] 33)), x.w.cell? ⟨w.heap.size, 7, none⟩ = some (.int .i32 113) := fun x => x.cell (by simp)
 have hE1 : ∀ x : Cl (w.alloc (.cells #[.bool p, .bool mi, .bool sh, .bool sp, .bool z, .int .i64 wid, .int .i64 prec, .int .i32 113] 33)), Esc x.w := fun x => (hE.below hbA).below x.below
 have hP := prec_any p mi sh sp z wid prec 113
 have hcs := (cut_facts s (min prec 1000)).1
 have hqs := quotedS_size (cutS s (min prec 1000)) sh p
 have hC : ∀ w, Calls Tryz.prog 38 #[.string s, .int .i64 (min prec 1000)] w fun e w' => e = .returned (.string (cutS s (min prec 1000))) ∧ Below w.heap.size w w' := fun w => cut_any s _ w (by unfold maxLen; omega) (by omega)
 have hQ : ∀ w, Esc w → Calls Tryz.prog 40 #[.string (cutS s (min prec 1000)), .agg #[.bool p, .bool mi, .bool sh, .bool sp, .bool z, .int .i64 wid, .int .i64 prec, .int .i32 113]] w fun e w' => e = .returned (.string (quotedS (cutS s (min prec 1000)) sh p)) ∧ Below w.heap.size w w' := fun w hE => quoted_any _ p mi sh sp z wid prec 113 w hE (by omega)
 have hPd : ∀ w, Calls Tryz.prog 36 #[.string (quotedS (cutS s (min prec 1000)) sh p), .agg #[.bool p, .bool mi, .bool sh, .bool sp, .bool z, .int .i64 wid, .int .i64 prec, .int .i32 113]] w fun e w' => e = .returned (.string (padS (quotedS (cutS s (min prec 1000)) sh p) mi z wid)) ∧ Below w.heap.size w w' := fun w => pad_any _ p mi sh sp z wid prec 113 w (by omega)
 clear hcs hqs
 generalize padS (quotedS (cutS s (min prec 1000)) sh p) mi z wid = rr at *
 generalize quotedS (cutS s (min prec 1000)) sh p = r2 at *
 generalize cutS s (min prec 1000) = r at *
 generalize min prec 1000 = q at *
 go_enter Tryz.func24, Tryz.ntmps24
 go_wp2
 refine wp_region_above (w.alloc (.cells #[.bool p, .bool mi, .bool sh, .bool sp, .bool z, .int .i64 wid, .int .i64 prec, .int .i32 113] 33)) (Below.refl _ _) (by kernel_rfl) (by kernel_rfl) ?_
 intro hCl
 repeat (go_big_quiet_step ((first | (go_at_call 39; exact Cl.call (hP _)) | (go_at_call 38; exact Cl.call (hC _)) | (go_at_call 40; exact Cl.call (hQ _ (hE1 _))) | (go_at_call 36; exact Cl.call (hPd _)))))
 refine wpQuiet_nil ?_
 intro _ hw'
 obtain ⟨x, hx⟩ := hw'
 subst hx
 go_wp2
 go_ret2
 exact ⟨rfl, hbA.trans (x.below.mono hbA.size)⟩
set_option maxRecDepth 1000000 in
set_option maxHeartbeats 2000000 in
theorem text_x (s : ByteArray) (p mi sh sp z : Bool) (wid prec : Int) (w : World) (hE : Esc w) (hs : s.size ≤ 9000) (hpr : prec ≤ 9223372036854775807) :
  Calls Tryz.prog 24 #[.string s, .agg #[.bool p, .bool mi, .bool sh, .bool sp, .bool z, .int .i64 wid, .int .i64 prec, .int .i32 120]] w fun e w' => e = .returned (.tuple #[.string (padS (hexS s sh sp false prec) mi z wid), .bool true]) ∧ Below w.heap.size w w' := by
 have hbA : Below w.heap.size w (w.alloc (.cells #[.bool p, .bool mi, .bool sh, .bool sp, .bool z, .int .i64 wid, .int .i64 prec, .int .i32 120] 33)) := (Below.refl _ _).alloc (Nat.le_refl _) _
 have f0 : ∀ x : Cl (w.alloc (.cells #[.bool p, .bool mi, .bool sh, .bool sp, .bool z, .int .i64 wid, .int .i64 prec, .int .i32 120] 33)), x.w.cell? ⟨w.heap.size, 0, none⟩ = some (.bool p) := fun x => x.cell (by simp)
 have f1 : ∀ x : Cl (w.alloc (.cells #[.bool p, .bool mi, .bool sh, .bool sp, .bool z, .int .i64 wid, .int .i64 prec, .int .i32 120] 33)), x.w.cell? ⟨w.heap.size, 1, none⟩ = some (.bool mi) := fun x => x.cell (by simp)
 have f2 : ∀ x : Cl (w.alloc (.cells #[.bool p, .bool mi, .bool sh, .bool sp, .bool z, .int .i64 wid, .int .i64 prec, .int .i32 120] 33)), x.w.cell? ⟨w.heap.size, 2, none⟩ = some (.bool sh) := fun x => x.cell (by simp)
 have f3 : ∀ x : Cl (w.alloc (.cells #[.bool p, .bool mi, .bool sh, .bool sp, .bool z, .int .i64 wid, .int .i64 prec, .int .i32 120] 33)), x.w.cell? ⟨w.heap.size, 3, none⟩ = some (.bool sp) := fun x => x.cell (by simp)
 have f4 : ∀ x : Cl (w.alloc (.cells #[.bool p, .bool mi, .bool sh, .bool sp, .bool z, .int .i64 wid, .int .i64 prec, .int .i32 120] 33)), x.w.cell? ⟨w.heap.size, 4, none⟩ = some (.bool z) := fun x => x.cell (by simp)
 have f5 : ∀ x : Cl (w.alloc (.cells #[.bool p, .bool mi, .bool sh, .bool sp, .bool z, .int .i64 wid, .int .i64 prec, .int .i32 120] 33)), x.w.cell? ⟨w.heap.size, 5, none⟩ = some (.int .i64 wid) := fun x => x.cell (by simp)
 have f6 : ∀ x : Cl (w.alloc (.cells #[.bool p, .bool mi, .bool sh, .bool sp, .bool z, .int .i64 wid, .int .i64 prec, .int .i32 120] 33)), x.w.cell? ⟨w.heap.size, 6, none⟩ = some (.int .i64 prec) := fun x => x.cell (by simp)
 have f7 : ∀ x : Cl (w.alloc (.cells #[.bool p, .bool mi, .bool sh, .bool sp, .bool z, .int .i64 wid, .int .i64 prec, .int .i32 120] 33)), x.w.cell? ⟨w.heap.size, 7, none⟩ = some (.int .i32 120) := fun x => x.cell (by simp)
 have hE1 : ∀ x : Cl (w.alloc (.cells #[.bool p, .bool mi, .bool sh, .bool sp, .bool z, .int .i64 wid, .int .i64 prec, .int .i32 120] 33)), Esc x.w := fun x => (hE.below hbA).below x.below
 have hX : ∀ w, Calls Tryz.prog 41 #[.string s, .agg #[.bool p, .bool mi, .bool sh, .bool sp, .bool z, .int .i64 wid, .int .i64 prec, .int .i32 120]] w fun e w' => e = .returned (.string (padS (hexS s sh sp false prec) mi z wid)) ∧ Below w.heap.size w w' := fun w => hex_any s p mi sh sp z wid prec 120 w (by omega)
 generalize padS (hexS s sh sp false prec) mi z wid = rr at *
 go_enter Tryz.func24, Tryz.ntmps24
 go_wp2_with (go_at_call 41; refine (hX _).mono ?_; rintro e w1 ⟨rfl, hb1⟩)
 go_ret2
 exact ⟨rfl, hbA.trans (hb1.mono hbA.size)⟩
set_option maxRecDepth 1000000 in
set_option maxHeartbeats 2000000 in
theorem text_X (s : ByteArray) (p mi sh sp z : Bool) (wid prec : Int) (w : World) (hE : Esc w) (hs : s.size ≤ 9000) (hpr : prec ≤ 9223372036854775807) :
  Calls Tryz.prog 24 #[.string s, .agg #[.bool p, .bool mi, .bool sh, .bool sp, .bool z, .int .i64 wid, .int .i64 prec, .int .i32 88]] w fun e w' => e = .returned (.tuple #[.string (padS (hexS s sh sp true prec) mi z wid), .bool true]) ∧ Below w.heap.size w w' := by
 have hbA : Below w.heap.size w (w.alloc (.cells #[.bool p, .bool mi, .bool sh, .bool sp, .bool z, .int .i64 wid, .int .i64 prec, .int .i32 88] 33)) := (Below.refl _ _).alloc (Nat.le_refl _) _
 have f0 : ∀ x : Cl (w.alloc (.cells #[.bool p, .bool mi, .bool sh, .bool sp, .bool z, .int .i64 wid, .int .i64 prec, .int .i32 88] 33)), x.w.cell? ⟨w.heap.size, 0, none⟩ = some (.bool p) := fun x => x.cell (by simp)
 have f1 : ∀ x : Cl (w.alloc (.cells #[.bool p, .bool mi, .bool sh, .bool sp, .bool z, .int .i64 wid, .int .i64 prec, .int .i32 88] 33)), x.w.cell? ⟨w.heap.size, 1, none⟩ = some (.bool mi) := fun x => x.cell (by simp)
 have f2 : ∀ x : Cl (w.alloc (.cells #[.bool p, .bool mi, .bool sh, .bool sp, .bool z, .int .i64 wid, .int .i64 prec, .int .i32 88] 33)), x.w.cell? ⟨w.heap.size, 2, none⟩ = some (.bool sh) := fun x => x.cell (by simp)
 have f3 : ∀ x : Cl (w.alloc (.cells #[.bool p, .bool mi, .bool sh, .bool sp, .bool z, .int .i64 wid, .int .i64 prec, .int .i32 88] 33)), x.w.cell? ⟨w.heap.size, 3, none⟩ = some (.bool sp) := fun x => x.cell (by simp)
 have f4 : ∀ x : Cl (w.alloc (.cells #[.bool p, .bool mi, .bool sh, .bool sp, .bool z, .int .i64 wid, .int .i64 prec, .int .i32 88] 33)), x.w.cell? ⟨w.heap.size, 4, none⟩ = some (.bool z) := fun x => x.cell (by simp)
 have f5 : ∀ x : Cl (w.alloc (.cells #[.bool p, .bool mi, .bool sh, .bool sp, .bool z, .int .i64 wid, .int .i64 prec, .int .i32 88] 33)), x.w.cell? ⟨w.heap.size, 5, none⟩ = some (.int .i64 wid) := fun x => x.cell (by simp)
 have f6 : ∀ x : Cl (w.alloc (.cells #[.bool p, .bool mi, .bool sh, .bool sp, .bool z, .int .i64 wid, .int .i64 prec, .int .i32 88] 33)), x.w.cell? ⟨w.heap.size, 6, none⟩ = some (.int .i64 prec) := fun x => x.cell (by simp)
 have f7 : ∀ x : Cl (w.alloc (.cells #[.bool p, .bool mi, .bool sh, .bool sp, .bool z, .int .i64 wid, .int .i64 prec, .int .i32 88] 33)), x.w.cell? ⟨w.heap.size, 7, none⟩ = some (.int .i32 88) := fun x => x.cell (by simp)
 have hE1 : ∀ x : Cl (w.alloc (.cells #[.bool p, .bool mi, .bool sh, .bool sp, .bool z, .int .i64 wid, .int .i64 prec, .int .i32 88] 33)), Esc x.w := fun x => (hE.below hbA).below x.below
 have hX : ∀ w, Calls Tryz.prog 41 #[.string s, .agg #[.bool p, .bool mi, .bool sh, .bool sp, .bool z, .int .i64 wid, .int .i64 prec, .int .i32 88]] w fun e w' => e = .returned (.string (padS (hexS s sh sp true prec) mi z wid)) ∧ Below w.heap.size w w' := fun w => hex_any s p mi sh sp z wid prec 88 w (by omega)
 generalize padS (hexS s sh sp true prec) mi z wid = rr at *
 go_enter Tryz.func24, Tryz.ntmps24
 go_wp2_with (go_at_call 41; refine (hX _).mono ?_; rintro e w1 ⟨rfl, hb1⟩)
 go_ret2
 exact ⟨rfl, hbA.trans (hb1.mono hbA.size)⟩
set_option maxRecDepth 1000000 in
set_option maxHeartbeats 2000000 in
theorem text_no (s : ByteArray) (p mi sh sp z : Bool) (wid prec verb : Int) (w : World) (h1 : ¬ verb = 118) (h2 : ¬ verb = 115) (h3 : ¬ verb = 113) (h4 : ¬ verb = 120) (h5 : ¬ verb = 88) :
  Calls Tryz.prog 24 #[.string s, .agg #[.bool p, .bool mi, .bool sh, .bool sp, .bool z, .int .i64 wid, .int .i64 prec, .int .i32 verb]] w fun e w' => e = .returned (.tuple #[.string ⟨#[]⟩, .bool false]) ∧ Below w.heap.size w w' := by
 go_enter Tryz.func24, Tryz.ntmps24
 go_wp2
 go_ret2
 exact ⟨rfl, (Below.refl _ _).alloc (Nat.le_refl _) _⟩
end Go.Proofs.YtlgieoabellbmaaGreatDoor
namespace Go.Proofs.YtlgieoabellbmaaGreatDoor
open Go.RowKit
set_option linter.unusedVariables false
set_option linter.unusedSimpArgs false
abbrev SV (f : Sq) : Value := .agg #[.bool f.p, .bool f.mi, .bool f.sh, .bool f.sp, .bool f.z, .int .i64 f.wid, .int .i64 f.prec, .int .i32 f.verb]
def bareQ (c : Int) : Sq := ⟨false, false, false, false, false, -1, -1, c⟩
theorem bare_any (c : Int) (w : World) : Calls Tryz.prog 11 #[.int .i32 c] w fun e w' => e = .returned (SV (bareQ c)) ∧ Below w.heap.size w w' := by
 unfold bareQ
 go_enter Tryz.func11, Tryz.ntmps11
 go_wp2
 go_returns
 exact ⟨rfl, by go_grown⟩
def numQ (f : Sq) : Sq := ⟨f.p && !decide (f.verb = 118), f.mi, f.sh, f.sp, f.z, f.wid, f.prec, f.verb⟩
set_option maxRecDepth 1000000 in
theorem forNumbers_any (f : Sq) (ask : Value) (w : World) : Calls Tryz.prog 85 #[WV f ask] w fun e w' => e = .returned (SV (numQ f)) ∧ Below w.heap.size w w' := by
 obtain ⟨p, mi, sh, sp, z, wid, prec, verb⟩ := f
 unfold numQ
 dsimp only
 by_cases h : verb = 118
 ·subst h
  cases p
  ·go_enter Tryz.func85, Tryz.ntmps85
   go_wp2
   go_returns
   exact ⟨rfl, by go_grown⟩
  ·go_enter Tryz.func85, Tryz.ntmps85
   go_wp2
   go_returns
   exact ⟨rfl, by go_grown⟩
 ·have hd : decide (verb = 118) = false := decide_eq_false h
  have hd2 : (!decide (verb = 118)) = true := by rw [hd]; rfl
  rw [hd2]
  cases p
  ·go_enter Tryz.func85, Tryz.ntmps85
   go_wp2
   go_returns
   exact ⟨rfl, by go_grown⟩
  ·go_enter Tryz.func85, Tryz.ntmps85
   go_wp2
   go_returns
   exact ⟨by simp [h], by go_grown⟩
set_option maxRecDepth 1000000 in
theorem asked_nil (f : Sq) (v : Value) (w : World) : Calls Tryz.prog 44 #[WV f .nilFunc, v] w fun e w' => e = .returned (.tuple #[.string ⟨#[]⟩, .bool false]) ∧ Below w.heap.size w w' := by
 obtain ⟨p, mi, sh, sp, z, wid, prec, verb⟩ := f
 have hq : ∀ w, (binOp .eql 35 .nilFunc .nilFunc).run Tryz.prog w = .ok (.bool true) w := fun w => by kernel_rfl
 go_enter_defers Tryz.func44, Tryz.ntmps44
 go_wp2
 refine ⟨.tuple #[.string ⟨#[]⟩, .bool false], by simp [results, Tryz.results44, go_sem], rfl, ?_⟩
 exact (((Below.refl _ _).alloc (Nat.le_refl _) _).alloc (by simp) _).alloc (by simp; omega) _
def numT (n : Int) (f : Sq) : ByteArray := numS (uN n) n.natAbs (sgS n (numQ f).p f.sp) (numQ f).p f.mi f.sh f.z f.wid f.prec f.verb
set_option maxRecDepth 1000000 in
set_option maxHeartbeats 2000000 in
theorem shaped_signed (f : Sq) (ask : Value) (ty : ByteArray) (depth n : Int) (w : World) (hE : Esc w) (h1 : -9223372036854775808 ≤ n) (h2 : n ≤ 9223372036854775807) :
  Calls Tryz.prog 45 #[WV f ask, .iface 144 (.int .i64 n), .string ty, .int .i64 depth] w fun e w' => e = .returned (.tuple #[.string (numT n f), .bool (numK f.verb)]) ∧ Below w.heap.size w w' := by
 have t1 : ∀ w, (Instr.typeAssert (.iface 144 (.int .i64 n)) 20 143 true).run Tryz.prog w = .ok (.tuple #[.bool false, .bool false]) w := fun w => by kernel_rfl
 have t2 : ∀ w, (Instr.typeAssert (.iface 144 (.int .i64 n)) 20 144 true).run Tryz.prog w = .ok (.tuple #[.int .i64 n, .bool true]) w := fun w => by kernel_rfl
 obtain ⟨W1, hW1⟩ : ∃ W1, W1 = w.alloc (.cells #[.bool f.p, .bool f.mi, .bool f.sh, .bool f.sp, .bool f.z, .int .i64 f.wid, .int .i64 f.prec, .int .i32 f.verb, ask] 57) := ⟨_, rfl⟩
 have b1 : Below w.heap.size w W1 := by rw [hW1]; exact (Below.refl _ _).alloc (Nat.le_refl _) _
 have hN := forNumbers_any f ask W1
 have hI := fun W (hE : Esc W) => isigned_any n (numQ f).p (numQ f).mi (numQ f).sh (numQ f).sp (numQ f).z (numQ f).wid (numQ f).prec (numQ f).verb W hE h1 h2
 have e1 : numS (uN n) n.natAbs (sgS n (numQ f).p (numQ f).sp) (numQ f).p (numQ f).mi (numQ f).sh (numQ f).z (numQ f).wid (numQ f).prec (numQ f).verb = numT n f := rfl
 have e2 : numK (numQ f).verb = numK f.verb := rfl
 simp only [e1, e2] at hI
 clear e1 e2
 go_enter Tryz.func45, Tryz.ntmps45
 go_upto_region 7 with fail
 rw [← hW1]
 have a1 : At9 W1 w.heap.size f ask := by
  rw [hW1]
  refine ⟨?_, ?_, ?_, ?_, ?_, ?_, ?_, ?_, ?_⟩
  all_goals simp [go_sem]
 clear hW1
 obtain ⟨q0, q1, q2, q3, q4, q5, q6, q7, q8⟩ := a1
 go_wp2_with (first
  | (go_at_call 85; refine hN.mono ?_; rintro e W2 ⟨rfl, b2⟩; have hE2 := (hE.below b1).below b2)
  | (go_at_call 84; refine (hI _ hE2).mono ?_; rintro e W3 ⟨rfl, b3⟩))
 go_ret2
 exact ⟨rfl, (b1.trans (b2.mono b1.size)).trans (b3.mono (by have := b1.size; have := b2.size; omega))⟩
end Go.Proofs.YtlgieoabellbmaaGreatDoor
namespace Go.Proofs.YtlgieoabellbmaaGreatDoor
open Go.RowKit
set_option linter.unusedVariables false
set_option linter.unusedSimpArgs false
set_option maxRecDepth 1000000 in
set_option maxHeartbeats 2000000 in
theorem written_of (f : Sq) (v : Value) (depth : Int) (w : World) (ty T : ByteArray) (P : TypeId → Value → World → Prop)
  (hS : ∀ W, Below w.heap.size w W → Calls Tryz.prog 42 #[v] W fun e W' => Below W.heap.size W W' ∧ ∃ t x, e = .returned (.iface t x) ∧ P t x W')
  (hTy : ∀ W, Below w.heap.size w W → Calls Tryz.prog 13 #[v] W fun e W' => e = .returned (.string ty) ∧ Below W.heap.size W W')
  (hSh : ∀ t x W1 W2, P t x W1 → Below W1.heap.size W1 W2 → Calls Tryz.prog 45 #[WV f .nilFunc, .iface t x, .string ty, .int .i64 depth] W2 fun e W' => e = .returned (.tuple #[.string T, .bool true]) ∧ Below W2.heap.size W2 W') :
  Calls Tryz.prog 25 #[WV f .nilFunc, v, .int .i64 depth] w fun e w' => e = .returned (.string T) ∧ Below w.heap.size w w' := by
 have hne : ∀ (t : TypeId) (x : Value) w, (binOp .eql 20 (.iface t x) .nilIface).run Tryz.prog w = .ok (.bool false) w := fun t x w => by kernel_rfl
 obtain ⟨W1, hW1⟩ : ∃ W1, W1 = w.alloc (.cells #[.bool f.p, .bool f.mi, .bool f.sh, .bool f.sp, .bool f.z, .int .i64 f.wid, .int .i64 f.prec, .int .i32 f.verb, .nilFunc] 57) := ⟨_, rfl⟩
 have b1 : Below w.heap.size w W1 := by rw [hW1]; exact (Below.refl _ _).alloc (Nat.le_refl _) _
 have a1 : At9 W1 w.heap.size f .nilFunc := by
  rw [hW1]
  refine ⟨?_, ?_, ?_, ?_, ?_, ?_, ?_, ?_, ?_⟩
  all_goals simp [go_sem]
 have hS1 := hS W1 b1
 go_enter Tryz.func25, Tryz.ntmps25
 go_upto_region 1 with fail
 rw [← hW1]
 clear hW1
 obtain ⟨X, hX⟩ : ∃ X, w.heap.size = X := ⟨_, rfl⟩
 have HX : Unit → w.heap.size = X := fun _ => hX
 rw [hX] at a1
 simp only [hX]
 clear hX hS
 go_upto_region 2 with (go_at_call 42; refine hS1.mono ?_; rintro e W2 ⟨b2, t, x, rfl, hP⟩)
 have hA := fun W => asked_nil f v W
 have a2 := a1.up b2
 obtain ⟨q0, q1, q2, q3, q4, q5, q6, q7, q8⟩ := id a2
 clear hS1
 go_upto_region 7 with (go_at_call 44; refine (hA W2).mono ?_; rintro e W3 ⟨rfl, b3⟩)
 have a3 := a2.up b3
 have b13 : Below W1.heap.size W1 W3 := b2.trans (b3.mono b2.size)
 have bW3 : Below w.heap.size w W3 := b1.trans (b13.mono b1.size)
 obtain ⟨Yd, hYd⟩ : ∃ Yd, Yd = W3.drew := ⟨_, rfl⟩
 have bY : Below w.heap.size w Yd := by rw [hYd]; exact bW3.drew
 have b2Y : Below W2.heap.size W2 Yd := by rw [hYd]; exact b3.drew
 clear q0 q1 q2 q3 q4 q5 q6 q7 q8 hA a1 a2 b1 b2 b3 b13
 refine wp_region_held_drew (S := fun w' : World => At9 w' X f .nilFunc) (by kernel_rfl) (by exact a3) ?_
 rw [← hYd]
 have s5 : (fun w' : World => At9 w' X f .nilFunc) Yd := by rw [hYd]; exact a3
 have hup : ∀ {w1 w2 : World}, (fun w' : World => At9 w' X f .nilFunc) w1 → Below w1.heap.size w1 w2 → (fun w' : World => At9 w' X f .nilFunc) w2 := fun h h' => At9.up h h'
 clear hYd a3 bW3
 intro hS
 refine tk 0 (.agg #[.bool f.p, .bool f.mi, .bool f.sh, .bool f.sp, .bool f.z, .int .i64 f.wid, .int .i64 f.prec, .int .i32 f.verb, .nilFunc]) rfl (by kernel_rfl) (fun _ _ _ h => h) (by rfl) (by assumption) ?_ ?_
 ·intro w5 s0
  obtain ⟨q0, q1, q2, q3, q4, q5, q6, q7, q8⟩ := s0
  go_simp
 try simp only [Act.put, lyt]
 refine tk 1 (.iface t x) rfl (by kernel_rfl) (fun _ _ _ h => h) (by rfl) (by assumption) ?_ ?_
 ·intro w5 s0
  go_simp
 try simp only [Act.put, lyt]
 refine tk 2 (v) rfl (by kernel_rfl) (fun _ _ _ h => h) (by rfl) (by assumption) ?_ ?_
 ·intro w5 s0
  go_simp
 try simp only [Act.put, lyt]
 refine tk 4 (.int .i64 depth) rfl (by kernel_rfl) (fun _ _ _ h => h) (by rfl) (by assumption) ?_ ?_
 ·intro w5 s0
  go_simp
 try simp only [Act.put, lyt]
 refine rd1 3 (by kernel_rfl) rfl fun K101 hK101 => ?_
 go_simp
 refine (hTy _ bY).mono ?_
 rintro e Z1 ⟨rfl, z1⟩
 have sZ1 := (hup s5) z1
 refine hK101.out _ _ sZ1 (fun _ => ?_)
 clear hK101
 try simp only [Act.put, lyt]
 refine rd1 5 (by kernel_rfl) rfl fun K102 hK102 => ?_
 go_simp
 refine (hSh t x W2 Z1 hP (b2Y.trans (z1.mono b2Y.size))).mono ?_
 rintro e Z2 ⟨rfl, z2⟩
 have sZ2 := (hup sZ1) z2
 refine hK102.out _ _ sZ2 (fun _ => ?_)
 clear hK102
 try simp only [Act.put, lyt]
 refine rd1 6 (by kernel_rfl) rfl fun K109 hK109 => ?_
 go_simp
 refine hK109.out _ _ sZ2 (fun _ => ?_)
 clear hK109
 try simp only [Act.put, lyt]
 refine tk 7 (.string T) rfl (by kernel_rfl) (fun _ _ _ h => h) (by rfl) (by assumption) ?_ ?_
 ·intro w5 s0
  go_simp
 try simp only [Act.put, lyt]
 refine tk 8 (.bool true) rfl (by kernel_rfl) (fun _ _ _ h => h) (by rfl) (by assumption) ?_ ?_
 ·intro w5 s0
  go_simp
 try simp only [Act.put, lyt]
 refine rd1 9 (by kernel_rfl) rfl fun K110 hK110 => ?_
 go_simp
 refine hK110.out _ _ sZ2 (fun _ => ?_)
 clear hK110
 try simp only [Act.put, lyt]
 refine rd1 10 (by kernel_rfl) rfl fun K111 hK111 => ?_
 go_simp
 refine hK111.out _ _ sZ2 (fun _ => ?_)
 clear hK111
 try simp only [Act.put, lyt]
 refine wpAnyH_done (by kernel_rfl) ?_ _
 clear hS
 go_wp2
 go_ret
 exact ⟨rfl, (bY.trans (z1.mono bY.size)).trans (z2.mono (by have := bY.size; have := z1.size; omega))⟩
end Go.Proofs.YtlgieoabellbmaaGreatDoor
