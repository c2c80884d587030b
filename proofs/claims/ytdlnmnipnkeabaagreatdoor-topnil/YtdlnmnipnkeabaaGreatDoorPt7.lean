/- Quoted, TextA, ZBuf: these texts in one. -/
import Derived.Test.YtdlnmnipnkeabaaGreatDoorPt6
import Derived.Test.YtdlnmnipnkeabaaGreatDoorHexW
import Derived.Test.YtdlnmnipnkeabaaGreatDoorPt1
import Derived.Test.YtdlnmnipnkeabaaGreatDoorPt3
import Derived.WalkKit
import Derived.WalkSpells
import Derived.WalkLawsBesides
import Derived.Laws.CopyOwn
import Derived.Laws.BytesArg
import Derived.Deep.DeepCutAuto
import Derived.Deep.CutBlock
import Derived.Deep.RegionWith
import Derived.Deep.QuietTactic
import Derived.BigQuiet
namespace Go.Proofs.YtdlnmnipnkeabaaGreatDoor
open Go.RowKit
set_option linter.unusedVariables false
def quotedS (s : ByteArray) (sh p : Bool) : ByteArray := cond (sh && rawF s 0) (rawT s) (quoS s p)
theorem quotedS_size (s : ByteArray) (sh p : Bool) : (quotedS s sh p).size ≤ 10 * s.size + 2 := by
 have h1 := quoS_size s p
 have h2 : (rawT s).size = s.size + 2 := by
  have h3 : (96 :: (s.data.toList ++ [96])).length = s.size + 2 := by
   rw [List.length_cons, List.length_append, list_len]; rfl
  exact h3
 unfold quotedS
 cases (sh && rawF s 0)
 ·exact h1
 ·show (rawT s).size ≤ _
  omega
set_option maxRecDepth 1000000 in
set_option maxHeartbeats 800000 in
theorem quoted_any (s : ByteArray) (p mi sh sp z : Bool) (wid prec verb : Int) (w : World) (hE : Esc w) (hs : s.size ≤ 90000) :
  Calls Tryz.prog 133 #[.string s, .agg #[.bool p, .bool mi, .bool sh, .bool sp, .bool z, .int .i64 wid, .int .i64 prec, .int .i32 verb]] w fun e w' => e = .returned (.string (quotedS s sh p)) ∧ Below w.heap.size w w' := by
 have hbA : Below w.heap.size w (w.alloc (.cells #[.bool p, .bool mi, .bool sh, .bool sp, .bool z, .int .i64 wid, .int .i64 prec, .int .i32 verb] 113)) := (Below.refl _ _).alloc (Nat.le_refl _) _
 have hE1 := hE.below hbA
 have d0 : (w.alloc (.cells #[.bool p, .bool mi, .bool sh, .bool sp, .bool z, .int .i64 wid, .int .i64 prec, .int .i32 verb] 113)).cell? ⟨w.heap.size, 0, none⟩ = some (.bool p) := by simp
 have d1 : (w.alloc (.cells #[.bool p, .bool mi, .bool sh, .bool sp, .bool z, .int .i64 wid, .int .i64 prec, .int .i32 verb] 113)).cell? ⟨w.heap.size, 1, none⟩ = some (.bool mi) := by simp
 have d2 : (w.alloc (.cells #[.bool p, .bool mi, .bool sh, .bool sp, .bool z, .int .i64 wid, .int .i64 prec, .int .i32 verb] 113)).cell? ⟨w.heap.size, 2, none⟩ = some (.bool sh) := by simp
 have d3 : (w.alloc (.cells #[.bool p, .bool mi, .bool sh, .bool sp, .bool z, .int .i64 wid, .int .i64 prec, .int .i32 verb] 113)).cell? ⟨w.heap.size, 3, none⟩ = some (.bool sp) := by simp
 have d4 : (w.alloc (.cells #[.bool p, .bool mi, .bool sh, .bool sp, .bool z, .int .i64 wid, .int .i64 prec, .int .i32 verb] 113)).cell? ⟨w.heap.size, 4, none⟩ = some (.bool z) := by simp
 have d5 : (w.alloc (.cells #[.bool p, .bool mi, .bool sh, .bool sp, .bool z, .int .i64 wid, .int .i64 prec, .int .i32 verb] 113)).cell? ⟨w.heap.size, 5, none⟩ = some (.int .i64 wid) := by simp
 have d6 : (w.alloc (.cells #[.bool p, .bool mi, .bool sh, .bool sp, .bool z, .int .i64 wid, .int .i64 prec, .int .i32 verb] 113)).cell? ⟨w.heap.size, 6, none⟩ = some (.int .i64 prec) := by simp
 have d7 : (w.alloc (.cells #[.bool p, .bool mi, .bool sh, .bool sp, .bool z, .int .i64 wid, .int .i64 prec, .int .i32 verb] 113)).cell? ⟨w.heap.size, 7, none⟩ = some (.int .i32 verb) := by simp
 have hQ : ∀ w, Esc w → Calls Tryz.prog 130 #[.string s, .bool p] w fun e w' => e = .returned (.string (quoS s p)) ∧ Below w.heap.size w w' := fun w hE => quote_any s p w hE (by omega)
 have hR : ∀ b, rawF s 0 = b → ∀ w, Calls Tryz.prog 163 #[.string s] w fun e w' => e = .returned (.tuple #[.string (cond b (rawT s) ⟨#[]⟩), .bool b]) ∧ Below w.heap.size w w' := fun b h w => qraw_any s b w (by omega) h
 have HQ : Hid (∀ b, rawF s 0 = b → quotedS s true p = cond b (rawT s) (quoS s p)) := fun b h => by unfold quotedS; rw [h]; rfl
 have HQ0 : Hid (quotedS s false p = quoS s p) := by show _ = _; unfold quotedS; rfl
 cases sh with
 | false =>
   rw [HQ0.out]
   generalize quoS s p = r at *
   clear hR HQ HQ0
   go_enter Tryz.func133, Tryz.ntmps133
   go_wp2_with (go_at_call 130; refine (hQ _ hE1).mono ?_; rintro e w2 ⟨rfl, hb2⟩)
   go_ret
   exact ⟨rfl, hbA.trans (hb2.mono hbA.size)⟩
 | true =>
   cases hb : rawF s 0 with
   | true =>
     rw [HQ.out true hb]
     replace hR := hR true hb
     clear hb HQ HQ0 hQ
     generalize rawT s = t at *
     generalize quoS s p = r at *
     go_enter Tryz.func133, Tryz.ntmps133
     go_wp2_with (go_at_call 163; refine (hR _).mono ?_; rintro e w2 ⟨rfl, hb2⟩)
     go_ret
     exact ⟨rfl, hbA.trans (hb2.mono hbA.size)⟩
   | false =>
     rw [HQ.out false hb]
     replace hR := hR false hb
     clear hb HQ HQ0
     generalize rawT s = t at *
     generalize quoS s p = r at *
     go_enter Tryz.func133, Tryz.ntmps133
     go_wp2_with (first | (go_at_call 163; refine (hR _).mono ?_; rintro e w2 ⟨rfl, hb2⟩; have f0 := (hb2.cell (p := ⟨w.heap.size, 0, none⟩) (by simp)).trans d0) | (go_at_call 130; refine (hQ _ (hE1.below hb2)).mono ?_; rintro e w3 ⟨rfl, hb3⟩))
     go_ret
     exact ⟨rfl, hbA.trans ((hb2.trans (hb3.mono hb2.size)).mono hbA.size)⟩
end Go.Proofs.YtdlnmnipnkeabaaGreatDoor
namespace Go.Proofs.YtdlnmnipnkeabaaGreatDoor
open Go.RowKit
set_option linter.unusedVariables false
set_option maxRecDepth 1000000 in
set_option maxHeartbeats 2000000 in
theorem text_s0 (s : ByteArray) (p mi sp z : Bool) (wid prec : Int) (w : World) (hE : Esc w) (hs : s.size ≤ 9000) (hpr : prec ≤ 9223372036854775807) :
  Calls Tryz.prog 110 #[.string s, .agg #[.bool p, .bool mi, .bool false, .bool sp, .bool z, .int .i64 wid, .int .i64 prec, .int .i32 115]] w fun e w' => e = .returned (.tuple #[.string (padS (cutS s (min prec 1000)) mi z wid), .bool true]) ∧ Below w.heap.size w w' := by
 have hbA : Below w.heap.size w (w.alloc (.cells #[.bool p, .bool mi, .bool false, .bool sp, .bool z, .int .i64 wid, .int .i64 prec, .int .i32 115] 113)) := (Below.refl _ _).alloc (Nat.le_refl _) _
 have f0 : ∀ x : Cl (w.alloc (.cells #[.bool p, .bool mi, .bool false, .bool sp, .bool z, .int .i64 wid, .int .i64 prec, .int .i32 115] 113)), x.w.cell? ⟨w.heap.size, 0, none⟩ = some (.bool p) := fun x => x.cell (by simp)
 have f1 : ∀ x : Cl (w.alloc (.cells #[.bool p, .bool mi, .bool false, .bool sp, .bool z, .int .i64 wid, .int .i64 prec, .int .i32 115] 113)), x.w.cell? ⟨w.heap.size, 1, none⟩ = some (.bool mi) := fun x => x.cell (by simp)
 have f2 : ∀ x : Cl (w.alloc (.cells #[.bool p, .bool mi, .bool false, .bool sp, .bool z, .int .i64 wid, .int .i64 prec, .int .i32 115] 113)), x.w.cell? ⟨w.heap.size, 2, none⟩ = some (.bool false) := fun x => x.cell (by simp)
 have f3 : ∀ x : Cl (w.alloc (.cells #[.bool p, .bool mi, .bool false, .bool sp, .bool z, .int .i64 wid, .int .i64 prec, .int .i32 115] 113)), x.w.cell? ⟨w.heap.size, 3, none⟩ = some (.bool sp) := fun x => x.cell (by simp)
 have f4 : ∀ x : Cl (w.alloc (.cells #[.bool p, .bool mi, .bool false, .bool sp, .bool z, .int .i64 wid, .int .i64 prec, .int .i32 115] 113)), x.w.cell? ⟨w.heap.size, 4, none⟩ = some (.bool z) := fun x => x.cell (by simp)
 have f5 : ∀ x : Cl (w.alloc (.cells #[.bool p, .bool mi, .bool false, .bool sp, .bool z, .int .i64 wid, .int .i64 prec, .int .i32 115] 113)), x.w.cell? ⟨w.heap.size, 5, none⟩ = some (.int .i64 wid) := fun x => x.cell (by simp)
 have f6 : ∀ x : Cl (w.alloc (.cells #[.bool p, .bool mi, .bool false, .bool sp, .bool z, .int .i64 wid, .int .i64 prec, .int .i32 115] 113)), x.w.cell? ⟨w.heap.size, 6, none⟩ = some (.int .i64 prec) := fun x => x.cell (by simp)
 have f7 : ∀ x : Cl (w.alloc (.cells #[.bool p, .bool mi, .bool false, .bool sp, .bool z, .int .i64 wid, .int .i64 prec, .int .i32 115] 113)), x.w.cell? ⟨w.heap.size, 7, none⟩ = some (.int .i32 115) := fun x => x.cell (by simp)
 have hE1 : ∀ x : Cl (w.alloc (.cells #[.bool p, .bool mi, .bool false, .bool sp, .bool z, .int .i64 wid, .int .i64 prec, .int .i32 115] 113)), Esc x.w := fun x => (hE.below hbA).below x.below
 have hP := prec_any p mi false sp z wid prec 115
 have hcs := (cut_facts s (min prec 1000)).1
 have hC : ∀ w, Calls Tryz.prog 131 #[.string s, .int .i64 (min prec 1000)] w fun e w' => e = .returned (.string (cutS s (min prec 1000))) ∧ Below w.heap.size w w' := fun w => cut_any s _ w (by unfold maxLen; omega) (by omega)
 have hPd : ∀ w, Calls Tryz.prog 129 #[.string (cutS s (min prec 1000)), .agg #[.bool p, .bool mi, .bool false, .bool sp, .bool z, .int .i64 wid, .int .i64 prec, .int .i32 115]] w fun e w' => e = .returned (.string (padS (cutS s (min prec 1000)) mi z wid)) ∧ Below w.heap.size w w' := fun w => pad_any _ p mi false sp z wid prec 115 w (by omega)
 clear hcs
 generalize padS (cutS s (min prec 1000)) mi z wid = rr at *
 generalize cutS s (min prec 1000) = r at *
 generalize min prec 1000 = q at *
 go_enter Tryz.func110, Tryz.ntmps110
 go_wp2
 refine wp_region_above (w.alloc (.cells #[.bool p, .bool mi, .bool false, .bool sp, .bool z, .int .i64 wid, .int .i64 prec, .int .i32 115] 113)) (Below.refl _ _) (by kernel_rfl) (by kernel_rfl) ?_
 intro hCl
 repeat (go_big_quiet_step ((first | (go_at_call 132; exact Cl.call (hP _)) | (go_at_call 131; exact Cl.call (hC _)) | (go_at_call 129; exact Cl.call (hPd _)))))
 refine wpQuiet_nil ?_
 intro _ hw'
 obtain ⟨x, hx⟩ := hw'
 subst hx
 go_wp2
 go_ret2
 exact ⟨rfl, hbA.trans (x.below.mono hbA.size)⟩
set_option maxRecDepth 1000000 in
set_option maxHeartbeats 2000000 in
theorem text_v0 (s : ByteArray) (p mi sp z : Bool) (wid prec : Int) (w : World) (hE : Esc w) (hs : s.size ≤ 9000) (hpr : prec ≤ 9223372036854775807) :
  Calls Tryz.prog 110 #[.string s, .agg #[.bool p, .bool mi, .bool false, .bool sp, .bool z, .int .i64 wid, .int .i64 prec, .int .i32 118]] w fun e w' => e = .returned (.tuple #[.string (padS (cutS s (min prec 1000)) mi z wid), .bool true]) ∧ Below w.heap.size w w' := by
 have hbA : Below w.heap.size w (w.alloc (.cells #[.bool p, .bool mi, .bool false, .bool sp, .bool z, .int .i64 wid, .int .i64 prec, .int .i32 118] 113)) := (Below.refl _ _).alloc (Nat.le_refl _) _
 have f0 : ∀ x : Cl (w.alloc (.cells #[.bool p, .bool mi, .bool false, .bool sp, .bool z, .int .i64 wid, .int .i64 prec, .int .i32 118] 113)), x.w.cell? ⟨w.heap.size, 0, none⟩ = some (.bool p) := fun x => x.cell (by simp)
 have f1 : ∀ x : Cl (w.alloc (.cells #[.bool p, .bool mi, .bool false, .bool sp, .bool z, .int .i64 wid, .int .i64 prec, .int .i32 118] 113)), x.w.cell? ⟨w.heap.size, 1, none⟩ = some (.bool mi) := fun x => x.cell (by simp)
 have f2 : ∀ x : Cl (w.alloc (.cells #[.bool p, .bool mi, .bool false, .bool sp, .bool z, .int .i64 wid, .int .i64 prec, .int .i32 118] 113)), x.w.cell? ⟨w.heap.size, 2, none⟩ = some (.bool false) := fun x => x.cell (by simp)
 have f3 : ∀ x : Cl (w.alloc (.cells #[.bool p, .bool mi, .bool false, .bool sp, .bool z, .int .i64 wid, .int .i64 prec, .int .i32 118] 113)), x.w.cell? ⟨w.heap.size, 3, none⟩ = some (.bool sp) := fun x => x.cell (by simp)
 have f4 : ∀ x : Cl (w.alloc (.cells #[.bool p, .bool mi, .bool false, .bool sp, .bool z, .int .i64 wid, .int .i64 prec, .int .i32 118] 113)), x.w.cell? ⟨w.heap.size, 4, none⟩ = some (.bool z) := fun x => x.cell (by simp)
 have f5 : ∀ x : Cl (w.alloc (.cells #[.bool p, .bool mi, .bool false, .bool sp, .bool z, .int .i64 wid, .int .i64 prec, .int .i32 118] 113)), x.w.cell? ⟨w.heap.size, 5, none⟩ = some (.int .i64 wid) := fun x => x.cell (by simp)
 have f6 : ∀ x : Cl (w.alloc (.cells #[.bool p, .bool mi, .bool false, .bool sp, .bool z, .int .i64 wid, .int .i64 prec, .int .i32 118] 113)), x.w.cell? ⟨w.heap.size, 6, none⟩ = some (.int .i64 prec) := fun x => x.cell (by simp)
 have f7 : ∀ x : Cl (w.alloc (.cells #[.bool p, .bool mi, .bool false, .bool sp, .bool z, .int .i64 wid, .int .i64 prec, .int .i32 118] 113)), x.w.cell? ⟨w.heap.size, 7, none⟩ = some (.int .i32 118) := fun x => x.cell (by simp)
 have hE1 : ∀ x : Cl (w.alloc (.cells #[.bool p, .bool mi, .bool false, .bool sp, .bool z, .int .i64 wid, .int .i64 prec, .int .i32 118] 113)), Esc x.w := fun x => (hE.below hbA).below x.below
 have hP := prec_any p mi false sp z wid prec 118
 have hcs := (cut_facts s (min prec 1000)).1
 have hC : ∀ w, Calls Tryz.prog 131 #[.string s, .int .i64 (min prec 1000)] w fun e w' => e = .returned (.string (cutS s (min prec 1000))) ∧ Below w.heap.size w w' := fun w => cut_any s _ w (by unfold maxLen; omega) (by omega)
 have hPd : ∀ w, Calls Tryz.prog 129 #[.string (cutS s (min prec 1000)), .agg #[.bool p, .bool mi, .bool false, .bool sp, .bool z, .int .i64 wid, .int .i64 prec, .int .i32 118]] w fun e w' => e = .returned (.string (padS (cutS s (min prec 1000)) mi z wid)) ∧ Below w.heap.size w w' := fun w => pad_any _ p mi false sp z wid prec 118 w (by omega)
 clear hcs
 generalize padS (cutS s (min prec 1000)) mi z wid = rr at *
 generalize cutS s (min prec 1000) = r at *
 generalize min prec 1000 = q at *
 go_enter Tryz.func110, Tryz.ntmps110
 go_wp2
 refine wp_region_above (w.alloc (.cells #[.bool p, .bool mi, .bool false, .bool sp, .bool z, .int .i64 wid, .int .i64 prec, .int .i32 118] 113)) (Below.refl _ _) (by kernel_rfl) (by kernel_rfl) ?_
 intro hCl
 repeat (go_big_quiet_step ((first | (go_at_call 132; exact Cl.call (hP _)) | (go_at_call 131; exact Cl.call (hC _)) | (go_at_call 129; exact Cl.call (hPd _)))))
 refine wpQuiet_nil ?_
 intro _ hw'
 obtain ⟨x, hx⟩ := hw'
 subst hx
 go_wp2
 go_ret2
 exact ⟨rfl, hbA.trans (x.below.mono hbA.size)⟩
set_option maxRecDepth 1000000 in
set_option maxHeartbeats 2000000 in
theorem text_q (s : ByteArray) (p mi sh sp z : Bool) (wid prec : Int) (w : World) (hE : Esc w) (hs : s.size ≤ 9000) (hpr : prec ≤ 9223372036854775807) :
  Calls Tryz.prog 110 #[.string s, .agg #[.bool p, .bool mi, .bool sh, .bool sp, .bool z, .int .i64 wid, .int .i64 prec, .int .i32 113]] w fun e w' => e = .returned (.tuple #[.string (padS (quotedS (cutS s (min prec 1000)) sh p) mi z wid), .bool true]) ∧ Below w.heap.size w w' := by
 have hbA : Below w.heap.size w (w.alloc (.cells #[.bool p, .bool mi, .bool sh, .bool sp, .bool z, .int .i64 wid, .int .i64 prec, .int .i32 113] 113)) := (Below.refl _ _).alloc (Nat.le_refl _) _
 have f0 : ∀ x : Cl (w.alloc (.cells #[.bool p, .bool mi, .bool sh, .bool sp, .bool z, .int .i64 wid, .int .i64 prec, .int .i32 113] 113)), x.w.cell? ⟨w.heap.size, 0, none⟩ = some (.bool p) := fun x => x.cell (by simp)
 have f1 : ∀ x : Cl (w.alloc (.cells #[.bool p, .bool mi, .bool sh, .bool sp, .bool z, .int .i64 wid, .int .i64 prec, .int .i32 113] 113)), x.w.cell? ⟨w.heap.size, 1, none⟩ = some (.bool mi) := fun x => x.cell (by simp)
 have f2 : ∀ x : Cl (w.alloc (.cells #[.bool p, .bool mi, .bool sh, .bool sp, .bool z, .int .i64 wid, .int .i64 prec, .int .i32 113] 113)), x.w.cell? ⟨w.heap.size, 2, none⟩ = some (.bool sh) := fun x => x.cell (by simp)
 have f3 : ∀ x : Cl (w.alloc (.cells #[.bool p, .bool mi, .bool sh, .bool sp, .bool z, .int .i64 wid, .int .i64 prec, .int .i32 113] 113)), x.w.cell? ⟨w.heap.size, 3, none⟩ = some (.bool sp) := fun x => x.cell (by simp)
 have f4 : ∀ x : Cl (w.alloc (.cells #[.bool p, .bool mi, .bool sh, .bool sp, .bool z, .int .i64 wid, .int .i64 prec, .int .i32 113] 113)), x.w.cell? ⟨w.heap.size, 4, none⟩ = some (.bool z) := fun x => x.cell (by simp)
 have f5 : ∀ x : Cl (w.alloc (.cells #[.bool p, .bool mi, .bool sh, .bool sp, .bool z, .int .i64 wid, .int .i64 prec, .int .i32 113] 113)), x.w.cell? ⟨w.heap.size, 5, none⟩ = some (.int .i64 wid) := fun x => x.cell (by simp)
 have f6 : ∀ x : Cl (w.alloc (.cells #[.bool p, .bool mi, .bool sh, .bool sp, .bool z, .int .i64 wid, .int .i64 prec, .int .i32 113] 113)), x.w.cell? ⟨w.heap.size, 6, none⟩ = some (.int .i64 prec) := fun x => x.cell (by simp)
 have f7 : ∀ x : Cl (w.alloc (.cells #[.bool p, .bool mi, .bool sh, .bool sp, .bool z, .int .i64 wid, .int .i64 prec, .int .i32 113] 113)), x.w.cell? ⟨w.heap.size, 7, none⟩ = some (.int .i32 113) := fun x => x.cell (by simp)
 have hE1 : ∀ x : Cl (w.alloc (.cells #[.bool p, .bool mi, .bool sh, .bool sp, .bool z, .int .i64 wid, .int .i64 prec, .int .i32 113] 113)), Esc x.w := fun x => (hE.below hbA).below x.below
 have hP := prec_any p mi sh sp z wid prec 113
 have hcs := (cut_facts s (min prec 1000)).1
 have hqs := quotedS_size (cutS s (min prec 1000)) sh p
 have hC : ∀ w, Calls Tryz.prog 131 #[.string s, .int .i64 (min prec 1000)] w fun e w' => e = .returned (.string (cutS s (min prec 1000))) ∧ Below w.heap.size w w' := fun w => cut_any s _ w (by unfold maxLen; omega) (by omega)
 have hQ : ∀ w, Esc w → Calls Tryz.prog 133 #[.string (cutS s (min prec 1000)), .agg #[.bool p, .bool mi, .bool sh, .bool sp, .bool z, .int .i64 wid, .int .i64 prec, .int .i32 113]] w fun e w' => e = .returned (.string (quotedS (cutS s (min prec 1000)) sh p)) ∧ Below w.heap.size w w' := fun w hE => quoted_any _ p mi sh sp z wid prec 113 w hE (by omega)
 have hPd : ∀ w, Calls Tryz.prog 129 #[.string (quotedS (cutS s (min prec 1000)) sh p), .agg #[.bool p, .bool mi, .bool sh, .bool sp, .bool z, .int .i64 wid, .int .i64 prec, .int .i32 113]] w fun e w' => e = .returned (.string (padS (quotedS (cutS s (min prec 1000)) sh p) mi z wid)) ∧ Below w.heap.size w w' := fun w => pad_any _ p mi sh sp z wid prec 113 w (by omega)
 clear hcs hqs
 generalize padS (quotedS (cutS s (min prec 1000)) sh p) mi z wid = rr at *
 generalize quotedS (cutS s (min prec 1000)) sh p = r2 at *
 generalize cutS s (min prec 1000) = r at *
 generalize min prec 1000 = q at *
 go_enter Tryz.func110, Tryz.ntmps110
 go_wp2
 refine wp_region_above (w.alloc (.cells #[.bool p, .bool mi, .bool sh, .bool sp, .bool z, .int .i64 wid, .int .i64 prec, .int .i32 113] 113)) (Below.refl _ _) (by kernel_rfl) (by kernel_rfl) ?_
 intro hCl
 repeat (go_big_quiet_step ((first | (go_at_call 132; exact Cl.call (hP _)) | (go_at_call 131; exact Cl.call (hC _)) | (go_at_call 133; exact Cl.call (hQ _ (hE1 _))) | (go_at_call 129; exact Cl.call (hPd _)))))
 refine wpQuiet_nil ?_
 intro _ hw'
 obtain ⟨x, hx⟩ := hw'
 subst hx
 go_wp2
 go_ret2
 exact ⟨rfl, hbA.trans (x.below.mono hbA.size)⟩
set_option maxRecDepth 1000000 in
set_option maxHeartbeats 2000000 in
theorem text_x (s : ByteArray) (p mi sh sp z : Bool) (wid prec : Int) (w : World) (hE : Esc w) (hs : s.size ≤ 9000) (hpr : prec ≤ 9223372036854775807) :
  Calls Tryz.prog 110 #[.string s, .agg #[.bool p, .bool mi, .bool sh, .bool sp, .bool z, .int .i64 wid, .int .i64 prec, .int .i32 120]] w fun e w' => e = .returned (.tuple #[.string (padS (hexS s sh sp false prec) mi z wid), .bool true]) ∧ Below w.heap.size w w' := by
 have hbA : Below w.heap.size w (w.alloc (.cells #[.bool p, .bool mi, .bool sh, .bool sp, .bool z, .int .i64 wid, .int .i64 prec, .int .i32 120] 113)) := (Below.refl _ _).alloc (Nat.le_refl _) _
 have f0 : ∀ x : Cl (w.alloc (.cells #[.bool p, .bool mi, .bool sh, .bool sp, .bool z, .int .i64 wid, .int .i64 prec, .int .i32 120] 113)), x.w.cell? ⟨w.heap.size, 0, none⟩ = some (.bool p) := fun x => x.cell (by simp)
 have f1 : ∀ x : Cl (w.alloc (.cells #[.bool p, .bool mi, .bool sh, .bool sp, .bool z, .int .i64 wid, .int .i64 prec, .int .i32 120] 113)), x.w.cell? ⟨w.heap.size, 1, none⟩ = some (.bool mi) := fun x => x.cell (by simp)
 have f2 : ∀ x : Cl (w.alloc (.cells #[.bool p, .bool mi, .bool sh, .bool sp, .bool z, .int .i64 wid, .int .i64 prec, .int .i32 120] 113)), x.w.cell? ⟨w.heap.size, 2, none⟩ = some (.bool sh) := fun x => x.cell (by simp)
 have f3 : ∀ x : Cl (w.alloc (.cells #[.bool p, .bool mi, .bool sh, .bool sp, .bool z, .int .i64 wid, .int .i64 prec, .int .i32 120] 113)), x.w.cell? ⟨w.heap.size, 3, none⟩ = some (.bool sp) := fun x => x.cell (by simp)
 have f4 : ∀ x : Cl (w.alloc (.cells #[.bool p, .bool mi, .bool sh, .bool sp, .bool z, .int .i64 wid, .int .i64 prec, .int .i32 120] 113)), x.w.cell? ⟨w.heap.size, 4, none⟩ = some (.bool z) := fun x => x.cell (by simp)
 have f5 : ∀ x : Cl (w.alloc (.cells #[.bool p, .bool mi, .bool sh, .bool sp, .bool z, .int .i64 wid, .int .i64 prec, .int .i32 120] 113)), x.w.cell? ⟨w.heap.size, 5, none⟩ = some (.int .i64 wid) := fun x => x.cell (by simp)
 have f6 : ∀ x : Cl (w.alloc (.cells #[.bool p, .bool mi, .bool sh, .bool sp, .bool z, .int .i64 wid, .int .i64 prec, .int .i32 120] 113)), x.w.cell? ⟨w.heap.size, 6, none⟩ = some (.int .i64 prec) := fun x => x.cell (by simp)
 have f7 : ∀ x : Cl (w.alloc (.cells #[.bool p, .bool mi, .bool sh, .bool sp, .bool z, .int .i64 wid, .int .i64 prec, .int .i32 120] 113)), x.w.cell? ⟨w.heap.size, 7, none⟩ = some (.int .i32 120) := fun x => x.cell (by simp)
 have hE1 : ∀ x : Cl (w.alloc (.cells #[.bool p, .bool mi, .bool sh, .bool sp, .bool z, .int .i64 wid, .int .i64 prec, .int .i32 120] 113)), Esc x.w := fun x => (hE.below hbA).below x.below
 have hX : ∀ w, Calls Tryz.prog 134 #[.string s, .agg #[.bool p, .bool mi, .bool sh, .bool sp, .bool z, .int .i64 wid, .int .i64 prec, .int .i32 120]] w fun e w' => e = .returned (.string (padS (hexS s sh sp false prec) mi z wid)) ∧ Below w.heap.size w w' := fun w => hex_any s p mi sh sp z wid prec 120 w (by omega)
 generalize padS (hexS s sh sp false prec) mi z wid = rr at *
 go_enter Tryz.func110, Tryz.ntmps110
 go_wp2_with (go_at_call 134; refine (hX _).mono ?_; rintro e w1 ⟨rfl, hb1⟩)
 go_ret2
 exact ⟨rfl, hbA.trans (hb1.mono hbA.size)⟩
end Go.Proofs.YtdlnmnipnkeabaaGreatDoor
namespace Go.Proofs.YtdlnmnipnkeabaaGreatDoor
open Go.RowKit
set_option linter.unusedVariables false
set_option linter.unusedSimpArgs false
structure Kx (P : Nat → Prop) (w w' : World) : Prop where
 os : w'.os = w.os
 tape : w'.tape = w.tape
 output : w'.output = w.output
 size : w.heap.size ≤ w'.heap.size
 block : ∀ k, k < w.heap.size → ¬ P k → w'.heap[k]? = w.heap[k]?
theorem Kx.refl (P : Nat → Prop) (w : World) : Kx P w w := ⟨rfl, rfl, rfl, Nat.le_refl _, fun _ _ _ => rfl⟩
theorem Kx.trans {P : Nat → Prop} {a b c : World} (h : Kx P a b) (k : Kx P b c) : Kx P a c :=
 ⟨k.os.trans h.os, k.tape.trans h.tape, k.output.trans h.output, Nat.le_trans h.size k.size, fun i hi hp => (k.block i (Nat.lt_of_lt_of_le hi h.size) hp).trans (h.block i hi hp)⟩
theorem Kx.mono {P Q : Nat → Prop} {a b : World} (h : Kx P a b) (hq : ∀ k, k < a.heap.size → P k → Q k) : Kx Q a b := ⟨h.os, h.tape, h.output, h.size, fun i hi hp => h.block i hi fun hp' => hp (hq i hi hp')⟩
theorem Kx.of_below {P : Nat → Prop} {a b : World} (h : Below a.heap.size a b) : Kx P a b := ⟨h.os, h.tape, h.output, h.size, fun i hi _ => h.block i hi⟩
theorem Kx.below {P : Nat → Prop} {B : Nat} {a b : World} (h : Kx P a b) (hP : ∀ k, P k → B ≤ k) (hs : B ≤ a.heap.size) : Below B a b :=
 ⟨h.os, h.tape, h.output, h.size, fun i hi => h.block i (Nat.lt_of_lt_of_le hi hs) fun hp => by have := hP i hp; omega⟩
theorem Kx.setRow {P : Nat → Prop} {a b : World} (h : Kx P a b) (g : Nat) (hg : P g) (cs : Array Value) : Kx P a (b.setRow g cs) :=
 ⟨h.os, h.tape, h.output, by rw [setRow_size]; exact h.size, fun i hi hp => (setRow_other b g i cs fun e => hp (e ▸ hg)).trans (h.block i hi hp)⟩
theorem Kx.setCell {P : Nat → Prop} {a b : World} (h : Kx P a b) (g j : Nat) (hg : P g ∨ a.heap.size ≤ g) (v : Value) : Kx P a (b.setCell ⟨g, j, none⟩ v) :=
 ⟨h.os, h.tape, h.output, by simpa using h.size, fun i hi hp => (heap_setCell_other b ⟨g, j, none⟩ i v fun e => by rcases hg with hg | hg; exact hp (e ▸ hg); dsimp only at e; omega).trans (h.block i hi hp)⟩
theorem Kx.alloc {P : Nat → Prop} {a b : World} (h : Kx P a b) (o : Obj) : Kx P a (b.alloc o) := h.trans (.of_below ((Below.refl _ _).alloc (Nat.le_refl _) _))
theorem Kx.drew {P : Nat → Prop} {a b : World} (h : Kx P a b) : Kx P a b.drew := ⟨h.os, h.tape, h.output, h.size, h.block⟩
theorem Kx.cell {P : Nat → Prop} {a b : World} (h : Kx P a b) {p : Addr} {v : Value} (hc : a.cell? p = some v) (hp : ¬ P p.block) : b.cell? p = some v := by
 have hl : p.block < a.heap.size := by
  rcases Nat.lt_or_ge p.block a.heap.size with h1 | h1
  ·exact h1
  ·simp [World.cell?, Array.getElem?_eq_none h1] at hc
 exact (World.cell?_of_block (w := a) (a := p) (h.block _ hl hp)).trans hc
def prCells (kb : List UInt8) (n : Nat) (tl : List Value) : List Value := kb.map (fun b => Value.int .u8 b.toNat) ++ (.int .i64 n :: tl)
def zeroK : List UInt8 := List.replicate 4096 0
theorem run_copy_str {P : Program} (w : World) (dT sT ty elem : TypeId) (g o dLen dCap : Nat) (s : ByteArray) (cur : Array Value) (t : TypeId) (k : Nat)
  (hu : P.underlying dT = some (.slice elem)) (hs : (P.info? elem).map (·.size) = some 1)
  (hg : w.heap[g]? = some (.cells cur t (0, 0))) (hk : k = Nat.min s.size dLen) (hfit : o + k ≤ cur.size) :
  (Builtin.copy_ #[dT, sT] ty #[.slice (some ⟨g, o, none⟩) dLen dCap, .string s]).run P w =
   .ok (goInt k) (w.setRow g (cur.toList.take o ++ (s.data.toList.take k).map (fun b => Value.int .u8 b.toNat) ++ cur.toList.drop (o + k)).toArray) := by
 have hst := run_storeCells_at P g o t ((s.data.toList.take k).map (fun b => Value.int .u8 b.toNat)) 0 cur w hg (by
  have : ((s.data.toList.take k).map (fun b => Value.int .u8 (b.toNat : Int))).length ≤ k := by simp; omega
  omega) (by intro v hv; obtain ⟨b, _, rfl⟩ := List.mem_map.1 hv; rfl)
 have hl : ((s.data.toList.take k).map (fun b => Value.int .u8 (b.toNat : Int))).length = k := by
  have : k ≤ s.data.toList.length := by
   have h1 : s.size = s.data.toList.length := by rw [Array.length_toList]; rfl
   have : Nat.min s.size dLen ≤ s.size := Nat.min_le_left _ _
   omega
  rw [List.length_map, List.length_take]; omega
 rw [hl, Nat.add_zero] at hst
 have hc : ((s.extract 0 k).data.map fun b => Value.int .u8 (b.toNat : Int)).toList = (s.data.toList.take k).map (fun b => Value.int .u8 b.toNat) := by
  rw [Array.toList_map, ByteArray.data_extract, Array.toList_extract]; simp
 cases hq : P.info? elem with
 | none => simp [hq] at hs
 | some i =>
   have hi : i.size = 1 := by simpa [hq] using hs
   rw [List.map_take] at hst hc ⊢
   simp [Builtin.copy_, run_underlying hu, Builtin.lenOf, Builtin.firstCells, sizeOf, typeInfo, hq, ← hk, hst]
theorem arrLen : Tryz.prog.arrayLen 101 = 4096 := by kernel_rfl
theorem arrElem : Tryz.prog.elem 101 = 5 := by kernel_rfl
theorem arrUnder : Tryz.prog.underlying 101 = some (.array (Tryz.prog.arrayLen 101) (Tryz.prog.elem 101)) := by kernel_rfl
theorem at_l (W : World) (g n : Nat) (hn : n < 4096) :
  (Instr.sliceAt 101 (.pointer (some ⟨g, 0, none⟩)) (some (.int .i64 n)) none none).run Tryz.prog W = .ok (.slice (some ⟨g, n, none⟩) (4096 - n) (4096 - n)) W := by
 rw [run_sliceAt_array_l W 101 ⟨g, 0, none⟩ arrUnder .i64 n (by omega) (by rw [arrLen]; omega), arrElem, Tryz.sizeOf5, arrLen]
 have hne : ¬ 4096 = n := by omega
 simp [slicedAt, hne, Addr.add]
 omega
theorem at_h (W : World) (g n : Nat) (hn : n ≤ 4096) :
  (Instr.sliceAt 101 (.pointer (some ⟨g, 0, none⟩)) none (some (.int .i64 n)) none).run Tryz.prog W = .ok (.slice (some ⟨g, 0, none⟩) n 4096) W := by
 rw [run_sliceAt_array_h W 101 ⟨g, 0, none⟩ arrUnder .i64 n (by omega) (by rw [arrLen]; omega), arrElem, Tryz.sizeOf5, arrLen]
 simp [slicedAt, Addr.add]
theorem at_all (W : World) (g : Nat) :
  (Instr.sliceAt 101 (.pointer (some ⟨g, 0, none⟩)) none none none).run Tryz.prog W = .ok (.slice (some ⟨g, 0, none⟩) 4096 4096) W := by
 rw [run_sliceAt_array_all W 101 ⟨g, 0, none⟩ arrUnder, arrElem, Tryz.sizeOf5, arrLen]
 simp [slicedAt, Addr.add]
def IsPr (W : World) (g : Nat) (l : List UInt8) (tl : List Value) : Prop :=
 ∃ kb : List UInt8, kb.length = 4096 ∧ kb.take l.length = l.take 4096 ∧ W.heap[g]? = some (.cells (prCells kb l.length tl).toArray 106 (0, 0))
def MidPr (W : World) (g n : Nat) (l : List UInt8) (tl : List Value) : Prop :=
 ∃ kb : List UInt8, kb.length = 4096 ∧ kb.take l.length = l.take 4096 ∧ W.heap[g]? = some (.cells (prCells kb n tl).toArray 106 (0, 0))
theorem prCells_get (kb : List UInt8) (n : Nat) (tl : List Value) (h : kb.length = 4096) : (prCells kb n tl)[4096]? = some (.int .i64 n) := by
 unfold prCells
 rw [List.getElem?_append_right (by simp [h])]
 simp [h]
theorem prCells_tl (kb : List UInt8) (n i : Nat) (tl : List Value) (h : kb.length = 4096) : (prCells kb n tl)[4097 + i]? = tl[i]? := by
 unfold prCells
 rw [List.getElem?_append_right (by simp [h]; omega)]
 simp only [List.length_map, h]
 rw [show 4097 + i - 4096 = i + 1 by omega]
 rfl
theorem prCells_byte (kb : List UInt8) (n i : Nat) (tl : List Value) (hi : i < kb.length) : (prCells kb n tl)[i]? = some (.int .u8 (kb[i].toNat : Int)) := by
 unfold prCells
 rw [List.getElem?_append_left (by simpa using hi)]
 simp [hi]
theorem prCells_len (kb : List UInt8) (n : Nat) (tl : List Value) : (prCells kb n tl).length = kb.length + 1 + tl.length := by simp [prCells]; omega
theorem prCells_set (kb : List UInt8) (n m : Nat) (tl : List Value) (h : kb.length = 4096) : (prCells kb n tl).toArray.setIfInBounds 4096 (.int .i64 m) = (prCells kb m tl).toArray := by
 apply Array.ext'
 rw [Array.toList_setIfInBounds]
 show (prCells kb n tl).set 4096 _ = prCells kb m tl
 unfold prCells
 rw [List.set_append_right _ _ (by simp [h])]
 simp [h]
theorem prCells_put (kb : List UInt8) (n i : Nat) (tl : List Value) (v : Value) (h : kb.length = 4096) : (prCells kb n tl).toArray.setIfInBounds (4097 + i) v = (prCells kb n (tl.set i v)).toArray := by
 apply Array.ext'
 rw [Array.toList_setIfInBounds]
 show (prCells kb n tl).set (4097 + i) _ = prCells kb n _
 unfold prCells
 rw [List.set_append_right _ _ (by simp [h]; omega)]
 simp only [List.length_map, h]
 rw [show 4097 + i - 4096 = i + 1 by omega]
 rfl
theorem MidPr.cell {W : World} {g n : Nat} {l : List UInt8} {tl : List Value} (h : MidPr W g n l tl) : W.cell? ⟨g, 4096, none⟩ = some (.int .i64 n) := by
 obtain ⟨kb, h1, _, h3⟩ := h
 rw [cell_of_row W g 4096 _ _ _ h3]
 simpa using prCells_get kb n tl h1
theorem MidPr.frozen {W : World} {g n : Nat} {l : List UInt8} {tl : List Value} (h : MidPr W g n l tl) (j : Nat) : W.frozen? ⟨g, j, none⟩ = false := by
 obtain ⟨kb, h1, _, h3⟩ := h
 exact frozen_of_row W g j _ _ h3
theorem IsPr.mid {W : World} {g : Nat} {l : List UInt8} {tl : List Value} (h : IsPr W g l tl) : MidPr W g l.length l tl := h
theorem IsPr.tl {W : World} {g i : Nat} {l : List UInt8} {tl : List Value} {v : Value} (h : IsPr W g l tl) (hv : tl[i]? = some v) : W.cell? ⟨g, 4097 + i, none⟩ = some v := by
 obtain ⟨kb, h1, _, h3⟩ := h
 rw [cell_of_row W g (4097 + i) _ _ _ h3]
 simpa [hv] using prCells_tl kb l.length i tl h1
theorem IsPr.put {W : World} {g : Nat} {l : List UInt8} {tl : List Value} (h : IsPr W g l tl) (i : Nat) (v : Value) : IsPr (W.setCell ⟨g, 4097 + i, none⟩ v) g l (tl.set i v) := by
 obtain ⟨kb, h1, h2, h3⟩ := h
 refine ⟨kb, h1, h2, ?_⟩
 rw [heap_setCell_same W g (4097 + i) _ _ _ h3, prCells_put kb l.length i tl v h1]
theorem IsPr.lt {W : World} {g : Nat} {l : List UInt8} {tl : List Value} (h : IsPr W g l tl) : g < W.heap.size := by
 obtain ⟨kb, _, _, h3⟩ := h
 exact (Array.getElem?_eq_some_iff.1 h3).1
theorem IsPr.kept {W W' : World} {g : Nat} {P : Nat → Prop} {l : List UInt8} {tl : List Value} (h : IsPr W g l tl) (k : Kx P W W') (hg : ¬ P g) : IsPr W' g l tl := by
 have hl := h.lt
 obtain ⟨kb, h1, h2, h3⟩ := h
 exact ⟨kb, h1, h2, (k.block g hl hg).trans h3⟩
theorem IsPr.below {W W' : World} {g : Nat} {l : List UInt8} {tl : List Value} (h : IsPr W g l tl) (k : Below W.heap.size W W') : IsPr W' g l tl := h.kept (P := fun _ => False) (.of_below k) id
theorem MidPr.done {W : World} {g n : Nat} {l : List UInt8} {tl : List Value} (h : MidPr W g n l tl) : IsPr (W.setCell ⟨g, 4096, none⟩ (.int .i64 l.length)) g l tl := by
 obtain ⟨kb, h1, h2, h3⟩ := h
 refine ⟨kb, h1, h2, ?_⟩
 rw [heap_setCell_same W g 4096 _ _ _ h3, prCells_set kb n l.length tl h1]
theorem isPr_new (w : World) (tl : List Value) : IsPr (w.alloc (.cells (prCells zeroK 0 tl).toArray 106)) w.heap.size [] tl :=
 ⟨zeroK, List.length_replicate .., by simp, heap_alloc_new w _⟩
theorem IsPr.copied {W : World} {g : Nat} {l s : List UInt8} {tl : List Value} (h : IsPr W g l tl) (hn : l.length < 4096) (k : Nat) (hk : k = Nat.min s.length (4096 - l.length)) :
  ∃ cur : Array Value, W.heap[g]? = some (.cells cur 106 (0, 0)) ∧ l.length + k ≤ cur.size ∧
    ∀ W' : World, W'.heap[g]? = some (.cells (cur.toList.take l.length ++ (s.take k).map (fun b => Value.int .u8 b.toNat) ++ cur.toList.drop (l.length + k)).toArray 106 (0, 0)) → MidPr W' g l.length (l ++ s) tl := by
 obtain ⟨kb, h1, h2, h3⟩ := h
 refine ⟨_, h3, by rw [List.size_toArray, prCells_len, hk]; have : Nat.min s.length (4096 - l.length) ≤ 4096 - l.length := Nat.min_le_right _ _; omega, ?_⟩
 intro W' hW
 have hk1 : k ≤ s.length := by rw [hk]; exact Nat.min_le_left _ _
 have hk2 : k ≤ 4096 - l.length := by rw [hk]; exact Nat.min_le_right _ _
 have hk3 : k = s.length ∨ k = 4096 - l.length := by
  have : Nat.min s.length (4096 - l.length) = s.length ∨ Nat.min s.length (4096 - l.length) = 4096 - l.length := by
   rcases Nat.le_total s.length (4096 - l.length) with h | h
   ·exact .inl (Nat.min_eq_left h)
   ·exact .inr (Nat.min_eq_right h)
  omega
 refine ⟨kb.take l.length ++ s.take k ++ kb.drop (l.length + k), ?_, ?_, ?_⟩
 ·simp only [List.length_append, List.length_take, List.length_drop, h1]; omega
 ·rw [h2, List.take_of_length_le (show l.length ≤ 4096 by omega), List.append_assoc]
  rcases hk3 with e | e
  ·subst e
   rw [List.take_length, ← List.append_assoc, List.take_left, List.take_of_length_le (by rw [List.length_append]; omega)]
  ·rw [List.take_append, List.take_append (l₁ := l) (l₂ := s), List.take_of_length_le (show l.length ≤ 4096 by omega), List.take_of_length_le (show l.length ≤ (l ++ s).length by simp)]
   congr 1
   have hd : kb.drop (l.length + k) = [] := List.drop_eq_nil_of_le (by omega)
   rw [hd, List.append_nil, ← e]
   apply List.take_of_length_le
   rw [List.length_take, List.length_append]; omega
 ·rw [hW]
  congr 3
  unfold prCells
  rw [List.take_append_of_le_length (by simp [h1]; omega), List.drop_append_of_le_length (by simp [h1]; omega)]
  simp [List.map_take, List.map_drop]
theorem IsPr.full {W : World} {g : Nat} {l s : List UInt8} {tl : List Value} (h : IsPr W g l tl) (hn : ¬ l.length < 4096) : MidPr W g l.length (l ++ s) tl := by
 obtain ⟨kb, h1, h2, h3⟩ := h
 refine ⟨kb, h1, ?_, h3⟩
 rw [List.take_of_length_le (by omega)] at h2
 rw [List.take_of_length_le (by rw [List.length_append]; omega), List.take_append_of_le_length (by omega), h2]
set_option maxHeartbeats 400000 in
theorem over_any (g : Nat) (l : List UInt8) (tl : List Value) (W : World) (h : IsPr W g l tl) :
  Calls Tryz.prog 55 #[.pointer (some ⟨g, 0, none⟩)] W fun e W' => e = .returned (.bool (decide ((4096 : Int) < l.length))) ∧ W' = W := by
 have hc := h.mid.cell
 go_enter Tryz.func55, Tryz.ntmps55
 go_wp2
 go_ret
 exact ⟨rfl, rfl⟩
set_option maxRecDepth 1000000 in
set_option maxHeartbeats 400000 in
theorem put_any (g : Nat) (l : List UInt8) (tl : List Value) (s : ByteArray) (W : World) (h : IsPr W g l tl) (hl : l.length + s.size ≤ 1000000000) :
  Calls Tryz.prog 64 #[.pointer (some ⟨g, 0, none⟩), .string s] W fun e W' => e = .returned (.tuple #[]) ∧ IsPr W' g (l ++ s.data.toList) tl ∧ Kx (fun k => k = g) W W' := by
 have hc := h.mid.cell
 have hf := h.mid.frozen 4096
 go_enter Tryz.func64, Tryz.ntmps64
 go_upto_if 8 with fail
 go_cut [] (fun wx => MidPr wx g l.length (l ++ s.data.toList) tl ∧ Kx (fun k => k = g) W wx)
 case first =>
  by_cases hn : l.length < 4096
  ·obtain ⟨cur, hg, hfit, hmk⟩ := h.copied (s := s.data.toList) hn (Nat.min s.size (4096 - l.length)) rfl
   have hsl := fun w => at_l w g l.length hn
   have hcp : ∀ ty, (Builtin.copy_ #[47, 9] ty #[.slice (some ⟨g, l.length, none⟩) (4096 - l.length) (4096 - l.length), .string s]).run Tryz.prog W.drew = _ := fun ty => run_copy_str W.drew 47 9 ty 5 g l.length (4096 - l.length) (4096 - l.length) s cur 106 _ Tryz.underlying47 (by kernel_rfl) hg rfl hfit
   go_wp2
   go_region
   all_goals (go_wp2_with fail; go_meet)
   all_goals
    refine ⟨hmk _ ?_, Kx.setRow (P := fun k => k = g) ((Kx.refl _ _).drew) g rfl _⟩
    rw [setRow_heap W.drew g cur _ 106 (0, 0) hg, List.append_assoc, List.map_take]
  ·go_wp2
   go_meet
   exact ⟨h.full hn, Kx.refl _ _⟩
 case rest =>
  obtain ⟨hm, hk⟩ := hcut
  have hc2 := hm.cell
  have hf2 := hm.frozen 4096
  go_wp2
  go_end0
  refine ⟨rfl, ?_, hk.setCell _ _ (Or.inl rfl) _⟩
  have hd := hm.done
  have e : ((l ++ s.data.toList).length : Int) = (l.length : Int) + (s.size : Int) := by rw [List.length_append, ← Lib.size_eq]; omega
  rw [e] at hd
  exact hd
def txt (l : List UInt8) : ByteArray := if 4096 < l.length then ⟨(l.take 4096).toArray⟩ ++ ⟨#[37, 33, 40, 84, 79, 79, 76, 79, 78, 71, 41]⟩ else ⟨l.toArray⟩
set_option maxRecDepth 1000000 in
theorem IsPr.conv {W : World} {g : Nat} {l : List UInt8} {tl : List Value} (h : IsPr W g l tl) (n : Nat) (hn : n ≤ 4096) (hnl : n ≤ l.length) :
  (convert 47 9 (.slice (some ⟨g, 0, none⟩) n 4096)).run Tryz.prog W = .ok (.string ⟨(l.take n).toArray⟩) W := by
 obtain ⟨kb, h1, h2, h3⟩ := h
 have e : kb.take n = l.take n := by
  have := congrArg (List.take n) h2
  rw [List.take_take, List.take_take, Nat.min_eq_left hnl, Nat.min_eq_left hn] at this
  exact this
 have := run_convert_bytes_arg (P := Tryz.prog) W 47 5 Tryz.underlying47 Tryz.underlying5 g 0 n 4096 ((kb.take n).map fun b => (b.toNat : Int)) (by rw [List.length_map, List.length_take]; omega) (fun i hi => by
  rw [Nat.zero_add, cell_of_row W g i _ _ _ h3]
  have hb := prCells_byte kb l.length i tl (by omega)
  rw [List.getElem?_toArray, hb]
  simp [List.getD, hi, show i < kb.length by omega]) 9 Tryz.underlying9
 rw [this, e]
 congr 2
 unfold strOfNums
 congr 2
 rw [List.map_map]
 apply List.ext_getElem
 ·simp
 ·intro i h1 h2; simp
set_option maxRecDepth 1000000 in
set_option maxHeartbeats 400000 in
theorem text_any (g : Nat) (l : List UInt8) (tl : List Value) (W : World) (h : IsPr W g l tl) (hl : l.length ≤ 1000000000) :
  Calls Tryz.prog 52 #[.pointer (some ⟨g, 0, none⟩)] W fun e W' => e = .returned (.string (txt l)) ∧ Below W.heap.size W W' := by
 have hc := h.mid.cell
 by_cases ho : 4096 < l.length
 ·have ho' : (4096 : Int) < l.length := by omega
  have hsl := fun w => at_all w g
  have hcv := h.conv 4096 (by omega) (by omega)
  have hsum : ¬ 9223372036854775807 < (⟨(l.take 4096).toArray⟩ : ByteArray).size + 11 := by
   rw [Lib.size_eq]; simp; omega
  have ht : txt l = ⟨(l.take 4096).toArray⟩ ++ ⟨#[37, 33, 40, 84, 79, 79, 76, 79, 78, 71, 41]⟩ := by unfold txt; rw [if_pos ho]
  have HT : Hid (txt l = ⟨(l.take 4096).toArray⟩ ++ ⟨#[37, 33, 40, 84, 79, 79, 76, 79, 78, 71, 41]⟩) := ht
  clear ht
  go_enter Tryz.func52, Tryz.ntmps52
  go_wp2_with (go_at_call 55; refine (over_any g l tl _ h).mono ?_; rintro e w1 ⟨rfl, rfl⟩)
  go_ret
  exact ⟨ret_str HT.out.symm, Below.refl _ _⟩
 ·have ho' : ¬ (4096 : Int) < l.length := by omega
  have hle : l.length ≤ 4096 := by omega
  have hsl := fun w => at_h w g l.length hle
  have hb : IsPr W.drew g l tl := h
  have hcv := hb.conv l.length hle (Nat.le_refl _)
  rw [List.take_length] at hcv
  have HT : Hid (txt l = ⟨l.toArray⟩) := by show txt l = _; unfold txt; rw [if_neg ho]
  go_enter Tryz.func52, Tryz.ntmps52
  go_wp2_with (go_at_call 55; refine (over_any g l tl _ h).mono ?_; rintro e w1 ⟨rfl, rfl⟩)
  go_region
  all_goals go_wp2
  all_goals go_ret
  all_goals exact ⟨ret_str HT.out.symm, (Below.refl _ _).drew⟩
end Go.Proofs.YtdlnmnipnkeabaaGreatDoor
