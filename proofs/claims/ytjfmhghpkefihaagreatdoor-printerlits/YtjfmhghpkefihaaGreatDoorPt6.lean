/- Quoted, TextA, XRow: these texts in one. -/
import Derived.Test.YtjfmhghpkefihaaGreatDoorPt5
import Derived.Test.YtjfmhghpkefihaaGreatDoorHexW
import Derived.Test.YtjfmhghpkefihaaGreatDoorPt4
import Derived.Test.YtjfmhghpkefihaaGreatDoorProg
import Derived.Lib.MapLaws
import Derived.Deep.LoopGhost
import Derived.Deep.RegionWith
import Derived.Maps.AppendAt
import Derived.Deep.DeepCutAuto
import Derived.Deep.CutBlock
import Derived.Test.YtjfmhghpkefihaaGreatDoorPt2
import Derived.Deep.MidRow
import Derived.Deep.Upon
import Derived.Handy
/- The walk of quoted. -/
namespace Go.Proofs.YtjfmhghpkefihaaGreatDoor
open Go.RowKit
set_option linter.unusedVariables false

/-- A text in the quotes that the flags ask for. -/
def quotedS (s : ByteArray) (sh p : Bool) : ByteArray := cond (sh && rawF s 0) (rawT s) (quoS s p)
theorem quotedS_size (s : ByteArray) (sh p : Bool) : (quotedS s sh p).size ≤ 10 * s.size + 2 := by
  have h1 := quoS_size s p
  have h2 : (rawT s).size = s.size + 2 := by
    have h3 : (96 :: (s.data.toList ++ [96])).length = s.size + 2 := by
      rw [List.length_cons, List.length_append, list_len]; rfl
    exact h3
  unfold quotedS
  cases (sh && rawF s 0)
  · exact h1
  · show (rawT s).size ≤ _
    omega

set_option maxRecDepth 1000000 in
set_option maxHeartbeats 800000 in
theorem quoted_any (s : ByteArray) (p mi sh sp z : Bool) (wid prec verb : Int) (w : World) (hE : Esc w) (hs : s.size ≤ 90000) :
    Calls Tryz.prog 90 #[.string s, .agg #[.bool p, .bool mi, .bool sh, .bool sp, .bool z, .int .i64 wid, .int .i64 prec, .int .i32 verb]] w fun e w' => e = .returned (.string (quotedS s sh p)) ∧ Below w.heap.size w w' := by
  have hbA : Below w.heap.size w (w.alloc (.cells #[.bool p, .bool mi, .bool sh, .bool sp, .bool z, .int .i64 wid, .int .i64 prec, .int .i32 verb] 67)) := (Below.refl _ _).alloc (Nat.le_refl _) _
  have hE1 := hE.below hbA
  have d0 : (w.alloc (.cells #[.bool p, .bool mi, .bool sh, .bool sp, .bool z, .int .i64 wid, .int .i64 prec, .int .i32 verb] 67)).cell? ⟨w.heap.size, 0, none⟩ = some (.bool p) := by simp
  have d1 : (w.alloc (.cells #[.bool p, .bool mi, .bool sh, .bool sp, .bool z, .int .i64 wid, .int .i64 prec, .int .i32 verb] 67)).cell? ⟨w.heap.size, 1, none⟩ = some (.bool mi) := by simp
  have d2 : (w.alloc (.cells #[.bool p, .bool mi, .bool sh, .bool sp, .bool z, .int .i64 wid, .int .i64 prec, .int .i32 verb] 67)).cell? ⟨w.heap.size, 2, none⟩ = some (.bool sh) := by simp
  have d3 : (w.alloc (.cells #[.bool p, .bool mi, .bool sh, .bool sp, .bool z, .int .i64 wid, .int .i64 prec, .int .i32 verb] 67)).cell? ⟨w.heap.size, 3, none⟩ = some (.bool sp) := by simp
  have d4 : (w.alloc (.cells #[.bool p, .bool mi, .bool sh, .bool sp, .bool z, .int .i64 wid, .int .i64 prec, .int .i32 verb] 67)).cell? ⟨w.heap.size, 4, none⟩ = some (.bool z) := by simp
  have d5 : (w.alloc (.cells #[.bool p, .bool mi, .bool sh, .bool sp, .bool z, .int .i64 wid, .int .i64 prec, .int .i32 verb] 67)).cell? ⟨w.heap.size, 5, none⟩ = some (.int .i64 wid) := by simp
  have d6 : (w.alloc (.cells #[.bool p, .bool mi, .bool sh, .bool sp, .bool z, .int .i64 wid, .int .i64 prec, .int .i32 verb] 67)).cell? ⟨w.heap.size, 6, none⟩ = some (.int .i64 prec) := by simp
  have d7 : (w.alloc (.cells #[.bool p, .bool mi, .bool sh, .bool sp, .bool z, .int .i64 wid, .int .i64 prec, .int .i32 verb] 67)).cell? ⟨w.heap.size, 7, none⟩ = some (.int .i32 verb) := by simp
  have hQ : ∀ w, Esc w → Calls Tryz.prog 87 #[.string s, .bool p] w fun e w' => e = .returned (.string (quoS s p)) ∧ Below w.heap.size w w' := fun w hE => quote_any s p w hE (by omega)
  have hR : ∀ b, rawF s 0 = b → ∀ w, Calls Tryz.prog 127 #[.string s] w fun e w' => e = .returned (.tuple #[.string (cond b (rawT s) ⟨#[]⟩), .bool b]) ∧ Below w.heap.size w w' := fun b h w => qraw_any s b w (by omega) h
  have HQ : Hid (∀ b, rawF s 0 = b → quotedS s true p = cond b (rawT s) (quoS s p)) := fun b h => by unfold quotedS; rw [h]; rfl
  have HQ0 : Hid (quotedS s false p = quoS s p) := by show _ = _; unfold quotedS; rfl
  cases sh with
  | false =>
    rw [HQ0.out]
    generalize quoS s p = r at *
    clear hR HQ HQ0
    go_enter Tryz.func90, Tryz.ntmps90
    go_wp2_with (go_at_call 87; refine (hQ _ hE1).mono ?_; rintro e w2 ⟨rfl, hb2⟩)
    go_ret
    exact ⟨rfl, hbA.trans (hb2.mono hbA.size)⟩
  | true =>
    cases hb : rawF s 0 with
    | true =>
      rw [HQ.out true hb]
      replace hR := hR true hb
      clear hb HQ HQ0 hQ
      generalize rawT s = t at *
      generalize quoS s p = r at *
      go_enter Tryz.func90, Tryz.ntmps90
      go_wp2_with (go_at_call 127; refine (hR _).mono ?_; rintro e w2 ⟨rfl, hb2⟩)
      go_ret
      exact ⟨rfl, hbA.trans (hb2.mono hbA.size)⟩
    | false =>
      rw [HQ.out false hb]
      replace hR := hR false hb
      clear hb HQ HQ0
      generalize rawT s = t at *
      generalize quoS s p = r at *
      go_enter Tryz.func90, Tryz.ntmps90
      go_wp2_with (first | (go_at_call 127; refine (hR _).mono ?_; rintro e w2 ⟨rfl, hb2⟩; have f0 := (hb2.cell (p := ⟨w.heap.size, 0, none⟩) (by simp)).trans d0) | (go_at_call 87; refine (hQ _ (hE1.below hb2)).mono ?_; rintro e w3 ⟨rfl, hb3⟩))
      go_ret
      exact ⟨rfl, hbA.trans ((hb2.trans (hb3.mono hb2.size)).mono hbA.size)⟩
end Go.Proofs.YtjfmhghpkefihaaGreatDoor

/- The walk of Text, by every verb. -/
namespace Go.Proofs.YtjfmhghpkefihaaGreatDoor
open Go.RowKit
set_option linter.unusedVariables false

set_option maxRecDepth 1000000 in
set_option maxHeartbeats 2000000 in
theorem text_s0 (s : ByteArray) (p mi sp z : Bool) (wid prec : Int) (w : World) (hE : Esc w) (hs : s.size ≤ 9000) (hpr : prec ≤ 9223372036854775807) :
    Calls Tryz.prog 53 #[.string s, .agg #[.bool p, .bool mi, .bool false, .bool sp, .bool z, .int .i64 wid, .int .i64 prec, .int .i32 115]] w fun e w' => e = .returned (.tuple #[.string (padS (cutS s (min prec 1000)) mi z wid), .bool true]) ∧ Below w.heap.size w w' := by
  have hbA : Below w.heap.size w (w.alloc (.cells #[.bool p, .bool mi, .bool false, .bool sp, .bool z, .int .i64 wid, .int .i64 prec, .int .i32 115] 67)) := (Below.refl _ _).alloc (Nat.le_refl _) _
  have f0 : ∀ x : Cl (w.alloc (.cells #[.bool p, .bool mi, .bool false, .bool sp, .bool z, .int .i64 wid, .int .i64 prec, .int .i32 115] 67)), x.w.cell? ⟨w.heap.size, 0, none⟩ = some (.bool p) := fun x => x.cell (by simp)
  have f1 : ∀ x : Cl (w.alloc (.cells #[.bool p, .bool mi, .bool false, .bool sp, .bool z, .int .i64 wid, .int .i64 prec, .int .i32 115] 67)), x.w.cell? ⟨w.heap.size, 1, none⟩ = some (.bool mi) := fun x => x.cell (by simp)
  have f2 : ∀ x : Cl (w.alloc (.cells #[.bool p, .bool mi, .bool false, .bool sp, .bool z, .int .i64 wid, .int .i64 prec, .int .i32 115] 67)), x.w.cell? ⟨w.heap.size, 2, none⟩ = some (.bool false) := fun x => x.cell (by simp)
  have f3 : ∀ x : Cl (w.alloc (.cells #[.bool p, .bool mi, .bool false, .bool sp, .bool z, .int .i64 wid, .int .i64 prec, .int .i32 115] 67)), x.w.cell? ⟨w.heap.size, 3, none⟩ = some (.bool sp) := fun x => x.cell (by simp)
  have f4 : ∀ x : Cl (w.alloc (.cells #[.bool p, .bool mi, .bool false, .bool sp, .bool z, .int .i64 wid, .int .i64 prec, .int .i32 115] 67)), x.w.cell? ⟨w.heap.size, 4, none⟩ = some (.bool z) := fun x => x.cell (by simp)
  have f5 : ∀ x : Cl (w.alloc (.cells #[.bool p, .bool mi, .bool false, .bool sp, .bool z, .int .i64 wid, .int .i64 prec, .int .i32 115] 67)), x.w.cell? ⟨w.heap.size, 5, none⟩ = some (.int .i64 wid) := fun x => x.cell (by simp)
  have f6 : ∀ x : Cl (w.alloc (.cells #[.bool p, .bool mi, .bool false, .bool sp, .bool z, .int .i64 wid, .int .i64 prec, .int .i32 115] 67)), x.w.cell? ⟨w.heap.size, 6, none⟩ = some (.int .i64 prec) := fun x => x.cell (by simp)
  have f7 : ∀ x : Cl (w.alloc (.cells #[.bool p, .bool mi, .bool false, .bool sp, .bool z, .int .i64 wid, .int .i64 prec, .int .i32 115] 67)), x.w.cell? ⟨w.heap.size, 7, none⟩ = some (.int .i32 115) := fun x => x.cell (by simp)
  have hE1 : ∀ x : Cl (w.alloc (.cells #[.bool p, .bool mi, .bool false, .bool sp, .bool z, .int .i64 wid, .int .i64 prec, .int .i32 115] 67)), Esc x.w := fun x => (hE.below hbA).below x.below
  have hP := prec_any p mi false sp z wid prec 115
  have hcs := (cut_facts s (min prec 1000)).1
  have hC : ∀ w, Calls Tryz.prog 88 #[.string s, .int .i64 (min prec 1000)] w fun e w' => e = .returned (.string (cutS s (min prec 1000))) ∧ Below w.heap.size w w' := fun w => cut_any s _ w (by unfold maxLen; omega) (by omega)
  have hPd : ∀ w, Calls Tryz.prog 86 #[.string (cutS s (min prec 1000)), .agg #[.bool p, .bool mi, .bool false, .bool sp, .bool z, .int .i64 wid, .int .i64 prec, .int .i32 115]] w fun e w' => e = .returned (.string (padS (cutS s (min prec 1000)) mi z wid)) ∧ Below w.heap.size w w' := fun w => pad_any _ p mi false sp z wid prec 115 w (by omega)
  clear hcs
  generalize padS (cutS s (min prec 1000)) mi z wid = rr at *
  generalize cutS s (min prec 1000) = r at *
  generalize min prec 1000 = q at *
  go_enter Tryz.func53, Tryz.ntmps53
  go_wp2
  refine wp_region_above (w.alloc (.cells #[.bool p, .bool mi, .bool false, .bool sp, .bool z, .int .i64 wid, .int .i64 prec, .int .i32 115] 67)) (Below.refl _ _) (by kernel_rfl) (by kernel_rfl) ?_
  intro hCl
  repeat (go_big_quiet_step ((first | (go_at_call 89; exact Cl.call (hP _)) | (go_at_call 88; exact Cl.call (hC _)) | (go_at_call 86; exact Cl.call (hPd _)))))
  refine wpQuiet_nil ?_
  intro _ hw'
  obtain ⟨x, hx⟩ := hw'
  subst hx
  go_wp2
  go_ret2
  exact ⟨rfl, hbA.trans (x.below.mono hbA.size)⟩

set_option maxRecDepth 1000000 in
set_option maxHeartbeats 2000000 in
theorem text_s1 (s : ByteArray) (p mi sp z : Bool) (wid prec : Int) (w : World) (hE : Esc w) (hs : s.size ≤ 9000) (hpr : prec ≤ 9223372036854775807) :
    Calls Tryz.prog 53 #[.string s, .agg #[.bool p, .bool mi, .bool true, .bool sp, .bool z, .int .i64 wid, .int .i64 prec, .int .i32 115]] w fun e w' => e = .returned (.tuple #[.string (padS (cutS s (min prec 1000)) mi z wid), .bool true]) ∧ Below w.heap.size w w' := by
  have hbA : Below w.heap.size w (w.alloc (.cells #[.bool p, .bool mi, .bool true, .bool sp, .bool z, .int .i64 wid, .int .i64 prec, .int .i32 115] 67)) := (Below.refl _ _).alloc (Nat.le_refl _) _
  have f0 : ∀ x : Cl (w.alloc (.cells #[.bool p, .bool mi, .bool true, .bool sp, .bool z, .int .i64 wid, .int .i64 prec, .int .i32 115] 67)), x.w.cell? ⟨w.heap.size, 0, none⟩ = some (.bool p) := fun x => x.cell (by simp)
  have f1 : ∀ x : Cl (w.alloc (.cells #[.bool p, .bool mi, .bool true, .bool sp, .bool z, .int .i64 wid, .int .i64 prec, .int .i32 115] 67)), x.w.cell? ⟨w.heap.size, 1, none⟩ = some (.bool mi) := fun x => x.cell (by simp)
  have f2 : ∀ x : Cl (w.alloc (.cells #[.bool p, .bool mi, .bool true, .bool sp, .bool z, .int .i64 wid, .int .i64 prec, .int .i32 115] 67)), x.w.cell? ⟨w.heap.size, 2, none⟩ = some (.bool true) := fun x => x.cell (by simp)
  have f3 : ∀ x : Cl (w.alloc (.cells #[.bool p, .bool mi, .bool true, .bool sp, .bool z, .int .i64 wid, .int .i64 prec, .int .i32 115] 67)), x.w.cell? ⟨w.heap.size, 3, none⟩ = some (.bool sp) := fun x => x.cell (by simp)
  have f4 : ∀ x : Cl (w.alloc (.cells #[.bool p, .bool mi, .bool true, .bool sp, .bool z, .int .i64 wid, .int .i64 prec, .int .i32 115] 67)), x.w.cell? ⟨w.heap.size, 4, none⟩ = some (.bool z) := fun x => x.cell (by simp)
  have f5 : ∀ x : Cl (w.alloc (.cells #[.bool p, .bool mi, .bool true, .bool sp, .bool z, .int .i64 wid, .int .i64 prec, .int .i32 115] 67)), x.w.cell? ⟨w.heap.size, 5, none⟩ = some (.int .i64 wid) := fun x => x.cell (by simp)
  have f6 : ∀ x : Cl (w.alloc (.cells #[.bool p, .bool mi, .bool true, .bool sp, .bool z, .int .i64 wid, .int .i64 prec, .int .i32 115] 67)), x.w.cell? ⟨w.heap.size, 6, none⟩ = some (.int .i64 prec) := fun x => x.cell (by simp)
  have f7 : ∀ x : Cl (w.alloc (.cells #[.bool p, .bool mi, .bool true, .bool sp, .bool z, .int .i64 wid, .int .i64 prec, .int .i32 115] 67)), x.w.cell? ⟨w.heap.size, 7, none⟩ = some (.int .i32 115) := fun x => x.cell (by simp)
  have hE1 : ∀ x : Cl (w.alloc (.cells #[.bool p, .bool mi, .bool true, .bool sp, .bool z, .int .i64 wid, .int .i64 prec, .int .i32 115] 67)), Esc x.w := fun x => (hE.below hbA).below x.below
  have hP := prec_any p mi true sp z wid prec 115
  have hcs := (cut_facts s (min prec 1000)).1
  have hC : ∀ w, Calls Tryz.prog 88 #[.string s, .int .i64 (min prec 1000)] w fun e w' => e = .returned (.string (cutS s (min prec 1000))) ∧ Below w.heap.size w w' := fun w => cut_any s _ w (by unfold maxLen; omega) (by omega)
  have hPd : ∀ w, Calls Tryz.prog 86 #[.string (cutS s (min prec 1000)), .agg #[.bool p, .bool mi, .bool true, .bool sp, .bool z, .int .i64 wid, .int .i64 prec, .int .i32 115]] w fun e w' => e = .returned (.string (padS (cutS s (min prec 1000)) mi z wid)) ∧ Below w.heap.size w w' := fun w => pad_any _ p mi true sp z wid prec 115 w (by omega)
  clear hcs
  generalize padS (cutS s (min prec 1000)) mi z wid = rr at *
  generalize cutS s (min prec 1000) = r at *
  generalize min prec 1000 = q at *
  go_enter Tryz.func53, Tryz.ntmps53
  go_wp2
  refine wp_region_above (w.alloc (.cells #[.bool p, .bool mi, .bool true, .bool sp, .bool z, .int .i64 wid, .int .i64 prec, .int .i32 115] 67)) (Below.refl _ _) (by kernel_rfl) (by kernel_rfl) ?_
  intro hCl
  repeat (go_big_quiet_step ((first | (go_at_call 89; exact Cl.call (hP _)) | (go_at_call 88; exact Cl.call (hC _)) | (go_at_call 86; exact Cl.call (hPd _)))))
  refine wpQuiet_nil ?_
  intro _ hw'
  obtain ⟨x, hx⟩ := hw'
  subst hx
  go_wp2
  go_ret2
  exact ⟨rfl, hbA.trans (x.below.mono hbA.size)⟩

set_option maxRecDepth 1000000 in
set_option maxHeartbeats 2000000 in
theorem text_v0 (s : ByteArray) (p mi sp z : Bool) (wid prec : Int) (w : World) (hE : Esc w) (hs : s.size ≤ 9000) (hpr : prec ≤ 9223372036854775807) :
    Calls Tryz.prog 53 #[.string s, .agg #[.bool p, .bool mi, .bool false, .bool sp, .bool z, .int .i64 wid, .int .i64 prec, .int .i32 118]] w fun e w' => e = .returned (.tuple #[.string (padS (cutS s (min prec 1000)) mi z wid), .bool true]) ∧ Below w.heap.size w w' := by
  have hbA : Below w.heap.size w (w.alloc (.cells #[.bool p, .bool mi, .bool false, .bool sp, .bool z, .int .i64 wid, .int .i64 prec, .int .i32 118] 67)) := (Below.refl _ _).alloc (Nat.le_refl _) _
  have f0 : ∀ x : Cl (w.alloc (.cells #[.bool p, .bool mi, .bool false, .bool sp, .bool z, .int .i64 wid, .int .i64 prec, .int .i32 118] 67)), x.w.cell? ⟨w.heap.size, 0, none⟩ = some (.bool p) := fun x => x.cell (by simp)
  have f1 : ∀ x : Cl (w.alloc (.cells #[.bool p, .bool mi, .bool false, .bool sp, .bool z, .int .i64 wid, .int .i64 prec, .int .i32 118] 67)), x.w.cell? ⟨w.heap.size, 1, none⟩ = some (.bool mi) := fun x => x.cell (by simp)
  have f2 : ∀ x : Cl (w.alloc (.cells #[.bool p, .bool mi, .bool false, .bool sp, .bool z, .int .i64 wid, .int .i64 prec, .int .i32 118] 67)), x.w.cell? ⟨w.heap.size, 2, none⟩ = some (.bool false) := fun x => x.cell (by simp)
  have f3 : ∀ x : Cl (w.alloc (.cells #[.bool p, .bool mi, .bool false, .bool sp, .bool z, .int .i64 wid, .int .i64 prec, .int .i32 118] 67)), x.w.cell? ⟨w.heap.size, 3, none⟩ = some (.bool sp) := fun x => x.cell (by simp)
  have f4 : ∀ x : Cl (w.alloc (.cells #[.bool p, .bool mi, .bool false, .bool sp, .bool z, .int .i64 wid, .int .i64 prec, .int .i32 118] 67)), x.w.cell? ⟨w.heap.size, 4, none⟩ = some (.bool z) := fun x => x.cell (by simp)
  have f5 : ∀ x : Cl (w.alloc (.cells #[.bool p, .bool mi, .bool false, .bool sp, .bool z, .int .i64 wid, .int .i64 prec, .int .i32 118] 67)), x.w.cell? ⟨w.heap.size, 5, none⟩ = some (.int .i64 wid) := fun x => x.cell (by simp)
  have f6 : ∀ x : Cl (w.alloc (.cells #[.bool p, .bool mi, .bool false, .bool sp, .bool z, .int .i64 wid, .int .i64 prec, .int .i32 118] 67)), x.w.cell? ⟨w.heap.size, 6, none⟩ = some (.int .i64 prec) := fun x => x.cell (by simp)
  have f7 : ∀ x : Cl (w.alloc (.cells #[.bool p, .bool mi, .bool false, .bool sp, .bool z, .int .i64 wid, .int .i64 prec, .int .i32 118] 67)), x.w.cell? ⟨w.heap.size, 7, none⟩ = some (.int .i32 118) := fun x => x.cell (by simp)
  have hE1 : ∀ x : Cl (w.alloc (.cells #[.bool p, .bool mi, .bool false, .bool sp, .bool z, .int .i64 wid, .int .i64 prec, .int .i32 118] 67)), Esc x.w := fun x => (hE.below hbA).below x.below
  have hP := prec_any p mi false sp z wid prec 118
  have hcs := (cut_facts s (min prec 1000)).1
  have hC : ∀ w, Calls Tryz.prog 88 #[.string s, .int .i64 (min prec 1000)] w fun e w' => e = .returned (.string (cutS s (min prec 1000))) ∧ Below w.heap.size w w' := fun w => cut_any s _ w (by unfold maxLen; omega) (by omega)
  have hPd : ∀ w, Calls Tryz.prog 86 #[.string (cutS s (min prec 1000)), .agg #[.bool p, .bool mi, .bool false, .bool sp, .bool z, .int .i64 wid, .int .i64 prec, .int .i32 118]] w fun e w' => e = .returned (.string (padS (cutS s (min prec 1000)) mi z wid)) ∧ Below w.heap.size w w' := fun w => pad_any _ p mi false sp z wid prec 118 w (by omega)
  clear hcs
  generalize padS (cutS s (min prec 1000)) mi z wid = rr at *
  generalize cutS s (min prec 1000) = r at *
  generalize min prec 1000 = q at *
  go_enter Tryz.func53, Tryz.ntmps53
  go_wp2
  refine wp_region_above (w.alloc (.cells #[.bool p, .bool mi, .bool false, .bool sp, .bool z, .int .i64 wid, .int .i64 prec, .int .i32 118] 67)) (Below.refl _ _) (by kernel_rfl) (by kernel_rfl) ?_
  intro hCl
  repeat (go_big_quiet_step ((first | (go_at_call 89; exact Cl.call (hP _)) | (go_at_call 88; exact Cl.call (hC _)) | (go_at_call 86; exact Cl.call (hPd _)))))
  refine wpQuiet_nil ?_
  intro _ hw'
  obtain ⟨x, hx⟩ := hw'
  subst hx
  go_wp2
  go_ret2
  exact ⟨rfl, hbA.trans (x.below.mono hbA.size)⟩

set_option maxRecDepth 1000000 in
set_option maxHeartbeats 2000000 in
theorem text_v1 (s : ByteArray) (p mi sp z : Bool) (wid prec : Int) (w : World) (hE : Esc w) (hs : s.size ≤ 9000) (hpr : prec ≤ 9223372036854775807) :
    Calls Tryz.prog 53 #[.string s, .agg #[.bool p, .bool mi, .bool true, .bool sp, .bool z, .int .i64 wid, .int .i64 prec, .int .i32 118]] w fun e w' => e = .returned (.tuple #[.string (padS (quoS s false) mi z wid), .bool true]) ∧ Below w.heap.size w w' := by
  have hbA : Below w.heap.size w (w.alloc (.cells #[.bool p, .bool mi, .bool true, .bool sp, .bool z, .int .i64 wid, .int .i64 prec, .int .i32 118] 67)) := (Below.refl _ _).alloc (Nat.le_refl _) _
  have f0 : ∀ x : Cl (w.alloc (.cells #[.bool p, .bool mi, .bool true, .bool sp, .bool z, .int .i64 wid, .int .i64 prec, .int .i32 118] 67)), x.w.cell? ⟨w.heap.size, 0, none⟩ = some (.bool p) := fun x => x.cell (by simp)
  have f1 : ∀ x : Cl (w.alloc (.cells #[.bool p, .bool mi, .bool true, .bool sp, .bool z, .int .i64 wid, .int .i64 prec, .int .i32 118] 67)), x.w.cell? ⟨w.heap.size, 1, none⟩ = some (.bool mi) := fun x => x.cell (by simp)
  have f2 : ∀ x : Cl (w.alloc (.cells #[.bool p, .bool mi, .bool true, .bool sp, .bool z, .int .i64 wid, .int .i64 prec, .int .i32 118] 67)), x.w.cell? ⟨w.heap.size, 2, none⟩ = some (.bool true) := fun x => x.cell (by simp)
  have f3 : ∀ x : Cl (w.alloc (.cells #[.bool p, .bool mi, .bool true, .bool sp, .bool z, .int .i64 wid, .int .i64 prec, .int .i32 118] 67)), x.w.cell? ⟨w.heap.size, 3, none⟩ = some (.bool sp) := fun x => x.cell (by simp)
  have f4 : ∀ x : Cl (w.alloc (.cells #[.bool p, .bool mi, .bool true, .bool sp, .bool z, .int .i64 wid, .int .i64 prec, .int .i32 118] 67)), x.w.cell? ⟨w.heap.size, 4, none⟩ = some (.bool z) := fun x => x.cell (by simp)
  have f5 : ∀ x : Cl (w.alloc (.cells #[.bool p, .bool mi, .bool true, .bool sp, .bool z, .int .i64 wid, .int .i64 prec, .int .i32 118] 67)), x.w.cell? ⟨w.heap.size, 5, none⟩ = some (.int .i64 wid) := fun x => x.cell (by simp)
  have f6 : ∀ x : Cl (w.alloc (.cells #[.bool p, .bool mi, .bool true, .bool sp, .bool z, .int .i64 wid, .int .i64 prec, .int .i32 118] 67)), x.w.cell? ⟨w.heap.size, 6, none⟩ = some (.int .i64 prec) := fun x => x.cell (by simp)
  have f7 : ∀ x : Cl (w.alloc (.cells #[.bool p, .bool mi, .bool true, .bool sp, .bool z, .int .i64 wid, .int .i64 prec, .int .i32 118] 67)), x.w.cell? ⟨w.heap.size, 7, none⟩ = some (.int .i32 118) := fun x => x.cell (by simp)
  have hE1 : ∀ x : Cl (w.alloc (.cells #[.bool p, .bool mi, .bool true, .bool sp, .bool z, .int .i64 wid, .int .i64 prec, .int .i32 118] 67)), Esc x.w := fun x => (hE.below hbA).below x.below
  have hqs := quoS_size s false
  have hQ : ∀ w, Esc w → Calls Tryz.prog 87 #[.string s, .bool false] w fun e w' => e = .returned (.string (quoS s false)) ∧ Below w.heap.size w w' := fun w hE => quote_any s false w hE (by omega)
  have hPd : ∀ w, Calls Tryz.prog 86 #[.string (quoS s false), .agg #[.bool p, .bool mi, .bool true, .bool sp, .bool z, .int .i64 wid, .int .i64 prec, .int .i32 118]] w fun e w' => e = .returned (.string (padS (quoS s false) mi z wid)) ∧ Below w.heap.size w w' := fun w => pad_any _ p mi true sp z wid prec 118 w (by omega)
  clear hqs
  generalize padS (quoS s false) mi z wid = rr at *
  generalize quoS s false = r at *
  go_enter Tryz.func53, Tryz.ntmps53
  go_wp2
  refine wp_region_above (w.alloc (.cells #[.bool p, .bool mi, .bool true, .bool sp, .bool z, .int .i64 wid, .int .i64 prec, .int .i32 118] 67)) (Below.refl _ _) (by kernel_rfl) (by kernel_rfl) ?_
  intro hCl
  repeat (go_big_quiet_step ((first | (go_at_call 87; exact Cl.call (hQ _ (hE1 _))) | (go_at_call 86; exact Cl.call (hPd _)))))
  refine wpQuiet_nil ?_
  intro _ hw'
  obtain ⟨x, hx⟩ := hw'
  subst hx
  go_wp2
  go_ret2
  exact ⟨rfl, hbA.trans (x.below.mono hbA.size)⟩

set_option maxRecDepth 1000000 in
set_option maxHeartbeats 2000000 in
theorem text_q (s : ByteArray) (p mi sh sp z : Bool) (wid prec : Int) (w : World) (hE : Esc w) (hs : s.size ≤ 9000) (hpr : prec ≤ 9223372036854775807) :
    Calls Tryz.prog 53 #[.string s, .agg #[.bool p, .bool mi, .bool sh, .bool sp, .bool z, .int .i64 wid, .int .i64 prec, .int .i32 113]] w fun e w' => e = .returned (.tuple #[.string (padS (quotedS (cutS s (min prec 1000)) sh p) mi z wid), .bool true]) ∧ Below w.heap.size w w' := by
  have hbA : Below w.heap.size w (w.alloc (.cells #[.bool p, .bool mi, .bool sh, .bool sp, .bool z, .int .i64 wid, .int .i64 prec, .int .i32 113] 67)) := (Below.refl _ _).alloc (Nat.le_refl _) _
  have f0 : ∀ x : Cl (w.alloc (.cells #[.bool p, .bool mi, .bool sh, .bool sp, .bool z, .int .i64 wid, .int .i64 prec, .int .i32 113] 67)), x.w.cell? ⟨w.heap.size, 0, none⟩ = some (.bool p) := fun x => x.cell (by simp)
  have f1 : ∀ x : Cl (w.alloc (.cells #[.bool p, .bool mi, .bool sh, .bool sp, .bool z, .int .i64 wid, .int .i64 prec, .int .i32 113] 67)), x.w.cell? ⟨w.heap.size, 1, none⟩ = some (.bool mi) := fun x => x.cell (by simp)
  have f2 : ∀ x : Cl (w.alloc (.cells #[.bool p, .bool mi, .bool sh, .bool sp, .bool z, .int .i64 wid, .int .i64 prec, .int .i32 113] 67)), x.w.cell? ⟨w.heap.size, 2, none⟩ = some (.bool sh) := fun x => x.cell (by simp)
  have f3 : ∀ x : Cl (w.alloc (.cells #[.bool p, .bool mi, .bool sh, .bool sp, .bool z, .int .i64 wid, .int .i64 prec, .int .i32 113] 67)), x.w.cell? ⟨w.heap.size, 3, none⟩ = some (.bool sp) := fun x => x.cell (by simp)
  have f4 : ∀ x : Cl (w.alloc (.cells #[.bool p, .bool mi, .bool sh, .bool sp, .bool z, .int .i64 wid, .int .i64 prec, .int .i32 113] 67)), x.w.cell? ⟨w.heap.size, 4, none⟩ = some (.bool z) := fun x => x.cell (by simp)
  have f5 : ∀ x : Cl (w.alloc (.cells #[.bool p, .bool mi, .bool sh, .bool sp, .bool z, .int .i64 wid, .int .i64 prec, .int .i32 113] 67)), x.w.cell? ⟨w.heap.size, 5, none⟩ = some (.int .i64 wid) := fun x => x.cell (by simp)
  have f6 : ∀ x : Cl (w.alloc (.cells #[.bool p, .bool mi, .bool sh, .bool sp, .bool z, .int .i64 wid, .int .i64 prec, .int .i32 113] 67)), x.w.cell? ⟨w.heap.size, 6, none⟩ = some (.int .i64 prec) := fun x => x.cell (by simp)
  have f7 : ∀ x : Cl (w.alloc (.cells #[.bool p, .bool mi, .bool sh, .bool sp, .bool z, .int .i64 wid, .int .i64 prec, .int .i32 113] 67)), x.w.cell? ⟨w.heap.size, 7, none⟩ = some (.int .i32 113) := fun x => x.cell (by simp)
  have hE1 : ∀ x : Cl (w.alloc (.cells #[.bool p, .bool mi, .bool sh, .bool sp, .bool z, .int .i64 wid, .int .i64 prec, .int .i32 113] 67)), Esc x.w := fun x => (hE.below hbA).below x.below
  have hP := prec_any p mi sh sp z wid prec 113
  have hcs := (cut_facts s (min prec 1000)).1
  have hqs := quotedS_size (cutS s (min prec 1000)) sh p
  have hC : ∀ w, Calls Tryz.prog 88 #[.string s, .int .i64 (min prec 1000)] w fun e w' => e = .returned (.string (cutS s (min prec 1000))) ∧ Below w.heap.size w w' := fun w => cut_any s _ w (by unfold maxLen; omega) (by omega)
  have hQ : ∀ w, Esc w → Calls Tryz.prog 90 #[.string (cutS s (min prec 1000)), .agg #[.bool p, .bool mi, .bool sh, .bool sp, .bool z, .int .i64 wid, .int .i64 prec, .int .i32 113]] w fun e w' => e = .returned (.string (quotedS (cutS s (min prec 1000)) sh p)) ∧ Below w.heap.size w w' := fun w hE => quoted_any _ p mi sh sp z wid prec 113 w hE (by omega)
  have hPd : ∀ w, Calls Tryz.prog 86 #[.string (quotedS (cutS s (min prec 1000)) sh p), .agg #[.bool p, .bool mi, .bool sh, .bool sp, .bool z, .int .i64 wid, .int .i64 prec, .int .i32 113]] w fun e w' => e = .returned (.string (padS (quotedS (cutS s (min prec 1000)) sh p) mi z wid)) ∧ Below w.heap.size w w' := fun w => pad_any _ p mi sh sp z wid prec 113 w (by omega)
  clear hcs hqs
  generalize padS (quotedS (cutS s (min prec 1000)) sh p) mi z wid = rr at *
  generalize quotedS (cutS s (min prec 1000)) sh p = r2 at *
  generalize cutS s (min prec 1000) = r at *
  generalize min prec 1000 = q at *
  go_enter Tryz.func53, Tryz.ntmps53
  go_wp2
  refine wp_region_above (w.alloc (.cells #[.bool p, .bool mi, .bool sh, .bool sp, .bool z, .int .i64 wid, .int .i64 prec, .int .i32 113] 67)) (Below.refl _ _) (by kernel_rfl) (by kernel_rfl) ?_
  intro hCl
  repeat (go_big_quiet_step ((first | (go_at_call 89; exact Cl.call (hP _)) | (go_at_call 88; exact Cl.call (hC _)) | (go_at_call 90; exact Cl.call (hQ _ (hE1 _))) | (go_at_call 86; exact Cl.call (hPd _)))))
  refine wpQuiet_nil ?_
  intro _ hw'
  obtain ⟨x, hx⟩ := hw'
  subst hx
  go_wp2
  go_ret2
  exact ⟨rfl, hbA.trans (x.below.mono hbA.size)⟩

set_option maxRecDepth 1000000 in
set_option maxHeartbeats 2000000 in
theorem text_x (s : ByteArray) (p mi sh sp z : Bool) (wid prec : Int) (w : World) (hE : Esc w) (hs : s.size ≤ 9000) (hpr : prec ≤ 9223372036854775807) :
    Calls Tryz.prog 53 #[.string s, .agg #[.bool p, .bool mi, .bool sh, .bool sp, .bool z, .int .i64 wid, .int .i64 prec, .int .i32 120]] w fun e w' => e = .returned (.tuple #[.string (padS (hexS s sh sp false prec) mi z wid), .bool true]) ∧ Below w.heap.size w w' := by
  have hbA : Below w.heap.size w (w.alloc (.cells #[.bool p, .bool mi, .bool sh, .bool sp, .bool z, .int .i64 wid, .int .i64 prec, .int .i32 120] 67)) := (Below.refl _ _).alloc (Nat.le_refl _) _
  have f0 : ∀ x : Cl (w.alloc (.cells #[.bool p, .bool mi, .bool sh, .bool sp, .bool z, .int .i64 wid, .int .i64 prec, .int .i32 120] 67)), x.w.cell? ⟨w.heap.size, 0, none⟩ = some (.bool p) := fun x => x.cell (by simp)
  have f1 : ∀ x : Cl (w.alloc (.cells #[.bool p, .bool mi, .bool sh, .bool sp, .bool z, .int .i64 wid, .int .i64 prec, .int .i32 120] 67)), x.w.cell? ⟨w.heap.size, 1, none⟩ = some (.bool mi) := fun x => x.cell (by simp)
  have f2 : ∀ x : Cl (w.alloc (.cells #[.bool p, .bool mi, .bool sh, .bool sp, .bool z, .int .i64 wid, .int .i64 prec, .int .i32 120] 67)), x.w.cell? ⟨w.heap.size, 2, none⟩ = some (.bool sh) := fun x => x.cell (by simp)
  have f3 : ∀ x : Cl (w.alloc (.cells #[.bool p, .bool mi, .bool sh, .bool sp, .bool z, .int .i64 wid, .int .i64 prec, .int .i32 120] 67)), x.w.cell? ⟨w.heap.size, 3, none⟩ = some (.bool sp) := fun x => x.cell (by simp)
  have f4 : ∀ x : Cl (w.alloc (.cells #[.bool p, .bool mi, .bool sh, .bool sp, .bool z, .int .i64 wid, .int .i64 prec, .int .i32 120] 67)), x.w.cell? ⟨w.heap.size, 4, none⟩ = some (.bool z) := fun x => x.cell (by simp)
  have f5 : ∀ x : Cl (w.alloc (.cells #[.bool p, .bool mi, .bool sh, .bool sp, .bool z, .int .i64 wid, .int .i64 prec, .int .i32 120] 67)), x.w.cell? ⟨w.heap.size, 5, none⟩ = some (.int .i64 wid) := fun x => x.cell (by simp)
  have f6 : ∀ x : Cl (w.alloc (.cells #[.bool p, .bool mi, .bool sh, .bool sp, .bool z, .int .i64 wid, .int .i64 prec, .int .i32 120] 67)), x.w.cell? ⟨w.heap.size, 6, none⟩ = some (.int .i64 prec) := fun x => x.cell (by simp)
  have f7 : ∀ x : Cl (w.alloc (.cells #[.bool p, .bool mi, .bool sh, .bool sp, .bool z, .int .i64 wid, .int .i64 prec, .int .i32 120] 67)), x.w.cell? ⟨w.heap.size, 7, none⟩ = some (.int .i32 120) := fun x => x.cell (by simp)
  have hE1 : ∀ x : Cl (w.alloc (.cells #[.bool p, .bool mi, .bool sh, .bool sp, .bool z, .int .i64 wid, .int .i64 prec, .int .i32 120] 67)), Esc x.w := fun x => (hE.below hbA).below x.below
  have hX : ∀ w, Calls Tryz.prog 91 #[.string s, .agg #[.bool p, .bool mi, .bool sh, .bool sp, .bool z, .int .i64 wid, .int .i64 prec, .int .i32 120]] w fun e w' => e = .returned (.string (padS (hexS s sh sp false prec) mi z wid)) ∧ Below w.heap.size w w' := fun w => hex_any s p mi sh sp z wid prec 120 w (by omega)
  generalize padS (hexS s sh sp false prec) mi z wid = rr at *
  go_enter Tryz.func53, Tryz.ntmps53
  go_wp2_with (go_at_call 91; refine (hX _).mono ?_; rintro e w1 ⟨rfl, hb1⟩)
  go_ret2
  exact ⟨rfl, hbA.trans (hb1.mono hbA.size)⟩

set_option maxRecDepth 1000000 in
set_option maxHeartbeats 2000000 in
theorem text_X (s : ByteArray) (p mi sh sp z : Bool) (wid prec : Int) (w : World) (hE : Esc w) (hs : s.size ≤ 9000) (hpr : prec ≤ 9223372036854775807) :
    Calls Tryz.prog 53 #[.string s, .agg #[.bool p, .bool mi, .bool sh, .bool sp, .bool z, .int .i64 wid, .int .i64 prec, .int .i32 88]] w fun e w' => e = .returned (.tuple #[.string (padS (hexS s sh sp true prec) mi z wid), .bool true]) ∧ Below w.heap.size w w' := by
  have hbA : Below w.heap.size w (w.alloc (.cells #[.bool p, .bool mi, .bool sh, .bool sp, .bool z, .int .i64 wid, .int .i64 prec, .int .i32 88] 67)) := (Below.refl _ _).alloc (Nat.le_refl _) _
  have f0 : ∀ x : Cl (w.alloc (.cells #[.bool p, .bool mi, .bool sh, .bool sp, .bool z, .int .i64 wid, .int .i64 prec, .int .i32 88] 67)), x.w.cell? ⟨w.heap.size, 0, none⟩ = some (.bool p) := fun x => x.cell (by simp)
  have f1 : ∀ x : Cl (w.alloc (.cells #[.bool p, .bool mi, .bool sh, .bool sp, .bool z, .int .i64 wid, .int .i64 prec, .int .i32 88] 67)), x.w.cell? ⟨w.heap.size, 1, none⟩ = some (.bool mi) := fun x => x.cell (by simp)
  have f2 : ∀ x : Cl (w.alloc (.cells #[.bool p, .bool mi, .bool sh, .bool sp, .bool z, .int .i64 wid, .int .i64 prec, .int .i32 88] 67)), x.w.cell? ⟨w.heap.size, 2, none⟩ = some (.bool sh) := fun x => x.cell (by simp)
  have f3 : ∀ x : Cl (w.alloc (.cells #[.bool p, .bool mi, .bool sh, .bool sp, .bool z, .int .i64 wid, .int .i64 prec, .int .i32 88] 67)), x.w.cell? ⟨w.heap.size, 3, none⟩ = some (.bool sp) := fun x => x.cell (by simp)
  have f4 : ∀ x : Cl (w.alloc (.cells #[.bool p, .bool mi, .bool sh, .bool sp, .bool z, .int .i64 wid, .int .i64 prec, .int .i32 88] 67)), x.w.cell? ⟨w.heap.size, 4, none⟩ = some (.bool z) := fun x => x.cell (by simp)
  have f5 : ∀ x : Cl (w.alloc (.cells #[.bool p, .bool mi, .bool sh, .bool sp, .bool z, .int .i64 wid, .int .i64 prec, .int .i32 88] 67)), x.w.cell? ⟨w.heap.size, 5, none⟩ = some (.int .i64 wid) := fun x => x.cell (by simp)
  have f6 : ∀ x : Cl (w.alloc (.cells #[.bool p, .bool mi, .bool sh, .bool sp, .bool z, .int .i64 wid, .int .i64 prec, .int .i32 88] 67)), x.w.cell? ⟨w.heap.size, 6, none⟩ = some (.int .i64 prec) := fun x => x.cell (by simp)
  have f7 : ∀ x : Cl (w.alloc (.cells #[.bool p, .bool mi, .bool sh, .bool sp, .bool z, .int .i64 wid, .int .i64 prec, .int .i32 88] 67)), x.w.cell? ⟨w.heap.size, 7, none⟩ = some (.int .i32 88) := fun x => x.cell (by simp)
  have hE1 : ∀ x : Cl (w.alloc (.cells #[.bool p, .bool mi, .bool sh, .bool sp, .bool z, .int .i64 wid, .int .i64 prec, .int .i32 88] 67)), Esc x.w := fun x => (hE.below hbA).below x.below
  have hX : ∀ w, Calls Tryz.prog 91 #[.string s, .agg #[.bool p, .bool mi, .bool sh, .bool sp, .bool z, .int .i64 wid, .int .i64 prec, .int .i32 88]] w fun e w' => e = .returned (.string (padS (hexS s sh sp true prec) mi z wid)) ∧ Below w.heap.size w w' := fun w => hex_any s p mi sh sp z wid prec 88 w (by omega)
  generalize padS (hexS s sh sp true prec) mi z wid = rr at *
  go_enter Tryz.func53, Tryz.ntmps53
  go_wp2_with (go_at_call 91; refine (hX _).mono ?_; rintro e w1 ⟨rfl, hb1⟩)
  go_ret2
  exact ⟨rfl, hbA.trans (hb1.mono hbA.size)⟩

set_option maxRecDepth 1000000 in
set_option maxHeartbeats 2000000 in
theorem text_no (s : ByteArray) (p mi sh sp z : Bool) (wid prec verb : Int) (w : World) (h1 : ¬ verb = 118) (h2 : ¬ verb = 115) (h3 : ¬ verb = 113) (h4 : ¬ verb = 120) (h5 : ¬ verb = 88) :
    Calls Tryz.prog 53 #[.string s, .agg #[.bool p, .bool mi, .bool sh, .bool sp, .bool z, .int .i64 wid, .int .i64 prec, .int .i32 verb]] w fun e w' => e = .returned (.tuple #[.string ⟨#[]⟩, .bool false]) ∧ Below w.heap.size w w' := by
  go_enter Tryz.func53, Tryz.ntmps53
  go_wp2
  go_ret2
  exact ⟨rfl, (Below.refl _ _).alloc (Nat.le_refl _) _⟩
end Go.Proofs.YtjfmhghpkefihaaGreatDoor

/- Package hooks: descriptors, methods and rows as values; many cells loaded, stored and built at once. -/
namespace Go.Proofs.YtjfmhghpkefihaaGreatDoor
open Go.RowKit
set_option linter.unusedVariables false
set_option linter.unusedSimpArgs false

/-- A list as a value. -/
structure Sl where
  a : Option Addr
  n : Nat
  c : Nat
def Sl.v (s : Sl) : Value := .slice s.a s.n s.c
def Sl.no : Sl := ⟨none, 0, 0⟩
/-- A descriptor, a method, a row as values. -/
structure Ds where
  k : Int
  ty : ByteArray
  bi : Int
  im : Int
  tx : ByteArray
  ns : Sl
  ps : Sl
  hk : Int
def Ds.v (d : Ds) : List Value := [.int .i64 d.k, .string d.ty, .int .u64 d.bi, .int .u64 d.im, .string d.tx, .slice d.ns.a d.ns.n d.ns.c, .slice d.ps.a d.ps.n d.ps.c, .int .i64 d.hk]
def Ds.no : Ds := ⟨0, ⟨#[]⟩, 0, 0, ⟨#[]⟩, .no, .no, 0⟩
structure Ac where
  k : Int
  t : ByteArray
  f : ByteArray
  l : Sl
  p : Ds
def Ac.v (x : Ac) : List Value := [.int .i64 x.k, .string x.t, .string x.f, .slice x.l.a x.l.n x.l.c] ++ x.p.v
def Ac.no : Ac := ⟨0, ⟨#[]⟩, ⟨#[]⟩, .no, .no⟩
structure Hk where
  a : Ac
  b : Ac
  c : Ac
  d : Ac
def Hk.v (h : Hk) : List Value := h.a.v ++ (h.b.v ++ (h.c.v ++ h.d.v))
theorem Ds.len (d : Ds) : d.v.length = 8 := rfl
theorem Ac.len (x : Ac) : x.v.length = 12 := rfl
theorem Hk.len (h : Hk) : h.v.length = 48 := rfl
theorem Ds.one (d : Ds) : ∀ v ∈ d.v, v.oneCell' = true := by
  intro v hv
  simp only [Ds.v, List.mem_cons, List.not_mem_nil, or_false] at hv
  rcases hv with rfl | rfl | rfl | rfl | rfl | rfl | rfl | rfl <;> rfl
theorem Ac.one (x : Ac) : ∀ v ∈ x.v, v.oneCell' = true := by
  intro v hv
  simp only [Ac.v, List.mem_append, List.mem_cons, List.not_mem_nil, or_false] at hv
  rcases hv with (rfl | rfl | rfl | rfl) | hv
  · rfl
  · rfl
  · rfl
  · rfl
  · exact x.p.one v hv
theorem Hk.one (h : Hk) : ∀ v ∈ h.v, v.oneCell' = true := by
  intro v hv
  simp only [Hk.v, List.mem_append] at hv
  rcases hv with hv | hv | hv | hv
  · exact h.a.one v hv
  · exact h.b.one v hv
  · exact h.c.one v hv
  · exact h.d.one v hv

/-- A block of cells that may be written. -/
structure Blk (w : World) (B : Nat) (vs : List Value) : Prop where
  c : ∀ i v, vs[i]? = some v → w.cell? ⟨B, i, none⟩ = some v
  z : ∀ i, w.frozen? ⟨B, i, none⟩ = false
  b : B < w.heap.size
theorem Blk.up {w w' : World} {B : Nat} {vs : List Value} (h : Blk w B vs) (hb : Below w.heap.size w w') : Blk w' B vs :=
  ⟨fun i v hv => (hb.cell (p := ⟨B, i, none⟩) h.b).trans (h.c i v hv), fun i => (hb.frozen (p := ⟨B, i, none⟩) h.b).trans (h.z i), Nat.lt_of_lt_of_le h.b hb.size⟩
theorem Blk.grown {w w' : World} {B : Nat} {vs : List Value} {R : Nat} (h : Blk w B vs) (hg : w.grownBy w' (some R)) (hne : B ≠ R) : Blk w' B vs := by
  have hB := hg.block B h.b (by simpa using hne)
  exact ⟨fun i v hv => (World.cell?_of_block (w := w) (a := ⟨B, i, none⟩) hB).trans (h.c i v hv), fun i => (World.frozen?_of_block (w := w) (a := ⟨B, i, none⟩) hB).trans (h.z i), Nat.lt_of_lt_of_le h.b hg.size⟩
theorem Blk.new (w : World) (vs : List Value) (t : TypeId) : Blk (w.alloc (.cells vs.toArray t)) w.heap.size vs :=
  ⟨fun i v hv => by simp [hv], fun i => by simp, by simp⟩
theorem Blk.alloc {w : World} {B : Nat} {vs : List Value} (h : Blk w B vs) (o : Obj) : Blk (w.alloc o) B vs := h.up ((Below.refl _ _).alloc (Nat.le_refl _) _)
theorem Blk.mid {w : World} {B : Nat} {p cs q : List Value} (h : Blk w B (p ++ (cs ++ q))) {o : Nat} (ho : p.length = o) : w.rangeAt B o cs := fun j v hv => by
  subst ho
  refine h.c _ v ?_
  rw [List.getElem?_append_right (by omega), Nat.add_sub_cancel_left, List.getElem?_append_left]
  · exact hv
  · exact (List.getElem?_eq_some_iff.1 hv).1
theorem Blk.range {w : World} {B : Nat} {vs : List Value} (h : Blk w B vs) : w.rangeAt B 0 vs := fun j v hv => by rw [Nat.zero_add]; exact h.c j v hv
theorem Blk.there {w : World} {B : Nat} {vs : List Value} (h : Blk w B vs) : w.there B 0 vs.length := fun j hj => by
  rw [Nat.zero_add]
  exact ⟨by rw [h.c j _ (List.getElem?_eq_getElem hj)]; rfl, h.z j⟩
theorem xsc_size (w : World) (b : Nat) : ∀ (vs : List Value) (o : Nat), (w.setCells b o vs).heap.size = w.heap.size := by
  intro vs
  induction vs generalizing w with
  | nil => intro o; rfl
  | cons v r ih => intro o; rw [World.setCells, ih]; simp [World.setCell]
theorem xsc_heap (b k : Nat) (hk : k ≠ b) : ∀ (vs : List Value) (w : World) (o : Nat), (w.setCells b o vs).heap[k]? = w.heap[k]?
  | [], _, _ => rfl
  | v :: r, w, o => by rw [World.setCells, xsc_heap b k hk r, Below.heap_setCell _ _ _ _ hk]
theorem xsc_rest (b : Nat) : ∀ (vs : List Value) (w : World) (o : Nat), (w.setCells b o vs).os = w.os ∧ (w.setCells b o vs).tape = w.tape ∧ (w.setCells b o vs).output = w.output
  | [], _, _ => ⟨rfl, rfl, rfl⟩
  | v :: r, w, o => by
    rw [World.setCells]
    obtain ⟨h1, h2, h3⟩ := xsc_rest b r (w.setCell ⟨b, o, none⟩ v) (o + 1)
    exact ⟨h1, h2, h3⟩
theorem xbelow_sc {N : Nat} {w w' : World} {B : Nat} (h : Below N w w') (hB : N ≤ B) (o : Nat) (vs : List Value) : Below N w (w'.setCells B o vs) := by
  obtain ⟨h1, h2, h3⟩ := xsc_rest B vs w' o
  exact ⟨h1.trans h.os, h2.trans h.tape, h3.trans h.output, by rw [xsc_size]; exact h.size, fun k hk => by rw [xsc_heap B k (by omega)]; exact h.block k hk⟩
theorem Blk.all {w : World} {B : Nat} {vs : List Value} (h : Blk w B vs) (us : List Value) (hl : us.length = vs.length) : Blk (w.setCells B 0 us) B us := by
  refine ⟨fun i v hv => ?_, fun i => (World.frozen?_setCells _ _ _ _ _).trans (h.z i), by rw [xsc_size]; exact h.b⟩
  have := World.rangeAt_setCells_same w B 0 us (by rw [hl]; exact h.there) i v hv
  rwa [Nat.zero_add] at this
theorem Blk.oth {w : World} {B B' : Nat} {vs : List Value} (h : Blk w B vs) (hne : B' ≠ B) (o : Nat) (us : List Value) : Blk (w.setCells B' o us) B vs := by
  have hB := xsc_heap B' B hne.symm us w o
  exact ⟨fun i u hu => (World.cell?_of_block (w := w) (a := ⟨B, i, none⟩) hB).trans (h.c i u hu), fun i => (World.frozen?_of_block (w := w) (a := ⟨B, i, none⟩) hB).trans (h.z i), by rw [xsc_size]; exact h.b⟩
/-- A struct of n cells. -/
def Row (t n : Nat) : Prop := (∃ d, Tryz.prog.underlying t = some d ∧ d.isRow = true) ∧ (Tryz.prog.info? t).map (·.size) = some n
theorem row_Desc : Row 29 8 := ⟨⟨_, Tryz.underlying29, rfl⟩, by kernel_rfl⟩
theorem row_Act : Row 31 12 := ⟨⟨_, Tryz.underlying31, rfl⟩, by kernel_rfl⟩
theorem row_Hook : Row 33 48 := ⟨⟨_, Tryz.underlying33, rfl⟩, by kernel_rfl⟩
theorem row_script : Row 246 13 := ⟨⟨_, Tryz.underlying246, rfl⟩, by kernel_rfl⟩
theorem row_thrown : Row 290 8 := ⟨⟨_, Tryz.underlying290, rfl⟩, by kernel_rfl⟩
theorem row_Spec : Row 67 8 := ⟨⟨_, Tryz.underlying67, rfl⟩, by kernel_rfl⟩
/-- At the operation, for the walk. -/
theorem wpl_ld {ops : Array Oper} {rest : List Oper} {op : Oper} {a : Act} {w : World} {Q : Exit → Act → World → Prop} {t n : Nat} (hr : Row t n) (hgd : op.guard = none) (x : Operand) (ho : op.op = .load t x) {B o : Nat} {vs : List Value}
    (hx : a.eval x = .pointer (some ⟨B, o, none⟩)) (hB : w.rangeAt B o vs) (hl : vs.length = n)
    (h : wpList Tryz.prog ops Q rest (a.put op.dst (.agg vs.toArray)) w) : wpList Tryz.prog ops Q (op :: rest) a w := by
  obtain ⟨⟨d, h1, h2⟩, h3⟩ := hr
  exact wpList_load_mid hgd t x ho B o hx vs d hB h1 h2 (by rw [hl]; exact h3) h
theorem wpl_ldg {ops : Array Oper} {rest : List Oper} {op : Oper} {a : Act} {w : World} {Q : Exit → Act → World → Prop} {t n : Nat} (hr : Row t n) (hw : Region.wanted op (yielded ops a.tmps) = true) (x : Operand) (ho : op.op = .load t x) {B o : Nat} {vs : List Value}
    (hx : a.eval x = .pointer (some ⟨B, o, none⟩)) (hB : w.rangeAt B o vs) (hl : vs.length = n)
    (h : wpList Tryz.prog ops Q rest (a.put op.dst (.agg vs.toArray)) w) : wpList Tryz.prog ops Q (op :: rest) a w := by
  obtain ⟨⟨d, h1, h2⟩, h3⟩ := hr
  exact wpList_step fun K hK => by
    rw [if_pos hw]
    exact wp_load_mid t x ho B o hx vs d hB h1 h2 (by rw [hl]; exact h3) (hK _ _ h)
theorem wpl_st {ops : Array Oper} {rest : List Oper} {op : Oper} {a : Act} {w : World} {Q : Exit → Act → World → Prop} {t n : Nat} (hr : Row t n) (hgd : op.guard = none) (x y : Operand) (ho : op.op = .store t x y) {B : Nat} {vs us : List Value}
    (hx : a.eval x = .pointer (some ⟨B, 0, none⟩)) (hy : a.eval y = .agg us.toArray) (hB : Blk w B vs) (hl : vs.length = n) (hu : us.length = n) (h1 : ∀ v ∈ us, v.oneCell' = true)
    (h : wpList Tryz.prog ops Q rest (a.put op.dst undef) (w.setCells B 0 us)) : wpList Tryz.prog ops Q (op :: rest) a w := by
  refine wpList_store_mid hgd t x y ho B 0 us.toArray hx hy (by have := hB.there; rw [hl] at this; simpa [hu] using this) (by simp [hu, hr.2]) (all_oneCell_toArray h1) ?_
  simpa using h
theorem wpl_bld {ops : Array Oper} {rest : List Oper} {op : Oper} {a : Act} {w : World} {Q : Exit → Act → World → Prop} (hgd : op.guard = none) (t : TypeId) (parts : Array (Nat × Operand)) (ho : op.op = .build t parts) {V : Value} (ps : List (Nat × Value))
    (hx : parts.toList.map (fun x => (x.1, a.eval x.2)) = ps) (hb : (Instr.build t ps.toArray).run Tryz.prog w = .ok V w)
    (h : wpList Tryz.prog ops Q rest (a.put op.dst V) w) : wpList Tryz.prog ops Q (op :: rest) a w := by
  have hx' : (parts.map fun (i, x) => (i, a.eval x)) = ps.toArray := by
    rw [← hx]
    apply Array.ext'
    simp
  refine wpList_plain hgd fun K hK => ?_
  unfold Oper.wp execOp
  simp only [ho, hx', hb, Sem.run_bind, Sem.run_pure, Result.andThen_ok]
  exact hK _ _ h
theorem bld_script0 (x : Ac) (w : World) : (Instr.build 246 #[(0, .agg x.v.toArray)]).run Tryz.prog w = .ok (.agg (x.v ++ [Value.nilFunc]).toArray) w := by
  obtain ⟨k, t, f, ⟨la, ln, lc⟩, ⟨a0, a1, a2, a3, a4, ⟨na, nn, nc⟩, ⟨pa, pn, pc⟩, a7⟩⟩ := x
  kernel_rfl
theorem bld_script1 (x : Ac) (g : Value) (hg : ∃ f a b, g = .func f a b) (w : World) : (Instr.build 246 #[(0, .agg x.v.toArray), (1, g)]).run Tryz.prog w = .ok (.agg (x.v ++ [g]).toArray) w := by
  obtain ⟨k, t, f, ⟨la, ln, lc⟩, ⟨a0, a1, a2, a3, a4, ⟨na, nn, nc⟩, ⟨pa, pn, pc⟩, a7⟩⟩ := x
  obtain ⟨f, a, b, rfl⟩ := hg
  kernel_rfl
/-- A struct is the result. -/
theorem res_row {t n s : Nat} (hw : Row t n) {f : Func} (hr : f.results = #[.cell s t]) {tmps : Array Value} {w : World} {B : Nat} {vs : List Value} (ht : tmps.getD s undef = .pointer (some ⟨B, 0, none⟩)) (h : Blk w B vs) (hl : vs.length = n) : (results f tmps).run Tryz.prog w = .ok (.agg vs.toArray) w := by
  obtain ⟨⟨d, h1, h2⟩, h3⟩ := hw
  have hL := run_loadVar_mid (P := Tryz.prog) w B 0 t vs d h.range h1 h2 (by rw [hl]; exact h3)
  have ht' : tmps[s]?.getD undef = .pointer (some ⟨B, 0, none⟩) := by simpa using ht
  simp [results, hr, ht', hL, asAddr]
/-- Functions are held against nil. -/
theorem fneq_t (f : Fn) (a c : Array Value) (w : World) : (binOp BinOp.neq 35 (.func f a c) .nilFunc).run Tryz.prog w = .ok (.bool true) w := by kernel_rfl
theorem fneq_n (w : World) : (binOp BinOp.neq 35 .nilFunc .nilFunc).run Tryz.prog w = .ok (.bool false) w := by kernel_rfl
theorem feql_fstr (f : Fn) (a c : Array Value) (w : World) : (binOp BinOp.eql 35 (.func f a c) .nilFunc).run Tryz.prog w = .ok (.bool false) w := by kernel_rfl
theorem feql_fprint (f : Fn) (a c : Array Value) (w : World) : (binOp BinOp.eql 118 (.func f a c) .nilFunc).run Tryz.prog w = .ok (.bool false) w := by kernel_rfl
theorem feql_fshow (f : Fn) (a c : Array Value) (w : World) : (binOp BinOp.eql 119 (.func f a c) .nilFunc).run Tryz.prog w = .ok (.bool false) w := by kernel_rfl
theorem feql_n (w : World) : (binOp BinOp.eql 35 .nilFunc .nilFunc).run Tryz.prog w = .ok (.bool true) w := by kernel_rfl
end Go.Proofs.YtjfmhghpkefihaaGreatDoor
