/- The walk of the law QuoteWrites. -/
import Derived.Test.YtnoelbomcogndaaDoorLives2
import Derived.Test.YtnoelbomcogndaaDoorLawCut
import Derived.Test.YtnoelbomcogndaaDoorDTextW
namespace Go.Proofs.YtnoelbomcogndaaDoor
open Go.RowKit
set_option linter.unusedVariables false

/-- Text and the document's Text answer the same. -/
theorem text_both (s : ByteArray) (p mi sh sp z : Bool) (wid prec verb : Int) (hs : s.size ≤ 1000) (hpr : prec ≤ 9223372036854775807) : ∃ (r : ByteArray) (b : Bool),
    (∀ w, Esc w → Calls Tryd.prog 15 #[.string s, .agg #[.bool p, .bool mi, .bool sh, .bool sp, .bool z, .int .i64 wid, .int .i64 prec, .int .i32 verb]] w fun e w' => e = .returned (.tuple #[.string r, .bool b]) ∧ Below w.heap.size w w') ∧
    (∀ w, Calls Tryd.prog 16 #[.string s, .agg #[.bool p, .bool mi, .bool sh, .bool sp, .bool z, .int .i64 wid, .int .i64 prec, .int .i32 verb]] w fun e w' => e = .returned (.tuple #[.string r, .bool b]) ∧ Below w.heap.size w w') := by
  by_cases h1 : verb = 118
  · subst h1
    cases sh with
    | true => exact ⟨_, _, fun w hE => text_v1 s p mi sp z wid prec w hE (by omega) hpr, fun w => dtext_v1 s p mi sp z wid prec w hs hpr⟩
    | false => exact ⟨_, _, fun w hE => text_v0 s p mi sp z wid prec w hE (by omega) hpr, fun w => dtext_v0 s p mi sp z wid prec w hs hpr⟩
  by_cases h2 : verb = 115
  · subst h2
    cases sh with
    | true => exact ⟨_, _, fun w hE => text_s1 s p mi sp z wid prec w hE (by omega) hpr, fun w => dtext_s s p mi true sp z wid prec w hs hpr⟩
    | false => exact ⟨_, _, fun w hE => text_s0 s p mi sp z wid prec w hE (by omega) hpr, fun w => dtext_s s p mi false sp z wid prec w hs hpr⟩
  by_cases h3 : verb = 113
  · subst h3
    refine ⟨_, _, fun w hE => text_q s p mi sh sp z wid prec w hE (by omega) hpr, ?_⟩
    rw [cut_same s prec hs]
    cases sh with
    | true =>
      cases hb : rawF (cutS s prec) 0 with
      | true =>
        have e : quotedS (cutS s prec) true p = rawT (cutS s prec) := by unfold quotedS; rw [hb]; rfl
        rw [e]
        exact fun w => dtext_q1 s p mi sp z wid prec w hs hpr hb
      | false =>
        have e : quotedS (cutS s prec) true p = quoS (cutS s prec) p := by unfold quotedS; rw [hb]; rfl
        rw [e]
        exact fun w => dtext_q2 s p mi sp z wid prec w hs hpr hb
    | false =>
      have e : quotedS (cutS s prec) false p = quoS (cutS s prec) p := by unfold quotedS; rfl
      rw [e]
      exact fun w => dtext_q3 s p mi sp z wid prec w hs hpr _ rfl
  by_cases h4 : verb = 120
  · subst h4
    exact ⟨_, _, fun w hE => text_x s p mi sh sp z wid prec w hE (by omega) hpr, fun w => dtext_x s p mi sh sp z wid prec w hs hpr⟩
  by_cases h5 : verb = 88
  · subst h5
    exact ⟨_, _, fun w hE => text_X s p mi sh sp z wid prec w hE (by omega) hpr, fun w => dtext_X s p mi sh sp z wid prec w hs hpr⟩
  exact ⟨_, _, fun w hE => text_no s p mi sh sp z wid prec verb w h1 h2 h3 h4 h5, fun w => dtext_no s p mi sh sp z wid prec verb w hs hpr h1 h2 h3 h4 h5⟩
theorem wf_le (n : Int) (h : (Lit.int .i64 n).wf = true) : n ≤ 9223372036854775807 := by
  simp [Lit.wf] at h
  first | omega | exact h.2 | exact h

set_option maxRecDepth 1000000 in
set_option maxHeartbeats 1000000 in
theorem quoteWrites_walk (s : ByteArray) (_hs : s.size ≤ maxLen) (p mi sh sp z : Bool) (wid prec verb : Int) (_h5 : (Lit.int .i64 wid).wf = true) (h6 : (Lit.int .i64 prec).wf = true) (w : World) (hE : Esc w) :
    Calls Tryd.prog 5 #[.string s, .agg #[.bool p, .bool mi, .bool sh, .bool sp, .bool z, .int .i64 wid, .int .i64 prec, .int .i32 verb]] w fun e w' => e = .returned (.bool true) ∧ Below w.heap.size w w' := by
  obtain ⟨u, hu, hc⟩ := lawCut_any s
  have hbA : Below w.heap.size w (w.alloc (.cells #[.bool p, .bool mi, .bool sh, .bool sp, .bool z, .int .i64 wid, .int .i64 prec, .int .i32 verb] 28)) := (Below.refl _ _).alloc (Nat.le_refl _) _
  have f0 : ∀ x : Cl (w.alloc (.cells #[.bool p, .bool mi, .bool sh, .bool sp, .bool z, .int .i64 wid, .int .i64 prec, .int .i32 verb] 28)), x.w.cell? ⟨w.heap.size, 0, none⟩ = some (.bool p) := fun x => x.cell (by simp)
  have f1 : ∀ x : Cl (w.alloc (.cells #[.bool p, .bool mi, .bool sh, .bool sp, .bool z, .int .i64 wid, .int .i64 prec, .int .i32 verb] 28)), x.w.cell? ⟨w.heap.size, 1, none⟩ = some (.bool mi) := fun x => x.cell (by simp)
  have f2 : ∀ x : Cl (w.alloc (.cells #[.bool p, .bool mi, .bool sh, .bool sp, .bool z, .int .i64 wid, .int .i64 prec, .int .i32 verb] 28)), x.w.cell? ⟨w.heap.size, 2, none⟩ = some (.bool sh) := fun x => x.cell (by simp)
  have f3 : ∀ x : Cl (w.alloc (.cells #[.bool p, .bool mi, .bool sh, .bool sp, .bool z, .int .i64 wid, .int .i64 prec, .int .i32 verb] 28)), x.w.cell? ⟨w.heap.size, 3, none⟩ = some (.bool sp) := fun x => x.cell (by simp)
  have f4 : ∀ x : Cl (w.alloc (.cells #[.bool p, .bool mi, .bool sh, .bool sp, .bool z, .int .i64 wid, .int .i64 prec, .int .i32 verb] 28)), x.w.cell? ⟨w.heap.size, 4, none⟩ = some (.bool z) := fun x => x.cell (by simp)
  have f5 : ∀ x : Cl (w.alloc (.cells #[.bool p, .bool mi, .bool sh, .bool sp, .bool z, .int .i64 wid, .int .i64 prec, .int .i32 verb] 28)), x.w.cell? ⟨w.heap.size, 5, none⟩ = some (.int .i64 wid) := fun x => x.cell (by simp)
  have f6 : ∀ x : Cl (w.alloc (.cells #[.bool p, .bool mi, .bool sh, .bool sp, .bool z, .int .i64 wid, .int .i64 prec, .int .i32 verb] 28)), x.w.cell? ⟨w.heap.size, 6, none⟩ = some (.int .i64 prec) := fun x => x.cell (by simp)
  have f7 : ∀ x : Cl (w.alloc (.cells #[.bool p, .bool mi, .bool sh, .bool sp, .bool z, .int .i64 wid, .int .i64 prec, .int .i32 verb] 28)), x.w.cell? ⟨w.heap.size, 7, none⟩ = some (.int .i32 verb) := fun x => x.cell (by simp)
  have hE1 : ∀ x : Cl (w.alloc (.cells #[.bool p, .bool mi, .bool sh, .bool sp, .bool z, .int .i64 wid, .int .i64 prec, .int .i32 verb] 28)), Esc x.w := fun x => (hE.below hbA).below x.below
  obtain ⟨r, b, hA, hB⟩ := text_both u p mi sh sp z wid prec verb hu (wf_le prec h6)
  have hE2 := hE.below hbA
  clear _h5 h6
  go_enter Tryd.func5, Tryd.ntmps5
  go_wp2_with (first | (go_at_call 9; refine (hc _).mono ?_; rintro e w1 ⟨rfl, rfl⟩) | (go_at_call 15; (first | refine (Cl.go (hA _ (hE1 _))).mono ?_ | refine (Cl.go0 (hA _ hE2)).mono ?_); rintro e w9 ⟨y, rfl, rfl⟩) | (go_at_call 16; (first | refine (Cl.go (hB _)).mono ?_ | refine (Cl.go0 (hB _)).mono ?_); rintro e w9 ⟨y, rfl, rfl⟩) | (go_at_call 12; refine (Cl.go (lives2_any _ (hE1 _))).mono ?_; rintro e w9 ⟨y, rfl, rfl⟩))
  go_ret
  exact ⟨rfl, hbA.trans (y.below.mono hbA.size)⟩
end Go.Proofs.YtnoelbomcogndaaDoor
