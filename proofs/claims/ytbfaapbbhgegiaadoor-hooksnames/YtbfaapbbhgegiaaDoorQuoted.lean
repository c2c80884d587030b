/- The walk of quoted. -/
import Derived.Test.YtbfaapbbhgegiaaDoorRawW
import Derived.Test.YtbfaapbbhgegiaaDoorCut
import Derived.Test.YtbfaapbbhgegiaaDoorHexW
namespace Go.Proofs.YtbfaapbbhgegiaaDoor
open Go.RowKit
set_option linter.unusedVariables false

/-- A text in the quotes that the flags ask for. -/
def quotedS (s : ByteArray) (sh p : Bool) : ByteArray := cond (sh && rawF s 0) (rawT s) (quoS s p)
theorem quotedS_size (s : ByteArray) (sh p : Bool) : (quotedS s sh p).size ≤ 10 * s.size + 2 := by
  have h1 := quoS_size s p
  have h2 : (rawT s).size = s.size + 2 := by
    have h3 : (96 :: (s.data.toList ++ [96])).length = s.size + 2 := by
      rw [List.length_cons, List.length_append, list_len]; rfl
    exact h3
  unfold quotedS
  cases (sh && rawF s 0)
  · exact h1
  · show (rawT s).size ≤ _
    omega

set_option maxRecDepth 1000000 in
set_option maxHeartbeats 800000 in
theorem quoted_any (s : ByteArray) (p mi sh sp z : Bool) (wid prec verb : Int) (w : World) (hE : Esc w) (hs : s.size ≤ 90000) :
    Calls Tryd.prog 57 #[.string s, .agg #[.bool p, .bool mi, .bool sh, .bool sp, .bool z, .int .i64 wid, .int .i64 prec, .int .i32 verb]] w fun e w' => e = .returned (.string (quotedS s sh p)) ∧ Below w.heap.size w w' := by
  have hbA : Below w.heap.size w (w.alloc (.cells #[.bool p, .bool mi, .bool sh, .bool sp, .bool z, .int .i64 wid, .int .i64 prec, .int .i32 verb] 52)) := (Below.refl _ _).alloc (Nat.le_refl _) _
  have hE1 := hE.below hbA
  have d0 : (w.alloc (.cells #[.bool p, .bool mi, .bool sh, .bool sp, .bool z, .int .i64 wid, .int .i64 prec, .int .i32 verb] 52)).cell? ⟨w.heap.size, 0, none⟩ = some (.bool p) := by simp
  have d1 : (w.alloc (.cells #[.bool p, .bool mi, .bool sh, .bool sp, .bool z, .int .i64 wid, .int .i64 prec, .int .i32 verb] 52)).cell? ⟨w.heap.size, 1, none⟩ = some (.bool mi) := by simp
  have d2 : (w.alloc (.cells #[.bool p, .bool mi, .bool sh, .bool sp, .bool z, .int .i64 wid, .int .i64 prec, .int .i32 verb] 52)).cell? ⟨w.heap.size, 2, none⟩ = some (.bool sh) := by simp
  have d3 : (w.alloc (.cells #[.bool p, .bool mi, .bool sh, .bool sp, .bool z, .int .i64 wid, .int .i64 prec, .int .i32 verb] 52)).cell? ⟨w.heap.size, 3, none⟩ = some (.bool sp) := by simp
  have d4 : (w.alloc (.cells #[.bool p, .bool mi, .bool sh, .bool sp, .bool z, .int .i64 wid, .int .i64 prec, .int .i32 verb] 52)).cell? ⟨w.heap.size, 4, none⟩ = some (.bool z) := by simp
  have d5 : (w.alloc (.cells #[.bool p, .bool mi, .bool sh, .bool sp, .bool z, .int .i64 wid, .int .i64 prec, .int .i32 verb] 52)).cell? ⟨w.heap.size, 5, none⟩ = some (.int .i64 wid) := by simp
  have d6 : (w.alloc (.cells #[.bool p, .bool mi, .bool sh, .bool sp, .bool z, .int .i64 wid, .int .i64 prec, .int .i32 verb] 52)).cell? ⟨w.heap.size, 6, none⟩ = some (.int .i64 prec) := by simp
  have d7 : (w.alloc (.cells #[.bool p, .bool mi, .bool sh, .bool sp, .bool z, .int .i64 wid, .int .i64 prec, .int .i32 verb] 52)).cell? ⟨w.heap.size, 7, none⟩ = some (.int .i32 verb) := by simp
  have hQ : ∀ w, Esc w → Calls Tryd.prog 54 #[.string s, .bool p] w fun e w' => e = .returned (.string (quoS s p)) ∧ Below w.heap.size w w' := fun w hE => quote_any s p w hE (by omega)
  have hR : ∀ b, rawF s 0 = b → ∀ w, Calls Tryd.prog 77 #[.string s] w fun e w' => e = .returned (.tuple #[.string (cond b (rawT s) ⟨#[]⟩), .bool b]) ∧ Below w.heap.size w w' := fun b h w => raw_any s b w (by omega) h
  have HQ : Hid (∀ b, rawF s 0 = b → quotedS s true p = cond b (rawT s) (quoS s p)) := fun b h => by unfold quotedS; rw [h]; rfl
  have HQ0 : Hid (quotedS s false p = quoS s p) := by show _ = _; unfold quotedS; rfl
  cases sh with
  | false =>
    rw [HQ0.out]
    generalize quoS s p = r at *
    clear hR HQ HQ0
    go_enter Tryd.func57, Tryd.ntmps57
    go_wp2_with (go_at_call 54; refine (hQ _ hE1).mono ?_; rintro e w2 ⟨rfl, hb2⟩)
    go_ret
    exact ⟨rfl, hbA.trans (hb2.mono hbA.size)⟩
  | true =>
    cases hb : rawF s 0 with
    | true =>
      rw [HQ.out true hb]
      replace hR := hR true hb
      clear hb HQ HQ0 hQ
      generalize rawT s = t at *
      generalize quoS s p = r at *
      go_enter Tryd.func57, Tryd.ntmps57
      go_wp2_with (go_at_call 77; refine (hR _).mono ?_; rintro e w2 ⟨rfl, hb2⟩)
      go_ret
      exact ⟨rfl, hbA.trans (hb2.mono hbA.size)⟩
    | false =>
      rw [HQ.out false hb]
      replace hR := hR false hb
      clear hb HQ HQ0
      generalize rawT s = t at *
      generalize quoS s p = r at *
      go_enter Tryd.func57, Tryd.ntmps57
      go_wp2_with (first | (go_at_call 77; refine (hR _).mono ?_; rintro e w2 ⟨rfl, hb2⟩; have f0 := (hb2.cell (p := ⟨w.heap.size, 0, none⟩) (by simp)).trans d0) | (go_at_call 54; refine (hQ _ (hE1.below hb2)).mono ?_; rintro e w3 ⟨rfl, hb3⟩))
      go_ret
      exact ⟨rfl, hbA.trans ((hb2.trans (hb3.mono hb2.size)).mono hbA.size)⟩
end Go.Proofs.YtbfaapbbhgegiaaDoor
