/- The walk of HooksWhich. -/
import Derived.Test.YtbfaapbbhgegiaaDoorXLiveB
import Derived.Test.YtbfaapbbhgegiaaDoorXQuiet
namespace Go.Proofs.YtbfaapbbhgegiaaDoor
open Go.RowKit
set_option linter.unusedVariables false
set_option linter.unusedSimpArgs false

set_option maxRecDepth 1000000 in
set_option maxHeartbeats 8000000 in
theorem hooksWhich_walk (h : Hk) (v : Int) (hv : (Lit.int .i32 v).wf = true) (sh : Bool) (w : World) (hE : Esc w) : Calls Tryd.prog 3 #[.agg h.v.toArray, .int .i32 v, .bool sh] w fun e w' => e = .returned (.bool true) ∧ Below w.heap.size w w' := by
  obtain ⟨W1, hW1⟩ : ∃ W1, W1 = w.alloc (.cells h.v.toArray 30) := ⟨_, rfl⟩
  have hb : Blk W1 w.heap.size h.v := by rw [hW1]; exact Blk.new _ _ _
  have w1 : Below w.heap.size w W1 := by rw [hW1]; exact (Below.refl _ _).alloc (Nat.le_refl _) _
  have hE1 : Esc W1 := hE.below w1
  have hE2 : ∀ y : Cl W1, Esc y.w := fun y => hE1.below y.below
  have fH : ∀ y : Cl W1, y.w.rangeAt w.heap.size 0 h.v := Cl.rng hb.range
  have fA : ∀ y : Cl W1, y.w.rangeAt w.heap.size 0 h.a.v := Cl.rng (hk_a hb)
  have fC : ∀ y : Cl W1, y.w.rangeAt w.heap.size 24 h.c.v := Cl.rng (hk_c hb)
  have h1 := fun w => which_any h v sh w
  have h2 := fun w => jwhich_any h v sh w
  have a1 := fun w => there_any h.a w
  have a2 := fun w => jthere_any h.a w
  have c1 := fun w => there_any h.c w
  have c2 := fun w => jthere_any h.c w
  have hL := fun y : Cl W1 => lives11_any y.w (hE2 y)
  have hl := h.len
  have hla := h.a.len
  have hlc := h.c.len
  generalize whN h v sh = R at *
  generalize thB h.a = ba at *
  generalize thB h.c = bc at *
  generalize h.v = H at *
  generalize h.a.v = La at *
  generalize h.c.v = Lc at *
  clear hb hE hE1 hE2
  go_enter Tryd.func3, Tryd.ntmps3
  go_upto_region 1 with fail
  rw [← hW1]
  clear hW1
  refine wp_region_above W1 (Below.refl _ _) (by kernel_rfl) (by kernel_rfl) ?_
  intro hCl
  repeat (first
    | (refine wpq_ld row_Hook rfl _ rfl (B := w.heap.size) (o := 0) (vs := H) rfl fH hl ?_; simp only [Act.put, List.setIfInBounds_toArray, List.set_cons_zero, List.set_cons_succ])
    | (refine wpq_ld row_Act rfl _ rfl (B := w.heap.size) (o := 0) (vs := La) rfl fA hla ?_; simp only [Act.put, List.setIfInBounds_toArray, List.set_cons_zero, List.set_cons_succ])
    | (refine wpq_ld row_Act rfl _ rfl (B := w.heap.size) (o := 24) (vs := Lc) rfl fC hlc ?_; simp only [Act.put, List.setIfInBounds_toArray, List.set_cons_zero, List.set_cons_succ])
    | (go_big_quiet_step ((first
      | (go_at_call 9; exact Cl.call (h1 _))
      | (go_at_call 10; exact Cl.call (h2 _))
      | (go_at_call 11; with_reducible (first | exact Cl.call (a1 _) | exact Cl.call (c1 _)))
      | (go_at_call 12; with_reducible (first | exact Cl.call (a2 _) | exact Cl.call (c2 _)))
      | (go_at_call 13; exact Cl.call (hL _))))))
  refine wpQuiet_nil ?_
  intro _ hw'
  obtain ⟨y, hx⟩ := hw'
  subst hx
  go_wp2
  go_ret
  exact ⟨rfl, w1.trans (y.below.mono w1.size)⟩
end Go.Proofs.YtbfaapbbhgegiaaDoor
