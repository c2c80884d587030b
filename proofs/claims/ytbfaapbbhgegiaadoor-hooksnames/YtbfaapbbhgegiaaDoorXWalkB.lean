/- Package hooks: which method is asked; the document's. -/
import Derived.Test.YtbfaapbbhgegiaaDoorXWalkA
namespace Go.Proofs.YtbfaapbbhgegiaaDoor
open Go.RowKit
set_option linter.unusedVariables false
set_option linter.unusedSimpArgs false

/-- One of the verbs that ask Error and String? -/
def nmB (v : Int) : Bool := v == 118 || v == 115 || v == 120 || v == 88 || v == 113
set_option maxRecDepth 1000000 in
theorem takes_any (v : Int) (w : World) : Calls Tryd.prog 28 #[.int .i32 v] w fun e w' => e = .returned (.bool (nmB v)) ∧ w' = w := by
  by_cases e1 : v = 118
  · subst e1
    go_enter Tryd.func28, Tryd.ntmps28
    go_wp2
    go_ret
    exact ⟨rfl, rfl⟩
  · by_cases e2 : v = 115
    · subst e2
      go_enter Tryd.func28, Tryd.ntmps28
      go_wp2
      go_ret
      exact ⟨rfl, rfl⟩
    · by_cases e3 : v = 120
      · subst e3
        go_enter Tryd.func28, Tryd.ntmps28
        go_wp2
        go_ret
        exact ⟨rfl, rfl⟩
      · by_cases e4 : v = 88
        · subst e4
          go_enter Tryd.func28, Tryd.ntmps28
          go_wp2
          go_ret
          exact ⟨rfl, rfl⟩
        · by_cases e5 : v = 113
          · subst e5
            go_enter Tryd.func28, Tryd.ntmps28
            go_wp2
            go_ret
            exact ⟨rfl, rfl⟩
          · go_enter Tryd.func28, Tryd.ntmps28
            go_wp2
            go_ret
            rw [show nmB v = false by simp [nmB, e1, e2, e3, e4, e5]]
            exact ⟨rfl, rfl⟩
set_option maxRecDepth 1000000 in
theorem named_any (v : Int) (w : World) : Calls Tryd.prog 29 #[.int .i32 v] w fun e w' => e = .returned (.bool (nmB v)) ∧ w' = w := by
  by_cases e118 : v = 118
  · subst e118
    go_enter Tryd.func29, Tryd.ntmps29
    go_wp2
    go_ret
    exact ⟨rfl, rfl⟩
  · skip
    by_cases e115 : v = 115
    · subst e115
      go_enter Tryd.func29, Tryd.ntmps29
      go_wp2
      go_ret
      exact ⟨rfl, rfl⟩
    · skip
      by_cases e120 : v = 120
      · subst e120
        go_enter Tryd.func29, Tryd.ntmps29
        go_wp2
        go_ret
        exact ⟨rfl, rfl⟩
      · skip
        by_cases e88 : v = 88
        · subst e88
          go_enter Tryd.func29, Tryd.ntmps29
          go_wp2
          go_ret
          exact ⟨rfl, rfl⟩
        · skip
          by_cases e113 : v = 113
          · subst e113
            go_enter Tryd.func29, Tryd.ntmps29
            go_wp2
            go_ret
            exact ⟨rfl, rfl⟩
          · skip
            go_enter Tryd.func29, Tryd.ntmps29
            go_wp2
            go_ret
            exact ⟨rfl, rfl⟩
set_option maxRecDepth 1000000 in
set_option maxHeartbeats 2000000 in
theorem jthere_any (x : Ac) (w : World) : Calls Tryd.prog 12 #[.agg x.v.toArray] w fun e w' => e = .returned (.bool (thB x)) ∧ Below w.heap.size w w' := by
  obtain ⟨L, hL⟩ : ∃ L, L = x.v := ⟨_, rfl⟩
  have h0 : L[0]? = some (.int .i64 x.k) := by rw [hL]; rfl
  obtain ⟨W1, hW1⟩ : ∃ W1, W1 = w.alloc (.cells L.toArray 28) := ⟨_, rfl⟩
  have hb : Blk W1 w.heap.size L := by rw [hW1]; exact Blk.new _ _ _
  have hw1 : Below w.heap.size w W1 := by rw [hW1]; exact (Below.refl _ _).alloc (Nat.le_refl _) _
  have c0 := hb.c 0 _ h0
  unfold thB
  rw [← hL]
  clear hL h0 hb
  generalize x.k = k at *
  by_cases e1 : k = 1
  · subst e1
    go_enter Tryd.func12, Tryd.ntmps12
    go_upto_region 1 with fail
    rw [← hW1]
    clear hW1
    go_wp2
    go_ret
    exact ⟨rfl, hw1⟩
  · skip
    by_cases e2 : k = 2
    · subst e2
      go_enter Tryd.func12, Tryd.ntmps12
      go_upto_region 1 with fail
      rw [← hW1]
      clear hW1
      go_wp2
      go_ret
      exact ⟨rfl, hw1⟩
    · skip
      by_cases e3 : k = 3
      · subst e3
        go_enter Tryd.func12, Tryd.ntmps12
        go_upto_region 1 with fail
        rw [← hW1]
        clear hW1
        go_wp2
        go_ret
        exact ⟨rfl, hw1⟩
      · skip
        go_enter Tryd.func12, Tryd.ntmps12
        go_upto_region 1 with fail
        rw [← hW1]
        clear hW1
        go_wp2
        go_ret
        exact ⟨rfl, hw1⟩
/-- The first of these methods that a row has. -/
def fst2 (h : Hk) : Int := if thB h.b then 2 else 0
def fst34 (h : Hk) : Int := if thB h.c then 3 else if thB h.d then 4 else 0
set_option maxRecDepth 1000000 in
set_option maxHeartbeats 4000000 in
theorem first2_any (h : Hk) (g : Nat) (w : World) (hc : w.cell? ⟨g, 0, none⟩ = some (.int .i64 2)) (hg : g < w.heap.size) : Calls Tryd.prog 27 #[.agg h.v.toArray, .slice (some ⟨g, 0, none⟩) 1 1] w fun e w' => e = .returned (.int .i64 (fst2 h)) ∧ Below w.heap.size w w' := by
  have hA : ∀ w, Calls Tryd.prog 39 #[.agg h.v.toArray, .int .i64 2] w fun e w' => e = .returned (.agg h.b.v.toArray) ∧ Below w.heap.size w w' := fun w => act_any h 2 w
  have hT := fun w => there_any h.b w
  have HF : Hid (fst2 h = if thB h.b then 2 else 0) := rfl
  obtain ⟨W1, hW1⟩ : ∃ W1, W1 = w.alloc (.cells h.v.toArray 30) := ⟨_, rfl⟩
  have hb : Blk W1 w.heap.size h.v := by rw [hW1]; exact Blk.new _ _ _
  have hw1 : Below w.heap.size w W1 := by rw [hW1]; exact (Below.refl _ _).alloc (Nat.le_refl _) _
  have c1 : W1.cell? ⟨g, 0, none⟩ = some (.int .i64 2) := (hw1.cell (p := ⟨g, 0, none⟩) hg).trans hc
  generalize thB h.b = b at *
  generalize h.b.v = lb at *
  have hl : h.v.length = 48 := h.len
  generalize h.v = L at *
  cases b
  · go_enter Tryd.func27, Tryd.ntmps27
    go_upto_region 1 with fail
    rw [← hW1]
    clear hW1
    go_wp2
    refine wp_loop_rounds 2 ?_
    rw [rounds_succ]
    go_wp2_with (first
      | (refine wpl_ld row_Hook rfl (.tmp 2) rfl (vs := L) rfl hb.range hl ?_)
      | (go_at_call 39; refine (hA _).mono ?_; rintro e w2 ⟨rfl, h2⟩)
      | (go_at_call 11; refine (hT _).mono ?_; rintro e w3 ⟨rfl, h3⟩))
    rw [rounds_succ]
    go_wp2
    go_ret
    rw [HF.out]
    exact ⟨rfl, hw1.trans ((h2.trans (h3.mono h2.size)).mono hw1.size)⟩
  · go_enter Tryd.func27, Tryd.ntmps27
    go_upto_region 1 with fail
    rw [← hW1]
    clear hW1
    go_wp2
    refine wp_loop_rounds 2 ?_
    rw [rounds_succ]
    go_wp2_with (first
      | (refine wpl_ld row_Hook rfl (.tmp 2) rfl (vs := L) rfl hb.range hl ?_)
      | (go_at_call 39; refine (hA _).mono ?_; rintro e w2 ⟨rfl, h2⟩)
      | (go_at_call 11; refine (hT _).mono ?_; rintro e w3 ⟨rfl, h3⟩))
    go_ret
    rw [HF.out]
    exact ⟨rfl, hw1.trans ((h2.trans (h3.mono h2.size)).mono hw1.size)⟩
set_option maxRecDepth 1000000 in
set_option maxHeartbeats 4000000 in
theorem first34_any (h : Hk) (g : Nat) (w : World) (hc : w.cell? ⟨g, 0, none⟩ = some (.int .i64 3)) (hc2 : w.cell? ⟨g, 1, none⟩ = some (.int .i64 4)) (hg : g < w.heap.size) : Calls Tryd.prog 27 #[.agg h.v.toArray, .slice (some ⟨g, 0, none⟩) 2 2] w fun e w' => e = .returned (.int .i64 (fst34 h)) ∧ Below w.heap.size w w' := by
  have hA : ∀ w, Calls Tryd.prog 39 #[.agg h.v.toArray, .int .i64 3] w fun e w' => e = .returned (.agg h.c.v.toArray) ∧ Below w.heap.size w w' := fun w => act_any h 3 w
  have hA4 : ∀ w, Calls Tryd.prog 39 #[.agg h.v.toArray, .int .i64 4] w fun e w' => e = .returned (.agg h.d.v.toArray) ∧ Below w.heap.size w w' := fun w => act_any h 4 w
  have hT := fun w => there_any h.c w
  have hT4 := fun w => there_any h.d w
  have HF : Hid (fst34 h = if thB h.c then 3 else if thB h.d then 4 else 0) := rfl
  obtain ⟨W1, hW1⟩ : ∃ W1, W1 = w.alloc (.cells h.v.toArray 30) := ⟨_, rfl⟩
  have hb : Blk W1 w.heap.size h.v := by rw [hW1]; exact Blk.new _ _ _
  have hw1 : Below w.heap.size w W1 := by rw [hW1]; exact (Below.refl _ _).alloc (Nat.le_refl _) _
  have c1 : W1.cell? ⟨g, 0, none⟩ = some (.int .i64 3) := (hw1.cell (p := ⟨g, 0, none⟩) hg).trans hc
  have hg1 : g < W1.heap.size := Nat.lt_of_lt_of_le hg hw1.size
  have c2 : W1.cell? ⟨g, 1, none⟩ = some (.int .i64 4) := (hw1.cell (p := ⟨g, 1, none⟩) hg).trans hc2
  generalize thB h.c = b at *
  generalize h.c.v = lb at *
  generalize thB h.d = b4 at *
  generalize h.d.v = lb4 at *
  have hl : h.v.length = 48 := h.len
  generalize h.v = L at *
  cases b
  · cases b4
    · skip
      go_enter Tryd.func27, Tryd.ntmps27
      go_upto_region 1 with fail
      rw [← hW1]
      clear hW1
      go_wp2
      refine wp_loop_rounds 3 ?_
      rw [rounds_succ]
      go_wp2_with (first
        | (refine wpl_ld row_Hook rfl (.tmp 2) rfl (vs := L) rfl hb.range hl ?_)
        | (go_at_call 39; refine (hA _).mono ?_; rintro e w2 ⟨rfl, h2⟩)
        | (go_at_call 11; refine (hT _).mono ?_; rintro e w3 ⟨rfl, h3⟩))
      have h4 : Below W1.heap.size W1 w3 := h2.trans (h3.mono h2.size)
      have hb4 := hb.up h4
      have c4 : w3.cell? ⟨g, 1, none⟩ = some (.int .i64 4) := (h4.cell (p := ⟨g, 1, none⟩) hg1).trans c2
      rw [rounds_succ]
      go_wp2_with (first
        | (refine wpl_ld row_Hook rfl (.tmp 2) rfl (vs := L) rfl hb4.range hl ?_)
        | (go_at_call 39; refine (hA4 _).mono ?_; rintro e w5 ⟨rfl, h5⟩)
        | (go_at_call 11; refine (hT4 _).mono ?_; rintro e w6 ⟨rfl, h6⟩))
      have h7 : Below W1.heap.size W1 w6 := h4.trans ((h5.trans (h6.mono h5.size)).mono h4.size)
      rw [rounds_succ]
      go_wp2
      go_ret
      rw [HF.out]
      exact ⟨rfl, hw1.trans (h7.mono hw1.size)⟩
    · skip
      go_enter Tryd.func27, Tryd.ntmps27
      go_upto_region 1 with fail
      rw [← hW1]
      clear hW1
      go_wp2
      refine wp_loop_rounds 3 ?_
      rw [rounds_succ]
      go_wp2_with (first
        | (refine wpl_ld row_Hook rfl (.tmp 2) rfl (vs := L) rfl hb.range hl ?_)
        | (go_at_call 39; refine (hA _).mono ?_; rintro e w2 ⟨rfl, h2⟩)
        | (go_at_call 11; refine (hT _).mono ?_; rintro e w3 ⟨rfl, h3⟩))
      have h4 : Below W1.heap.size W1 w3 := h2.trans (h3.mono h2.size)
      have hb4 := hb.up h4
      have c4 : w3.cell? ⟨g, 1, none⟩ = some (.int .i64 4) := (h4.cell (p := ⟨g, 1, none⟩) hg1).trans c2
      rw [rounds_succ]
      go_wp2_with (first
        | (refine wpl_ld row_Hook rfl (.tmp 2) rfl (vs := L) rfl hb4.range hl ?_)
        | (go_at_call 39; refine (hA4 _).mono ?_; rintro e w5 ⟨rfl, h5⟩)
        | (go_at_call 11; refine (hT4 _).mono ?_; rintro e w6 ⟨rfl, h6⟩))
      have h7 : Below W1.heap.size W1 w6 := h4.trans ((h5.trans (h6.mono h5.size)).mono h4.size)
      go_ret
      rw [HF.out]
      exact ⟨rfl, hw1.trans (h7.mono hw1.size)⟩
  · skip
    go_enter Tryd.func27, Tryd.ntmps27
    go_upto_region 1 with fail
    rw [← hW1]
    clear hW1
    go_wp2
    refine wp_loop_rounds 3 ?_
    rw [rounds_succ]
    go_wp2_with (first
      | (refine wpl_ld row_Hook rfl (.tmp 2) rfl (vs := L) rfl hb.range hl ?_)
      | (go_at_call 39; refine (hA _).mono ?_; rintro e w2 ⟨rfl, h2⟩)
      | (go_at_call 11; refine (hT _).mono ?_; rintro e w3 ⟨rfl, h3⟩))
    go_ret
    rw [HF.out]
    exact ⟨rfl, hw1.trans ((h2.trans (h3.mono h2.size)).mono hw1.size)⟩
end Go.Proofs.YtbfaapbbhgegiaaDoor
