/- Package hooks: which method is asked, and what it is called; the document's. -/
import Derived.Test.YtbfaapbbhgegiaaDoorXWalkB
namespace Go.Proofs.YtbfaapbbhgegiaaDoor
open Go.RowKit
set_option linter.unusedVariables false
set_option linter.unusedSimpArgs false

/-- Which method is asked. -/
def whN (h : Hk) (v : Int) (sh : Bool) : Int := if thB h.a = true then 1 else if v = 118 ∧ sh = true then fst2 h else if nmB v = true then fst34 h else 0
set_option maxRecDepth 1000000 in
set_option maxHeartbeats 4000000 in
theorem which_any (h : Hk) (v : Int) (sh : Bool) (w : World) : Calls Tryd.prog 9 #[.agg h.v.toArray, .int .i32 v, .bool sh] w fun e w' => e = .returned (.int .i64 (whN h v sh)) ∧ Below w.heap.size w w' := by
  obtain ⟨W1, hW1⟩ : ∃ W1, W1 = w.alloc (.cells h.v.toArray 30) := ⟨_, rfl⟩
  have hb : Blk W1 w.heap.size h.v := by rw [hW1]; exact Blk.new _ _ _
  have hw1 : Below w.heap.size w W1 := by rw [hW1]; exact (Below.refl _ _).alloc (Nat.le_refl _) _
  have hl : h.v.length = 48 := h.len
  have hA := fun w => there_any h.a w
  have hm := hk_a hb
  have h2 := fun g w hc hg => first2_any h g w hc hg
  have h34 := fun g w hc hc2 hg => first34_any h g w hc hc2 hg
  have hN := fun w => takes_any v w
  have HW : Hid (whN h v sh = if thB h.a = true then 1 else if v = 118 ∧ sh = true then fst2 h else if nmB v = true then fst34 h else 0) := rfl
  have hla := h.a.len
  generalize h.v = L at *
  generalize h.a.v = La at *
  generalize thB h.a = b at *
  generalize fst2 h = n2 at *
  generalize fst34 h = n34 at *
  generalize whN h v sh = R at *
  generalize hnm : nmB v = nm at *
  cases b
  · have k2 : ∀ w2, Below W1.heap.size W1 w2 → Blk w2 w.heap.size L ∧ Below w.heap.size w w2 := fun w2 q2 => ⟨hb.up q2, hw1.trans (q2.mono hw1.size)⟩
    by_cases e1 : v = 118
    · subst e1
      obtain rfl : true = nm := hnm
      cases sh
      · have HR : Hid (R = n34) := by rw [HW.out]; rfl
        go_enter Tryd.func9, Tryd.ntmps9
        go_upto_region 1 with fail
        rw [← hW1]
        clear hW1
        go_upto_region 3 with (first
          | (refine wpl_ld row_Act rfl (.tmp 8) rfl (vs := La) rfl hm hla ?_)
          | (go_at_call 11; refine (hA _).mono ?_; rintro e w2 ⟨rfl, q2⟩))
        obtain ⟨b2, w2'⟩ := k2 _ q2
        go_wp2_with (first
          | (go_at_call 28; refine (hN _).mono ?_; rintro e w4 ⟨rfl, q4⟩; subst q4)
          | (refine wpl_ld row_Hook rfl (.tmp 3) rfl (vs := L) rfl b2.range hl ?_)
          | (go_at_call 27; refine (h34 _ _ (by simp) (by simp) (by simp)).mono ?_; rintro e w3 ⟨rfl, q3⟩))
        go_ret
        rw [HR.out]
        exact ⟨rfl, w2'.trans (Below.mono (((Below.refl _ _).alloc (Nat.le_refl _) _).trans (q3.mono (by simp))) w2'.size)⟩
      · have HR : Hid (R = n2) := by rw [HW.out]; rfl
        go_enter Tryd.func9, Tryd.ntmps9
        go_upto_region 1 with fail
        rw [← hW1]
        clear hW1
        go_upto_region 3 with (first
          | (refine wpl_ld row_Act rfl (.tmp 8) rfl (vs := La) rfl hm hla ?_)
          | (go_at_call 11; refine (hA _).mono ?_; rintro e w2 ⟨rfl, q2⟩))
        obtain ⟨b2, w2'⟩ := k2 _ q2
        go_wp2_with (first
          | (refine wpl_ld row_Hook rfl (.tmp 3) rfl (vs := L) rfl b2.range hl ?_)
          | (go_at_call 27; refine (h2 _ _ (by simp) (by simp)).mono ?_; rintro e w3 ⟨rfl, q3⟩))
        go_ret
        rw [HR.out]
        exact ⟨rfl, w2'.trans (Below.mono (((Below.refl _ _).alloc (Nat.le_refl _) _).trans (q3.mono (by simp))) w2'.size)⟩
    · cases nm
      · have HR : Hid (R = 0) := (by rw [HW.out]; simp [e1] : R = 0)
        clear hnm
        go_enter Tryd.func9, Tryd.ntmps9
        go_upto_region 1 with fail
        rw [← hW1]
        clear hW1
        go_upto_region 3 with (first
          | (refine wpl_ld row_Act rfl (.tmp 8) rfl (vs := La) rfl hm hla ?_)
          | (go_at_call 11; refine (hA _).mono ?_; rintro e w2 ⟨rfl, q2⟩))
        obtain ⟨b2, w2'⟩ := k2 _ q2
        go_wp2_with (go_at_call 28; refine (hN _).mono ?_; rintro e w4 ⟨rfl, q4⟩; subst q4)
        go_ret
        rw [HR.out]
        exact ⟨rfl, w2'⟩
      · have HR : Hid (R = n34) := (by rw [HW.out]; simp [e1] : R = n34)
        clear hnm
        go_enter Tryd.func9, Tryd.ntmps9
        go_upto_region 1 with fail
        rw [← hW1]
        clear hW1
        go_upto_region 3 with (first
          | (refine wpl_ld row_Act rfl (.tmp 8) rfl (vs := La) rfl hm hla ?_)
          | (go_at_call 11; refine (hA _).mono ?_; rintro e w2 ⟨rfl, q2⟩))
        obtain ⟨b2, w2'⟩ := k2 _ q2
        go_wp2_with (first
          | (go_at_call 28; refine (hN _).mono ?_; rintro e w4 ⟨rfl, q4⟩; subst q4)
          | (refine wpl_ld row_Hook rfl (.tmp 3) rfl (vs := L) rfl b2.range hl ?_)
          | (go_at_call 27; refine (h34 _ _ (by simp) (by simp) (by simp)).mono ?_; rintro e w3 ⟨rfl, q3⟩))
        go_ret
        rw [HR.out]
        exact ⟨rfl, w2'.trans (Below.mono (((Below.refl _ _).alloc (Nat.le_refl _) _).trans (q3.mono (by simp))) w2'.size)⟩
  · have HR : Hid (R = 1) := by rw [HW.out]; rfl
    clear hnm
    go_enter Tryd.func9, Tryd.ntmps9
    go_upto_region 1 with fail
    rw [← hW1]
    clear hW1
    go_wp2_with (first
      | (refine wpl_ld row_Act rfl (.tmp 8) rfl (vs := La) rfl hm hla ?_)
      | (go_at_call 11; refine (hA _).mono ?_; rintro e w2 ⟨rfl, q2⟩))
    go_ret
    rw [HR.out]
    exact ⟨rfl, hw1.trans (q2.mono hw1.size)⟩
set_option maxRecDepth 1000000 in
set_option maxHeartbeats 4000000 in
theorem jwhich_any (h : Hk) (v : Int) (sh : Bool) (w : World) : Calls Tryd.prog 10 #[.agg h.v.toArray, .int .i32 v, .bool sh] w fun e w' => e = .returned (.int .i64 (whN h v sh)) ∧ Below w.heap.size w w' := by
  obtain ⟨W1, hW1⟩ : ∃ W1, W1 = w.alloc (.cells h.v.toArray 30) := ⟨_, rfl⟩
  have hb : Blk W1 w.heap.size h.v := by rw [hW1]; exact Blk.new _ _ _
  have hw1 : Below w.heap.size w W1 := by rw [hW1]; exact (Below.refl _ _).alloc (Nat.le_refl _) _
  have hl : h.v.length = 48 := h.len
  have hA := fun w => jthere_any h.a w
  have hB := fun w => jthere_any h.b w
  have hC := fun w => jthere_any h.c w
  have hD := fun w => jthere_any h.d w
  have hm : ∀ w2, Below W1.heap.size W1 w2 → w2.rangeAt w.heap.size 0 h.a.v ∧ w2.rangeAt w.heap.size 12 h.b.v ∧ w2.rangeAt w.heap.size 24 h.c.v ∧ w2.rangeAt w.heap.size 36 h.d.v ∧ Below w.heap.size w w2 := fun w2 q => ⟨hk_a (hb.up q), hk_b (hb.up q), hk_c (hb.up q), hk_d (hb.up q), hw1.trans (q.mono hw1.size)⟩
  have hN := fun w => named_any v w
  have HW : Hid (whN h v sh = if thB h.a = true then 1 else if v = 118 ∧ sh = true then (if thB h.b = true then 2 else 0) else if nmB v = true then (if thB h.c = true then 3 else if thB h.d = true then 4 else 0) else 0) := rfl
  have hla := h.a.len
  have hlb := h.b.len
  have hlc := h.c.len
  have hld := h.d.len
  generalize h.v = L at *
  generalize h.a.v = La at *
  generalize h.b.v = Lb at *
  generalize h.c.v = Lc at *
  generalize h.d.v = Ld at *
  generalize thB h.a = ba at *
  generalize thB h.b = bb at *
  generalize thB h.c = bc at *
  generalize thB h.d = bd at *
  generalize whN h v sh = R at *
  generalize hnm : nmB v = nm at *
  obtain ⟨ra, -, -, -, -⟩ := hm W1 (Below.refl _ _)
  cases ba
  · by_cases e1 : v = 118
    · subst e1
      obtain rfl : true = nm := hnm
      cases sh
      · skip
        cases bc
        · cases bd
          · skip
            have HR : Hid (R = 0) := (by rw [HW.out]; simp [] : R = 0)
            clear HW
            go_enter Tryd.func10, Tryd.ntmps10
            go_upto_region 1 with fail
            rw [← hW1]
            clear hW1
            go_upto_region 3 with (first
              | (refine wpl_ld row_Act rfl (.tmp 7) rfl (vs := La) rfl ra hla ?_)
              | (go_at_call 12; refine (hA _).mono ?_; rintro e w2 ⟨rfl, q2⟩))
            obtain ⟨-, rb, rc, rd, w2'⟩ := hm _ q2
            go_upto_region 9 with (first
              | (go_at_call 29; refine (hN _).mono ?_; rintro e w4 ⟨rfl, q4⟩; subst q4)
              | (refine wpl_ldg row_Act rfl (.tmp 21) rfl (vs := Lc) rfl rc hlc ?_)
              | (go_at_call 12; refine (hC _).mono ?_; rintro e w3 ⟨rfl, q3⟩))
            obtain ⟨-, -, -, rd3, w3'⟩ := hm _ (q2.trans (q3.mono q2.size))
            go_wp2_with (first
              | (go_at_call 29; refine (hN _).mono ?_; rintro e w5 ⟨rfl, q5⟩; subst q5)
              | (refine wpl_ldg row_Act rfl (.tmp 28) rfl (vs := Ld) rfl rd3 hld ?_)
              | (go_at_call 12; refine (hD _).mono ?_; rintro e w6 ⟨rfl, q6⟩))
            go_ret
            rw [HR.out]
            exact ⟨rfl, w3'.trans (q6.mono w3'.size)⟩
          · skip
            have HR : Hid (R = 4) := (by rw [HW.out]; simp [] : R = 4)
            clear HW
            go_enter Tryd.func10, Tryd.ntmps10
            go_upto_region 1 with fail
            rw [← hW1]
            clear hW1
            go_upto_region 3 with (first
              | (refine wpl_ld row_Act rfl (.tmp 7) rfl (vs := La) rfl ra hla ?_)
              | (go_at_call 12; refine (hA _).mono ?_; rintro e w2 ⟨rfl, q2⟩))
            obtain ⟨-, rb, rc, rd, w2'⟩ := hm _ q2
            go_upto_region 9 with (first
              | (go_at_call 29; refine (hN _).mono ?_; rintro e w4 ⟨rfl, q4⟩; subst q4)
              | (refine wpl_ldg row_Act rfl (.tmp 21) rfl (vs := Lc) rfl rc hlc ?_)
              | (go_at_call 12; refine (hC _).mono ?_; rintro e w3 ⟨rfl, q3⟩))
            obtain ⟨-, -, -, rd3, w3'⟩ := hm _ (q2.trans (q3.mono q2.size))
            go_wp2_with (first
              | (go_at_call 29; refine (hN _).mono ?_; rintro e w5 ⟨rfl, q5⟩; subst q5)
              | (refine wpl_ldg row_Act rfl (.tmp 28) rfl (vs := Ld) rfl rd3 hld ?_)
              | (go_at_call 12; refine (hD _).mono ?_; rintro e w6 ⟨rfl, q6⟩))
            go_ret
            rw [HR.out]
            exact ⟨rfl, w3'.trans (q6.mono w3'.size)⟩
        · skip
          have HR : Hid (R = 3) := (by rw [HW.out]; simp [] : R = 3)
          clear HW
          go_enter Tryd.func10, Tryd.ntmps10
          go_upto_region 1 with fail
          rw [← hW1]
          clear hW1
          go_upto_region 3 with (first
            | (refine wpl_ld row_Act rfl (.tmp 7) rfl (vs := La) rfl ra hla ?_)
            | (go_at_call 12; refine (hA _).mono ?_; rintro e w2 ⟨rfl, q2⟩))
          obtain ⟨-, rb, rc, rd, w2'⟩ := hm _ q2
          go_wp2_with (first
            | (go_at_call 29; refine (hN _).mono ?_; rintro e w4 ⟨rfl, q4⟩; subst q4)
            | (refine wpl_ldg row_Act rfl (.tmp 21) rfl (vs := Lc) rfl rc hlc ?_)
            | (go_at_call 12; refine (hC _).mono ?_; rintro e w3 ⟨rfl, q3⟩))
          go_ret
          rw [HR.out]
          exact ⟨rfl, w2'.trans (q3.mono w2'.size)⟩
      · cases bb
        · skip
          have HR : Hid (R = 0) := (by rw [HW.out]; simp [] : R = 0)
          clear HW
          go_enter Tryd.func10, Tryd.ntmps10
          go_upto_region 1 with fail
          rw [← hW1]
          clear hW1
          go_upto_region 3 with (first
            | (refine wpl_ld row_Act rfl (.tmp 7) rfl (vs := La) rfl ra hla ?_)
            | (go_at_call 12; refine (hA _).mono ?_; rintro e w2 ⟨rfl, q2⟩))
          obtain ⟨-, rb, rc, rd, w2'⟩ := hm _ q2
          go_wp2_with (first
            | (refine wpl_ld row_Act rfl (.tmp 15) rfl (vs := Lb) rfl rb hlb ?_)
            | (go_at_call 12; refine (hB _).mono ?_; rintro e w3 ⟨rfl, q3⟩))
          go_ret
          rw [HR.out]
          exact ⟨rfl, w2'.trans (q3.mono w2'.size)⟩
        · skip
          have HR : Hid (R = 2) := (by rw [HW.out]; simp [] : R = 2)
          clear HW
          go_enter Tryd.func10, Tryd.ntmps10
          go_upto_region 1 with fail
          rw [← hW1]
          clear hW1
          go_upto_region 3 with (first
            | (refine wpl_ld row_Act rfl (.tmp 7) rfl (vs := La) rfl ra hla ?_)
            | (go_at_call 12; refine (hA _).mono ?_; rintro e w2 ⟨rfl, q2⟩))
          obtain ⟨-, rb, rc, rd, w2'⟩ := hm _ q2
          go_wp2_with (first
            | (refine wpl_ld row_Act rfl (.tmp 15) rfl (vs := Lb) rfl rb hlb ?_)
            | (go_at_call 12; refine (hB _).mono ?_; rintro e w3 ⟨rfl, q3⟩))
          go_ret
          rw [HR.out]
          exact ⟨rfl, w2'.trans (q3.mono w2'.size)⟩
    · clear hnm
      have e2 : (v == 118) = false := by simpa using e1
      cases nm
      · skip
        have HR : Hid (R = 0) := (by rw [HW.out]; simp [e1] : R = 0)
        clear HW
        go_enter Tryd.func10, Tryd.ntmps10
        go_upto_region 1 with fail
        rw [← hW1]
        clear hW1
        go_upto_region 3 with (first
          | (refine wpl_ld row_Act rfl (.tmp 7) rfl (vs := La) rfl ra hla ?_)
          | (go_at_call 12; refine (hA _).mono ?_; rintro e w2 ⟨rfl, q2⟩))
        obtain ⟨-, rb, rc, rd, w2'⟩ := hm _ q2
        go_wp2_with (go_at_call 29; refine (hN _).mono ?_; rintro e w4 ⟨rfl, q4⟩; subst q4)
        go_ret
        rw [HR.out]
        exact ⟨rfl, w2'⟩
      · skip
        cases bc
        · cases bd
          · skip
            have HR : Hid (R = 0) := (by rw [HW.out]; simp [e1] : R = 0)
            clear HW
            go_enter Tryd.func10, Tryd.ntmps10
            go_upto_region 1 with fail
            rw [← hW1]
            clear hW1
            go_upto_region 3 with (first
              | (refine wpl_ld row_Act rfl (.tmp 7) rfl (vs := La) rfl ra hla ?_)
              | (go_at_call 12; refine (hA _).mono ?_; rintro e w2 ⟨rfl, q2⟩))
            obtain ⟨-, rb, rc, rd, w2'⟩ := hm _ q2
            go_upto_region 9 with (first
              | (go_at_call 29; refine (hN _).mono ?_; rintro e w4 ⟨rfl, q4⟩; subst q4)
              | (refine wpl_ldg row_Act rfl (.tmp 21) rfl (vs := Lc) rfl rc hlc ?_)
              | (go_at_call 12; refine (hC _).mono ?_; rintro e w3 ⟨rfl, q3⟩))
            obtain ⟨-, -, -, rd3, w3'⟩ := hm _ (q2.trans (q3.mono q2.size))
            go_wp2_with (first
              | (go_at_call 29; refine (hN _).mono ?_; rintro e w5 ⟨rfl, q5⟩; subst q5)
              | (refine wpl_ldg row_Act rfl (.tmp 28) rfl (vs := Ld) rfl rd3 hld ?_)
              | (go_at_call 12; refine (hD _).mono ?_; rintro e w6 ⟨rfl, q6⟩))
            go_ret
            rw [HR.out]
            exact ⟨rfl, w3'.trans (q6.mono w3'.size)⟩
          · skip
            have HR : Hid (R = 4) := (by rw [HW.out]; simp [e1] : R = 4)
            clear HW
            go_enter Tryd.func10, Tryd.ntmps10
            go_upto_region 1 with fail
            rw [← hW1]
            clear hW1
            go_upto_region 3 with (first
              | (refine wpl_ld row_Act rfl (.tmp 7) rfl (vs := La) rfl ra hla ?_)
              | (go_at_call 12; refine (hA _).mono ?_; rintro e w2 ⟨rfl, q2⟩))
            obtain ⟨-, rb, rc, rd, w2'⟩ := hm _ q2
            go_upto_region 9 with (first
              | (go_at_call 29; refine (hN _).mono ?_; rintro e w4 ⟨rfl, q4⟩; subst q4)
              | (refine wpl_ldg row_Act rfl (.tmp 21) rfl (vs := Lc) rfl rc hlc ?_)
              | (go_at_call 12; refine (hC _).mono ?_; rintro e w3 ⟨rfl, q3⟩))
            obtain ⟨-, -, -, rd3, w3'⟩ := hm _ (q2.trans (q3.mono q2.size))
            go_wp2_with (first
              | (go_at_call 29; refine (hN _).mono ?_; rintro e w5 ⟨rfl, q5⟩; subst q5)
              | (refine wpl_ldg row_Act rfl (.tmp 28) rfl (vs := Ld) rfl rd3 hld ?_)
              | (go_at_call 12; refine (hD _).mono ?_; rintro e w6 ⟨rfl, q6⟩))
            go_ret
            rw [HR.out]
            exact ⟨rfl, w3'.trans (q6.mono w3'.size)⟩
        · skip
          have HR : Hid (R = 3) := (by rw [HW.out]; simp [e1] : R = 3)
          clear HW
          go_enter Tryd.func10, Tryd.ntmps10
          go_upto_region 1 with fail
          rw [← hW1]
          clear hW1
          go_upto_region 3 with (first
            | (refine wpl_ld row_Act rfl (.tmp 7) rfl (vs := La) rfl ra hla ?_)
            | (go_at_call 12; refine (hA _).mono ?_; rintro e w2 ⟨rfl, q2⟩))
          obtain ⟨-, rb, rc, rd, w2'⟩ := hm _ q2
          go_wp2_with (first
            | (go_at_call 29; refine (hN _).mono ?_; rintro e w4 ⟨rfl, q4⟩; subst q4)
            | (refine wpl_ldg row_Act rfl (.tmp 21) rfl (vs := Lc) rfl rc hlc ?_)
            | (go_at_call 12; refine (hC _).mono ?_; rintro e w3 ⟨rfl, q3⟩))
          go_ret
          rw [HR.out]
          exact ⟨rfl, w2'.trans (q3.mono w2'.size)⟩
  · skip
    have HR : Hid (R = 1) := (by rw [HW.out]; simp [] : R = 1)
    clear HW
    clear hnm
    go_enter Tryd.func10, Tryd.ntmps10
    go_upto_region 1 with fail
    rw [← hW1]
    clear hW1
    go_wp2_with (first
      | (refine wpl_ld row_Act rfl (.tmp 7) rfl (vs := La) rfl ra hla ?_)
      | (go_at_call 12; refine (hA _).mono ?_; rintro e w2 ⟨rfl, q2⟩))
    go_ret
    rw [HR.out]
    exact ⟨rfl, hw1.trans (q2.mono hw1.size)⟩
end Go.Proofs.YtbfaapbbhgegiaaDoor
