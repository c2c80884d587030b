/- XWalkB, XWalkC: these texts in one. -/
import Derived.Test.YtjfmhghpkefihaaGreatDoorPt2
namespace Go.Proofs.YtjfmhghpkefihaaGreatDoor
open Go.RowKit
set_option linter.unusedVariables false
set_option linter.unusedSimpArgs false
def hnmB (v : Int) : Bool := v == 118 || v == 115 || v == 120 || v == 88 || v == 113
set_option maxRecDepth 1000000 in
theorem takes_any (v : Int) (w : World) : Calls Tryz.prog 147 #[.int .i32 v] w fun e w' => e = .returned (.bool (hnmB v)) ∧ w' = w := by
 by_cases e1 : v = 118
 ·subst e1
  go_enter Tryz.func147, Tryz.ntmps147
  go_wp2
  go_ret
  exact ⟨rfl, rfl⟩
 ·by_cases e2 : v = 115
  ·subst e2
   go_enter Tryz.func147, Tryz.ntmps147
   go_wp2
   go_ret
   exact ⟨rfl, rfl⟩
  ·by_cases e3 : v = 120
   ·subst e3
    go_enter Tryz.func147, Tryz.ntmps147
    go_wp2
    go_ret
    exact ⟨rfl, rfl⟩
   ·by_cases e4 : v = 88
    ·subst e4
     go_enter Tryz.func147, Tryz.ntmps147
     go_wp2
     go_ret
     exact ⟨rfl, rfl⟩
    ·by_cases e5 : v = 113
     ·subst e5
      go_enter Tryz.func147, Tryz.ntmps147
      go_wp2
      go_ret
      exact ⟨rfl, rfl⟩
     ·go_enter Tryz.func147, Tryz.ntmps147
      go_wp2
      go_ret
      rw [show hnmB v = false by simp [hnmB, e1, e2, e3, e4, e5]]
      exact ⟨rfl, rfl⟩
def fst2 (h : Hk) : Int := if thB h.b then 2 else 0
def fst34 (h : Hk) : Int := if thB h.c then 3 else if thB h.d then 4 else 0
set_option maxRecDepth 1000000 in
set_option maxHeartbeats 4000000 in
theorem first2_any (h : Hk) (g : Nat) (w : World) (hc : w.cell? ⟨g, 0, none⟩ = some (.int .i64 2)) (hg : g < w.heap.size) : Calls Tryz.prog 146 #[.agg h.v.toArray, .slice (some ⟨g, 0, none⟩) 1 1] w fun e w' => e = .returned (.int .i64 (fst2 h)) ∧ Below w.heap.size w w' := by
 have hA : ∀ w, Calls Tryz.prog 100 #[.agg h.v.toArray, .int .i64 2] w fun e w' => e = .returned (.agg h.b.v.toArray) ∧ Below w.heap.size w w' := fun w => act_any h 2 w
 have hT := fun w => there_any h.b w
 have HF : Hid (fst2 h = if thB h.b then 2 else 0) := rfl
 obtain ⟨W1, hW1⟩ : ∃ W1, W1 = w.alloc (.cells h.v.toArray 33) := ⟨_, rfl⟩
 have hb : Blk W1 w.heap.size h.v := by rw [hW1]; exact Blk.new _ _ _
 have hw1 : Below w.heap.size w W1 := by rw [hW1]; exact (Below.refl _ _).alloc (Nat.le_refl _) _
 have c1 : W1.cell? ⟨g, 0, none⟩ = some (.int .i64 2) := (hw1.cell (p := ⟨g, 0, none⟩) hg).trans hc
 generalize thB h.b = b at *
 generalize h.b.v = lb at *
 have hl : h.v.length = 48 := h.len
 generalize h.v = L at *
 cases b
 ·go_enter Tryz.func146, Tryz.ntmps146
  go_upto_region 1 with fail
  rw [← hW1]
  clear hW1
  go_wp2
  refine wp_loop_rounds 2 ?_
  rw [rounds_succ]
  go_wp2_with (first
   | (refine wpl_ld row_Hook rfl (.tmp 2) rfl (vs := L) rfl hb.range hl ?_)
   | (go_at_call 100; refine (hA _).mono ?_; rintro e w2 ⟨rfl, h2⟩)
   | (go_at_call 145; refine (hT _).mono ?_; rintro e w3 ⟨rfl, h3⟩))
  rw [rounds_succ]
  go_wp2
  go_ret
  rw [HF.out]
  exact ⟨rfl, hw1.trans ((h2.trans (h3.mono h2.size)).mono hw1.size)⟩
 ·go_enter Tryz.func146, Tryz.ntmps146
  go_upto_region 1 with fail
  rw [← hW1]
  clear hW1
  go_wp2
  refine wp_loop_rounds 2 ?_
  rw [rounds_succ]
  go_wp2_with (first
   | (refine wpl_ld row_Hook rfl (.tmp 2) rfl (vs := L) rfl hb.range hl ?_)
   | (go_at_call 100; refine (hA _).mono ?_; rintro e w2 ⟨rfl, h2⟩)
   | (go_at_call 145; refine (hT _).mono ?_; rintro e w3 ⟨rfl, h3⟩))
  go_ret
  rw [HF.out]
  exact ⟨rfl, hw1.trans ((h2.trans (h3.mono h2.size)).mono hw1.size)⟩
set_option maxRecDepth 1000000 in
set_option maxHeartbeats 4000000 in
theorem first34_any (h : Hk) (g : Nat) (w : World) (hc : w.cell? ⟨g, 0, none⟩ = some (.int .i64 3)) (hc2 : w.cell? ⟨g, 1, none⟩ = some (.int .i64 4)) (hg : g < w.heap.size) : Calls Tryz.prog 146 #[.agg h.v.toArray, .slice (some ⟨g, 0, none⟩) 2 2] w fun e w' => e = .returned (.int .i64 (fst34 h)) ∧ Below w.heap.size w w' := by
 have hA : ∀ w, Calls Tryz.prog 100 #[.agg h.v.toArray, .int .i64 3] w fun e w' => e = .returned (.agg h.c.v.toArray) ∧ Below w.heap.size w w' := fun w => act_any h 3 w
 have hA4 : ∀ w, Calls Tryz.prog 100 #[.agg h.v.toArray, .int .i64 4] w fun e w' => e = .returned (.agg h.d.v.toArray) ∧ Below w.heap.size w w' := fun w => act_any h 4 w
 have hT := fun w => there_any h.c w
 have hT4 := fun w => there_any h.d w
 have HF : Hid (fst34 h = if thB h.c then 3 else if thB h.d then 4 else 0) := rfl
 obtain ⟨W1, hW1⟩ : ∃ W1, W1 = w.alloc (.cells h.v.toArray 33) := ⟨_, rfl⟩
 have hb : Blk W1 w.heap.size h.v := by rw [hW1]; exact Blk.new _ _ _
 have hw1 : Below w.heap.size w W1 := by rw [hW1]; exact (Below.refl _ _).alloc (Nat.le_refl _) _
 have c1 : W1.cell? ⟨g, 0, none⟩ = some (.int .i64 3) := (hw1.cell (p := ⟨g, 0, none⟩) hg).trans hc
 have hg1 : g < W1.heap.size := Nat.lt_of_lt_of_le hg hw1.size
 have c2 : W1.cell? ⟨g, 1, none⟩ = some (.int .i64 4) := (hw1.cell (p := ⟨g, 1, none⟩) hg).trans hc2
 generalize thB h.c = b at *
 generalize h.c.v = lb at *
 generalize thB h.d = b4 at *
 generalize h.d.v = lb4 at *
 have hl : h.v.length = 48 := h.len
 generalize h.v = L at *
 cases b
 ·cases b4
  ·skip
   go_enter Tryz.func146, Tryz.ntmps146
   go_upto_region 1 with fail
   rw [← hW1]
   clear hW1
   go_wp2
   refine wp_loop_rounds 3 ?_
   rw [rounds_succ]
   go_wp2_with (first
    | (refine wpl_ld row_Hook rfl (.tmp 2) rfl (vs := L) rfl hb.range hl ?_)
    | (go_at_call 100; refine (hA _).mono ?_; rintro e w2 ⟨rfl, h2⟩)
    | (go_at_call 145; refine (hT _).mono ?_; rintro e w3 ⟨rfl, h3⟩))
   have h4 : Below W1.heap.size W1 w3 := h2.trans (h3.mono h2.size)
   have hb4 := hb.up h4
   have c4 : w3.cell? ⟨g, 1, none⟩ = some (.int .i64 4) := (h4.cell (p := ⟨g, 1, none⟩) hg1).trans c2
   rw [rounds_succ]
   go_wp2_with (first
    | (refine wpl_ld row_Hook rfl (.tmp 2) rfl (vs := L) rfl hb4.range hl ?_)
    | (go_at_call 100; refine (hA4 _).mono ?_; rintro e w5 ⟨rfl, h5⟩)
    | (go_at_call 145; refine (hT4 _).mono ?_; rintro e w6 ⟨rfl, h6⟩))
   have h7 : Below W1.heap.size W1 w6 := h4.trans ((h5.trans (h6.mono h5.size)).mono h4.size)
   rw [rounds_succ]
   go_wp2
   go_ret
   rw [HF.out]
   exact ⟨rfl, hw1.trans (h7.mono hw1.size)⟩
  ·skip
   go_enter Tryz.func146, Tryz.ntmps146
   go_upto_region 1 with fail
   rw [← hW1]
   clear hW1
   go_wp2
   refine wp_loop_rounds 3 ?_
   rw [rounds_succ]
   go_wp2_with (first
    | (refine wpl_ld row_Hook rfl (.tmp 2) rfl (vs := L) rfl hb.range hl ?_)
    | (go_at_call 100; refine (hA _).mono ?_; rintro e w2 ⟨rfl, h2⟩)
    | (go_at_call 145; refine (hT _).mono ?_; rintro e w3 ⟨rfl, h3⟩))
   have h4 : Below W1.heap.size W1 w3 := h2.trans (h3.mono h2.size)
   have hb4 := hb.up h4
   have c4 : w3.cell? ⟨g, 1, none⟩ = some (.int .i64 4) := (h4.cell (p := ⟨g, 1, none⟩) hg1).trans c2
   rw [rounds_succ]
   go_wp2_with (first
    | (refine wpl_ld row_Hook rfl (.tmp 2) rfl (vs := L) rfl hb4.range hl ?_)
    | (go_at_call 100; refine (hA4 _).mono ?_; rintro e w5 ⟨rfl, h5⟩)
    | (go_at_call 145; refine (hT4 _).mono ?_; rintro e w6 ⟨rfl, h6⟩))
   have h7 : Below W1.heap.size W1 w6 := h4.trans ((h5.trans (h6.mono h5.size)).mono h4.size)
   go_ret
   rw [HF.out]
   exact ⟨rfl, hw1.trans (h7.mono hw1.size)⟩
 ·skip
  go_enter Tryz.func146, Tryz.ntmps146
  go_upto_region 1 with fail
  rw [← hW1]
  clear hW1
  go_wp2
  refine wp_loop_rounds 3 ?_
  rw [rounds_succ]
  go_wp2_with (first
   | (refine wpl_ld row_Hook rfl (.tmp 2) rfl (vs := L) rfl hb.range hl ?_)
   | (go_at_call 100; refine (hA _).mono ?_; rintro e w2 ⟨rfl, h2⟩)
   | (go_at_call 145; refine (hT _).mono ?_; rintro e w3 ⟨rfl, h3⟩))
  go_ret
  rw [HF.out]
  exact ⟨rfl, hw1.trans ((h2.trans (h3.mono h2.size)).mono hw1.size)⟩
end Go.Proofs.YtjfmhghpkefihaaGreatDoor
namespace Go.Proofs.YtjfmhghpkefihaaGreatDoor
open Go.RowKit
set_option linter.unusedVariables false
set_option linter.unusedSimpArgs false
def whN (h : Hk) (v : Int) (sh : Bool) : Int := if thB h.a = true then 1 else if v = 118 ∧ sh = true then fst2 h else if hnmB v = true then fst34 h else 0
set_option maxRecDepth 1000000 in
set_option maxHeartbeats 4000000 in
theorem which_any (h : Hk) (v : Int) (sh : Bool) (w : World) : Calls Tryz.prog 98 #[.agg h.v.toArray, .int .i32 v, .bool sh] w fun e w' => e = .returned (.int .i64 (whN h v sh)) ∧ Below w.heap.size w w' := by
 obtain ⟨W1, hW1⟩ : ∃ W1, W1 = w.alloc (.cells h.v.toArray 33) := ⟨_, rfl⟩
 have hb : Blk W1 w.heap.size h.v := by rw [hW1]; exact Blk.new _ _ _
 have hw1 : Below w.heap.size w W1 := by rw [hW1]; exact (Below.refl _ _).alloc (Nat.le_refl _) _
 have hl : h.v.length = 48 := h.len
 have hA := fun w => there_any h.a w
 have hm := hk_a hb
 have h2 := fun g w hc hg => first2_any h g w hc hg
 have h34 := fun g w hc hc2 hg => first34_any h g w hc hc2 hg
 have hN := fun w => takes_any v w
 have HW : Hid (whN h v sh = if thB h.a = true then 1 else if v = 118 ∧ sh = true then fst2 h else if hnmB v = true then fst34 h else 0) := rfl
 have hla := h.a.len
 generalize h.v = L at *
 generalize h.a.v = La at *
 generalize thB h.a = b at *
 generalize fst2 h = n2 at *
 generalize fst34 h = n34 at *
 generalize whN h v sh = R at *
 generalize hnm : hnmB v = nm at *
 cases b
 ·have k2 : ∀ w2, Below W1.heap.size W1 w2 → Blk w2 w.heap.size L ∧ Below w.heap.size w w2 := fun w2 q2 => ⟨hb.up q2, hw1.trans (q2.mono hw1.size)⟩
  by_cases e1 : v = 118
  ·subst e1
   obtain rfl : true = nm := hnm
   cases sh
   ·have HR : Hid (R = n34) := by rw [HW.out]; rfl
    go_enter Tryz.func98, Tryz.ntmps98
    go_upto_region 1 with fail
    rw [← hW1]
    clear hW1
    go_upto_region 3 with (first
     | (refine wpl_ld row_Act rfl (.tmp 8) rfl (vs := La) rfl hm hla ?_)
     | (go_at_call 145; refine (hA _).mono ?_; rintro e w2 ⟨rfl, q2⟩))
    obtain ⟨b2, w2'⟩ := k2 _ q2
    go_wp2_with (first
     | (go_at_call 147; refine (hN _).mono ?_; rintro e w4 ⟨rfl, q4⟩; subst q4)
     | (refine wpl_ld row_Hook rfl (.tmp 3) rfl (vs := L) rfl b2.range hl ?_)
     | (go_at_call 146; refine (h34 _ _ (by simp) (by simp) (by simp)).mono ?_; rintro e w3 ⟨rfl, q3⟩))
    go_ret
    rw [HR.out]
    exact ⟨rfl, w2'.trans (Below.mono (((Below.refl _ _).alloc (Nat.le_refl _) _).trans (q3.mono (by simp))) w2'.size)⟩
   ·have HR : Hid (R = n2) := by rw [HW.out]; rfl
    go_enter Tryz.func98, Tryz.ntmps98
    go_upto_region 1 with fail
    rw [← hW1]
    clear hW1
    go_upto_region 3 with (first
     | (refine wpl_ld row_Act rfl (.tmp 8) rfl (vs := La) rfl hm hla ?_)
     | (go_at_call 145; refine (hA _).mono ?_; rintro e w2 ⟨rfl, q2⟩))
    obtain ⟨b2, w2'⟩ := k2 _ q2
    go_wp2_with (first
     | (refine wpl_ld row_Hook rfl (.tmp 3) rfl (vs := L) rfl b2.range hl ?_)
     | (go_at_call 146; refine (h2 _ _ (by simp) (by simp)).mono ?_; rintro e w3 ⟨rfl, q3⟩))
    go_ret
    rw [HR.out]
    exact ⟨rfl, w2'.trans (Below.mono (((Below.refl _ _).alloc (Nat.le_refl _) _).trans (q3.mono (by simp))) w2'.size)⟩
  ·cases nm
   ·have HR : Hid (R = 0) := (by rw [HW.out]; simp [e1] : R = 0)
    clear hnm
    go_enter Tryz.func98, Tryz.ntmps98
    go_upto_region 1 with fail
    rw [← hW1]
    clear hW1
    go_upto_region 3 with (first
     | (refine wpl_ld row_Act rfl (.tmp 8) rfl (vs := La) rfl hm hla ?_)
     | (go_at_call 145; refine (hA _).mono ?_; rintro e w2 ⟨rfl, q2⟩))
    obtain ⟨b2, w2'⟩ := k2 _ q2
    go_wp2_with (go_at_call 147; refine (hN _).mono ?_; rintro e w4 ⟨rfl, q4⟩; subst q4)
    go_ret
    rw [HR.out]
    exact ⟨rfl, w2'⟩
   ·have HR : Hid (R = n34) := (by rw [HW.out]; simp [e1] : R = n34)
    clear hnm
    go_enter Tryz.func98, Tryz.ntmps98
    go_upto_region 1 with fail
    rw [← hW1]
    clear hW1
    go_upto_region 3 with (first
     | (refine wpl_ld row_Act rfl (.tmp 8) rfl (vs := La) rfl hm hla ?_)
     | (go_at_call 145; refine (hA _).mono ?_; rintro e w2 ⟨rfl, q2⟩))
    obtain ⟨b2, w2'⟩ := k2 _ q2
    go_wp2_with (first
     | (go_at_call 147; refine (hN _).mono ?_; rintro e w4 ⟨rfl, q4⟩; subst q4)
     | (refine wpl_ld row_Hook rfl (.tmp 3) rfl (vs := L) rfl b2.range hl ?_)
     | (go_at_call 146; refine (h34 _ _ (by simp) (by simp) (by simp)).mono ?_; rintro e w3 ⟨rfl, q3⟩))
    go_ret
    rw [HR.out]
    exact ⟨rfl, w2'.trans (Below.mono (((Below.refl _ _).alloc (Nat.le_refl _) _).trans (q3.mono (by simp))) w2'.size)⟩
 ·have HR : Hid (R = 1) := by rw [HW.out]; rfl
  clear hnm
  go_enter Tryz.func98, Tryz.ntmps98
  go_upto_region 1 with fail
  rw [← hW1]
  clear hW1
  go_wp2_with (first
   | (refine wpl_ld row_Act rfl (.tmp 8) rfl (vs := La) rfl hm hla ?_)
   | (go_at_call 145; refine (hA _).mono ?_; rintro e w2 ⟨rfl, q2⟩))
  go_ret
  rw [HR.out]
  exact ⟨rfl, hw1.trans (q2.mono hw1.size)⟩
end Go.Proofs.YtjfmhghpkefihaaGreatDoor
