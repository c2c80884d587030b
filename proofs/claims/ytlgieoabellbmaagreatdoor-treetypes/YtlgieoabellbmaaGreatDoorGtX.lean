/- tree: the laws' Built. -/
import Derived.Test.YtlgieoabellbmaaGreatDoorPt20
namespace Go.Proofs.YtlgieoabellbmaaGreatDoor
open Go.RowKit
set_option linter.unusedVariables false
set_option linter.unusedSimpArgs false
def okB (d : D) : Prop := nAll d < 400 ∧ bErr d = 0
set_option maxRecDepth 1000000 in
set_option maxHeartbeats 8000000 in
theorem built12_any (d : D) (n : Nat) (nv pv : Value) (w : World) (hr0 : RdC n w nv pv d) :
  Calls Tryz.prog 9 #[DV d nv pv] w fun e w' => Below w.heap.size w w' ∧ ((okB d ∧ ∃ t x nv' pv', e = .returned (.tuple #[.iface t x, DV (inF d) nv' pv']) ∧ VlC srt (nAll d) (fun b => w.heap.size + 1 < b) w' (.iface t x) d ∧ RdS (nAll d) (fun b => w.heap.size + 1 < b) w' nv' pv' (inF d)) ∨ (¬ okB d ∧ e = .returned (.tuple #[.nilIface, .agg #[.int .i64 0, .string ⟨#[]⟩, .int .u64 0, .int .u64 0, .string ⟨#[]⟩, .slice none 0 0, .slice none 0 0, .int .i64 0]]))) := by
 have hr := rd_nAll n hr0
 obtain ⟨na, nc, pa, pc, rfl, rfl⟩ := hr.slices
 obtain ⟨W1, hW1⟩ : ∃ W1, W1 = (w.alloc (.cells #[.int .i64 d.kind, .string d.ty, .int .u64 d.bits, .int .u64 d.imag, .string d.text, .slice na d.names.length nc, .slice pa d.parts.length pc, .int .i64 d.hook] 26)).alloc (.cells #[.int .i64 0, .string ⟨#[]⟩, .int .u64 0, .int .u64 0, .string ⟨#[]⟩, .slice none 0 0, .slice none 0 0, .int .i64 0] 26) := ⟨_, rfl⟩
 have b1 : Below w.heap.size w W1 := by rw [hW1]; exact bel2 _ _ _
 have a1 : At8 W1 w.heap.size 0 d (.slice na d.names.length nc) (.slice pa d.parts.length pc) := by
  rw [hW1]
  refine ⟨?_, ?_, ?_, ?_, ?_, ?_, ?_, ?_⟩
  all_goals simp [go_sem]
 have zz1 : Zero8 W1 (w.heap.size + 1) := by
  have e1 : (w.alloc (.cells #[.int .i64 d.kind, .string d.ty, .int .u64 d.bits, .int .u64 d.imag, .string d.text, .slice na d.names.length nc, .slice pa d.parts.length pc, .int .i64 d.hook] 26)).heap.size = w.heap.size + 1 := by simp
  refine ⟨by rw [hW1]; refine ⟨?_, ?_, ?_, ?_, ?_, ?_, ?_, ?_⟩ <;> simp [go_sem], fun i => ?_⟩
  rw [hW1, frozen?_alloc_cells, ← e1]
  exact frozen_none _ _ (Nat.le_refl _)
 have hbig := big_any (nAll d) d _ _ W1 (hr.up b1)
 obtain ⟨c0, c1, c2, c3, c4, c5, c6, c7⟩ := id a1
 simp only [Nat.zero_add] at c0 c1 c2 c3 c4 c5 c6 c7
 go_enter Tryz.func9, Tryz.ntmps9
 go_upto_region 1 with fail
 rw [← hW1]
 clear hW1
 by_cases hB : 400 ≤ nAll d
 ·rw [decide_eq_true hB] at hbig
  have HN : Hid (¬ okB d) := fun h => by have := h.1; omega
  have hbd : ∀ w, (Instr.build 26 #[]).run Tryz.prog w = .ok (.agg #[.int .i64 0, .string ⟨#[]⟩, .int .u64 0, .int .u64 0, .string ⟨#[]⟩, .slice none 0 0, .slice none 0 0, .int .i64 0]) w := fun w => by kernel_rfl
  clear hB
  go_upto_region 2 with (go_at_call 22; refine hbig.mono ?_; rintro e W2 ⟨rfl, b2⟩)
  obtain ⟨⟨z0, z1, z2, z3, z4, z5, z6, z7⟩, zf⟩ := zz1.up b2
  have y0 := zf 0
  have y1 := zf 1
  have y2 := zf 2
  have y3 := zf 3
  have y4 := zf 4
  have y5 := zf 5
  have y6 := zf 6
  have y7 := zf 7
  go_wp2
  obtain ⟨r0, r1, r2, r3, r4, r5, r6, r7⟩ := set8 z0 z1 z2 z3 z4 z5 z6 z7 (.int .i64 0) (.string ⟨#[]⟩) (.int .u64 0) (.int .u64 0) (.string ⟨#[]⟩) (.slice none 0 0) (.slice none 0 0) (.int .i64 0)
  refine bodyPost_ret (v := .tuple #[.nilIface, .agg #[.int .i64 0, .string ⟨#[]⟩, .int .u64 0, .int .u64 0, .string ⟨#[]⟩, .slice none 0 0, .slice none 0 0, .int .i64 0]]) (by simp [results, Tryz.results9, go_sem, r0, r1, r2, r3, r4, r5, r6, r7]) rfl ?_
  exact ⟨set8_below (b1.trans (b2.mono b1.size)) (by omega), .inr ⟨HN.out, rfl⟩⟩
 ·rw [decide_eq_false hB] at hbig
  obtain ⟨m, hm⟩ : ∃ m, nAll d = m + 1 := ⟨nAll d - 1, by have := nAll_pos d; omega⟩
  have HM : Hid (nAll d = m + 1) := hm
  rw [hm] at hr hB
  clear hm
  go_upto_region 3 with (go_at_call 22; refine hbig.mono ?_; rintro e W2 ⟨rfl, b2⟩)
  have bW2 : Below w.heap.size w W2 := b1.trans (b2.mono b1.size)
  have hbu := buildA (m + 1) d _ _ W2 (hr.up bW2) (by omega)
  have hs1 : w.heap.size + 1 < W1.heap.size := lt_of_cell zz1.1.1
  have hs2 : w.heap.size + 1 < W2.heap.size := Nat.lt_of_lt_of_le hs1 b2.size
  obtain ⟨c0, c1, c2, c3, c4, c5, c6, c7⟩ := a1.up b2
  simp only [Nat.zero_add] at c0 c1 c2 c3 c4 c5 c6 c7
  by_cases hz : bErr d = 0
  ·have HO : Hid (okB d) := ⟨by have := HM.out; omega, hz⟩
   replace hbu := hbu.mono fun e w' h => (⟨h.1, h.2.elim (fun q => q.2) (fun q => absurd hz q.1)⟩ : _ ∧ _)
   go_upto_region 4 with (go_at_call 20; refine hbu.mono ?_; rintro e W3 ⟨b3, t, x, rfl, hv⟩)
   have bW3 : Below w.heap.size w W3 := bW2.trans (b3.mono bW2.size)
   have hob := (obuild_any m d _ _ W3 (hr.up bW3)).mono fun e w' h => (⟨h.1, h.2.elim (fun q => q.2) (fun q => absurd hz q.1)⟩ : _ ∧ _)
   obtain ⟨c0, c1, c2, c3, c4, c5, c6, c7⟩ := (a1.up b2).up b3
   simp only [Nat.zero_add] at c0 c1 c2 c3 c4 c5 c6 c7
   go_upto_region 5 with (go_at_call 23; refine hob.mono ?_; rintro e W4 ⟨b4, nv', pv', rfl, hrd⟩; obtain ⟨na', nc', pa', pc', rfl, rfl⟩ := hrd.slices; obtain ⟨W5, hW5⟩ : ∃ W5, W5 = W4.alloc (.cells #[.int .i64 (inF d).kind, .string (inF d).ty, .int .u64 (inF d).bits, .int .u64 (inF d).imag, .string (inF d).text, .slice na' (inF d).names.length nc', .slice pa' (inF d).parts.length pc', .int .i64 (inF d).hook] 26) := ⟨_, rfl⟩)
   rw [← hW5]
   have b5 : Below W4.heap.size W4 W5 := by rw [hW5]; exact (Below.refl _ _).alloc (Nat.le_refl _) _
   have x5 : At8 W5 W4.heap.size 0 (inF d) (.slice na' (inF d).names.length nc') (.slice pa' (inF d).parts.length pc') := by
    rw [hW5]
    refine ⟨?_, ?_, ?_, ?_, ?_, ?_, ?_, ?_⟩
    all_goals simp [go_sem]
   obtain ⟨XB, hXB⟩ : ∃ XB, W4.heap.size = XB := ⟨_, rfl⟩
   obtain ⟨Yd, hYd⟩ : ∃ Yd, Yd = W5.drew := ⟨_, rfl⟩
   have b35 : Below W3.heap.size W3 Yd := by rw [hYd]; exact (b4.trans (b5.mono b4.size)).drew
   have bY : Below w.heap.size w Yd := bW3.trans (b35.mono bW3.size)
   have zY : Zero8 Yd (w.heap.size + 1) := ((zz1.up b2).up b3).up b35
   have s5 : At8 Yd XB 0 (inF d) (.slice na' (inF d).names.length nc') (.slice pa' (inF d).parts.length pc') := by rw [hYd, ← hXB]; exact x5
   have hXs : w.heap.size + 1 < XB := by have h1 := b3.size; have h2 := b4.size; omega
   have hvY : VlC srt (m + 1) (fun b => w.heap.size + 1 < b) Yd (.iface t x) d := hv.turn (Kept.below b35 fun b hb _ => by omega)
   have hrY : RdS (m + 1) (fun b => w.heap.size + 1 < b) Yd (.slice na' (inF d).names.length nc') (.slice pa' (inF d).parts.length pc') (inF d) := by rw [hYd]; exact hrd.turn (Kept.below b5.drew fun b hb _ => by have h1 : W3.heap.size ≤ b := hb; have h2 := b3.size; omega)
   try simp only [hXB]
   clear hW5 hbu hob hbig a1 c0 c1 c2 c3 c4 c5 c6 c7 hv hrd x5 hr hr0 b35 bW3 bW2 b1 b2 b3 b4 b5 zz1 hXB hs1 hs2
   obtain ⟨fd, hfd⟩ : ∃ fd, inF d = fd := ⟨_, rfl⟩
   have HFD : Hid (inF d = fd) := hfd
   rw [hfd] at s5 hrY
   simp only [hfd]
   clear hfd
   go_upto_region 7 with fail
   refine wp_region_held_drew (S := fun w' : World => At8 w' XB 0 fd (.slice na' fd.names.length nc') (.slice pa' fd.parts.length pc')) (by kernel_rfl) (by rw [← hYd]; exact s5) ?_
   rw [← hYd]
   clear hYd
   have g9 : (fun w' : World => At8 w' XB 0 fd (.slice na' fd.names.length nc') (.slice pa' fd.parts.length pc')) ((((((((Yd.setCell ⟨w.heap.size + 1, 0, none⟩ (.int .i64 fd.kind)).setCell ⟨w.heap.size + 1, 1, none⟩ (.string fd.ty)).setCell ⟨w.heap.size + 1, 2, none⟩ (.int .u64 fd.bits)).setCell ⟨w.heap.size + 1, 3, none⟩ (.int .u64 fd.imag)).setCell ⟨w.heap.size + 1, 4, none⟩ (.string fd.text)).setCell ⟨w.heap.size + 1, 5, none⟩ (.slice na' fd.names.length nc')).setCell ⟨w.heap.size + 1, 6, none⟩ (.slice pa' fd.parts.length pc')).setCell ⟨w.heap.size + 1, 7, none⟩ (.int .i64 fd.hook)) := by
    have hc : ∀ o, ((((((((Yd.setCell ⟨w.heap.size + 1, 0, none⟩ (.int .i64 fd.kind)).setCell ⟨w.heap.size + 1, 1, none⟩ (.string fd.ty)).setCell ⟨w.heap.size + 1, 2, none⟩ (.int .u64 fd.bits)).setCell ⟨w.heap.size + 1, 3, none⟩ (.int .u64 fd.imag)).setCell ⟨w.heap.size + 1, 4, none⟩ (.string fd.text)).setCell ⟨w.heap.size + 1, 5, none⟩ (.slice na' fd.names.length nc')).setCell ⟨w.heap.size + 1, 6, none⟩ (.slice pa' fd.parts.length pc')).setCell ⟨w.heap.size + 1, 7, none⟩ (.int .i64 fd.hook)).cell? ⟨XB, o, none⟩ = Yd.cell? ⟨XB, o, none⟩ := fun o => set8_other (by omega) o
    obtain ⟨q0, q1, q2, q3, q4, q5, q6, q7⟩ := s5
    exact ⟨(hc _).trans q0, (hc _).trans q1, (hc _).trans q2, (hc _).trans q3, (hc _).trans q4, (hc _).trans q5, (hc _).trans q6, (hc _).trans q7⟩
   obtain ⟨⟨z0, z1, z2, z3, z4, z5, z6, z7⟩, zf⟩ := zY
   have y0 := zf 0
   have y1 := zf 1
   have y2 := zf 2
   have y3 := zf 3
   have y4 := zf 4
   have y5 := zf 5
   have y6 := zf 6
   have y7 := zf 7
   intro hS
   refine tk 0 (.iface t x) rfl (by kernel_rfl) (fun _ _ _ h => h) (by rfl) (by assumption) ?_ ?_
   ·intro w5 s0
    go_simp
   try simp only [Act.put, lyt]
   refine tk 1 (.agg #[.int .i64 fd.kind, .string fd.ty, .int .u64 fd.bits, .int .u64 fd.imag, .string fd.text, .slice na' fd.names.length nc', .slice pa' fd.parts.length pc', .int .i64 fd.hook]) rfl (by kernel_rfl) (fun _ _ _ h => h) (by rfl) (by assumption) ?_ ?_
   ·intro w5 s0
    obtain ⟨q0, q1, q2, q3, q4, q5, q6, q7⟩ := s0
    simp only [Nat.zero_add] at q0 q1 q2 q3 q4 q5 q6 q7
    go_simp
   try simp only [Act.put, lyt]
   refine rd1 2 (by kernel_rfl) rfl fun K1 hK1 => ?_
   go_simp
   refine hK1.out _ _ s5 (fun _ => ?_)
   clear hK1
   try simp only [Act.put, lyt]
   refine rd1 3 (by kernel_rfl) rfl fun K2 hK2 => ?_
   go_simp
   refine hK2.out _ _ g9 (fun _ => ?_)
   clear hK2
   try simp only [Act.put, lyt]
   refine wpAnyH_done (by kernel_rfl) ?_ _
   clear hS g9
   go_wp2
   obtain ⟨r0, r1, r2, r3, r4, r5, r6, r7⟩ := set8 z0 z1 z2 z3 z4 z5 z6 z7 (.int .i64 fd.kind) (.string fd.ty) (.int .u64 fd.bits) (.int .u64 fd.imag) (.string fd.text) (.slice na' fd.names.length nc') (.slice pa' fd.parts.length pc') (.int .i64 fd.hook)
   refine bodyPost_ret (v := .tuple #[.iface t x, .agg #[.int .i64 fd.kind, .string fd.ty, .int .u64 fd.bits, .int .u64 fd.imag, .string fd.text, .slice na' fd.names.length nc', .slice pa' fd.parts.length pc', .int .i64 fd.hook]]) (by simp [results, Tryz.results9, go_sem, r0, r1, r2, r3, r4, r5, r6, r7]) rfl ?_
   refine ⟨set8_below bY (by omega), .inl ⟨HO.out, t, x, .slice na' fd.names.length nc', .slice pa' fd.parts.length pc', by rw [HFD.out], ?_, ?_⟩⟩
   ·rw [HM.out]
    exact hvY.turn fun b hb hl => ⟨hb, fun o => set8_other (by omega) o⟩
   ·rw [HM.out, HFD.out]
    exact hrY.turn fun b hb hl => ⟨hb, fun o => set8_other (by omega) o⟩
  ·have HO : Hid (¬ okB d) := fun h => hz h.2
   obtain ⟨q, hq⟩ : ∃ q, bErr d = q := ⟨_, rfl⟩
   rw [hq] at hbu hz
   have hqb : (q == 0) = false := by simpa using hz
   replace hbu := hbu.mono fun e w' h => (⟨h.1, h.2.elim (fun q => absurd q.1 hz) (fun q => q.2)⟩ : _ ∧ _)
   go_upto_region 4 with (go_at_call 20; refine hbu.mono ?_; rintro e W3 ⟨b3, rfl⟩)
   have bW3 : Below w.heap.size w W3 := bW2.trans (b3.mono bW2.size)
   have hob := obuild_any m d _ _ W3 (hr.up bW3)
   rw [hq] at hob
   replace hob := hob.mono fun e w' h => (⟨h.1, h.2.elim (fun q => absurd q.1 hz) (fun q => q.2)⟩ : _ ∧ _)
   obtain ⟨c0, c1, c2, c3, c4, c5, c6, c7⟩ := (a1.up b2).up b3
   simp only [Nat.zero_add] at c0 c1 c2 c3 c4 c5 c6 c7
   have hd0 : DV d00 (.slice none 0 0) (.slice none 0 0) = .agg #[.int .i64 0, .string ⟨#[]⟩, .int .u64 0, .int .u64 0, .string ⟨#[]⟩, .slice none 0 0, .slice none 0 0, .int .i64 0] := rfl
   rw [hd0] at hob
   clear hd0 hq
   go_upto_region 5 with (go_at_call 23; refine hob.mono ?_; rintro e W4 ⟨b4, rfl⟩; obtain ⟨W5, hW5⟩ : ∃ W5, W5 = W4.alloc (.cells #[.int .i64 0, .string ⟨#[]⟩, .int .u64 0, .int .u64 0, .string ⟨#[]⟩, .slice none 0 0, .slice none 0 0, .int .i64 0] 26) := ⟨_, rfl⟩)
   rw [← hW5]
   have b5 : Below W4.heap.size W4 W5 := by rw [hW5]; exact (Below.refl _ _).alloc (Nat.le_refl _) _
   have x5 : At8 W5 W4.heap.size 0 d00 (.slice none 0 0) (.slice none 0 0) := by
    rw [hW5]
    refine ⟨?_, ?_, ?_, ?_, ?_, ?_, ?_, ?_⟩
    all_goals simp [go_sem, d00]
   obtain ⟨XB, hXB⟩ : ∃ XB, W4.heap.size = XB := ⟨_, rfl⟩
   obtain ⟨Yd, hYd⟩ : ∃ Yd, Yd = W5 := ⟨_, rfl⟩
   have b35 : Below W3.heap.size W3 Yd := by rw [hYd]; exact (b4.trans (b5.mono b4.size))
   have bY : Below w.heap.size w Yd := bW3.trans (b35.mono bW3.size)
   have zY : Zero8 Yd (w.heap.size + 1) := ((zz1.up b2).up b3).up b35
   have hXs : w.heap.size + 1 < XB := by have h1 := b3.size; have h2 := b4.size; omega
   try simp only [hXB]
   try rw [← hYd]
   clear hYd
   clear hW5 hbu hob hbig a1 c0 c1 c2 c3 c4 c5 c6 c7 x5 hr hr0 b35 bW3 bW2 b1 b2 b3 b4 b5 zz1 hXB hs1 hs2
   obtain ⟨⟨z0, z1, z2, z3, z4, z5, z6, z7⟩, zf⟩ := zY
   have y0 := zf 0
   have y1 := zf 1
   have y2 := zf 2
   have y3 := zf 3
   have y4 := zf 4
   have y5 := zf 5
   have y6 := zf 6
   have y7 := zf 7
   have hbd : ∀ w, (Instr.build 26 #[]).run Tryz.prog w = .ok (.agg #[.int .i64 0, .string ⟨#[]⟩, .int .u64 0, .int .u64 0, .string ⟨#[]⟩, .slice none 0 0, .slice none 0 0, .int .i64 0]) w := fun w => by kernel_rfl
   go_wp2
   obtain ⟨r0, r1, r2, r3, r4, r5, r6, r7⟩ := set8 z0 z1 z2 z3 z4 z5 z6 z7 (.int .i64 0) (.string ⟨#[]⟩) (.int .u64 0) (.int .u64 0) (.string ⟨#[]⟩) (.slice none 0 0) (.slice none 0 0) (.int .i64 0)
   refine bodyPost_ret (v := .tuple #[.nilIface, .agg #[.int .i64 0, .string ⟨#[]⟩, .int .u64 0, .int .u64 0, .string ⟨#[]⟩, .slice none 0 0, .slice none 0 0, .int .i64 0]]) (by simp [results, Tryz.results9, go_sem, r0, r1, r2, r3, r4, r5, r6, r7]) rfl ?_
   exact ⟨set8_below bY (by omega), .inr ⟨HO.out, rfl⟩⟩
end Go.Proofs.YtlgieoabellbmaaGreatDoor
