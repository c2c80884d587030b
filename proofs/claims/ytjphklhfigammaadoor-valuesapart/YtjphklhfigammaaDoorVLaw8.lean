/- What the laws of layer 8 have in common: Raw at whatever value; both Builds of a descriptor that is handed in. -/
import Derived.Test.YtjphklhfigammaaDoorVDocB
import Derived.Test.YtjphklhfigammaaDoorVLives
import Derived.Test.YtjphklhfigammaaDoorVDocE
import Derived.Test.YtjphklhfigammaaDoorVBig
import Derived.Test.YtjphklhfigammaaDoorVDocS
namespace Go.Proofs.YtjphklhfigammaaDoor
open Go.RowKit
set_option linter.unusedVariables false
set_option linter.unusedSimpArgs false

theorem rd_nAll : ∀ (n : Nat) {W : World} {nv pv : Value} {d : D}, RdC n W nv pv d → RdC (nAll d) W nv pv d
  | 0, _, _, _, _, h => h.elim
  | n + 1, W, nv, pv, d, h => by
    obtain ⟨h1, h2, a, cap, h3, h4, h5, h6⟩ := h
    rw [show nAll d = nRow d.parts + 1 by rw [nAll_eq]; omega]
    refine ⟨h1, h2, a, cap, h3, h4, h5, fun i x hx => ?_⟩
    obtain ⟨b, off, nv', pv', e1, e2, e3⟩ := h6 i x hx
    have := nAll_part hx
    have e := nAll_eq d
    exact ⟨b, off, nv', pv', e1, e2, (rd_nAll n e3).more (by omega)⟩
theorem good_of {n : Nat} {W : World} {nv pv : Value} {d : D} (hr : RdC n W nv pv d) (h0 : bErr d = 0) : Good8 d ∧ dupA d = false := by
  obtain ⟨h1, h2⟩ := (bErr_zero d).1 h0
  have hok := ok_of h1
  exact ⟨fun y hy => ⟨nodes_fit n d y _ _ W hr hy, (hok.kind y hy).1, (hok.kind y hy).2, hok.form y hy, fun hg => Nat.le_trans (hok.parts hy hg) (by omega)⟩, h2⟩
set_option maxRecDepth 1000000 in
set_option maxHeartbeats 1000000 in
/-- Raw at whatever value. -/
theorem vraw_any (n : Nat) (d : D) (hg : Good8 d) (S : Nat → Prop) (w : World) (v : Value) (hv : VlC srt n S w v d) :
    Calls Tryd.prog 9 #[v] w fun e w' => Below w.heap.size w w' ∧ ∃ nv pv, e = .returned (DV (inF d) nv pv) ∧ RdS n (fun b => w.heap.size ≤ b) w' nv pv (inF d) := by
  obtain ⟨W1, hW1⟩ : ∃ W1, W1 = w.alloc (.cells #[.int .i64 0, .string ⟨#[]⟩, .int .u64 0, .int .u64 0, .string ⟨#[]⟩, .slice none 0 0, .slice none 0 0, .int .i64 0] 26) := ⟨_, rfl⟩
  have hb1 : Below w.heap.size w W1 := by rw [hW1]; exact (Below.refl _ _).alloc (Nat.le_refl _) _
  have zz1 : Zero8 W1 w.heap.size := by
    rw [hW1]
    refine ⟨by simp, fun i => ?_⟩
    rw [frozen?_alloc_cells]; exact frozen_none _ _ (Nat.le_refl _)
  have hm := raw_any n d hg S W1 v (hv.turn (Kept.below hb1 fun b hb _ => hb))
  go_enter Tryd.func9, Tryd.ntmps9
  go_wp2_with fail
  rw [← hW1]
  refine hm.mono ?_
  rintro e V ⟨hV, nv, pv, rfl, hrd⟩
  obtain ⟨na', nc', pa', pc', rfl, rfl⟩ := hrd.slices
  have hlt : w.heap.size < W1.heap.size := lt_of_cell zz1.1.1
  obtain ⟨⟨z0, z1, z2, z3, z4, z5, z6, z7⟩, zf⟩ := zz1.up hV
  have y0 := zf 0
  have y1 := zf 1
  have y2 := zf 2
  have y3 := zf 3
  have y4 := zf 4
  have y5 := zf 5
  have y6 := zf 6
  have y7 := zf 7
  have hbV : Below w.heap.size w V := hb1.trans (hV.mono hb1.size)
  clear hm hW1 hb1
  go_wp2
  obtain ⟨r0, r1, r2, r3, r4, r5, r6, r7⟩ := set8 z0 z1 z2 z3 z4 z5 z6 z7 (.int .i64 (inF d).kind) (.string (inF d).ty) (.int .u64 (inF d).bits) (.int .u64 (inF d).imag) (.string (inF d).text) (.slice na' (inF d).names.length nc') (.slice pa' (inF d).parts.length pc') (.int .i64 (inF d).hook)
  refine bodyPost_ret (v := DV (inF d) (.slice na' (inF d).names.length nc') (.slice pa' (inF d).parts.length pc')) (by simp [results, Tryd.results9, go_sem, r0, r1, r2, r3, r4, r5, r6, r7]) rfl ?_
  refine ⟨set8_below hbV (Nat.le_refl _), _, _, rfl, hrd.turn fun b hb hl => ⟨?_, fun o => set8_cu ?_ o⟩⟩
  · have h2 : W1.heap.size ≤ b := hb; omega
  · have h2 : W1.heap.size ≤ b := hb; omega
end Go.Proofs.YtjphklhfigammaaDoor
