/- VBig, VDocS, VDocE, VLaw8: these texts in one. -/
import Derived.Test.YtlgieoabellbmaaGreatDoorVCheck
import Derived.Deep.DeepCutAuto
import Derived.Deep.CutBlock
import Derived.Test.YtlgieoabellbmaaGreatDoorVDocB
import Derived.Test.YtlgieoabellbmaaGreatDoorPt10
namespace Go.Proofs.YtlgieoabellbmaaGreatDoor
open Go.RowKit
set_option linter.unusedVariables false
set_option linter.unusedSimpArgs false
def nAll : D → Nat
 | ⟨kind, ty, bits, imag, text, names, parts, hook⟩ => 1 + (parts.map fun x => nAll x).sum
def nRow (l : List D) : Nat := (l.map nAll).sum
theorem nAll_eq (d : D) : nAll d = 1 + nRow d.parts := by
 obtain ⟨kind, ty, bits, imag, text, names, parts, hook⟩ := d
 rw [nAll]; rfl
theorem nRow_take (l : List D) (j : Nat) (x : D) (h : l[j]? = some x) : nRow (l.take (j + 1)) = nRow (l.take j) + nAll x := by
 unfold nRow
 rw [List.take_add_one, h]
 simp
theorem nRow_le (l : List D) (j : Nat) : nRow (l.take j) ≤ nRow l := by
 have e : l = l.take j ++ l.drop j := (List.take_append_drop _ _).symm
 conv => rhs; rw [e]
 unfold nRow
 rw [List.map_append, List.sum_append]
 omega
set_option maxRecDepth 1000000 in
set_option maxHeartbeats 4000000 in
theorem left_any : ∀ (n : Nat) (d : D) (nv pv : Value) (b : Int) (w : World), RdC n w nv pv d → 1 ≤ b → b ≤ 400 →
  Calls Tryz.prog 33 #[DV d nv pv, .int .i64 b] w fun e w' => e = .returned (.int .i64 (max 0 (b - nAll d))) ∧ Below w.heap.size w w' := by
 intro n
 induction n with
 | zero => intro d nv pv b w h; exact h.elim
 | succ n ih =>
   intro d nv pv b w hr hb1 hb2
   obtain ⟨na, nc, pa, pc, rfl, rfl⟩ := hr.slices
   obtain ⟨-, -, a, cap, hsl, hl1, hl2, hcell⟩ := hr
   obtain ⟨rfl, -, rfl⟩ := Value.slice.inj hsl
   unfold maxLen at hl2
   have HA : Hid (nAll d = 1 + nRow d.parts) := nAll_eq d
   obtain ⟨W1, hW1⟩ : ∃ W1, W1 = w.alloc (.cells #[.int .i64 d.kind, .string d.ty, .int .u64 d.bits, .int .u64 d.imag, .string d.text, .slice na d.names.length nc, .slice pa d.parts.length pc, .int .i64 d.hook] 26) := ⟨_, rfl⟩
   have hbe1 : Below w.heap.size w W1 := by rw [hW1]; exact (Below.refl _ _).alloc (Nat.le_refl _) _
   go_enter Tryz.func33, Tryz.ntmps33
   go_wp2
   rw [← hW1]
   clear hW1
   go_loopg [1, 6, 12] d.parts.length (fun gg bv z i wr => ∃ (j : Nat) (c : Int), bv = .int .i64 c ∧ i = .int .i64 j ∧ j + gg = d.parts.length ∧ Below w.heap.size w wr ∧ 0 ≤ c ∧ c ≤ 400 ∧ Hid (c = max 0 (b - 1 - nRow (d.parts.take j))))
   case atStart => exact ⟨0, b - 1, rfl, rfl, Nat.zero_add _, hbe1, by omega, by omega, by show _ = _; simp [nRow]; omega⟩
   case round =>
    obtain ⟨j, c, rfl, rfl, hjg, hbl, hc0, hc4, HC⟩ := hrel
    by_cases hlt : j < d.parts.length
    ·have hltI : (j : Int) < d.parts.length := by omega
     obtain ⟨x, hx⟩ : ∃ x, d.parts[j]? = some x := ⟨d.parts[j], List.getElem?_eq_getElem hlt⟩
     obtain ⟨bb, off, nv', pv', rfl, h8, hr'⟩ := hcell j x hx
     obtain ⟨na', nc', pa', pc', rfl, rfl⟩ := hr'.slices
     obtain ⟨c0, c1, c2, c3, c4, c5, c6, c7⟩ := h8.up hbl
     have HN : Hid (nRow (d.parts.take (j + 1)) = nRow (d.parts.take j) + nAll x) := nRow_take _ j x hx
     have HL : Hid (nRow (d.parts.take j) ≤ nRow d.parts) := nRow_le _ j
     have hsz := hbl.size
     obtain ⟨Y2, hY2⟩ : ∃ Y2, Y2 = wr.alloc (.cells #[.int .i64 x.kind, .string x.ty, .int .u64 x.bits, .int .u64 x.imag, .string x.text, .slice na' x.names.length nc', .slice pa' x.parts.length pc', .int .i64 x.hook] 26) := ⟨_, rfl⟩
     have hbY : Below w.heap.size w Y2 := by rw [hY2]; exact hbl.alloc hsz _
     by_cases hpos : c ≤ 0
     ·have HF : Hid (max 0 (b - nAll d) = 0) := by
       have h1 := HC.out; have h2 := HL.out; have h3 := HA.out
       show _ = _
       omega
      clear hcell h8 hr' ih
      go_wp2
      go_ret
      rw [HF.out, ← hY2]
      exact ⟨rfl, hbY⟩
     ·have hrec := ih x _ _ c Y2 (hr'.up hbY) (by omega) hc4
      have HC2 : Hid (max 0 (c - nAll x) = max 0 (b - 1 - nRow (d.parts.take (j + 1)))) := by
       have h1 := HC.out; have h2 := HN.out
       show _ = _
       omega
      obtain ⟨m, hm, hm0, hm4⟩ : ∃ m : Int, max 0 (c - nAll x) = m ∧ 0 ≤ m ∧ m ≤ 400 := ⟨_, rfl, by omega, by omega⟩
      rw [hm] at hrec HC2
      clear hcell h8 hr' ih hm
      go_wp2_with fail
      rw [← hY2]
      refine hrec.mono ?_
      rintro e Z ⟨rfl, hbZ⟩
      have hbw : Below w.heap.size w Z := hbY.trans (hbZ.mono hbY.size)
      clear hrec c0 c1 c2 c3 c4 c5 c6 c7 HC
      go_wp2
      go_roundg (gk - 1)
      case measure => omega
      case rel => exact ⟨j + 1, m, rfl, by go_num, by omega, hbw, hm0, hm4, HC2⟩
    ·have hltI : ¬ (j : Int) < d.parts.length := by omega
     have HF : Hid (max 0 (b - nAll d) = c) := by
      have h1 := HC.out; have h3 := HA.out
      rw [List.take_of_length_le (by omega)] at h1
      show _ = _
      omega
     clear hcell ih
     go_wp2
     go_ret
     rw [HF.out]
     exact ⟨rfl, hbl⟩
set_option maxRecDepth 1000000 in
theorem big_any (n : Nat) (d : D) (nv pv : Value) (w : World) (hr : RdC n w nv pv d) :
  Calls Tryz.prog 22 #[DV d nv pv] w fun e w' => e = .returned (.bool (decide (400 ≤ nAll d))) ∧ Below w.heap.size w w' := by
 obtain ⟨na, nc, pa, pc, rfl, rfl⟩ := hr.slices
 obtain ⟨W1, hW1⟩ : ∃ W1, W1 = w.alloc (.cells #[.int .i64 d.kind, .string d.ty, .int .u64 d.bits, .int .u64 d.imag, .string d.text, .slice na d.names.length nc, .slice pa d.parts.length pc, .int .i64 d.hook] 26) := ⟨_, rfl⟩
 have hb1 : Below w.heap.size w W1 := by rw [hW1]; exact (Below.refl _ _).alloc (Nat.le_refl _) _
 have hl := left_any n d _ _ 400 W1 (hr.up hb1) (by omega) (by omega)
 clear hr
 by_cases hn : 400 ≤ nAll d
 ·have e : max 0 (400 - (nAll d : Int)) = 0 := by omega
  rw [e] at hl
  go_enter Tryz.func22, Tryz.ntmps22
  go_wp2_with fail
  rw [← hW1]
  refine hl.mono ?_
  rintro e V ⟨rfl, hV⟩
  go_wp2
  go_ret
  exact ⟨by simp [hn], hb1.trans (hV.mono hb1.size)⟩
 ·obtain ⟨m, hm, hm0⟩ : ∃ m : Int, max 0 (400 - (nAll d : Int)) = m ∧ 0 < m := ⟨_, rfl, by omega⟩
  rw [hm] at hl
  have HE : Hid (decide (400 ≤ nAll d) = false) := by show _ = _; simp; omega
  clear hm hn
  go_enter Tryz.func22, Tryz.ntmps22
  go_wp2_with fail
  rw [← hW1]
  refine hl.mono ?_
  rintro e V ⟨rfl, hV⟩
  go_wp2
  go_ret
  rw [HE.out]
  refine ⟨?_, hb1.trans (hV.mono hb1.size)⟩
  first | rfl | simp <;> omega
end Go.Proofs.YtlgieoabellbmaaGreatDoor
namespace Go.Proofs.YtlgieoabellbmaaGreatDoor
open Go.RowKit
set_option linter.unusedVariables false
set_option linter.unusedSimpArgs false
theorem nAll_pos (d : D) : 1 ≤ nAll d := by rw [nAll_eq]; omega
theorem nAll_part {d x : D} {j : Nat} (h : d.parts[j]? = some x) : nRow (d.parts.take j) + nAll x + 1 ≤ nAll d := by
 have h1 := nRow_take _ j x h
 have h2 := nRow_le d.parts (j + 1)
 have h3 := nAll_eq d
 omega
def dpF : D → Nat
 | ⟨kind, ty, bits, imag, text, names, parts, hook⟩ => 1 + (parts.map fun x => dpF x).foldl max 0
def dpR (l : List D) : Nat := (l.map dpF).foldl max 0
theorem dpF_eq (d : D) : dpF d = 1 + dpR d.parts := by
 obtain ⟨kind, ty, bits, imag, text, names, parts, hook⟩ := d
 rw [dpF]; rfl
theorem dpR_take (l : List D) (j : Nat) (x : D) (h : l[j]? = some x) : dpR (l.take (j + 1)) = max (dpR (l.take j)) (dpF x) := by
 unfold dpR
 rw [List.take_add_one, h]
 simp [List.foldl_append]
theorem dp_le {W : World} : ∀ (n : Nat) (nv pv : Value) (d : D), RdC n W nv pv d → dpF d ≤ n
 | 0, _, _, _, h => h.elim
 | n + 1, nv, pv, d, h => by
   obtain ⟨-, -, a, cap, -, -, -, h6⟩ := h
   rw [dpF_eq]
   have : ∀ j, j ≤ d.parts.length → dpR (d.parts.take j) ≤ n := by
    intro j
    induction j with
    | zero => intro _; simp [dpR]
    | succ j ih =>
      intro hj
      obtain ⟨x, hx⟩ : ∃ x, d.parts[j]? = some x := ⟨d.parts[j], List.getElem?_eq_getElem (by omega)⟩
      obtain ⟨b, off, nv', pv', -, -, hr⟩ := h6 j x hx
      have h1 := dp_le n nv' pv' x hr
      have h2 := ih (by omega)
      rw [dpR_take _ j x hx]
      omega
   have h9 := this d.parts.length (Nat.le_refl _)
   rw [List.take_length] at h9
   omega
end Go.Proofs.YtlgieoabellbmaaGreatDoor
namespace Go.Proofs.YtlgieoabellbmaaGreatDoor
open Go.RowKit
set_option linter.unusedVariables false
set_option linter.unusedSimpArgs false
end Go.Proofs.YtlgieoabellbmaaGreatDoor
namespace Go.Proofs.YtlgieoabellbmaaGreatDoor
open Go.RowKit
set_option linter.unusedVariables false
set_option linter.unusedSimpArgs false
theorem rd_nAll : ∀ (n : Nat) {W : World} {nv pv : Value} {d : D}, RdC n W nv pv d → RdC (nAll d) W nv pv d
 | 0, _, _, _, _, h => h.elim
 | n + 1, W, nv, pv, d, h => by
   obtain ⟨h1, h2, a, cap, h3, h4, h5, h6⟩ := h
   rw [show nAll d = nRow d.parts + 1 by rw [nAll_eq]; omega]
   refine ⟨h1, h2, a, cap, h3, h4, h5, fun i x hx => ?_⟩
   obtain ⟨b, off, nv', pv', e1, e2, e3⟩ := h6 i x hx
   have := nAll_part hx
   have e := nAll_eq d
   exact ⟨b, off, nv', pv', e1, e2, (rd_nAll n e3).more (by omega)⟩
theorem good_of {n : Nat} {W : World} {nv pv : Value} {d : D} (hr : RdC n W nv pv d) (h0 : bErr d = 0) : Good8 d ∧ dupA d = false := by
 obtain ⟨h1, h2⟩ := (bErr_zero d).1 h0
 have hok := ok_of h1
 exact ⟨fun y hy => ⟨nodes_fit n d y _ _ W hr hy, (hok.kind y hy).1, (hok.kind y hy).2, hok.form y hy, fun hg => Nat.le_trans (hok.parts hy hg) (by omega)⟩, h2⟩
set_option maxRecDepth 1000000 in
set_option maxHeartbeats 1000000 in
theorem vraw_any (n : Nat) (d : D) (hg : Good8 d) (S : Nat → Prop) (w : World) (v : Value) (hv : VlC srt n S w v d) :
  Calls Tryz.prog 80 #[v] w fun e w' => Below w.heap.size w w' ∧ ∃ nv pv, e = .returned (DV (inF d) nv pv) ∧ RdS n (fun b => w.heap.size ≤ b) w' nv pv (inF d) := by
 obtain ⟨W1, hW1⟩ : ∃ W1, W1 = w.alloc (.cells #[.int .i64 0, .string ⟨#[]⟩, .int .u64 0, .int .u64 0, .string ⟨#[]⟩, .slice none 0 0, .slice none 0 0, .int .i64 0] 26) := ⟨_, rfl⟩
 have hb1 : Below w.heap.size w W1 := by rw [hW1]; exact (Below.refl _ _).alloc (Nat.le_refl _) _
 have zz1 : Zero8 W1 w.heap.size := by
  rw [hW1]
  refine ⟨by simp, fun i => ?_⟩
  rw [frozen?_alloc_cells]; exact frozen_none _ _ (Nat.le_refl _)
 have hm := raw_any n d hg S W1 v (hv.turn (Kept.below hb1 fun b hb _ => hb))
 go_enter Tryz.func80, Tryz.ntmps80
 go_wp2_with fail
 rw [← hW1]
 refine hm.mono ?_
 rintro e V ⟨hV, nv, pv, rfl, hrd⟩
 obtain ⟨na', nc', pa', pc', rfl, rfl⟩ := hrd.slices
 have hlt : w.heap.size < W1.heap.size := lt_of_cell zz1.1.1
 obtain ⟨⟨z0, z1, z2, z3, z4, z5, z6, z7⟩, zf⟩ := zz1.up hV
 have y0 := zf 0
 have y1 := zf 1
 have y2 := zf 2
 have y3 := zf 3
 have y4 := zf 4
 have y5 := zf 5
 have y6 := zf 6
 have y7 := zf 7
 have hbV : Below w.heap.size w V := hb1.trans (hV.mono hb1.size)
 clear hm hW1 hb1
 go_wp2
 obtain ⟨r0, r1, r2, r3, r4, r5, r6, r7⟩ := set8 z0 z1 z2 z3 z4 z5 z6 z7 (.int .i64 (inF d).kind) (.string (inF d).ty) (.int .u64 (inF d).bits) (.int .u64 (inF d).imag) (.string (inF d).text) (.slice na' (inF d).names.length nc') (.slice pa' (inF d).parts.length pc') (.int .i64 (inF d).hook)
 refine bodyPost_ret (v := DV (inF d) (.slice na' (inF d).names.length nc') (.slice pa' (inF d).parts.length pc')) (by simp [results, Tryz.results80, go_sem, r0, r1, r2, r3, r4, r5, r6, r7]) rfl ?_
 refine ⟨set8_below hbV (Nat.le_refl _), _, _, rfl, hrd.turn fun b hb hl => ⟨?_, fun o => set8_other ?_ o⟩⟩
 ·have h2 : W1.heap.size ≤ b := hb; omega
 ·have h2 : W1.heap.size ≤ b := hb; omega
end Go.Proofs.YtlgieoabellbmaaGreatDoor
