/- tree: the law TreeOuter's walk. -/
import Derived.Test.YtlgieoabellbmaaGreatDoorPt21
namespace Go.Proofs.YtlgieoabellbmaaGreatDoor
open Go.RowKit
set_option linter.unusedVariables false
set_option linter.unusedSimpArgs false
theorem parts_few (d : D) (h : GoodN d) : (inF d).parts.length ≤ 1000 := by
 have hf := h.few
 rw [inF_eq]
 by_cases h0 : d.kind = 0
 ·rw [if_pos h0]; decide
 ·rw [if_neg h0]
  show (if d.kind = 21 then flat2 (srt (d.parts.map inF)) else if great d.kind then d.parts.map inF else []).length ≤ 1000
  by_cases h1 : d.kind = 21
  ·rw [if_pos h1, flat2_len, srt_len, List.length_map]
   have := hf (by rw [h1]; rfl)
   omega
  ·rw [if_neg h1]
   by_cases hg : great d.kind = true
   ·rw [if_pos hg, List.length_map]; exact hf hg
   ·rw [if_neg hg]; exact Nat.zero_le _
set_option maxRecDepth 1000000 in
set_option maxHeartbeats 4000000 in
theorem treeOuter_walk (d : D) (n : Nat) (nv pv : Value) (f : Sq) (T : ByteArray) (w : World) (hK : KN w) (hE : Esc w) (hr : RdC n w nv pv d) :
  Calls Tryz.prog 5 #[DV d nv pv, SV f, .string T] w fun e w' => e = .returned (.bool true) ∧ Below w.heap.size w w' := by
 obtain ⟨na, nc, pa, pc, rfl, rfl⟩ := hr.slices
 obtain ⟨W1, hW1⟩ : ∃ W1, W1 = ((w.alloc (.cells #[.int .i64 d.kind, .string d.ty, .int .u64 d.bits, .int .u64 d.imag, .string d.text, .slice na d.names.length nc, .slice pa d.parts.length pc, .int .i64 d.hook] 26)).alloc (.cells #[.bool f.p, .bool f.mi, .bool f.sh, .bool f.sp, .bool f.z, .int .i64 f.wid, .int .i64 f.prec, .int .i32 f.verb] 33)).alloc (.cells #[.string T] 9) := ⟨_, rfl⟩
 have b1 : Below w.heap.size w W1 := by rw [hW1]; exact (((Below.refl _ _).alloc (Nat.le_refl _) _).alloc (by simp) _).alloc (by simp; omega) _
 have a1 : At8 W1 w.heap.size 0 d (.slice na d.names.length nc) (.slice pa d.parts.length pc) := by
  rw [hW1]
  refine ⟨?_, ?_, ?_, ?_, ?_, ?_, ?_, ?_⟩
  all_goals simp [go_sem]
 have q1 : W1.cell? ⟨w.heap.size + 1, 0, none⟩ = some (.bool f.p) ∧ W1.cell? ⟨w.heap.size + 1, 1, none⟩ = some (.bool f.mi) ∧ W1.cell? ⟨w.heap.size + 1, 2, none⟩ = some (.bool f.sh) ∧ W1.cell? ⟨w.heap.size + 1, 3, none⟩ = some (.bool f.sp) ∧ W1.cell? ⟨w.heap.size + 1, 4, none⟩ = some (.bool f.z) ∧ W1.cell? ⟨w.heap.size + 1, 5, none⟩ = some (.int .i64 f.wid) ∧ W1.cell? ⟨w.heap.size + 1, 6, none⟩ = some (.int .i64 f.prec) ∧ W1.cell? ⟨w.heap.size + 1, 7, none⟩ = some (.int .i32 f.verb) := by
  rw [hW1]
  refine ⟨?_, ?_, ?_, ?_, ?_, ?_, ?_, ?_⟩
  all_goals simp [go_sem]
 have t1 : W1.cell? ⟨w.heap.size + 1 + 1, 0, none⟩ = some (.string T) := by rw [hW1]; simp [go_sem]
 have hA := built12_any d n _ _ W1 (hr.up b1)
 obtain ⟨c0, c1, c2, c3, c4, c5, c6, c7⟩ := a1
 simp only [Nat.zero_add] at c0 c1 c2 c3 c4 c5 c6 c7
 go_enter Tryz.func5, Tryz.ntmps5
 go_upto_region 1 with fail
 rw [← hW1]
 clear hW1
 by_cases HO : okB d
 ·replace hA := hA.mono fun e w' h => (⟨h.1, h.2.elim (fun q => q.2) (fun q => absurd HO q.1)⟩ : _ ∧ _)
  go_upto_region 2 with (go_at_call 9; refine hA.mono ?_; rintro e W2 ⟨b2, t2, x2, nv2, pv2, rfl, hv2, hd2⟩; obtain ⟨na2, nc2, pa2, pc2, rfl, rfl⟩ := hd2.slices; obtain ⟨W3, hW3⟩ : ∃ W3, W3 = W2.alloc (.cells #[.int .i64 (inF d).kind, .string (inF d).ty, .int .u64 (inF d).bits, .int .u64 (inF d).imag, .string (inF d).text, .slice na2 (inF d).names.length nc2, .slice pa2 (inF d).parts.length pc2, .int .i64 (inF d).hook] 26) := ⟨_, rfl⟩)
  rw [← hW3]
  have b3 : Below W2.heap.size W2 W3 := by rw [hW3]; exact (Below.refl _ _).alloc (Nat.le_refl _) _
  have b13 : Below W1.heap.size W1 W3 := b2.trans (b3.mono b2.size)
  have bW3 : Below w.heap.size w W3 := b1.trans (b13.mono b1.size)
  have x3 : W3.cell? ⟨W2.heap.size, 0, none⟩ = some (.int .i64 (inF d).kind) := by rw [hW3]; simp [go_sem]
  have hg8 := (good_of (rd_nAll n hr) HO.2).1
  have h0 : 0 ≤ (inF d).kind := by rw [inF_kind]; exact hg8.self.lo
  have h22 : (inF d).kind ≤ 22 := by rw [inF_kind]; exact hg8.self.hi
  have hbits : 0 ≤ (inF d).bits := by
   obtain ⟨m, hm⟩ : ∃ m, nAll d = m + 1 := ⟨nAll d - 1, by have := nAll_pos d; omega⟩
   rw [hm] at hd2
   exact hd2.1.2.1.1
  have hSh : ¬ (inF d).kind = 0 → ∀ W, Below W3.heap.size W3 W → Calls Tryz.prog 42 #[.iface t2 x2] W fun e W' => Below W.heap.size W W' ∧ ∃ t x, e = .returned (.iface t x) := by
   intro hk W hW
   refine (shapeOf_any _ d hg8 _ W _ (hv2.turn (S' := fun _ => True) (Kept.below (b3.trans (hW.mono b3.size)) fun _ _ _ => trivial)) h0 h22 hbits (parts_few d hg8.self)).mono ?_
   rintro e W' ⟨b, na, nc, pa, pc, rfl, -⟩
   obtain ⟨t, x, hx⟩ := shV_some (d := inF d) (nv := .slice na (inF d).names.length nc) (pv := .slice pa (inF d).parts.length pc) (by omega) h22
   exact ⟨b, t, x, by rw [hx]⟩
  obtain ⟨X1, hX1⟩ : ∃ X1, W2.heap.size = X1 := ⟨_, rfl⟩
  rw [hX1] at x3
  try simp only [hX1]
  have p0 := up_cell b13 q1.1
  have p1 := up_cell b13 q1.2.1
  have p2 := up_cell b13 q1.2.2.1
  have p3 := up_cell b13 q1.2.2.2.1
  have p4 := up_cell b13 q1.2.2.2.2.1
  have p5 := up_cell b13 q1.2.2.2.2.2.1
  have p6 := up_cell b13 q1.2.2.2.2.2.2.1
  have p7 := up_cell b13 q1.2.2.2.2.2.2.2
  have t3 := up_cell b13 t1
  have hs3 : w.heap.size + 1 + 1 < W3.heap.size := lt_of_cell t3
  clear hW3 hA HO hX1 hv2 hd2 hg8 hr c0 c1 c2 c3 c4 c5 c6 c7 b2 b3 b13 q1 t1 h0 h22 hbits
  generalize (inF d).kind = kk at *
  generalize inF d = fd at *
  have hL := fun (W : World) (hW : Below w.heap.size w W) => lives12_any W (hE.below hW) (hK.up hW)
  by_cases hk : kk = 0
  ·subst hk
   clear hSh
   go_wp2_with (go_at_call 15; refine (hL _ bW3).mono ?_; rintro e W6 ⟨rfl, b6⟩)
   go_ret
   exact ⟨rfl, bW3.trans (b6.mono bW3.size)⟩
  ·replace hSh := hSh hk
   by_cases hv : f.verb = 84
   ·clear hSh
    go_wp2_with (go_at_call 15; refine (hL _ bW3).mono ?_; rintro e W6 ⟨rfl, b6⟩)
    go_ret
    exact ⟨rfl, bW3.trans (b6.mono bW3.size)⟩
   ·have hkb : (kk == 0) = false := by simpa using hk
    have hvb : (f.verb == 84) = false := by simpa using hv
    obtain ⟨W4, hW4⟩ : ∃ W4, W4 = W3.alloc (.cells #[.int .i64 0] 3) := ⟨_, rfl⟩
    have b4 : Below W3.heap.size W3 W4 := by rw [hW4]; exact (Below.refl _ _).alloc (Nat.le_refl _) _
    have c4 : W4.cell? ⟨W3.heap.size, 0, none⟩ = some (.int .i64 0) := by rw [hW4]; simp [go_sem]
    have f4 : W4.frozen? ⟨W3.heap.size, 0, none⟩ = false := by rw [hW4, frozen?_alloc_cells]; exact frozen_none _ _ (Nat.le_refl _)
    have t4 := up_cell b4 t3
    have u0 := up_cell b4 p0
    have u1 := up_cell b4 p1
    have u2 := up_cell b4 p2
    have u3 := up_cell b4 p3
    have u4 := up_cell b4 p4
    have u5 := up_cell b4 p5
    have u6 := up_cell b4 p6
    have u7 := up_cell b4 p7
    have z4 : W3.heap.size < W4.heap.size := lt_of_cell c4
    have hSo := show_out f hv (.iface t2 x2) W3.heap.size (w.heap.size + 1 + 1) T W4 (by omega) c4 f4 t4 fun W hW => hSh W (b4.trans (hW.mono b4.size))
    have hmf : ∀ (fn : Fn) (first cap : Array Value) (w : World), (Instr.makeFunc fn first cap).run Tryz.prog w = .ok (.func fn first cap) w := fun _ _ _ _ => rfl
    have hw3 := bW3.size
    clear hSh
    go_upto_region 5 with fail
    rw [← hW4]
    clear hW4
    clear p0 p1 p2 p3 p4 p5 p6 p7 x3 t3 c4 f4
    go_upto_region 6 with (go_at_call 10; refine hSo.mono ?_; rintro e W5 ⟨rfl, r5, k5⟩)
    have t5 : W5.cell? ⟨w.heap.size + 1 + 1, 0, none⟩ = some (.string T) := (r5.2 _ (by dsimp only; omega) (by dsimp only; omega)).trans t4
    have b45 : Below w.heap.size w W4 := bW3.trans (b4.mono hw3)
    have b5 : Below w.heap.size w W5 := b45.trans (r5.1.mono hw3)
    have hL5 := hL W5 b5
    clear hL hSo t4 r5
    go_wp2_with (go_at_call 15; refine hL5.mono ?_; rintro e W6 ⟨rfl, b6⟩)
    go_ret
    exact ⟨rfl, b5.trans (b6.mono b5.size)⟩
 ·replace hA := hA.mono fun e w' h => (⟨h.1, h.2.elim (fun q => absurd q.1 HO) (fun q => q.2)⟩ : _ ∧ _)
  go_upto_region 2 with (go_at_call 9; refine hA.mono ?_; rintro e W2 ⟨b2, rfl⟩; obtain ⟨W3, hW3⟩ : ∃ W3, W3 = W2.alloc (.cells #[.int .i64 0, .string ⟨#[]⟩, .int .u64 0, .int .u64 0, .string ⟨#[]⟩, .slice none 0 0, .slice none 0 0, .int .i64 0] 26) := ⟨_, rfl⟩)
  rw [← hW3]
  have b3 : Below W2.heap.size W2 W3 := by rw [hW3]; exact (Below.refl _ _).alloc (Nat.le_refl _) _
  have bW3 : Below w.heap.size w W3 := (b1.trans (b2.mono b1.size)).trans (b3.mono (Nat.le_trans b1.size b2.size))
  have x3 : W3.cell? ⟨W2.heap.size, 0, none⟩ = some (.int .i64 0) := by rw [hW3]; simp [go_sem]
  have hL := lives12_any W3 (hE.below bW3) (hK.up bW3)
  clear hW3 hA HO
  go_wp2_with (go_at_call 15; refine hL.mono ?_; rintro e W6 ⟨rfl, b6⟩)
  go_ret
  exact ⟨rfl, bW3.trans (b6.mono bW3.size)⟩
end Go.Proofs.YtlgieoabellbmaaGreatDoor
