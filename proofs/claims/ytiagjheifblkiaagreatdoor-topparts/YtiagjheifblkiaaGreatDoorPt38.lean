/- URawP, UPair, UPairP, CMath, CWalkA, CWalkB, CWalkC, CTop, UPartA: these texts in one. -/
import Derived.Test.YtiagjheifblkiaaGreatDoorShelfQ
import Derived.Test.YtiagjheifblkiaaGreatDoorPt34
namespace Go.Proofs.YtiagjheifblkiaaGreatDoor
open Go.RowKit
set_option linter.unusedVariables false
set_option linter.unusedSimpArgs false
theorem gr_putV {w w' : World} {R o : Nat} (h : w.grownBy w' (some R)) (v : Value) : w.grownBy (w'.setCell ⟨R, o, none⟩ v) (some R) :=
 ⟨h.os, h.tape, h.output, by simpa [World.setCell] using h.size, fun k hk hne => by rw [Below.heap_setCell _ _ _ _ (fun e => hne (by rw [e]))]; exact h.block k hk hne⟩
theorem gr_belowV {w w' : World} (hb : Below w.heap.size w w') (row : Option Nat) : w.grownBy w' row := ⟨hb.os, hb.tape, hb.output, hb.size, fun k hk _ => hb.block k hk⟩
theorem Zero8.gr {W W' : World} {b X : Nat} (h : Zero8 W b) (hg : W.grownBy W' (some X)) (hne : b ≠ X) : Zero8 W' b := by
 obtain ⟨⟨h0, h1, h2, h3, h4, h5, h6, h7⟩, hf⟩ := h
 have hb : b < W.heap.size := lt_of_cell h0
 have hn : ∀ o : Nat, some (⟨b, o, none⟩ : Addr).block ≠ some X := fun _ e => hne (Option.some.inj e)
 exact ⟨⟨hg.cell h0 (hn 0), hg.cell h1 (hn 1), hg.cell h2 (hn 2), hg.cell h3 (hn 3), hg.cell h4 (hn 4), hg.cell h5 (hn 5), hg.cell h6 (hn 6), hg.cell h7 (hn 7)⟩, fun i => (hg.frozen_far ⟨b, i, none⟩ hb (hn i)).trans (hf i)⟩
set_option maxRecDepth 1000000 in
set_option maxHeartbeats 1000000 in
theorem partsof_pair (v : Value) (w : World) : Calls Tryz.prog 309 #[.iface 250 v] w fun e w' => e = .returned (.slice none 0 0) ∧ w' = w := by
 have h1 := ta_pair_structure
 have h2 := ta_pair_list
 have h3 := ta_pair_dictionary
 have h4 := ta_pair_pointer
 go_enter Tryz.func309, Tryz.ntmps309
 go_wp2
 go_ret
 exact ⟨rfl, rfl⟩
set_option maxRecDepth 1000000 in
set_option maxHeartbeats 4000000 in
theorem rawof_pair (k h : Int) (ty : ByteArray) (n m : Int) (w : World) : Calls Tryz.prog 263 #[.iface 250 (.agg #[.int .i64 k, .string ty, .int .i64 h, .int .u64 n, .int .u64 m])] w fun e w' => e = .returned (.agg #[.int .i64 k, .string ty, .int .u64 n, .int .u64 m, .string ⟨#[]⟩, .slice none 0 0, .slice none 0 0, .int .i64 h]) ∧ Below w.heap.size w w' := by
 have h0 := ta_pair_truth
 have h1 := ta_pair_signed
 have h2 := ta_pair_unsigned
 have h3 := ta_pair_float
 have h4 := ta_pair_pair
 have h5 := ta_pair_text
 have h6 := ta_pair_octets
 have h7 := ta_pair_structure
 have h8 := ta_pair_pointer
 have hm := fun W => markof_pair k h ty n m W
 have hp := fun v W => partsof_pair v W
 obtain ⟨W1, hW1⟩ : ∃ W1, W1 = w.alloc (.cells #[.int .i64 0, .string ⟨#[]⟩, .int .u64 0, .int .u64 0, .string ⟨#[]⟩, .slice none 0 0, .slice none 0 0, .int .i64 0] 29) := ⟨_, rfl⟩
 have hb1 : Below w.heap.size w W1 := by rw [hW1]; exact (Below.refl _ _).alloc (Nat.le_refl _) _
 have c0 : W1.cell? ⟨w.heap.size, 0, none⟩ = some (.int .i64 0) ∧ W1.cell? ⟨w.heap.size, 1, none⟩ = some (.string ⟨#[]⟩) ∧ W1.cell? ⟨w.heap.size, 2, none⟩ = some (.int .u64 0) ∧ W1.cell? ⟨w.heap.size, 3, none⟩ = some (.int .u64 0) ∧ W1.cell? ⟨w.heap.size, 4, none⟩ = some (.string ⟨#[]⟩) ∧ W1.cell? ⟨w.heap.size, 5, none⟩ = some (.slice none 0 0) ∧ W1.cell? ⟨w.heap.size, 6, none⟩ = some (.slice none 0 0) ∧ W1.cell? ⟨w.heap.size, 7, none⟩ = some (.int .i64 0) := by rw [hW1]; simp
 have fz : ∀ i, W1.frozen? ⟨w.heap.size, i, none⟩ = false := fun i => by rw [hW1, frozen?_alloc_cells]; exact frozen_none _ _ (Nat.le_refl _)
 have zW1 : Zero8 W1 w.heap.size := ⟨c0, fz⟩
 go_enter Tryz.func263, Tryz.ntmps263
 go_wp2_with fail
 rw [← hW1]
 refine (hm _).mono ?_
 rintro e V ⟨rfl, hV⟩
 have zV : Zero8 V w.heap.size := zW1.up hV
 have hzV : w.heap.size < V.heap.size := lt_of_cell zV.1.1
 have hbV : Below w.heap.size w V := hb1.trans (hV.mono hb1.size)
 clear hm c0 fz zW1 hW1 hb1 hV
 obtain ⟨W5, hW5⟩ : ∃ W5, W5 = ((V.alloc (.cells #[.int .i64 k, .string ty, .int .i64 h] 230)).alloc (.cells #[.int .i64 k, .string ty, .int .u64 0, .int .u64 0, .string ⟨#[]⟩, .slice none 0 0, .slice none 0 0, .int .i64 h] 29)).alloc (.cells #[.int .i64 k, .string ty, .int .i64 h, .int .u64 n, .int .u64 m] 250) := ⟨_, rfl⟩
 have b5 : Below V.heap.size V W5 := by rw [hW5]; exact (((Below.refl _ _).alloc (Nat.le_refl _) _).alloc (by simp) _).alloc (by simp; omega) _
 have a5 : At8 W5 (V.heap.size + 1) 0 ⟨k, ty, 0, 0, ⟨#[]⟩, [], [], h⟩ (.slice none 0 0) (.slice none 0 0) := by
  rw [hW5]
  refine ⟨?_, ?_, ?_, ?_, ?_, ?_, ?_, ?_⟩
  all_goals simp [go_sem]
 have z5 : ∀ i, W5.frozen? ⟨V.heap.size + 1, i, none⟩ = false := fun i => by
  have e1 : (V.alloc (.cells #[.int .i64 k, .string ty, .int .i64 h] 230)).heap.size = V.heap.size + 1 := by simp
  rw [hW5, frozen?_alloc_cells, frozen?_alloc_cells, ← e1]
  exact frozen_none _ _ (Nat.le_refl _)
 have x3 : W5.cell? ⟨V.heap.size + 1 + 1, 3, none⟩ = some (.int .u64 n) := by rw [hW5]; simp [go_sem]
 have x4 : W5.cell? ⟨V.heap.size + 1 + 1, 4, none⟩ = some (.int .u64 m) := by rw [hW5]; simp [go_sem]
 have bw5 : Below w.heap.size w W5 := hbV.trans (b5.mono hbV.size)
 have zz5 : Zero8 W5 w.heap.size := zV.up b5
 go_upto_region 18 with fail
 rw [← hW5]
 clear hW5 zV b5
 obtain ⟨a0, a1, a2, a3, a4, a5, a6, a7⟩ := a5
 simp only [Nat.zero_add] at a0 a1 a2 a3 a4 a5 a6 a7
 have f2 := z5 2
 have f3 := z5 3
 have g1 : ∀ v, (fun w' : World => w'.cell? ⟨V.heap.size + 1 + 1, 3, none⟩ = some (.int .u64 n) ∧ w'.cell? ⟨V.heap.size + 1 + 1, 4, none⟩ = some (.int .u64 m)) (W5.drew.setCell ⟨V.heap.size + 1, 2, none⟩ v) := fun v => ⟨(World.cell?_of_block (w := W5) (a := ⟨V.heap.size + 1 + 1, 3, none⟩) (Below.heap_setCell _ _ _ _ (by dsimp only; omega))).trans x3, (World.cell?_of_block (w := W5) (a := ⟨V.heap.size + 1 + 1, 4, none⟩) (Below.heap_setCell _ _ _ _ (by dsimp only; omega))).trans x4⟩
 have g2 : ∀ v u, (fun w' : World => w'.cell? ⟨V.heap.size + 1 + 1, 3, none⟩ = some (.int .u64 n) ∧ w'.cell? ⟨V.heap.size + 1 + 1, 4, none⟩ = some (.int .u64 m)) ((W5.drew.setCell ⟨V.heap.size + 1, 2, none⟩ v).setCell ⟨V.heap.size + 1, 3, none⟩ u) := fun v u => ⟨(World.cell?_of_block (w := W5.drew.setCell ⟨V.heap.size + 1, 2, none⟩ v) (a := ⟨V.heap.size + 1 + 1, 3, none⟩) (Below.heap_setCell _ _ _ _ (by dsimp only; omega))).trans (g1 v).1, (World.cell?_of_block (w := W5.drew.setCell ⟨V.heap.size + 1, 2, none⟩ v) (a := ⟨V.heap.size + 1 + 1, 4, none⟩) (Below.heap_setCell _ _ _ _ (by dsimp only; omega))).trans (g1 v).2⟩
 refine wp_region_held_drew (S := fun w' : World => w'.cell? ⟨V.heap.size + 1 + 1, 3, none⟩ = some (.int .u64 n) ∧ w'.cell? ⟨V.heap.size + 1 + 1, 4, none⟩ = some (.int .u64 m)) (by kernel_rfl) ⟨x3, x4⟩ ?_
 intro hS
 refine tk 0 (.pointer (some ⟨V.heap.size + 1 + 1, 3, none⟩)) rfl (by kernel_rfl) (fun _ _ _ h => h) (by rfl) (by assumption) ?_ ?_
 ·intro w5 s0
  obtain ⟨s0, s1⟩ := s0
  go_simp
 try simp only [Act.put, List.getElem_toArray, List.getElem_cons_zero, List.getElem_cons_succ, List.setIfInBounds_toArray, List.set_cons_zero, List.set_cons_succ, List.length_cons]
 refine tk 1 (.int .u64 n) rfl (by kernel_rfl) (fun _ _ _ h => h) (by rfl) (by assumption) ?_ ?_
 ·intro w5 s0
  obtain ⟨s0, s1⟩ := s0
  go_simp
 try simp only [Act.put, List.getElem_toArray, List.getElem_cons_zero, List.getElem_cons_succ, List.setIfInBounds_toArray, List.set_cons_zero, List.set_cons_succ, List.length_cons]
 refine tk 2 (.pointer (some ⟨V.heap.size + 1 + 1, 4, none⟩)) rfl (by kernel_rfl) (fun _ _ _ h => h) (by rfl) (by assumption) ?_ ?_
 ·intro w5 s0
  obtain ⟨s0, s1⟩ := s0
  go_simp
 try simp only [Act.put, List.getElem_toArray, List.getElem_cons_zero, List.getElem_cons_succ, List.setIfInBounds_toArray, List.set_cons_zero, List.set_cons_succ, List.length_cons]
 refine tk 3 (.int .u64 m) rfl (by kernel_rfl) (fun _ _ _ h => h) (by rfl) (by assumption) ?_ ?_
 ·intro w5 s0
  obtain ⟨s0, s1⟩ := s0
  go_simp
 try simp only [Act.put, List.getElem_toArray, List.getElem_cons_zero, List.getElem_cons_succ, List.setIfInBounds_toArray, List.set_cons_zero, List.set_cons_succ, List.length_cons]
 refine tk 4 (.pointer (some ⟨V.heap.size + 1, 2, none⟩)) rfl (by kernel_rfl) (fun _ _ _ h => h) (by rfl) (by assumption) ?_ ?_
 ·intro w5 s0
  obtain ⟨s0, s1⟩ := s0
  go_simp
 try simp only [Act.put, List.getElem_toArray, List.getElem_cons_zero, List.getElem_cons_succ, List.setIfInBounds_toArray, List.set_cons_zero, List.set_cons_succ, List.length_cons]
 refine rd1 5 (by kernel_rfl) rfl fun K5 hK5 => ?_
 go_simp
 refine hK5.out _ _ (g1 _) (fun _ => ?_)
 clear hK5
 try simp only [Act.put, List.getElem_toArray, List.getElem_cons_zero, List.getElem_cons_succ, List.setIfInBounds_toArray, List.set_cons_zero, List.set_cons_succ, List.length_cons]
 refine wpAnyH_take (i := 6) (v := .pointer (some ⟨V.heap.size + 1, 3, none⟩)) rfl (by kernel_rfl) (by kernel_rfl) (by kernel_rfl) (fun _ _ _ h => h) (Or.inl ⟨by rfl, ?_⟩) (g1 _) ?_
 ·intro w5 s0
  obtain ⟨s0, s1⟩ := s0
  go_simp
 try simp only [Act.put, List.getElem_toArray, List.getElem_cons_zero, List.getElem_cons_succ, List.setIfInBounds_toArray, List.set_cons_zero, List.set_cons_succ, List.length_cons]
 refine rd1 7 (by kernel_rfl) rfl fun K7 hK7 => ?_
 go_simp
 refine hK7.out _ _ (g2 _ _) (fun _ => ?_)
 clear hK7
 try simp only [Act.put, List.getElem_toArray, List.getElem_cons_zero, List.getElem_cons_succ, List.setIfInBounds_toArray, List.set_cons_zero, List.set_cons_succ, List.length_cons]
 refine wpAnyH_done (by kernel_rfl) ?_ _
 have A6 : At8 (((W5.setCell ⟨V.heap.size + 1, 2, none⟩ (.int .u64 n)).setCell ⟨V.heap.size + 1, 3, none⟩ (.int .u64 m)).drew) (V.heap.size + 1) 0 ⟨k, ty, n, m, ⟨#[]⟩, [], [], h⟩ (.slice none 0 0) (.slice none 0 0) := by
  refine ⟨?_, ?_, ?_, ?_, ?_, ?_, ?_, ?_⟩
  all_goals simp [go_sem, a0, a1, a2, a3, a4, a5, a6, a7]
 have B6 : Below w.heap.size w (((W5.setCell ⟨V.heap.size + 1, 2, none⟩ (.int .u64 n)).setCell ⟨V.heap.size + 1, 3, none⟩ (.int .u64 m)).drew) := ((bw5.setCell (by dsimp only; omega) _).setCell (by dsimp only; omega) _).drew
 have Z6 : Zero8 (((W5.setCell ⟨V.heap.size + 1, 2, none⟩ (.int .u64 n)).setCell ⟨V.heap.size + 1, 3, none⟩ (.int .u64 m)).drew) w.heap.size := zz5.gr (X := V.heap.size + 1) ((gr_putV (gr_putV (World.grownBy.refl W5 (some (V.heap.size + 1))) (.int .u64 n)) (.int .u64 m)).trans (gr_belowV (Below.refl _ _).drew _)) (by omega)
 clear hS g1 g2 a0 a1 a2 a3 a4 a5 a6 a7 f2 f3 x3 x4 z5 zz5 bw5 hbV
 generalize ((W5.setCell ⟨V.heap.size + 1, 2, none⟩ (.int .u64 n)).setCell ⟨V.heap.size + 1, 3, none⟩ (.int .u64 m)).drew = W6 at *
 go_upto_block 1 with (go_at_call 309; refine (hp _ _).mono ?_; rintro e w1 ⟨rfl, hw1⟩; subst w1)
 go_cut [15, 91] (fun z i wx => wx = W6)
 case first =>
  go_wp2
  refine wp_loop_rounds 1 ?_
  rw [rounds_succ]
  go_wp2
  go_meet
  rfl
 case rest =>
  subst hcut
  obtain ⟨a0, a1, a2, a3, a4, a5, a6, a7⟩ := A6
  obtain ⟨⟨z0, z1, z2, z3, z4, z5, z6, z7⟩, zf⟩ := Z6
  simp only [Nat.zero_add] at a0 a1 a2 a3 a4 a5 a6 a7
  have y0 := zf 0
  have y1 := zf 1
  have y2 := zf 2
  have y3 := zf 3
  have y4 := zf 4
  have y5 := zf 5
  have y6 := zf 6
  have y7 := zf 7
  go_wp2
  obtain ⟨r0, r1, r2, r3, r4, r5, r6, r7⟩ := set8 z0 z1 z2 z3 z4 z5 z6 z7 (.int .i64 k) (.string ty) (.int .u64 n) (.int .u64 m) (.string ⟨#[]⟩) (.slice none 0 0) (.slice none 0 0) (.int .i64 h)
  refine bodyPost_ret (v := .agg #[.int .i64 k, .string ty, .int .u64 n, .int .u64 m, .string ⟨#[]⟩, .slice none 0 0, .slice none 0 0, .int .i64 h]) (by simp [results, Tryz.results263, go_sem, r0, r1, r2, r3, r4, r5, r6, r7]) rfl ?_
  exact ⟨rfl, set8_below B6 (Nat.le_refl _)⟩
end Go.Proofs.YtiagjheifblkiaaGreatDoor
namespace Go.Proofs.YtiagjheifblkiaaGreatDoor
open Go.RowKit
set_option linter.unusedVariables false
set_option linter.unusedSimpArgs false
set_option maxRecDepth 1000000 in
set_option maxHeartbeats 2000000 in
theorem shaped_pair (f : Sq) (ask : Value) (ty : ByteArray) (re im size depth : Int) (T : ByteArray) (ok : Bool) (w : World) (hT : ∀ W, Calls Tryz.prog 247 #[.int .u64 re, .int .u64 im, .int .i64 size, SV (numQ f)] W fun e w' => e = .returned (.tuple #[.string T, .bool ok]) ∧ Below W.heap.size W w') :
  Calls Tryz.prog 213 #[WV f ask, .iface 337 (.agg #[.int .u64 re, .int .u64 im, .int .i64 size]), .string ty, .int .i64 depth] w fun e w' => e = .returned (.tuple #[.string T, .bool ok]) ∧ Below w.heap.size w w' := by
 have t0 : ∀ w, (Instr.typeAssert (.iface 337 (.agg #[.int .u64 re, .int .u64 im, .int .i64 size])) 20 331 true).run Tryz.prog w = .ok (.tuple #[.bool false, .bool false]) w := fun w => by kernel_rfl
 have t1 : ∀ w, (Instr.typeAssert (.iface 337 (.agg #[.int .u64 re, .int .u64 im, .int .i64 size])) 20 332 true).run Tryz.prog w = .ok (.tuple #[.int .i64 0, .bool false]) w := fun w => by kernel_rfl
 have t2 : ∀ w, (Instr.typeAssert (.iface 337 (.agg #[.int .u64 re, .int .u64 im, .int .i64 size])) 20 333 true).run Tryz.prog w = .ok (.tuple #[.int .u64 0, .bool false]) w := fun w => by kernel_rfl
 have t3 : ∀ w, (Instr.typeAssert (.iface 337 (.agg #[.int .u64 re, .int .u64 im, .int .i64 size])) 20 335 true).run Tryz.prog w = .ok (.tuple #[.agg #[.int .u64 0, .int .i64 0], .bool false]) w := fun w => by kernel_rfl
 have t4 : ∀ w, (Instr.typeAssert (.iface 337 (.agg #[.int .u64 re, .int .u64 im, .int .i64 size])) 20 337 true).run Tryz.prog w = .ok (.tuple #[.agg #[.int .u64 re, .int .u64 im, .int .i64 size], .bool true]) w := fun w => by kernel_rfl
 obtain ⟨W1, hW1⟩ : ∃ W1, W1 = w.alloc (.cells #[.bool f.p, .bool f.mi, .bool f.sh, .bool f.sp, .bool f.z, .int .i64 f.wid, .int .i64 f.prec, .int .i32 f.verb, ask] 281) := ⟨_, rfl⟩
 have b1 : Below w.heap.size w W1 := by rw [hW1]; exact (Below.refl _ _).alloc (Nat.le_refl _) _
 have a1 : At9 W1 w.heap.size f ask := by
  rw [hW1]
  refine ⟨?_, ?_, ?_, ?_, ?_, ?_, ?_, ?_, ?_⟩
  all_goals simp [go_sem]
 obtain ⟨W2, hW2⟩ : ∃ W2, W2 = W1.alloc (.cells #[.int .u64 re, .int .u64 im, .int .i64 size] 337) := ⟨_, rfl⟩
 have b2 : Below W1.heap.size W1 W2 := by rw [hW2]; exact (Below.refl _ _).alloc (Nat.le_refl _) _
 have d0 : W2.cell? ⟨W1.heap.size, 0, none⟩ = some (.int .u64 re) := by rw [hW2]; simp [go_sem]
 have d1 : W2.cell? ⟨W1.heap.size, 1, none⟩ = some (.int .u64 im) := by rw [hW2]; simp [go_sem]
 have d2 : W2.cell? ⟨W1.heap.size, 2, none⟩ = some (.int .i64 size) := by rw [hW2]; simp [go_sem]
 have a2 := a1.up b2
 have bw := b1.trans (b2.mono b1.size)
 have hN := fun W => forNumbers_any f ask W
 clear a1
 go_enter Tryz.func213, Tryz.ntmps213
 go_upto_region 15 with fail
 rw [← hW1]
 clear hW1
 go_upto_region 16 with fail
 rw [← hW2]
 clear hW2
 obtain ⟨q0, q1, q2, q3, q4, q5, q6, q7, q8⟩ := a2
 have e0 : ∀ x : Cl W2, x.w.cell? ⟨W1.heap.size, 0, none⟩ = some (.int .u64 re) := fun x => x.cell d0
 have e1 : ∀ x : Cl W2, x.w.cell? ⟨W1.heap.size, 1, none⟩ = some (.int .u64 im) := fun x => x.cell d1
 have e2 : ∀ x : Cl W2, x.w.cell? ⟨W1.heap.size, 2, none⟩ = some (.int .i64 size) := fun x => x.cell d2
 have f0 : ∀ x : Cl W2, x.w.cell? ⟨w.heap.size, 0, none⟩ = some (.bool f.p) := fun x => x.cell q0
 have f1 : ∀ x : Cl W2, x.w.cell? ⟨w.heap.size, 1, none⟩ = some (.bool f.mi) := fun x => x.cell q1
 have f2 : ∀ x : Cl W2, x.w.cell? ⟨w.heap.size, 2, none⟩ = some (.bool f.sh) := fun x => x.cell q2
 have f3 : ∀ x : Cl W2, x.w.cell? ⟨w.heap.size, 3, none⟩ = some (.bool f.sp) := fun x => x.cell q3
 have f4 : ∀ x : Cl W2, x.w.cell? ⟨w.heap.size, 4, none⟩ = some (.bool f.z) := fun x => x.cell q4
 have f5 : ∀ x : Cl W2, x.w.cell? ⟨w.heap.size, 5, none⟩ = some (.int .i64 f.wid) := fun x => x.cell q5
 have f6 : ∀ x : Cl W2, x.w.cell? ⟨w.heap.size, 6, none⟩ = some (.int .i64 f.prec) := fun x => x.cell q6
 have f7 : ∀ x : Cl W2, x.w.cell? ⟨w.heap.size, 7, none⟩ = some (.int .i32 f.verb) := fun x => x.cell q7
 have f8 : ∀ x : Cl W2, x.w.cell? ⟨w.heap.size, 8, none⟩ = some ask := fun x => x.cell q8
 refine wp_region_above W2 (Below.refl _ _) (by kernel_rfl) (by kernel_rfl) ?_
 intro hCl
 repeat (go_big_quiet_step ((first | (go_at_call 244; exact Cl.call (hN _)) | (go_at_call 247; exact Cl.call (hT _)))))
 refine wpQuiet_nil ?_
 intro _ hw'
 obtain ⟨y, hx⟩ := hw'
 subst hx
 go_wp2
 go_ret2
 exact ⟨rfl, bw.trans (y.below.mono bw.size)⟩
abbrev VP (k re im : Int) : Value := .iface 250 (.agg #[.int .i64 k, .string ⟨#[]⟩, .int .i64 0, .int .u64 re, .int .u64 im])
theorem shape_pair (v : Value) (k b i h : Int) (s : ByteArray) (sx : Value) (hk : (k = 14 ∧ sx = .agg #[.int .u64 b, .int .u64 i, .int .i64 64]) ∨ (k = 15 ∧ sx = .agg #[.int .u64 b, .int .u64 i, .int .i64 128]))
  (hR : ∀ W, Calls Tryz.prog 220 #[v] W fun e w' => e = .returned (.agg #[.int .i64 k, .string ⟨#[]⟩, .int .u64 b, .int .u64 i, .string s, .slice none 0 0, .slice none 0 0, .int .i64 h]) ∧ Below W.heap.size W w') (w : World) :
  Calls Tryz.prog 210 #[v] w fun e w' => e = .returned (.iface 337 sx) ∧ Below w.heap.size w w' := by
 have hR := hR w
 rcases hk with ⟨rfl, rfl⟩ | ⟨rfl, rfl⟩
 ·go_enter Tryz.func210, Tryz.ntmps210
  go_wp2_with (go_at_call 220; refine hR.mono ?_; rintro e W2 ⟨rfl, b2⟩)
  go_ret
  exact ⟨rfl, b2.alloc b2.size _⟩
 ·go_enter Tryz.func210, Tryz.ntmps210
  go_wp2_with (go_at_call 220; refine hR.mono ?_; rintro e W2 ⟨rfl, b2⟩)
  go_ret
  exact ⟨rfl, b2.alloc b2.size _⟩
theorem flat_P15 (b i : Int) (h0 : 0 ≤ b) (h1 : b ≤ 18446744073709551615) (h2 : 0 ≤ i) (h3 : i ≤ 18446744073709551615) : Flat (VP 15 b i) (.int .i64 15) (.string ⟨#[]⟩) (.int .u64 b) (.int .u64 i) (.string ⟨#[]⟩) (.int .i64 0) 15 0 337 (.agg #[.int .u64 b, .int .u64 i, .int .i64 128]) := by
 refine ⟨fun W => valueOf_of _ _ _ _ _ _ _ _ _ _ W (fun V => ?_) ⟨rfl, rfl, rfl, rfl, rfl, rfl, rfl, rfl⟩, fun W => markof_pair 15 0 _ b i W, fun W => shape_pair (VP 15 b i) 15 b i 0 ⟨#[]⟩ _ (.inr ⟨rfl, rfl⟩) (fun V => raw_flat (VP 15 b i) 15 0 b i ⟨#[]⟩ ⟨#[]⟩ V fun V2 => rawof_pair 15 0 ⟨#[]⟩ b i V2) W⟩
 have hc : chk0 (D0 15 b i 0 ⟨#[]⟩ ⟨#[]⟩) = 0 := by
  unfold chk0
  rw [pre0]
  simp [runV, ok1, ok2, ok3, ok4, fitsB, frmB, typedB, allB, sz_nil]
 have hb := build0 15 b i 0 ⟨#[]⟩ ⟨#[]⟩ V ⟨by simp, by constructor <;> dsimp only <;> omega, by constructor <;> dsimp only <;> omega, by simp, Nat.zero_le _, Nat.zero_le _⟩ (by decide) (by decide) hc
 have md : mdV (D0 15 b i 0 ⟨#[]⟩ ⟨#[]⟩) = VP 15 b i := by
  unfold mdV
  simp
 rw [md] at hb
 exact hb
theorem flat_P14 (b i : Int) (h0 : 0 ≤ b) (h1 : b ≤ 18446744073709551615) (h2 : 0 ≤ i) (h3 : i ≤ 18446744073709551615) : Flat (VP 14 (b % 4294967296) (i % 4294967296)) (.int .i64 14) (.string ⟨#[]⟩) (.int .u64 b) (.int .u64 i) (.string ⟨#[]⟩) (.int .i64 0) 14 0 337 (.agg #[.int .u64 (b % 4294967296), .int .u64 (i % 4294967296), .int .i64 64]) := by
 refine ⟨fun W => valueOf_of _ _ _ _ _ _ _ _ _ _ W (fun V => ?_) ⟨rfl, rfl, rfl, rfl, rfl, rfl, rfl, rfl⟩, fun W => markof_pair 14 0 _ _ _ W, fun W => shape_pair (VP 14 _ _) 14 _ _ 0 ⟨#[]⟩ _ (.inl ⟨rfl, rfl⟩) (fun V => raw_flat (VP 14 _ _) 14 0 _ _ ⟨#[]⟩ ⟨#[]⟩ V fun V2 => rawof_pair 14 0 ⟨#[]⟩ _ _ V2) W⟩
 have hc : chk0 (D0 14 b i 0 ⟨#[]⟩ ⟨#[]⟩) = 0 := by
  unfold chk0
  rw [pre0]
  simp [runV, ok1, ok2, ok3, ok4, fitsB, frmB, typedB, allB, sz_nil]
 have hb := build0 14 b i 0 ⟨#[]⟩ ⟨#[]⟩ V ⟨by simp, by constructor <;> dsimp only <;> omega, by constructor <;> dsimp only <;> omega, by simp, Nat.zero_le _, Nat.zero_le _⟩ (by decide) (by decide) hc
 have md : mdV (D0 14 b i 0 ⟨#[]⟩ ⟨#[]⟩) = VP 14 (b % 4294967296) (i % 4294967296) := by
  unfold mdV
  simp
 rw [md] at hb
 exact hb
theorem flat_F12 (b : Int) (h0 : 0 ≤ b) (h1 : b ≤ 18446744073709551615) : Flat (VFk 12 (b % 4294967296)) (.int .i64 12) (.string ⟨#[]⟩) (.int .u64 b) (.int .u64 0) (.string ⟨#[]⟩) (.int .i64 0) 12 0 335 (.agg #[.int .u64 (b % 4294967296), .int .i64 32]) := by
 refine ⟨fun W => valueOf_of _ _ _ _ _ _ _ _ _ _ W (fun V => ?_) ⟨rfl, rfl, rfl, rfl, rfl, rfl, rfl, rfl⟩, fun W => markof_float 12 0 _ _ W, fun W => shape_raw (VFk 12 _) 12 _ 0 0 ⟨#[]⟩ _ _ (.inr (.inl ⟨rfl, rfl, rfl⟩)) ⟨by omega, by omega⟩ (fun V => raw_flat (VFk 12 _) 12 0 _ 0 ⟨#[]⟩ ⟨#[]⟩ V fun V2 => rawof_float 12 0 ⟨#[]⟩ _ V2) W⟩
 have hc : chk0 (D0 12 b 0 0 ⟨#[]⟩ ⟨#[]⟩) = 0 := by
  unfold chk0
  rw [pre0]
  simp [runV, ok1, ok2, ok3, ok4, fitsB, frmB, typedB, allB, sz_nil]
 have hb := build0 12 b 0 0 ⟨#[]⟩ ⟨#[]⟩ V ⟨by simp, by constructor <;> dsimp only <;> omega, by simp, by simp, Nat.zero_le _, Nat.zero_le _⟩ (by decide) (by decide) hc
 have md : mdV (D0 12 b 0 0 ⟨#[]⟩ ⟨#[]⟩) = VFk 12 (b % 4294967296) := by
  unfold mdV
  simp
 rw [md] at hb
 exact hb
end Go.Proofs.YtiagjheifblkiaaGreatDoor
namespace Go.Proofs.YtiagjheifblkiaaGreatDoor
open Go.RowKit
set_option linter.unusedVariables false
set_option linter.unusedSimpArgs false
theorem shown_P {v : Value} {x0 x1 x2 x3 x4 x7 : Value} {k : Nat} {r i n : Int} (hfl : Flat v x0 x1 x2 x3 x4 x7 k 0 337 (.agg #[.int .u64 r, .int .u64 i, .int .i64 n])) (hk : k = 14 ∨ k = 15) (f : Sq) (hv : ¬ f.verb = 84) {T : ByteArray} (hT : ∀ W, Calls Tryz.prog 247 #[.int .u64 r, .int .u64 i, .int .i64 n, SV (numQ f)] W fun e w' => e = .returned (.tuple #[.string T, .bool true]) ∧ Below W.heap.size W w') {w : World} {g C M : Nat} {l : List UInt8} {m dp : Int} {av : Value} {nx : Int} (he : Env w g C M l m dp av nx) :
  Calls Tryz.prog 142 #[.pointer (some ⟨g, 0, none⟩), v, SV f] w fun e w' => e = .returned (.string T) ∧ Below w.heap.size w w' := by
 obtain ⟨ty, hty⟩ : ∃ ty, kindN[k]? = some ty := by
  rcases hk with rfl | rfl
  ·exact ⟨_, rfl⟩
  ·exact ⟨_, rfl⟩
 exact shown_flat hfl ty hty f hv T he fun W _ => shaped_pair f (FA g) ty r i n 0 T true W hT
theorem shown_F9 {v : Value} {x0 x1 x2 x3 x4 x7 : Value} {k : Nat} {r n : Int} (hfl : Flat v x0 x1 x2 x3 x4 x7 k 0 335 (.agg #[.int .u64 r, .int .i64 n])) (hk : k = 12 ∨ k = 13) (f : Sq) (hv : ¬ f.verb = 84) {T : ByteArray} (hT : ∀ W, Calls Tryz.prog 246 #[.int .u64 r, .int .i64 n, SV (numQ f)] W fun e w' => e = .returned (.tuple #[.string T, .bool true]) ∧ Below W.heap.size W w') {w : World} {g C M : Nat} {l : List UInt8} {m dp : Int} {av : Value} {nx : Int} (he : Env w g C M l m dp av nx) :
  Calls Tryz.prog 142 #[.pointer (some ⟨g, 0, none⟩), v, SV f] w fun e w' => e = .returned (.string T) ∧ Below w.heap.size w w' := by
 obtain ⟨ty, hty⟩ : ∃ ty, kindN[k]? = some ty := by
  rcases hk with rfl | rfl
  ·exact ⟨_, rfl⟩
  ·exact ⟨_, rfl⟩
 exact shown_flat hfl ty hty f hv T he fun W _ => shaped_float f (FA g) ty r n 0 T true W hT
set_option maxRecDepth 1000000 in
theorem pr_P1 (s : ByteArray) (p : Pc) (hps : prs s.data.toList = [p]) (hs : s.size ≤ 1000) (hk : p.kind = 1) (hw : p.wid.k = 0) (hp : p.prec.k = 0) (hx : p.arg.k = 0) (hx2 : p.wid.a.k = 0) (hx3 : p.prec.a.k = 0) (hv : ¬ p.verb = 37) (hv2 : ¬ p.verb = 84)
  {tt : TypeId} {vx : Value} {k : Nat} {b c r i n : Int} (hkk : k = 14 ∨ k = 15) (hfl : Flat (.iface tt vx) (.int .i64 k) (.string ⟨#[]⟩) (.int .u64 b) (.int .u64 c) (.string ⟨#[]⟩) (.int .i64 0) k 0 337 (.agg #[.int .u64 r, .int .u64 i, .int .i64 n])) {T : ByteArray} (hT : ∀ W, Calls Tryz.prog 247 #[.int .u64 r, .int .u64 i, .int .i64 n, SV (numQ (spQ p))] W fun e w' => e = .returned (.tuple #[.string T, .bool true]) ∧ Below W.heap.size W w') (hTs : T.size ≤ 4096) (A cp : Nat) (hc1 : 1 ≤ cp) (hc2 : cp ≤ maxLen) (w : World) (he : Esc w) (hkw : KN w) (hA : A < w.heap.size) (hd : w.rangeAt A 0 [.int .i64 k, .string ⟨#[]⟩, .int .u64 b, .int .u64 c, .string ⟨#[]⟩, .slice none 0 0, .slice none 0 0, .int .i64 0]) :
  Calls Tryz.prog 9 #[.slice none 0 0, .string s, .slice (some ⟨A, 0, none⟩) 1 cp] w fun e w' => e = .returned (.string T) ∧ Below w.heap.size w w' := by
 have := print_1 s p hps hs hk hw hp hx hx2 hx3 hv A cp hc1 hc2 k b c 0 ⟨#[]⟩ ⟨#[]⟩ _ _ T (by omega) w he hkw hA hd hfl.vo (fun {_ _ _ _ _ _ _ _ _} hE => shown_P hfl hkk (spQ p) (by show ¬ (p.verb : Int) = 84; omega) hT hE)
 have hx : txt T.data.toList = T := by
  unfold txt
  rw [if_neg (by rw [← Lib.size_eq]; omega)]
 rw [hx] at this
 exact this
set_option maxRecDepth 1000000 in
theorem pr_F9 (s : ByteArray) (p : Pc) (hps : prs s.data.toList = [p]) (hs : s.size ≤ 1000) (hk : p.kind = 1) (hw : p.wid.k = 0) (hp : p.prec.k = 0) (hx : p.arg.k = 0) (hx2 : p.wid.a.k = 0) (hx3 : p.prec.a.k = 0) (hv : ¬ p.verb = 37) (hv2 : ¬ p.verb = 84)
  {tt : TypeId} {vx : Value} {k : Nat} {b r n : Int} (hkk : k = 12 ∨ k = 13) (hfl : Flat (.iface tt vx) (.int .i64 k) (.string ⟨#[]⟩) (.int .u64 b) (.int .u64 0) (.string ⟨#[]⟩) (.int .i64 0) k 0 335 (.agg #[.int .u64 r, .int .i64 n])) {T : ByteArray} (hT : ∀ W, Calls Tryz.prog 246 #[.int .u64 r, .int .i64 n, SV (numQ (spQ p))] W fun e w' => e = .returned (.tuple #[.string T, .bool true]) ∧ Below W.heap.size W w') (hTs : T.size ≤ 4096) (A cp : Nat) (hc1 : 1 ≤ cp) (hc2 : cp ≤ maxLen) (w : World) (he : Esc w) (hkw : KN w) (hA : A < w.heap.size) (hd : w.rangeAt A 0 [.int .i64 k, .string ⟨#[]⟩, .int .u64 b, .int .u64 0, .string ⟨#[]⟩, .slice none 0 0, .slice none 0 0, .int .i64 0]) :
  Calls Tryz.prog 9 #[.slice none 0 0, .string s, .slice (some ⟨A, 0, none⟩) 1 cp] w fun e w' => e = .returned (.string T) ∧ Below w.heap.size w w' := by
 have := print_1 s p hps hs hk hw hp hx hx2 hx3 hv A cp hc1 hc2 k b 0 0 ⟨#[]⟩ ⟨#[]⟩ _ _ T (by omega) w he hkw hA hd hfl.vo (fun {_ _ _ _ _ _ _ _ _} hE => shown_F9 hfl hkk (spQ p) (by show ¬ (p.verb : Int) = 84; omega) hT hE)
 have hx : txt T.data.toList = T := by
  unfold txt
  rw [if_neg (by rw [← Lib.size_eq]; omega)]
 rw [hx] at this
 exact this
end Go.Proofs.YtiagjheifblkiaaGreatDoor
namespace Go.Proofs.YtiagjheifblkiaaGreatDoor
open Go.RowKit
set_option linter.unusedVariables false
set_option linter.unusedSimpArgs false
def sgB (x : UInt8) : Bool := decide (x.toNat = 43 ∨ x.toNat = 45)
def epB (x : UInt8) : Bool := decide (x.toNat = 101 ∨ x.toNat = 69 ∨ x.toNat = 112 ∨ x.toNat = 80)
theorem ep_sg {x : UInt8} (h : epB x = true) : sgB x = false := by
 have h := of_decide_eq_true h
 exact decide_eq_false (by omega)
def okS (l : List UInt8) (i : Nat) : Bool := sgB (l.getD i 0) && !(epB (l.getD (i - 1) 0))
def lastS (l : List UInt8) : Nat → Nat
 | 0 => 0
 | n + 1 => if n ≠ 0 ∧ okS l n = true then n else lastS l n
theorem lastS_one (l : List UInt8) : lastS l 1 = 0 := by unfold lastS; rw [if_neg (by simp)]; rfl
theorem lastS_yes {l : List UInt8} {n : Nat} (h0 : n ≠ 0) (h : okS l n = true) : lastS l (n + 1) = n := by
 unfold lastS; rw [if_pos ⟨h0, h⟩]
theorem lastS_no {l : List UInt8} {n : Nat} (h : okS l n = false) : lastS l (n + 1) = lastS l n := by
 rw [lastS, if_neg (by rw [h]; simp)]
theorem lastS_lt (l : List UInt8) : ∀ n, lastS l n ≤ n - 1
 | 0 => Nat.le_refl _
 | n + 1 => by
   have := lastS_lt l n
   unfold lastS
   split <;> omega
theorem lastS_is {l : List UInt8} {k : Nat} (h0 : k ≠ 0) (h : okS l k = true) : ∀ n, k < n → (∀ i, k < i → i < n → okS l i = false) → lastS l n = k
 | 0, hk, _ => by omega
 | n + 1, hk, hi => by
   by_cases e : n = k
   ·subst e; exact lastS_yes h0 h
   ·rw [lastS_no (hi n (by omega) (by omega))]
    exact lastS_is h0 h n (by omega) fun i h1 h2 => hi i h1 (by omega)
structure Tame (l : List UInt8) : Prop where
 no : ∀ x ∈ l, sgB x = false
 pos : l ≠ []
 last : ∀ x, l.getLast? = some x → epB x = false
def Shp (l : List UInt8) : Prop := Tame l ∨ ∃ (X : List UInt8) (c s : UInt8) (Y : List UInt8), l = X ++ c :: s :: Y ∧ (∀ x ∈ X, sgB x = false) ∧ epB c = true ∧ Tame Y
theorem Shp.pos {l : List UInt8} (h : Shp l) : l ≠ [] := by
 rcases h with h | ⟨X, c, s, Y, rfl, -, -, -⟩
 ·exact h.pos
 ·simp
theorem Shp.last {l : List UInt8} (h : Shp l) : ∀ x, l.getLast? = some x → epB x = false := by
 rcases h with h | ⟨X, c, s, Y, rfl, -, -, h⟩
 ·exact h.last
 ·intro x hx
  refine h.last x ?_
  have hp := h.pos
  cases Y with
  | nil => exact absurd rfl hp
  | cons y Y =>
    rw [List.getLast?_append, List.getLast?_cons_cons, List.getLast?_cons_cons] at hx
    rw [List.getLast?_eq_some_getLast hp] at hx ⊢
    simpa using hx
theorem getD_mem {l : List UInt8} {i : Nat} (h : i < l.length) : l.getD i 0 ∈ l := by
 rw [List.getD_eq_getElem?_getD, List.getElem?_eq_getElem h, Option.getD_some]
 exact List.getElem_mem h
theorem getD_app1 {a b : List UInt8} {i : Nat} (h : i < a.length) : (a ++ b).getD i 0 = a.getD i 0 := by
 simp only [List.getD_eq_getElem?_getD, List.getElem?_append_left h]
theorem getD_app2 {a b : List UInt8} {i : Nat} (h : a.length ≤ i) : (a ++ b).getD i 0 = b.getD (i - a.length) 0 := by
 simp only [List.getD_eq_getElem?_getD, List.getElem?_append_right h]
theorem Shp.none {T : List UInt8} (h : Shp T) (s : UInt8) {j : Nat} (hj : j < T.length) : (sgB (T.getD j 0) && !(epB ((s :: T).getD j 0))) = false := by
 rcases h with h | ⟨X, c, s', Y, rfl, hX, hc, hY⟩
 ·rw [h.no _ (getD_mem hj)]; rfl
 ·rcases Nat.lt_trichotomy j (X.length + 1) with h1 | h1 | h1
  ·have : sgB ((X ++ c :: s' :: Y).getD j 0) = false := by
    rcases Nat.lt_or_ge j X.length with h2 | h2
    ·rw [getD_app1 h2]; exact hX _ (getD_mem h2)
    ·rw [getD_app2 h2, show j - X.length = 0 by omega]
     exact ep_sg hc
   rw [this]; rfl
  ·subst h1
   have : (s :: (X ++ c :: s' :: Y)).getD (X.length + 1) 0 = c := by
    rw [List.getD_cons_succ, getD_app2 (Nat.le_refl _), Nat.sub_self]; rfl
   rw [this, hc]; simp
  ·have : sgB ((X ++ c :: s' :: Y).getD j 0) = false := by
    rw [getD_app2 (by omega)]
    obtain ⟨k, hk⟩ : ∃ k, j - X.length = k + 2 := ⟨j - X.length - 2, by omega⟩
    rw [hk]
    refine hY.no _ (getD_mem (l := Y) ?_)
    simp at hj; omega
   rw [this]; rfl
theorem cut_pair {A T : List UInt8} {s : UInt8} (hA : A ≠ []) (hA2 : ∀ x, A.getLast? = some x → epB x = false) (hs : sgB s = true) (hT : Shp T) : lastS (A ++ s :: T) (A ++ s :: T).length = A.length := by
 have hl : A.length ≠ 0 := fun h => hA (List.length_eq_zero_iff.1 h)
 refine lastS_is hl ?_ _ (by simp) ?_
 ·unfold okS
  rw [getD_app2 (Nat.le_refl _), Nat.sub_self, getD_app1 (by omega)]
  have h1 : (s :: T).getD 0 0 = s := rfl
  have h2 : epB (A.getD (A.length - 1) 0) = false := by
   refine hA2 _ ?_
   rw [List.getLast?_eq_getElem?, List.getD_eq_getElem?_getD, List.getElem?_eq_getElem (by omega), Option.getD_some]
  rw [h1, hs, h2]; rfl
 ·intro i h1 h2
  unfold okS
  rw [getD_app2 (by omega), getD_app2 (by omega)]
  obtain ⟨j, hj⟩ : ∃ j, i - A.length = j + 1 := ⟨i - A.length - 1, by omega⟩
  rw [hj, show i - 1 - A.length = j by omega, List.getD_cons_succ]
  exact hT.none s (by simp at h2; omega)
def Al (P : UInt8 → Prop) (s : ByteArray) : Prop := ∀ x ∈ s.data.toList, P x
theorem Al.app {P : UInt8 → Prop} {a b : ByteArray} (h : Al P a) (k : Al P b) : Al P (a ++ b) := fun x hx => by
 rw [app_list] at hx
 rcases List.mem_append.1 hx with hx | hx
 ·exact h x hx
 ·exact k x hx
theorem Al.ext {P : UInt8 → Prop} {s : ByteArray} (h : Al P s) (a b : Nat) : Al P (s.extract a b) := fun x hx => by
 rw [ext_li] at hx
 exact h x (List.mem_of_mem_take (List.mem_of_mem_drop hx))
theorem Al.mono {P Q : UInt8 → Prop} {s : ByteArray} (h : Al P s) (k : ∀ x, P x → Q x) : Al Q s := fun x hx => k x (h x hx)
theorem Al.run {P : UInt8 → Prop} {c : Nat} (hc : P (UInt8.ofNat c)) (n : Nat) : Al P (run c n) := fun x hx => by
 rw [run_list] at hx
 have := List.eq_of_mem_replicate hx
 rw [this]; exact hc
def Dp (x : UInt8) : Prop := x.toNat = 46 ∨ (48 ≤ x.toNat ∧ x.toNat ≤ 57)
def Hp (x : UInt8) : Prop := Dp x ∨ (97 ≤ x.toNat ∧ x.toNat ≤ 102) ∨ x.toNat = 120
theorem dp_hp {x : UInt8} (h : Dp x) : Hp x := .inl h
theorem dp48 : Dp (UInt8.ofNat 48) := .inr ⟨by decide, by decide⟩
theorem al_dig (n : Nat) : Al Dp (digT false 10 n) := fun x hx => by
 obtain ⟨d, hdB, rfl⟩ := digS_mem false 10 n (by decide) x hx
 have : ∀ d : Fin 10, 48 ≤ (hexB false d.val).toNat ∧ (hexB false d.val).toNat ≤ 57 := by decide
 exact .inr (this ⟨d, hdB⟩)
theorem al_dig16 (n : Nat) : Al Hp (digT false 16 n) := fun x hx => by
 obtain ⟨d, hdB, rfl⟩ := digS_mem false 16 n (by decide) x hx
 have : ∀ d : Fin 16, (48 ≤ (hexB false d.val).toNat ∧ (hexB false d.val).toNat ≤ 57) ∨ (97 ≤ (hexB false d.val).toNat ∧ (hexB false d.val).toNat ≤ 102) := by decide
 rcases this ⟨d, hdB⟩ with h | h
 ·exact .inl (.inr h)
 ·exact .inr (.inl h)
theorem al_oS (v : Nat) : Al Dp (oS v) := fun x hx => .inr ((isD_iff x).1 (allD_mem (o_dig v) hx))
theorem Al.lnA {P : UInt8 → Prop} {s : ByteArray} (h : Al P s) (k : P (UInt8.ofNat 48)) (n : Int) : Al P (lnA s n) := (Al.run k _).app h
theorem Al.lnB {P : UInt8 → Prop} {s : ByteArray} (h : Al P s) (k : P (UInt8.ofNat 48)) (n : Int) : Al P (lnB s n) := h.app (Al.run k _)
theorem al1 {P : UInt8 → Prop} {c : UInt8} (h : P c) : Al P ⟨#[c]⟩ := fun x hx => by
 have : x = c := by simpa using hx
 rw [this]; exact h
theorem Al.ptd {P : UInt8 → Prop} {a b : ByteArray} (h : Al P a) (k : Al P b) (q : P 46) (sh : Bool) : Al P (ptd sh a b) := by
 unfold Go.Proofs.YtiagjheifblkiaaGreatDoor.ptd
 split
 ·exact h
 ·exact (h.app (al1 q)).app k
theorem Al.arA {d : ByteArray} (h : Al Dp d) (p : Int) : Al Dp (arA d p) := by
 unfold Go.Proofs.YtiagjheifblkiaaGreatDoor.arA
 split
 ·exact al1 dp48
 ·exact (h.lnB dp48 _).ext _ _
theorem Al.arB {d : ByteArray} (h : Al Dp d) (p : Int) : Al Dp (arB d p) := by
 unfold Go.Proofs.YtiagjheifblkiaaGreatDoor.arB
 split
 ·exact h.lnA dp48 _
 ·exact (h.lnB dp48 _).ext _ _
theorem dp46 : Dp 46 := .inl (by decide)
theorem al_genD (sh : Bool) (d : Nat) (c : Int) : Al Dp (genD sh d c) := by
 unfold genD
 split
 ·exact ((al_oS _).lnB dp48 _).lnB dp48 _
 ·exact (al_oS _).lnB dp48 _
theorem al_hxP {d : ByteArray} (h : Al Hp d) (P : Int) : Al Hp (hxP d P) := by
 unfold hxP
 split
 ·intro x hx
  obtain ⟨k, h1, -⟩ := rtr_split d.data.toList
  refine h x ?_
  rw [h1]
  exact List.mem_append_left _ (by simpa using hx)
 ·exact (h.ext _ _).lnB (dp_hp dp48) _
theorem hp_sg {x : UInt8} (h : Hp x) : sgB x = false := decide_eq_false (by rcases h with (h | h) | h | h <;> omega)
theorem dp_ep {x : UInt8} (h : Dp x) : epB x = false := decide_eq_false (by rcases h with h | h <;> omega)
theorem tame_of {s : ByteArray} (h : Al Dp s) (hs : 1 ≤ s.size) : Tame s.data.toList where
 no := fun x hx => hp_sg (dp_hp (h x hx))
 pos := fun e => by rw [← list_len, e] at hs; simp at hs
 last := fun x hx => dp_ep (h x (List.mem_of_getLast? hx))
theorem sgd_list (n l : Int) : ∃ (s : UInt8) (Y : ByteArray), (sgd n l).data.toList = s :: Y.data.toList ∧ Al Dp Y ∧ 1 ≤ Y.size := by
 have h1 := lnA_size (digT false 10 n.natAbs) l
 have h2 := digT_size false 10 n.natAbs
 unfold sgd
 rw [app_list]
 unfold sx1
 split
 ·exact ⟨45, _, rfl, (al_dig _).lnA dp48 _, by omega⟩
 ·exact ⟨43, _, rfl, (al_dig _).lnA dp48 _, by omega⟩
theorem shp_exp {A : ByteArray} {c : UInt8} (h : Al Hp A) (hc : epB c = true) (n l : Int) : Shp ((A ++ ⟨#[c]⟩) ++ sgd n l).data.toList := by
 obtain ⟨s, Y, e, hY, hz⟩ := sgd_list n l
 refine .inr ⟨A.data.toList, c, s, Y.data.toList, ?_, fun x hx => hp_sg (h x hx), hc, tame_of hY hz⟩
 rw [app_list, app_list, e]; simp
theorem Al.sci {d : ByteArray} (h : Al Dp d) (sh : Bool) (x : Int) : Shp (sci sh d x).data.toList :=
 shp_exp (((h.ext _ _).ptd (h.ext _ _) dp46 sh).mono fun _ => dp_hp) (by decide) _ _
theorem shp_genG (sh : Bool) (d : Nat) (t c : Int) (hz : 1 ≤ (genG sh d t c).size) : Shp (genG sh d t c).data.toList := by
 unfold genG at hz ⊢
 split
 ·exact (al_genD _ _ _).sci _ _
 ·rename_i h
  rw [if_neg h] at hz
  exact .inl (tame_of (((al_genD _ _ _).arA _).ptd ((al_genD _ _ _).arB _) dp46 _) hz)
theorem shp_num {sh : Bool} {P : Int} {m : Nat} {e : Int} {v d : Nat} {verb : Int} (hz : 1 ≤ (numTF sh P m e v d verb).size) : Shp (numTF sh P m e v d verb).data.toList := by
 unfold numTF at hz ⊢
 split
 ·exact ((al_oS _).lnB dp48 _).sci _ _
 ·rename_i h1
  rw [if_neg h1] at hz
  split
  ·rename_i h2
   rw [if_pos h2] at hz
   exact .inl (tame_of (((al_oS _).arA _).ptd (((al_oS _).arB _).lnB dp48 _) dp46 _) hz)
  ·rename_i h2
   rw [if_neg h2] at hz
   split
   ·exact shp_exp ((al_dig _).mono fun _ => dp_hp) (by decide) _ _
   ·rename_i h3
    rw [if_neg h3] at hz
    split
    ·have hD : Al Hp (hxD m P) := (al_dig16 _).lnA (dp_hp dp48) _
     have h0x : Al Hp ⟨#[48, 120]⟩ := fun x hx => by
      have : x = 48 ∨ x = 120 := by simpa using hx
      rcases this with rfl | rfl
      ·exact dp_hp dp48
      ·exact .inr (.inr (by decide))
     exact shp_exp (h0x.app ((hD.ext _ _).ptd (al_hxP (hD.ext _ _) _) (dp_hp dp46) _)) (by decide) _ _
    ·rename_i h4
     rw [if_neg h4] at hz
     unfold genT at hz ⊢
     split
     ·rename_i h5
      rw [if_pos h5] at hz
      exact shp_genG _ _ _ _ hz
     ·rename_i h5
      rw [if_neg h5] at hz
      exact shp_genG _ _ _ _ hz
theorem upper_sg (x : UInt8) : sgB (Lib.upperB x) = sgB x ∧ epB (Lib.upperB x) = epB x := by
 have : ∀ y : Fin 256, sgB (Lib.upperB (UInt8.ofNat y.val)) = sgB (UInt8.ofNat y.val) ∧ epB (Lib.upperB (UInt8.ofNat y.val)) = epB (UInt8.ofNat y.val) := by decide +kernel
 have h3 := this ⟨x.toNat, x.toNat_lt⟩
 simpa using h3
theorem Tame.upper {l : List UInt8} (h : Tame l) : Tame (Lib.toUpperA l) where
 no := fun x hx => by
  obtain ⟨y, hy, rfl⟩ := List.mem_map.1 hx
  rw [(upper_sg y).1]; exact h.no y hy
 pos := fun e => h.pos (by unfold Lib.toUpperA at e; simpa using e)
 last := fun x hx => by
  unfold Lib.toUpperA at hx
  rw [List.getLast?_map] at hx
  obtain ⟨y, hy, rfl⟩ := Option.map_eq_some_iff.1 hx
  rw [(upper_sg y).2]; exact h.last y hy
theorem Shp.upper {l : List UInt8} (h : Shp l) : Shp (Lib.toUpperA l) := by
 rcases h with h | ⟨X, c, s, Y, rfl, hX, hc, hY⟩
 ·exact .inl h.upper
 ·refine .inr ⟨Lib.toUpperA X, Lib.upperB c, Lib.upperB s, Lib.toUpperA Y, by simp [Lib.toUpperA], fun x hx => ?_, by rw [(upper_sg c).2]; exact hc, hY.upper⟩
  obtain ⟨y, hy, rfl⟩ := List.mem_map.1 hx
  rw [(upper_sg y).1]; exact hX y hy
theorem shp_fin {sh : Bool} {prec : Int} {m : Nat} {e : Int} {v d : Nat} {verb : Int} (hz : 1 ≤ (finT sh prec m e v d verb).size) : Shp (finT sh prec m e v d verb).data.toList := by
 unfold finT at hz ⊢
 rw [big_size] at hz
 have h := shp_num hz
 unfold bigT
 split
 ·exact h.upper
 ·exact h
end Go.Proofs.YtiagjheifblkiaaGreatDoor
namespace Go.Proofs.YtiagjheifblkiaaGreatDoor
open Go.RowKit
set_option linter.unusedVariables false
set_option linter.unusedSimpArgs false
abbrev SzP (size half : Int) (ok : Bool) : Prop := ∀ w, Calls Tryz.prog 292 #[.int .i64 size] w fun e w' => e = .returned (.tuple #[.int .i64 half, .bool ok]) ∧ w' = w
set_option maxRecDepth 1000000 in
theorem szp64 : SzP 64 32 true := fun w => by
 go_enter Tryz.func292, Tryz.ntmps292
 go_wp2
 go_returns
 exact ⟨rfl, rfl⟩
set_option maxRecDepth 1000000 in
theorem szp128 : SzP 128 64 true := fun w => by
 go_enter Tryz.func292, Tryz.ntmps292
 go_wp2
 go_returns
 exact ⟨rfl, rfl⟩
abbrev BeC (n : Nat) (b : Bool) : Prop := ∀ w, Calls Tryz.prog 58 #[.int .u8 (n : Nat)] w fun e w' => e = .returned (.bool b) ∧ w' = w
set_option maxRecDepth 1000000 in
theorem be_yes {n : Nat} (h : n = 101 ∨ n = 69 ∨ n = 112 ∨ n = 80) : BeC n true := fun w => by
 rcases h with rfl | rfl | rfl | rfl <;>
 ·go_enter Tryz.func58, Tryz.ntmps58
  go_wp2
  go_ret
  exact ⟨rfl, rfl⟩
set_option maxRecDepth 1000000 in
theorem be_no {n : Nat} (h : ¬ (n = 101 ∨ n = 69 ∨ n = 112 ∨ n = 80)) : BeC n false := fun w => by
 have h1 : ¬ (n : Int) = 101 := by omega
 have h2 : ¬ (n : Int) = 69 := by omega
 have h3 : ¬ (n : Int) = 112 := by omega
 have h4 : ¬ (n : Int) = 80 := by omega
 have b1 : ((n : Int) == 101) = false := beq_eq_false_iff_ne.2 h1
 have b2 : ((n : Int) == 69) = false := beq_eq_false_iff_ne.2 h2
 have b3 : ((n : Int) == 112) = false := beq_eq_false_iff_ne.2 h3
 have b4 : ((n : Int) == 80) = false := beq_eq_false_iff_ne.2 h4
 clear h
 go_enter Tryz.func58, Tryz.ntmps58
 go_wp2
 go_ret
 exact ⟨rfl, rfl⟩
theorem be_any (c : UInt8) : BeC c.toNat (epB c) := by
 by_cases h : c.toNat = 101 ∨ c.toNat = 69 ∨ c.toNat = 112 ∨ c.toNat = 80
 ·rw [show epB c = true from decide_eq_true h]; exact be_yes h
 ·rw [show epB c = false from decide_eq_false h]; exact be_no h
theorem getD_at (T : ByteArray) {i : Nat} (h : i < T.size) : T.data.toList.getD i 0 = T[i]'h := by
 rw [List.getD_eq_getElem?_getD, List.getElem?_eq_getElem (by rw [list_len]; exact h), Option.getD_some]; rfl
set_option maxRecDepth 1000000 in
set_option maxHeartbeats 2000000 in
theorem place_any (T : ByteArray) (hT : T.size ≤ 9223372036854775807) (w : World) : Calls Tryz.prog 42 #[.string T] w fun e w' => e = .returned (.int .i64 (lastS T.data.toList T.size : Nat)) ∧ w' = w := by
 have HB : Hid (∀ c : UInt8, BeC c.toNat (epB c)) := be_any
 have HO : Hid (∀ i (h : i + 1 < T.size), okS T.data.toList (i + 1) = (sgB (T[i + 1]'h) && !(epB (T[i]'(by omega))))) := fun i h => by
  unfold okS
  rw [getD_at T h, Nat.add_sub_cancel, getD_at T (by omega)]
 obtain ⟨K, hK⟩ : ∃ K, lastS T.data.toList T.size = K := ⟨_, rfl⟩
 have HK : Hid (lastS T.data.toList T.size = K) := hK
 have HY : Hid (∀ n, n ≠ 0 → okS T.data.toList n = true → lastS T.data.toList (n + 1) = n) := fun n h0 h => lastS_yes h0 h
 have HN : Hid (∀ n, okS T.data.toList n = false → lastS T.data.toList (n + 1) = lastS T.data.toList n) := fun n h => lastS_no h
 have H1 : Hid (lastS T.data.toList 1 = 0 ∧ lastS T.data.toList 0 = 0) := ⟨lastS_one _, rfl⟩
 rw [hK]
 clear hK
 generalize hL : lastS T.data.toList = F at *
 clear hL
 generalize hO : okS T.data.toList = O at *
 clear hO
 have hTI : (T.size : Int) ≤ 9223372036854775807 := by omega
 go_enter Tryz.func42, Tryz.ntmps42
 go_wp2
 go_step3
 go_wp2
 go_step3
 go_wp2
 go_loopg [3] (T.size) (fun g av wr => w = wr ∧ ∃ a : Int, av = .int .i64 a ∧ -1 ≤ a ∧ a < T.size ∧ a + 1 = (g : Int) ∧ Hid (F (a + 1).toNat = K))
 case atStart => exact ⟨rfl, (T.size : Int) - 1, by go_num, by omega, by omega, by omega, by show _ = _; rw [show ((T.size : Int) - 1 + 1).toNat = T.size by omega]; exact HK.out⟩
 case round =>
  obtain ⟨rfl, a, rfl, ha0, ha1, hag, HF⟩ := hrel
  by_cases hp : 0 < a
  ·obtain ⟨j, rfl⟩ : ∃ j : Nat, a = ((j + 1 : Nat) : Int) := ⟨(a - 1).toNat, by omega⟩
   have hj : j + 1 < T.size := by omega
   have hj0 : j < T.size := by omega
   have hjI : ((j + 1 : Nat) : Int) < T.size := by omega
   have ho := HO.out j hj
   have hF := HF.out
   rw [show (((j + 1 : Nat) : Int) + 1).toNat = j + 1 + 1 by omega] at hF
   have hbe := HB.out (T[j]'hj0)
   have hc1 : (T[j + 1]'hj).toNat < 256 := UInt8.toNat_lt _
   have hc0 : (T[j]'hj0).toNat < 256 := UInt8.toNat_lt _
   have hy := HY.out (j + 1) (by omega)
   have hn := HN.out (j + 1)
   clear HO HB HK HY HN H1 HF
   generalize hE : epB (T[j]'hj0) = E at *
   clear hE
   by_cases hs : (T[j + 1]'hj).toNat = 43 ∨ (T[j + 1]'hj).toNat = 45
   ·have hs2 : sgB (T[j + 1]'hj) = true := decide_eq_true hs
    rw [hs2, Bool.true_and] at ho
    clear hs2
    cases E with
    | true =>
      have HR : Hid (F (j + 1) = K) := by show _ = _; rw [← hn ho]; exact hF
      clear hy hn ho hF
      rcases hs with hs | hs
      all_goals
       go_wp2_with (go_at_call 58; refine (hbe _).mono ?_; rintro x w2 ⟨rfl, rfl⟩)
       go_roundg (gk - 1)
       case measure => omega
       case rel => exact ⟨rfl, (j : Int), by go_num, by omega, by omega, by omega, by show _ = _; rw [show ((j : Int) + 1).toNat = j + 1 by omega]; exact HR.out⟩
    | false =>
      have HR : Hid (K = j + 1) := by show _ = _; rw [← hF]; exact hy ho
      clear hy hn ho hF
      rcases hs with hs | hs
      all_goals
       go_wp2_with (go_at_call 58; refine (hbe _).mono ?_; rintro x w2 ⟨rfl, rfl⟩)
       try rw [Exit.noGoto_ret]
       go_ret
       rw [HR.out]
       exact ⟨by go_num, rfl⟩
   ·have hs2 : sgB (T[j + 1]'hj) = false := decide_eq_false hs
    rw [hs2, Bool.false_and] at ho
    clear hs2
    have HR : Hid (F (j + 1) = K) := by show _ = _; rw [← hn ho]; exact hF
    have n1 : ¬ (T[j + 1]'hj).toNat = 43 := by omega
    have n2 : ¬ (T[j + 1]'hj).toNat = 45 := by omega
    clear hy hn ho hF hs
    go_wp2
    go_roundg (gk - 1)
    case measure => omega
    case rel => exact ⟨rfl, (j : Int), by go_num, by omega, by omega, by omega, by show _ = _; rw [show ((j : Int) + 1).toNat = j + 1 by omega]; exact HR.out⟩
  ·have HR : Hid (K = 0) := by
    show _ = _
    rw [← HF.out]
    have : a = -1 ∨ a = 0 := by omega
    rcases this with rfl | rfl
    ·exact H1.out.2
    ·exact H1.out.1
   have hm : max a 0 = 0 := by omega
   clear HO HB HK HY HN H1 HF
   go_wp2
   try rw [Exit.noGoto_ret]
   go_ret
   rw [HR.out]
   exact ⟨by go_num, rfl⟩
end Go.Proofs.YtiagjheifblkiaaGreatDoor
namespace Go.Proofs.YtiagjheifblkiaaGreatDoor
open Go.RowKit
set_option linter.unusedVariables false
set_option linter.unusedSimpArgs false
abbrev CxC (re im : Nat) (size : Int) (p mi sh sp z : Bool) (wid prec verb : Int) (s : ByteArray) (ok : Bool) : Prop := ∀ w, Calls Tryz.prog 247 #[.int .u64 re, .int .u64 im, .int .i64 size, .agg #[.bool p, .bool mi, .bool sh, .bool sp, .bool z, .int .i64 wid, .int .i64 prec, .int .i32 verb]] w fun e w' => e = .returned (.tuple #[.string s, .bool ok]) ∧ Below w.heap.size w w'
structure CxAt (w W : World) (A S re im : Nat) (p mi sh sp z : Bool) (wid prec verb : Int) : Prop where
 a0 : W.cell? ⟨A, 0, none⟩ = some (.int .u64 re)
 a1 : W.cell? ⟨A, 1, none⟩ = some (.int .u64 im)
 s0 : W.cell? ⟨S, 0, none⟩ = some (.bool p)
 s1 : W.cell? ⟨S, 1, none⟩ = some (.bool mi)
 s2 : W.cell? ⟨S, 2, none⟩ = some (.bool sh)
 s3 : W.cell? ⟨S, 3, none⟩ = some (.bool sp)
 s4 : W.cell? ⟨S, 4, none⟩ = some (.bool z)
 s5 : W.cell? ⟨S, 5, none⟩ = some (.int .i64 wid)
 s6 : W.cell? ⟨S, 6, none⟩ = some (.int .i64 prec)
 s7 : W.cell? ⟨S, 7, none⟩ = some (.int .i32 verb)
 t0 : W.cell? ⟨S, 8, none⟩ = some (.bool true)
 t1 : W.cell? ⟨S, 9, none⟩ = some (.bool mi)
 t2 : W.cell? ⟨S, 10, none⟩ = some (.bool sh)
 t3 : W.cell? ⟨S, 11, none⟩ = some (.bool sp)
 t4 : W.cell? ⟨S, 12, none⟩ = some (.bool z)
 t5 : W.cell? ⟨S, 13, none⟩ = some (.int .i64 wid)
 t6 : W.cell? ⟨S, 14, none⟩ = some (.int .i64 prec)
 t7 : W.cell? ⟨S, 15, none⟩ = some (.int .i32 verb)
 bl : Below w.heap.size w W
 lt : S < W.heap.size
theorem cxat_1 {w W0 : World} (re im : Nat) (p mi sh sp z : Bool) (wid prec verb : Int) (hbl : Below w.heap.size w W0) : CxAt w ((W0.alloc (.cells #[.int .u64 re, .int .u64 im] 394)).alloc (.cells #[.bool p, .bool mi, .bool sh, .bool sp, .bool z, .int .i64 wid, .int .i64 prec, .int .i32 verb, .bool true, .bool mi, .bool sh, .bool sp, .bool z, .int .i64 wid, .int .i64 prec, .int .i32 verb] 395)).drew W0.heap.size (W0.heap.size + 1) re im p mi sh sp z wid prec verb where
 a0 := by simp
 a1 := by simp
 s0 := by simp
 s1 := by simp
 s2 := by simp
 s3 := by simp
 s4 := by simp
 s5 := by simp
 s6 := by simp
 s7 := by simp
 t0 := by simp
 t1 := by simp
 t2 := by simp
 t3 := by simp
 t4 := by simp
 t5 := by simp
 t6 := by simp
 t7 := by simp
 bl := ((hbl.alloc hbl.size _).alloc (Nat.le_trans hbl.size (by simp)) _).drew
 lt := by simp
theorem cxat_2 {w W0 : World} (re im : Nat) (p mi sh sp z : Bool) (wid prec verb : Int) (hbl : Below w.heap.size w W0) : CxAt w ((W0.alloc (.cells #[.bool p, .bool mi, .bool sh, .bool sp, .bool z, .int .i64 wid, .int .i64 prec, .int .i32 verb, .bool true, .bool mi, .bool sh, .bool sp, .bool z, .int .i64 wid, .int .i64 prec, .int .i32 verb] 395)).alloc (.cells #[.int .u64 re, .int .u64 im] 394)).drew (W0.heap.size + 1) W0.heap.size re im p mi sh sp z wid prec verb where
 a0 := by simp
 a1 := by simp
 s0 := by simp
 s1 := by simp
 s2 := by simp
 s3 := by simp
 s4 := by simp
 s5 := by simp
 s6 := by simp
 s7 := by simp
 t0 := by simp
 t1 := by simp
 t2 := by simp
 t3 := by simp
 t4 := by simp
 t5 := by simp
 t6 := by simp
 t7 := by simp
 bl := ((hbl.alloc hbl.size _).alloc (Nat.le_trans hbl.size (by simp)) _).drew
 lt := by simp; omega
theorem ix_u0 (a b : Value) (w : World) : (Instr.index 394 (.agg #[a, b]) (.int .i64 0)).run Tryz.prog w = .ok a w := by kernel_rfl
theorem ix_u1 (a b : Value) (w : World) : (Instr.index 394 (.agg #[a, b]) (.int .i64 1)).run Tryz.prog w = .ok b w := by kernel_rfl
set_option maxRecDepth 1000000 in
set_option maxHeartbeats 8000000 in
theorem cx_both {re im : Nat} {size half : Int} {A B R : ByteArray} {ok : Bool} (p mi sh sp z : Bool) (wid prec verb : Int) (hz : SzP size half true) (hA : FlCq re half p mi sh sp z wid prec verb A ok) (hB : ok = true → FlCq im half true mi sh sp z wid prec verb B true) (zA : A.size ≤ 1000000) (zB : B.size ≤ 1000000) (hR : ok = true ∧ R = ((⟨#[40]⟩ : ByteArray) ++ A ++ B) ++ ⟨#[105, 41]⟩ ∨ ok = false ∧ R = ⟨#[]⟩) : CxC re im size p mi sh sp z wid prec verb R ok := fun w => by
 have ix0 := ix_u0
 have ix1 := ix_u1
 go_enter Tryz.func247, Tryz.ntmps247
 go_upto_region 6 with (go_at_call 292; (with_reducible refine (hz _).mono ?_); rintro x w2 ⟨rfl, rfl⟩)
 obtain ⟨W0, hW0⟩ : ∃ W0, (w.alloc (.cells #[.bool p, .bool mi, .bool sh, .bool sp, .bool z, .int .i64 wid, .int .i64 prec, .int .i32 verb] 198)).alloc (.cells #[.bool true, .bool mi, .bool sh, .bool sp, .bool z, .int .i64 wid, .int .i64 prec, .int .i32 verb] 198) = W0 := ⟨_, rfl⟩
 have m0 : W0.cell? ⟨w.heap.size, 0, none⟩ = some (.bool p) := by rw [← hW0]; simp
 have m1 : W0.cell? ⟨w.heap.size, 1, none⟩ = some (.bool mi) := by rw [← hW0]; simp
 have m2 : W0.cell? ⟨w.heap.size, 2, none⟩ = some (.bool sh) := by rw [← hW0]; simp
 have m3 : W0.cell? ⟨w.heap.size, 3, none⟩ = some (.bool sp) := by rw [← hW0]; simp
 have m4 : W0.cell? ⟨w.heap.size, 4, none⟩ = some (.bool z) := by rw [← hW0]; simp
 have m5 : W0.cell? ⟨w.heap.size, 5, none⟩ = some (.int .i64 wid) := by rw [← hW0]; simp
 have m6 : W0.cell? ⟨w.heap.size, 6, none⟩ = some (.int .i64 prec) := by rw [← hW0]; simp
 have m7 : W0.cell? ⟨w.heap.size, 7, none⟩ = some (.int .i32 verb) := by rw [← hW0]; simp
 have n0 : W0.cell? ⟨w.heap.size + 1, 0, none⟩ = some (.bool true) := by rw [← hW0]; simp
 have n1 : W0.cell? ⟨w.heap.size + 1, 1, none⟩ = some (.bool mi) := by rw [← hW0]; simp
 have n2 : W0.cell? ⟨w.heap.size + 1, 2, none⟩ = some (.bool sh) := by rw [← hW0]; simp
 have n3 : W0.cell? ⟨w.heap.size + 1, 3, none⟩ = some (.bool sp) := by rw [← hW0]; simp
 have n4 : W0.cell? ⟨w.heap.size + 1, 4, none⟩ = some (.bool z) := by rw [← hW0]; simp
 have n5 : W0.cell? ⟨w.heap.size + 1, 5, none⟩ = some (.int .i64 wid) := by rw [← hW0]; simp
 have n6 : W0.cell? ⟨w.heap.size + 1, 6, none⟩ = some (.int .i64 prec) := by rw [← hW0]; simp
 have n7 : W0.cell? ⟨w.heap.size + 1, 7, none⟩ = some (.int .i32 verb) := by rw [← hW0]; simp
 have l0 : w.heap.size < W0.heap.size := by rw [← hW0]; simp; omega
 have l1 : w.heap.size + 1 < W0.heap.size := by rw [← hW0]; simp
 have hbl : Below w.heap.size w W0 := by rw [← hW0]; go_grown
 rw [hW0]
 clear hW0
 go_cut [13, 14] (fun x y wx => ∃ P Q, x = .pointer (some ⟨P, 0, none⟩) ∧ y = .pointer (some ⟨Q, 0, none⟩) ∧ CxAt w wx P Q re im p mi sh sp z wid prec verb)
 case first =>
  clear hA hB hz zA zB ix0 ix1 hR
  go_big_region
  all_goals go_wp2_with fail
  all_goals go_meet
  ·exact ⟨_, _, rfl, rfl, cxat_1 re im p mi sh sp z wid prec verb hbl⟩
  ·exact ⟨_, _, rfl, rfl, cxat_2 re im p mi sh sp z wid prec verb hbl⟩
 case rest =>
 obtain ⟨P, Q, rfl, rfl, h⟩ := hcut
 clear hbl l0 l1 m0 m1 m2 m3 m4 m5 m6 m7 n0 n1 n2 n3 n4 n5 n6 n7
 have lt := h.lt
 have a0 := h.a0
 have a1 := h.a1
 have s0 := h.s0
 have s1 := h.s1
 have s2 := h.s2
 have s3 := h.s3
 have s4 := h.s4
 have s5 := h.s5
 have s6 := h.s6
 have s7 := h.s7
 have lp : P < wc.heap.size := World.block_lt_of_cell? wc _ a0
 have f0 : ∀ x : Cl (wc.alloc (.cells #[.string ⟨#[]⟩, .string ⟨#[]⟩] 396)), x.w.cell? ⟨Q, 0, none⟩ = some (.bool p) := fun x => x.cell (by simp [go_sem, h.s0, lt])
 have f1 : ∀ x : Cl (wc.alloc (.cells #[.string ⟨#[]⟩, .string ⟨#[]⟩] 396)), x.w.cell? ⟨Q, 1, none⟩ = some (.bool mi) := fun x => x.cell (by simp [go_sem, h.s1, lt])
 have f2 : ∀ x : Cl (wc.alloc (.cells #[.string ⟨#[]⟩, .string ⟨#[]⟩] 396)), x.w.cell? ⟨Q, 2, none⟩ = some (.bool sh) := fun x => x.cell (by simp [go_sem, h.s2, lt])
 have f3 : ∀ x : Cl (wc.alloc (.cells #[.string ⟨#[]⟩, .string ⟨#[]⟩] 396)), x.w.cell? ⟨Q, 3, none⟩ = some (.bool sp) := fun x => x.cell (by simp [go_sem, h.s3, lt])
 have f4 : ∀ x : Cl (wc.alloc (.cells #[.string ⟨#[]⟩, .string ⟨#[]⟩] 396)), x.w.cell? ⟨Q, 4, none⟩ = some (.bool z) := fun x => x.cell (by simp [go_sem, h.s4, lt])
 have f5 : ∀ x : Cl (wc.alloc (.cells #[.string ⟨#[]⟩, .string ⟨#[]⟩] 396)), x.w.cell? ⟨Q, 5, none⟩ = some (.int .i64 wid) := fun x => x.cell (by simp [go_sem, h.s5, lt])
 have f6 : ∀ x : Cl (wc.alloc (.cells #[.string ⟨#[]⟩, .string ⟨#[]⟩] 396)), x.w.cell? ⟨Q, 6, none⟩ = some (.int .i64 prec) := fun x => x.cell (by simp [go_sem, h.s6, lt])
 have f7 : ∀ x : Cl (wc.alloc (.cells #[.string ⟨#[]⟩, .string ⟨#[]⟩] 396)), x.w.cell? ⟨Q, 7, none⟩ = some (.int .i32 verb) := fun x => x.cell (by simp [go_sem, h.s7, lt])
 have f8 : ∀ x : Cl (wc.alloc (.cells #[.string ⟨#[]⟩, .string ⟨#[]⟩] 396)), x.w.cell? ⟨Q, 8, none⟩ = some (.bool true) := fun x => x.cell (by simp [go_sem, h.t0, lt])
 have f9 : ∀ x : Cl (wc.alloc (.cells #[.string ⟨#[]⟩, .string ⟨#[]⟩] 396)), x.w.cell? ⟨Q, 9, none⟩ = some (.bool mi) := fun x => x.cell (by simp [go_sem, h.t1, lt])
 have f10 : ∀ x : Cl (wc.alloc (.cells #[.string ⟨#[]⟩, .string ⟨#[]⟩] 396)), x.w.cell? ⟨Q, 10, none⟩ = some (.bool sh) := fun x => x.cell (by simp [go_sem, h.t2, lt])
 have f11 : ∀ x : Cl (wc.alloc (.cells #[.string ⟨#[]⟩, .string ⟨#[]⟩] 396)), x.w.cell? ⟨Q, 11, none⟩ = some (.bool sp) := fun x => x.cell (by simp [go_sem, h.t3, lt])
 have f12 : ∀ x : Cl (wc.alloc (.cells #[.string ⟨#[]⟩, .string ⟨#[]⟩] 396)), x.w.cell? ⟨Q, 12, none⟩ = some (.bool z) := fun x => x.cell (by simp [go_sem, h.t4, lt])
 have f13 : ∀ x : Cl (wc.alloc (.cells #[.string ⟨#[]⟩, .string ⟨#[]⟩] 396)), x.w.cell? ⟨Q, 13, none⟩ = some (.int .i64 wid) := fun x => x.cell (by simp [go_sem, h.t5, lt])
 have f14 : ∀ x : Cl (wc.alloc (.cells #[.string ⟨#[]⟩, .string ⟨#[]⟩] 396)), x.w.cell? ⟨Q, 14, none⟩ = some (.int .i64 prec) := fun x => x.cell (by simp [go_sem, h.t6, lt])
 have f15 : ∀ x : Cl (wc.alloc (.cells #[.string ⟨#[]⟩, .string ⟨#[]⟩] 396)), x.w.cell? ⟨Q, 15, none⟩ = some (.int .i32 verb) := fun x => x.cell (by simp [go_sem, h.t7, lt])
 have hbl : Below w.heap.size w (wc.alloc (.cells #[.string ⟨#[]⟩, .string ⟨#[]⟩] 396)) := h.bl.alloc h.bl.size _
 have hne : wc.heap.size ≠ Q := by omega
 have bT : BoxDe (wc.alloc (.cells #[.string ⟨#[]⟩, .string ⟨#[]⟩] 396)) wc.heap.size (.string ⟨#[]⟩) (.string ⟨#[]⟩) := by simp [BoxDe, go_sem]
 have hwc : w.heap.size ≤ wc.heap.size := h.bl.size
 have z1 : ¬ 9223372036854775807 < (⟨#[40]⟩ : ByteArray).size + A.size := by rw [show (⟨#[40]⟩ : ByteArray).size = 1 from rfl]; omega
 have z2 : ¬ 9223372036854775807 < ((⟨#[40]⟩ : ByteArray) ++ A).size + B.size := by rw [app_size, show (⟨#[40]⟩ : ByteArray).size = 1 from rfl]; omega
 have z3 : ¬ 9223372036854775807 < ((⟨#[40]⟩ : ByteArray) ++ A ++ B).size + (⟨#[105, 41]⟩ : ByteArray).size := by rw [app_size, app_size, show (⟨#[40]⟩ : ByteArray).size = 1 from rfl, show (⟨#[105, 41]⟩ : ByteArray).size = 2 from rfl]; omega
 clear h
 rcases hR with ⟨rfl, rfl⟩ | ⟨rfl, rfl⟩
 ·replace hB : FlCq im half true mi sh sp z wid prec verb B true := hB rfl
  go_wp2
  refine wp_loop_rounds 3 ?_
  rw [rounds_succ]
  go_wp2_with (go_at_call 246; (with_reducible refine (hA _).mono ?_); rintro x w2 ⟨rfl, hb2⟩; obtain ⟨y2, rfl⟩ := Cl.start hb2; have bT2 := keepb y2.below bT; obtain ⟨t0, t1, t2, t3⟩ := id bT2; have g0 : ∀ x : Cl (y2.w.setCell ⟨wc.heap.size, 0, none⟩ (.string A)), x.w.cell? ⟨Q, 8, none⟩ = some (.bool true) := (fun x => x.cell (set_past hne (f8 y2))); have g1 : ∀ x : Cl (y2.w.setCell ⟨wc.heap.size, 0, none⟩ (.string A)), x.w.cell? ⟨Q, 9, none⟩ = some (.bool mi) := (fun x => x.cell (set_past hne (f9 y2))); have g2 : ∀ x : Cl (y2.w.setCell ⟨wc.heap.size, 0, none⟩ (.string A)), x.w.cell? ⟨Q, 10, none⟩ = some (.bool sh) := (fun x => x.cell (set_past hne (f10 y2))); have g3 : ∀ x : Cl (y2.w.setCell ⟨wc.heap.size, 0, none⟩ (.string A)), x.w.cell? ⟨Q, 11, none⟩ = some (.bool sp) := (fun x => x.cell (set_past hne (f11 y2))); have g4 : ∀ x : Cl (y2.w.setCell ⟨wc.heap.size, 0, none⟩ (.string A)), x.w.cell? ⟨Q, 12, none⟩ = some (.bool z) := (fun x => x.cell (set_past hne (f12 y2))); have g5 : ∀ x : Cl (y2.w.setCell ⟨wc.heap.size, 0, none⟩ (.string A)), x.w.cell? ⟨Q, 13, none⟩ = some (.int .i64 wid) := (fun x => x.cell (set_past hne (f13 y2))); have g6 : ∀ x : Cl (y2.w.setCell ⟨wc.heap.size, 0, none⟩ (.string A)), x.w.cell? ⟨Q, 14, none⟩ = some (.int .i64 prec) := (fun x => x.cell (set_past hne (f14 y2))); have g7 : ∀ x : Cl (y2.w.setCell ⟨wc.heap.size, 0, none⟩ (.string A)), x.w.cell? ⟨Q, 15, none⟩ = some (.int .i32 verb) := (fun x => x.cell (set_past hne (f15 y2))))
  rw [rounds_succ]
  have bT2b : BoxDe (y2.w.setCell ⟨wc.heap.size, 0, none⟩ (.string A)) wc.heap.size (.string A) (.string ⟨#[]⟩) := ⟨World.cell?_setCell_same _ _ _ bT2.1, set_otherB (by decide) bT2.2.1, by rw [World.frozen?_setCell]; exact bT2.2.2.1, by rw [World.frozen?_setCell]; exact bT2.2.2.2⟩
  have hblA : Below w.heap.size w (y2.w.setCell ⟨wc.heap.size, 0, none⟩ (.string A)) := (bel_call hbl y2.below (Nat.le_refl _)).setCell hwc _
  go_wp2_with (go_at_call 246; (with_reducible refine (hB _).mono ?_); rintro x w3 ⟨rfl, hb3⟩; have bT3 := keepb hb3 bT2b; have hblB := bel_call hblA hb3 (Nat.le_refl _); obtain ⟨u0, u1, u2, u3⟩ := id bT3; have r1 : ∀ v, (w3.setCell ⟨wc.heap.size, 1, none⟩ v).cell? ⟨wc.heap.size, 1, none⟩ = some v := (fun v => World.cell?_setCell_same _ _ _ u1); have r0 : ∀ v, (w3.setCell ⟨wc.heap.size, 1, none⟩ v).cell? ⟨wc.heap.size, 0, none⟩ = some (.string A) := (fun v => set_otherB (by decide) u0))
  rw [rounds_succ]
  go_wp2
  go_returns
  exact ⟨rfl, hblB.setCell hwc _⟩
 ·clear hB
  go_wp2
  refine wp_loop_rounds 3 ?_
  rw [rounds_succ]
  have hblB := hbl
  go_wp2_with (go_at_call 246; (with_reducible refine (hA _).mono ?_); rintro x w2 ⟨rfl, hb2⟩; obtain ⟨y2, rfl⟩ := Cl.start hb2; have hblA := (bel_call hbl y2.below (Nat.le_refl _)); have bT2 := keepb y2.below bT; obtain ⟨t0, t1, t2, t3⟩ := id bT2; have g0 : ∀ x : Cl (y2.w.setCell ⟨wc.heap.size, 0, none⟩ (.string A)), x.w.cell? ⟨Q, 8, none⟩ = some (.bool true) := (fun x => x.cell (set_past hne (f8 y2))); have g1 : ∀ x : Cl (y2.w.setCell ⟨wc.heap.size, 0, none⟩ (.string A)), x.w.cell? ⟨Q, 9, none⟩ = some (.bool mi) := (fun x => x.cell (set_past hne (f9 y2))); have g2 : ∀ x : Cl (y2.w.setCell ⟨wc.heap.size, 0, none⟩ (.string A)), x.w.cell? ⟨Q, 10, none⟩ = some (.bool sh) := (fun x => x.cell (set_past hne (f10 y2))); have g3 : ∀ x : Cl (y2.w.setCell ⟨wc.heap.size, 0, none⟩ (.string A)), x.w.cell? ⟨Q, 11, none⟩ = some (.bool sp) := (fun x => x.cell (set_past hne (f11 y2))); have g4 : ∀ x : Cl (y2.w.setCell ⟨wc.heap.size, 0, none⟩ (.string A)), x.w.cell? ⟨Q, 12, none⟩ = some (.bool z) := (fun x => x.cell (set_past hne (f12 y2))); have g5 : ∀ x : Cl (y2.w.setCell ⟨wc.heap.size, 0, none⟩ (.string A)), x.w.cell? ⟨Q, 13, none⟩ = some (.int .i64 wid) := (fun x => x.cell (set_past hne (f13 y2))); have g6 : ∀ x : Cl (y2.w.setCell ⟨wc.heap.size, 0, none⟩ (.string A)), x.w.cell? ⟨Q, 14, none⟩ = some (.int .i64 prec) := (fun x => x.cell (set_past hne (f14 y2))); have g7 : ∀ x : Cl (y2.w.setCell ⟨wc.heap.size, 0, none⟩ (.string A)), x.w.cell? ⟨Q, 15, none⟩ = some (.int .i32 verb) := (fun x => x.cell (set_past hne (f15 y2))))
  go_returns
  exact ⟨rfl, hblA.setCell hwc _⟩
theorem cx_yes {re im : Nat} {size half : Int} {A B : ByteArray} (p mi sh sp z : Bool) (wid prec verb : Int) (hz : SzP size half true) (hA : FlCq re half p mi sh sp z wid prec verb A true) (hB : FlCq im half true mi sh sp z wid prec verb B true) (zA : A.size ≤ 1000000) (zB : B.size ≤ 1000000) : CxC re im size p mi sh sp z wid prec verb (((⟨#[40]⟩ : ByteArray) ++ A ++ B) ++ ⟨#[105, 41]⟩) true :=
 cx_both p mi sh sp z wid prec verb hz hA (fun _ => hB) zA zB (.inl ⟨rfl, rfl⟩)
end Go.Proofs.YtiagjheifblkiaaGreatDoor
namespace Go.Proofs.YtiagjheifblkiaaGreatDoor
open Go.RowKit
set_option linter.unusedVariables false
set_option linter.unusedSimpArgs false
abbrev CpfC (s I : ByteArray) (o : Bool) : Prop := ∀ w, Calls Tryz.prog 40 #[.string s, .string ⟨#[40]⟩] w fun e w' => e = .returned (.tuple #[.string I, .bool o]) ∧ w' = w
abbrev CsfC (s I : ByteArray) (o : Bool) : Prop := ∀ w, Calls Tryz.prog 41 #[.string s, .string ⟨#[105, 41]⟩] w fun e w' => e = .returned (.tuple #[.string I, .bool o]) ∧ w' = w
abbrev PlC (I : ByteArray) (k : Nat) : Prop := ∀ w, Calls Tryz.prog 42 #[.string I] w fun e w' => e = .returned (.int .i64 (k : Nat)) ∧ w' = w
abbrev SpC (s a b : ByteArray) (ok : Bool) : Prop := ∀ w, Calls Tryz.prog 19 #[.string s] w fun e w' => e = .returned (.tuple #[.string a, .string b, .bool ok]) ∧ Below w.heap.size w w'
set_option maxRecDepth 1000000 in
theorem sp_no3 {s I J : ByteArray} (h1 : CpfC s I true) (h2 : CsfC I J true) (h3 : PlC J 0) : SpC s ⟨#[]⟩ ⟨#[]⟩ false := fun w => by
 go_enter Tryz.func19, Tryz.ntmps19
 go_wp2_with (first
  | (go_at_call 40; refine (h1 _).mono ?_; rintro x w2 ⟨rfl, rfl⟩)
  | (go_at_call 41; refine (h2 _).mono ?_; rintro x w2 ⟨rfl, rfl⟩)
  | (go_at_call 42; refine (h3 _).mono ?_; rintro x w2 ⟨rfl, rfl⟩))
 go_returns
 exact ⟨rfl, Below.refl _ _⟩
set_option maxRecDepth 1000000 in
theorem sp_yes {s I J : ByteArray} {k : Nat} (h1 : CpfC s I true) (h2 : CsfC I J true) (h3 : PlC J k) (hk : k ≠ 0) (hkJ : k ≤ J.size) : SpC s (J.extract 0 k) (J.extract k J.size) true := fun w => by
 have hkI : ¬ (k : Int) = 0 := by omega
 have hkJI : (k : Int) ≤ J.size := by omega
 have b1 : ((k : Int) == 0) = false := beq_eq_false_iff_ne.2 hkI
 go_enter Tryz.func19, Tryz.ntmps19
 go_wp2_with (first
  | (go_at_call 40; refine (h1 _).mono ?_; rintro x w2 ⟨rfl, rfl⟩)
  | (go_at_call 41; refine (h2 _).mono ?_; rintro x w2 ⟨rfl, rfl⟩)
  | (go_at_call 42; refine (h3 _).mono ?_; rintro x w2 ⟨rfl, rfl⟩))
 go_region
 all_goals go_wp2
 all_goals go_returns
 all_goals exact ⟨rfl, (Below.refl _ _).drew⟩
def inP (s : ByteArray) (M : ByteArray) : Prop := s = ((⟨#[40]⟩ : ByteArray) ++ M) ++ ⟨#[105, 41]⟩
theorem ba_ext {a b : ByteArray} (h : a.data.toList = b.data.toList) : a = b := by
 apply ByteArray.ext; apply Array.ext'; exact h
theorem inP_iff (s M : ByteArray) : inP s M ↔ s.data.toList = 40 :: M.data.toList ++ [105, 41] := by
 constructor
 ·intro h
  rw [h, app_list, app_list]; simp
 ·intro h
  refine ba_ext ?_
  rw [app_list, app_list, h]; simp
theorem cp_any (s : ByteArray) : (∃ I : ByteArray, s.data.toList = 40 :: I.data.toList ∧ CpfC s I true) ∨ ((∀ l, s.data.toList ≠ 40 :: l) ∧ CpfC s s false) := by
 have h := fun w => Tryz.strings_CutPrefix s ⟨#[40]⟩ w
 have e40 : (⟨#[40]⟩ : ByteArray).data.toList = [40] := rfl
 rw [e40] at h
 cases hs : s.data.toList with
 | nil =>
   refine .inr ⟨(fun l e => by cases e), ?_⟩
   have h1 : Lib.hasPrefix s.data.toList [40] = false := by rw [hs]; rfl
   have h2 : Lib.trimPrefix s.data.toList [40] = s.data.toList := by unfold Lib.trimPrefix; rw [h1]; rfl
   rw [h1, h2] at h
   exact h
 | cons x l =>
   by_cases hx : x = 40
   ·subst hx
    refine .inl ⟨⟨l.toArray⟩, by simp, ?_⟩
    have h1 : Lib.hasPrefix s.data.toList [40] = true := by rw [hs]; rfl
    have h2 : Lib.trimPrefix s.data.toList [40] = l := by unfold Lib.trimPrefix; rw [h1, hs]; rfl
    rw [h1, h2] at h
    exact h
   ·refine .inr ⟨fun l e => by injection e with e1 e2; exact hx e1, ?_⟩
    have h1 : Lib.hasPrefix s.data.toList [40] = false := by
     rw [hs]; unfold Lib.hasPrefix
     simp [List.isPrefixOf]
     exact fun h => hx h.symm
    have h2 : Lib.trimPrefix s.data.toList [40] = s.data.toList := by unfold Lib.trimPrefix; rw [h1]; rfl
    rw [h1, h2] at h
    exact h
theorem cs_any (s : ByteArray) (hz : s.size ≤ 9223372036854775807) : (∃ I : ByteArray, s.data.toList = I.data.toList ++ [105, 41] ∧ CsfC s I true) ∨ ((∀ l, s.data.toList ≠ l ++ [105, 41]) ∧ CsfC s s false) := by
 have h := fun w => Tryz.strings_CutSuffix s ⟨#[105, 41]⟩ w hz
 have e40 : (⟨#[105, 41]⟩ : ByteArray).data.toList = [105, 41] := rfl
 rw [e40] at h
 by_cases hx : [105, 41] <:+ s.data.toList
 ·obtain ⟨l, hl⟩ := hx
  refine .inl ⟨⟨l.toArray⟩, by rw [← hl], ?_⟩
  have h1 : Lib.hasSuffix s.data.toList [105, 41] = true := by rw [← hl]; unfold Lib.hasSuffix; rw [List.isSuffixOf_iff_suffix]; exact ⟨l, rfl⟩
  have h2 : Lib.trimSuffix s.data.toList [105, 41] = l := by unfold Lib.trimSuffix; rw [h1, ← hl]; simp
  rw [h1, h2] at h
  exact h
 ·refine .inr ⟨fun l e => hx ⟨l, e.symm⟩, ?_⟩
  have h1 : Lib.hasSuffix s.data.toList [105, 41] = false := by
   unfold Lib.hasSuffix
   rw [← Bool.not_eq_true, List.isSuffixOf_iff_suffix]; exact hx
  have h2 : Lib.trimSuffix s.data.toList [105, 41] = s.data.toList := by unfold Lib.trimSuffix; rw [h1]; rfl
  rw [h1, h2] at h
  exact h
theorem split_in {s M : ByteArray} (hz : s.size ≤ 9223372036854775807) (h : inP s M) : (lastS M.data.toList M.size = 0 → SpC s ⟨#[]⟩ ⟨#[]⟩ false) ∧ (lastS M.data.toList M.size ≠ 0 → SpC s (M.extract 0 (lastS M.data.toList M.size)) (M.extract (lastS M.data.toList M.size) M.size) true) := by
 have hl := list_len s
 have hM := (inP_iff s M).1 h
 rcases cp_any s with ⟨I, e, h1⟩ | ⟨e, h1⟩
 ·have hI : I.size ≤ 9223372036854775807 := by rw [e, List.length_cons, list_len] at hl; omega
  have e1 : I.data.toList = M.data.toList ++ [105, 41] := by rw [e] at hM; injection hM
  rcases cs_any I hI with ⟨J, e2, h2⟩ | ⟨e2, h2⟩
  ·obtain rfl : J = M := ba_ext (List.append_cancel_right (e2.symm.trans e1))
   have hJ : J.size ≤ 9223372036854775807 := by have := list_len I; rw [e1, List.length_append, list_len] at this; omega
   have hp := place_any J hJ
   have hk := lastS_lt J.data.toList J.size
   refine ⟨fun h0 => ?_, fun h0 => sp_yes h1 h2 hp h0 (by omega)⟩
   rw [h0] at hp
   exact sp_no3 h1 h2 hp
  ·exact absurd e1 (e2 _)
 ·exact absurd (by rw [hM]; rfl) (e (M.data.toList ++ [105, 41]))
end Go.Proofs.YtiagjheifblkiaaGreatDoor
namespace Go.Proofs.YtiagjheifblkiaaGreatDoor
open Go.RowKit
set_option linter.unusedVariables false
set_option linter.unusedSimpArgs false
theorem shp_inf : Shp (⟨#[73, 110, 102]⟩ : ByteArray).data.toList := .inl ⟨by decide, by decide, fun x hx => by
 have : x = 102 := by simpa using hx.symm
 rw [this]; decide⟩
theorem shp_nan : Shp (⟨#[78, 97, 78]⟩ : ByteArray).data.toList := .inl ⟨by decide, by decide, fun x hx => by
 have : x = 78 := by simpa using hx.symm
 rw [this]; decide⟩
theorem split_pair {s0 T0 s1 T1 : ByteArray} (h0 : Shp T0.data.toList) (h1 : Shp T1.data.toList) (hs : s1 = ⟨#[43]⟩ ∨ s1 = ⟨#[45]⟩) (z0 : s0.size ≤ 1) (z1 : T0.size ≤ 200000) (z2 : T1.size ≤ 200000) : SpC (((⟨#[40]⟩ : ByteArray) ++ (s0 ++ T0) ++ (s1 ++ T1)) ++ ⟨#[105, 41]⟩) (s0 ++ T0) (s1 ++ T1) true := by
 obtain ⟨c, hc, hs1⟩ : ∃ c : UInt8, sgB c = true ∧ s1.data.toList = [c] := by
  rcases hs with rfl | rfl
  ·exact ⟨43, by decide, rfl⟩
  ·exact ⟨45, by decide, rfl⟩
 have e0 : ((s0 ++ T0) ++ (s1 ++ T1)).data.toList = (s0 ++ T0).data.toList ++ c :: T1.data.toList := by
  rw [app_list, app_list (a := s1), hs1]; rfl
 have hne : (s0 ++ T0).data.toList ≠ [] := by
  rw [app_list]
  intro e
  exact h0.pos (List.append_eq_nil_iff.1 e).2
 have hl : ∀ x, (s0 ++ T0).data.toList.getLast? = some x → epB x = false := by
  intro x hx
  refine h0.last x ?_
  rw [app_list, List.getLast?_append] at hx
  rw [List.getLast?_eq_some_getLast h0.pos] at hx ⊢
  simpa using hx
 have hk := cut_pair hne hl hc h1
 rw [← e0, list_len, list_len] at hk
 have hsz : s1.size = 1 := by rw [← list_len, hs1]; rfl
 have hz : (((⟨#[40]⟩ : ByteArray) ++ (s0 ++ T0) ++ (s1 ++ T1)) ++ ⟨#[105, 41]⟩).size ≤ 9223372036854775807 := by
  simp only [app_size]
  rw [show (⟨#[40]⟩ : ByteArray).size = 1 from rfl, show (⟨#[105, 41]⟩ : ByteArray).size = 2 from rfl]; omega
 have hin : inP (((⟨#[40]⟩ : ByteArray) ++ (s0 ++ T0) ++ (s1 ++ T1)) ++ ⟨#[105, 41]⟩) ((s0 ++ T0) ++ (s1 ++ T1)) := by
  unfold inP
  refine ba_ext ?_
  simp only [app_list, List.append_assoc]
 have h2 := (split_in hz hin).2
 rw [hk] at h2
 have h3 := h2 (by rw [← list_len]; exact fun e => hne (List.length_eq_zero_iff.1 e))
 have e1 : ((s0 ++ T0) ++ (s1 ++ T1)).extract 0 (s0 ++ T0).size = s0 ++ T0 := by
  refine ba_ext ?_
  rw [ext_li, app_list (a := s0 ++ T0), ← list_len, List.take_left, List.drop_zero]
 have e2 : ((s0 ++ T0) ++ (s1 ++ T1)).extract (s0 ++ T0).size ((s0 ++ T0) ++ (s1 ++ T1)).size = s1 ++ T1 := by
  refine ba_ext ?_
  rw [ext_li, List.take_of_length_le (by rw [list_len]; exact Nat.le_refl _), app_list (a := s0 ++ T0), ← list_len, List.drop_left]
 rw [e1, e2] at h3
 exact h3
end Go.Proofs.YtiagjheifblkiaaGreatDoor
namespace Go.Proofs.YtiagjheifblkiaaGreatDoor
open Go.RowKit
set_option linter.unusedVariables false
set_option linter.unusedSimpArgs false
theorem sci_few (sh : Bool) (d : ByteArray) (x : Int) : (sci sh d x).size ≤ d.size + 90 := by
 have h1 := ptd_size sh (d.extract 0 1) (d.extract 1 d.size)
 have h2 := sgd_size x 2 (by decide)
 have h3 : (⟨#[101]⟩ : ByteArray).size = 1 := rfl
 have h5 : (d.extract 0 1).size + (d.extract 1 d.size).size ≤ d.size := by rw [ByteArray.size_extract, ByteArray.size_extract]; omega
 unfold sci
 rw [app_size, app_size]; omega
theorem arA_few (d : ByteArray) (p : Int) : ((arA d p).size : Int) ≤ max p 1 := by
 have h := lnB_size d p
 unfold arA
 split
 ·show (1 : Int) ≤ _
  omega
 ·rw [ByteArray.size_extract]; omega
theorem num_few {m v d : Nat} {e verb : Int} (fv : Fine v) (gd : (oL d).length ≤ 900) (hm : m < 2 ^ 53) : (numTF false (-1) m e v d verb).size ≤ 1200 := by
 have hp1 := fv.p1
 unfold numTF
 split
 ·have e7 : cntE (-1) = 7 := by decide
  have hl := rnd_len (v := v) (c := 7) (by decide)
  have hs := oS_size (rnd v 7)
  have hz := lnB_size (oS (rnd v 7)) 7
  have := sci_few false (lnB (oS (rnd v 7)) 7) (pw0 (rnd v 7))
  unfold expT
  rw [e7]
  omega
 ·split
  ·have e6 : plcF (-1) = 6 := by decide
   have hl := plc_low (v := v) (k := 6) (by decide) (by decide)
   have hp : oP (plc v 6) ≤ max (oP v + 1) 0 := rnd_pt v _
   have hs := oS_size (plc v 6)
   have hb := arB_size_is (oS (plc v 6)) (oP (plc v 6))
   have ha := arA_few (oS (plc v 6)) (oP (plc v 6))
   have hz := lnB_size (arB (oS (plc v 6)) (oP (plc v 6))) 6
   have := ptd_size false (arA (oS (plc v 6)) (oP (plc v 6))) (lnB (arB (oS (plc v 6)) (oP (plc v 6))) 6)
   unfold fixT
   rw [e6]
   omega
  ·split
   ·have h1 := digT_size false 10 m
    have h2 := sgd_size e 1 (by decide)
    have h3 : (⟨#[112]⟩ : ByteArray).size = 1 := rfl
    unfold parT
    rw [app_size, app_size]; omega
   ·split
    ·have hs := hxD_size m (-1) hm
     have hb : ((hxD m (-1)).extract 1 (hxD m (-1)).size).size = 13 := by rw [ByteArray.size_extract, hs]; decide
     have ha : ((hxD m (-1)).extract 0 1).size ≤ 1 := by rw [ByteArray.size_extract]; omega
     have hhp : (hxP ((hxD m (-1)).extract 1 (hxD m (-1)).size) (-1)).size ≤ 13 := by
      unfold hxP
      rw [if_pos (by decide), mk_size]
      have := rtr_len ((hxD m (-1)).extract 1 (hxD m (-1)).size).data.toList
      rw [list_len] at this; omega
     have ht := ptd_size false ((hxD m (-1)).extract 0 1) (hxP ((hxD m (-1)).extract 1 (hxD m (-1)).size) (-1))
     have hg := sgd_size (nmE m e (-1)) 2 (by decide)
     have h3 : (⟨#[112]⟩ : ByteArray).size = 1 := rfl
     have h4 : (⟨#[48, 120]⟩ : ByteArray).size = 2 := rfl
     unfold hexT
     rw [app_size, app_size, app_size]; omega
    ·unfold genT
     rw [if_pos (by decide)]
     have hs := oS_size d
     have z1 := lnB_size (oS d) 1
     have hgz : (genD false d 6).size ≤ 901 := by
      unfold genD
      rw [if_neg (by decide)]; omega
     unfold genG
     split
     ·have := sci_few false (genD false d 6) (pw0 d)
      omega
     ·have h4 := arA_few (genD false d 6) (pw0 d + 1)
      have h5 := arB_size_is (genD false d 6) (pw0 d + 1)
      have h6 := ptd_size false (arA (genD false d 6) (pw0 d + 1)) (arB (genD false d 6) (pw0 d + 1))
      omega
theorem fin_few {m v d : Nat} {e verb : Int} (fv : Fine v) (gd : (oL d).length ≤ 900) (hm : m < 2 ^ 53) : (finT false (-1) m e v d verb).size ≤ 1200 := by
 unfold finT
 rw [big_size]
 exact num_few fv gd hm
theorem fl_part {bits : Nat} {size : Int} {f ww : Nat} {least : Int} {I : Nat} (h : Ly size f ww least I) (hb : bits < 18446744073709551616) {verb vb : Int} (hv : fVerb verb = true) (hvb : vb = verb ∨ (verb = 118 ∧ vb = 103)) :
  ∃ s0 s1 T : ByteArray, FlCq bits size false false false false false (-1) (-1) verb (s0 ++ T) true ∧ FlCq bits size true false false false false (-1) (-1) verb (s1 ++ T) true ∧ FlCq bits size true false false false false (-1) (-1) vb (s1 ++ T) true ∧ Shp T.data.toList ∧ s0.size ≤ 1 ∧ (s1 = ⟨#[43]⟩ ∨ s1 = ⟨#[45]⟩) ∧ T.size ≤ 1200 := by
 have hvv : fVerb vb = true := by
  rcases hvb with rfl | ⟨rfl, rfl⟩
  ·exact hv
  ·decide
 obtain ⟨o1, o2⟩ := float_odd h hb false false false false false (-1) (-1) verb hv
 obtain ⟨o3, o4⟩ := float_odd h hb true false false false false (-1) (-1) verb hv
 obtain ⟨o5, o6⟩ := float_odd h hb true false false false false (-1) (-1) vb hvv
 rcases Nat.lt_trichotomy (bare f ww bits) I with hp | hp | hp
 ·obtain ⟨d, hdB, gd, hF⟩ := fin_of h hb hp
  have hl := hdB.len
  have hl2 := hF.fv.len
  have hz := fin_size (sh := false) (prec := -1) (e := least + pk f (bare f ww bits)) (verb := verb) hF.fv hF.dl hF.dp hF.m53
  have hz2 := fin_few (e := least + pk f (bare f ww bits)) (verb := verb) hF.fv (d := d) (by omega) hF.m53
  have A := float_fin hF false false false false false (-1) (-1) verb hv
  have B := float_fin hF true false false false false (-1) (-1) verb hv
  have C := float_fin hF true false false false false (-1) (-1) vb hvv
  rw [filT_off _ _ _ _ (sgF_size _ _ _)] at A B C
  have e : finT false (-1) (pm f (bare f ww bits)) (least + pk f (bare f ww bits)) (val f least (bare f ww bits)) d vb = finT false (-1) (pm f (bare f ww bits)) (least + pk f (bare f ww bits)) (val f least (bare f ww bits)) d verb := by
   rcases hvb with rfl | ⟨rfl, rfl⟩
   ·rfl
   ·rw [finT_103, finT_118]
  rw [e] at C
  refine ⟨_, _, _, A, B, C, shp_fin hz.1, sgF_size _ _ _, ?_, hz2⟩
  cases sgn f ww bits
  ·exact .inl rfl
  ·exact .inr rfl
 ·have A := o1 hp
  have B := o3 hp
  have C := o5 hp
  rw [padS_off] at A B C
  refine ⟨_, _, _, A, B, C, shp_inf, Nat.le_of_eq (sgI_size _ _ _), ?_, by decide⟩
  cases sgn f ww bits
  ·exact .inl rfl
  ·exact .inr rfl
 ·have A := o2 hp
  have B := o4 hp
  have C := o6 hp
  rw [padS_off] at A B C
  exact ⟨_, _, _, A, B, C, shp_nan, sgF_size _ _ _, .inl rfl, by decide⟩
end Go.Proofs.YtiagjheifblkiaaGreatDoor
