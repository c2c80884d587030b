/- rawOf at pairs; rawOf at whatever value. -/
import Derived.Test.YtlgieoabellbmaaGreatDoorVRawG
namespace Go.Proofs.YtlgieoabellbmaaGreatDoor
open Go.RowKit
set_option linter.unusedVariables false
set_option linter.unusedSimpArgs false
set_option maxRecDepth 1000000 in
set_option maxHeartbeats 4000000 in
theorem rawof_pair (k h : Int) (ty : ByteArray) (n m : Int) (w : World) : Calls Tryz.prog 115 #[.iface 112 (.agg #[.int .i64 k, .string ty, .int .i64 h, .int .u64 n, .int .u64 m])] w fun e w' => e = .returned (.agg #[.int .i64 k, .string ty, .int .u64 n, .int .u64 m, .string ⟨#[]⟩, .slice none 0 0, .slice none 0 0, .int .i64 h]) ∧ Below w.heap.size w w' := by
 have h0 := ta_pair_truth
 have h1 := ta_pair_signed
 have h2 := ta_pair_unsigned
 have h3 := ta_pair_float
 have h4 := ta_pair_pair
 have h5 := ta_pair_text
 have h6 := ta_pair_octets
 have h7 := ta_pair_structure
 have h8 := ta_pair_pointer
 have hm := fun W => markof_pair k h ty n m W
 have hp := fun v W => partsof_pair v W
 obtain ⟨W1, hW1⟩ : ∃ W1, W1 = w.alloc (.cells #[.int .i64 0, .string ⟨#[]⟩, .int .u64 0, .int .u64 0, .string ⟨#[]⟩, .slice none 0 0, .slice none 0 0, .int .i64 0] 26) := ⟨_, rfl⟩
 have hb1 : Below w.heap.size w W1 := by rw [hW1]; exact (Below.refl _ _).alloc (Nat.le_refl _) _
 have c0 : W1.cell? ⟨w.heap.size, 0, none⟩ = some (.int .i64 0) ∧ W1.cell? ⟨w.heap.size, 1, none⟩ = some (.string ⟨#[]⟩) ∧ W1.cell? ⟨w.heap.size, 2, none⟩ = some (.int .u64 0) ∧ W1.cell? ⟨w.heap.size, 3, none⟩ = some (.int .u64 0) ∧ W1.cell? ⟨w.heap.size, 4, none⟩ = some (.string ⟨#[]⟩) ∧ W1.cell? ⟨w.heap.size, 5, none⟩ = some (.slice none 0 0) ∧ W1.cell? ⟨w.heap.size, 6, none⟩ = some (.slice none 0 0) ∧ W1.cell? ⟨w.heap.size, 7, none⟩ = some (.int .i64 0) := by rw [hW1]; simp
 have fz : ∀ i, W1.frozen? ⟨w.heap.size, i, none⟩ = false := fun i => by rw [hW1, frozen?_alloc_cells]; exact frozen_none _ _ (Nat.le_refl _)
 have zW1 : Zero8 W1 w.heap.size := ⟨c0, fz⟩
 go_enter Tryz.func115, Tryz.ntmps115
 go_wp2_with fail
 rw [← hW1]
 refine (hm _).mono ?_
 rintro e V ⟨rfl, hV⟩
 have zV : Zero8 V w.heap.size := zW1.up hV
 have hzV : w.heap.size < V.heap.size := lt_of_cell zV.1.1
 have hbV : Below w.heap.size w V := hb1.trans (hV.mono hb1.size)
 clear hm c0 fz zW1 hW1 hb1 hV
 obtain ⟨W5, hW5⟩ : ∃ W5, W5 = ((V.alloc (.cells #[.int .i64 k, .string ty, .int .i64 h] 60)).alloc (.cells #[.int .i64 k, .string ty, .int .u64 0, .int .u64 0, .string ⟨#[]⟩, .slice none 0 0, .slice none 0 0, .int .i64 h] 26)).alloc (.cells #[.int .i64 k, .string ty, .int .i64 h, .int .u64 n, .int .u64 m] 112) := ⟨_, rfl⟩
 have b5 : Below V.heap.size V W5 := by rw [hW5]; exact (((Below.refl _ _).alloc (Nat.le_refl _) _).alloc (by simp) _).alloc (by simp; omega) _
 have a5 : At8 W5 (V.heap.size + 1) 0 ⟨k, ty, 0, 0, ⟨#[]⟩, [], [], h⟩ (.slice none 0 0) (.slice none 0 0) := by
  rw [hW5]
  refine ⟨?_, ?_, ?_, ?_, ?_, ?_, ?_, ?_⟩
  all_goals simp [go_sem]
 have z5 : ∀ i, W5.frozen? ⟨V.heap.size + 1, i, none⟩ = false := fun i => by
  have e1 : (V.alloc (.cells #[.int .i64 k, .string ty, .int .i64 h] 60)).heap.size = V.heap.size + 1 := by simp
  rw [hW5, frozen?_alloc_cells, frozen?_alloc_cells, ← e1]
  exact frozen_none _ _ (Nat.le_refl _)
 have x3 : W5.cell? ⟨V.heap.size + 1 + 1, 3, none⟩ = some (.int .u64 n) := by rw [hW5]; simp [go_sem]
 have x4 : W5.cell? ⟨V.heap.size + 1 + 1, 4, none⟩ = some (.int .u64 m) := by rw [hW5]; simp [go_sem]
 have bw5 : Below w.heap.size w W5 := hbV.trans (b5.mono hbV.size)
 have zz5 : Zero8 W5 w.heap.size := zV.up b5
 go_upto_region 18 with fail
 rw [← hW5]
 clear hW5 zV b5
 obtain ⟨a0, a1, a2, a3, a4, a5, a6, a7⟩ := a5
 simp only [Nat.zero_add] at a0 a1 a2 a3 a4 a5 a6 a7
 have f2 := z5 2
 have f3 := z5 3
 have g1 : ∀ v, (fun w' : World => w'.cell? ⟨V.heap.size + 1 + 1, 3, none⟩ = some (.int .u64 n) ∧ w'.cell? ⟨V.heap.size + 1 + 1, 4, none⟩ = some (.int .u64 m)) (W5.drew.setCell ⟨V.heap.size + 1, 2, none⟩ v) := fun v => ⟨(World.cell?_of_block (w := W5) (a := ⟨V.heap.size + 1 + 1, 3, none⟩) (Below.heap_setCell _ _ _ _ (by dsimp only; omega))).trans x3, (World.cell?_of_block (w := W5) (a := ⟨V.heap.size + 1 + 1, 4, none⟩) (Below.heap_setCell _ _ _ _ (by dsimp only; omega))).trans x4⟩
 have g2 : ∀ v u, (fun w' : World => w'.cell? ⟨V.heap.size + 1 + 1, 3, none⟩ = some (.int .u64 n) ∧ w'.cell? ⟨V.heap.size + 1 + 1, 4, none⟩ = some (.int .u64 m)) ((W5.drew.setCell ⟨V.heap.size + 1, 2, none⟩ v).setCell ⟨V.heap.size + 1, 3, none⟩ u) := fun v u => ⟨(World.cell?_of_block (w := W5.drew.setCell ⟨V.heap.size + 1, 2, none⟩ v) (a := ⟨V.heap.size + 1 + 1, 3, none⟩) (Below.heap_setCell _ _ _ _ (by dsimp only; omega))).trans (g1 v).1, (World.cell?_of_block (w := W5.drew.setCell ⟨V.heap.size + 1, 2, none⟩ v) (a := ⟨V.heap.size + 1 + 1, 4, none⟩) (Below.heap_setCell _ _ _ _ (by dsimp only; omega))).trans (g1 v).2⟩
 refine wp_region_held_drew (S := fun w' : World => w'.cell? ⟨V.heap.size + 1 + 1, 3, none⟩ = some (.int .u64 n) ∧ w'.cell? ⟨V.heap.size + 1 + 1, 4, none⟩ = some (.int .u64 m)) (by kernel_rfl) ⟨x3, x4⟩ ?_
 intro hS
 refine tk 0 (.pointer (some ⟨V.heap.size + 1 + 1, 3, none⟩)) rfl (by kernel_rfl) (fun _ _ _ h => h) (by rfl) (by assumption) ?_ ?_
 ·intro w5 s0
  obtain ⟨s0, s1⟩ := s0
  go_simp
 try simp only [Act.put, lys]
 refine tk 1 (.int .u64 n) rfl (by kernel_rfl) (fun _ _ _ h => h) (by rfl) (by assumption) ?_ ?_
 ·intro w5 s0
  obtain ⟨s0, s1⟩ := s0
  go_simp
 try simp only [Act.put, lys]
 refine tk 2 (.pointer (some ⟨V.heap.size + 1 + 1, 4, none⟩)) rfl (by kernel_rfl) (fun _ _ _ h => h) (by rfl) (by assumption) ?_ ?_
 ·intro w5 s0
  obtain ⟨s0, s1⟩ := s0
  go_simp
 try simp only [Act.put, lys]
 refine tk 3 (.int .u64 m) rfl (by kernel_rfl) (fun _ _ _ h => h) (by rfl) (by assumption) ?_ ?_
 ·intro w5 s0
  obtain ⟨s0, s1⟩ := s0
  go_simp
 try simp only [Act.put, lys]
 refine tk 4 (.pointer (some ⟨V.heap.size + 1, 2, none⟩)) rfl (by kernel_rfl) (fun _ _ _ h => h) (by rfl) (by assumption) ?_ ?_
 ·intro w5 s0
  obtain ⟨s0, s1⟩ := s0
  go_simp
 try simp only [Act.put, lys]
 refine rd1 5 (by kernel_rfl) rfl fun K5 hK5 => ?_
 go_simp
 refine hK5.out _ _ (g1 _) (fun _ => ?_)
 clear hK5
 try simp only [Act.put, lys]
 refine wpAnyH_take (i := 6) (v := .pointer (some ⟨V.heap.size + 1, 3, none⟩)) rfl (by kernel_rfl) (by kernel_rfl) (by kernel_rfl) (fun _ _ _ h => h) (Or.inl ⟨by rfl, ?_⟩) (g1 _) ?_
 ·intro w5 s0
  obtain ⟨s0, s1⟩ := s0
  go_simp
 try simp only [Act.put, lys]
 refine rd1 7 (by kernel_rfl) rfl fun K7 hK7 => ?_
 go_simp
 refine hK7.out _ _ (g2 _ _) (fun _ => ?_)
 clear hK7
 try simp only [Act.put, lys]
 refine wpAnyH_done (by kernel_rfl) ?_ _
 have A6 : At8 (((W5.setCell ⟨V.heap.size + 1, 2, none⟩ (.int .u64 n)).setCell ⟨V.heap.size + 1, 3, none⟩ (.int .u64 m)).drew) (V.heap.size + 1) 0 ⟨k, ty, n, m, ⟨#[]⟩, [], [], h⟩ (.slice none 0 0) (.slice none 0 0) := by
  refine ⟨?_, ?_, ?_, ?_, ?_, ?_, ?_, ?_⟩
  all_goals simp [go_sem, a0, a1, a2, a3, a4, a5, a6, a7]
 have B6 : Below w.heap.size w (((W5.setCell ⟨V.heap.size + 1, 2, none⟩ (.int .u64 n)).setCell ⟨V.heap.size + 1, 3, none⟩ (.int .u64 m)).drew) := ((bw5.setCell (by dsimp only; omega) _).setCell (by dsimp only; omega) _).drew
 have Z6 : Zero8 (((W5.setCell ⟨V.heap.size + 1, 2, none⟩ (.int .u64 n)).setCell ⟨V.heap.size + 1, 3, none⟩ (.int .u64 m)).drew) w.heap.size := zz5.gr (X := V.heap.size + 1) ((gr_putV (gr_putV (World.grownBy.refl W5 (some (V.heap.size + 1))) (.int .u64 n)) (.int .u64 m)).trans (gr_belowV (Below.refl _ _).drew _)) (by omega)
 clear hS g1 g2 a0 a1 a2 a3 a4 a5 a6 a7 f2 f3 x3 x4 z5 zz5 bw5 hbV
 generalize ((W5.setCell ⟨V.heap.size + 1, 2, none⟩ (.int .u64 n)).setCell ⟨V.heap.size + 1, 3, none⟩ (.int .u64 m)).drew = W6 at *
 go_upto_block 1 with (go_at_call 28; refine (hp _ _).mono ?_; rintro e w1 ⟨rfl, hw1⟩; subst w1)
 go_cut [15, 91] (fun z i wx => wx = W6)
 case first =>
  go_wp2
  refine wp_loop_rounds 1 ?_
  rw [rounds_succ]
  go_wp2
  go_meet
  rfl
 case rest =>
  subst hcut
  obtain ⟨a0, a1, a2, a3, a4, a5, a6, a7⟩ := A6
  obtain ⟨⟨z0, z1, z2, z3, z4, z5, z6, z7⟩, zf⟩ := Z6
  simp only [Nat.zero_add] at a0 a1 a2 a3 a4 a5 a6 a7
  have y0 := zf 0
  have y1 := zf 1
  have y2 := zf 2
  have y3 := zf 3
  have y4 := zf 4
  have y5 := zf 5
  have y6 := zf 6
  have y7 := zf 7
  go_wp2
  obtain ⟨r0, r1, r2, r3, r4, r5, r6, r7⟩ := set8 z0 z1 z2 z3 z4 z5 z6 z7 (.int .i64 k) (.string ty) (.int .u64 n) (.int .u64 m) (.string ⟨#[]⟩) (.slice none 0 0) (.slice none 0 0) (.int .i64 h)
  refine bodyPost_ret (v := .agg #[.int .i64 k, .string ty, .int .u64 n, .int .u64 m, .string ⟨#[]⟩, .slice none 0 0, .slice none 0 0, .int .i64 h]) (by simp [results, Tryz.results115, go_sem, r0, r1, r2, r3, r4, r5, r6, r7]) rfl ?_
  exact ⟨rfl, set8_below B6 (Nat.le_refl _)⟩
structure GoodN (d : D) : Prop where
 fit : Fit d
 lo : 0 ≤ d.kind
 hi : d.kind ≤ 22
 form : frmB d = true
 few : great d.kind = true → d.parts.length ≤ 1000
def Good8 (d : D) : Prop := ∀ y ∈ nodes d, GoodN y
theorem Good8.self {d : D} (h : Good8 d) : GoodN d := h d (nodes_self d)
theorem Good8.part {d x : D} (h : Good8 d) (hg : great d.kind = true) (hx : x ∈ d.parts) : Good8 x := fun y hy => h y (nodes_part hg hx hy)
theorem named_sz {s : ByteArray} (h : namedB s = true) : s.size ≤ 32 := by
 unfold namedB at h
 split at h
 ·simp at h; exact h.1.1
 ·cases h
theorem inBits_fits (k b : Int) (h0 : 0 ≤ b) (h1 : b ≤ 18446744073709551615) : 0 ≤ inBits k b ∧ inBits k b ≤ 18446744073709551615 := by
 unfold inBits numF unN
 (repeat' split) <;> omega
theorem inImag_fits (k b : Int) (h0 : 0 ≤ b) (h1 : b ≤ 18446744073709551615) : 0 ≤ inImag k b ∧ inImag k b ≤ 18446744073709551615 := by
 unfold inImag
 (repeat' split) <;> omega
theorem fit_inF {d : D} (h : Fit d) : Fit (inF d) := by
 obtain ⟨h1, h2, h3, h4, h5, h6⟩ := h
 rw [inF_eq]
 split
 ·exact ⟨by decide, by decide, by decide, by decide, Nat.zero_le _, Nat.zero_le _⟩
 ·refine ⟨h1, inBits_fits _ _ h2.1 h2.2, inImag_fits _ _ h3.1 h3.2, h4, h5, ?_⟩
  show (inText d.kind d.text).size ≤ maxLen
  unfold inText
  split
  ·exact h6
  ·exact Nat.zero_le _
theorem inF_names (d : D) : (inF d).names = if d.kind = 18 then d.names else [] := by
 rw [inF_eq]
 by_cases h0 : d.kind = 0
 ·rw [if_pos h0, if_neg (by omega)]; rfl
 ·rw [if_neg h0]
theorem names_sz {d : D} (h : GoodN d) : ∀ s ∈ (inF d).names, s.size ≤ maxLen := by
 rw [inF_names]
 split
 ·rename_i h18
  intro s hs
  have hf := h.form
  unfold frmB at hf
  rw [if_neg (by omega), if_pos h18] at hf
  unfold fldB at hf
  simp at hf
  have := named_sz (hf.2.2 s hs)
  unfold maxLen
  omega
 ·intro s hs; cases hs
theorem flat_rd {n : Nat} {Q : Nat → Prop} {W : World} {d : D} (hf : Fit d) (hn : d.names = []) (hp : d.parts = []) : RdS (n + 1) Q W (.slice none 0 0) (.slice none 0 0) d := by
 refine RdS.mk hf (fun s hs => by rw [hn] at hs; cases hs) ?_ ?_
 ·rw [hn]; exact Nm.nil _ _
 ·rw [hp]; exact ⟨none, 0, rfl, Nat.le_refl _, Nat.zero_le _, fun i x h => by simp at h⟩
theorem raw_flatA (d : D) (hg : GoodN d) (hk : d.kind ≤ 17) (V : World) : Calls Tryz.prog 115 #[mdV d] V fun e W' => Below V.heap.size V W' ∧ e = .returned (DV (inF d) (.slice none 0 0) (.slice none 0 0)) := by
 have h0 := hg.lo
 have hb := hg.fit.2.1
 have hi := hg.fit.2.2.1
 rw [inF_flat d hk]
 have key : ∀ (v : Value) (k h : Int) (ty : ByteArray) (b i : Int) (s : ByteArray), mdV d = v → (∀ w, Calls Tryz.prog 115 #[v] w fun e w' => e = .returned (.agg #[.int .i64 k, .string ty, .int .u64 b, .int .u64 i, .string s, .slice none 0 0, .slice none 0 0, .int .i64 h]) ∧ Below w.heap.size w w') → inFlat d = ⟨k, ty, b, i, s, [], [], h⟩ → Calls Tryz.prog 115 #[mdV d] V fun e W' => Below V.heap.size V W' ∧ e = .returned (DV (inFlat d) (.slice none 0 0) (.slice none 0 0)) := by
  intro v k h ty b i s e1 hc e2
  rw [e1]
  refine (hc V).mono ?_
  rintro e W' ⟨rfl, hb⟩
  refine ⟨hb, ?_⟩
  rw [e2]
 unfold mdV at key ⊢
 unfold inFlat at key ⊢
 have e2 : sgN d.kind d.bits % 18446744073709551616 = sgN d.kind d.bits % 18446744073709551616 := rfl
 by_cases k1 : d.kind = 1
 ·refine key _ _ _ _ _ _ _ (by rw [if_pos k1]) (fun w => rawof_truth _ _ _ _ w) ?_
  rw [if_neg (by omega)]
  have : inBits d.kind d.bits = if decide (d.bits % 2 = 1) = true then 1 else 0 := by
   unfold inBits
   rw [if_pos k1]
   by_cases hb : d.bits % 2 = 1 <;> simp [hb] <;> omega
  rw [this]
  congr 1
  ·unfold inImag; rw [if_neg (by omega), if_neg (by omega)]
  ·unfold inText; rw [if_neg (by omega)]
 by_cases k2 : 2 ≤ d.kind ∧ d.kind ≤ 6
 ·refine key _ _ _ _ _ _ _ (by rw [if_neg k1, if_pos k2]) (fun w => rawof_signed _ _ _ _ w) ?_
  rw [if_neg (by omega)]
  congr 1
  ·unfold inBits numF
   rw [if_neg (by omega), if_pos (by omega), if_pos (by simp [sgnB]; omega)]
  ·unfold inImag; rw [if_neg (by omega), if_neg (by omega)]
  ·unfold inText; rw [if_neg (by omega)]
 by_cases k3 : 7 ≤ d.kind ∧ d.kind ≤ 11
 ·refine key _ _ _ _ _ _ _ (by rw [if_neg k1, if_neg k2, if_pos k3]) (fun w => rawof_unsigned _ _ _ _ w) ?_
  rw [if_neg (by omega)]
  congr 1
  ·unfold inBits numF
   rw [if_neg (by omega), if_pos (by omega), if_neg (by simp [sgnB]; omega)]
  ·unfold inImag; rw [if_neg (by omega), if_neg (by omega)]
  ·unfold inText; rw [if_neg (by omega)]
 by_cases k4 : d.kind = 12
 ·refine key _ _ _ _ _ _ _ (by rw [if_neg k1, if_neg k2, if_neg k3, if_pos k4]) (fun w => rawof_float _ _ _ _ w) ?_
  rw [if_neg (by omega)]
  congr 1
  ·unfold inBits
   rw [if_neg (by omega), if_neg (by omega), if_pos (by omega)]
  ·unfold inImag; rw [if_neg (by omega), if_neg (by omega)]
  ·unfold inText; rw [if_neg (by omega)]
 by_cases k5 : d.kind = 13
 ·refine key _ _ _ _ _ _ _ (by rw [if_neg k1, if_neg k2, if_neg k3, if_neg k4, if_pos k5]) (fun w => rawof_float _ _ _ _ w) ?_
  rw [if_neg (by omega)]
  congr 1
  ·unfold inBits
   rw [if_neg (by omega), if_neg (by omega), if_neg (by omega), if_pos (by omega)]
  ·unfold inImag; rw [if_neg (by omega), if_neg (by omega)]
  ·unfold inText; rw [if_neg (by omega)]
 by_cases k6 : d.kind = 14
 ·refine key _ _ _ _ _ _ _ (by rw [if_neg k1, if_neg k2, if_neg k3, if_neg k4, if_neg k5, if_pos k6]) (fun w => rawof_pair _ _ _ _ _ w) ?_
  rw [if_neg (by omega)]
  congr 1
  ·unfold inBits
   rw [if_neg (by omega), if_neg (by omega), if_pos (by omega)]
  ·unfold inImag; rw [if_pos k6]
  ·unfold inText; rw [if_neg (by omega)]
 by_cases k7 : d.kind = 15
 ·refine key _ _ _ _ _ _ _ (by rw [if_neg k1, if_neg k2, if_neg k3, if_neg k4, if_neg k5, if_neg k6, if_pos k7]) (fun w => rawof_pair _ _ _ _ _ w) ?_
  rw [if_neg (by omega)]
  congr 1
  ·unfold inBits
   rw [if_neg (by omega), if_neg (by omega), if_neg (by omega), if_pos (by omega)]
  ·unfold inImag; rw [if_neg (by omega), if_pos k7]
  ·unfold inText; rw [if_neg (by omega)]
 by_cases k8 : d.kind = 16
 ·refine key _ _ _ _ _ _ _ (by rw [if_neg k1, if_neg k2, if_neg k3, if_neg k4, if_neg k5, if_neg k6, if_neg k7, if_pos k8]) (fun w => rawof_text _ _ _ _ w) ?_
  rw [if_neg (by omega)]
  congr 1
  ·unfold inBits
   rw [if_neg (by omega), if_neg (by omega), if_neg (by omega), if_neg (by omega)]
  ·unfold inImag; rw [if_neg (by omega), if_neg (by omega)]
  ·unfold inText; rw [if_pos (by omega)]
 by_cases k9 : d.kind = 17
 ·refine key _ _ _ _ _ _ _ (by rw [if_neg k1, if_neg k2, if_neg k3, if_neg k4, if_neg k5, if_neg k6, if_neg k7, if_neg k8, if_pos k9]) (fun w => rawof_octets _ _ _ _ w) ?_
  rw [if_neg (by omega)]
  congr 1
  ·unfold inBits
   rw [if_neg (by omega), if_neg (by omega), if_neg (by omega), if_neg (by omega)]
  ·unfold inImag; rw [if_neg (by omega), if_neg (by omega)]
  ·unfold inText; rw [if_pos (by omega)]
 ·refine key _ _ _ _ _ _ _ (by rw [if_neg k1, if_neg k2, if_neg k3, if_neg k4, if_neg k5, if_neg k6, if_neg k7, if_neg k8, if_neg k9]) (fun w => rawof_nothing _ _ _ w) ?_
  rw [if_pos (by omega)]
theorem raw_any : ∀ (n : Nat) (d : D), Good8 d → RawR n d := by
 intro n
 induction n with
 | zero => intro d _ S V y h; exact h.elim
 | succ n ih =>
   intro d hg S V y h
   have hs := hg.self
   by_cases hk : d.kind ≤ 17
   ·have hy := vl_flat h hk
    rw [hy]
    refine (raw_flatA d hs hk V).mono ?_
    rintro e W' ⟨hb, rfl⟩
    refine ⟨hb, _, _, rfl, flat_rd (fit_inF hs.fit) ?_ ?_⟩
    ·rw [inF_names, if_neg (by omega)]
    ·rw [inF_parts d (key_of hs.form)]
     have : vp d = [] := by
      unfold vp
      have hgr : great d.kind = false := by simp [great]; omega
      rw [if_neg (by omega), hgr]
      rfl
     rw [this]; rfl
   ·have hgr : great d.kind = true := by have := hs.hi; simp [great]; omega
    have hfew := hs.few hgr
    have h22 := hs.hi
    have hrec : ∀ x ∈ vp d, RawR n x := fun x hx => ih x (hg.part hgr (vp_mem hx).2)
    have hpr := inF_parts d (key_of hs.form)
    have hlen : (vp d).length ≤ 1000 := by
     unfold vp
     split
     ·rw [flat2_len, srt_len]; omega
     ·first | exact hfew | (rw [if_pos hgr]; exact hfew)
    have hp : ∀ W, Below V.heap.size V W → V.heap.size ≤ W.heap.size → Calls Tryz.prog 28 #[y] W fun e W' => Below W.heap.size W W' ∧ ∃ (ga : Option Addr) (gc : Nat) (S : Nat → Prop), e = .returned (.slice ga (vp d).length gc) ∧ (∀ b, S b → b < V.heap.size) ∧ Vals (VlC srt n S W) (fun b => S b ∨ W.heap.size ≤ b) W' ga (vp d) := by
     intro W hW _
     have h2 : VlC srt (n + 1) (fun b => S b ∧ b < V.heap.size) W y d := h.turn fun b hb hl => ⟨⟨hb, hl⟩, fun o => hW.cell hl⟩
     refine (partsof_any n _ d y W h2 hs.lo hs.hi hs.few).mono ?_
     rintro e W' ⟨hb, ga, gc, rfl, hv⟩
     exact ⟨hb, ga, gc, _, rfl, fun b hb => hb.2, hv⟩
    have fin : ∀ (bits : Int) (W' : World) (nv pv : Value), inBits d.kind d.bits = bits → Nm W' (fun b => V.heap.size ≤ b) nv (if d.kind = 18 then d.names else []) → Pt n (fun b => V.heap.size ≤ b) W' pv ((vp d).map inF) → (Value.agg #[.int .i64 d.kind, .string d.ty, .int .u64 bits, .int .u64 0, .string ⟨#[]⟩, nv, pv, .int .i64 d.hook] = DV (inF d) nv pv) ∧ RdS (n + 1) (fun b => V.heap.size ≤ b) W' nv pv (inF d) := by
     intro bits W' nv pv hb h1 h2
     refine ⟨?_, RdS.mk (fit_inF hs.fit) (names_sz hs) (by rw [inF_names]; exact h1) (by rw [hpr]; exact h2)⟩
     have hF : inF d = ⟨d.kind, d.ty, inBits d.kind d.bits, inImag d.kind d.imag, inText d.kind d.text, if d.kind = 18 then d.names else [], if d.kind = 21 then flat2 (srt (d.parts.map inF)) else if great d.kind then d.parts.map inF else [], d.hook⟩ := by rw [inF_eq, if_neg (by omega)]
     have e1 : inImag d.kind d.imag = 0 := by unfold inImag; rw [if_neg (by omega), if_neg (by omega)]
     have e2 : inText d.kind d.text = ⟨#[]⟩ := by unfold inText; rw [if_neg (by omega)]
     rw [hF, e1, e2, hb]
    unfold VlC at h
    rw [if_neg hk] at h
    have b0 : d.kind ≠ 22 → inBits d.kind d.bits = 0 := fun hne => by
     unfold inBits
     rw [if_neg (by omega), if_neg (by omega), if_neg (by omega), if_neg (by omega)]
    split at h
    ·rename_i h18
     obtain ⟨na, nc, fa, fc, rfl, -, -, -, -, hna, -⟩ := h
     have hnl : d.names.length = d.parts.length := by
      have k2 := hs.form
      unfold frmB at k2
      rw [if_neg (by omega), if_pos h18] at k2
      unfold fldB at k2
      simp at k2
      exact k2.2.1
     refine (rawg_structure n _ _ _ d.names na nc fa _ fc (vp d) V hna (by omega) hlen hrec hp).mono ?_
     rintro e W' ⟨hb, nv, pv, rfl, h1, h2⟩
     obtain ⟨e1, e2⟩ := fin 0 W' nv pv (b0 (by omega)) (by rw [if_pos h18]; exact h1) h2
     exact ⟨hb, nv, pv, by rw [e1], e2⟩
    rename_i h18
    split at h
    ·rename_i h21
     obtain ⟨fa, fc, rfl, -⟩ := h
     refine (rawg_dictionary n _ _ _ fa _ fc (vp d) V hlen hrec hp).mono ?_
     rintro e W' ⟨hb, nv, pv, rfl, h1, h2⟩
     obtain ⟨e1, e2⟩ := fin 0 W' nv pv (b0 (by omega)) (by rw [if_neg h18]; exact h1) h2
     exact ⟨hb, nv, pv, by rw [e1], e2⟩
    rename_i h21
    split at h
    ·rename_i h22'
     obtain ⟨fa, fc, rfl, -⟩ := h
     refine (rawg_pointer n _ _ _ _ fa _ fc (vp d) V hlen hrec hp).mono ?_
     rintro e W' ⟨hb, nv, pv, rfl, h1, h2⟩
     obtain ⟨e1, e2⟩ := fin d.bits W' nv pv (by unfold inBits; rw [if_neg (by omega), if_neg (by omega), if_neg (by omega), if_pos (by omega)]) (by rw [if_neg h18]; exact h1) h2
     exact ⟨hb, nv, pv, by rw [e1], e2⟩
    ·rename_i h22'
     obtain ⟨fa, fc, rfl, -⟩ := h
     refine (rawg_list n _ _ _ fa _ fc (vp d) V hlen hrec hp).mono ?_
     rintro e W' ⟨hb, nv, pv, rfl, h1, h2⟩
     obtain ⟨e1, e2⟩ := fin 0 W' nv pv (b0 h22') (by rw [if_neg h18]; exact h1) h2
     exact ⟨hb, nv, pv, by rw [e1], e2⟩
end Go.Proofs.YtlgieoabellbmaaGreatDoor
