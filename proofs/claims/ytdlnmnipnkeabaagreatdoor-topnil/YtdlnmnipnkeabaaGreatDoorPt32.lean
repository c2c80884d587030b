/- NRaw, VMadeAll: these texts in one. -/
import Derived.Test.YtdlnmnipnkeabaaGreatDoorPt31
import Derived.Test.YtdlnmnipnkeabaaGreatDoorPt19
namespace Go.Proofs.YtdlnmnipnkeabaaGreatDoor
open Go.RowKit
set_option linter.unusedVariables false
set_option linter.unusedSimpArgs false
theorem gr_putN {w w' : World} {R o : Nat} (h : w.grownBy w' (some R)) (v : Value) : w.grownBy (w'.setCell ⟨R, o, none⟩ v) (some R) :=
 ⟨h.os, h.tape, h.output, by simpa [World.setCell] using h.size, fun k hk hne => by rw [Below.heap_setCell _ _ _ _ (fun e => hne (by rw [e]))]; exact h.block k hk hne⟩
theorem Zero8.grN {W W' : World} {b X : Nat} (h : Zero8 W b) (hg : W.grownBy W' (some X)) (hne : b ≠ X) : Zero8 W' b := by
 obtain ⟨⟨h0, h1, h2, h3, h4, h5, h6, h7⟩, hf⟩ := h
 have hb : b < W.heap.size := lt_of_cell h0
 have hn : ∀ o : Nat, some (⟨b, o, none⟩ : Addr).block ≠ some X := fun _ e => hne (Option.some.inj e)
 exact ⟨⟨hg.cell h0 (hn 0), hg.cell h1 (hn 1), hg.cell h2 (hn 2), hg.cell h3 (hn 3), hg.cell h4 (hn 4), hg.cell h5 (hn 5), hg.cell h6 (hn 6), hg.cell h7 (hn 7)⟩, fun i => (hg.frozen_far ⟨b, i, none⟩ hb (hn i)).trans (hf i)⟩
theorem info_DescN : ∃ i, Tryz.prog.info? 29 = some i ∧ i.zero = some (.agg #[.int .i64 0, .string ⟨#[]⟩, .int .u64 0, .int .u64 0, .string ⟨#[]⟩, .slice none 0 0, .slice none 0 0, .int .i64 0]) ∧ i.size = 8 ∧ i.bytes = 112 := by
 have h : (Tryz.prog.info? 29).map (fun i => (i.zero, i.size, i.bytes)) = some (some (.agg #[.int .i64 0, .string ⟨#[]⟩, .int .u64 0, .int .u64 0, .string ⟨#[]⟩, .slice none 0 0, .slice none 0 0, .int .i64 0]), 8, 112) := by kernel_rfl
 obtain ⟨i, hi, hb⟩ := Option.map_eq_some_iff.1 h
 simp only [Prod.mk.injEq] at hb
 exact ⟨i, hi, hb⟩
theorem wp_appN {o : Oper} {a : Act} {K : Act → World → Prop} {Q : Exit → Act → World → Prop} (s x : Operand) (ho : o.op = .call { callee := .builtin .append, args := #[s, x], argTypes := #[25, 25] })
  {W0 W : World} (us : List Value) (hl : us.length = 8) (h1 : ∀ u ∈ us, u.oneCell' = true) (hs : a.eval s = .slice none 0 0) (hx : a.eval x = .slice (some ⟨W0.heap.size, 0, none⟩) 1 1) (hw : W = W0.alloc (.cells us.toArray 29))
  (hk : ∀ ao c w', Below W0.heap.size W0 w' → K (a.put o.dst (.slice ao 1 c)) w') : o.wp Tryz.prog a W K Q := by
 obtain ⟨i0, hi, hz0, hz1, hz2⟩ := info_DescN
 subst hw
 have al : ∀ (j : Nat) (u : Value), us[j]? = some u → (W0.alloc (.cells us.toArray 29)).cell? ((⟨W0.heap.size, 0, none⟩ : Addr).add j) = some u := by
  intro j u hj
  rw [show ((⟨W0.heap.size, 0, none⟩ : Addr).add j) = ⟨W0.heap.size, j, none⟩ by unfold Addr.add; split <;> simp_all]
  exact (cell_of_row (W0.alloc (.cells us.toArray 29)) W0.heap.size j us.toArray 29 (0, 0) (heap_alloc_new W0 _)).trans (by simpa using hj)
 obtain ⟨v', w', hr, q2, q3, -, -⟩ := run_append_own_at (P := Tryz.prog) (W0.alloc (.cells us.toArray 29)) W0.heap.size 25 o.type 29 i0 _ 8 112 Tryz.underlying25 hi hz0 hz1 hz2 rfl (by decide) (.slice none 0 0) 0 [] (World.ownsRow_nil _ _ _ _) ⟨W0.heap.size, 0, none⟩ 1 1 us (by rw [hl]) al h1 (by unfold maxLen; omega) (by omega) (by simp [hl])
 obtain ⟨ao, c, rfl⟩ : ∃ ao c, v' = .slice ao 1 c := by
  rcases q2.2 with ⟨h1, h2⟩ | ⟨g, cap, cur, h1, -⟩
  ·first | omega | (exfalso; have := congrArg List.length h2; simp [hl] at this)
  ·exact ⟨_, _, h1⟩
 unfold Oper.wp execOp
 simp only [ho, resolve, invoke, builtin, Sem.run_bind, Sem.run_pure, Result.andThen_ok, List.map_toArray, List.map_cons, List.map_nil, hs, hx, hr]
 exact hk ao c w' (((Below.refl W0.heap.size W0).alloc (Nat.le_refl _) _).grown q3 (by simp) (fun k hk => by cases hk))
set_option maxRecDepth 1000000 in
set_option maxHeartbeats 4000000 in
theorem partsof_ptr (k h : Int) (ty : ByteArray) (n : Int) (a2 : Option Addr) (n2 c2 : Nat) (w : World) : Calls Tryz.prog 235 #[.iface 183 (.agg #[.int .i64 k, .string ty, .int .i64 h, .int .u64 n, .slice a2 n2 c2])] w fun e w' => e = .returned (.slice a2 n2 c2) ∧ Below w.heap.size w w' := by
 have h0 := np_structure
 have h1 := np_list
 have h2 := np_dictionary
 have h3 := np_pointer
 go_enter Tryz.func235, Tryz.ntmps235
 go_wp2
 go_ret
 exact ⟨rfl, (Below.refl _ _).alloc (Nat.le_refl _) _⟩
set_option maxRecDepth 1000000 in
set_option maxHeartbeats 4000000 in
theorem rawof_ptr0 (k h : Int) (ty : ByteArray) (nb : Int) (fa : Option Addr) (fc : Nat) (w : World) : Calls Tryz.prog 187 #[.iface 183 (.agg #[.int .i64 k, .string ty, .int .i64 h, .int .u64 nb, .slice fa 0 fc])] w fun e w' => (e = .returned (.agg #[.int .i64 k, .string ty, .int .u64 nb, .int .u64 0, .string ⟨#[]⟩, .slice none 0 0, .slice none 0 0, .int .i64 h])) ∧ Below w.heap.size w w' := by
 have h0 := np_truth
 have h1 := np_signed
 have h2 := np_unsigned
 have h3 := np_float
 have h4 := np_pair
 have h5 := np_text
 have h6 := np_octets
 have h7 := np_structure
 have h8 := np_pointer
 have hm := fun W => markof_ptr k h ty nb fa 0 fc W
 have hp := fun W => partsof_ptr k h ty nb fa 0 fc W
 obtain ⟨W1, hW1⟩ : ∃ W1, W1 = w.alloc (.cells #[.int .i64 0, .string ⟨#[]⟩, .int .u64 0, .int .u64 0, .string ⟨#[]⟩, .slice none 0 0, .slice none 0 0, .int .i64 0] 29) := ⟨_, rfl⟩
 have hb1 : Below w.heap.size w W1 := by rw [hW1]; exact (Below.refl _ _).alloc (Nat.le_refl _) _
 have c0 : W1.cell? ⟨w.heap.size, 0, none⟩ = some (.int .i64 0) ∧ W1.cell? ⟨w.heap.size, 1, none⟩ = some (.string ⟨#[]⟩) ∧ W1.cell? ⟨w.heap.size, 2, none⟩ = some (.int .u64 0) ∧ W1.cell? ⟨w.heap.size, 3, none⟩ = some (.int .u64 0) ∧ W1.cell? ⟨w.heap.size, 4, none⟩ = some (.string ⟨#[]⟩) ∧ W1.cell? ⟨w.heap.size, 5, none⟩ = some (.slice none 0 0) ∧ W1.cell? ⟨w.heap.size, 6, none⟩ = some (.slice none 0 0) ∧ W1.cell? ⟨w.heap.size, 7, none⟩ = some (.int .i64 0) := by rw [hW1]; simp
 have fz : ∀ i, W1.frozen? ⟨w.heap.size, i, none⟩ = false := fun i => by rw [hW1, frozen?_alloc_cells]; exact frozen_none _ _ (Nat.le_refl _)
 have zW1 : Zero8 W1 w.heap.size := ⟨c0, fz⟩
 go_enter Tryz.func187, Tryz.ntmps187
 go_wp2_with fail
 rw [← hW1]
 refine (hm _).mono ?_
 rintro e V ⟨rfl, hV⟩
 have zV : Zero8 V w.heap.size := zW1.up hV
 have hzV : w.heap.size < V.heap.size := lt_of_cell zV.1.1
 have hbV : Below w.heap.size w V := hb1.trans (hV.mono hb1.size)
 clear hm c0 fz zW1 hW1 hb1 hV
 obtain ⟨W5, hW5⟩ : ∃ W5, W5 = (((V.alloc (.cells #[.int .i64 k, .string ty, .int .i64 h] 147)).alloc (.cells #[.int .i64 k, .string ty, .int .u64 nb, .int .u64 0, .string ⟨#[]⟩, .slice none 0 0, .slice none 0 0, .int .i64 h] 29)).alloc (.cells #[.int .i64 k, .string ty, .int .i64 h, .int .u64 nb, .slice fa 0 fc] 183)) := ⟨_, rfl⟩
 have b5 : Below V.heap.size V W5 := by rw [hW5]; exact (((Below.refl _ _).alloc (Nat.le_refl _) _).alloc (by simp) _).alloc (by simp; omega) _
 have a5 : At8 W5 (V.heap.size + 1) 0 ⟨k, ty, nb, 0, ⟨#[]⟩, [], [], h⟩ (.slice none 0 0) (.slice none 0 0) := by
  rw [hW5]
  refine ⟨?_, ?_, ?_, ?_, ?_, ?_, ?_, ?_⟩
  all_goals simp [go_sem]
 have z5 : ∀ i, W5.frozen? ⟨V.heap.size + 1, i, none⟩ = false := fun i => by
  have e1 : (V.alloc (.cells #[.int .i64 k, .string ty, .int .i64 h] 147)).heap.size = V.heap.size + 1 := by simp
  rw [hW5, frozen?_alloc_cells, frozen?_alloc_cells, ← e1]
  exact frozen_none _ _ (Nat.le_refl _)
 have s5 : V.heap.size + 2 ≤ W5.heap.size := by rw [hW5]; simp
 have bw5 : Below w.heap.size w W5 := hbV.trans (b5.mono hbV.size)
 have zz5 : Zero8 W5 w.heap.size := zV.up b5
 go_upto_region 31 with fail
 rw [← hW5]
 clear hW5 zV
 go_upto_block 1 with (go_at_call 235; refine (hp _).mono ?_; rintro e W6 ⟨rfl, b6⟩)
 have a6 := a5.up b6
 have f6 : W6.frozen? ⟨V.heap.size + 1, 6, none⟩ = false := (b6.frozen (p := ⟨V.heap.size + 1, 6, none⟩) (by dsimp only; omega)).trans (z5 6)
 have zz6 := zz5.up b6
 have bw6 : Below w.heap.size w W6 := bw5.trans (b6.mono bw5.size)
 have hx6 : V.heap.size + 1 < W6.heap.size := Nat.lt_of_lt_of_le (by omega) b6.size
 have hX0 : w.heap.size < V.heap.size + 1 := by omega
 clear a5 z5 zz5 b5 bw5 s5 hp hbV b6 hzV
 generalize V.heap.size + 1 = X at *
 have a7 := a6
 have z7 := zz6
 have b7 := bw6
 go_cut [15, 91] (fun z i wx => wx = W6)
 case first =>
  go_wp2_with fail
  refine wp_loop_rounds 1 ?_
  rw [rounds_succ]
  go_wp2
  go_meet
  rfl
 case rest =>
  subst hcut
  clear a6 f6 zz6 bw6
  obtain ⟨a0, a1, a2, a3, a4, a5, a6, a7⟩ := a7
  obtain ⟨⟨z0, z1, z2, z3, z4, z5, z6, z7⟩, zf⟩ := z7
  simp only [Nat.zero_add] at a0 a1 a2 a3 a4 a5 a6 a7
  have y0 := zf 0
  have y1 := zf 1
  have y2 := zf 2
  have y3 := zf 3
  have y4 := zf 4
  have y5 := zf 5
  have y6 := zf 6
  have y7 := zf 7
  go_wp2
  obtain ⟨r0, r1, r2, r3, r4, r5, r6, r7⟩ := set8 z0 z1 z2 z3 z4 z5 z6 z7 (.int .i64 k) (.string ty) (.int .u64 nb) (.int .u64 0) (.string ⟨#[]⟩) (.slice none 0 0) (.slice none 0 0) (.int .i64 h)
  refine bodyPost_ret (v := .agg #[.int .i64 k, .string ty, .int .u64 nb, .int .u64 0, .string ⟨#[]⟩, .slice none 0 0, .slice none 0 0, .int .i64 h]) (by simp [results, Tryz.results187, go_sem, r0, r1, r2, r3, r4, r5, r6, r7]) rfl ?_
  exact ⟨rfl, set8_below b7 (Nat.le_refl _)⟩
set_option maxRecDepth 1000000 in
set_option maxHeartbeats 4000000 in
theorem rawof_ptr1 (k h : Int) (ty : ByteArray) (nb : Int) (B off fc : Nat) (w : World) (hB : w.cell? ⟨B, off, none⟩ = some (VS 6 1)) : Calls Tryz.prog 187 #[.iface 183 (.agg #[.int .i64 k, .string ty, .int .i64 h, .int .u64 nb, .slice (some ⟨B, off, none⟩) 1 fc])] w fun e w' => (∃ ao c, e = .returned (.agg #[.int .i64 k, .string ty, .int .u64 nb, .int .u64 0, .string ⟨#[]⟩, .slice none 0 0, .slice ao 1 c, .int .i64 h])) ∧ Below w.heap.size w w' := by
 have h0 := np_truth
 have h1 := np_signed
 have h2 := np_unsigned
 have h3 := np_float
 have h4 := np_pair
 have h5 := np_text
 have h6 := np_octets
 have h7 := np_structure
 have h8 := np_pointer
 have hm := fun W => markof_ptr k h ty nb (some ⟨B, off, none⟩) 1 fc W
 have hp := fun W => partsof_ptr k h ty nb (some ⟨B, off, none⟩) 1 fc W
 obtain ⟨W1, hW1⟩ : ∃ W1, W1 = w.alloc (.cells #[.int .i64 0, .string ⟨#[]⟩, .int .u64 0, .int .u64 0, .string ⟨#[]⟩, .slice none 0 0, .slice none 0 0, .int .i64 0] 29) := ⟨_, rfl⟩
 have hb1 : Below w.heap.size w W1 := by rw [hW1]; exact (Below.refl _ _).alloc (Nat.le_refl _) _
 have c0 : W1.cell? ⟨w.heap.size, 0, none⟩ = some (.int .i64 0) ∧ W1.cell? ⟨w.heap.size, 1, none⟩ = some (.string ⟨#[]⟩) ∧ W1.cell? ⟨w.heap.size, 2, none⟩ = some (.int .u64 0) ∧ W1.cell? ⟨w.heap.size, 3, none⟩ = some (.int .u64 0) ∧ W1.cell? ⟨w.heap.size, 4, none⟩ = some (.string ⟨#[]⟩) ∧ W1.cell? ⟨w.heap.size, 5, none⟩ = some (.slice none 0 0) ∧ W1.cell? ⟨w.heap.size, 6, none⟩ = some (.slice none 0 0) ∧ W1.cell? ⟨w.heap.size, 7, none⟩ = some (.int .i64 0) := by rw [hW1]; simp
 have fz : ∀ i, W1.frozen? ⟨w.heap.size, i, none⟩ = false := fun i => by rw [hW1, frozen?_alloc_cells]; exact frozen_none _ _ (Nat.le_refl _)
 have zW1 : Zero8 W1 w.heap.size := ⟨c0, fz⟩
 go_enter Tryz.func187, Tryz.ntmps187
 go_wp2_with fail
 rw [← hW1]
 refine (hm _).mono ?_
 rintro e V ⟨rfl, hV⟩
 have zV : Zero8 V w.heap.size := zW1.up hV
 have hzV : w.heap.size < V.heap.size := lt_of_cell zV.1.1
 have hbV : Below w.heap.size w V := hb1.trans (hV.mono hb1.size)
 clear hm c0 fz zW1 hW1 hb1 hV
 obtain ⟨W5, hW5⟩ : ∃ W5, W5 = (((V.alloc (.cells #[.int .i64 k, .string ty, .int .i64 h] 147)).alloc (.cells #[.int .i64 k, .string ty, .int .u64 nb, .int .u64 0, .string ⟨#[]⟩, .slice none 0 0, .slice none 0 0, .int .i64 h] 29)).alloc (.cells #[.int .i64 k, .string ty, .int .i64 h, .int .u64 nb, .slice (some ⟨B, off, none⟩) 1 fc] 183)) := ⟨_, rfl⟩
 have b5 : Below V.heap.size V W5 := by rw [hW5]; exact (((Below.refl _ _).alloc (Nat.le_refl _) _).alloc (by simp) _).alloc (by simp; omega) _
 have a5 : At8 W5 (V.heap.size + 1) 0 ⟨k, ty, nb, 0, ⟨#[]⟩, [], [], h⟩ (.slice none 0 0) (.slice none 0 0) := by
  rw [hW5]
  refine ⟨?_, ?_, ?_, ?_, ?_, ?_, ?_, ?_⟩
  all_goals simp [go_sem]
 have z5 : ∀ i, W5.frozen? ⟨V.heap.size + 1, i, none⟩ = false := fun i => by
  have e1 : (V.alloc (.cells #[.int .i64 k, .string ty, .int .i64 h] 147)).heap.size = V.heap.size + 1 := by simp
  rw [hW5, frozen?_alloc_cells, frozen?_alloc_cells, ← e1]
  exact frozen_none _ _ (Nat.le_refl _)
 have s5 : V.heap.size + 2 ≤ W5.heap.size := by rw [hW5]; simp
 have bw5 : Below w.heap.size w W5 := hbV.trans (b5.mono hbV.size)
 have zz5 : Zero8 W5 w.heap.size := zV.up b5
 go_upto_region 31 with fail
 rw [← hW5]
 clear hW5 zV
 go_upto_block 1 with (go_at_call 235; refine (hp _).mono ?_; rintro e W6 ⟨rfl, b6⟩)
 have a6 := a5.up b6
 have f6 : W6.frozen? ⟨V.heap.size + 1, 6, none⟩ = false := (b6.frozen (p := ⟨V.heap.size + 1, 6, none⟩) (by dsimp only; omega)).trans (z5 6)
 have zz6 := zz5.up b6
 have bw6 : Below w.heap.size w W6 := bw5.trans (b6.mono bw5.size)
 have hx6 : V.heap.size + 1 < W6.heap.size := Nat.lt_of_lt_of_le (by omega) b6.size
 have hX0 : w.heap.size < V.heap.size + 1 := by omega
 clear a5 z5 zz5 b5 bw5 s5 hp hbV b6 hzV
 generalize V.heap.size + 1 = X at *
 have q0 : W6.cell? ⟨B, off, none⟩ = some (VS 6 1) := up_cell bw6 hB
 clear hB
 go_cut [15, 91] (fun z i wx => ∃ ao c, At8 wx X 0 ⟨k, ty, nb, 0, ⟨#[]⟩, [], [], h⟩ (.slice none 0 0) (.slice ao 1 c) ∧ Zero8 wx w.heap.size ∧ Below w.heap.size w wx)
 case first =>
  go_wp2_with fail
  refine wp_loop_rounds 2 ?_
  rw [rounds_succ]
  go_upto_region 34 with fail
  have aY := a6.up (Below.refl W6.heap.size W6).drew
  have zY := zz6.up (Below.refl W6.heap.size W6).drew
  have fY : W6.drew.frozen? ⟨X, 6, none⟩ = false := ((Below.refl W6.heap.size W6).drew.frozen (p := ⟨X, 6, none⟩) hx6).trans f6
  have bY := bw6.drew
  have xY : X < W6.drew.heap.size := hx6
  clear a6 f6 zz6 bw6 hx6 q0
  refine wp_region_held_drew (S := fun _ => True) (by kernel_rfl) trivial ?_
  generalize W6.drew = Y at *
  intro hS
  have hrec := rawof_signed 6 0 ⟨#[]⟩ 1 Y
  rw [show (1 : Int) % 18446744073709551616 = 1 from rfl] at hrec
  have c6 := aY.2.2.2.2.2.2.1
  simp only [Nat.zero_add] at c6
  refine tk 0 (.pointer (some ⟨X, 6, none⟩)) rfl (by kernel_rfl) (fun _ _ _ h => h) (by rfl) (by assumption) ?_ ?_
  ·intro w5 s0
   go_simp
  try simp only [Act.put, lys]
  refine tk 2 (VS 6 1) rfl (by kernel_rfl) (fun _ _ _ h => h) (by rfl) (by assumption) ?_ ?_
  ·intro w5 s0
   go_simp
  try simp only [Act.put, lys]
  refine wpAnyH_ready (rs := [1, 3]) (by kernel_rfl) (by simp) ?_
  refine AllReadyH.cons rfl (fun K1 hK1 => ?_) (AllReadyH.cons rfl (fun K1 hK1 => ?_) AllReadyH.nil)
  ·have cL := c6
   go_simp
   refine hK1.out _ _ trivial (fun _ => ?_)
   clear hK1
   try simp only [Act.put, lys]
   clear cL
   refine rd1 3 (by kernel_rfl) rfl fun K3 hK3 => ?_
   go_simp
   refine hrec.mono ?_
   rintro e Z ⟨rfl, bZ⟩
   refine hK3.out _ _ trivial (fun _ => ?_)
   clear hK3
   try simp only [Act.put, lys]
   have aZ := aY.up bZ
   have zZ := zY.up bZ
   have fZ : Z.frozen? ⟨X, 6, none⟩ = false := (bZ.frozen (p := ⟨X, 6, none⟩) xY).trans fY
   have bwZ := bY.trans (bZ.mono bY.size)
   have c6Z := aZ.2.2.2.2.2.2.1
   simp only [Nat.zero_add] at c6Z
   refine rd1 4 (by kernel_rfl) rfl fun K4 hK4 => ?_
   go_simp
   refine hK4.out _ _ trivial (fun _ => ?_)
   clear hK4
   try simp only [Act.put, lys]
   refine rd1 5 (by kernel_rfl) rfl fun K5 hK5 => ?_
   rw [if_pos (by rfl)]
   refine wp_appN (W0 := Z) _ _ rfl [.int .i64 6, .string ⟨#[]⟩, .int .u64 1, .int .u64 0, .string ⟨#[]⟩, .slice none 0 0, .slice none 0 0, .int .i64 0] rfl (by intro u hu; simp at hu; rcases hu with rfl | rfl | rfl | rfl | rfl | rfl | rfl | rfl <;> rfl) rfl rfl rfl ?_
   intro ao c w7 b7
   refine hK5.out _ _ trivial (fun _ => ?_)
   clear hK5
   try simp only [Act.put, lys]
   have a7 := aZ.up b7
   have z7 := zZ.up b7
   have f7 : w7.frozen? ⟨X, 6, none⟩ = false := (b7.frozen (p := ⟨X, 6, none⟩) (lt_of_cell c6Z)).trans fZ
   have bw7 := bwZ.trans (b7.mono bwZ.size)
   have c67 := a7.2.2.2.2.2.2.1
   simp only [Nat.zero_add] at c67
   refine rd1 6 (by kernel_rfl) rfl fun K6 hK6 => ?_
   go_simp
   refine hK6.out _ _ trivial (fun _ => ?_)
   clear hK6
   try simp only [Act.put, lys]
   refine rd1 7 (by kernel_rfl) rfl fun K7 hK7 => ?_
   go_simp
   refine hK7.out _ _ trivial (fun _ => ?_)
   clear hK7
   try simp only [Act.put, lys]
   refine wpAnyH_done (by kernel_rfl) ?_ _
   have a8 : At8 (w7.setCell ⟨X, 6, none⟩ (.slice ao 1 c)) X 0 ⟨k, ty, nb, 0, ⟨#[]⟩, [], [], h⟩ (.slice none 0 0) (.slice ao 1 c) := by
    obtain ⟨e0, e1, e2, e3, e4, e5, e6, e7⟩ := a7
    simp only [Nat.zero_add] at e0 e1 e2 e3 e4 e5 e6 e7
    refine ⟨?_, ?_, ?_, ?_, ?_, ?_, ?_, ?_⟩
    all_goals simp [go_sem, e0, e1, e2, e3, e4, e5, e6, e7]
   have z8 : Zero8 (w7.setCell ⟨X, 6, none⟩ (.slice ao 1 c)) w.heap.size := z7.grN (gr_putN (World.grownBy.refl w7 (some X)) _) (by omega)
   have b8 : Below w.heap.size w (w7.setCell ⟨X, 6, none⟩ (.slice ao 1 c)) := bw7.setCell (by dsimp only; omega) _
   clear hS hrec aY zY fY bY xY c6 aZ zZ fZ bwZ c6Z a7 z7 f7 bw7 c67
   generalize w7.setCell ⟨X, 6, none⟩ (.slice ao 1 c) = W8 at *
   go_wp2
   rw [rounds_succ]
   go_wp2
   go_meet
   exact ⟨ao, c, a8, z8, b8⟩
  ·go_simp
   refine hrec.mono ?_
   rintro e Z ⟨rfl, bZ⟩
   refine hK1.out _ _ trivial (fun _ => ?_)
   clear hK1
   try simp only [Act.put, lys]
   have aZ := aY.up bZ
   have zZ := zY.up bZ
   have fZ : Z.frozen? ⟨X, 6, none⟩ = false := (bZ.frozen (p := ⟨X, 6, none⟩) xY).trans fY
   have bwZ := bY.trans (bZ.mono bY.size)
   have c6Z := aZ.2.2.2.2.2.2.1
   simp only [Nat.zero_add] at c6Z
   refine wpAnyH_ready (rs := [1, 4]) (by kernel_rfl) (by simp) ?_
   refine AllReadyH.cons rfl (fun K2 hK2 => ?_) (AllReadyH.cons rfl (fun K2 hK2 => ?_) AllReadyH.nil)
   ·have cL := c6Z
    go_simp
    refine hK2.out _ _ trivial (fun _ => ?_)
    clear hK2
    try simp only [Act.put, lys]
    clear cL
    refine rd1 4 (by kernel_rfl) rfl fun K4 hK4 => ?_
    go_simp
    refine hK4.out _ _ trivial (fun _ => ?_)
    clear hK4
    try simp only [Act.put, lys]
    refine rd1 5 (by kernel_rfl) rfl fun K5 hK5 => ?_
    rw [if_pos (by rfl)]
    refine wp_appN (W0 := Z) _ _ rfl [.int .i64 6, .string ⟨#[]⟩, .int .u64 1, .int .u64 0, .string ⟨#[]⟩, .slice none 0 0, .slice none 0 0, .int .i64 0] rfl (by intro u hu; simp at hu; rcases hu with rfl | rfl | rfl | rfl | rfl | rfl | rfl | rfl <;> rfl) rfl rfl rfl ?_
    intro ao c w7 b7
    refine hK5.out _ _ trivial (fun _ => ?_)
    clear hK5
    try simp only [Act.put, lys]
    have a7 := aZ.up b7
    have z7 := zZ.up b7
    have f7 : w7.frozen? ⟨X, 6, none⟩ = false := (b7.frozen (p := ⟨X, 6, none⟩) (lt_of_cell c6Z)).trans fZ
    have bw7 := bwZ.trans (b7.mono bwZ.size)
    have c67 := a7.2.2.2.2.2.2.1
    simp only [Nat.zero_add] at c67
    refine rd1 6 (by kernel_rfl) rfl fun K6 hK6 => ?_
    go_simp
    refine hK6.out _ _ trivial (fun _ => ?_)
    clear hK6
    try simp only [Act.put, lys]
    refine rd1 7 (by kernel_rfl) rfl fun K7 hK7 => ?_
    go_simp
    refine hK7.out _ _ trivial (fun _ => ?_)
    clear hK7
    try simp only [Act.put, lys]
    refine wpAnyH_done (by kernel_rfl) ?_ _
    have a8 : At8 (w7.setCell ⟨X, 6, none⟩ (.slice ao 1 c)) X 0 ⟨k, ty, nb, 0, ⟨#[]⟩, [], [], h⟩ (.slice none 0 0) (.slice ao 1 c) := by
     obtain ⟨e0, e1, e2, e3, e4, e5, e6, e7⟩ := a7
     simp only [Nat.zero_add] at e0 e1 e2 e3 e4 e5 e6 e7
     refine ⟨?_, ?_, ?_, ?_, ?_, ?_, ?_, ?_⟩
     all_goals simp [go_sem, e0, e1, e2, e3, e4, e5, e6, e7]
    have z8 : Zero8 (w7.setCell ⟨X, 6, none⟩ (.slice ao 1 c)) w.heap.size := z7.grN (gr_putN (World.grownBy.refl w7 (some X)) _) (by omega)
    have b8 : Below w.heap.size w (w7.setCell ⟨X, 6, none⟩ (.slice ao 1 c)) := bw7.setCell (by dsimp only; omega) _
    clear hS hrec aY zY fY bY xY c6 aZ zZ fZ bwZ c6Z a7 z7 f7 bw7 c67
    generalize w7.setCell ⟨X, 6, none⟩ (.slice ao 1 c) = W8 at *
    go_wp2
    rw [rounds_succ]
    go_wp2
    go_meet
    exact ⟨ao, c, a8, z8, b8⟩
   ·go_simp
    refine hK2.out _ _ trivial (fun _ => ?_)
    clear hK2
    try simp only [Act.put, lys]
    have c6Y := up_cell ((Below.refl Z.heap.size Z).alloc (Nat.le_refl _) (.cells #[.int .i64 6, .string ⟨#[]⟩, .int .u64 1, .int .u64 0, .string ⟨#[]⟩, .slice none 0 0, .slice none 0 0, .int .i64 0] 29)) c6Z
    refine rd1 1 (by kernel_rfl) rfl fun K4 hK4 => ?_
    have cL := c6Y
    go_simp
    refine hK4.out _ _ trivial (fun _ => ?_)
    clear hK4
    try simp only [Act.put, lys]
    clear cL
    refine rd1 5 (by kernel_rfl) rfl fun K5 hK5 => ?_
    rw [if_pos (by rfl)]
    refine wp_appN (W0 := Z) _ _ rfl [.int .i64 6, .string ⟨#[]⟩, .int .u64 1, .int .u64 0, .string ⟨#[]⟩, .slice none 0 0, .slice none 0 0, .int .i64 0] rfl (by intro u hu; simp at hu; rcases hu with rfl | rfl | rfl | rfl | rfl | rfl | rfl | rfl <;> rfl) rfl rfl rfl ?_
    intro ao c w7 b7
    refine hK5.out _ _ trivial (fun _ => ?_)
    clear hK5
    try simp only [Act.put, lys]
    have a7 := aZ.up b7
    have z7 := zZ.up b7
    have f7 : w7.frozen? ⟨X, 6, none⟩ = false := (b7.frozen (p := ⟨X, 6, none⟩) (lt_of_cell c6Z)).trans fZ
    have bw7 := bwZ.trans (b7.mono bwZ.size)
    have c67 := a7.2.2.2.2.2.2.1
    simp only [Nat.zero_add] at c67
    refine rd1 6 (by kernel_rfl) rfl fun K6 hK6 => ?_
    go_simp
    refine hK6.out _ _ trivial (fun _ => ?_)
    clear hK6
    try simp only [Act.put, lys]
    refine rd1 7 (by kernel_rfl) rfl fun K7 hK7 => ?_
    go_simp
    refine hK7.out _ _ trivial (fun _ => ?_)
    clear hK7
    try simp only [Act.put, lys]
    refine wpAnyH_done (by kernel_rfl) ?_ _
    have a8 : At8 (w7.setCell ⟨X, 6, none⟩ (.slice ao 1 c)) X 0 ⟨k, ty, nb, 0, ⟨#[]⟩, [], [], h⟩ (.slice none 0 0) (.slice ao 1 c) := by
     obtain ⟨e0, e1, e2, e3, e4, e5, e6, e7⟩ := a7
     simp only [Nat.zero_add] at e0 e1 e2 e3 e4 e5 e6 e7
     refine ⟨?_, ?_, ?_, ?_, ?_, ?_, ?_, ?_⟩
     all_goals simp [go_sem, e0, e1, e2, e3, e4, e5, e6, e7]
    have z8 : Zero8 (w7.setCell ⟨X, 6, none⟩ (.slice ao 1 c)) w.heap.size := z7.grN (gr_putN (World.grownBy.refl w7 (some X)) _) (by omega)
    have b8 : Below w.heap.size w (w7.setCell ⟨X, 6, none⟩ (.slice ao 1 c)) := bw7.setCell (by dsimp only; omega) _
    clear hS hrec aY zY fY bY xY c6 aZ zZ fZ bwZ c6Z c6Y a7 z7 f7 bw7 c67
    generalize w7.setCell ⟨X, 6, none⟩ (.slice ao 1 c) = W8 at *
    go_wp2
    rw [rounds_succ]
    go_wp2
    go_meet
    exact ⟨ao, c, a8, z8, b8⟩
 case rest =>
  obtain ⟨ao, c, a7, z7, b7⟩ := hcut
  clear a6 f6 zz6 bw6 q0
  obtain ⟨a0, a1, a2, a3, a4, a5, a6, a7⟩ := a7
  obtain ⟨⟨z0, z1, z2, z3, z4, z5, z6, z7⟩, zf⟩ := z7
  simp only [Nat.zero_add] at a0 a1 a2 a3 a4 a5 a6 a7
  have y0 := zf 0
  have y1 := zf 1
  have y2 := zf 2
  have y3 := zf 3
  have y4 := zf 4
  have y5 := zf 5
  have y6 := zf 6
  have y7 := zf 7
  go_wp2
  obtain ⟨r0, r1, r2, r3, r4, r5, r6, r7⟩ := set8 z0 z1 z2 z3 z4 z5 z6 z7 (.int .i64 k) (.string ty) (.int .u64 nb) (.int .u64 0) (.string ⟨#[]⟩) (.slice none 0 0) (.slice ao 1 c) (.int .i64 h)
  refine bodyPost_ret (v := .agg #[.int .i64 k, .string ty, .int .u64 nb, .int .u64 0, .string ⟨#[]⟩, .slice none 0 0, .slice ao 1 c, .int .i64 h]) (by simp [results, Tryz.results187, go_sem, r0, r1, r2, r3, r4, r5, r6, r7]) rfl ?_
  exact ⟨⟨_, _, rfl⟩, set8_below b7 (Nat.le_refl _)⟩
end Go.Proofs.YtdlnmnipnkeabaaGreatDoor
namespace Go.Proofs.YtdlnmnipnkeabaaGreatDoor
open Go.RowKit
set_option linter.unusedVariables false
set_option maxRecDepth 1000000 in
set_option maxHeartbeats 4000000 in
theorem madeall_any (sr : List D → List (D × D)) (tw : D → Bool) (n : Nat) (l : List D) (a : Option Addr) (cap : Nat) (w : World) (h1 : l.length ≤ cap) (h2 : cap ≤ maxLen) (h64 : l.length ≤ 1000)
  (hcell : ∀ (i : Nat) (x : D), l[i]? = some x → ∃ b off nv' pv', a = some ⟨b, off, none⟩ ∧ At8 w b (off + i * 8) x nv' pv' ∧ RdC n w nv' pv' x) (hm : ∀ x ∈ l, MadeC sr tw n w x) :
  Calls Tryz.prog 99 #[.slice a l.length cap] w fun e W' => Below w.heap.size w W' ∧
   ((l.any tw = false ∧ ∃ fa fc, e = .returned (.slice fa l.length fc) ∧ l.length ≤ fc ∧ fc ≤ maxLen ∧ Vals (VlC sr n (fun b => w.heap.size ≤ b) W') (fun b => w.heap.size ≤ b) W' fa l) ∨ (l.any tw = true ∧ e = .panicked (PE 5))) := by
 obtain ⟨i0, hi⟩ : ∃ i0, Tryz.prog.info? 108 = some i0 := ⟨_, rfl⟩
 have hz0 : i0.zero = some .nilIface := by
  have : (Tryz.prog.info? 108).map (·.zero) = some (some .nilIface) := by kernel_rfl
  rw [hi] at this; exact Option.some.inj this
 have hz1 : i0.size = 1 := by
  have : (Tryz.prog.info? 108).map (·.size) = some 1 := by kernel_rfl
  rw [hi] at this; exact Option.some.inj this
 have hz2 : i0.bytes = 16 := by
  have : (Tryz.prog.info? 108).map (·.bytes) = some 16 := by kernel_rfl
  rw [hi] at this; exact Option.some.inj this
 go_enter Tryz.func99, Tryz.ntmps99
 go_wp2
 go_loopg [3, 5, 8] l.length (fun gg sv z i wr => ∃ (j c : Nat) (ao : Option Addr) (us : List Value), sv = .slice ao j c ∧ i = .int .i64 j ∧ j + gg = l.length ∧ wr.ownsRow w.heap.size 108 1 (.slice ao j c) j us ∧ Below w.heap.size w wr ∧ Hid ((l.take j).any tw = false) ∧ Hid (∀ (q : Nat) (u : Value) (y : D), us[q]? = some u → l[q]? = some y → (∃ t x, u = .iface t x) ∧ VlC sr n (fun b => w.heap.size ≤ b ∧ Value.ownBlock (.slice ao j c) ≠ some b) wr u y))
 case atStart => exact ⟨0, 0, none, [], rfl, rfl, Nat.zero_add _, World.ownsRow_nil _ _ _ _, Below.refl _ _, rfl, fun q u y h => by simp at h⟩
 case round =>
  obtain ⟨j, c, ao, us, rfl, rfl, hjg, hown, hbl, HT, HV⟩ := hrel
  by_cases hlt : j < l.length
  ·have hltI : (j : Int) < l.length := by omega
   obtain ⟨x, hx⟩ : ∃ x, l[j]? = some x := ⟨l[j], List.getElem?_eq_getElem hlt⟩
   obtain ⟨b, off, nv', pv', rfl, h8, hr'⟩ := hcell j x hx
   obtain ⟨na', nc', pa', pc', rfl, rfl⟩ := hr'.slices
   obtain ⟨c0, c1, c2, c3, c4, c5, c6, c7⟩ := h8.up hbl
   obtain ⟨Y2, hY2⟩ : ∃ Y2, Y2 = wr.alloc (.cells #[.int .i64 x.kind, .string x.ty, .int .u64 x.bits, .int .u64 x.imag, .string x.text, .slice na' x.names.length nc', .slice pa' x.parts.length pc', .int .i64 x.hook] 29) := ⟨_, rfl⟩
   have hbY : Below wr.heap.size wr Y2 := by rw [hY2]; exact (Below.refl _ _).alloc (Nat.le_refl _) _
   obtain ⟨C2, hC2⟩ : ∃ C2 : Cl w, C2.w = Y2 := ⟨⟨Y2, hbl.trans (hbY.mono hbl.size)⟩, rfl⟩
   have hrec := hm x (List.mem_of_getElem? hx) _ _ C2 hr'
   rw [hC2] at hrec
   have HN : Hid ((l.take (j + 1)).any tw = ((l.take j).any tw || tw x)) := by
    show _ = _
    rw [List.take_add_one, hx]; simp
   have HX : Hid (tw x = true → l.any tw = true) := fun h => List.any_eq_true.2 ⟨x, List.mem_of_getElem? hx, h⟩
   have hsz := hbl.size
   have hszY := hbY.size
   have Hx : Hid (l[j]? = some x) := hx
   clear hx h8 hr' hcell hm
   go_wp2_with fail
   rw [← hY2]
   refine hrec.mono ?_
   rintro e Z ⟨hbZ, (⟨htw, t, y, rfl, hvl⟩ | ⟨htw, rfl⟩)⟩
   ·have hwZ : Below wr.heap.size wr Z := hbY.trans (hbZ.mono hszY)
    have hownZ := own_up8 hown hwZ
    have hzZ := hwZ.size
    have hoz := own_lt8 hown
    clear hbZ hrec c0 c1 c2 c3 c4 c5 c6 c7
    go_wp2_with (at_builtin; refine wpList_append_own_at _ rfl _ _ 104 rfl w.heap.size 108 i0 .nilIface 1 16 Tryz.underlying104 hi hz0 hz1 hz2 rfl (by decide) _ _ _ rfl (hownZ.alloc _) ⟨Z.heap.size, 0, none⟩ 1 1 [.iface t y] rfl rfl ?c1 ?c2 ?c3 ?c4 ?c5 ?_)
    case c1 =>
     intro j u hj
     match j, hj with
     | 0, hj => simp at hj; subst hj; simp [Addr.add]
    case c2 => intro u hu; simp at hu; subst hu; rfl
    case c3 => unfold maxLen; omega
    case c4 => omega
    case c5 => simp; omega
    intro v' w1 hown' hgrow _ hat
    obtain ⟨ao', c', rfl, -, -⟩ := own_slice8 hown'
    have hge := own_ge8 hown
    have hb1 : Below w.heap.size w w1 := ((hbl.trans (hwZ.mono hsz)).alloc (by omega) _).grown hgrow (by simp; omega) hge
    have hkept : ∀ S : Nat → Prop, (∀ b, S b → w.heap.size ≤ b ∧ Value.ownBlock (.slice ao j c) ≠ some b) → Kept S (fun b => w.heap.size ≤ b ∧ Value.ownBlock (.slice ao' (j + 1) c') ≠ some b) Z w1 := by
     intro S hS b hb hlZ
     obtain ⟨s1, s2⟩ := hS b hb
     refine ⟨⟨s1, ?_⟩, fun o => ?_⟩
     ·rcases hat with hat | hat
      ·rw [hat]; exact s2
      ·rw [hat]
       intro h
       have h3 := Option.some.inj h
       omega
     ·exact (World.cell?_of_block (w := Z.alloc (.cells #[.iface t y] 108)) (a := ⟨b, o, none⟩) (hgrow.block b (by simp; omega) (Ne.symm s2))).trans (World.cell?_of_block (w := Z) (a := ⟨b, o, none⟩) (Below.heap_alloc _ _ _ hlZ))
    have HV2 : Hid (∀ (q : Nat) (u : Value) (z : D), (us ++ [.iface t y])[q]? = some u → l[q]? = some z → (∃ t x, u = .iface t x) ∧ VlC sr n (fun b => w.heap.size ≤ b ∧ Value.ownBlock (.slice ao' (j + 1) c') ≠ some b) w1 u z) := by
     intro q u z hq hz
     have hul : us.length = j := by have := hown.1; omega
     by_cases hqj : q < j
     ·rw [List.getElem?_append_left (by omega)] at hq
      obtain ⟨e1, e2⟩ := HV.out q u z hq hz
      refine ⟨e1, (e2.turn (Kept.below hwZ fun b hb _ => hb)).turn (hkept _ fun b hb => hb)⟩
     ·have hqe : q = j := by
       have := (List.getElem?_eq_some_iff.1 hq).1
       simp at this; omega
      subst hqe
      rw [List.getElem?_append_right (by omega), hul] at hq
      simp at hq
      subst hq
      rw [Hx.out] at hz
      obtain rfl := Option.some.inj hz
      refine ⟨⟨_, _, rfl⟩, hvl.turn (hkept _ fun b hb => ⟨by omega, fun h => ?_⟩)⟩
      have := hoz b h
      omega
    have HT2 : Hid ((l.take (j + 1)).any tw = false) := by show _ = _; rw [HN.out, HT.out, htw]; rfl
    have hown2 := hown'
    clear hown' hgrow hat hkept HV HT HN HX hvl hownZ hown hoz hge Hx
    go_wp2
    go_roundg (gk - 1)
    case measure => omega
    case rel => exact ⟨j + 1, c', ao', us ++ [.iface t y], rfl, by go_num, by omega, hown2, hb1, HT2, HV2⟩
   ·exact ⟨rfl, hbl.trans ((hbY.trans (hbZ.mono hszY)).mono hsz), .inr ⟨HX.out htw, rfl⟩⟩
  ·have hltI : ¬ (j : Int) < l.length := by omega
   have hj : j = l.length := by omega
   subst hj
   obtain ⟨ao', c', he, k1, k2⟩ := own_slice8 hown
   obtain ⟨rfl, -, rfl⟩ := Value.slice.inj he
   have HF : Hid (l.any tw = false) := by
    have := HT.out
    rw [List.take_length] at this
    exact this
   have HR : Hid (Vals (VlC sr n (fun b => w.heap.size ≤ b) wr) (fun b => w.heap.size ≤ b) wr ao l) := by
    intro i y hy
    have hil : i < l.length := (List.getElem?_eq_some_iff.1 hy).1
    have hul : us.length = l.length := by have := hown.1; omega
    obtain ⟨u, hu⟩ : ∃ u, us[i]? = some u := ⟨us[i], List.getElem?_eq_getElem (by omega)⟩
    obtain ⟨⟨t, x, rfl⟩, e2⟩ := HV.out i u y hu hy
    rcases hown.2 with ⟨-, h0⟩ | ⟨g, cap', cur, hg1, hB, hg, -⟩
    ·omega
    ·obtain ⟨rfl, -, -⟩ := Value.slice.inj hg1
     refine ⟨g, 0, t, x, rfl, hB, ?_, e2.turn fun b hb _ => ⟨hb.1, fun _ => rfl⟩⟩
     rw [Nat.zero_add, hown.cellAt i (by omega), hu]
   clear he HV HT hown hm hcell
   go_wp2
   go_ret
   exact ⟨hbl, .inl ⟨by simpa using HF.out, ao, c, rfl, k1, k2, HR.out⟩⟩
end Go.Proofs.YtdlnmnipnkeabaaGreatDoor
