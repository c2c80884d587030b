/- UFloat, UHexB: these texts in one. -/
import Derived.Test.YtiagjheifblkiaaGreatDoorPt34
import Derived.Test.YtiagjheifblkiaaGreatDoorPt35
namespace Go.Proofs.YtiagjheifblkiaaGreatDoor
open Go.RowKit
set_option linter.unusedVariables false
set_option linter.unusedSimpArgs false
abbrev Fl9 (bits : Nat) (b : Bool) (k p : Nat) (n : Int) (S : ByteArray) (Q : Int) : Prop := ∀ w, Calls Tryz.prog 7 #[.agg #[.int .u64 bits, .bool b]] w fun e w' => e = .returned (.tuple #[.agg #[.int .i64 k, .string ⟨#[]⟩, .int .u64 p, .int .u64 0, .string ⟨#[]⟩, .slice none 0 0, .slice none 0 0, .int .i64 0], .int .u64 p, .int .i64 n, .agg #[.string S, .int .i64 Q]]) ∧ Below w.heap.size w w'
set_option maxRecDepth 1000000 in
set_option maxHeartbeats 4000000 in
theorem float_64 {bits p0 p m : Nat} {e Q : Int} {sg : Bool} {S : ByteArray} (hand : Go.bits BinOp.and IntKind.u64 (bits : Int) 9223372036854775807 = (p0 : Nat)) (hp : p0 < 9218868437227405312 ∧ p = p0 ∨ ¬ p0 < 9218868437227405312 ∧ p = p0 - 9218868437227405312) (hb : p0 < 9300000000000000000) (hP : PtC p 64 sg m e 0) (hX : ExC m e S Q) : Fl9 bits true 13 p 64 S Q := fun w => by
 have hJ0 : Hid ((0 : Int) ≤ 9218868437227405312) := by show (0 : Int) ≤ 9218868437227405312; decide
 rcases hp with ⟨h1, rfl⟩ | ⟨h1, h2⟩
 ·skip
  have hpI : Hid ((p : Int) < 9218868437227405312) := by show (p : Int) < 9218868437227405312; omega
  clear h1 hb
  obtain ⟨W1, hW1⟩ : ∃ W1, W1 = ((w.alloc (.cells #[.int .u64 bits, .bool true] 24)).alloc (.cells #[.int .i64 0, .string ⟨#[]⟩, .int .u64 0, .int .u64 0, .string ⟨#[]⟩, .slice none 0 0, .slice none 0 0, .int .i64 0] 29)).alloc (.cells #[.string ⟨#[]⟩, .int .i64 0] 31) := ⟨_, rfl⟩
  have b1 : Below w.heap.size w W1 := by rw [hW1]; exact (((Below.refl _ _).alloc (Nat.le_refl _) _).alloc (by simp) _).alloc (by simp; omega) _
  have c0 : W1.cell? ⟨w.heap.size, 0, none⟩ = some (.int .u64 bits) := by rw [hW1]; simp [go_sem]
  have c1 : W1.cell? ⟨w.heap.size, 1, none⟩ = some (.bool true) := by rw [hW1]; simp [go_sem]
  have zz1 : Zero8 W1 (w.heap.size + 1) := by
   refine ⟨by rw [hW1]; refine ⟨?_, ?_, ?_, ?_, ?_, ?_, ?_, ?_⟩ <;> simp [go_sem], fun i => ?_⟩
   rw [hW1]
   simp [go_sem]
  have bx1 : BoxDe W1 (w.heap.size + 1 + 1) (.string ⟨#[]⟩) (.int .i64 0) := by rw [hW1]; simp [BoxDe, go_sem]
  go_enter Tryz.func7, Tryz.ntmps7
  go_upto_region 1 with fail
  rw [← hW1]
  clear hW1
  go_upto_region 4 with fail
  go_quiet (fail)
  go_upto_region 5 with fail
  have hpI := hpI.out
  have hJ0 := hJ0.out
  clear hand
  generalize hJ : (9218868437227405312 : Int) = J at *
  have HJ : Hid (J = 9218868437227405312) := hJ.symm
  clear hJ
  go_upto_region 9 with (first | (go_at_call 16; (with_reducible refine (hP _).mono ?_); rintro x w2 ⟨rfl, hb2⟩) | (go_at_call 18; (with_reducible refine (hX _).mono ?_); rintro x w3 ⟨rfl, hb3⟩))
  have bq : Below W1.heap.size W1 (W1.drewN nq) := below_drewN (Below.refl _ _) _
  have b13 : Below W1.heap.size W1 w3 := (bq.trans (hb2.mono bq.size)).trans (hb3.mono (by have := bq.size; have := hb2.size; omega))
  obtain ⟨W4, hW4⟩ : ∃ W4, W4 = w3.alloc (.cells #[.string S, .int .i64 Q] 31) := ⟨_, rfl⟩
  have b14 : Below W1.heap.size W1 W4 := by rw [hW4]; exact b13.alloc b13.size _
  have bW4 : Below w.heap.size w W4 := b1.trans (b14.mono b1.size)
  have e4 : BoxDe W4 w3.heap.size (.string S) (.int .i64 Q) := by rw [hW4]; simp [BoxDe, go_sem]
  have hlt : w.heap.size + 1 + 1 < w3.heap.size := World.block_lt_of_cell? w3 _ (keepb b13 bx1).1
  have zz4 := zz1.up b14
  have bx4 := keepb b14 bx1
  rw [← hW4]
  clear hW4 hb2 hb3 bq b13 b14 zz1 bx1 c0 c1 b1
  generalize w3.heap.size = E at *
  obtain ⟨e0, e1, e2, e3⟩ := id e4
  obtain ⟨f0, f1, f2, f3⟩ := id bx4
  obtain ⟨⟨z0, z1, z2, z3, z4, z5, z6, z7⟩, zf⟩ := id zz4
  have y0 := zf 0
  have y1 := zf 1
  have y2 := zf 2
  have y3 := zf 3
  have y4 := zf 4
  have y5 := zf 5
  have y6 := zf 6
  have y7 := zf 7
  go_region
  obtain ⟨V8, hV8⟩ : ∃ V8, V8 = (((((((W4.setCell ⟨w.heap.size + 1, 0, none⟩ (.int .i64 13)).setCell ⟨w.heap.size + 1, 1, none⟩ (.string ⟨#[]⟩)).setCell ⟨w.heap.size + 1, 2, none⟩ (.int .u64 p)).setCell ⟨w.heap.size + 1, 3, none⟩ (.int .u64 0)).setCell ⟨w.heap.size + 1, 4, none⟩ (.string ⟨#[]⟩)).setCell ⟨w.heap.size + 1, 5, none⟩ (.slice none 0 0)).setCell ⟨w.heap.size + 1, 6, none⟩ (.slice none 0 0)).setCell ⟨w.heap.size + 1, 7, none⟩ (.int .i64 0) := ⟨_, rfl⟩
  have hr := set8 z0 z1 z2 z3 z4 z5 z6 z7 (.int .i64 13) (.string ⟨#[]⟩) (.int .u64 p) (.int .u64 0) (.string ⟨#[]⟩) (.slice none 0 0) (.slice none 0 0) (.int .i64 0)
  have bV : Below w.heap.size w V8 := by rw [hV8]; exact set8_below bW4 (by omega)
  have xV : BoxDe V8 (w.heap.size + 1 + 1) (.string ⟨#[]⟩) (.int .i64 0) := by rw [hV8]; exact (((((((bx4.pastA (by omega) _ _).pastA (by omega) _ _).pastA (by omega) _ _).pastA (by omega) _ _).pastA (by omega) _ _).pastA (by omega) _ _).pastA (by omega) _ _).pastA (by omega) _ _
  rw [← hV8] at hr
  rw [← hV8]
  clear hV8 z0 z1 z2 z3 z4 z5 z6 z7 zf y0 y1 y2 y3 y4 y5 y6 y7 f0 f1 f2 f3 zz4 bx4 bW4
  obtain ⟨r0, r1, r2, r3, r4, r5, r6, r7⟩ := hr
  obtain ⟨W6, hW6⟩ : ∃ W6, W6 = ((V8.setCell ⟨w.heap.size + 1 + 1, 0, none⟩ (.string S)).setCell ⟨w.heap.size + 1 + 1, 1, none⟩ (.int .i64 Q)).drew := ⟨_, rfl⟩
  have b6 : Below w.heap.size w W6 := by rw [hW6]; exact ((bV.setCell (p := ⟨w.heap.size + 1 + 1, 0, none⟩) (by dsimp only; omega) _).setCell (p := ⟨w.heap.size + 1 + 1, 1, none⟩) (by dsimp only; omega) _).drew
  have x6 : BoxDe W6 (w.heap.size + 1 + 1) (.string S) (.int .i64 Q) := by rw [hW6]; exact (xV.put0 _).put1 _
  have far : ∀ (i : Nat) (v : Value), V8.cell? ⟨w.heap.size + 1, i, none⟩ = some v → W6.cell? ⟨w.heap.size + 1, i, none⟩ = some v := fun i v h => by
   rw [hW6]
   exact ((World.cell?_setCell_far _ ⟨w.heap.size + 1 + 1, 1, none⟩ ⟨w.heap.size + 1, i, none⟩ _ (by dsimp only; omega)).trans (World.cell?_setCell_far _ ⟨w.heap.size + 1 + 1, 0, none⟩ ⟨w.heap.size + 1, i, none⟩ _ (by dsimp only; omega))).trans h
  have s0 := far 0 _ r0
  have s1 := far 1 _ r1
  have s2 := far 2 _ r2
  have s3 := far 3 _ r3
  have s4 := far 4 _ r4
  have s5 := far 5 _ r5
  have s6 := far 6 _ r6
  have s7 := far 7 _ r7
  obtain ⟨g0, g1, g2, g3⟩ := id x6
  rw [← hW6]
  clear hW6 far r0 r1 r2 r3 r4 r5 r6 r7 xV bV
  have e := HJ.out
  clear HJ
  subst e
  go_wp2
  refine bodyPost_ret (v := .tuple #[.agg #[.int .i64 13, .string ⟨#[]⟩, .int .u64 p, .int .u64 0, .string ⟨#[]⟩, .slice none 0 0, .slice none 0 0, .int .i64 0], .int .u64 p, .int .i64 64, .agg #[.string S, .int .i64 Q]]) (by simp [results, Tryz.results7, go_sem, s0, s1, s2, s3, s4, s5, s6, s7, g0, g1]) rfl ⟨rfl, b6⟩
 ·skip
  have hpI : Hid (9218868437227405312 ≤ (p0 : Int)) := by show 9218868437227405312 ≤ (p0 : Int); omega
  have hlI : Hid ((p0 : Int) < 9300000000000000000) := by show (p0 : Int) < 9300000000000000000; omega
  have hpe : (p0 : Int) - 9218868437227405312 = ((p : Nat) : Int) := by omega
  have HPE : Hid ((p0 : Int) - 9218868437227405312 = ((p : Nat) : Int)) := hpe
  clear h1 h2 hb hpe
  obtain ⟨W1, hW1⟩ : ∃ W1, W1 = ((w.alloc (.cells #[.int .u64 bits, .bool true] 24)).alloc (.cells #[.int .i64 0, .string ⟨#[]⟩, .int .u64 0, .int .u64 0, .string ⟨#[]⟩, .slice none 0 0, .slice none 0 0, .int .i64 0] 29)).alloc (.cells #[.string ⟨#[]⟩, .int .i64 0] 31) := ⟨_, rfl⟩
  have b1 : Below w.heap.size w W1 := by rw [hW1]; exact (((Below.refl _ _).alloc (Nat.le_refl _) _).alloc (by simp) _).alloc (by simp; omega) _
  have c0 : W1.cell? ⟨w.heap.size, 0, none⟩ = some (.int .u64 bits) := by rw [hW1]; simp [go_sem]
  have c1 : W1.cell? ⟨w.heap.size, 1, none⟩ = some (.bool true) := by rw [hW1]; simp [go_sem]
  have zz1 : Zero8 W1 (w.heap.size + 1) := by
   refine ⟨by rw [hW1]; refine ⟨?_, ?_, ?_, ?_, ?_, ?_, ?_, ?_⟩ <;> simp [go_sem], fun i => ?_⟩
   rw [hW1]
   simp [go_sem]
  have bx1 : BoxDe W1 (w.heap.size + 1 + 1) (.string ⟨#[]⟩) (.int .i64 0) := by rw [hW1]; simp [BoxDe, go_sem]
  go_enter Tryz.func7, Tryz.ntmps7
  go_upto_region 1 with fail
  rw [← hW1]
  clear hW1
  go_upto_region 4 with fail
  go_quiet (fail)
  go_upto_region 5 with fail
  have hpI := hpI.out
  have hlI := hlI.out
  have hpe := HPE.out
  have hJ0 := hJ0.out
  clear hand
  generalize hJ : (9218868437227405312 : Int) = J at *
  have HJ : Hid (J = 9218868437227405312) := hJ.symm
  clear hJ
  go_upto_region 9 with (first | (go_at_call 16; (with_reducible refine (hP _).mono ?_); rintro x w2 ⟨rfl, hb2⟩) | (go_at_call 18; (with_reducible refine (hX _).mono ?_); rintro x w3 ⟨rfl, hb3⟩))
  have bq : Below W1.heap.size W1 (W1.drewN nq) := below_drewN (Below.refl _ _) _
  have b13 : Below W1.heap.size W1 w3 := (bq.trans (hb2.mono bq.size)).trans (hb3.mono (by have := bq.size; have := hb2.size; omega))
  obtain ⟨W4, hW4⟩ : ∃ W4, W4 = w3.alloc (.cells #[.string S, .int .i64 Q] 31) := ⟨_, rfl⟩
  have b14 : Below W1.heap.size W1 W4 := by rw [hW4]; exact b13.alloc b13.size _
  have bW4 : Below w.heap.size w W4 := b1.trans (b14.mono b1.size)
  have e4 : BoxDe W4 w3.heap.size (.string S) (.int .i64 Q) := by rw [hW4]; simp [BoxDe, go_sem]
  have hlt : w.heap.size + 1 + 1 < w3.heap.size := World.block_lt_of_cell? w3 _ (keepb b13 bx1).1
  have zz4 := zz1.up b14
  have bx4 := keepb b14 bx1
  rw [← hW4]
  clear hW4 hb2 hb3 bq b13 b14 zz1 bx1 c0 c1 b1
  generalize w3.heap.size = E at *
  obtain ⟨e0, e1, e2, e3⟩ := id e4
  obtain ⟨f0, f1, f2, f3⟩ := id bx4
  obtain ⟨⟨z0, z1, z2, z3, z4, z5, z6, z7⟩, zf⟩ := id zz4
  have y0 := zf 0
  have y1 := zf 1
  have y2 := zf 2
  have y3 := zf 3
  have y4 := zf 4
  have y5 := zf 5
  have y6 := zf 6
  have y7 := zf 7
  go_region
  obtain ⟨V8, hV8⟩ : ∃ V8, V8 = (((((((W4.setCell ⟨w.heap.size + 1, 0, none⟩ (.int .i64 13)).setCell ⟨w.heap.size + 1, 1, none⟩ (.string ⟨#[]⟩)).setCell ⟨w.heap.size + 1, 2, none⟩ (.int .u64 p)).setCell ⟨w.heap.size + 1, 3, none⟩ (.int .u64 0)).setCell ⟨w.heap.size + 1, 4, none⟩ (.string ⟨#[]⟩)).setCell ⟨w.heap.size + 1, 5, none⟩ (.slice none 0 0)).setCell ⟨w.heap.size + 1, 6, none⟩ (.slice none 0 0)).setCell ⟨w.heap.size + 1, 7, none⟩ (.int .i64 0) := ⟨_, rfl⟩
  have hr := set8 z0 z1 z2 z3 z4 z5 z6 z7 (.int .i64 13) (.string ⟨#[]⟩) (.int .u64 p) (.int .u64 0) (.string ⟨#[]⟩) (.slice none 0 0) (.slice none 0 0) (.int .i64 0)
  have bV : Below w.heap.size w V8 := by rw [hV8]; exact set8_below bW4 (by omega)
  have xV : BoxDe V8 (w.heap.size + 1 + 1) (.string ⟨#[]⟩) (.int .i64 0) := by rw [hV8]; exact (((((((bx4.pastA (by omega) _ _).pastA (by omega) _ _).pastA (by omega) _ _).pastA (by omega) _ _).pastA (by omega) _ _).pastA (by omega) _ _).pastA (by omega) _ _).pastA (by omega) _ _
  rw [← hV8] at hr
  rw [← hV8]
  clear hV8 z0 z1 z2 z3 z4 z5 z6 z7 zf y0 y1 y2 y3 y4 y5 y6 y7 f0 f1 f2 f3 zz4 bx4 bW4
  obtain ⟨r0, r1, r2, r3, r4, r5, r6, r7⟩ := hr
  obtain ⟨W6, hW6⟩ : ∃ W6, W6 = ((V8.setCell ⟨w.heap.size + 1 + 1, 0, none⟩ (.string S)).setCell ⟨w.heap.size + 1 + 1, 1, none⟩ (.int .i64 Q)).drew := ⟨_, rfl⟩
  have b6 : Below w.heap.size w W6 := by rw [hW6]; exact ((bV.setCell (p := ⟨w.heap.size + 1 + 1, 0, none⟩) (by dsimp only; omega) _).setCell (p := ⟨w.heap.size + 1 + 1, 1, none⟩) (by dsimp only; omega) _).drew
  have x6 : BoxDe W6 (w.heap.size + 1 + 1) (.string S) (.int .i64 Q) := by rw [hW6]; exact (xV.put0 _).put1 _
  have far : ∀ (i : Nat) (v : Value), V8.cell? ⟨w.heap.size + 1, i, none⟩ = some v → W6.cell? ⟨w.heap.size + 1, i, none⟩ = some v := fun i v h => by
   rw [hW6]
   exact ((World.cell?_setCell_far _ ⟨w.heap.size + 1 + 1, 1, none⟩ ⟨w.heap.size + 1, i, none⟩ _ (by dsimp only; omega)).trans (World.cell?_setCell_far _ ⟨w.heap.size + 1 + 1, 0, none⟩ ⟨w.heap.size + 1, i, none⟩ _ (by dsimp only; omega))).trans h
  have s0 := far 0 _ r0
  have s1 := far 1 _ r1
  have s2 := far 2 _ r2
  have s3 := far 3 _ r3
  have s4 := far 4 _ r4
  have s5 := far 5 _ r5
  have s6 := far 6 _ r6
  have s7 := far 7 _ r7
  obtain ⟨g0, g1, g2, g3⟩ := id x6
  rw [← hW6]
  clear hW6 far r0 r1 r2 r3 r4 r5 r6 r7 xV bV
  have e := HJ.out
  clear HJ
  subst e
  go_wp2
  refine bodyPost_ret (v := .tuple #[.agg #[.int .i64 13, .string ⟨#[]⟩, .int .u64 p, .int .u64 0, .string ⟨#[]⟩, .slice none 0 0, .slice none 0 0, .int .i64 0], .int .u64 p, .int .i64 64, .agg #[.string S, .int .i64 Q]]) (by simp [results, Tryz.results7, go_sem, s0, s1, s2, s3, s4, s5, s6, s7, g0, g1]) rfl ⟨rfl, b6⟩
set_option maxRecDepth 1000000 in
set_option maxHeartbeats 4000000 in
theorem float_32 {bits p0 p m : Nat} {e Q : Int} {sg : Bool} {S : ByteArray} (hand : Go.bits BinOp.and IntKind.u64 (bits : Int) 2147483647 = (p0 : Nat)) (hp : p0 < 2139095040 ∧ p = p0 ∨ ¬ p0 < 2139095040 ∧ p = p0 - 2139095040) (hb : p0 < 9300000000000000000) (hP : PtC p 32 sg m e 0) (hX : ExC m e S Q) : Fl9 bits false 12 p 32 S Q := fun w => by
 have hJ0 : Hid ((0 : Int) ≤ 2139095040) := by show (0 : Int) ≤ 2139095040; decide
 rcases hp with ⟨h1, rfl⟩ | ⟨h1, h2⟩
 ·skip
  have hpI : Hid ((p : Int) < 2139095040) := by show (p : Int) < 2139095040; omega
  clear h1 hb
  obtain ⟨W1, hW1⟩ : ∃ W1, W1 = ((w.alloc (.cells #[.int .u64 bits, .bool false] 24)).alloc (.cells #[.int .i64 0, .string ⟨#[]⟩, .int .u64 0, .int .u64 0, .string ⟨#[]⟩, .slice none 0 0, .slice none 0 0, .int .i64 0] 29)).alloc (.cells #[.string ⟨#[]⟩, .int .i64 0] 31) := ⟨_, rfl⟩
  have b1 : Below w.heap.size w W1 := by rw [hW1]; exact (((Below.refl _ _).alloc (Nat.le_refl _) _).alloc (by simp) _).alloc (by simp; omega) _
  have c0 : W1.cell? ⟨w.heap.size, 0, none⟩ = some (.int .u64 bits) := by rw [hW1]; simp [go_sem]
  have c1 : W1.cell? ⟨w.heap.size, 1, none⟩ = some (.bool false) := by rw [hW1]; simp [go_sem]
  have zz1 : Zero8 W1 (w.heap.size + 1) := by
   refine ⟨by rw [hW1]; refine ⟨?_, ?_, ?_, ?_, ?_, ?_, ?_, ?_⟩ <;> simp [go_sem], fun i => ?_⟩
   rw [hW1]
   simp [go_sem]
  have bx1 : BoxDe W1 (w.heap.size + 1 + 1) (.string ⟨#[]⟩) (.int .i64 0) := by rw [hW1]; simp [BoxDe, go_sem]
  go_enter Tryz.func7, Tryz.ntmps7
  go_upto_region 1 with fail
  rw [← hW1]
  clear hW1
  go_upto_region 4 with fail
  go_quiet (fail)
  go_upto_region 5 with fail
  have hpI := hpI.out
  have hJ0 := hJ0.out
  clear hand
  generalize hJ : (2139095040 : Int) = J at *
  have HJ : Hid (J = 2139095040) := hJ.symm
  clear hJ
  go_upto_region 9 with (first | (go_at_call 16; (with_reducible refine (hP _).mono ?_); rintro x w2 ⟨rfl, hb2⟩) | (go_at_call 18; (with_reducible refine (hX _).mono ?_); rintro x w3 ⟨rfl, hb3⟩))
  have bq : Below W1.heap.size W1 (W1.drewN nq) := below_drewN (Below.refl _ _) _
  have b13 : Below W1.heap.size W1 w3 := (bq.trans (hb2.mono bq.size)).trans (hb3.mono (by have := bq.size; have := hb2.size; omega))
  obtain ⟨W4, hW4⟩ : ∃ W4, W4 = w3.alloc (.cells #[.string S, .int .i64 Q] 31) := ⟨_, rfl⟩
  have b14 : Below W1.heap.size W1 W4 := by rw [hW4]; exact b13.alloc b13.size _
  have bW4 : Below w.heap.size w W4 := b1.trans (b14.mono b1.size)
  have e4 : BoxDe W4 w3.heap.size (.string S) (.int .i64 Q) := by rw [hW4]; simp [BoxDe, go_sem]
  have hlt : w.heap.size + 1 + 1 < w3.heap.size := World.block_lt_of_cell? w3 _ (keepb b13 bx1).1
  have zz4 := zz1.up b14
  have bx4 := keepb b14 bx1
  rw [← hW4]
  clear hW4 hb2 hb3 bq b13 b14 zz1 bx1 c0 c1 b1
  generalize w3.heap.size = E at *
  obtain ⟨e0, e1, e2, e3⟩ := id e4
  obtain ⟨f0, f1, f2, f3⟩ := id bx4
  obtain ⟨⟨z0, z1, z2, z3, z4, z5, z6, z7⟩, zf⟩ := id zz4
  have y0 := zf 0
  have y1 := zf 1
  have y2 := zf 2
  have y3 := zf 3
  have y4 := zf 4
  have y5 := zf 5
  have y6 := zf 6
  have y7 := zf 7
  go_region
  obtain ⟨V8, hV8⟩ : ∃ V8, V8 = (((((((W4.setCell ⟨w.heap.size + 1, 0, none⟩ (.int .i64 12)).setCell ⟨w.heap.size + 1, 1, none⟩ (.string ⟨#[]⟩)).setCell ⟨w.heap.size + 1, 2, none⟩ (.int .u64 p)).setCell ⟨w.heap.size + 1, 3, none⟩ (.int .u64 0)).setCell ⟨w.heap.size + 1, 4, none⟩ (.string ⟨#[]⟩)).setCell ⟨w.heap.size + 1, 5, none⟩ (.slice none 0 0)).setCell ⟨w.heap.size + 1, 6, none⟩ (.slice none 0 0)).setCell ⟨w.heap.size + 1, 7, none⟩ (.int .i64 0) := ⟨_, rfl⟩
  have hr := set8 z0 z1 z2 z3 z4 z5 z6 z7 (.int .i64 12) (.string ⟨#[]⟩) (.int .u64 p) (.int .u64 0) (.string ⟨#[]⟩) (.slice none 0 0) (.slice none 0 0) (.int .i64 0)
  have bV : Below w.heap.size w V8 := by rw [hV8]; exact set8_below bW4 (by omega)
  have xV : BoxDe V8 (w.heap.size + 1 + 1) (.string ⟨#[]⟩) (.int .i64 0) := by rw [hV8]; exact (((((((bx4.pastA (by omega) _ _).pastA (by omega) _ _).pastA (by omega) _ _).pastA (by omega) _ _).pastA (by omega) _ _).pastA (by omega) _ _).pastA (by omega) _ _).pastA (by omega) _ _
  rw [← hV8] at hr
  rw [← hV8]
  clear hV8 z0 z1 z2 z3 z4 z5 z6 z7 zf y0 y1 y2 y3 y4 y5 y6 y7 f0 f1 f2 f3 zz4 bx4 bW4
  obtain ⟨r0, r1, r2, r3, r4, r5, r6, r7⟩ := hr
  obtain ⟨W6, hW6⟩ : ∃ W6, W6 = ((V8.setCell ⟨w.heap.size + 1 + 1, 0, none⟩ (.string S)).setCell ⟨w.heap.size + 1 + 1, 1, none⟩ (.int .i64 Q)).drew := ⟨_, rfl⟩
  have b6 : Below w.heap.size w W6 := by rw [hW6]; exact ((bV.setCell (p := ⟨w.heap.size + 1 + 1, 0, none⟩) (by dsimp only; omega) _).setCell (p := ⟨w.heap.size + 1 + 1, 1, none⟩) (by dsimp only; omega) _).drew
  have x6 : BoxDe W6 (w.heap.size + 1 + 1) (.string S) (.int .i64 Q) := by rw [hW6]; exact (xV.put0 _).put1 _
  have far : ∀ (i : Nat) (v : Value), V8.cell? ⟨w.heap.size + 1, i, none⟩ = some v → W6.cell? ⟨w.heap.size + 1, i, none⟩ = some v := fun i v h => by
   rw [hW6]
   exact ((World.cell?_setCell_far _ ⟨w.heap.size + 1 + 1, 1, none⟩ ⟨w.heap.size + 1, i, none⟩ _ (by dsimp only; omega)).trans (World.cell?_setCell_far _ ⟨w.heap.size + 1 + 1, 0, none⟩ ⟨w.heap.size + 1, i, none⟩ _ (by dsimp only; omega))).trans h
  have s0 := far 0 _ r0
  have s1 := far 1 _ r1
  have s2 := far 2 _ r2
  have s3 := far 3 _ r3
  have s4 := far 4 _ r4
  have s5 := far 5 _ r5
  have s6 := far 6 _ r6
  have s7 := far 7 _ r7
  obtain ⟨g0, g1, g2, g3⟩ := id x6
  rw [← hW6]
  clear hW6 far r0 r1 r2 r3 r4 r5 r6 r7 xV bV
  have e := HJ.out
  clear HJ
  subst e
  go_wp2
  refine bodyPost_ret (v := .tuple #[.agg #[.int .i64 12, .string ⟨#[]⟩, .int .u64 p, .int .u64 0, .string ⟨#[]⟩, .slice none 0 0, .slice none 0 0, .int .i64 0], .int .u64 p, .int .i64 32, .agg #[.string S, .int .i64 Q]]) (by simp [results, Tryz.results7, go_sem, s0, s1, s2, s3, s4, s5, s6, s7, g0, g1]) rfl ⟨rfl, b6⟩
 ·skip
  have hpI : Hid (2139095040 ≤ (p0 : Int)) := by show 2139095040 ≤ (p0 : Int); omega
  have hlI : Hid ((p0 : Int) < 9300000000000000000) := by show (p0 : Int) < 9300000000000000000; omega
  have hpe : (p0 : Int) - 2139095040 = ((p : Nat) : Int) := by omega
  have HPE : Hid ((p0 : Int) - 2139095040 = ((p : Nat) : Int)) := hpe
  clear h1 h2 hb hpe
  obtain ⟨W1, hW1⟩ : ∃ W1, W1 = ((w.alloc (.cells #[.int .u64 bits, .bool false] 24)).alloc (.cells #[.int .i64 0, .string ⟨#[]⟩, .int .u64 0, .int .u64 0, .string ⟨#[]⟩, .slice none 0 0, .slice none 0 0, .int .i64 0] 29)).alloc (.cells #[.string ⟨#[]⟩, .int .i64 0] 31) := ⟨_, rfl⟩
  have b1 : Below w.heap.size w W1 := by rw [hW1]; exact (((Below.refl _ _).alloc (Nat.le_refl _) _).alloc (by simp) _).alloc (by simp; omega) _
  have c0 : W1.cell? ⟨w.heap.size, 0, none⟩ = some (.int .u64 bits) := by rw [hW1]; simp [go_sem]
  have c1 : W1.cell? ⟨w.heap.size, 1, none⟩ = some (.bool false) := by rw [hW1]; simp [go_sem]
  have zz1 : Zero8 W1 (w.heap.size + 1) := by
   refine ⟨by rw [hW1]; refine ⟨?_, ?_, ?_, ?_, ?_, ?_, ?_, ?_⟩ <;> simp [go_sem], fun i => ?_⟩
   rw [hW1]
   simp [go_sem]
  have bx1 : BoxDe W1 (w.heap.size + 1 + 1) (.string ⟨#[]⟩) (.int .i64 0) := by rw [hW1]; simp [BoxDe, go_sem]
  go_enter Tryz.func7, Tryz.ntmps7
  go_upto_region 1 with fail
  rw [← hW1]
  clear hW1
  go_upto_region 4 with fail
  go_quiet (fail)
  go_upto_region 5 with fail
  have hpI := hpI.out
  have hlI := hlI.out
  have hpe := HPE.out
  have hJ0 := hJ0.out
  clear hand
  generalize hJ : (2139095040 : Int) = J at *
  have HJ : Hid (J = 2139095040) := hJ.symm
  clear hJ
  go_upto_region 9 with (first | (go_at_call 16; (with_reducible refine (hP _).mono ?_); rintro x w2 ⟨rfl, hb2⟩) | (go_at_call 18; (with_reducible refine (hX _).mono ?_); rintro x w3 ⟨rfl, hb3⟩))
  have bq : Below W1.heap.size W1 (W1.drewN nq) := below_drewN (Below.refl _ _) _
  have b13 : Below W1.heap.size W1 w3 := (bq.trans (hb2.mono bq.size)).trans (hb3.mono (by have := bq.size; have := hb2.size; omega))
  obtain ⟨W4, hW4⟩ : ∃ W4, W4 = w3.alloc (.cells #[.string S, .int .i64 Q] 31) := ⟨_, rfl⟩
  have b14 : Below W1.heap.size W1 W4 := by rw [hW4]; exact b13.alloc b13.size _
  have bW4 : Below w.heap.size w W4 := b1.trans (b14.mono b1.size)
  have e4 : BoxDe W4 w3.heap.size (.string S) (.int .i64 Q) := by rw [hW4]; simp [BoxDe, go_sem]
  have hlt : w.heap.size + 1 + 1 < w3.heap.size := World.block_lt_of_cell? w3 _ (keepb b13 bx1).1
  have zz4 := zz1.up b14
  have bx4 := keepb b14 bx1
  rw [← hW4]
  clear hW4 hb2 hb3 bq b13 b14 zz1 bx1 c0 c1 b1
  generalize w3.heap.size = E at *
  obtain ⟨e0, e1, e2, e3⟩ := id e4
  obtain ⟨f0, f1, f2, f3⟩ := id bx4
  obtain ⟨⟨z0, z1, z2, z3, z4, z5, z6, z7⟩, zf⟩ := id zz4
  have y0 := zf 0
  have y1 := zf 1
  have y2 := zf 2
  have y3 := zf 3
  have y4 := zf 4
  have y5 := zf 5
  have y6 := zf 6
  have y7 := zf 7
  go_region
  obtain ⟨V8, hV8⟩ : ∃ V8, V8 = (((((((W4.setCell ⟨w.heap.size + 1, 0, none⟩ (.int .i64 12)).setCell ⟨w.heap.size + 1, 1, none⟩ (.string ⟨#[]⟩)).setCell ⟨w.heap.size + 1, 2, none⟩ (.int .u64 p)).setCell ⟨w.heap.size + 1, 3, none⟩ (.int .u64 0)).setCell ⟨w.heap.size + 1, 4, none⟩ (.string ⟨#[]⟩)).setCell ⟨w.heap.size + 1, 5, none⟩ (.slice none 0 0)).setCell ⟨w.heap.size + 1, 6, none⟩ (.slice none 0 0)).setCell ⟨w.heap.size + 1, 7, none⟩ (.int .i64 0) := ⟨_, rfl⟩
  have hr := set8 z0 z1 z2 z3 z4 z5 z6 z7 (.int .i64 12) (.string ⟨#[]⟩) (.int .u64 p) (.int .u64 0) (.string ⟨#[]⟩) (.slice none 0 0) (.slice none 0 0) (.int .i64 0)
  have bV : Below w.heap.size w V8 := by rw [hV8]; exact set8_below bW4 (by omega)
  have xV : BoxDe V8 (w.heap.size + 1 + 1) (.string ⟨#[]⟩) (.int .i64 0) := by rw [hV8]; exact (((((((bx4.pastA (by omega) _ _).pastA (by omega) _ _).pastA (by omega) _ _).pastA (by omega) _ _).pastA (by omega) _ _).pastA (by omega) _ _).pastA (by omega) _ _).pastA (by omega) _ _
  rw [← hV8] at hr
  rw [← hV8]
  clear hV8 z0 z1 z2 z3 z4 z5 z6 z7 zf y0 y1 y2 y3 y4 y5 y6 y7 f0 f1 f2 f3 zz4 bx4 bW4
  obtain ⟨r0, r1, r2, r3, r4, r5, r6, r7⟩ := hr
  obtain ⟨W6, hW6⟩ : ∃ W6, W6 = ((V8.setCell ⟨w.heap.size + 1 + 1, 0, none⟩ (.string S)).setCell ⟨w.heap.size + 1 + 1, 1, none⟩ (.int .i64 Q)).drew := ⟨_, rfl⟩
  have b6 : Below w.heap.size w W6 := by rw [hW6]; exact ((bV.setCell (p := ⟨w.heap.size + 1 + 1, 0, none⟩) (by dsimp only; omega) _).setCell (p := ⟨w.heap.size + 1 + 1, 1, none⟩) (by dsimp only; omega) _).drew
  have x6 : BoxDe W6 (w.heap.size + 1 + 1) (.string S) (.int .i64 Q) := by rw [hW6]; exact (xV.put0 _).put1 _
  have far : ∀ (i : Nat) (v : Value), V8.cell? ⟨w.heap.size + 1, i, none⟩ = some v → W6.cell? ⟨w.heap.size + 1, i, none⟩ = some v := fun i v h => by
   rw [hW6]
   exact ((World.cell?_setCell_far _ ⟨w.heap.size + 1 + 1, 1, none⟩ ⟨w.heap.size + 1, i, none⟩ _ (by dsimp only; omega)).trans (World.cell?_setCell_far _ ⟨w.heap.size + 1 + 1, 0, none⟩ ⟨w.heap.size + 1, i, none⟩ _ (by dsimp only; omega))).trans h
  have s0 := far 0 _ r0
  have s1 := far 1 _ r1
  have s2 := far 2 _ r2
  have s3 := far 3 _ r3
  have s4 := far 4 _ r4
  have s5 := far 5 _ r5
  have s6 := far 6 _ r6
  have s7 := far 7 _ r7
  obtain ⟨g0, g1, g2, g3⟩ := id x6
  rw [← hW6]
  clear hW6 far r0 r1 r2 r3 r4 r5 r6 r7 xV bV
  have e := HJ.out
  clear HJ
  subst e
  go_wp2
  refine bodyPost_ret (v := .tuple #[.agg #[.int .i64 12, .string ⟨#[]⟩, .int .u64 p, .int .u64 0, .string ⟨#[]⟩, .slice none 0 0, .slice none 0 0, .int .i64 0], .int .u64 p, .int .i64 32, .agg #[.string S, .int .i64 Q]]) (by simp [results, Tryz.results7, go_sem, s0, s1, s2, s3, s4, s5, s6, s7, g0, g1]) rfl ⟨rfl, b6⟩
theorem pat9 (m0 : Int) (hm0 : (Lit.int .u64 m0).wf = true) (b : Bool) : ∃ (bits : Nat) (n : Int) (f ww : Nat) (least : Int) (I p k : Nat), m0 = (bits : Int) ∧ Ly n f ww least I ∧ p < I ∧ p < 9300000000000000000 ∧ FkN k p n ∧ (∀ {m : Nat} {e Q : Int} {sg : Bool} {S : ByteArray}, PtC p n sg m e 0 → ExC m e S Q → Fl9 bits b k p n S Q) := by
 have hw := wfu64 m0 hm0
 obtain ⟨bits, rfl⟩ := Int.eq_ofNat_of_zero_le hw.1
 have hb : bits < 18446744073709551616 := by omega
 cases b with
 | true =>
   have hp : bits % (9223372036854775807 + 1) < 9223372036854775808 := Nat.mod_lt _ (by decide)
   have ha := bits_low bits 63 9223372036854775807 hb rfl (by decide)
   generalize bits % (9223372036854775807 + 1) = p0 at *
   refine ⟨bits, 64, 52, 11, -1074, 9218868437227405312, if p0 < 9218868437227405312 then p0 else p0 - 9218868437227405312, 13, rfl, lyB, by split <;> omega, by split <;> omega, .inl ⟨rfl, rfl⟩, fun hP hX => ?_⟩
   refine float_64 ha ?_ (by omega) hP hX
   split
   ·exact .inl ⟨by assumption, rfl⟩
   ·exact .inr ⟨by assumption, rfl⟩
 | false =>
   have hp : bits % (2147483647 + 1) < 2147483648 := Nat.mod_lt _ (by decide)
   have ha := bits_low bits 31 2147483647 hb rfl (by decide)
   generalize bits % (2147483647 + 1) = p0 at *
   refine ⟨bits, 32, 23, 8, -149, 2139095040, if p0 < 2139095040 then p0 else p0 - 2139095040, 12, rfl, lyA, by split <;> omega, by split <;> omega, .inr ⟨rfl, rfl, by split <;> omega⟩, fun hP hX => ?_⟩
   refine float_32 ha ?_ (by omega) hP hX
   split
   ·exact .inl ⟨by assumption, rfl⟩
   ·exact .inr ⟨by assumption, rfl⟩
end Go.Proofs.YtiagjheifblkiaaGreatDoor
namespace Go.Proofs.YtiagjheifblkiaaGreatDoor
open Go.RowKit
set_option linter.unusedVariables false
set_option linter.unusedSimpArgs false
def hvD (c : UInt8) : Nat := if c.toNat ≤ 57 then c.toNat - 48 else c.toNat - 97 + 10
def gS (a : Nat × Nat) (c : UInt8) : Nat × Nat := if c.toNat = 46 then a else (16 * a.1 + hvD c, a.2 + 1)
def gL (l : List UInt8) : Nat × Nat := l.foldl gS (0, 0)
theorem gL_snoc (l : List UInt8) (c : UInt8) : gL (l ++ [c]) = gS (gL l) c := by simp [gL]
def HexG (T : ByteArray) (N : Nat) : Prop := ∀ i (h : i < T.size), 2 ≤ i → i < N → ((T[i]'h).toNat = 46 ∧ 2 < i) ∨ (48 ≤ (T[i]'h).toNat ∧ (T[i]'h).toNat ≤ 57) ∨ (97 ≤ (T[i]'h).toNat ∧ (T[i]'h).toNat ≤ 102)
theorem gL_fold (l : List UInt8) (h : ∀ c ∈ l, c.toNat ≠ 46) : ∀ a : Nat × Nat, l.foldl gS a = (l.foldl (fun n x => n * 16 + hvD x) a.1, a.2 + l.length) := by
 induction l with
 | nil => intro a; rfl
 | cons c l ih =>
   intro a
   rw [List.foldl_cons, ih (fun x hx => h x (List.mem_cons_of_mem _ hx))]
   have hc := h c List.mem_cons_self
   have e : gS a c = (16 * a.1 + hvD c, a.2 + 1) := by unfold gS; rw [if_neg hc]
   rw [e, List.foldl_cons, Nat.mul_comm 16, List.length_cons]
   congr 1
   omega
theorem gL_lt (l : List UInt8) (h : ∀ c ∈ l, c.toNat = 46 ∨ hvD c < 16) : ∀ a : Nat × Nat, (l.foldl gS a).1 < (a.1 + 1) * 16 ^ l.length := by
 induction l with
 | nil => intro a; simp
 | cons c l ih =>
   intro a
   rw [List.foldl_cons]
   have h1 := ih (fun x hx => h x (List.mem_cons_of_mem _ hx)) (gS a c)
   have h2 : (gS a c).1 + 1 ≤ (a.1 + 1) * 16 := by
    unfold gS
    split
    ·omega
    ·rename_i hc
     have := (h c List.mem_cons_self).resolve_left hc
     show 16 * a.1 + hvD c + 1 ≤ _
     omega
   have h3 := Nat.mul_le_mul_right (16 ^ l.length) h2
   rw [List.length_cons, Nat.pow_succ, Nat.mul_comm (16 ^ l.length), ← Nat.mul_assoc]
   omega
theorem hv_hex {d : Nat} (hdB : d < 16) : hvD (hexB false d) = d ∧ ((48 ≤ (hexB false d).toNat ∧ (hexB false d).toNat ≤ 57) ∨ (97 ≤ (hexB false d).toNat ∧ (hexB false d).toNat ≤ 102)) := by
 have : ∀ d : Fin 16, hvD (hexB false d.val) = d.val ∧ ((48 ≤ (hexB false d.val).toNat ∧ (hexB false d.val).toNat ≤ 57) ∨ (97 ≤ (hexB false d.val).toNat ∧ (hexB false d.val).toNat ≤ 102)) := by decide
 exact this ⟨d, hdB⟩
theorem hx_fold : ∀ (k n a : Nat), n < 16 ^ k → (hx k n).foldl (fun n x => n * 16 + hvD x) a = a * 16 ^ k + n
 | 0, n, a, h => by
   have : n = 0 := by simp at h; omega
   subst this; simp [hx]
 | k + 1, n, a, h => by
   rw [hx, List.foldl_append, hx_fold k (n / 16) a (by rw [Nat.pow_succ] at h; omega)]
   show (a * 16 ^ k + n / 16) * 16 + hvD (hexB false (n % 16)) = _
   rw [(hv_hex (Nat.mod_lt _ (by decide))).1, Nat.pow_succ, ← Nat.mul_assoc]
   omega
theorem hx_mem : ∀ (k n : Nat) (x : UInt8), x ∈ hx k n → ∃ d, d < 16 ∧ x = hexB false d
 | 0, n, x, h => by simp [hx] at h
 | k + 1, n, x, h => by
   rw [hx] at h
   rcases List.mem_append.1 h with h | h
   ·exact hx_mem k _ x h
   ·exact ⟨n % 16, Nat.mod_lt _ (by decide), by simpa using h⟩
theorem zero_fold (k a : Nat) : (List.replicate k (48 : UInt8)).foldl (fun n x => n * 16 + hvD x) a = a * 16 ^ k := by
 induction k generalizing a with
 | zero => simp
 | succ k ih =>
   rw [List.replicate_succ, List.foldl_cons, ih]
   have : hvD 48 = 0 := by decide
   rw [this, Nat.pow_succ, Nat.add_zero, Nat.mul_assoc, Nat.mul_comm 16]
def HexC (x : UInt8) : Prop := (48 ≤ x.toNat ∧ x.toNat ≤ 57) ∨ (97 ≤ x.toNat ∧ x.toNat ≤ 102)
theorem HexC.hv {x : UInt8} (h : HexC x) : hvD x < 16 ∧ x.toNat ≠ 46 := by
 unfold hvD
 rcases h with h | h
 ·rw [if_pos h.2]; omega
 ·rw [if_neg (by omega)]; omega
theorem hex_back {m : Nat} (hm : m < 2 ^ 53) (e : Int) : ∃ (a0 : UInt8) (H B : List UInt8) (k s : Nat), (hxD m (-1)).data.toList = a0 :: H ∧ H.length = 13 ∧ rtr H = B ∧ H = B ++ List.replicate k 48 ∧ HexC a0 ∧ (∀ x ∈ B, HexC x) ∧ s ≤ 52 ∧ (a0 :: B).foldl (fun n x => n * 16 + hvD x) 0 * 16 ^ k = m * 2 ^ s ∧ (m ≠ 0 → nmE m e (-1) = e + 52 - s) ∧ (m = 0 → nmE m e (-1) = 0) ∧ (a0.toNat = 49 ∧ 0 < m ∨ a0.toNat = 48 ∧ ¬ 0 < m) := by
 by_cases h0 : m = 0
 ·subst h0
  obtain ⟨h1, h2⟩ := hex_0 (-1) e
  obtain ⟨k, hk, -⟩ := rtr_split (List.replicate 13 48)
  refine ⟨48, List.replicate 13 48, _, k, 0, h1, by simp, rfl, hk, .inl (by decide), fun x hx => ?_, by omega, ?_, fun h => absurd rfl h, fun _ => h2, .inr ⟨rfl, by omega⟩⟩
  ·have : x ∈ List.replicate 13 (48 : UInt8) := by rw [hk]; exact List.mem_append_left _ hx
   rw [List.eq_of_mem_replicate this]
   exact .inl (by decide)
  ·rw [← zero_fold, ← List.foldl_append, List.cons_append, ← hk]
   show (List.replicate 14 (48 : UInt8)).foldl (fun n x => n * 16 + hvD x) 0 = _
   rw [zero_fold]
 ·obtain ⟨hs, p, h1, h2⟩ := nm_in h0 hm
  obtain ⟨h3, h4⟩ := hex_keep (e := e) (P := -1) h0 h1 (rb_all (.inl (by decide))) h2
  obtain ⟨k, hk, -⟩ := rtr_split (hx 13 p)
  refine ⟨49, hx 13 p, _, k, nmS m, h3, hx_len _ _, rfl, hk, .inl (by decide), fun x hx => ?_, hs, ?_, fun _ => h4, fun h => absurd h h0, .inl ⟨rfl, by omega⟩⟩
  ·obtain ⟨d, hdB, rfl⟩ := hx_mem 13 p x (by rw [hk]; exact List.mem_append_left _ hx)
   exact (hv_hex hdB).2
  ·rw [← zero_fold, ← List.foldl_append, List.cons_append, ← hk, List.foldl_cons, hx_fold _ _ _ h2, h1]
   rfl
theorem exU_nil (z : Int) : exU 0 z = 0 := by unfold exU; split <;> rw [Nat.zero_mul, Nat.zero_mul]
theorem at_of7 {T : ByteArray} {i : Nat} {x : UInt8} (h : i < T.size) (hx : T.data.toList[i]? = some x) : (T[i]'h) = x := by
 have h2 : i < T.data.toList.length := by rw [list_len]; exact h
 rw [List.getElem?_eq_getElem h2] at hx
 exact Option.some.inj hx
theorem exU_back {m G k s : Nat} {e : Int} (h : G * 16 ^ k = m * 2 ^ s) (h0 : -1200 ≤ e - s) (h1 : e - s + (4 * k : Nat) ≤ 1200) (h2 : e ≤ 1200) : exU G (e - s + (4 * k : Nat)) = exU m e := by
 have e1 := exU_shift G (e - s) (4 * k) h0 h1
 have e2 := exU_shift m (e - s) s h0 (by omega)
 rw [show e - (s : Int) + (s : Nat) = e by omega] at e2
 rw [e1, e2, Nat.pow_mul, show (2 : Nat) ^ 4 = 16 from rfl, h]
theorem hxP_neg (d : ByteArray) : (hxP d (-1)).data.toList = rtr d.data.toList := by
 have : hxP d (-1) = ⟨(rtr d.data.toList).toArray⟩ := if_pos (by decide)
 rw [this]
end Go.Proofs.YtiagjheifblkiaaGreatDoor
