/- TopShortest: the law's walk, its calls as hypotheses. -/
import Derived.Test.YtiagjheifblkiaaGreatDoorUFloat
namespace Go.Proofs.YtiagjheifblkiaaGreatDoor
open Go.RowKit
set_option linter.unusedVariables false
set_option linter.unusedSimpArgs false
set_option maxRecDepth 1000000 in
set_option maxHeartbeats 16000000 in
theorem tsh_aE {bits p k q x y j : Nat} {n Q PV PA : Int} {b : Bool} {T S SV T1 SA : ByteArray} (hFl : Fl9 bits b k p n SV PV)
  (hPr : ∀ (A : Nat) (W : World), Esc W → KN W → A < W.heap.size → W.rangeAt A 0 [.int .i64 k, .string ⟨#[]⟩, .int .u64 p, .int .u64 0, .string ⟨#[]⟩, .slice none 0 0, .slice none 0 0, .int .i64 0] → Calls Tryz.prog 9 #[.slice none 0 0, .string ⟨#[37, 118]⟩, .slice (some ⟨A, 0, none⟩) 1 1] W fun e w' => e = .returned (.string T) ∧ Below W.heap.size W w')
  (hR : R6C T S Q) (hRd : ReadC S Q n p 0) (hRo : RoundC SV PV S.size S Q 0) (hQ : ReadC S Q n q 0) (hs : S.size ≤ 100000) (hv : SV.size ≤ 100000) (hp0 : -100000 ≤ PV) (hp1 : PV ≤ 100000)
   (h1 : S.size < 2) (w : World) (hk : KN w) (he : Esc w) :
  Calls Tryz.prog 4 #[.agg #[.int .u64 bits, .bool b]] w fun e w' => e = .returned (.bool true) ∧ Below w.heap.size w w' := by
 have hL := fun W h1 h2 => tlives_any W h1 h2
 have h1I : (S.size : Int) < 2 := by omega
 obtain ⟨W1, hW1⟩ : ∃ W1, W1 = w.alloc (.cells #[.int .u64 bits, .bool b] 24) := ⟨_, rfl⟩
 have b1 : Below w.heap.size w W1 := by rw [hW1]; exact (Below.refl _ _).alloc (Nat.le_refl _) _
 have c0 : W1.cell? ⟨w.heap.size, 0, none⟩ = some (.int .u64 bits) := by rw [hW1]; simp [go_sem]
 have c1 : W1.cell? ⟨w.heap.size, 1, none⟩ = some (.bool b) := by rw [hW1]; simp [go_sem]
 go_enter Tryz.func4, Tryz.ntmps4
 go_upto_region 1 with fail
 rw [← hW1]
 clear hW1
 go_upto_region 2 with (go_at_call 7; refine (hFl _).mono ?_; rintro e W2 ⟨rfl, b2⟩)
 obtain ⟨W3, hW3⟩ : ∃ W3, W3 = (W2.alloc (.cells #[.int .i64 k, .string ⟨#[]⟩, .int .u64 p, .int .u64 0, .string ⟨#[]⟩, .slice none 0 0, .slice none 0 0, .int .i64 0] 29)).alloc (.cells #[.string SV, .int .i64 PV] 31) := ⟨_, rfl⟩
 have b3 : Below w.heap.size w W3 := by rw [hW3]; exact ((b1.trans (b2.mono b1.size)).alloc (by have := b1.size; have := b2.size; omega) _).alloc (by have := b1.size; have := b2.size; simp; omega) _
 have k3 : Blk W3 W2.heap.size [.int .i64 k, .string ⟨#[]⟩, .int .u64 p, .int .u64 0, .string ⟨#[]⟩, .slice none 0 0, .slice none 0 0, .int .i64 0] := by rw [hW3]; exact (Blk.new W2 [.int .i64 k, .string ⟨#[]⟩, .int .u64 p, .int .u64 0, .string ⟨#[]⟩, .slice none 0 0, .slice none 0 0, .int .i64 0] _).up ((Below.refl _ _).alloc (Nat.le_refl _) _)
 have v3 : BoxDe W3 (W2.heap.size + 1) (.string SV) (.int .i64 PV) := by rw [hW3]; simp [BoxDe, go_sem]
 rw [← hW3]
 clear hW3 b1 b2 c0 c1
 obtain ⟨VB, hVB⟩ : ∃ VB, W2.heap.size + 1 = VB := ⟨_, rfl⟩
 rw [hVB] at v3
 rw [hVB]
 clear hVB
 generalize W2.heap.size = D at *
 clear W2
 have a0 := k3.c 0 _ rfl
 have a1 := k3.c 1 _ rfl
 have a2 := k3.c 2 _ rfl
 have a3 := k3.c 3 _ rfl
 have a4 := k3.c 4 _ rfl
 have a5 := k3.c 5 _ rfl
 have a6 := k3.c 6 _ rfl
 have a7 := k3.c 7 _ rfl
 obtain ⟨A4, hA4⟩ : ∃ A4, A4 = W3.alloc (.cells #[.int .i64 k, .string ⟨#[]⟩, .int .u64 p, .int .u64 0, .string ⟨#[]⟩, .slice none 0 0, .slice none 0 0, .int .i64 0] 29) := ⟨_, rfl⟩
 have d4 : Below W3.heap.size W3 A4 := by rw [hA4]; exact (Below.refl _ _).alloc (Nat.le_refl _) _
 have b4 : Below w.heap.size w A4 := b3.trans (d4.mono b3.size)
 have k4 : Blk A4 W3.heap.size [.int .i64 k, .string ⟨#[]⟩, .int .u64 p, .int .u64 0, .string ⟨#[]⟩, .slice none 0 0, .slice none 0 0, .int .i64 0] := by rw [hA4]; exact Blk.new W3 [.int .i64 k, .string ⟨#[]⟩, .int .u64 p, .int .u64 0, .string ⟨#[]⟩, .slice none 0 0, .slice none 0 0, .int .i64 0] _
 have c4 := hPr W3.heap.size A4 (he.below b4) (hk.up b4) k4.b k4.range
 have v4 := keepb d4 v3
 go_upto_region 3 with (first | (go_at_call 9; rw [← hA4]; clear hA4; refine c4.mono ?_; rintro e W5 ⟨rfl, d5⟩) | (go_at_call 8; refine (hR _).mono ?_; rintro e W6 ⟨rfl, d6⟩))
 have b6 : Below w.heap.size w W6 := (b4.trans (d5.mono b4.size)).trans (d6.mono (b4.trans (d5.mono b4.size)).size)
 have v6 := keepb d6 (keepb d5 v4)
 have l6 : VB < W6.heap.size := World.block_lt_of_cell? _ _ v6.1
 obtain ⟨W7, hW7⟩ : ∃ W7, W7 = W6.alloc (.cells #[.string S, .int .i64 Q] 31) := ⟨_, rfl⟩
 have b7 : Below w.heap.size w W7 := by rw [hW7]; exact b6.alloc b6.size _
 have v7 : BoxDe W7 VB (.string SV) (.int .i64 PV) := by rw [hW7]; exact keepb ((Below.refl _ _).alloc (Nat.le_refl _) _) v6
 have g7 : BoxDe W7 W6.heap.size (.string S) (.int .i64 Q) := by rw [hW7]; simp [BoxDe, go_sem]
 rw [← hW7]
 clear hW7 a0 a1 a2 a3 a4 a5 a6 a7 k3 k4 v3 v4 v6 b3 b4 d4 d5 d6 c4 hPr hR hFl
 obtain ⟨G, hG⟩ : ∃ G, W6.heap.size = G := ⟨_, rfl⟩
 rw [hG] at l6 g7
 rw [hG]
 clear hG b6
 obtain ⟨x0, x1, x2, x3⟩ := id v7
 obtain ⟨y0, y1, y2, y3⟩ := id g7
 go_upto_region 7 with (go_at_call 14; (with_reducible refine (hRd _).mono ?_); rintro e W8 ⟨rfl, d8⟩; have v8 := keepb d8 v7; have g8 := keepb d8 g7; clear x0 x1 x2 x3 y0 y1 y2 y3; obtain ⟨x0, x1, x2, x3⟩ := id v8; obtain ⟨y0, y1, y2, y3⟩ := id g8)
 have b8 := b7.trans (d8.mono b7.size)
 clear d8 v7 g7 b7
 go_upto_region 8 with (go_at_call 11; (with_reducible refine (hRo _).mono ?_); rintro e W9 ⟨rfl, d9⟩)
 obtain ⟨W10, hW10⟩ : ∃ W10, W10 = W9.alloc (.cells #[.string S, .int .i64 Q] 31) := ⟨_, rfl⟩
 have d10 : Below W8.heap.size W8 W10 := by rw [hW10]; exact d9.alloc d9.size _
 have b10 := b8.trans (d10.mono b8.size)
 have v10 := keepb d10 v8
 have g10 := keepb d10 g8
 have n10 : BoxDe W10 W9.heap.size (.string S) (.int .i64 Q) := by rw [hW10]; simp [BoxDe, go_sem]
 have l9 : G < W9.heap.size := World.block_lt_of_cell? _ _ (keepb d9 g8).1
 rw [← hW10]
 clear hW10 d10 d9 v8 g8 b8 x0 x1 x2 x3 y0 y1 y2 y3 hRd hRo
 generalize W9.heap.size = N at *
 obtain ⟨x0, x1, x2, x3⟩ := id v10
 obtain ⟨y0, y1, y2, y3⟩ := id g10
 obtain ⟨z0, z1, z2, z3⟩ := id n10
 go_upto_region 9 with (go_at_call 14; (with_reducible refine (hQ _).mono ?_); rintro e W11 ⟨rfl, d11⟩)
 have b11 := b10.trans (d11.mono b10.size)
 have v11 := keepb d11 v10
 have g11 := keepb d11 g10
 have n11 := keepb d11 n10
 clear d11 v10 g10 n10 b10 x0 x1 x2 x3 y0 y1 y2 y3 z0 z1 z2 z3 hQ
 obtain ⟨x0, x1, x2, x3⟩ := id v11
 obtain ⟨y0, y1, y2, y3⟩ := id g11
 obtain ⟨z0, z1, z2, z3⟩ := id n11
 have lv : VB < W11.heap.size := World.block_lt_of_cell? _ _ v11.1
 have hl := hL _ (he.below b11) (hk.up b11)
 go_wp2_with (go_at_call 13; refine hl.mono ?_; rintro x w12 ⟨rfl, b12⟩)
 all_goals go_ret
 all_goals exact ⟨rfl, b11.trans (b12.mono b11.size)⟩
set_option maxRecDepth 1000000 in
set_option maxHeartbeats 16000000 in
theorem tsh_cE {bits p k q x y j : Nat} {n Q PV PA : Int} {b : Bool} {T S SV T1 SA : ByteArray} (hFl : Fl9 bits b k p n SV PV)
  (hPr : ∀ (A : Nat) (W : World), Esc W → KN W → A < W.heap.size → W.rangeAt A 0 [.int .i64 k, .string ⟨#[]⟩, .int .u64 p, .int .u64 0, .string ⟨#[]⟩, .slice none 0 0, .slice none 0 0, .int .i64 0] → Calls Tryz.prog 9 #[.slice none 0 0, .string ⟨#[37, 118]⟩, .slice (some ⟨A, 0, none⟩) 1 1] W fun e w' => e = .returned (.string T) ∧ Below W.heap.size W w')
  (hR : R6C T S Q) (hRd : ReadC S Q n p 0) (hRo : RoundC SV PV S.size S Q 0) (hQ : ReadC S Q n q 0) (hs : S.size ≤ 100000) (hv : SV.size ≤ 100000) (hp0 : -100000 ≤ PV) (hp1 : PV ≤ 100000)
   (hj : j + 1 = S.size) (h1 : 1 ≤ j) (h2 : j < SV.size) (hT : SV.extract 0 j = T1) (hA : AddC T1 PV ⟨#[49]⟩ (PV - (S.size : Nat) + 2) SA PA 0) (hx : ReadC T1 PV n x 0) (hy : ReadC SA PA n y 0) (hxp : x ≠ p) (hyp : y ≠ p) (w : World) (hk : KN w) (he : Esc w) :
  Calls Tryz.prog 4 #[.agg #[.int .u64 bits, .bool b]] w fun e w' => e = .returned (.bool true) ∧ Below w.heap.size w w' := by
 have hL := fun W h1 h2 => tlives_any W h1 h2
 have h1I : ¬ (S.size : Int) < 2 := by omega
 have h2I : ¬ (SV.size : Int) < (S.size : Int) := by omega
 have hkI : (S.size : Int) - 1 = j := by omega
 have h3I : (j : Int) ≤ SV.size := by omega
 have h4I : (j : Int) ≤ 100000 := by omega
 have c2I : ((x : Int) != (p : Int)) = true := by simp; omega
 have c3I : ((y : Int) != (p : Int)) = true := by simp; omega
 clear hj
 obtain ⟨W1, hW1⟩ : ∃ W1, W1 = w.alloc (.cells #[.int .u64 bits, .bool b] 24) := ⟨_, rfl⟩
 have b1 : Below w.heap.size w W1 := by rw [hW1]; exact (Below.refl _ _).alloc (Nat.le_refl _) _
 have c0 : W1.cell? ⟨w.heap.size, 0, none⟩ = some (.int .u64 bits) := by rw [hW1]; simp [go_sem]
 have c1 : W1.cell? ⟨w.heap.size, 1, none⟩ = some (.bool b) := by rw [hW1]; simp [go_sem]
 go_enter Tryz.func4, Tryz.ntmps4
 go_upto_region 1 with fail
 rw [← hW1]
 clear hW1
 go_upto_region 2 with (go_at_call 7; refine (hFl _).mono ?_; rintro e W2 ⟨rfl, b2⟩)
 obtain ⟨W3, hW3⟩ : ∃ W3, W3 = (W2.alloc (.cells #[.int .i64 k, .string ⟨#[]⟩, .int .u64 p, .int .u64 0, .string ⟨#[]⟩, .slice none 0 0, .slice none 0 0, .int .i64 0] 29)).alloc (.cells #[.string SV, .int .i64 PV] 31) := ⟨_, rfl⟩
 have b3 : Below w.heap.size w W3 := by rw [hW3]; exact ((b1.trans (b2.mono b1.size)).alloc (by have := b1.size; have := b2.size; omega) _).alloc (by have := b1.size; have := b2.size; simp; omega) _
 have k3 : Blk W3 W2.heap.size [.int .i64 k, .string ⟨#[]⟩, .int .u64 p, .int .u64 0, .string ⟨#[]⟩, .slice none 0 0, .slice none 0 0, .int .i64 0] := by rw [hW3]; exact (Blk.new W2 [.int .i64 k, .string ⟨#[]⟩, .int .u64 p, .int .u64 0, .string ⟨#[]⟩, .slice none 0 0, .slice none 0 0, .int .i64 0] _).up ((Below.refl _ _).alloc (Nat.le_refl _) _)
 have v3 : BoxDe W3 (W2.heap.size + 1) (.string SV) (.int .i64 PV) := by rw [hW3]; simp [BoxDe, go_sem]
 rw [← hW3]
 clear hW3 b1 b2 c0 c1
 obtain ⟨VB, hVB⟩ : ∃ VB, W2.heap.size + 1 = VB := ⟨_, rfl⟩
 rw [hVB] at v3
 rw [hVB]
 clear hVB
 generalize W2.heap.size = D at *
 clear W2
 have a0 := k3.c 0 _ rfl
 have a1 := k3.c 1 _ rfl
 have a2 := k3.c 2 _ rfl
 have a3 := k3.c 3 _ rfl
 have a4 := k3.c 4 _ rfl
 have a5 := k3.c 5 _ rfl
 have a6 := k3.c 6 _ rfl
 have a7 := k3.c 7 _ rfl
 obtain ⟨A4, hA4⟩ : ∃ A4, A4 = W3.alloc (.cells #[.int .i64 k, .string ⟨#[]⟩, .int .u64 p, .int .u64 0, .string ⟨#[]⟩, .slice none 0 0, .slice none 0 0, .int .i64 0] 29) := ⟨_, rfl⟩
 have d4 : Below W3.heap.size W3 A4 := by rw [hA4]; exact (Below.refl _ _).alloc (Nat.le_refl _) _
 have b4 : Below w.heap.size w A4 := b3.trans (d4.mono b3.size)
 have k4 : Blk A4 W3.heap.size [.int .i64 k, .string ⟨#[]⟩, .int .u64 p, .int .u64 0, .string ⟨#[]⟩, .slice none 0 0, .slice none 0 0, .int .i64 0] := by rw [hA4]; exact Blk.new W3 [.int .i64 k, .string ⟨#[]⟩, .int .u64 p, .int .u64 0, .string ⟨#[]⟩, .slice none 0 0, .slice none 0 0, .int .i64 0] _
 have c4 := hPr W3.heap.size A4 (he.below b4) (hk.up b4) k4.b k4.range
 have v4 := keepb d4 v3
 go_upto_region 3 with (first | (go_at_call 9; rw [← hA4]; clear hA4; refine c4.mono ?_; rintro e W5 ⟨rfl, d5⟩) | (go_at_call 8; refine (hR _).mono ?_; rintro e W6 ⟨rfl, d6⟩))
 have b6 : Below w.heap.size w W6 := (b4.trans (d5.mono b4.size)).trans (d6.mono (b4.trans (d5.mono b4.size)).size)
 have v6 := keepb d6 (keepb d5 v4)
 have l6 : VB < W6.heap.size := World.block_lt_of_cell? _ _ v6.1
 obtain ⟨W7, hW7⟩ : ∃ W7, W7 = W6.alloc (.cells #[.string S, .int .i64 Q] 31) := ⟨_, rfl⟩
 have b7 : Below w.heap.size w W7 := by rw [hW7]; exact b6.alloc b6.size _
 have v7 : BoxDe W7 VB (.string SV) (.int .i64 PV) := by rw [hW7]; exact keepb ((Below.refl _ _).alloc (Nat.le_refl _) _) v6
 have g7 : BoxDe W7 W6.heap.size (.string S) (.int .i64 Q) := by rw [hW7]; simp [BoxDe, go_sem]
 rw [← hW7]
 clear hW7 a0 a1 a2 a3 a4 a5 a6 a7 k3 k4 v3 v4 v6 b3 b4 d4 d5 d6 c4 hPr hR hFl
 obtain ⟨G, hG⟩ : ∃ G, W6.heap.size = G := ⟨_, rfl⟩
 rw [hG] at l6 g7
 rw [hG]
 clear hG b6
 obtain ⟨x0, x1, x2, x3⟩ := id v7
 obtain ⟨y0, y1, y2, y3⟩ := id g7
 go_upto_region 7 with (go_at_call 14; (with_reducible refine (hRd _).mono ?_); rintro e W8 ⟨rfl, d8⟩; have v8 := keepb d8 v7; have g8 := keepb d8 g7; clear x0 x1 x2 x3 y0 y1 y2 y3; obtain ⟨x0, x1, x2, x3⟩ := id v8; obtain ⟨y0, y1, y2, y3⟩ := id g8)
 have b8 := b7.trans (d8.mono b7.size)
 clear d8 v7 g7 b7
 go_upto_region 8 with (go_at_call 11; (with_reducible refine (hRo _).mono ?_); rintro e W9 ⟨rfl, d9⟩)
 obtain ⟨W10, hW10⟩ : ∃ W10, W10 = W9.alloc (.cells #[.string S, .int .i64 Q] 31) := ⟨_, rfl⟩
 have d10 : Below W8.heap.size W8 W10 := by rw [hW10]; exact d9.alloc d9.size _
 have b10 := b8.trans (d10.mono b8.size)
 have v10 := keepb d10 v8
 have g10 := keepb d10 g8
 have n10 : BoxDe W10 W9.heap.size (.string S) (.int .i64 Q) := by rw [hW10]; simp [BoxDe, go_sem]
 have l9 : G < W9.heap.size := World.block_lt_of_cell? _ _ (keepb d9 g8).1
 rw [← hW10]
 clear hW10 d10 d9 v8 g8 b8 x0 x1 x2 x3 y0 y1 y2 y3 hRd hRo
 generalize W9.heap.size = N at *
 obtain ⟨x0, x1, x2, x3⟩ := id v10
 obtain ⟨y0, y1, y2, y3⟩ := id g10
 obtain ⟨z0, z1, z2, z3⟩ := id n10
 go_upto_region 9 with (go_at_call 14; (with_reducible refine (hQ _).mono ?_); rintro e W11 ⟨rfl, d11⟩)
 have b11 := b10.trans (d11.mono b10.size)
 have v11 := keepb d11 v10
 have g11 := keepb d11 g10
 have n11 := keepb d11 n10
 clear d11 v10 g10 n10 b10 x0 x1 x2 x3 y0 y1 y2 y3 z0 z1 z2 z3 hQ
 obtain ⟨x0, x1, x2, x3⟩ := id v11
 obtain ⟨y0, y1, y2, y3⟩ := id g11
 obtain ⟨z0, z1, z2, z3⟩ := id n11
 have lv : VB < W11.heap.size := World.block_lt_of_cell? _ _ v11.1
 have hl := hL _ (he.below b11) (hk.up b11)
 go_upto_region 13 with fail
 all_goals go_region
 all_goals
  obtain ⟨W12, hW12⟩ : ∃ W, W = (W11.alloc (.cells #[.string T1, .int .i64 PV] 31)).drew := ⟨_, rfl⟩
  have b12 : Below w.heap.size w W12 := by rw [hW12]; exact (b11.alloc b11.size _).drew
  have t12 : BoxDe W12 W11.heap.size (.string T1) (.int .i64 PV) := by rw [hW12]; simp [BoxDe, go_sem]
  have v12 : BoxDe W12 VB (.string SV) (.int .i64 PV) := by rw [hW12]; exact keepb ((Below.refl _ _).alloc (Nat.le_refl _) _).drew v11
  rw [← hW12]
  clear hW12 x0 x1 x2 x3 y0 y1 y2 y3 z0 z1 z2 z3 v11 g11 n11 hl
  generalize W11.heap.size = F at *
  obtain ⟨x0, x1, x2, x3⟩ := id v12
  obtain ⟨y0, y1, y2, y3⟩ := id t12
  go_upto_region 15 with (go_at_call 15; (with_reducible refine (hA _).mono ?_); rintro e W13 ⟨rfl, d13⟩)
  obtain ⟨W14, hW14⟩ : ∃ W, W = W13.alloc (.cells #[.string SA, .int .i64 PA] 31) := ⟨_, rfl⟩
  have d14 : Below W12.heap.size W12 W14 := by rw [hW14]; exact d13.alloc d13.size _
  have b14 := b12.trans (d14.mono b12.size)
  have t14 := keepb d14 t12
  have h14 : BoxDe W14 W13.heap.size (.string SA) (.int .i64 PA) := by rw [hW14]; simp [BoxDe, go_sem]
  have l14 : F < W13.heap.size := World.block_lt_of_cell? _ _ (keepb d13 t12).1
  rw [← hW14]
  clear hW14 d14 d13 x0 x1 x2 x3 y0 y1 y2 y3 v12 t12 hA
  generalize W13.heap.size = H at *
  obtain ⟨x0, x1, x2, x3⟩ := id t14
  obtain ⟨y0, y1, y2, y3⟩ := id h14
  go_upto_region 16 with (go_at_call 14; (with_reducible refine (hx _).mono ?_); rintro e W15 ⟨rfl, d15⟩)
  have b15 := b14.trans (d15.mono b14.size)
  have h15 := keepb d15 h14
  clear d15 x0 x1 x2 x3 y0 y1 y2 y3 t14 h14 hx
  obtain ⟨y0, y1, y2, y3⟩ := id h15
  go_upto_region 17 with (go_at_call 14; (with_reducible refine (hy _).mono ?_); rintro e W16 ⟨rfl, d16⟩)
  have b16 := b15.trans (d16.mono b15.size)
  have hl := hL _ (he.below b16) (hk.up b16)
  go_wp2_with (go_at_call 13; refine hl.mono ?_; rintro x w17 ⟨rfl, b17⟩)
  go_ret
  exact ⟨rfl, b16.trans (b17.mono b16.size)⟩
set_option maxRecDepth 1000000 in
set_option maxHeartbeats 16000000 in
theorem tsh_aN {bits p k q x y j : Nat} {n Q PV PN PA : Int} {b : Bool} {T S SV SN T1 SA : ByteArray} (hFl : Fl9 bits b k p n SV PV)
  (hPr : ∀ (A : Nat) (W : World), Esc W → KN W → A < W.heap.size → W.rangeAt A 0 [.int .i64 k, .string ⟨#[]⟩, .int .u64 p, .int .u64 0, .string ⟨#[]⟩, .slice none 0 0, .slice none 0 0, .int .i64 0] → Calls Tryz.prog 9 #[.slice none 0 0, .string ⟨#[37, 118]⟩, .slice (some ⟨A, 0, none⟩) 1 1] W fun e w' => e = .returned (.string T) ∧ Below W.heap.size W w')
  (hR : R6C T S Q) (hRd : ReadC S Q n p 0) (hRo : RoundC SV PV S.size SN PN 0) (hQ : ReadC SN PN n q 0) (hs : S.size ≤ 100000) (hv : SV.size ≤ 100000) (hp0 : -100000 ≤ PV) (hp1 : PV ≤ 100000)
  (hne : ¬ (SN = S ∧ PN = Q)) (hq : q ≠ p) (h1 : S.size < 2) (w : World) (hk : KN w) (he : Esc w) :
  Calls Tryz.prog 4 #[.agg #[.int .u64 bits, .bool b]] w fun e w' => e = .returned (.bool true) ∧ Below w.heap.size w w' := by
 have hL := fun W h1 h2 => tlives_any W h1 h2
 have h1I : (S.size : Int) < 2 := by omega
 have b2I : ((q : Int) == (p : Int)) = false := by simp; omega
 clear hne
 obtain ⟨W1, hW1⟩ : ∃ W1, W1 = w.alloc (.cells #[.int .u64 bits, .bool b] 24) := ⟨_, rfl⟩
 have b1 : Below w.heap.size w W1 := by rw [hW1]; exact (Below.refl _ _).alloc (Nat.le_refl _) _
 have c0 : W1.cell? ⟨w.heap.size, 0, none⟩ = some (.int .u64 bits) := by rw [hW1]; simp [go_sem]
 have c1 : W1.cell? ⟨w.heap.size, 1, none⟩ = some (.bool b) := by rw [hW1]; simp [go_sem]
 go_enter Tryz.func4, Tryz.ntmps4
 go_upto_region 1 with fail
 rw [← hW1]
 clear hW1
 go_upto_region 2 with (go_at_call 7; refine (hFl _).mono ?_; rintro e W2 ⟨rfl, b2⟩)
 obtain ⟨W3, hW3⟩ : ∃ W3, W3 = (W2.alloc (.cells #[.int .i64 k, .string ⟨#[]⟩, .int .u64 p, .int .u64 0, .string ⟨#[]⟩, .slice none 0 0, .slice none 0 0, .int .i64 0] 29)).alloc (.cells #[.string SV, .int .i64 PV] 31) := ⟨_, rfl⟩
 have b3 : Below w.heap.size w W3 := by rw [hW3]; exact ((b1.trans (b2.mono b1.size)).alloc (by have := b1.size; have := b2.size; omega) _).alloc (by have := b1.size; have := b2.size; simp; omega) _
 have k3 : Blk W3 W2.heap.size [.int .i64 k, .string ⟨#[]⟩, .int .u64 p, .int .u64 0, .string ⟨#[]⟩, .slice none 0 0, .slice none 0 0, .int .i64 0] := by rw [hW3]; exact (Blk.new W2 [.int .i64 k, .string ⟨#[]⟩, .int .u64 p, .int .u64 0, .string ⟨#[]⟩, .slice none 0 0, .slice none 0 0, .int .i64 0] _).up ((Below.refl _ _).alloc (Nat.le_refl _) _)
 have v3 : BoxDe W3 (W2.heap.size + 1) (.string SV) (.int .i64 PV) := by rw [hW3]; simp [BoxDe, go_sem]
 rw [← hW3]
 clear hW3 b1 b2 c0 c1
 obtain ⟨VB, hVB⟩ : ∃ VB, W2.heap.size + 1 = VB := ⟨_, rfl⟩
 rw [hVB] at v3
 rw [hVB]
 clear hVB
 generalize W2.heap.size = D at *
 clear W2
 have a0 := k3.c 0 _ rfl
 have a1 := k3.c 1 _ rfl
 have a2 := k3.c 2 _ rfl
 have a3 := k3.c 3 _ rfl
 have a4 := k3.c 4 _ rfl
 have a5 := k3.c 5 _ rfl
 have a6 := k3.c 6 _ rfl
 have a7 := k3.c 7 _ rfl
 obtain ⟨A4, hA4⟩ : ∃ A4, A4 = W3.alloc (.cells #[.int .i64 k, .string ⟨#[]⟩, .int .u64 p, .int .u64 0, .string ⟨#[]⟩, .slice none 0 0, .slice none 0 0, .int .i64 0] 29) := ⟨_, rfl⟩
 have d4 : Below W3.heap.size W3 A4 := by rw [hA4]; exact (Below.refl _ _).alloc (Nat.le_refl _) _
 have b4 : Below w.heap.size w A4 := b3.trans (d4.mono b3.size)
 have k4 : Blk A4 W3.heap.size [.int .i64 k, .string ⟨#[]⟩, .int .u64 p, .int .u64 0, .string ⟨#[]⟩, .slice none 0 0, .slice none 0 0, .int .i64 0] := by rw [hA4]; exact Blk.new W3 [.int .i64 k, .string ⟨#[]⟩, .int .u64 p, .int .u64 0, .string ⟨#[]⟩, .slice none 0 0, .slice none 0 0, .int .i64 0] _
 have c4 := hPr W3.heap.size A4 (he.below b4) (hk.up b4) k4.b k4.range
 have v4 := keepb d4 v3
 go_upto_region 3 with (first | (go_at_call 9; rw [← hA4]; clear hA4; refine c4.mono ?_; rintro e W5 ⟨rfl, d5⟩) | (go_at_call 8; refine (hR _).mono ?_; rintro e W6 ⟨rfl, d6⟩))
 have b6 : Below w.heap.size w W6 := (b4.trans (d5.mono b4.size)).trans (d6.mono (b4.trans (d5.mono b4.size)).size)
 have v6 := keepb d6 (keepb d5 v4)
 have l6 : VB < W6.heap.size := World.block_lt_of_cell? _ _ v6.1
 obtain ⟨W7, hW7⟩ : ∃ W7, W7 = W6.alloc (.cells #[.string S, .int .i64 Q] 31) := ⟨_, rfl⟩
 have b7 : Below w.heap.size w W7 := by rw [hW7]; exact b6.alloc b6.size _
 have v7 : BoxDe W7 VB (.string SV) (.int .i64 PV) := by rw [hW7]; exact keepb ((Below.refl _ _).alloc (Nat.le_refl _) _) v6
 have g7 : BoxDe W7 W6.heap.size (.string S) (.int .i64 Q) := by rw [hW7]; simp [BoxDe, go_sem]
 rw [← hW7]
 clear hW7 a0 a1 a2 a3 a4 a5 a6 a7 k3 k4 v3 v4 v6 b3 b4 d4 d5 d6 c4 hPr hR hFl
 obtain ⟨G, hG⟩ : ∃ G, W6.heap.size = G := ⟨_, rfl⟩
 rw [hG] at l6 g7
 rw [hG]
 clear hG b6
 obtain ⟨x0, x1, x2, x3⟩ := id v7
 obtain ⟨y0, y1, y2, y3⟩ := id g7
 go_upto_region 7 with (go_at_call 14; (with_reducible refine (hRd _).mono ?_); rintro e W8 ⟨rfl, d8⟩; have v8 := keepb d8 v7; have g8 := keepb d8 g7; clear x0 x1 x2 x3 y0 y1 y2 y3; obtain ⟨x0, x1, x2, x3⟩ := id v8; obtain ⟨y0, y1, y2, y3⟩ := id g8)
 have b8 := b7.trans (d8.mono b7.size)
 clear d8 v7 g7 b7
 go_upto_region 8 with (go_at_call 11; (with_reducible refine (hRo _).mono ?_); rintro e W9 ⟨rfl, d9⟩)
 obtain ⟨W10, hW10⟩ : ∃ W10, W10 = W9.alloc (.cells #[.string SN, .int .i64 PN] 31) := ⟨_, rfl⟩
 have d10 : Below W8.heap.size W8 W10 := by rw [hW10]; exact d9.alloc d9.size _
 have b10 := b8.trans (d10.mono b8.size)
 have v10 := keepb d10 v8
 have g10 := keepb d10 g8
 have n10 : BoxDe W10 W9.heap.size (.string SN) (.int .i64 PN) := by rw [hW10]; simp [BoxDe, go_sem]
 have l9 : G < W9.heap.size := World.block_lt_of_cell? _ _ (keepb d9 g8).1
 rw [← hW10]
 clear hW10 d10 d9 v8 g8 b8 x0 x1 x2 x3 y0 y1 y2 y3 hRd hRo
 generalize W9.heap.size = N at *
 obtain ⟨x0, x1, x2, x3⟩ := id v10
 obtain ⟨y0, y1, y2, y3⟩ := id g10
 obtain ⟨z0, z1, z2, z3⟩ := id n10
 go_upto_region 9 with (go_at_call 14; (with_reducible refine (hQ _).mono ?_); rintro e W11 ⟨rfl, d11⟩)
 have b11 := b10.trans (d11.mono b10.size)
 have v11 := keepb d11 v10
 have g11 := keepb d11 g10
 have n11 := keepb d11 n10
 clear d11 v10 g10 n10 b10 x0 x1 x2 x3 y0 y1 y2 y3 z0 z1 z2 z3 hQ
 obtain ⟨x0, x1, x2, x3⟩ := id v11
 obtain ⟨y0, y1, y2, y3⟩ := id g11
 obtain ⟨z0, z1, z2, z3⟩ := id n11
 have lv : VB < W11.heap.size := World.block_lt_of_cell? _ _ v11.1
 have hl := hL _ (he.below b11) (hk.up b11)
 go_wp2_with (go_at_call 13; refine hl.mono ?_; rintro x w12 ⟨rfl, b12⟩)
 all_goals go_ret
 all_goals exact ⟨rfl, b11.trans (b12.mono b11.size)⟩
set_option maxRecDepth 1000000 in
set_option maxHeartbeats 16000000 in
theorem tsh_cN {bits p k q x y j : Nat} {n Q PV PN PA : Int} {b : Bool} {T S SV SN T1 SA : ByteArray} (hFl : Fl9 bits b k p n SV PV)
  (hPr : ∀ (A : Nat) (W : World), Esc W → KN W → A < W.heap.size → W.rangeAt A 0 [.int .i64 k, .string ⟨#[]⟩, .int .u64 p, .int .u64 0, .string ⟨#[]⟩, .slice none 0 0, .slice none 0 0, .int .i64 0] → Calls Tryz.prog 9 #[.slice none 0 0, .string ⟨#[37, 118]⟩, .slice (some ⟨A, 0, none⟩) 1 1] W fun e w' => e = .returned (.string T) ∧ Below W.heap.size W w')
  (hR : R6C T S Q) (hRd : ReadC S Q n p 0) (hRo : RoundC SV PV S.size SN PN 0) (hQ : ReadC SN PN n q 0) (hs : S.size ≤ 100000) (hv : SV.size ≤ 100000) (hp0 : -100000 ≤ PV) (hp1 : PV ≤ 100000)
  (hne : ¬ (SN = S ∧ PN = Q)) (hq : q ≠ p) (hj : j + 1 = S.size) (h1 : 1 ≤ j) (h2 : j < SV.size) (hT : SV.extract 0 j = T1) (hA : AddC T1 PV ⟨#[49]⟩ (PV - (S.size : Nat) + 2) SA PA 0) (hx : ReadC T1 PV n x 0) (hy : ReadC SA PA n y 0) (hxp : x ≠ p) (hyp : y ≠ p) (w : World) (hk : KN w) (he : Esc w) :
  Calls Tryz.prog 4 #[.agg #[.int .u64 bits, .bool b]] w fun e w' => e = .returned (.bool true) ∧ Below w.heap.size w w' := by
 have hL := fun W h1 h2 => tlives_any W h1 h2
 have h1I : ¬ (S.size : Int) < 2 := by omega
 have h2I : ¬ (SV.size : Int) < (S.size : Int) := by omega
 have hkI : (S.size : Int) - 1 = j := by omega
 have h3I : (j : Int) ≤ SV.size := by omega
 have h4I : (j : Int) ≤ 100000 := by omega
 have c2I : ((x : Int) != (p : Int)) = true := by simp; omega
 have c3I : ((y : Int) != (p : Int)) = true := by simp; omega
 clear hj
 have b2I : ((q : Int) == (p : Int)) = false := by simp; omega
 clear hne
 obtain ⟨W1, hW1⟩ : ∃ W1, W1 = w.alloc (.cells #[.int .u64 bits, .bool b] 24) := ⟨_, rfl⟩
 have b1 : Below w.heap.size w W1 := by rw [hW1]; exact (Below.refl _ _).alloc (Nat.le_refl _) _
 have c0 : W1.cell? ⟨w.heap.size, 0, none⟩ = some (.int .u64 bits) := by rw [hW1]; simp [go_sem]
 have c1 : W1.cell? ⟨w.heap.size, 1, none⟩ = some (.bool b) := by rw [hW1]; simp [go_sem]
 go_enter Tryz.func4, Tryz.ntmps4
 go_upto_region 1 with fail
 rw [← hW1]
 clear hW1
 go_upto_region 2 with (go_at_call 7; refine (hFl _).mono ?_; rintro e W2 ⟨rfl, b2⟩)
 obtain ⟨W3, hW3⟩ : ∃ W3, W3 = (W2.alloc (.cells #[.int .i64 k, .string ⟨#[]⟩, .int .u64 p, .int .u64 0, .string ⟨#[]⟩, .slice none 0 0, .slice none 0 0, .int .i64 0] 29)).alloc (.cells #[.string SV, .int .i64 PV] 31) := ⟨_, rfl⟩
 have b3 : Below w.heap.size w W3 := by rw [hW3]; exact ((b1.trans (b2.mono b1.size)).alloc (by have := b1.size; have := b2.size; omega) _).alloc (by have := b1.size; have := b2.size; simp; omega) _
 have k3 : Blk W3 W2.heap.size [.int .i64 k, .string ⟨#[]⟩, .int .u64 p, .int .u64 0, .string ⟨#[]⟩, .slice none 0 0, .slice none 0 0, .int .i64 0] := by rw [hW3]; exact (Blk.new W2 [.int .i64 k, .string ⟨#[]⟩, .int .u64 p, .int .u64 0, .string ⟨#[]⟩, .slice none 0 0, .slice none 0 0, .int .i64 0] _).up ((Below.refl _ _).alloc (Nat.le_refl _) _)
 have v3 : BoxDe W3 (W2.heap.size + 1) (.string SV) (.int .i64 PV) := by rw [hW3]; simp [BoxDe, go_sem]
 rw [← hW3]
 clear hW3 b1 b2 c0 c1
 obtain ⟨VB, hVB⟩ : ∃ VB, W2.heap.size + 1 = VB := ⟨_, rfl⟩
 rw [hVB] at v3
 rw [hVB]
 clear hVB
 generalize W2.heap.size = D at *
 clear W2
 have a0 := k3.c 0 _ rfl
 have a1 := k3.c 1 _ rfl
 have a2 := k3.c 2 _ rfl
 have a3 := k3.c 3 _ rfl
 have a4 := k3.c 4 _ rfl
 have a5 := k3.c 5 _ rfl
 have a6 := k3.c 6 _ rfl
 have a7 := k3.c 7 _ rfl
 obtain ⟨A4, hA4⟩ : ∃ A4, A4 = W3.alloc (.cells #[.int .i64 k, .string ⟨#[]⟩, .int .u64 p, .int .u64 0, .string ⟨#[]⟩, .slice none 0 0, .slice none 0 0, .int .i64 0] 29) := ⟨_, rfl⟩
 have d4 : Below W3.heap.size W3 A4 := by rw [hA4]; exact (Below.refl _ _).alloc (Nat.le_refl _) _
 have b4 : Below w.heap.size w A4 := b3.trans (d4.mono b3.size)
 have k4 : Blk A4 W3.heap.size [.int .i64 k, .string ⟨#[]⟩, .int .u64 p, .int .u64 0, .string ⟨#[]⟩, .slice none 0 0, .slice none 0 0, .int .i64 0] := by rw [hA4]; exact Blk.new W3 [.int .i64 k, .string ⟨#[]⟩, .int .u64 p, .int .u64 0, .string ⟨#[]⟩, .slice none 0 0, .slice none 0 0, .int .i64 0] _
 have c4 := hPr W3.heap.size A4 (he.below b4) (hk.up b4) k4.b k4.range
 have v4 := keepb d4 v3
 go_upto_region 3 with (first | (go_at_call 9; rw [← hA4]; clear hA4; refine c4.mono ?_; rintro e W5 ⟨rfl, d5⟩) | (go_at_call 8; refine (hR _).mono ?_; rintro e W6 ⟨rfl, d6⟩))
 have b6 : Below w.heap.size w W6 := (b4.trans (d5.mono b4.size)).trans (d6.mono (b4.trans (d5.mono b4.size)).size)
 have v6 := keepb d6 (keepb d5 v4)
 have l6 : VB < W6.heap.size := World.block_lt_of_cell? _ _ v6.1
 obtain ⟨W7, hW7⟩ : ∃ W7, W7 = W6.alloc (.cells #[.string S, .int .i64 Q] 31) := ⟨_, rfl⟩
 have b7 : Below w.heap.size w W7 := by rw [hW7]; exact b6.alloc b6.size _
 have v7 : BoxDe W7 VB (.string SV) (.int .i64 PV) := by rw [hW7]; exact keepb ((Below.refl _ _).alloc (Nat.le_refl _) _) v6
 have g7 : BoxDe W7 W6.heap.size (.string S) (.int .i64 Q) := by rw [hW7]; simp [BoxDe, go_sem]
 rw [← hW7]
 clear hW7 a0 a1 a2 a3 a4 a5 a6 a7 k3 k4 v3 v4 v6 b3 b4 d4 d5 d6 c4 hPr hR hFl
 obtain ⟨G, hG⟩ : ∃ G, W6.heap.size = G := ⟨_, rfl⟩
 rw [hG] at l6 g7
 rw [hG]
 clear hG b6
 obtain ⟨x0, x1, x2, x3⟩ := id v7
 obtain ⟨y0, y1, y2, y3⟩ := id g7
 go_upto_region 7 with (go_at_call 14; (with_reducible refine (hRd _).mono ?_); rintro e W8 ⟨rfl, d8⟩; have v8 := keepb d8 v7; have g8 := keepb d8 g7; clear x0 x1 x2 x3 y0 y1 y2 y3; obtain ⟨x0, x1, x2, x3⟩ := id v8; obtain ⟨y0, y1, y2, y3⟩ := id g8)
 have b8 := b7.trans (d8.mono b7.size)
 clear d8 v7 g7 b7
 go_upto_region 8 with (go_at_call 11; (with_reducible refine (hRo _).mono ?_); rintro e W9 ⟨rfl, d9⟩)
 obtain ⟨W10, hW10⟩ : ∃ W10, W10 = W9.alloc (.cells #[.string SN, .int .i64 PN] 31) := ⟨_, rfl⟩
 have d10 : Below W8.heap.size W8 W10 := by rw [hW10]; exact d9.alloc d9.size _
 have b10 := b8.trans (d10.mono b8.size)
 have v10 := keepb d10 v8
 have g10 := keepb d10 g8
 have n10 : BoxDe W10 W9.heap.size (.string SN) (.int .i64 PN) := by rw [hW10]; simp [BoxDe, go_sem]
 have l9 : G < W9.heap.size := World.block_lt_of_cell? _ _ (keepb d9 g8).1
 rw [← hW10]
 clear hW10 d10 d9 v8 g8 b8 x0 x1 x2 x3 y0 y1 y2 y3 hRd hRo
 generalize W9.heap.size = N at *
 obtain ⟨x0, x1, x2, x3⟩ := id v10
 obtain ⟨y0, y1, y2, y3⟩ := id g10
 obtain ⟨z0, z1, z2, z3⟩ := id n10
 go_upto_region 9 with (go_at_call 14; (with_reducible refine (hQ _).mono ?_); rintro e W11 ⟨rfl, d11⟩)
 have b11 := b10.trans (d11.mono b10.size)
 have v11 := keepb d11 v10
 have g11 := keepb d11 g10
 have n11 := keepb d11 n10
 clear d11 v10 g10 n10 b10 x0 x1 x2 x3 y0 y1 y2 y3 z0 z1 z2 z3 hQ
 obtain ⟨x0, x1, x2, x3⟩ := id v11
 obtain ⟨y0, y1, y2, y3⟩ := id g11
 obtain ⟨z0, z1, z2, z3⟩ := id n11
 have lv : VB < W11.heap.size := World.block_lt_of_cell? _ _ v11.1
 have hl := hL _ (he.below b11) (hk.up b11)
 go_upto_region 13 with fail
 all_goals go_region
 all_goals
  obtain ⟨W12, hW12⟩ : ∃ W, W = (W11.alloc (.cells #[.string T1, .int .i64 PV] 31)).drew := ⟨_, rfl⟩
  have b12 : Below w.heap.size w W12 := by rw [hW12]; exact (b11.alloc b11.size _).drew
  have t12 : BoxDe W12 W11.heap.size (.string T1) (.int .i64 PV) := by rw [hW12]; simp [BoxDe, go_sem]
  have v12 : BoxDe W12 VB (.string SV) (.int .i64 PV) := by rw [hW12]; exact keepb ((Below.refl _ _).alloc (Nat.le_refl _) _).drew v11
  rw [← hW12]
  clear hW12 x0 x1 x2 x3 y0 y1 y2 y3 z0 z1 z2 z3 v11 g11 n11 hl
  generalize W11.heap.size = F at *
  obtain ⟨x0, x1, x2, x3⟩ := id v12
  obtain ⟨y0, y1, y2, y3⟩ := id t12
  go_upto_region 15 with (go_at_call 15; (with_reducible refine (hA _).mono ?_); rintro e W13 ⟨rfl, d13⟩)
  obtain ⟨W14, hW14⟩ : ∃ W, W = W13.alloc (.cells #[.string SA, .int .i64 PA] 31) := ⟨_, rfl⟩
  have d14 : Below W12.heap.size W12 W14 := by rw [hW14]; exact d13.alloc d13.size _
  have b14 := b12.trans (d14.mono b12.size)
  have t14 := keepb d14 t12
  have h14 : BoxDe W14 W13.heap.size (.string SA) (.int .i64 PA) := by rw [hW14]; simp [BoxDe, go_sem]
  have l14 : F < W13.heap.size := World.block_lt_of_cell? _ _ (keepb d13 t12).1
  rw [← hW14]
  clear hW14 d14 d13 x0 x1 x2 x3 y0 y1 y2 y3 v12 t12 hA
  generalize W13.heap.size = H at *
  obtain ⟨x0, x1, x2, x3⟩ := id t14
  obtain ⟨y0, y1, y2, y3⟩ := id h14
  go_upto_region 16 with (go_at_call 14; (with_reducible refine (hx _).mono ?_); rintro e W15 ⟨rfl, d15⟩)
  have b15 := b14.trans (d15.mono b14.size)
  have h15 := keepb d15 h14
  clear d15 x0 x1 x2 x3 y0 y1 y2 y3 t14 h14 hx
  obtain ⟨y0, y1, y2, y3⟩ := id h15
  go_upto_region 17 with (go_at_call 14; (with_reducible refine (hy _).mono ?_); rintro e W16 ⟨rfl, d16⟩)
  have b16 := b15.trans (d16.mono b15.size)
  have hl := hL _ (he.below b16) (hk.up b16)
  go_wp2_with (go_at_call 13; refine hl.mono ?_; rintro x w17 ⟨rfl, b17⟩)
  go_ret
  exact ⟨rfl, b16.trans (b17.mono b16.size)⟩
end Go.Proofs.YtiagjheifblkiaaGreatDoor
