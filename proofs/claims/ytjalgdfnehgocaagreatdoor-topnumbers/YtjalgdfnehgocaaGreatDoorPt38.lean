/- UNumW, WTopNumbers, Laid15N, OpenNum: these texts in one. -/
import Derived.Test.YtjalgdfnehgocaaGreatDoorPt37
import Derived.Test.YtjalgdfnehgocaaGreatDoorPt36
import Derived.Test.YtjalgdfnehgocaaGreatDoorPt9
import Derived.Lib.AtoiErrMem
import Derived.Deep.LoopGhost
import Derived.Test.YtjalgdfnehgocaaGreatDoorRows
import Derived.Test.YtjalgdfnehgocaaGreatDoorPt8
import Derived.Test.YtjalgdfnehgocaaGreatDoorPt3
import Derived.WalkKit
import Derived.ProofKit
import Derived.LaidMore
import Derived.Lay
import Derived.OpenShut
import Derived.Stop.Joined
namespace Go.Proofs.YtjalgdfnehgocaaGreatDoor
open Go.RowKit
set_option linter.unusedVariables false
set_option linter.unusedSimpArgs false
theorem vbN_at (j : Nat) (hj : j < 5) : (ByteArray.mk #[100, 98, 111, 120, 88]).extract j (j + 1) = ⟨#[UInt8.ofNat (vbN j)]⟩ := by
 have h5 : j = 0 ∨ j = 1 ∨ j = 2 ∨ j = 3 ∨ j = 4 := by omega
 rcases h5 with rfl | rfl | rfl | rfl | rfl <;> decide
theorem bsN_at (w : World) (j : Nat) (hj : j < 5) : (w.alloc (.cells #[.int .u64 10, .int .u64 2, .int .u64 8, .int .u64 16, .int .u64 16] 27)).cell? ⟨w.heap.size, j, none⟩ = some (.int .u64 (bsN j : Nat)) := by
 have h5 : j = 0 ∨ j = 1 ∨ j = 2 ∨ j = 3 ∨ j = 4 := by omega
 rcases h5 with rfl | rfl | rfl | rfl | rfl <;> simp [bsN]
theorem flN_0 (w : World) : (Instr.index 58 (.agg #[.string ⟨#[]⟩, .string ⟨#[48]⟩, .string ⟨#[43]⟩]) (.int .i64 0)).run Tryz.prog w = .ok (.string ⟨#[]⟩) w := by kernel_rfl
theorem flN_1 (w : World) : (Instr.index 58 (.agg #[.string ⟨#[]⟩, .string ⟨#[48]⟩, .string ⟨#[43]⟩]) (.int .i64 1)).run Tryz.prog w = .ok (.string ⟨#[48]⟩) w := by kernel_rfl
theorem flN_2 (w : World) : (Instr.index 58 (.agg #[.string ⟨#[]⟩, .string ⟨#[48]⟩, .string ⟨#[43]⟩]) (.int .i64 2)).run Tryz.prog w = .ok (.string ⟨#[43]⟩) w := by kernel_rfl
theorem flN_at (i : Nat) (hi : i < 3) (w : World) : (Instr.index 58 (.agg #[.string ⟨#[]⟩, .string ⟨#[48]⟩, .string ⟨#[43]⟩]) (.int .i64 i)).run Tryz.prog w = .ok (.string (flN i)) w := by
 have h3 : i = 0 ∨ i = 1 ∨ i = 2 := by omega
 rcases h3 with rfl | rfl | rfl
 ·exact flN_0 w
 ·exact flN_1 w
 ·exact flN_2 w
theorem flN_size (i : Nat) : (flN i).size ≤ 1 := by
 unfold flN
 split <;> decide
def PrN (y1 nb : Int) (k j : Nat) (wd : Int) : Prop := ∀ i, i < 3 → ∃ T sz ng, NmT T (bsN j) wd nb sz ng ∧ ∀ (A : Nat) (W : World), Esc W → KN W → A < W.heap.size → W.rangeAt A 0 [.int .i64 6, .string ⟨#[]⟩, .int .u64 (wd % 18446744073709551616), .int .u64 0, .string ⟨#[]⟩, .slice none 0 0, .slice none 0 0, .int .i64 0, .int .i64 k, .string ⟨#[]⟩, .int .u64 y1, .int .u64 0, .string ⟨#[]⟩, .slice none 0 0, .slice none 0 0, .int .i64 0] → Calls Tryz.prog 11 #[.slice none 0 0, .string (fmN i j), .slice (some ⟨A, 0, none⟩) 2 2] W fun e w' => e = .returned (.string T) ∧ Below W.heap.size W w'
set_option maxRecDepth 1000000 in
set_option maxHeartbeats 8000000 in
theorem topNumbers_of (y0 y1 y2 y3 : Int) (r0 : -9223372036854775808 ≤ y0 ∧ y0 ≤ 9223372036854775807) (r1 : 0 ≤ y1 ∧ y1 ≤ 18446744073709551615) (r2 : -9223372036854775808 ≤ y2 ∧ y2 ≤ 9223372036854775807) (r3 : 0 ≤ y3 ∧ y3 ≤ 18446744073709551615) (w : World) (hk : KN w) (he : Esc w)
  (hP : ∀ (k j : Nat) (wd : Int), 2 ≤ k → k ≤ 11 → j < 5 → -1000 ≤ wd ∧ wd ≤ 1000 → PrN y1 (numF k y1) k j wd)
  (hN : ∀ (n : Int) (W : World), -9223372036854775808 ≤ n → n ≤ 9223372036854775807 → Calls Tryz.prog 14 #[.int .i64 n] W fun e w' => e = .returned (.agg #[.int .i64 6, .string ⟨#[]⟩, .int .u64 (n % 18446744073709551616), .int .u64 0, .string ⟨#[]⟩, .slice none 0 0, .slice none 0 0, .int .i64 0]) ∧ Below W.heap.size W w')
  (hL : ∀ W, Esc W → KN W → Calls Tryz.prog 12 #[] W fun e w' => e = .returned (.bool true) ∧ Below W.heap.size W w') :
  Calls Tryz.prog 8 #[.agg #[.int .i64 y0, .int .u64 y1, .int .i64 y2, .int .u64 y3]] w fun e w' => e = .returned (.bool true) ∧ Below w.heap.size w w' := by
 obtain ⟨m, hm⟩ : ∃ m : Nat, (m : Int) = y3 := ⟨y3.toNat, by omega⟩
 subst hm
 have hj : m % 5 < 5 := Nat.mod_lt _ (by decide)
 have hm1 : (m : Int) % 5 = ((m % 5 : Nat) : Int) := by omega
 have hm2 : (m : Int).tmod 5 = ((m % 5 : Nat) : Int) := by rw [Int.tmod_eq_emod_of_nonneg (by omega)]; exact hm1
 generalize m % 5 = j at *
 obtain ⟨q, hq⟩ : ∃ q : Nat, IntKind.u64.wrap y0 = q := ⟨(y0 % 18446744073709551616).toNat, by rw [iwrap_u64]; omega⟩
 have hq5 : q % 10 < 10 := Nat.mod_lt _ (by decide)
 have hq1 : (q : Int) % 10 = ((q % 10 : Nat) : Int) := by omega
 have hq2 : (q : Int).tmod 10 = ((q % 10 : Nat) : Int) := by rw [Int.tmod_eq_emod_of_nonneg (by omega)]; exact hq1
 generalize q % 10 = k0 at *
 obtain ⟨wd, hwd⟩ : ∃ wd, max (-1000) (min y2 1000) = wd := ⟨_, rfl⟩
 have hwl : -1000 ≤ wd ∧ wd ≤ 1000 := by omega
 have hjI : (j : Int) < 5 := by omega
 have hk0 : (k0 : Int) < 10 := by omega
 have hV := vbN_at j hj
 obtain ⟨h1, h2, h3, h4, h5, h6, h7, h8, hb2, hb16, h11⟩ := vb_facts j hj
 clear h1 h2 h3 h4 h5 h6 h7 h8 h11
 go_enter Tryz.func8, Tryz.ntmps8
 go_upto_region 1 with fail
 obtain ⟨W1, hW1⟩ : ∃ W1, W1 = w.alloc (.cells #[.int .i64 y0, .int .u64 y1, .int .i64 y2, .int .u64 m] 54) := ⟨_, rfl⟩
 have b1 : Below w.heap.size w W1 := by rw [hW1]; exact (Below.refl _ _).alloc (Nat.le_refl _) _
 have c0 : W1.cell? ⟨w.heap.size, 0, none⟩ = some (.int .i64 y0) := by rw [hW1]; simp [go_sem]
 have c1 : W1.cell? ⟨w.heap.size, 1, none⟩ = some (.int .u64 y1) := by rw [hW1]; simp [go_sem]
 have c2 : W1.cell? ⟨w.heap.size, 2, none⟩ = some (.int .i64 y2) := by rw [hW1]; simp [go_sem]
 have c3 : W1.cell? ⟨w.heap.size, 3, none⟩ = some (.int .u64 m) := by rw [hW1]; simp [go_sem]
 rw [← hW1]
 clear hW1
 go_quiet (fail)
 have bQ : Below w.heap.size w (W1.drewN nq) := below_drewN b1 _
 have cQ : (W1.drewN nq).cell? ⟨w.heap.size, 0, none⟩ = some (.int .i64 y0) := up_cell (below_drewN (Below.refl _ _) _) c0
 generalize W1.drewN nq = W2 at *
 clear b1 c0 c1 c2 c3
 go_upto_region 4 with fail
 have hB := bsN_at W2 j hj
 go_upto_region 6 with fail
 obtain ⟨k, hke⟩ : ∃ k : Nat, (2 : Int) + k0 = k := ⟨2 + k0, by omega⟩
 have hk2 : 2 ≤ k ∧ k ≤ 11 := by omega
 rw [hke]
 obtain ⟨W3, hW3⟩ : ∃ W3, W3 = W2.alloc (.cells #[.int .u64 10, .int .u64 2, .int .u64 8, .int .u64 16, .int .u64 16] 27) := ⟨_, rfl⟩
 have b3 : Below w.heap.size w W3 := by rw [hW3]; exact bQ.alloc bQ.size _
 rw [← hW3]
 have hPj := hP k j wd hk2.1 hk2.2 hj hwl
 unfold PrN at hPj
 have hBd := fun W => obuild_num k y1 (by omega) (by omega) r1.1 r1.2 W
 have hNw := fun W => hN wd W (by omega) (by omega)
 generalize numF k y1 = nb at *
 generalize bsN j = bs at *
 clear hW3 hB hP hke cQ bQ hwd hq hq1 hq2 hq5 hm1 hm2 hk0 r0 r2 r3 hV hjI hj hN
 obtain ⟨W4, hW4⟩ : ∃ W4, W4 = W3.alloc (.cells #[.int .i64 k, .string ⟨#[]⟩, .int .u64 y1, .int .u64 0, .string ⟨#[]⟩, .slice none 0 0, .slice none 0 0, .int .i64 0] 30) := ⟨_, rfl⟩
 have y4 : E8 W4 W3.heap.size k y1 := by rw [hW4]; exact E8.new W3 k y1
 have b4 : Below w.heap.size w W4 := by rw [hW4]; exact b3.alloc b3.size _
 go_upto_region 7 with fail
 rw [← hW4]
 clear hW4
 obtain ⟨D, hD⟩ : ∃ D, W3.heap.size = D := ⟨_, rfl⟩
 rw [hD] at y4
 simp only [hD]
 clear hD b3
 obtain ⟨d0, d1, d2, d3, d4, d5, d6, d7⟩ := id y4
 go_upto_region 8 with (go_at_call 21; refine (hBd _).mono ?_; rintro e W5 ⟨rfl, b5⟩)
 clear d0 d1 d2 d3 d4 d5 d6 d7
 obtain ⟨W6, hW6⟩ : ∃ W6, W6 = W5.alloc (.cells #[.int .i64 k, .string ⟨#[]⟩, .int .u64 nb, .int .u64 0, .string ⟨#[]⟩, .slice none 0 0, .slice none 0 0, .int .i64 0] 30) := ⟨_, rfl⟩
 have x6 : E8 W6 W5.heap.size k nb := by rw [hW6]; exact E8.new W5 k nb
 have y6 : E8 W6 D k y1 := by rw [hW6]; exact (y4.up b5).up ((Below.refl _ _).alloc (Nat.le_refl _) _)
 have b6 : Below w.heap.size w W6 := by rw [hW6]; exact (b4.trans (b5.mono b4.size)).alloc (by have := b4.size; have := b5.size; omega) _
 rw [← hW6]
 clear hW6 y4 b4 hBd
 obtain ⟨X, hX⟩ : ∃ X, W5.heap.size = X := ⟨_, rfl⟩
 rw [hX] at x6
 simp only [hX]
 clear hX b5
 go_wp2
 go_loopg [56] 3 (fun gg z wr => ∃ i : Nat, z = .int .i64 i ∧ i + gg = 3 ∧ Below w.heap.size w wr ∧ E8 wr D k y1 ∧ E8 wr X k nb)
 case atStart => exact ⟨0, rfl, rfl, b6, y6, x6⟩
 case round =>
  obtain ⟨i, rfl, hig, bR, yR, xR⟩ := hrel
  clear b6 y6 x6
  obtain ⟨G, hGk⟩ : ∃ G : Nat, G = gk := ⟨_, rfl⟩
  have HG : Hid (G = gk) := hGk
  clear hGk
  by_cases hi : i < 3
  ·have hiI : (i : Int) < 3 := by omega
   have hix := flN_at i hi
   obtain ⟨T, sz, ng, hT, hPc⟩ := hPj i hi
   clear hPj
   have hFs := flN_size i
   have hFI : ((flN i).size : Int) ≤ 1 := by omega
   go_upto_region 11 with fail
   unfold fmN at hPc
   have hVs : ((⟨#[UInt8.ofNat (vbN j)]⟩ : ByteArray).size : Int) ≤ 1 := by show ((1 : Nat) : Int) ≤ 1; decide
   generalize (⟨#[UInt8.ofNat (vbN j)]⟩ : ByteArray) = V at *
   generalize flN i = F at *
   obtain ⟨S1, hS1⟩ : ∃ S1, (⟨#[37]⟩ : ByteArray) ++ F = S1 := ⟨_, rfl⟩
   obtain ⟨S2, hS2⟩ : ∃ S2, S1 ++ (⟨#[42]⟩ : ByteArray) = S2 := ⟨_, rfl⟩
   obtain ⟨S3, hS3⟩ : ∃ S3, S2 ++ V = S3 := ⟨_, rfl⟩
   have z1 : (S1.size : Int) ≤ 2 := by rw [← hS1, app_size]; have : (⟨#[37]⟩ : ByteArray).size = 1 := rfl; omega
   have z2 : (S2.size : Int) ≤ 3 := by rw [← hS2, app_size]; have : (⟨#[42]⟩ : ByteArray).size = 1 := rfl; omega
   rw [hS1, hS2, hS3] at hPc
   clear hix
   obtain ⟨Y, hY⟩ : ∃ Y, Y = wr.drew := ⟨_, rfl⟩
   have bY : Below w.heap.size w Y := by rw [hY]; exact bR.drew
   have yY : E8 Y D k y1 := by rw [hY]; exact yR.up (Below.refl _ _).drew
   have xY : E8 Y X k nb := by rw [hY]; exact xR.up (Below.refl _ _).drew
   refine wp_region_held_drew (S := fun w' : World => E8 w' D k y1) (by kernel_rfl) yR ?_
   rw [← hY]
   clear hY bR xR
   intro hS
   clear hS
   refine tk 0 (.string F) rfl (by kernel_rfl) (fun _ _ _ h => h) (by rfl) (by assumption) ?_ ?_
   ·intro w5 s0
    go_simp
    try omega
   try simp only [Act.put, List.getElem_toArray, List.getElem_cons_zero, List.getElem_cons_succ, List.setIfInBounds_toArray, List.set_cons_zero, List.set_cons_succ, List.length_cons]
   refine tk 1 (.string S1) rfl (by kernel_rfl) (fun _ _ _ h => h) (by rfl) (by assumption) ?_ ?_
   ·intro w5 s0
    go_simp
    try omega
   try simp only [Act.put, List.getElem_toArray, List.getElem_cons_zero, List.getElem_cons_succ, List.setIfInBounds_toArray, List.set_cons_zero, List.set_cons_succ, List.length_cons]
   refine tk 2 (.string S2) rfl (by kernel_rfl) (fun _ _ _ h => h) (by rfl) (by assumption) ?_ ?_
   ·intro w5 s0
    go_simp
    try omega
   try simp only [Act.put, List.getElem_toArray, List.getElem_cons_zero, List.getElem_cons_succ, List.setIfInBounds_toArray, List.set_cons_zero, List.set_cons_succ, List.length_cons]
   refine tk 3 (.string V) rfl (by kernel_rfl) (fun _ _ _ h => h) (by rfl) (by assumption) ?_ ?_
   ·intro w5 s0
    go_simp
    try omega
   try simp only [Act.put, List.getElem_toArray, List.getElem_cons_zero, List.getElem_cons_succ, List.setIfInBounds_toArray, List.set_cons_zero, List.set_cons_succ, List.length_cons]
   refine tk 4 (.string S3) rfl (by kernel_rfl) (fun _ _ _ h => h) (by rfl) (by assumption) ?_ ?_
   ·intro w5 s0
    go_simp
    try omega
   try simp only [Act.put, List.getElem_toArray, List.getElem_cons_zero, List.getElem_cons_succ, List.setIfInBounds_toArray, List.set_cons_zero, List.set_cons_succ, List.length_cons]
   refine tk 5 (.int .i64 wd) rfl (by kernel_rfl) (fun _ _ _ h => h) (by rfl) (by assumption) ?_ ?_
   ·intro w5 s0
    go_simp
    try omega
   try simp only [Act.put, List.getElem_toArray, List.getElem_cons_zero, List.getElem_cons_succ, List.setIfInBounds_toArray, List.set_cons_zero, List.set_cons_succ, List.length_cons]
   refine tk 7 (.agg #[.int .i64 k, .string ⟨#[]⟩, .int .u64 y1, .int .u64 0, .string ⟨#[]⟩, .slice none 0 0, .slice none 0 0, .int .i64 0]) rfl (by kernel_rfl) (fun _ _ _ h => h) (by rfl) (by assumption) ?_ ?_
   ·intro w5 s0
    obtain ⟨a0, a1, a2, a3, a4, a5, a6, a7⟩ := s0
    go_simp
    try omega
   try simp only [Act.put, List.getElem_toArray, List.getElem_cons_zero, List.getElem_cons_succ, List.setIfInBounds_toArray, List.set_cons_zero, List.set_cons_succ, List.length_cons]
   refine rd1 6 (by kernel_rfl) rfl fun K6 hK6 => ?_
   go_simp
   refine (hNw Y).mono ?_
   rintro e W7 ⟨rfl, b7⟩
   have sW7 := (yY.up) b7
   refine hK6.out _ _ sW7 (fun _ => ?_)
   clear hK6
   try simp only [Act.put, List.getElem_toArray, List.getElem_cons_zero, List.getElem_cons_succ, List.setIfInBounds_toArray, List.set_cons_zero, List.set_cons_succ, List.length_cons]
   have bW7 : Below w.heap.size w W7 := bY.trans (b7.mono bY.size)
   have x7 : E8 W7 X k nb := xY.up b7
   clear yY xY hNw
   refine rd1 8 (by kernel_rfl) rfl fun K8 hK8 => ?_
   go_simp
   obtain ⟨W8, hW8⟩ : ∃ W8, W8 = W7.alloc (.cells #[.int .i64 6, .string ⟨#[]⟩, .int .u64 (wd % 18446744073709551616), .int .u64 0, .string ⟨#[]⟩, .slice none 0 0, .slice none 0 0, .int .i64 0, .int .i64 k, .string ⟨#[]⟩, .int .u64 y1, .int .u64 0, .string ⟨#[]⟩, .slice none 0 0, .slice none 0 0, .int .i64 0] 30) := ⟨_, rfl⟩
   have b8 : Below W7.heap.size W7 W8 := by rw [hW8]; exact (Below.refl _ _).alloc (Nat.le_refl _) _
   have k8 : Blk W8 W7.heap.size [.int .i64 6, .string ⟨#[]⟩, .int .u64 (wd % 18446744073709551616), .int .u64 0, .string ⟨#[]⟩, .slice none 0 0, .slice none 0 0, .int .i64 0, .int .i64 k, .string ⟨#[]⟩, .int .u64 y1, .int .u64 0, .string ⟨#[]⟩, .slice none 0 0, .slice none 0 0, .int .i64 0] := by rw [hW8]; exact Blk.new W7 [.int .i64 6, .string ⟨#[]⟩, .int .u64 (wd % 18446744073709551616), .int .u64 0, .string ⟨#[]⟩, .slice none 0 0, .slice none 0 0, .int .i64 0, .int .i64 k, .string ⟨#[]⟩, .int .u64 y1, .int .u64 0, .string ⟨#[]⟩, .slice none 0 0, .slice none 0 0, .int .i64 0] _
   have bW8 : Below w.heap.size w W8 := bW7.trans (b8.mono bW7.size)
   have x8 : E8 W8 X k nb := x7.up b8
   have y8 := sW7.up b8
   rw [← hW8]
   clear hW8
   refine hK8.out _ _ y8 (fun _ => ?_)
   clear hK8
   try simp only [Act.put, List.getElem_toArray, List.getElem_cons_zero, List.getElem_cons_succ, List.setIfInBounds_toArray, List.set_cons_zero, List.set_cons_succ, List.length_cons]
   refine rd1 9 (by kernel_rfl) rfl fun K9 hK9 => ?_
   go_simp
   refine (hPc W7.heap.size W8 (he.below bW8) (hk.up bW8) k8.b k8.range).mono ?_
   rintro e W9 ⟨rfl, b9⟩
   have bW9 : Below w.heap.size w W9 := bW8.trans (b9.mono bW8.size)
   have x9 : E8 W9 X k nb := x8.up b9
   have y9 := y8.up b9
   refine hK9.out _ _ y9 (fun _ => ?_)
   clear hK9 x8 y8 x7 sW7 hPc k8 bW7 bW8 b7 b8 b9 bY
   try simp only [Act.put, List.getElem_toArray, List.getElem_cons_zero, List.getElem_cons_succ, List.setIfInBounds_toArray, List.set_cons_zero, List.set_cons_succ, List.length_cons]
   refine rd1 10 (by kernel_rfl) rfl fun K10 hK10 => ?_
   go_simp
   refine hK10.out _ _ y9 (fun _ => ?_)
   clear hK10
   try simp only [Act.put, List.getElem_toArray, List.getElem_cons_zero, List.getElem_cons_succ, List.setIfInBounds_toArray, List.set_cons_zero, List.set_cons_succ, List.length_cons]
   refine wpAnyH_done (by kernel_rfl) ?_ _
   have h12 : ¬ (T.size : Int) < max wd (-wd) := by have := hT.w; omega
   have hcv := Lib.run_convert_string_bytes W9 9 25 5 T Tryz.underlying9 Tryz.underlying25 Tryz.underlying5
   have hcell : ∀ j, j < T.size → (Lib.bytesWorld W9 5 T).cell? ⟨W9.heap.size, j, none⟩ = some (.int .u8 ((T.data.toList.getD j 0).toNat : Nat)) := fun j hj => by
    have := Lib.bytesWorld_cell W9 5 T j hj
    simpa using this
   have bB : Below W9.heap.size W9 (Lib.bytesWorld W9 5 T) := Lib.bytesWorld_below _ _ _
   generalize Lib.bytesWorld W9 5 T = WB at *
   have xB : E8 WB X k nb := x9.up bB
   have yB : E8 WB D k y1 := y9.up bB
   have bWB : Below w.heap.size w WB := bW9.trans (bB.mono bW9.size)
   generalize W9.heap.size = R at *
   clear x9 y9 bB bW9
   have hTs := hT.s
   have HO : Hid (∀ x ∈ T.data.toList, okX bs x) := hT.ok
   have HR : Hid (T.data.toList.foldl (rdB bs) ⟨0, false, false⟩ = ⟨sz, ng, true⟩) := hT.rd
   have HV : Hid ((ng = true → IntKind.u64.wrap (-(sz : Int)) = nb) ∧ (ng = false → (sz : Int) = nb)) := hT.v
   have hlt := hT.lt
   clear hT
   go_wp2
   go_loopg [15, 16, 17, 79] T.size (fun gg z15 z16 z17 z79 wr' => WB = wr' ∧ ∃ (p n : Nat) (g t : Bool), z15 = .int .u64 n ∧ z16 = .bool g ∧ z17 = .bool t ∧ z79 = .int .i64 p ∧ p + gg = T.size ∧ n ≤ sz ∧ Hid ((T.data.toList.take p).foldl (rdB bs) ⟨0, false, false⟩ = ⟨n, g, t⟩))
   case atStart => exact ⟨rfl, 0, 0, false, false, rfl, rfl, rfl, rfl, Nat.zero_add _, Nat.zero_le _, rfl⟩
   case round =>
    obtain ⟨rfl, p, n, g, t, rfl, rfl, rfl, rfl, hpg, hn, HM⟩ := hrel
    by_cases hp : p < T.size
    ·have hpI : (p : Int) < T.size := by omega
     have hcl := hcell p hp
     have hpl : p < T.data.toList.length := by rw [list_len]; exact hp
     have hge : T.data.toList.getD p 0 = T.data.toList[p]'hpl := by simp [List.getD, List.getElem?_eq_getElem hpl]
     have hx := HO.out _ (List.getElem_mem hpl)
     have hst : (T.data.toList.take (p + 1)).foldl (rdB bs) ⟨0, false, false⟩ = rdB bs ⟨n, g, t⟩ (T.data.toList[p]'hpl) := by
      rw [List.take_succ_eq_append_getElem hpl, List.foldl_append, HM.out]
      rfl
     have hle : (rdB bs ⟨n, g, t⟩ (T.data.toList[p]'hpl)).n ≤ sz := by
      rw [← hst]
      have h1 := rdB_le bs (by omega) (T.data.toList.drop (p + 1)) ((T.data.toList.take (p + 1)).foldl (rdB bs) ⟨0, false, false⟩)
      rw [← List.foldl_append, List.take_append_drop, HR.out] at h1
      exact h1
     rw [hge] at hcl
     clear hcell hge HO HR HV HM hcv
     generalize T.data.toList[p]'hpl = x at *
     unfold rdB at hst hle
     have hc256 : x.toNat < 256 := x.toNat_lt
     rcases hx with hc | hc | hc | ⟨d, hd, hdv, hxd⟩
     ·rw [if_pos hc] at hst hle
      rw [hc] at hcl
      have HN : Hid ((T.data.toList.take (p + 1)).foldl (rdB bs) ⟨0, false, false⟩ = ⟨n, true, t⟩) := hst
      clear hst hc hle
      go_wp2
      go_roundg (gk - 1)
      case measure => omega
      case rel => exact ⟨rfl, p + 1, n, true, t, rfl, rfl, rfl, by go_num, by omega, hn, HN⟩
     ·rw [if_neg (by omega), if_pos (.inl hc)] at hst hle
      rw [hc] at hcl
      have HN : Hid ((T.data.toList.take (p + 1)).foldl (rdB bs) ⟨0, false, false⟩ = ⟨n, g, t⟩) := hst
      clear hst hc hle
      go_wp2
      go_roundg (gk - 1)
      case measure => omega
      case rel => exact ⟨rfl, p + 1, n, g, t, rfl, rfl, rfl, by go_num, by omega, hn, HN⟩
     ·rw [if_neg (by omega), if_pos (.inr hc)] at hst hle
      rw [hc] at hcl
      have HN : Hid ((T.data.toList.take (p + 1)).foldl (rdB bs) ⟨0, false, false⟩ = ⟨n, g, t⟩) := hst
      clear hst hc hle
      go_wp2
      go_roundg (gk - 1)
      case measure => omega
      case rel => exact ⟨rfl, p + 1, n, g, t, rfl, rfl, rfl, by go_num, by omega, hn, HN⟩
     ·rw [if_neg (by omega), if_neg (by omega), hdv] at hst hle
      dsimp only at hle
      have HN : Hid ((T.data.toList.take (p + 1)).foldl (rdB bs) ⟨0, false, false⟩ = ⟨n * bs + d, g, true⟩) := hst
      generalize x.toNat = c at *
      clear hst hdv x
      have hmul : (n : Int) * (bs : Int) = ((n * bs : Nat) : Int) := by simp
      have hw1 : IntKind.u64.wrap ((n * bs : Nat) : Int) = ((n * bs : Nat) : Int) := wrapUI _ (by omega) (by omega)
      have hadd : ((n * bs : Nat) : Int) + (d : Int) = ((n * bs + d : Nat) : Int) := by simp
      have hw2 : IntKind.u64.wrap ((n * bs + d : Nat) : Int) = ((n * bs + d : Nat) : Int) := wrapUI _ (by omega) (by omega)
      have hgd : ¬ (bs : Int) ≤ d := by omega
      generalize n * bs + d = n2 at *
      generalize n * bs = nbs at *
      have n45 : ((c : Int) == 45) = false := by simp; omega
      have n32 : ((c : Int) == 32) = false := by simp; omega
      have n43 : ((c : Int) == 43) = false := by simp; omega
      rcases hxd with ⟨e, e2⟩ | ⟨e, e2⟩ | ⟨e, e2⟩
      ·have ex : (c : Int) - 48 = d := by omega
       have q1 : (48 : Int) ≤ c := by omega
       have q2 : (c : Int) ≤ 57 := by omega
       clear e
       go_wp2
       go_roundg (gk - 1)
       case measure => omega
       case rel => exact ⟨rfl, p + 1, n2, g, true, rfl, rfl, rfl, by go_num, by omega, hle, HN⟩
      ·have ex : (c : Int) - 97 + 10 = d := by omega
       have ew : IntKind.u64.wrap ((c : Int) - 97 + 10) = d := by rw [ex]; exact wrapUI _ (by omega) (by omega)
       have q1 : (48 : Int) ≤ c := by omega
       have q2 : ¬ (c : Int) ≤ 57 := by omega
       have q3 : (97 : Int) ≤ c := by omega
       have q4 : (c : Int) ≤ 102 := by omega
       clear e
       go_wp2
       go_roundg (gk - 1)
       case measure => omega
       case rel => exact ⟨rfl, p + 1, n2, g, true, rfl, rfl, rfl, by go_num, by omega, hle, HN⟩
      ·have ex : (c : Int) - 65 + 10 = d := by omega
       have ew : IntKind.u64.wrap ((c : Int) - 65 + 10) = d := by rw [ex]; exact wrapUI _ (by omega) (by omega)
       have q1 : (48 : Int) ≤ c := by omega
       have q2 : ¬ (c : Int) ≤ 57 := by omega
       have q3 : ¬ (97 : Int) ≤ c := by omega
       have q4 : (65 : Int) ≤ c := by omega
       have q5 : (c : Int) ≤ 70 := by omega
       clear e
       go_wp2
       go_roundg (gk - 1)
       case measure => omega
       case rel => exact ⟨rfl, p + 1, n2, g, true, rfl, rfl, rfl, by go_num, by omega, hle, HN⟩
    ·have hpI : ¬ (p : Int) < T.size := by omega
     have hfin := HM.out
     rw [List.take_of_length_le (by rw [list_len]; omega), HR.out] at hfin
     obtain ⟨rfl, rfl, rfl⟩ := Rdn.mk.inj hfin
     have HV1 := HV.out
     clear HM HO HR HV hfin hcell hcv
     obtain ⟨v0, v1, v2, v3, v4, v5, v6, v7⟩ := id xB
     cases ng with
     | true =>
       have hv := HV1.1 rfl
       clear HV1
       go_wp2
       have hG := HG.out
       go_roundg (G - 1)
       case measure => omega
       case rel => exact ⟨i + 1, by go_num, by omega, bWB, yB, xB⟩
     | false =>
       have hv := HV1.2 rfl
       clear HV1
       subst hv
       go_wp2
       have hG := HG.out
       go_roundg (G - 1)
       case measure => omega
       case rel => exact ⟨i + 1, by go_num, by omega, bWB, yB, xB⟩
  ·have hiI : ¬ (i : Int) < 3 := by omega
   go_wp2_with (go_at_call 12; refine (hL _ (he.below bR) (hk.up bR)).mono ?_; rintro e W9 ⟨rfl, b9⟩)
   go_ret
   exact ⟨rfl, bR.trans (b9.mono bR.size)⟩
end Go.Proofs.YtjalgdfnehgocaaGreatDoor
namespace Go.Proofs.YtjalgdfnehgocaaGreatDoor
open Go.RowKit
set_option linter.unusedVariables false
theorem topNumbers_walk (y0 y1 y2 y3 : Int) (r0 : -9223372036854775808 ≤ y0 ∧ y0 ≤ 9223372036854775807) (r1 : 0 ≤ y1 ∧ y1 ≤ 18446744073709551615) (r2 : -9223372036854775808 ≤ y2 ∧ y2 ≤ 9223372036854775807) (r3 : 0 ≤ y3 ∧ y3 ≤ 18446744073709551615) (w : World) (hk : KN w) (he : Esc w) :
  Calls Tryz.prog 8 #[.agg #[.int .i64 y0, .int .u64 y1, .int .i64 y2, .int .u64 y3]] w fun e w' => e = .returned (.bool true) ∧ Below w.heap.size w w' :=
 topNumbers_of y0 y1 y2 y3 r0 r1 r2 r3 w hk he
  (fun k j wd h2 h11 hj hw i hi => by
   obtain ⟨sz, ng, hT⟩ := nm_text k y1 h2 h11 r1.1 r1.2 wd hw i j hj
   exact ⟨_, sz, ng, hT, fun A W he hk hA hr => pr_num i hi j hj wd hw k y1 h2 h11 r1.1 r1.2 _ rfl hT.s A W he hk hA hr⟩)
  (fun n W h0 h1 => tnum_S n h0 h1 W) (fun W he hk => tlives_any W he hk)
end Go.Proofs.YtjalgdfnehgocaaGreatDoor
namespace Go.Proofs.YtjalgdfnehgocaaGreatDoor
open Go.ChangeShapes Go.WideShapes Go.ChangeAt Go.RowKit
theorem laid.own : ownKnob Tryz.prog.godebug = none := by kernel_rfl
theorem laid.tEsc : (Tryz.prog.globals[0]?).map (·.type) = some 112 := by kernel_rfl
theorem laid.door_met (os : Os) (args : Array Value) : laidMetH Tryz.prog Rows.topNumbersRow.laid ((World.laidAll Tryz.prog os Rows.topNumbersRow.laid).forCall (fun _ _ => 0) ⟨#[], args, []⟩).memory := by
 rw [MakeChecks.laidMetH_plain _ _ _ (by kernel_rfl)]
 exact laidMet_laidAll _ (by kernel_rfl) (by kernel_rfl)
theorem kn_of {W : World} (h : laidMetH Tryz.prog Rows.topNumbersRow.laid W) : KN W := by
 rw [MakeChecks.laidMetH_plain _ _ _ (by kernel_rfl)] at h
 obtain ⟨ps, ⟨_, _, _, _, _, _, _, _, _, _, ⟨g', t', cs, fuel, p, q, hg', ht', hvar, hd, _, _⟩, _⟩, _, _⟩ := h
 have hg : Tryz.prog.globalNamed "platen/values.kindNames" = some 2 := by kernel_rfl
 have hty : (Tryz.prog.globals[2]?).map (·.type) = some 184 := by kernel_rfl
 obtain rfl := Option.some.inj (hg.symm.trans hg')
 obtain rfl := Option.some.inj (hty.symm.trans ht')
 obtain ⟨xs, m, -, hx, -, hxl, hf⟩ := DataW.trod_array Tryz.underlying184 hd
 have hce : Tryz.prog.cellsOf 9 = 1 := by kernel_rfl
 intro i s hs
 have hi : i < 23 := by
  have := (List.getElem?_eq_some_iff.1 hs).1
  simpa [kindN] using this
 have hfi := hf i hi
 obtain ⟨y, hy⟩ : ∃ y, xs[i]? = some y := ⟨xs[i]'(by omega), List.getElem?_eq_getElem (by omega)⟩
 rw [hy, hce, Nat.mul_one] at hfi
 obtain ⟨s', hc, hy1, -⟩ := DataW.trod_string Tryz.underlying9 hfi
 have hlist : xs.map (·.1) = kindN.map fun s => (DataW.lit (.string s.data.toList) : DataW Unit) := by
  have h1 : (DataW.agg (kindN.map fun s => (DataW.lit (.string s.data.toList) : DataW Unit)) : DataW Unit) = .agg (xs.map (·.1)) := congrArg Prod.fst hx
  exact (DataW.agg.inj h1).symm
 have h2 : (xs.map (·.1))[i]? = some y.1 := by rw [List.getElem?_map, hy]; rfl
 rw [hlist, List.getElem?_map, hs] at h2
 have h3 : (DataW.lit (.string s.data.toList) : DataW Unit) = y.1 := Option.some.inj h2
 rw [hy1] at h3
 have h4 : s.data.toList = s'.data.toList := Lit.string.inj (DataW.lit.inj h3)
 have h5 : s = s' := by
  obtain ⟨⟨a⟩⟩ := s
  obtain ⟨⟨b⟩⟩ := s'
  simp only at h4
  rw [h4]
 have h6 : cs[i]? = some (.string s') := by
  have := congrArg (·[0]?) hc
  simpa [List.getElem?_take, List.getElem?_drop] using this
 rw [World.var?_cell hg hvar i, h6, h5]
theorem laid.room {W : World} {p : Addr} {v : Value} (h : W.cell? p = some v) : p.block < W.heap.size := by
 rcases Nat.lt_or_ge p.block W.heap.size with h1 | h1
 ·exact h1
 ·simp [World.cell?, Array.getElem?_eq_none h1] at h
theorem laid.get (l : List Value) (i : Nat) (v : Value) (h : (l.drop i).take 1 = [v]) : l[i]? = some v := by
 have h2 := congrArg (fun x => x[0]?) h
 simpa [List.getElem?_take, List.getElem?_drop] using h2
set_option maxRecDepth 1000000 in
theorem esc_of {W : World} (h : laidMetH Tryz.prog Rows.topNumbersRow.laid W) : Esc W := by
 rw [MakeChecks.laidMetH_plain _ _ _ (by kernel_rfl)] at h
 obtain ⟨ps, ⟨_, _, _, _, _, _, _, _, _, _, ⟨_, _, _, _, _, _, _, _, _, _, ⟨g0, t0, cs0, f0, p0, q0, hg0, ht0, hv0, hd0, _, _⟩, _⟩, _⟩, _, _⟩ := h
 obtain rfl : 0 = g0 := Option.some.inj (Eq.trans (Eq.symm (by kernel_rfl)) hg0)
 obtain rfl := Option.some.inj (laid.tEsc.symm.trans ht0)
 obtain ⟨xs, m1, rfl, hx1, hlen, hn, hel⟩ := DataW.trod_array Tryz.underlying112 hd0
 have c1 : Tryz.prog.cellsOf 21 = 1 := by kernel_rfl
 have c7 : Tryz.prog.cellsOf 112 = 7 := by kernel_rfl
 simp only [Prod.mk.injEq, Rows.laid_platen_quote_escapes, DataW.agg.injEq] at hx1
 have key : ∀ i, i < 7 → W.cell? ⟨0, i, none⟩ = some (.int .i32 (escT i : Nat)) := by
  intro i hi
  have hcell := World.var?_cell hg0 hv0 i
  have h0 := hel i hi
  have hx : ∃ x, xs[i]? = some x ∧ x.1 = .lit (.int .i32 (escT i : Nat)) := by
   match xs, hn, hx1 with
   | [x0, x1, x2, x3, x4, x5, x6], _, hx1 =>
     simp only [List.map_cons, List.map_nil, List.cons.injEq] at hx1
     obtain ⟨⟨e0, e1, e2, e3, e4, e5, e6, -⟩, -⟩ := hx1
     match i, hi with
     | 0, _ => exact ⟨x0, rfl, e0.symm⟩
     | 1, _ => exact ⟨x1, rfl, e1.symm⟩
     | 2, _ => exact ⟨x2, rfl, e2.symm⟩
     | 3, _ => exact ⟨x3, rfl, e3.symm⟩
     | 4, _ => exact ⟨x4, rfl, e4.symm⟩
     | 5, _ => exact ⟨x5, rfl, e5.symm⟩
     | 6, _ => exact ⟨x6, rfl, e6.symm⟩
     | n + 7, hi => omega
  obtain ⟨x, hxi, hxv⟩ := hx
  rw [hxi, c1, Nat.mul_one] at h0
  obtain ⟨k, f1, f2, _⟩ := DataW.trod_int Tryz.underlying21 h0
  rw [f2] at hxv
  have hk : k = (escT i : Nat) := by simpa using hxv
  rw [hk] at f1
  rw [hcell]
  have := laid.get _ _ _ f1
  simpa using this
 exact ⟨laid.room (key 0 (by omega)), key⟩
end Go.Proofs.YtjalgdfnehgocaaGreatDoor
namespace Go.Proofs.YtjalgdfnehgocaaGreatDoor
open Go.ChangeShapes Go.WideShapes Go.ChangeAt Go.RowKit
theorem array4n {α : Type} {cs : Array α} (h : cs.size = 4) : ∃ c0 c1 c2 c3, cs = #[c0, c1, c2, c3] := by
 obtain ⟨l⟩ := cs
 match l, h with
 | [c0, c1, c2, c3], _ => exact ⟨c0, c1, c2, c3, rfl⟩
theorem cellsIn : Tryz.prog.cellsOf 3 = 1 := by kernel_rfl
theorem cellsU64n : Tryz.prog.cellsOf 27 = 1 := by kernel_rfl
theorem cellsUn : Tryz.prog.cellsOf 22 = 1 := by kernel_rfl
theorem cellsNum4 : Tryz.prog.cellsOf 54 = 4 := by kernel_rfl
set_option maxRecDepth 1000000 in
theorem open_num {H : Type} {enc : TypeId × Value → H} {W : World} {base : Nat} {v : Value} {d : DataW H} {p : List MemPlace}
  (hv : Value.okWide Tryz.prog W .any base 54 v) (h : DataW.Trod enc Tryz.prog W 0 (fun _ => true) true 54 v d p) :
  ∃ (x y z t : Int), v = .agg #[.int .i64 x, .int .u64 y, .int .i64 z, .int .u64 t] ∧ (Lit.int .i64 x).wf = true ∧ (Lit.int .u64 y).wf = true ∧ (Lit.int .i64 z).wf = true ∧ (Lit.int .u64 t).wf = true := by
 obtain ⟨cs, rfl, hsz⟩ := okWide_struct Tryz.underlying54 hv
 obtain ⟨c0, c1, c2, c3, rfl⟩ := array4n (hsz.trans cellsNum4)
 obtain ⟨fuel, hf0⟩ := h
 obtain ⟨xs, n, _, _, _, hlen, hf⟩ := DataW.trod_struct Tryz.underlying54 hf0
 match xs, hlen with
 | [y0, y1, y2, y3], _ =>
   have g0 : DataW.trod enc Tryz.prog W 0 (fun _ => true) true n 3 [c0] = some y0 := by simpa [Value.cells, cellsIn, cellsU64n, cellsUn] using hf 0 _ rfl
   have g1 : DataW.trod enc Tryz.prog W 0 (fun _ => true) true n 27 [c1] = some y1 := by simpa [Value.cells, cellsIn, cellsU64n, cellsUn] using hf 1 _ rfl
   have g2 : DataW.trod enc Tryz.prog W 0 (fun _ => true) true n 3 [c2] = some y2 := by simpa [Value.cells, cellsIn, cellsU64n, cellsUn] using hf 2 _ rfl
   have g3 : DataW.trod enc Tryz.prog W 0 (fun _ => true) true n 22 [c3] = some y3 := by simpa [Value.cells, cellsIn, cellsU64n, cellsUn] using hf 3 _ rfl
   obtain ⟨x, e0, _, w0⟩ := DataW.trod_int Tryz.underlying3 g0
   obtain ⟨y, e1, _, w1⟩ := DataW.trod_int Tryz.underlying27 g1
   obtain ⟨z, e2, _, w2⟩ := DataW.trod_int Tryz.underlying3 g2
   obtain ⟨t, e3, _, w3⟩ := DataW.trod_int Tryz.underlying22 g3
   simp only [List.cons.injEq, and_true] at e0 e1 e2 e3
   subst e0 e1 e2 e3
   exact ⟨x, y, z, t, rfl, w0, w1, w2, w3⟩
end Go.Proofs.YtjalgdfnehgocaaGreatDoor
