/- TopBits: the law's walk, its calls as hypotheses. -/
import Derived.Test.YtiagjheifblkiaaGreatDoorPt1
import Derived.Test.YtiagjheifblkiaaGreatDoorPt36
namespace Go.Proofs.YtiagjheifblkiaaGreatDoor
open Go.RowKit
set_option linter.unusedVariables false
set_option linter.unusedSimpArgs false
set_option maxRecDepth 1000000 in
set_option maxHeartbeats 16000000 in
theorem tbits_front {bits p k m xn N G QN : Nat} {n e prec q PV x0 y0 : Int} {b sg : Bool} {SV T SG D1 D2 WT X S1 : ByteArray} {pw : Nat → Nat} (hq : max 0 (min prec 1000) = q) (hFl : Fl9 bits b k p n SV PV) (hP : PtC p n sg m e 0) (he0 : -2000 ≤ e) (he1 : e ≤ 2000) (hm : m < 18446744073709551616)
  (hsg : (e < 0 ∧ SG = ⟨#[112, 45]⟩ ∧ e = -(xn : Int)) ∨ (¬ e < 0 ∧ SG = ⟨#[112, 43]⟩ ∧ e = xn)) (hD1 : digT false 10 m = D1) (hD2 : digT false 10 xn = D2) (hWT : (D1 ++ SG) ++ D2 = WT)
  (hPb : ∀ (A : Nat) (W : World), Esc W → KN W → A < W.heap.size → W.rangeAt A 0 [.int .i64 k, .string ⟨#[]⟩, .int .u64 p, .int .u64 0, .string ⟨#[]⟩, .slice none 0 0, .slice none 0 0, .int .i64 0] → Calls Tryz.prog 9 #[.slice none 0 0, .string ⟨#[37, 98]⟩, .slice (some ⟨A, 0, none⟩) 1 1] W fun e w' => e = .returned (.string WT) ∧ Below W.heap.size W w')
  (hPs : ∀ (A : Nat) (W : World), Esc W → KN W → A < W.heap.size → W.rangeAt A 0 [.int .i64 6, .string ⟨#[]⟩, .int .u64 q, .int .u64 0, .string ⟨#[]⟩, .slice none 0 0, .slice none 0 0, .int .i64 0, .int .i64 k, .string ⟨#[]⟩, .int .u64 p, .int .u64 0, .string ⟨#[]⟩, .slice none 0 0, .slice none 0 0, .int .i64 0] → Calls Tryz.prog 9 #[.slice none 0 0, .string ⟨#[37, 46, 42, 98]⟩, .slice (some ⟨A, 0, none⟩) 2 2] W fun e w' => e = .returned (.string WT) ∧ Below W.heap.size W w')
  (hPx : ∀ (A : Nat) (W : World), Esc W → KN W → A < W.heap.size → W.rangeAt A 0 [.int .i64 k, .string ⟨#[]⟩, .int .u64 p, .int .u64 0, .string ⟨#[]⟩, .slice none 0 0, .slice none 0 0, .int .i64 0] → Calls Tryz.prog 9 #[.slice none 0 0, .string ⟨#[37, 120]⟩, .slice (some ⟨A, 0, none⟩) 1 1] W fun e w' => e = .returned (.string T) ∧ Below W.heap.size W w')
  (hX1 : ∀ z : Int, z = y0 - 4 * x0 → ExC G z SV PV) (hT7 : 7 ≤ T.size) (hT9 : T.size ≤ 1000) (h0x : T.extract 0 2 = ⟨#[48, 120]⟩) (hN2 : 2 < N) (hN4 : N + 4 ≤ T.size) (HC : Hid (∀ h : N < T.size, (T[N]'h).toNat = 112)) (HS : Hid (∀ h : N + 1 < T.size, (T[N + 1]'h).toNat = 45 ∧ y0 = -(pw QN : Int) ∨ (T[N + 1]'h).toNat = 43 ∧ y0 = pw QN)) (HD : Hid (HexG T N)) (HB : Hid (∀ i, i < N → 16 * (gL ((T.data.toList.take i).drop 2)).1 + 16 ≤ 18446744073709551615)) (HE : Hid (∃ c, gL ((T.data.toList.take N).drop 2) = (G, c) ∧ x0 = ((c - 1 : Nat) : Int)))
  (hXe : T.extract (N + 2) T.size = X) (hR : R6C X S1 QN) (hQ9 : QN ≤ 1000) (hS9 : S1.size ≤ 1000) (hp0 : pw 0 = 0) (HPw : Hid (∀ j, j < QN → pw j ≤ 3000 ∧ ((∃ h : j < S1.size, 48 ≤ (S1[j]'h).toNat ∧ (S1[j]'h).toNat ≤ 57 ∧ pw (j + 1) = 10 * pw j + ((S1[j]'h).toNat - 48)) ∨ (¬ j < S1.size ∧ pw (j + 1) = 10 * pw j)))) (hpM : pw QN ≤ 3000)
  (w : World) (hk : KN w) (he : Esc w) :
  Calls Tryz.prog 5 #[.agg #[.int .u64 bits, .bool b], .int .i64 prec] w fun e w' => e = .returned (.bool true) ∧ Below w.heap.size w w' := by
 have HT : Hid (∀ k (h : k < T.size), 2 ≤ k → gL ((T.data.toList.take (k + 1)).drop 2) = gS (gL ((T.data.toList.take k).drop 2)) (T[k]'h)) := fun k h h2 => by
  rw [List.take_succ_eq_append_getElem (by rw [list_len]; exact h), List.drop_append_of_le_length (by rw [List.length_take, list_len]; omega), gL_snoc]
  rfl
 have hL := fun W h1 h2 => tlives_any W h1 h2
 have hql : 0 ≤ q ∧ q ≤ 1000 := by omega
 have hNu := fun W => tnum_any q (by omega) (by omega) W
 have hxn : xn ≤ 2000 := by omega
 have hG1 : ∀ W, Calls Tryz.prog 17 #[.int .u64 m, .int .i64 10] W fun e w' => e = .returned (.string D1) ∧ W = w' := fun W => by have h := edigits_10 m W hm; rw [hD1] at h; exact h.mono fun _ _ h => ⟨h.1, h.2.symm⟩
 have hG2 : ∀ W, Calls Tryz.prog 17 #[.int .u64 xn, .int .i64 10] W fun e w' => e = .returned (.string D2) ∧ W = w' := fun W => by have h := edigits_10 xn W (by omega); rw [hD2] at h; exact h.mono fun _ _ h => ⟨h.1, h.2.symm⟩
 have hz1 : D1.size ≤ 65 := by rw [← hD1]; exact (digT_size false 10 m).1
 have hz2 : D2.size ≤ 65 := by rw [← hD2]; exact (digT_size false 10 xn).1
 have hzs : SG.size = 2 := by rcases hsg with ⟨-, rfl, -⟩ | ⟨-, rfl, -⟩ <;> rfl
 obtain ⟨M1, hM1⟩ : ∃ M1, D1 ++ SG = M1 := ⟨_, rfl⟩
 rw [hM1] at hWT
 have hz3 : M1.size ≤ 70 := by rw [← hM1, app_size]; omega
 clear hD1 hD2
 obtain ⟨W1, hW1⟩ : ∃ W1, W1 = w.alloc (.cells #[.int .u64 bits, .bool b] 24) := ⟨_, rfl⟩
 have b1 : Below w.heap.size w W1 := by rw [hW1]; exact (Below.refl _ _).alloc (Nat.le_refl _) _
 have c0 : W1.cell? ⟨w.heap.size, 0, none⟩ = some (.int .u64 bits) := by rw [hW1]; simp [go_sem]
 have c1 : W1.cell? ⟨w.heap.size, 1, none⟩ = some (.bool b) := by rw [hW1]; simp [go_sem]
 go_enter Tryz.func5, Tryz.ntmps5
 go_upto_region 1 with fail
 rw [← hW1]
 clear hW1
 go_upto_region 2 with (go_at_call 7; refine (hFl _).mono ?_; rintro e W2 ⟨rfl, b2⟩)
 obtain ⟨W3, hW3⟩ : ∃ W3, W3 = (W2.alloc (.cells #[.int .i64 k, .string ⟨#[]⟩, .int .u64 p, .int .u64 0, .string ⟨#[]⟩, .slice none 0 0, .slice none 0 0, .int .i64 0] 29)).alloc (.cells #[.string SV, .int .i64 PV] 31) := ⟨_, rfl⟩
 have b3 : Below w.heap.size w W3 := by rw [hW3]; exact ((b1.trans (b2.mono b1.size)).alloc (by have := b1.size; have := b2.size; omega) _).alloc (by have := b1.size; have := b2.size; simp; omega) _
 have k3 : Blk W3 W2.heap.size [.int .i64 k, .string ⟨#[]⟩, .int .u64 p, .int .u64 0, .string ⟨#[]⟩, .slice none 0 0, .slice none 0 0, .int .i64 0] := by rw [hW3]; exact (Blk.new W2 [.int .i64 k, .string ⟨#[]⟩, .int .u64 p, .int .u64 0, .string ⟨#[]⟩, .slice none 0 0, .slice none 0 0, .int .i64 0] _).up ((Below.refl _ _).alloc (Nat.le_refl _) _)
 have v3 : BoxDe W3 (W2.heap.size + 1) (.string SV) (.int .i64 PV) := by rw [hW3]; simp [BoxDe, go_sem]
 rw [← hW3]
 clear hW3 b1 b2 c0 c1
 obtain ⟨VB, hVB⟩ : ∃ VB, W2.heap.size + 1 = VB := ⟨_, rfl⟩
 rw [hVB] at v3
 rw [hVB]
 obtain ⟨D, hD⟩ : ∃ D, W2.heap.size = D := ⟨_, rfl⟩
 rw [hD] at k3
 simp only [hD]
 clear hD hVB W2 hFl
 go_upto_region 3 with (go_at_call 16; refine (hP _).mono ?_; rintro e W4 ⟨rfl, d4⟩)
 have b4 := b3.trans (d4.mono b3.size)
 have k4 := k3.up d4
 have v4 := keepb d4 v3
 clear hP d4 b3 k3 v3
 go_upto_if 44 with fail
 go_cut [13, 14] (fun z13 z14 wx => ∃ V4, V4 = wx ∧ Below w.heap.size w V4 ∧ Blk V4 D [.int .i64 k, .string ⟨#[]⟩, .int .u64 p, .int .u64 0, .string ⟨#[]⟩, .slice none 0 0, .slice none 0 0, .int .i64 0] ∧ BoxDe V4 VB (.string SV) (.int .i64 PV) ∧ z13 = .int .i64 xn ∧ z14 = .string SG)
 case first =>
  clear hPb hPs hPx hG1 hG2 hNu hL
  rcases hsg with ⟨s1, rfl, s3⟩ | ⟨s1, rfl, s3⟩
  ·have s4 : -e = (xn : Int) := by omega
   go_wp2
   go_meet
   exact ⟨_, rfl, b4, k4, v4, by go_num, rfl⟩
  ·go_wp2
   go_meet
   exact ⟨_, rfl, b4, k4, v4, by rw [s3], rfl⟩
 case rest =>
 clear b4 k4 v4 hsg
 obtain ⟨V4, rfl, b4, k4, v4, rfl, rfl⟩ := hcut
 go_upto_region 9 with (first | (go_at_call 17; (with_reducible refine (hG1 _).mono ?_); rintro e w9 ⟨rfl, rfl⟩) | (go_at_call 17; (with_reducible refine (hG2 _).mono ?_); rintro e w9 ⟨rfl, rfl⟩))
 clear hG1 hG2
 go_cut [70] (fun z70 wx => ∃ V5, V5 = wx ∧ Below w.heap.size w V5 ∧ Blk V5 D [.int .i64 k, .string ⟨#[]⟩, .int .u64 p, .int .u64 0, .string ⟨#[]⟩, .slice none 0 0, .slice none 0 0, .int .i64 0] ∧ BoxDe V5 VB (.string SV) (.int .i64 PV) ∧ z70 = .bool false)
 case first =>
  clear hPx hL HT hX1 hR HC HS HD HB HE HPw h0x
  obtain ⟨W20, hW20⟩ : ∃ W20, W20 = V4.drew := ⟨_, rfl⟩
  have b20 : Below w.heap.size w W20 := by rw [hW20]; exact b4.drew
  have s20 : Blk W20 D [.int .i64 k, .string ⟨#[]⟩, .int .u64 p, .int .u64 0, .string ⟨#[]⟩, .slice none 0 0, .slice none 0 0, .int .i64 0] ∧ BoxDe W20 VB (.string SV) (.int .i64 PV) := by rw [hW20]; exact ⟨k4.up (Below.refl _ _).drew, v4⟩
  refine wp_region_held_drew (S := fun w' : World => Blk w' D [.int .i64 k, .string ⟨#[]⟩, .int .u64 p, .int .u64 0, .string ⟨#[]⟩, .slice none 0 0, .slice none 0 0, .int .i64 0] ∧ BoxDe w' VB (.string SV) (.int .i64 PV)) (by kernel_rfl) (by rw [← hW20]; exact s20) ?_
  rw [← hW20]
  clear hW20 b4 k4 v4
  intro hS
  clear hS
  refine wpAnyH_take (i := 0) (v := .agg #[.int .i64 k, .string ⟨#[]⟩, .int .u64 p, .int .u64 0, .string ⟨#[]⟩, .slice none 0 0, .slice none 0 0, .int .i64 0]) rfl (by kernel_rfl) (by kernel_rfl) (by kernel_rfl) (fun _ _ _ h => h) (Or.inl ⟨by rfl, ?_⟩) s20 ?_
  ·intro w5 s0
   have a0 := s0.1.c 0 _ rfl
   have a1 := s0.1.c 1 _ rfl
   have a2 := s0.1.c 2 _ rfl
   have a3 := s0.1.c 3 _ rfl
   have a4 := s0.1.c 4 _ rfl
   have a5 := s0.1.c 5 _ rfl
   have a6 := s0.1.c 6 _ rfl
   have a7 := s0.1.c 7 _ rfl
   go_simp
  try simp only [Act.put, List.getElem_toArray, List.getElem_cons_zero, List.getElem_cons_succ, List.setIfInBounds_toArray, List.set_cons_zero, List.set_cons_succ, List.length_cons]
  refine wpAnyH_take (i := 3) (v := .string WT) rfl (by kernel_rfl) (by kernel_rfl) (by kernel_rfl) (fun _ _ _ h => h) (Or.inl ⟨by rfl, ?_⟩) s20 ?_
  ·intro w5 s0
   go_simp
  try simp only [Act.put, List.getElem_toArray, List.getElem_cons_zero, List.getElem_cons_succ, List.setIfInBounds_toArray, List.set_cons_zero, List.set_cons_succ, List.length_cons]
  refine rd1 1 (by kernel_rfl) rfl fun K hK => ?_
  go_simp
  obtain ⟨W21, hW21⟩ : ∃ W, W = W20.alloc (.cells #[.int .i64 k, .string ⟨#[]⟩, .int .u64 p, .int .u64 0, .string ⟨#[]⟩, .slice none 0 0, .slice none 0 0, .int .i64 0] 29) := ⟨_, rfl⟩
  have c21 : Below W20.heap.size W20 W21 := by rw [hW21]; exact (Below.refl _ _).alloc (Nat.le_refl _) _
  have r21 : Blk W21 W20.heap.size [.int .i64 k, .string ⟨#[]⟩, .int .u64 p, .int .u64 0, .string ⟨#[]⟩, .slice none 0 0, .slice none 0 0, .int .i64 0] := by rw [hW21]; exact Blk.new W20 [.int .i64 k, .string ⟨#[]⟩, .int .u64 p, .int .u64 0, .string ⟨#[]⟩, .slice none 0 0, .slice none 0 0, .int .i64 0] _
  rw [← hW21]
  clear hW21
  have b21 : Below w.heap.size w W21 := b20.trans (c21.mono b20.size)
  have s21 : Blk W21 D [.int .i64 k, .string ⟨#[]⟩, .int .u64 p, .int .u64 0, .string ⟨#[]⟩, .slice none 0 0, .slice none 0 0, .int .i64 0] ∧ BoxDe W21 VB (.string SV) (.int .i64 PV) := ⟨s20.1.up c21, keepb c21 s20.2⟩
  refine hK.out _ _ s21 (fun _ => ?_)
  clear hK
  try simp only [Act.put, List.getElem_toArray, List.getElem_cons_zero, List.getElem_cons_succ, List.setIfInBounds_toArray, List.set_cons_zero, List.set_cons_succ, List.length_cons]
  refine rd1 2 (by kernel_rfl) rfl fun K hK => ?_
  go_simp
  refine (hPb _ W21 (he.below b21) (hk.up b21) r21.b r21.range).mono ?_
  rintro e W22 ⟨rfl, c22⟩
  have b22 : Below w.heap.size w W22 := b21.trans (c22.mono b21.size)
  have s22 : Blk W22 D [.int .i64 k, .string ⟨#[]⟩, .int .u64 p, .int .u64 0, .string ⟨#[]⟩, .slice none 0 0, .slice none 0 0, .int .i64 0] ∧ BoxDe W22 VB (.string SV) (.int .i64 PV) := ⟨s21.1.up c22, keepb c22 s21.2⟩
  refine hK.out _ _ s22 (fun _ => ?_)
  clear hK
  try simp only [Act.put, List.getElem_toArray, List.getElem_cons_zero, List.getElem_cons_succ, List.setIfInBounds_toArray, List.set_cons_zero, List.set_cons_succ, List.length_cons]
  refine wpAnyH_take (i := 4) (v := .bool false) rfl (by kernel_rfl) (by kernel_rfl) (by kernel_rfl) (fun _ _ _ h => h) (Or.inl ⟨by rfl, ?_⟩) s22 ?_
  ·intro w5 s0
   go_simp
  try simp only [Act.put, List.getElem_toArray, List.getElem_cons_zero, List.getElem_cons_succ, List.setIfInBounds_toArray, List.set_cons_zero, List.set_cons_succ, List.length_cons]
  refine wpAnyH_take (i := 5) (v := .bool false) rfl (by kernel_rfl) (by kernel_rfl) (by kernel_rfl) (fun _ _ _ h => h) (Or.inl ⟨by rfl, ?_⟩) s22 ?_
  ·intro w5 s0
   go_simp
  try simp only [Act.put, List.getElem_toArray, List.getElem_cons_zero, List.getElem_cons_succ, List.setIfInBounds_toArray, List.set_cons_zero, List.set_cons_succ, List.length_cons]
  refine wpAnyH_take (i := 6) (v := .int .i64 prec) rfl (by kernel_rfl) (by kernel_rfl) (by kernel_rfl) (fun _ _ _ h => h) (Or.inl ⟨by rfl, ?_⟩) s22 ?_
  ·intro w5 s0
   go_simp
  try simp only [Act.put, List.getElem_toArray, List.getElem_cons_zero, List.getElem_cons_succ, List.setIfInBounds_toArray, List.set_cons_zero, List.set_cons_succ, List.length_cons]
  refine wpAnyH_take (i := 7) (v := .int .i64 (min prec 1000)) rfl (by kernel_rfl) (by kernel_rfl) (by kernel_rfl) (fun _ _ _ h => h) (Or.inl ⟨by rfl, ?_⟩) s22 ?_
  ·intro w5 s0
   go_simp
  try simp only [Act.put, List.getElem_toArray, List.getElem_cons_zero, List.getElem_cons_succ, List.setIfInBounds_toArray, List.set_cons_zero, List.set_cons_succ, List.length_cons]
  refine wpAnyH_take (i := 8) (v := .int .i64 q) rfl (by kernel_rfl) (by kernel_rfl) (by kernel_rfl) (fun _ _ _ h => h) (Or.inl ⟨by rfl, ?_⟩) s22 ?_
  ·intro w5 s0
   go_simp
  try simp only [Act.put, List.getElem_toArray, List.getElem_cons_zero, List.getElem_cons_succ, List.setIfInBounds_toArray, List.set_cons_zero, List.set_cons_succ, List.length_cons]
  refine wpAnyH_take (i := 10) (v := .agg #[.int .i64 k, .string ⟨#[]⟩, .int .u64 p, .int .u64 0, .string ⟨#[]⟩, .slice none 0 0, .slice none 0 0, .int .i64 0]) rfl (by kernel_rfl) (by kernel_rfl) (by kernel_rfl) (fun _ _ _ h => h) (Or.inl ⟨by rfl, ?_⟩) s22 ?_
  ·intro w5 s0
   have a0 := s0.1.c 0 _ rfl
   have a1 := s0.1.c 1 _ rfl
   have a2 := s0.1.c 2 _ rfl
   have a3 := s0.1.c 3 _ rfl
   have a4 := s0.1.c 4 _ rfl
   have a5 := s0.1.c 5 _ rfl
   have a6 := s0.1.c 6 _ rfl
   have a7 := s0.1.c 7 _ rfl
   go_simp
  try simp only [Act.put, List.getElem_toArray, List.getElem_cons_zero, List.getElem_cons_succ, List.setIfInBounds_toArray, List.set_cons_zero, List.set_cons_succ, List.length_cons]
  refine wpAnyH_take (i := 13) (v := .string WT) rfl (by kernel_rfl) (by kernel_rfl) (by kernel_rfl) (fun _ _ _ h => h) (Or.inl ⟨by rfl, ?_⟩) s22 ?_
  ·intro w5 s0
   go_simp
  try simp only [Act.put, List.getElem_toArray, List.getElem_cons_zero, List.getElem_cons_succ, List.setIfInBounds_toArray, List.set_cons_zero, List.set_cons_succ, List.length_cons]
  refine rd1 9 (by kernel_rfl) rfl fun K hK => ?_
  go_simp
  refine (hNu W22).mono ?_
  rintro e W23 ⟨rfl, c23⟩
  have b23 : Below w.heap.size w W23 := b22.trans (c23.mono b22.size)
  have s23 : Blk W23 D [.int .i64 k, .string ⟨#[]⟩, .int .u64 p, .int .u64 0, .string ⟨#[]⟩, .slice none 0 0, .slice none 0 0, .int .i64 0] ∧ BoxDe W23 VB (.string SV) (.int .i64 PV) := ⟨s22.1.up c23, keepb c23 s22.2⟩
  refine hK.out _ _ s23 (fun _ => ?_)
  clear hK
  try simp only [Act.put, List.getElem_toArray, List.getElem_cons_zero, List.getElem_cons_succ, List.setIfInBounds_toArray, List.set_cons_zero, List.set_cons_succ, List.length_cons]
  refine rd1 11 (by kernel_rfl) rfl fun K hK => ?_
  go_simp
  obtain ⟨W24, hW24⟩ : ∃ W, W = W23.alloc (.cells #[.int .i64 6, .string ⟨#[]⟩, .int .u64 q, .int .u64 0, .string ⟨#[]⟩, .slice none 0 0, .slice none 0 0, .int .i64 0, .int .i64 k, .string ⟨#[]⟩, .int .u64 p, .int .u64 0, .string ⟨#[]⟩, .slice none 0 0, .slice none 0 0, .int .i64 0] 29) := ⟨_, rfl⟩
  have c24 : Below W23.heap.size W23 W24 := by rw [hW24]; exact (Below.refl _ _).alloc (Nat.le_refl _) _
  have r24 : Blk W24 W23.heap.size [.int .i64 6, .string ⟨#[]⟩, .int .u64 q, .int .u64 0, .string ⟨#[]⟩, .slice none 0 0, .slice none 0 0, .int .i64 0, .int .i64 k, .string ⟨#[]⟩, .int .u64 p, .int .u64 0, .string ⟨#[]⟩, .slice none 0 0, .slice none 0 0, .int .i64 0] := by rw [hW24]; exact Blk.new W23 [.int .i64 6, .string ⟨#[]⟩, .int .u64 q, .int .u64 0, .string ⟨#[]⟩, .slice none 0 0, .slice none 0 0, .int .i64 0, .int .i64 k, .string ⟨#[]⟩, .int .u64 p, .int .u64 0, .string ⟨#[]⟩, .slice none 0 0, .slice none 0 0, .int .i64 0] _
  rw [← hW24]
  clear hW24
  have b24 : Below w.heap.size w W24 := b23.trans (c24.mono b23.size)
  have s24 : Blk W24 D [.int .i64 k, .string ⟨#[]⟩, .int .u64 p, .int .u64 0, .string ⟨#[]⟩, .slice none 0 0, .slice none 0 0, .int .i64 0] ∧ BoxDe W24 VB (.string SV) (.int .i64 PV) := ⟨s23.1.up c24, keepb c24 s23.2⟩
  refine hK.out _ _ s24 (fun _ => ?_)
  clear hK
  try simp only [Act.put, List.getElem_toArray, List.getElem_cons_zero, List.getElem_cons_succ, List.setIfInBounds_toArray, List.set_cons_zero, List.set_cons_succ, List.length_cons]
  refine rd1 12 (by kernel_rfl) rfl fun K hK => ?_
  go_simp
  refine (hPs _ W24 (he.below b24) (hk.up b24) r24.b r24.range).mono ?_
  rintro e W25 ⟨rfl, c25⟩
  have b25 : Below w.heap.size w W25 := b24.trans (c25.mono b24.size)
  have s25 : Blk W25 D [.int .i64 k, .string ⟨#[]⟩, .int .u64 p, .int .u64 0, .string ⟨#[]⟩, .slice none 0 0, .slice none 0 0, .int .i64 0] ∧ BoxDe W25 VB (.string SV) (.int .i64 PV) := ⟨s24.1.up c25, keepb c25 s24.2⟩
  refine hK.out _ _ s25 (fun _ => ?_)
  clear hK
  try simp only [Act.put, List.getElem_toArray, List.getElem_cons_zero, List.getElem_cons_succ, List.setIfInBounds_toArray, List.set_cons_zero, List.set_cons_succ, List.length_cons]
  refine wpAnyH_take (i := 14) (v := .bool false) rfl (by kernel_rfl) (by kernel_rfl) (by kernel_rfl) (fun _ _ _ h => h) (Or.inl ⟨by rfl, ?_⟩) s25 ?_
  ·intro w5 s0
   go_simp
  try simp only [Act.put, List.getElem_toArray, List.getElem_cons_zero, List.getElem_cons_succ, List.setIfInBounds_toArray, List.set_cons_zero, List.set_cons_succ, List.length_cons]
  refine wpAnyH_take (i := 15) (v := .bool false) rfl (by kernel_rfl) (by kernel_rfl) (by kernel_rfl) (fun _ _ _ h => h) (Or.inl ⟨by rfl, ?_⟩) s25 ?_
  ·intro w5 s0
   go_simp
  try simp only [Act.put, List.getElem_toArray, List.getElem_cons_zero, List.getElem_cons_succ, List.setIfInBounds_toArray, List.set_cons_zero, List.set_cons_succ, List.length_cons]
  refine wpAnyH_done (by kernel_rfl) ?_ _
  go_wp2
  go_meet
  exact ⟨_, rfl, b25, s25.1, s25.2, rfl⟩
 case rest =>
 clear b4 k4 v4 hPb hPs hNu hq
 obtain ⟨V5, rfl, b5, k5, v5, rfl⟩ := hcut
 have a0 := k5.c 0 _ rfl
 have a1 := k5.c 1 _ rfl
 have a2 := k5.c 2 _ rfl
 have a3 := k5.c 3 _ rfl
 have a4 := k5.c 4 _ rfl
 have a5 := k5.c 5 _ rfl
 have a6 := k5.c 6 _ rfl
 have a7 := k5.c 7 _ rfl
 obtain ⟨A6, hA6⟩ : ∃ A6, A6 = V5.alloc (.cells #[.int .i64 k, .string ⟨#[]⟩, .int .u64 p, .int .u64 0, .string ⟨#[]⟩, .slice none 0 0, .slice none 0 0, .int .i64 0] 29) := ⟨_, rfl⟩
 have d6 : Below V5.heap.size V5 A6 := by rw [hA6]; exact (Below.refl _ _).alloc (Nat.le_refl _) _
 have b6 : Below w.heap.size w A6 := b5.trans (d6.mono b5.size)
 have k6 : Blk A6 V5.heap.size [.int .i64 k, .string ⟨#[]⟩, .int .u64 p, .int .u64 0, .string ⟨#[]⟩, .slice none 0 0, .slice none 0 0, .int .i64 0] := by rw [hA6]; exact Blk.new V5 [.int .i64 k, .string ⟨#[]⟩, .int .u64 p, .int .u64 0, .string ⟨#[]⟩, .slice none 0 0, .slice none 0 0, .int .i64 0] _
 have c6 := hPx V5.heap.size A6 (he.below b6) (hk.up b6) k6.b k6.range
 have v6 := keepb d6 v5
 go_upto_region 13 with (go_at_call 9; rw [← hA6]; clear hA6; refine c6.mono ?_; rintro e W ⟨rfl, d7⟩)
 have bW := b6.trans (d7.mono b6.size)
 have vW := keepb d7 v6
 clear a0 a1 a2 a3 a4 a5 a6 a7 d6 b6 k6 c6 v6 d7 b5 k5 v5 hPx
 have hT2I : (2 : Int) ≤ T.size := by omega
 go_loopg [17, 18, 19, 20] (N - 2) (fun g gv xv iv cv wr => W = wr ∧ ∃ (i got cnt : Nat) (x : Int), gv = .int .u64 got ∧ xv = .int .i64 x ∧ iv = .int .i64 i ∧ 2 ≤ i ∧ i + g = N ∧ x ≤ i ∧ 0 ≤ x ∧ Hid (gL ((T.data.toList.take i).drop 2) = (got, cnt)) ∧ Hid (x = ((cnt - 1 : Nat) : Int) ∧ (2 < i → 1 ≤ cnt) ∧ (i = 2 → cnt = 0)))
 case atStart =>
  refine ⟨rfl, 2, 0, 0, 0, rfl, rfl, rfl, Nat.le_refl _, by omega, by omega, by omega, ?_, ⟨rfl, fun h => by omega, fun _ => rfl⟩⟩
  show gL _ = _
  rw [List.drop_of_length_le (by rw [List.length_take]; omega)]; rfl
 case round =>
  obtain ⟨hWr, i, got, cnt, x, rfl, rfl, rfl, hi2, hig, hx0, hx1, HX, HY⟩ := hrel
  subst hWr
  by_cases hi : i < N
  ·have hiT : i < T.size := by omega
   have hiI : (i : Int) < T.size := by omega
   have hdB := HD.out i hiT hi2 hi
   have ht := HT.out i hiT hi2
   have hbo := HB.out i hi
   have hb : (T[i]'hiT).toNat < 256 := (T[i]'hiT).toNat_lt
   rw [HX.out] at ht hbo
   obtain ⟨z1, z2, z3⟩ := HY.out
   have hb2 : got * 16 + 16 ≤ 18446744073709551615 := by omega
   clear HX HY HD HT HB HE HC HS hX1 hR HPw hL
   generalize hc : (T[i]'hiT) = c at *
   have HT2 : Hid (gL ((T.data.toList.take (i + 1)).drop 2) = gS (got, cnt) c) := ht
   have HZ : Hid (x = ((cnt - 1 : Nat) : Int) ∧ (2 < i → 1 ≤ cnt) ∧ (i = 2 → cnt = 0)) := ⟨z1, z2, z3⟩
   have n112 : c.toNat ≠ 112 := by omega
   have b112 : ((c.toNat : Int) != 112) = true := by rw [bne_iff_ne]; omega
   clear ht z1 z2 z3 hbo
   rcases hdB with ⟨h46, h2i⟩ | ⟨c0, c1⟩ | ⟨c0, c1⟩
   ·go_wp2
    go_roundg (gk - 1)
    case measure => omega
    case rel =>
     obtain ⟨z1, z2, z3⟩ := HZ.out
     refine ⟨rfl, i + 1, got, cnt, x, rfl, rfl, by go_num, by omega, by omega, by omega, by omega, ?_, ⟨z1, fun _ => z2 h2i, fun h => by omega⟩⟩
     show _ = _
     rw [HT2.out]; unfold gS; rw [if_pos h46]
   ·have n46 : ¬ c.toNat = 46 := by omega
    have c0I : 48 ≤ (c.toNat : Int) := by omega
    have c1I : (c.toNat : Int) ≤ 57 := by omega
    have HV : Hid (hvD c = c.toNat - 48) := by show _ = _; unfold hvD; rw [if_pos c1]
    by_cases h2i : 2 < i
    ·have h2I : (2 : Int) < i := by omega
     go_wp2
     go_roundg (gk - 1)
     case measure => omega
     case rel =>
      obtain ⟨z1, z2, z3⟩ := HZ.out
      have := z2 h2i
      refine ⟨rfl, i + 1, 16 * got + (c.toNat - 48), cnt + 1, x + 1, by go_num, by go_num, by go_num, by omega, by omega, by omega, by omega, ?_, ⟨by omega, fun _ => by omega, fun h => by omega⟩⟩
      show _ = _
      rw [HT2.out]; unfold gS; rw [if_neg n46, HV.out]
    ·obtain rfl : i = 2 := by omega
     go_wp2
     go_roundg (gk - 1)
     case measure => omega
     case rel =>
      obtain ⟨z1, z2, z3⟩ := HZ.out
      have := z3 (by trivial)
      refine ⟨rfl, 2 + 1, 16 * got + (c.toNat - 48), cnt + 1, x, by go_num, rfl, by go_num, by omega, by omega, by omega, by omega, ?_, ⟨by omega, fun _ => by omega, fun h => by omega⟩⟩
      show _ = _
      rw [HT2.out]; unfold gS; rw [if_neg n46, HV.out]
   ·have n46 : ¬ c.toNat = 46 := by omega
    have c0I : 97 ≤ (c.toNat : Int) := by omega
    have c1I : (c.toNat : Int) ≤ 102 := by omega
    have c2I : ¬ (c.toNat : Int) ≤ 57 := by omega
    have c3I : 48 ≤ (c.toNat : Int) := by omega
    have HV : Hid (hvD c = c.toNat - 97 + 10) := by show _ = _; unfold hvD; rw [if_neg (by omega)]
    by_cases h2i : 2 < i
    ·have h2I : (2 : Int) < i := by omega
     go_wp2
     go_roundg (gk - 1)
     case measure => omega
     case rel =>
      obtain ⟨z1, z2, z3⟩ := HZ.out
      have := z2 h2i
      refine ⟨rfl, i + 1, 16 * got + (c.toNat - 97 + 10), cnt + 1, x + 1, by go_num, by go_num, by go_num, by omega, by omega, by omega, by omega, ?_, ⟨by omega, fun _ => by omega, fun h => by omega⟩⟩
      show _ = _
      rw [HT2.out]; unfold gS; rw [if_neg n46, HV.out]
    ·obtain rfl : i = 2 := by omega
     go_wp2
     go_roundg (gk - 1)
     case measure => omega
     case rel =>
      obtain ⟨z1, z2, z3⟩ := HZ.out
      have := z3 (by trivial)
      refine ⟨rfl, 2 + 1, 16 * got + (c.toNat - 97 + 10), cnt + 1, x, by go_num, rfl, by go_num, by omega, by omega, by omega, by omega, ?_, ⟨by omega, fun _ => by omega, fun h => by omega⟩⟩
      show _ = _
      rw [HT2.out]; unfold gS; rw [if_neg n46, HV.out]
  ·obtain rfl : i = N := by omega
   have hiT : i < T.size := by omega
   have hiI : (i : Int) < T.size := by omega
   have hc := HC.out hiT
   obtain ⟨c, he1, he2⟩ := HE.out
   rw [HX.out] at he1
   obtain rfl : got = G := congrArg (·.1) he1
   obtain rfl : cnt = c := congrArg (·.2) he1
   obtain ⟨z1, -, -⟩ := HY.out
   obtain rfl : x = x0 := by omega
   have h1T : i + 1 < T.size := by omega
   have h1I : (i : Int) + 1 < T.size := by omega
   have h2I : (i : Int) + 2 ≤ T.size := by omega
   have h4I : ¬ (T.size : Int) < (i : Int) + 4 := by omega
   have hs := HS.out h1T
   clear HX HY HD HT HB HE HC HS he1 he2 z1
   go_upto_region 29 with (go_at_call 8; refine (hR _).mono ?_; rintro e W8 ⟨rfl, d8⟩)
   have b8 := bW.trans (d8.mono bW.size)
   have v8 := keepb d8 vW
   have l8 : VB < W8.heap.size := World.block_lt_of_cell? _ _ v8.1
   obtain ⟨W9, hW9⟩ : ∃ W9, W9 = W8.alloc (.cells #[.string S1, .int .i64 QN] 31) := ⟨_, rfl⟩
   have b9 : Below w.heap.size w W9 := by rw [hW9]; exact b8.alloc b8.size _
   have v9 : BoxDe W9 VB (.string SV) (.int .i64 PV) := by rw [hW9]; exact keepb ((Below.refl _ _).alloc (Nat.le_refl _) _) v8
   have g9 : BoxDe W9 W8.heap.size (.string S1) (.int .i64 QN) := by rw [hW9]; simp [BoxDe, go_sem]
   rw [← hW9]
   clear hW9 d8 bW vW v8 b8 hR
   obtain ⟨H, hH⟩ : ∃ H, W8.heap.size = H := ⟨_, rfl⟩
   rw [hH] at l8 g9
   simp only [hH]
   clear hH
   obtain ⟨y0c, y1c, y2c, y3c⟩ := id g9
   go_loopg [23, 24] QN (fun g pv jv wr => W9 = wr ∧ ∃ j : Nat, pv = .int .i64 (pw j : Nat) ∧ jv = .int .i64 j ∧ j + g = QN)
   case atStart => exact ⟨rfl, 0, by rw [hp0]; rfl, rfl, by omega⟩
   case round =>
    obtain ⟨hWr, j, rfl, rfl, hjg⟩ := hrel
    subst hWr
    by_cases hj : j < QN
    ·have hjI : (j : Int) < QN := by omega
     obtain ⟨q0, q1⟩ := HPw.out j hj
     have HP2 : Hid (pw (j + 1) = pw (j + 1)) := rfl
     generalize hq1 : pw (j + 1) = pj at *
     generalize pw j = pi at *
     have HQ : Hid (pw (j + 1) = pj) := hq1
     clear hq1 HP2 HPw hX1 hs hL
     rcases q1 with ⟨h, c0, c1, q2⟩ | ⟨h, q2⟩
     ·have hI : (j : Int) < S1.size := by omega
      have cb : (S1[j]'h).toNat < 256 := (S1[j]'h).toNat_lt
      have HQ2 : Hid (pj = 10 * pi + ((S1[j]'h).toNat - 48)) := q2
      clear q2
      generalize hc : (S1[j]'h) = c at *
      have c0I : (48 : Int) ≤ c.toNat := by omega
      have c1I : (c.toNat : Int) ≤ 57 := by omega
      go_wp2
      go_roundg (gk - 1)
      case measure => omega
      case rel => exact ⟨rfl, j + 1, by rw [HQ.out, HQ2.out]; go_num, by go_num, by omega⟩
     ·have hI : ¬ (j : Int) < S1.size := by omega
      have HQ2 : Hid (pj = 10 * pi) := q2
      clear q2
      go_wp2
      go_roundg (gk - 1)
      case measure => omega
      case rel => exact ⟨rfl, j + 1, by rw [HQ.out, HQ2.out]; go_num, by go_num, by omega⟩
    ·have hjI : ¬ (j : Int) < QN := by omega
     obtain rfl : j = QN := by omega
     generalize pw j = pM at *
     clear HPw
     obtain ⟨x0c, x1c, x2c, x3c⟩ := id v9
     rcases hs with ⟨hs, rfl⟩ | ⟨hs, rfl⟩
     all_goals
      have hXa := hX1 _ rfl
      clear hX1
      go_upto_region 37 with (go_at_call 18; (with_reducible refine (hXa _).mono ?_); rintro x W10 ⟨rfl, d10⟩)
      have b10 := b9.trans (d10.mono b9.size)
      have v10 := keepb d10 v9
      have l10 : VB < W10.heap.size := World.block_lt_of_cell? _ _ v10.1
      obtain ⟨W11, hW11⟩ : ∃ W11, W11 = W10.alloc (.cells #[.string SV, .int .i64 PV] 31) := ⟨_, rfl⟩
      have b11 : Below w.heap.size w W11 := by rw [hW11]; exact b10.alloc b10.size _
      have v11 : BoxDe W11 VB (.string SV) (.int .i64 PV) := by rw [hW11]; exact keepb ((Below.refl _ _).alloc (Nat.le_refl _) _) v10
      have g11 : BoxDe W11 W10.heap.size (.string SV) (.int .i64 PV) := by rw [hW11]; simp [BoxDe, go_sem]
      rw [← hW11]
      clear hW11 d10 b9 b10 v10 v9 g9 x0c x1c x2c x3c y0c y1c y2c y3c
      generalize W10.heap.size = E at *
      obtain ⟨x0c, x1c, x2c, x3c⟩ := id v11
      obtain ⟨y0c, y1c, y2c, y3c⟩ := id g11
      have hl := hL _ (he.below b11) (hk.up b11)
      go_wp2_with (go_at_call 13; refine hl.mono ?_; rintro x w17 ⟨rfl, b17⟩)
      go_ret
      exact ⟨rfl, b11.trans (b17.mono b11.size)⟩
end Go.Proofs.YtiagjheifblkiaaGreatDoor
