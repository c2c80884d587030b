/- TopTexts: a text by s is itself, by q it is read back, by x its digits are its bytes. -/
import Derived.Test.YtjalgdfnehgocaaGreatDoorPt38
namespace Go.Proofs.YtjalgdfnehgocaaGreatDoor
open Go.RowKit
set_option linter.unusedVariables false
set_option linter.unusedSimpArgs false
set_option maxRecDepth 1000000 in
set_option maxHeartbeats 8000000 in
theorem topTexts_walk (s : ByteArray) (_hs : s.size ≤ maxLen) (w : World) (hk : KN w) (he : Esc w) : Calls Tryz.prog 7 #[.string s] w fun e w' => e = .returned (.bool true) ∧ Below w.heap.size w w' := by
 obtain ⟨u, hu, hC⟩ := tcut_any s 900 (by decide)
 have hx := fun W => ttext_any u W
 have hPq := pr_q u hu
 have hPp := pr_qp u hu
 have hPx := pr_x u hu
 have hPs := pr_s u hu
 have hPv := pr_v u hu
 have hPg := pr_vs u hu
 have hPb := pr_bx u hu
 have hU0 := fun W hE => unquote_yes u false W hE (by have := quoS_size4 u false; omega)
 have hU1 := fun W hE => unquote_yes u true W hE (by have := quoS_size4 u true; omega)
 have hXs := hexS_size u
 have hXa := hexS_at u
 have hL := fun W h1 h2 => tlives_any W h1 h2
 generalize quoS u false = Q0 at *
 generalize quoS u true = Q1 at *
 generalize hexS u false false false (-1) = X at *
 unfold PrOf at hPq hPp hPx hPs hPv hPg hPb
 have huI : (u.size : Int) ≤ 900 := by omega
 have HXs : Hid (X.size = 2 * u.size) := hXs
 have HXa : Hid (∀ (i : Nat) (h : i < u.size), X.extract (2 * i) (2 * i + 2) = lenS (digT false 16 (u[i]'h).toNat) 2) := hXa
 clear _hs hXs hXa
 go_enter Tryz.func7, Tryz.ntmps7
 go_upto_region 2 with (go_at_call 9; refine (hC _).mono ?_; rintro e w0 ⟨rfl, q0⟩; subst w0)
 go_upto_region 3 with (go_at_call 15; refine (hx _).mono ?_; rintro e W1 ⟨rfl, b1⟩)
 obtain ⟨W2, hW2⟩ : ∃ W2, W2 = W1.alloc (.cells #[.int .i64 16, .string ⟨#[]⟩, .int .u64 0, .int .u64 0, .string u, .slice none 0 0, .slice none 0 0, .int .i64 0] 30) := ⟨_, rfl⟩
 have y2 : D8 W2 W1.heap.size 16 u := by rw [hW2]; exact D8.new W1 16 u
 have b2 : Below w.heap.size w W2 := by rw [hW2]; exact b1.alloc b1.size _
 rw [← hW2]
 clear hW2 hx hC
 obtain ⟨D, hD⟩ : ∃ D, W1.heap.size = D := ⟨_, rfl⟩
 rw [hD] at y2
 simp only [hD]
 clear hD b1
 obtain ⟨d30, d31, d32, d33, d34, d35, d36, d37⟩ := id y2
 obtain ⟨A3, hA3⟩ : ∃ A3, A3 = W2.alloc (.cells #[.int .i64 16, .string ⟨#[]⟩, .int .u64 0, .int .u64 0, .string u, .slice none 0 0, .slice none 0 0, .int .i64 0] 30) := ⟨_, rfl⟩
 have r3 : D8 A3 W2.heap.size 16 u := by rw [hA3]; exact D8.new W2 16 u
 have a3 : Below w.heap.size w A3 := by rw [hA3]; exact b2.alloc b2.size _
 have ya3 : D8 A3 D 16 u := by rw [hA3]; exact y2.up ((Below.refl _ _).alloc (Nat.le_refl _) _)
 have c3 := hPq A3 _ (he.below a3) (hk.up a3) r3
 go_upto_region 4 with (first | (go_at_call 11; rw [← hA3]; clear hA3; refine c3.mono ?_; rintro e P3 ⟨rfl, p3⟩; have q3 := hU0 P3 ((he.below a3).below p3)) | (go_at_call 18; refine q3.mono ?_; rintro e U3 ⟨rfl, u3⟩))
 have bU3 : Below w.heap.size w U3 := (a3.trans (p3.mono a3.size)).trans (u3.mono (a3.trans (p3.mono a3.size)).size)
 have yU3 : D8 U3 D 16 u := (ya3.up p3).up u3
 clear r3 c3 q3 ya3 a3 p3 u3 d30 d31 d32 d33 d34 d35 d36 d37 y2 b2
 obtain ⟨d40, d41, d42, d43, d44, d45, d46, d47⟩ := id yU3
 obtain ⟨A4, hA4⟩ : ∃ A4, A4 = U3.alloc (.cells #[.int .i64 16, .string ⟨#[]⟩, .int .u64 0, .int .u64 0, .string u, .slice none 0 0, .slice none 0 0, .int .i64 0] 30) := ⟨_, rfl⟩
 have r4 : D8 A4 U3.heap.size 16 u := by rw [hA4]; exact D8.new U3 16 u
 have a4 : Below w.heap.size w A4 := by rw [hA4]; exact bU3.alloc bU3.size _
 have ya4 : D8 A4 D 16 u := by rw [hA4]; exact yU3.up ((Below.refl _ _).alloc (Nat.le_refl _) _)
 have c4 := hPp A4 _ (he.below a4) (hk.up a4) r4
 go_upto_region 5 with (first | (go_at_call 11; rw [← hA4]; clear hA4; refine c4.mono ?_; rintro e P4 ⟨rfl, p4⟩; have q4 := hU1 P4 ((he.below a4).below p4)) | (go_at_call 18; refine q4.mono ?_; rintro e U4 ⟨rfl, u4⟩))
 have bU4 : Below w.heap.size w U4 := (a4.trans (p4.mono a4.size)).trans (u4.mono (a4.trans (p4.mono a4.size)).size)
 have yU4 : D8 U4 D 16 u := (ya4.up p4).up u4
 clear r4 c4 q4 ya4 a4 p4 u4 d40 d41 d42 d43 d44 d45 d46 d47 yU3 bU3
 obtain ⟨d50, d51, d52, d53, d54, d55, d56, d57⟩ := id yU4
 obtain ⟨A5, hA5⟩ : ∃ A5, A5 = U4.alloc (.cells #[.int .i64 16, .string ⟨#[]⟩, .int .u64 0, .int .u64 0, .string u, .slice none 0 0, .slice none 0 0, .int .i64 0] 30) := ⟨_, rfl⟩
 have r5 : D8 A5 U4.heap.size 16 u := by rw [hA5]; exact D8.new U4 16 u
 have a5 : Below w.heap.size w A5 := by rw [hA5]; exact bU4.alloc bU4.size _
 have ya5 : D8 A5 D 16 u := by rw [hA5]; exact yU4.up ((Below.refl _ _).alloc (Nat.le_refl _) _)
 have c5 := hPx A5 _ (he.below a5) (hk.up a5) r5
 go_upto_region 6 with (go_at_call 11; rw [← hA5]; clear hA5; refine c5.mono ?_; rintro e P5 ⟨rfl, p5⟩)
 have bP5 : Below w.heap.size w P5 := a5.trans (p5.mono a5.size)
 have yP5 : D8 P5 D 16 u := ya5.up p5
 clear r5 c5 ya5 a5 p5 d50 d51 d52 d53 d54 d55 d56 d57 yU4 bU4
 clear hPp hPx hU0 hU1
 go_wp2
 go_loopg [9] u.size (fun gg z wr => ∃ i : Nat, z = .int .i64 i ∧ i + gg = u.size ∧ Below w.heap.size w wr ∧ D8 wr D 16 u)
 case atStart => exact ⟨0, rfl, by omega, bP5, yP5⟩
 case round =>
  obtain ⟨i, rfl, hig, bR, yR⟩ := hrel
  clear bP5 yP5
  by_cases hi : i < u.size
  ·have hiI : (i : Int) < u.size := by omega
   have hb := (u[i]'hi).toNat_lt
   have hne : ((X.size : Int) != 2 * (u.size : Int)) = false := by have := HXs.out; simp; omega
   have hXI : 2 * (i : Int) + 2 ≤ X.size := by have := HXs.out; omega
   have hdg := fun W => edigits_16 (u[i]'hi).toNat W (by omega)
   have hzs := fun W => ezeros_any (digT false 16 (u[i]'hi).toNat) 2 W (by have := (digT_size false 16 (u[i]'hi).toNat).1; omega) (by decide)
   have hxa := HXa.out i hi
   go_wp2
   go_quiet ((first | (go_at_call 20; exact Calls.quiet_of_same (hdg _)) | (go_at_call 19; exact Calls.quiet_of_same (hzs _))))
   all_goals go_wp2
   all_goals go_roundg (gk - 1)
   all_goals first | (case measure => omega) | skip
   all_goals exact ⟨i + 1, by go_num, by omega, below_drewN bR _, yR.up (below_drewN (Below.refl _ _) _)⟩
  ·have hiI : ¬ (i : Int) < u.size := by omega
   clear HXs HXa
   go_upto_region 11 with fail
   obtain ⟨Y, hY⟩ : ∃ Y, Y = wr.drew := ⟨_, rfl⟩
   have bY : Below w.heap.size w Y := by rw [hY]; exact bR.drew
   have yY : D8 Y D 16 u := by rw [hY]; exact yR.up (Below.refl _ _).drew
   refine wp_region_held_drew (S := fun w' : World => D8 w' D 16 u) (by kernel_rfl) yR ?_
   rw [← hY]
   clear hY
   intro hS
   clear hS
   refine tk 0 (.bool true) rfl (by kernel_rfl) (fun _ _ _ h => h) (by rfl) (by assumption) ?_ ?_
   ·intro w5 s0
    go_simp
   try simp only [Act.put, List.getElem_toArray, List.getElem_cons_zero, List.getElem_cons_succ, List.setIfInBounds_toArray, List.set_cons_zero, List.set_cons_succ, List.length_cons]
   refine tk 1 (.bool true) rfl (by kernel_rfl) (fun _ _ _ h => h) (by rfl) (by assumption) ?_ ?_
   ·intro w5 s0
    go_simp
   try simp only [Act.put, List.getElem_toArray, List.getElem_cons_zero, List.getElem_cons_succ, List.setIfInBounds_toArray, List.set_cons_zero, List.set_cons_succ, List.length_cons]
   refine tk 2 (.bool true) rfl (by kernel_rfl) (fun _ _ _ h => h) (by rfl) (by assumption) ?_ ?_
   ·intro w5 s0
    go_simp
   try simp only [Act.put, List.getElem_toArray, List.getElem_cons_zero, List.getElem_cons_succ, List.setIfInBounds_toArray, List.set_cons_zero, List.set_cons_succ, List.length_cons]
   refine tk 3 (.bool true) rfl (by kernel_rfl) (fun _ _ _ h => h) (by rfl) (by assumption) ?_ ?_
   ·intro w5 s0
    go_simp
   try simp only [Act.put, List.getElem_toArray, List.getElem_cons_zero, List.getElem_cons_succ, List.setIfInBounds_toArray, List.set_cons_zero, List.set_cons_succ, List.length_cons]
   refine tk 4 (.bool true) rfl (by kernel_rfl) (fun _ _ _ h => h) (by rfl) (by assumption) ?_ ?_
   ·intro w5 s0
    go_simp
   try simp only [Act.put, List.getElem_toArray, List.getElem_cons_zero, List.getElem_cons_succ, List.setIfInBounds_toArray, List.set_cons_zero, List.set_cons_succ, List.length_cons]
   refine tk 5 (.string u) rfl (by kernel_rfl) (fun _ _ _ h => h) (by rfl) (by assumption) ?_ ?_
   ·intro w5 s0
    go_simp
   try simp only [Act.put, List.getElem_toArray, List.getElem_cons_zero, List.getElem_cons_succ, List.setIfInBounds_toArray, List.set_cons_zero, List.set_cons_succ, List.length_cons]
   refine tk 6 (.string u) rfl (by kernel_rfl) (fun _ _ _ h => h) (by rfl) (by assumption) ?_ ?_
   ·intro w5 s0
    go_simp
   try simp only [Act.put, List.getElem_toArray, List.getElem_cons_zero, List.getElem_cons_succ, List.setIfInBounds_toArray, List.set_cons_zero, List.set_cons_succ, List.length_cons]
   refine tk 7 (.bool true) rfl (by kernel_rfl) (fun _ _ _ h => h) (by rfl) (by assumption) ?_ ?_
   ·intro w5 s0
    go_simp
   try simp only [Act.put, List.getElem_toArray, List.getElem_cons_zero, List.getElem_cons_succ, List.setIfInBounds_toArray, List.set_cons_zero, List.set_cons_succ, List.length_cons]
   refine tk 8 (.bool true) rfl (by kernel_rfl) (fun _ _ _ h => h) (by rfl) (by assumption) ?_ ?_
   ·intro w5 s0
    go_simp
   try simp only [Act.put, List.getElem_toArray, List.getElem_cons_zero, List.getElem_cons_succ, List.setIfInBounds_toArray, List.set_cons_zero, List.set_cons_succ, List.length_cons]
   refine tk 9 (.bool true) rfl (by kernel_rfl) (fun _ _ _ h => h) (by rfl) (by assumption) ?_ ?_
   ·intro w5 s0
    go_simp
   try simp only [Act.put, List.getElem_toArray, List.getElem_cons_zero, List.getElem_cons_succ, List.setIfInBounds_toArray, List.set_cons_zero, List.set_cons_succ, List.length_cons]
   refine tk 10 (.string u) rfl (by kernel_rfl) (fun _ _ _ h => h) (by rfl) (by assumption) ?_ ?_
   ·intro w5 s0
    go_simp
   try simp only [Act.put, List.getElem_toArray, List.getElem_cons_zero, List.getElem_cons_succ, List.setIfInBounds_toArray, List.set_cons_zero, List.set_cons_succ, List.length_cons]
   refine tk 11 (.string u) rfl (by kernel_rfl) (fun _ _ _ h => h) (by rfl) (by assumption) ?_ ?_
   ·intro w5 s0
    go_simp
   try simp only [Act.put, List.getElem_toArray, List.getElem_cons_zero, List.getElem_cons_succ, List.setIfInBounds_toArray, List.set_cons_zero, List.set_cons_succ, List.length_cons]
   refine tk 12 (.bool true) rfl (by kernel_rfl) (fun _ _ _ h => h) (by rfl) (by assumption) ?_ ?_
   ·intro w5 s0
    go_simp
   try simp only [Act.put, List.getElem_toArray, List.getElem_cons_zero, List.getElem_cons_succ, List.setIfInBounds_toArray, List.set_cons_zero, List.set_cons_succ, List.length_cons]
   refine tk 13 (.bool true) rfl (by kernel_rfl) (fun _ _ _ h => h) (by rfl) (by assumption) ?_ ?_
   ·intro w5 s0
    go_simp
   try simp only [Act.put, List.getElem_toArray, List.getElem_cons_zero, List.getElem_cons_succ, List.setIfInBounds_toArray, List.set_cons_zero, List.set_cons_succ, List.length_cons]
   refine tk 14 (.bool true) rfl (by kernel_rfl) (fun _ _ _ h => h) (by rfl) (by assumption) ?_ ?_
   ·intro w5 s0
    go_simp
   try simp only [Act.put, List.getElem_toArray, List.getElem_cons_zero, List.getElem_cons_succ, List.setIfInBounds_toArray, List.set_cons_zero, List.set_cons_succ, List.length_cons]
   refine tk 15 (.agg #[.int .i64 16, .string ⟨#[]⟩, .int .u64 0, .int .u64 0, .string u, .slice none 0 0, .slice none 0 0, .int .i64 0]) rfl (by kernel_rfl) (fun _ _ _ h => h) (by rfl) (by assumption) ?_ ?_
   ·intro w5 s0
    obtain ⟨s1, s2, s3, s4, s5, s6, s7, s8⟩ := s0
    go_simp
   try simp only [Act.put, List.getElem_toArray, List.getElem_cons_zero, List.getElem_cons_succ, List.setIfInBounds_toArray, List.set_cons_zero, List.set_cons_succ, List.length_cons]
   refine tk 18 (.string u) rfl (by kernel_rfl) (fun _ _ _ h => h) (by rfl) (by assumption) ?_ ?_
   ·intro w5 s0
    go_simp
   try simp only [Act.put, List.getElem_toArray, List.getElem_cons_zero, List.getElem_cons_succ, List.setIfInBounds_toArray, List.set_cons_zero, List.set_cons_succ, List.length_cons]
   refine rd1 16 (by kernel_rfl) rfl fun K hK => ?_
   go_simp
   obtain ⟨A16, h16⟩ : ∃ A, A = Y.alloc (.cells #[.int .i64 16, .string ⟨#[]⟩, .int .u64 0, .int .u64 0, .string u, .slice none 0 0, .slice none 0 0, .int .i64 0] 30) := ⟨_, rfl⟩
   have r16 : D8 A16 Y.heap.size 16 u := by rw [h16]; exact D8.new Y 16 u
   have bA16 : Below w.heap.size w A16 := by rw [h16]; exact bY.alloc bY.size _
   have kA16 : Below Y.heap.size Y A16 := by rw [h16]; exact (Below.refl _ _).alloc (Nat.le_refl _) _
   have yA16 : D8 A16 D 16 u := yY.up kA16
   rw [← h16]
   clear h16
   refine hK.out _ _ yA16 (fun _ => ?_)
   clear hK
   try simp only [Act.put, List.getElem_toArray, List.getElem_cons_zero, List.getElem_cons_succ, List.setIfInBounds_toArray, List.set_cons_zero, List.set_cons_succ, List.length_cons]
   refine rd1 17 (by kernel_rfl) rfl fun K hK => ?_
   go_simp
   refine (hPs A16 _ (he.below bA16) (hk.up bA16) r16).mono ?_
   rintro e P17 ⟨rfl, kP17⟩
   have bP17 : Below w.heap.size w P17 := bA16.trans (kP17.mono bA16.size)
   have yP17 : D8 P17 D 16 u := yA16.up kP17
   refine hK.out _ _ yP17 (fun _ => ?_)
   clear hK
   try simp only [Act.put, List.getElem_toArray, List.getElem_cons_zero, List.getElem_cons_succ, List.setIfInBounds_toArray, List.set_cons_zero, List.set_cons_succ, List.length_cons]
   refine tk 19 (.bool true) rfl (by kernel_rfl) (fun _ _ _ h => h) (by rfl) (by assumption) ?_ ?_
   ·intro w5 s0
    go_simp
   try simp only [Act.put, List.getElem_toArray, List.getElem_cons_zero, List.getElem_cons_succ, List.setIfInBounds_toArray, List.set_cons_zero, List.set_cons_succ, List.length_cons]
   refine tk 20 (.bool true) rfl (by kernel_rfl) (fun _ _ _ h => h) (by rfl) (by assumption) ?_ ?_
   ·intro w5 s0
    go_simp
   try simp only [Act.put, List.getElem_toArray, List.getElem_cons_zero, List.getElem_cons_succ, List.setIfInBounds_toArray, List.set_cons_zero, List.set_cons_succ, List.length_cons]
   refine tk 21 (.bool true) rfl (by kernel_rfl) (fun _ _ _ h => h) (by rfl) (by assumption) ?_ ?_
   ·intro w5 s0
    go_simp
   try simp only [Act.put, List.getElem_toArray, List.getElem_cons_zero, List.getElem_cons_succ, List.setIfInBounds_toArray, List.set_cons_zero, List.set_cons_succ, List.length_cons]
   refine tk 22 (.agg #[.int .i64 16, .string ⟨#[]⟩, .int .u64 0, .int .u64 0, .string u, .slice none 0 0, .slice none 0 0, .int .i64 0]) rfl (by kernel_rfl) (fun _ _ _ h => h) (by rfl) (by assumption) ?_ ?_
   ·intro w5 s0
    obtain ⟨s1, s2, s3, s4, s5, s6, s7, s8⟩ := s0
    go_simp
   try simp only [Act.put, List.getElem_toArray, List.getElem_cons_zero, List.getElem_cons_succ, List.setIfInBounds_toArray, List.set_cons_zero, List.set_cons_succ, List.length_cons]
   refine tk 25 (.string u) rfl (by kernel_rfl) (fun _ _ _ h => h) (by rfl) (by assumption) ?_ ?_
   ·intro w5 s0
    go_simp
   try simp only [Act.put, List.getElem_toArray, List.getElem_cons_zero, List.getElem_cons_succ, List.setIfInBounds_toArray, List.set_cons_zero, List.set_cons_succ, List.length_cons]
   refine rd1 23 (by kernel_rfl) rfl fun K hK => ?_
   go_simp
   obtain ⟨A23, h23⟩ : ∃ A, A = P17.alloc (.cells #[.int .i64 16, .string ⟨#[]⟩, .int .u64 0, .int .u64 0, .string u, .slice none 0 0, .slice none 0 0, .int .i64 0] 30) := ⟨_, rfl⟩
   have r23 : D8 A23 P17.heap.size 16 u := by rw [h23]; exact D8.new P17 16 u
   have bA23 : Below w.heap.size w A23 := by rw [h23]; exact bP17.alloc bP17.size _
   have kA23 : Below P17.heap.size P17 A23 := by rw [h23]; exact (Below.refl _ _).alloc (Nat.le_refl _) _
   have yA23 : D8 A23 D 16 u := yP17.up kA23
   rw [← h23]
   clear h23
   refine hK.out _ _ yA23 (fun _ => ?_)
   clear hK
   try simp only [Act.put, List.getElem_toArray, List.getElem_cons_zero, List.getElem_cons_succ, List.setIfInBounds_toArray, List.set_cons_zero, List.set_cons_succ, List.length_cons]
   refine rd1 24 (by kernel_rfl) rfl fun K hK => ?_
   go_simp
   refine (hPv A23 _ (he.below bA23) (hk.up bA23) r23).mono ?_
   rintro e P24 ⟨rfl, kP24⟩
   have bP24 : Below w.heap.size w P24 := bA23.trans (kP24.mono bA23.size)
   have yP24 : D8 P24 D 16 u := yA23.up kP24
   refine hK.out _ _ yP24 (fun _ => ?_)
   clear hK
   try simp only [Act.put, List.getElem_toArray, List.getElem_cons_zero, List.getElem_cons_succ, List.setIfInBounds_toArray, List.set_cons_zero, List.set_cons_succ, List.length_cons]
   refine tk 26 (.bool true) rfl (by kernel_rfl) (fun _ _ _ h => h) (by rfl) (by assumption) ?_ ?_
   ·intro w5 s0
    go_simp
   try simp only [Act.put, List.getElem_toArray, List.getElem_cons_zero, List.getElem_cons_succ, List.setIfInBounds_toArray, List.set_cons_zero, List.set_cons_succ, List.length_cons]
   refine tk 27 (.bool true) rfl (by kernel_rfl) (fun _ _ _ h => h) (by rfl) (by assumption) ?_ ?_
   ·intro w5 s0
    go_simp
   try simp only [Act.put, List.getElem_toArray, List.getElem_cons_zero, List.getElem_cons_succ, List.setIfInBounds_toArray, List.set_cons_zero, List.set_cons_succ, List.length_cons]
   refine tk 28 (.bool true) rfl (by kernel_rfl) (fun _ _ _ h => h) (by rfl) (by assumption) ?_ ?_
   ·intro w5 s0
    go_simp
   try simp only [Act.put, List.getElem_toArray, List.getElem_cons_zero, List.getElem_cons_succ, List.setIfInBounds_toArray, List.set_cons_zero, List.set_cons_succ, List.length_cons]
   refine tk 29 (.agg #[.int .i64 16, .string ⟨#[]⟩, .int .u64 0, .int .u64 0, .string u, .slice none 0 0, .slice none 0 0, .int .i64 0]) rfl (by kernel_rfl) (fun _ _ _ h => h) (by rfl) (by assumption) ?_ ?_
   ·intro w5 s0
    obtain ⟨s1, s2, s3, s4, s5, s6, s7, s8⟩ := s0
    go_simp
   try simp only [Act.put, List.getElem_toArray, List.getElem_cons_zero, List.getElem_cons_succ, List.setIfInBounds_toArray, List.set_cons_zero, List.set_cons_succ, List.length_cons]
   refine tk 32 (.agg #[.int .i64 16, .string ⟨#[]⟩, .int .u64 0, .int .u64 0, .string u, .slice none 0 0, .slice none 0 0, .int .i64 0]) rfl (by kernel_rfl) (fun _ _ _ h => h) (by rfl) (by assumption) ?_ ?_
   ·intro w5 s0
    obtain ⟨s1, s2, s3, s4, s5, s6, s7, s8⟩ := s0
    go_simp
   try simp only [Act.put, List.getElem_toArray, List.getElem_cons_zero, List.getElem_cons_succ, List.setIfInBounds_toArray, List.set_cons_zero, List.set_cons_succ, List.length_cons]
   refine wpAnyH_ready (rs := [30, 33]) (by kernel_rfl) (by simp) ?_
   refine AllReadyH.cons rfl (fun K hK => ?_) (AllReadyH.cons rfl (fun K hK => ?_) AllReadyH.nil)
   ·go_simp
    obtain ⟨A30, h30⟩ : ∃ A, A = P24.alloc (.cells #[.int .i64 16, .string ⟨#[]⟩, .int .u64 0, .int .u64 0, .string u, .slice none 0 0, .slice none 0 0, .int .i64 0] 30) := ⟨_, rfl⟩
    have r30 : D8 A30 P24.heap.size 16 u := by rw [h30]; exact D8.new P24 16 u
    have bA30 : Below w.heap.size w A30 := by rw [h30]; exact bP24.alloc bP24.size _
    have kA30 : Below P24.heap.size P24 A30 := by rw [h30]; exact (Below.refl _ _).alloc (Nat.le_refl _) _
    have yA30 : D8 A30 D 16 u := yP24.up kA30
    rw [← h30]
    clear h30
    refine hK.out _ _ yA30 (fun _ => ?_)
    clear hK
    try simp only [Act.put, List.getElem_toArray, List.getElem_cons_zero, List.getElem_cons_succ, List.setIfInBounds_toArray, List.set_cons_zero, List.set_cons_succ, List.length_cons]
    refine wpAnyH_ready (rs := [31, 33]) (by kernel_rfl) (by simp) ?_
    refine AllReadyH.cons rfl (fun K hK => ?_) (AllReadyH.cons rfl (fun K hK => ?_) AllReadyH.nil)
    ·go_simp
     refine (hPg A30 _ (he.below bA30) (hk.up bA30) r30).mono ?_
     rintro e P31 ⟨rfl, kP31⟩
     have bP31 : Below w.heap.size w P31 := bA30.trans (kP31.mono bA30.size)
     have yP31 : D8 P31 D 16 u := yA30.up kP31
     refine hK.out _ _ yP31 (fun _ => ?_)
     clear hK
     try simp only [Act.put, List.getElem_toArray, List.getElem_cons_zero, List.getElem_cons_succ, List.setIfInBounds_toArray, List.set_cons_zero, List.set_cons_succ, List.length_cons]
     refine rd1 33 (by kernel_rfl) rfl fun K hK => ?_
     go_simp
     obtain ⟨A33, h33⟩ : ∃ A, A = P31.alloc (.cells #[.int .i64 16, .string ⟨#[]⟩, .int .u64 0, .int .u64 0, .string u, .slice none 0 0, .slice none 0 0, .int .i64 0] 30) := ⟨_, rfl⟩
     have r33 : D8 A33 P31.heap.size 16 u := by rw [h33]; exact D8.new P31 16 u
     have bA33 : Below w.heap.size w A33 := by rw [h33]; exact bP31.alloc bP31.size _
     have kA33 : Below P31.heap.size P31 A33 := by rw [h33]; exact (Below.refl _ _).alloc (Nat.le_refl _) _
     have yA33 : D8 A33 D 16 u := yP31.up kA33
     rw [← h33]
     clear h33
     refine hK.out _ _ yA33 (fun _ => ?_)
     clear hK
     try simp only [Act.put, List.getElem_toArray, List.getElem_cons_zero, List.getElem_cons_succ, List.setIfInBounds_toArray, List.set_cons_zero, List.set_cons_succ, List.length_cons]
     refine rd1 34 (by kernel_rfl) rfl fun K hK => ?_
     go_simp
     refine (hPq A33 _ (he.below bA33) (hk.up bA33) r33).mono ?_
     rintro e P34 ⟨rfl, kP34⟩
     have bP34 : Below w.heap.size w P34 := bA33.trans (kP34.mono bA33.size)
     have yP34 : D8 P34 D 16 u := yA33.up kP34
     refine hK.out _ _ yP34 (fun _ => ?_)
     clear hK
     try simp only [Act.put, List.getElem_toArray, List.getElem_cons_zero, List.getElem_cons_succ, List.setIfInBounds_toArray, List.set_cons_zero, List.set_cons_succ, List.length_cons]
     obtain ⟨Z, hZ⟩ : ∃ Z, Z = P34 := ⟨_, rfl⟩
     have bZ : Below w.heap.size w Z := by rw [hZ]; exact bP34
     have yZ : D8 Z D 16 u := by rw [hZ]; exact yP34
     rw [← hZ]
     clear hZ
     refine tk 35 (.bool true) rfl (by kernel_rfl) (fun _ _ _ h => h) (by rfl) (by assumption) ?_ ?_
     ·intro w5 s0
      go_simp
     try simp only [Act.put, List.getElem_toArray, List.getElem_cons_zero, List.getElem_cons_succ, List.setIfInBounds_toArray, List.set_cons_zero, List.set_cons_succ, List.length_cons]
     refine tk 36 (.bool true) rfl (by kernel_rfl) (fun _ _ _ h => h) (by rfl) (by assumption) ?_ ?_
     ·intro w5 s0
      go_simp
     try simp only [Act.put, List.getElem_toArray, List.getElem_cons_zero, List.getElem_cons_succ, List.setIfInBounds_toArray, List.set_cons_zero, List.set_cons_succ, List.length_cons]
     refine tk 37 (.bool true) rfl (by kernel_rfl) (fun _ _ _ h => h) (by rfl) (by assumption) ?_ ?_
     ·intro w5 s0
      go_simp
     try simp only [Act.put, List.getElem_toArray, List.getElem_cons_zero, List.getElem_cons_succ, List.setIfInBounds_toArray, List.set_cons_zero, List.set_cons_succ, List.length_cons]
     refine tk 38 (.string u) rfl (by kernel_rfl) (fun _ _ _ h => h) (by rfl) (by assumption) ?_ ?_
     ·intro w5 s0
      go_simp
     try simp only [Act.put, List.getElem_toArray, List.getElem_cons_zero, List.getElem_cons_succ, List.setIfInBounds_toArray, List.set_cons_zero, List.set_cons_succ, List.length_cons]
     refine tk 39 (.agg #[.int .i64 17, .string ⟨#[]⟩, .int .u64 0, .int .u64 0, .string u, .slice none 0 0, .slice none 0 0, .int .i64 0]) rfl (by kernel_rfl) (fun _ _ _ h => h) (by rfl) (by assumption) ?_ ?_
     ·intro w5 s0
      go_simp
     try simp only [Act.put, List.getElem_toArray, List.getElem_cons_zero, List.getElem_cons_succ, List.setIfInBounds_toArray, List.set_cons_zero, List.set_cons_succ, List.length_cons]
     refine tk 42 (.string X) rfl (by kernel_rfl) (fun _ _ _ h => h) (by rfl) (by assumption) ?_ ?_
     ·intro w5 s0
      go_simp
     try simp only [Act.put, List.getElem_toArray, List.getElem_cons_zero, List.getElem_cons_succ, List.setIfInBounds_toArray, List.set_cons_zero, List.set_cons_succ, List.length_cons]
     refine rd1 40 (by kernel_rfl) rfl fun K hK => ?_
     go_simp
     obtain ⟨A40, h40⟩ : ∃ A, A = Z.alloc (.cells #[.int .i64 17, .string ⟨#[]⟩, .int .u64 0, .int .u64 0, .string u, .slice none 0 0, .slice none 0 0, .int .i64 0] 30) := ⟨_, rfl⟩
     have r40 : D8 A40 Z.heap.size 17 u := by rw [h40]; exact D8.new Z 17 u
     have bA40 : Below w.heap.size w A40 := by rw [h40]; exact bZ.alloc bZ.size _
     have kA40 : Below Z.heap.size Z A40 := by rw [h40]; exact (Below.refl _ _).alloc (Nat.le_refl _) _
     have yA40 : D8 A40 D 16 u := yZ.up kA40
     rw [← h40]
     clear h40
     refine hK.out _ _ yA40 (fun _ => ?_)
     clear hK
     try simp only [Act.put, List.getElem_toArray, List.getElem_cons_zero, List.getElem_cons_succ, List.setIfInBounds_toArray, List.set_cons_zero, List.set_cons_succ, List.length_cons]
     refine rd1 41 (by kernel_rfl) rfl fun K hK => ?_
     go_simp
     refine (hPb A40 _ (he.below bA40) (hk.up bA40) r40).mono ?_
     rintro e P41 ⟨rfl, kP41⟩
     have bP41 : Below w.heap.size w P41 := bA40.trans (kP41.mono bA40.size)
     have yP41 : D8 P41 D 16 u := yA40.up kP41
     refine hK.out _ _ yP41 (fun _ => ?_)
     clear hK
     try simp only [Act.put, List.getElem_toArray, List.getElem_cons_zero, List.getElem_cons_succ, List.setIfInBounds_toArray, List.set_cons_zero, List.set_cons_succ, List.length_cons]
     refine tk 43 (.bool true) rfl (by kernel_rfl) (fun _ _ _ h => h) (by rfl) (by assumption) ?_ ?_
     ·intro w5 s0
      go_simp
     try simp only [Act.put, List.getElem_toArray, List.getElem_cons_zero, List.getElem_cons_succ, List.setIfInBounds_toArray, List.set_cons_zero, List.set_cons_succ, List.length_cons]
     refine tk 44 (.bool true) rfl (by kernel_rfl) (fun _ _ _ h => h) (by rfl) (by assumption) ?_ ?_
     ·intro w5 s0
      go_simp
     try simp only [Act.put, List.getElem_toArray, List.getElem_cons_zero, List.getElem_cons_succ, List.setIfInBounds_toArray, List.set_cons_zero, List.set_cons_succ, List.length_cons]
     refine tk 45 (.bool true) rfl (by kernel_rfl) (fun _ _ _ h => h) (by rfl) (by assumption) ?_ ?_
     ·intro w5 s0
      go_simp
     try simp only [Act.put, List.getElem_toArray, List.getElem_cons_zero, List.getElem_cons_succ, List.setIfInBounds_toArray, List.set_cons_zero, List.set_cons_succ, List.length_cons]
     refine rd1 46 (by kernel_rfl) rfl fun K hK => ?_
     go_simp
     refine (hL P41 (he.below bP41) (hk.up bP41)).mono ?_
     rintro e P46 ⟨rfl, kP46⟩
     have bP46 : Below w.heap.size w P46 := bP41.trans (kP46.mono bP41.size)
     have yP46 : D8 P46 D 16 u := yP41.up kP46
     refine hK.out _ _ yP46 (fun _ => ?_)
     clear hK
     try simp only [Act.put, List.getElem_toArray, List.getElem_cons_zero, List.getElem_cons_succ, List.setIfInBounds_toArray, List.set_cons_zero, List.set_cons_succ, List.length_cons]
     refine tk 47 (.bool true) rfl (by kernel_rfl) (fun _ _ _ h => h) (by rfl) (by assumption) ?_ ?_
     ·intro w5 s0
      go_simp
     try simp only [Act.put, List.getElem_toArray, List.getElem_cons_zero, List.getElem_cons_succ, List.setIfInBounds_toArray, List.set_cons_zero, List.set_cons_succ, List.length_cons]
     refine tk 48 (.bool true) rfl (by kernel_rfl) (fun _ _ _ h => h) (by rfl) (by assumption) ?_ ?_
     ·intro w5 s0
      go_simp
     try simp only [Act.put, List.getElem_toArray, List.getElem_cons_zero, List.getElem_cons_succ, List.setIfInBounds_toArray, List.set_cons_zero, List.set_cons_succ, List.length_cons]
     refine wpAnyH_done (by kernel_rfl) ?_ _
     go_wp2
     go_ret
     exact ⟨rfl, bP46⟩
    ·go_simp
     obtain ⟨A33, h33⟩ : ∃ A, A = A30.alloc (.cells #[.int .i64 16, .string ⟨#[]⟩, .int .u64 0, .int .u64 0, .string u, .slice none 0 0, .slice none 0 0, .int .i64 0] 30) := ⟨_, rfl⟩
     have r33 : D8 A33 A30.heap.size 16 u := by rw [h33]; exact D8.new A30 16 u
     have bA33 : Below w.heap.size w A33 := by rw [h33]; exact bA30.alloc bA30.size _
     have kA33 : Below A30.heap.size A30 A33 := by rw [h33]; exact (Below.refl _ _).alloc (Nat.le_refl _) _
     have yA33 : D8 A33 D 16 u := yA30.up kA33
     rw [← h33]
     clear h33
     refine hK.out _ _ yA33 (fun _ => ?_)
     clear hK
     try simp only [Act.put, List.getElem_toArray, List.getElem_cons_zero, List.getElem_cons_succ, List.setIfInBounds_toArray, List.set_cons_zero, List.set_cons_succ, List.length_cons]
     have r30' := r30.up kA33
     refine rd1 31 (by kernel_rfl) rfl fun K hK => ?_
     go_simp
     refine (hPg A33 _ (he.below bA33) (hk.up bA33) r30').mono ?_
     rintro e P31 ⟨rfl, kP31⟩
     have bP31 : Below w.heap.size w P31 := bA33.trans (kP31.mono bA33.size)
     have yP31 : D8 P31 D 16 u := yA33.up kP31
     refine hK.out _ _ yP31 (fun _ => ?_)
     clear hK
     try simp only [Act.put, List.getElem_toArray, List.getElem_cons_zero, List.getElem_cons_succ, List.setIfInBounds_toArray, List.set_cons_zero, List.set_cons_succ, List.length_cons]
     have r33' := r33.up kP31
     refine rd1 34 (by kernel_rfl) rfl fun K hK => ?_
     go_simp
     refine (hPq P31 _ (he.below bP31) (hk.up bP31) r33').mono ?_
     rintro e P34 ⟨rfl, kP34⟩
     have bP34 : Below w.heap.size w P34 := bP31.trans (kP34.mono bP31.size)
     have yP34 : D8 P34 D 16 u := yP31.up kP34
     refine hK.out _ _ yP34 (fun _ => ?_)
     clear hK
     try simp only [Act.put, List.getElem_toArray, List.getElem_cons_zero, List.getElem_cons_succ, List.setIfInBounds_toArray, List.set_cons_zero, List.set_cons_succ, List.length_cons]
     obtain ⟨Z, hZ⟩ : ∃ Z, Z = P34 := ⟨_, rfl⟩
     have bZ : Below w.heap.size w Z := by rw [hZ]; exact bP34
     have yZ : D8 Z D 16 u := by rw [hZ]; exact yP34
     rw [← hZ]
     clear hZ
     refine tk 35 (.bool true) rfl (by kernel_rfl) (fun _ _ _ h => h) (by rfl) (by assumption) ?_ ?_
     ·intro w5 s0
      go_simp
     try simp only [Act.put, List.getElem_toArray, List.getElem_cons_zero, List.getElem_cons_succ, List.setIfInBounds_toArray, List.set_cons_zero, List.set_cons_succ, List.length_cons]
     refine tk 36 (.bool true) rfl (by kernel_rfl) (fun _ _ _ h => h) (by rfl) (by assumption) ?_ ?_
     ·intro w5 s0
      go_simp
     try simp only [Act.put, List.getElem_toArray, List.getElem_cons_zero, List.getElem_cons_succ, List.setIfInBounds_toArray, List.set_cons_zero, List.set_cons_succ, List.length_cons]
     refine tk 37 (.bool true) rfl (by kernel_rfl) (fun _ _ _ h => h) (by rfl) (by assumption) ?_ ?_
     ·intro w5 s0
      go_simp
     try simp only [Act.put, List.getElem_toArray, List.getElem_cons_zero, List.getElem_cons_succ, List.setIfInBounds_toArray, List.set_cons_zero, List.set_cons_succ, List.length_cons]
     refine tk 38 (.string u) rfl (by kernel_rfl) (fun _ _ _ h => h) (by rfl) (by assumption) ?_ ?_
     ·intro w5 s0
      go_simp
     try simp only [Act.put, List.getElem_toArray, List.getElem_cons_zero, List.getElem_cons_succ, List.setIfInBounds_toArray, List.set_cons_zero, List.set_cons_succ, List.length_cons]
     refine tk 39 (.agg #[.int .i64 17, .string ⟨#[]⟩, .int .u64 0, .int .u64 0, .string u, .slice none 0 0, .slice none 0 0, .int .i64 0]) rfl (by kernel_rfl) (fun _ _ _ h => h) (by rfl) (by assumption) ?_ ?_
     ·intro w5 s0
      go_simp
     try simp only [Act.put, List.getElem_toArray, List.getElem_cons_zero, List.getElem_cons_succ, List.setIfInBounds_toArray, List.set_cons_zero, List.set_cons_succ, List.length_cons]
     refine tk 42 (.string X) rfl (by kernel_rfl) (fun _ _ _ h => h) (by rfl) (by assumption) ?_ ?_
     ·intro w5 s0
      go_simp
     try simp only [Act.put, List.getElem_toArray, List.getElem_cons_zero, List.getElem_cons_succ, List.setIfInBounds_toArray, List.set_cons_zero, List.set_cons_succ, List.length_cons]
     refine rd1 40 (by kernel_rfl) rfl fun K hK => ?_
     go_simp
     obtain ⟨A40, h40⟩ : ∃ A, A = Z.alloc (.cells #[.int .i64 17, .string ⟨#[]⟩, .int .u64 0, .int .u64 0, .string u, .slice none 0 0, .slice none 0 0, .int .i64 0] 30) := ⟨_, rfl⟩
     have r40 : D8 A40 Z.heap.size 17 u := by rw [h40]; exact D8.new Z 17 u
     have bA40 : Below w.heap.size w A40 := by rw [h40]; exact bZ.alloc bZ.size _
     have kA40 : Below Z.heap.size Z A40 := by rw [h40]; exact (Below.refl _ _).alloc (Nat.le_refl _) _
     have yA40 : D8 A40 D 16 u := yZ.up kA40
     rw [← h40]
     clear h40
     refine hK.out _ _ yA40 (fun _ => ?_)
     clear hK
     try simp only [Act.put, List.getElem_toArray, List.getElem_cons_zero, List.getElem_cons_succ, List.setIfInBounds_toArray, List.set_cons_zero, List.set_cons_succ, List.length_cons]
     refine rd1 41 (by kernel_rfl) rfl fun K hK => ?_
     go_simp
     refine (hPb A40 _ (he.below bA40) (hk.up bA40) r40).mono ?_
     rintro e P41 ⟨rfl, kP41⟩
     have bP41 : Below w.heap.size w P41 := bA40.trans (kP41.mono bA40.size)
     have yP41 : D8 P41 D 16 u := yA40.up kP41
     refine hK.out _ _ yP41 (fun _ => ?_)
     clear hK
     try simp only [Act.put, List.getElem_toArray, List.getElem_cons_zero, List.getElem_cons_succ, List.setIfInBounds_toArray, List.set_cons_zero, List.set_cons_succ, List.length_cons]
     refine tk 43 (.bool true) rfl (by kernel_rfl) (fun _ _ _ h => h) (by rfl) (by assumption) ?_ ?_
     ·intro w5 s0
      go_simp
     try simp only [Act.put, List.getElem_toArray, List.getElem_cons_zero, List.getElem_cons_succ, List.setIfInBounds_toArray, List.set_cons_zero, List.set_cons_succ, List.length_cons]
     refine tk 44 (.bool true) rfl (by kernel_rfl) (fun _ _ _ h => h) (by rfl) (by assumption) ?_ ?_
     ·intro w5 s0
      go_simp
     try simp only [Act.put, List.getElem_toArray, List.getElem_cons_zero, List.getElem_cons_succ, List.setIfInBounds_toArray, List.set_cons_zero, List.set_cons_succ, List.length_cons]
     refine tk 45 (.bool true) rfl (by kernel_rfl) (fun _ _ _ h => h) (by rfl) (by assumption) ?_ ?_
     ·intro w5 s0
      go_simp
     try simp only [Act.put, List.getElem_toArray, List.getElem_cons_zero, List.getElem_cons_succ, List.setIfInBounds_toArray, List.set_cons_zero, List.set_cons_succ, List.length_cons]
     refine rd1 46 (by kernel_rfl) rfl fun K hK => ?_
     go_simp
     refine (hL P41 (he.below bP41) (hk.up bP41)).mono ?_
     rintro e P46 ⟨rfl, kP46⟩
     have bP46 : Below w.heap.size w P46 := bP41.trans (kP46.mono bP41.size)
     have yP46 : D8 P46 D 16 u := yP41.up kP46
     refine hK.out _ _ yP46 (fun _ => ?_)
     clear hK
     try simp only [Act.put, List.getElem_toArray, List.getElem_cons_zero, List.getElem_cons_succ, List.setIfInBounds_toArray, List.set_cons_zero, List.set_cons_succ, List.length_cons]
     refine tk 47 (.bool true) rfl (by kernel_rfl) (fun _ _ _ h => h) (by rfl) (by assumption) ?_ ?_
     ·intro w5 s0
      go_simp
     try simp only [Act.put, List.getElem_toArray, List.getElem_cons_zero, List.getElem_cons_succ, List.setIfInBounds_toArray, List.set_cons_zero, List.set_cons_succ, List.length_cons]
     refine tk 48 (.bool true) rfl (by kernel_rfl) (fun _ _ _ h => h) (by rfl) (by assumption) ?_ ?_
     ·intro w5 s0
      go_simp
     try simp only [Act.put, List.getElem_toArray, List.getElem_cons_zero, List.getElem_cons_succ, List.setIfInBounds_toArray, List.set_cons_zero, List.set_cons_succ, List.length_cons]
     refine wpAnyH_done (by kernel_rfl) ?_ _
     go_wp2
     go_ret
     exact ⟨rfl, bP46⟩
   ·go_simp
    obtain ⟨A33, h33⟩ : ∃ A, A = P24.alloc (.cells #[.int .i64 16, .string ⟨#[]⟩, .int .u64 0, .int .u64 0, .string u, .slice none 0 0, .slice none 0 0, .int .i64 0] 30) := ⟨_, rfl⟩
    have r33 : D8 A33 P24.heap.size 16 u := by rw [h33]; exact D8.new P24 16 u
    have bA33 : Below w.heap.size w A33 := by rw [h33]; exact bP24.alloc bP24.size _
    have kA33 : Below P24.heap.size P24 A33 := by rw [h33]; exact (Below.refl _ _).alloc (Nat.le_refl _) _
    have yA33 : D8 A33 D 16 u := yP24.up kA33
    rw [← h33]
    clear h33
    refine hK.out _ _ yA33 (fun _ => ?_)
    clear hK
    try simp only [Act.put, List.getElem_toArray, List.getElem_cons_zero, List.getElem_cons_succ, List.setIfInBounds_toArray, List.set_cons_zero, List.set_cons_succ, List.length_cons]
    refine rd1 30 (by kernel_rfl) rfl fun K hK => ?_
    go_simp
    obtain ⟨A30, h30⟩ : ∃ A, A = A33.alloc (.cells #[.int .i64 16, .string ⟨#[]⟩, .int .u64 0, .int .u64 0, .string u, .slice none 0 0, .slice none 0 0, .int .i64 0] 30) := ⟨_, rfl⟩
    have r30 : D8 A30 A33.heap.size 16 u := by rw [h30]; exact D8.new A33 16 u
    have bA30 : Below w.heap.size w A30 := by rw [h30]; exact bA33.alloc bA33.size _
    have kA30 : Below A33.heap.size A33 A30 := by rw [h30]; exact (Below.refl _ _).alloc (Nat.le_refl _) _
    have yA30 : D8 A30 D 16 u := yA33.up kA30
    rw [← h30]
    clear h30
    refine hK.out _ _ yA30 (fun _ => ?_)
    clear hK
    try simp only [Act.put, List.getElem_toArray, List.getElem_cons_zero, List.getElem_cons_succ, List.setIfInBounds_toArray, List.set_cons_zero, List.set_cons_succ, List.length_cons]
    refine rd1 31 (by kernel_rfl) rfl fun K hK => ?_
    go_simp
    refine (hPg A30 _ (he.below bA30) (hk.up bA30) r30).mono ?_
    rintro e P31 ⟨rfl, kP31⟩
    have bP31 : Below w.heap.size w P31 := bA30.trans (kP31.mono bA30.size)
    have yP31 : D8 P31 D 16 u := yA30.up kP31
    refine hK.out _ _ yP31 (fun _ => ?_)
    clear hK
    try simp only [Act.put, List.getElem_toArray, List.getElem_cons_zero, List.getElem_cons_succ, List.setIfInBounds_toArray, List.set_cons_zero, List.set_cons_succ, List.length_cons]
    have r33' := (r33.up kA30).up kP31
    refine rd1 34 (by kernel_rfl) rfl fun K hK => ?_
    go_simp
    refine (hPq P31 _ (he.below bP31) (hk.up bP31) r33').mono ?_
    rintro e P34 ⟨rfl, kP34⟩
    have bP34 : Below w.heap.size w P34 := bP31.trans (kP34.mono bP31.size)
    have yP34 : D8 P34 D 16 u := yP31.up kP34
    refine hK.out _ _ yP34 (fun _ => ?_)
    clear hK
    try simp only [Act.put, List.getElem_toArray, List.getElem_cons_zero, List.getElem_cons_succ, List.setIfInBounds_toArray, List.set_cons_zero, List.set_cons_succ, List.length_cons]
    obtain ⟨Z, hZ⟩ : ∃ Z, Z = P34 := ⟨_, rfl⟩
    have bZ : Below w.heap.size w Z := by rw [hZ]; exact bP34
    have yZ : D8 Z D 16 u := by rw [hZ]; exact yP34
    rw [← hZ]
    clear hZ
    refine tk 35 (.bool true) rfl (by kernel_rfl) (fun _ _ _ h => h) (by rfl) (by assumption) ?_ ?_
    ·intro w5 s0
     go_simp
    try simp only [Act.put, List.getElem_toArray, List.getElem_cons_zero, List.getElem_cons_succ, List.setIfInBounds_toArray, List.set_cons_zero, List.set_cons_succ, List.length_cons]
    refine tk 36 (.bool true) rfl (by kernel_rfl) (fun _ _ _ h => h) (by rfl) (by assumption) ?_ ?_
    ·intro w5 s0
     go_simp
    try simp only [Act.put, List.getElem_toArray, List.getElem_cons_zero, List.getElem_cons_succ, List.setIfInBounds_toArray, List.set_cons_zero, List.set_cons_succ, List.length_cons]
    refine tk 37 (.bool true) rfl (by kernel_rfl) (fun _ _ _ h => h) (by rfl) (by assumption) ?_ ?_
    ·intro w5 s0
     go_simp
    try simp only [Act.put, List.getElem_toArray, List.getElem_cons_zero, List.getElem_cons_succ, List.setIfInBounds_toArray, List.set_cons_zero, List.set_cons_succ, List.length_cons]
    refine tk 38 (.string u) rfl (by kernel_rfl) (fun _ _ _ h => h) (by rfl) (by assumption) ?_ ?_
    ·intro w5 s0
     go_simp
    try simp only [Act.put, List.getElem_toArray, List.getElem_cons_zero, List.getElem_cons_succ, List.setIfInBounds_toArray, List.set_cons_zero, List.set_cons_succ, List.length_cons]
    refine tk 39 (.agg #[.int .i64 17, .string ⟨#[]⟩, .int .u64 0, .int .u64 0, .string u, .slice none 0 0, .slice none 0 0, .int .i64 0]) rfl (by kernel_rfl) (fun _ _ _ h => h) (by rfl) (by assumption) ?_ ?_
    ·intro w5 s0
     go_simp
    try simp only [Act.put, List.getElem_toArray, List.getElem_cons_zero, List.getElem_cons_succ, List.setIfInBounds_toArray, List.set_cons_zero, List.set_cons_succ, List.length_cons]
    refine tk 42 (.string X) rfl (by kernel_rfl) (fun _ _ _ h => h) (by rfl) (by assumption) ?_ ?_
    ·intro w5 s0
     go_simp
    try simp only [Act.put, List.getElem_toArray, List.getElem_cons_zero, List.getElem_cons_succ, List.setIfInBounds_toArray, List.set_cons_zero, List.set_cons_succ, List.length_cons]
    refine rd1 40 (by kernel_rfl) rfl fun K hK => ?_
    go_simp
    obtain ⟨A40, h40⟩ : ∃ A, A = Z.alloc (.cells #[.int .i64 17, .string ⟨#[]⟩, .int .u64 0, .int .u64 0, .string u, .slice none 0 0, .slice none 0 0, .int .i64 0] 30) := ⟨_, rfl⟩
    have r40 : D8 A40 Z.heap.size 17 u := by rw [h40]; exact D8.new Z 17 u
    have bA40 : Below w.heap.size w A40 := by rw [h40]; exact bZ.alloc bZ.size _
    have kA40 : Below Z.heap.size Z A40 := by rw [h40]; exact (Below.refl _ _).alloc (Nat.le_refl _) _
    have yA40 : D8 A40 D 16 u := yZ.up kA40
    rw [← h40]
    clear h40
    refine hK.out _ _ yA40 (fun _ => ?_)
    clear hK
    try simp only [Act.put, List.getElem_toArray, List.getElem_cons_zero, List.getElem_cons_succ, List.setIfInBounds_toArray, List.set_cons_zero, List.set_cons_succ, List.length_cons]
    refine rd1 41 (by kernel_rfl) rfl fun K hK => ?_
    go_simp
    refine (hPb A40 _ (he.below bA40) (hk.up bA40) r40).mono ?_
    rintro e P41 ⟨rfl, kP41⟩
    have bP41 : Below w.heap.size w P41 := bA40.trans (kP41.mono bA40.size)
    have yP41 : D8 P41 D 16 u := yA40.up kP41
    refine hK.out _ _ yP41 (fun _ => ?_)
    clear hK
    try simp only [Act.put, List.getElem_toArray, List.getElem_cons_zero, List.getElem_cons_succ, List.setIfInBounds_toArray, List.set_cons_zero, List.set_cons_succ, List.length_cons]
    refine tk 43 (.bool true) rfl (by kernel_rfl) (fun _ _ _ h => h) (by rfl) (by assumption) ?_ ?_
    ·intro w5 s0
     go_simp
    try simp only [Act.put, List.getElem_toArray, List.getElem_cons_zero, List.getElem_cons_succ, List.setIfInBounds_toArray, List.set_cons_zero, List.set_cons_succ, List.length_cons]
    refine tk 44 (.bool true) rfl (by kernel_rfl) (fun _ _ _ h => h) (by rfl) (by assumption) ?_ ?_
    ·intro w5 s0
     go_simp
    try simp only [Act.put, List.getElem_toArray, List.getElem_cons_zero, List.getElem_cons_succ, List.setIfInBounds_toArray, List.set_cons_zero, List.set_cons_succ, List.length_cons]
    refine tk 45 (.bool true) rfl (by kernel_rfl) (fun _ _ _ h => h) (by rfl) (by assumption) ?_ ?_
    ·intro w5 s0
     go_simp
    try simp only [Act.put, List.getElem_toArray, List.getElem_cons_zero, List.getElem_cons_succ, List.setIfInBounds_toArray, List.set_cons_zero, List.set_cons_succ, List.length_cons]
    refine rd1 46 (by kernel_rfl) rfl fun K hK => ?_
    go_simp
    refine (hL P41 (he.below bP41) (hk.up bP41)).mono ?_
    rintro e P46 ⟨rfl, kP46⟩
    have bP46 : Below w.heap.size w P46 := bP41.trans (kP46.mono bP41.size)
    have yP46 : D8 P46 D 16 u := yP41.up kP46
    refine hK.out _ _ yP46 (fun _ => ?_)
    clear hK
    try simp only [Act.put, List.getElem_toArray, List.getElem_cons_zero, List.getElem_cons_succ, List.setIfInBounds_toArray, List.set_cons_zero, List.set_cons_succ, List.length_cons]
    refine tk 47 (.bool true) rfl (by kernel_rfl) (fun _ _ _ h => h) (by rfl) (by assumption) ?_ ?_
    ·intro w5 s0
     go_simp
    try simp only [Act.put, List.getElem_toArray, List.getElem_cons_zero, List.getElem_cons_succ, List.setIfInBounds_toArray, List.set_cons_zero, List.set_cons_succ, List.length_cons]
    refine tk 48 (.bool true) rfl (by kernel_rfl) (fun _ _ _ h => h) (by rfl) (by assumption) ?_ ?_
    ·intro w5 s0
     go_simp
    try simp only [Act.put, List.getElem_toArray, List.getElem_cons_zero, List.getElem_cons_succ, List.setIfInBounds_toArray, List.set_cons_zero, List.set_cons_succ, List.length_cons]
    refine wpAnyH_done (by kernel_rfl) ?_ _
    go_wp2
    go_ret
    exact ⟨rfl, bP46⟩
end Go.Proofs.YtjalgdfnehgocaaGreatDoor
