/- VFlat8, Lives3, IBox, INumE, IRead, UNs: these texts in one. -/
import Derived.Test.YtjalgdfnehgocaaGreatDoorPt35
import Derived.Test.YtjalgdfnehgocaaGreatDoorVRaw
import Derived.Deep.LoopGhost
import Derived.Deep.DeepCutAuto
import Derived.Deep.CutBlock
import Derived.Test.YtjalgdfnehgocaaGreatDoorINumC
import Derived.Test.YtjalgdfnehgocaaGreatDoorPt3
import Derived.Test.YtjalgdfnehgocaaGreatDoorPt1
import Derived.Test.YtjalgdfnehgocaaGreatDoorPt26
namespace Go.Proofs.YtjalgdfnehgocaaGreatDoor
open Go.RowKit
set_option linter.unusedVariables false
set_option linter.unusedSimpArgs false
def E8 (W : World) (A : Nat) (k b : Int) : Prop := W.cell? ⟨A, 0, none⟩ = some (.int .i64 k) ∧ W.cell? ⟨A, 1, none⟩ = some (.string ⟨#[]⟩) ∧ W.cell? ⟨A, 2, none⟩ = some (.int .u64 b) ∧ W.cell? ⟨A, 3, none⟩ = some (.int .u64 0) ∧ W.cell? ⟨A, 4, none⟩ = some (.string ⟨#[]⟩) ∧ W.cell? ⟨A, 5, none⟩ = some (.slice none 0 0) ∧ W.cell? ⟨A, 6, none⟩ = some (.slice none 0 0) ∧ W.cell? ⟨A, 7, none⟩ = some (.int .i64 0)
theorem E8.up {W W' : World} {A : Nat} {k b : Int} (h : E8 W A k b) (hb : Below W.heap.size W W') : E8 W' A k b :=
 ⟨up_cell hb h.1, up_cell hb h.2.1, up_cell hb h.2.2.1, up_cell hb h.2.2.2.1, up_cell hb h.2.2.2.2.1, up_cell hb h.2.2.2.2.2.1, up_cell hb h.2.2.2.2.2.2.1, up_cell hb h.2.2.2.2.2.2.2⟩
theorem E8.new (W : World) (k b : Int) : E8 (W.alloc (.cells #[.int .i64 k, .string ⟨#[]⟩, .int .u64 b, .int .u64 0, .string ⟨#[]⟩, .slice none 0 0, .slice none 0 0, .int .i64 0] 30)) W.heap.size k b := by
 refine ⟨?_, ?_, ?_, ?_, ?_, ?_, ?_, ?_⟩
 all_goals simp [go_sem]
set_option maxRecDepth 1000000 in
set_option maxHeartbeats 4000000 in
theorem oall_num (k b : Int) (h1 : 2 ≤ k) (h2 : k ≤ 11) (w : World) :
  Calls Tryz.prog 46 #[.agg #[.int .i64 k, .string ⟨#[]⟩, .int .u64 b, .int .u64 0, .string ⟨#[]⟩, .slice none 0 0, .slice none 0 0, .int .i64 0]] w fun e w' => ∃ A B, e = .returned (.tuple #[.slice (some ⟨A, 0, none⟩) 1 1, .slice (some ⟨B, 0, none⟩) 1 1]) ∧ Below w.heap.size w w' ∧ E8 w' A k b ∧ w'.cell? ⟨B, 0, none⟩ = some (.int .i64 0) := by
 obtain ⟨W1, hW1⟩ : ∃ W1, W1 = w.alloc (.cells #[.int .i64 k, .string ⟨#[]⟩, .int .u64 b, .int .u64 0, .string ⟨#[]⟩, .slice none 0 0, .slice none 0 0, .int .i64 0] 30) := ⟨_, rfl⟩
 obtain ⟨W2, hW2⟩ : ∃ W2, W2 = W1.alloc (.cells #[.int .i64 k, .string ⟨#[]⟩, .int .u64 b, .int .u64 0, .string ⟨#[]⟩, .slice none 0 0, .slice none 0 0, .int .i64 0] 30) := ⟨_, rfl⟩
 obtain ⟨W3, hW3⟩ : ∃ W3, W3 = W2.alloc (.cells #[.int .i64 0] 3) := ⟨_, rfl⟩
 have b1 : Below w.heap.size w W1 := by rw [hW1]; exact (Below.refl _ _).alloc (Nat.le_refl _) _
 have b2 : Below w.heap.size w W2 := by rw [hW2]; exact b1.alloc b1.size _
 have b3 : Below w.heap.size w W3 := by rw [hW3]; exact b2.alloc b2.size _
 have y2 : E8 W2 W1.heap.size k b := by rw [hW2]; exact E8.new W1 k b
 have y3 : E8 W3 W1.heap.size k b := by rw [hW3]; exact y2.up ((Below.refl _ _).alloc (Nat.le_refl _) _)
 have c3 : W3.cell? ⟨W2.heap.size, 0, none⟩ = some (.int .i64 0) := by rw [hW3]; simp [go_sem]
 have s1 : W1.heap.size = w.heap.size + 1 := by rw [hW1]; simp
 have s2 : W2.heap.size = w.heap.size + 2 := by rw [hW2]; simp [s1]
 rw [s1] at y3
 rw [s2] at c3
 rw [hW2, hW1] at hW3
 have hg := fun V => ogreat_any k V
 rw [show great k = false by unfold great; simp; omega] at hg
 clear b1 b2 y2 s1 s2 hW1 hW2 W1 W2 h1 h2
 go_enter Tryz.func46, Tryz.ntmps46
 go_upto_region 2 with fail
 rw [← hW3]
 clear hW3
 go_wp2_with fail
 go_loopg [4, 5, 6, 8] 1 (fun g s4 s5 z _ wr => s4 = .slice (some ⟨w.heap.size + 1, 0, none⟩) 1 1 ∧ s5 = .slice (some ⟨w.heap.size + 2, 0, none⟩) 1 1 ∧ ∃ i : Int, z = .int .i64 i ∧ (i = 0 ∧ g = 1 ∨ i = 1 ∧ g = 0) ∧ Below w.heap.size w wr ∧ E8 wr (w.heap.size + 1) k b ∧ wr.cell? ⟨w.heap.size + 2, 0, none⟩ = some (.int .i64 0))
 case atStart => exact ⟨rfl, rfl, 0, rfl, .inl ⟨rfl, rfl⟩, b3, y3, c3⟩
 case round =>
  obtain ⟨rfl, rfl, i, rfl, hig, bR, yR, cR⟩ := hrel
  clear b3 y3 c3
  obtain ⟨d0, d1, d2, d3, d4, d5, d6, d7⟩ := id yR
  rcases hig with ⟨rfl, hig⟩ | ⟨rfl, hig⟩
  ·skip
   go_wp2_with (go_at_call 51; refine (hg _).mono ?_; rintro e w5 ⟨rfl, q5⟩; rw [q5]; clear q5)
   go_roundg (gk - 1)
   case measure => omega
   exact ⟨rfl, rfl, 1, by go_num, .inr ⟨rfl, by omega⟩, bR, yR, cR⟩
  ·skip
   go_wp2
   go_ret2
   exact ⟨_, _, rfl, bR, yR, cR⟩
set_option maxRecDepth 1000000 in
set_option maxHeartbeats 4000000 in
theorem otyped_nil (w : World) : Calls Tryz.prog 66 #[.string ⟨#[]⟩] w fun e w' => e = .returned (.bool true) ∧ w' = w := by
 go_enter Tryz.func66, Tryz.ntmps66
 go_wp2
 go_loopg [3] 0 (fun g z wr => z = .int .i64 0 ∧ wr = w)
 case atStart => exact ⟨rfl, rfl⟩
 case round =>
  obtain ⟨rfl, rfl⟩ := hrel
  go_wp2
  go_ret
  exact ⟨rfl, rfl⟩
set_option maxRecDepth 1000000 in
set_option maxHeartbeats 4000000 in
theorem oform_num (k b : Int) (h1 : 2 ≤ k) (h2 : k ≤ 11) (w : World) : Calls Tryz.prog 47 #[.agg #[.int .i64 k, .string ⟨#[]⟩, .int .u64 b, .int .u64 0, .string ⟨#[]⟩, .slice none 0 0, .slice none 0 0, .int .i64 0]] w fun e w' => e = .returned (.bool true) ∧ Below w.heap.size w w' := by
 have e18 : (k == 18) = false := by simp; omega
 have e21 : (k == 21) = false := by simp; omega
 have e22 : (k == 22) = false := by simp; omega
 have e0 : (k != 0) = true := by simp; omega
 have ht := fun W => otyped_nil W
 clear h1 h2
 go_enter Tryz.func47, Tryz.ntmps47
 go_wp2_with (go_at_call 66; refine (ht _).mono ?_; rintro e w1 ⟨rfl, hw⟩; rw [hw]; clear hw)
 go_ret
 exact ⟨rfl, (Below.refl _ _).alloc (Nat.le_refl _) _⟩
set_option maxRecDepth 1000000 in
set_option maxHeartbeats 4000000 in
theorem otwice_num (k b : Int) (h1 : 2 ≤ k) (h2 : k ≤ 11) (w : World) : Calls Tryz.prog 48 #[.agg #[.int .i64 k, .string ⟨#[]⟩, .int .u64 b, .int .u64 0, .string ⟨#[]⟩, .slice none 0 0, .slice none 0 0, .int .i64 0]] w fun e w' => e = .returned (.bool false) ∧ Below w.heap.size w w' := by
 have e18 : (k == 18) = false := by simp; omega
 have e21 : (k == 21) = false := by simp; omega
 clear h1 h2
 go_enter Tryz.func48, Tryz.ntmps48
 go_wp2
 go_ret
 exact ⟨rfl, (Below.refl _ _).alloc (Nat.le_refl _) _⟩
set_option maxRecDepth 1000000 in
set_option maxHeartbeats 4000000 in
theorem oin_num (k b : Int) (h1 : 2 ≤ k) (h2 : k ≤ 11) (hb0 : 0 ≤ b) (hb1 : b ≤ 18446744073709551615) (w : World) : Calls Tryz.prog 31 #[.agg #[.int .i64 k, .string ⟨#[]⟩, .int .u64 b, .int .u64 0, .string ⟨#[]⟩, .slice none 0 0, .slice none 0 0, .int .i64 0]] w fun e w' => e = .returned (.agg #[.int .i64 k, .string ⟨#[]⟩, .int .u64 (numF k b), .int .u64 0, .string ⟨#[]⟩, .slice none 0 0, .slice none 0 0, .int .i64 0]) ∧ Below w.heap.size w w' := by
 obtain ⟨nb, hnb⟩ : ∃ nb, numF k b = nb := ⟨_, rfl⟩
 have hwb : whoB k = true := by simp [whoB]; omega
 have hwh : ∀ W, Calls Tryz.prog 49 #[.int .i64 k] W fun e w' => e = .returned (.bool true) ∧ w' = W := fun W => by have := owhole_any k W; rwa [hwb] at this
 have hgr : ∀ W, Calls Tryz.prog 51 #[.int .i64 k] W fun e w' => e = .returned (.bool false) ∧ w' = W := fun W => by have := ogreat_any k W; rwa [show great k = false by unfold great; simp; omega] at this
 have hnu : ∀ W, Calls Tryz.prog 50 #[.int .i64 k, .int .u64 b] W fun e w' => e = .returned (.int .u64 nb) ∧ w' = W := fun W => by rw [← hnb]; exact onumber_any k b W hb0 hb1 hwb
 rw [hnb]
 have e0 : (k == 0) = false := by simp; omega
 have e1 : (k == 1) = false := by simp; omega
 have e12 : (k == 12) = false := by simp; omega
 have e13 : (k == 13) = false := by simp; omega
 have e14 : (k == 14) = false := by simp; omega
 have e15 : (k == 15) = false := by simp; omega
 have e16 : (k == 16) = false := by simp; omega
 have e17 : (k == 17) = false := by simp; omega
 have e18 : (k == 18) = false := by simp; omega
 have e21 : (k == 21) = false := by simp; omega
 have e22 : (k == 22) = false := by simp; omega
 clear hnb hwb h1 h2
 go_enter Tryz.func31, Tryz.ntmps31
 go_wp2_with (first | (go_at_call 49; refine (hwh _).mono ?_; rintro e w1 ⟨rfl, hw⟩; rw [hw]; clear hw) | (go_at_call 51; refine (hgr _).mono ?_; rintro e w1 ⟨rfl, hw⟩; rw [hw]; clear hw) | (go_at_call 50; refine (hnu _).mono ?_; rintro e w1 ⟨rfl, hw⟩; rw [hw]; clear hw))
 go_returns
 exact ⟨rfl, ((Below.refl _ _).alloc (Nat.le_refl _) _).alloc (by simp) _ |>.alloc (by simp; omega) _⟩
set_option maxRecDepth 1000000 in
set_option maxHeartbeats 4000000 in
theorem ocheck_num (k b : Int) (h1 : 2 ≤ k) (h2 : k ≤ 11) (w : World) : Calls Tryz.prog 30 #[.agg #[.int .i64 k, .string ⟨#[]⟩, .int .u64 b, .int .u64 0, .string ⟨#[]⟩, .slice none 0 0, .slice none 0 0, .int .i64 0]] w fun e w' => e = .returned (.int .i64 0) ∧ Below w.heap.size w w' := by
 obtain ⟨W1, hW1⟩ : ∃ W1, W1 = w.alloc (.cells #[.int .i64 k, .string ⟨#[]⟩, .int .u64 b, .int .u64 0, .string ⟨#[]⟩, .slice none 0 0, .slice none 0 0, .int .i64 0] 30) := ⟨_, rfl⟩
 have b1 : Below w.heap.size w W1 := by rw [hW1]; exact (Below.refl _ _).alloc (Nat.le_refl _) _
 have hal := oall_num k b h1 h2 W1
 have hfo := fun W => oform_num k b h1 h2 W
 have htw := fun W => otwice_num k b h1 h2 W
 have e16 : (k == 16) = false := by simp; omega
 have e17 : (k == 17) = false := by simp; omega
 have n0 : ¬ k < 0 := by omega
 have n22 : ¬ 22 < k := by omega
 clear h1 h2
 go_enter Tryz.func30, Tryz.ntmps30
 go_upto_region 2 with (go_at_call 46; rw [← hW1]; refine hal.mono ?_; rintro e W2 ⟨A, B, rfl, b2, y2, c2⟩; clear hal hW1)
 have bW : Below w.heap.size w W2 := b1.trans (b2.mono b1.size)
 clear b1 b2
 go_wp2_with fail
 go_loopg [6, 25] 1 (fun g _ z wr => ∃ i : Int, z = .int .i64 i ∧ (i = 0 ∧ g = 1 ∨ i = 1 ∧ g = 0) ∧ Below w.heap.size w wr ∧ E8 wr A k b ∧ wr.cell? ⟨B, 0, none⟩ = some (.int .i64 0))
 case atStart => exact ⟨0, rfl, .inl ⟨rfl, rfl⟩, bW, y2, c2⟩
 case round =>
  clear bW y2 c2
  obtain ⟨i, rfl, hig, bW, y2, c2⟩ := hrel
  rcases hig with ⟨rfl, hig⟩ | ⟨rfl, hig⟩
  ·skip
   obtain ⟨d0, d1, d2, d3, d4, d5, d6, d7⟩ := id y2
   go_wp2
   go_roundg (gk - 1)
   case measure => omega
   exact ⟨1, by go_num, .inr ⟨rfl, by omega⟩, bW.alloc bW.size _, y2.up ((Below.refl _ _).alloc (Nat.le_refl _) _), up_cell ((Below.refl _ _).alloc (Nat.le_refl _) _) c2⟩
  ·skip
   go_wp2_with fail
   go_loopg [8, 46] 1 (fun g _ z wr => ∃ i : Int, z = .int .i64 i ∧ (i = 0 ∧ g = 1 ∨ i = 1 ∧ g = 0) ∧ Below w.heap.size w wr ∧ E8 wr A k b ∧ wr.cell? ⟨B, 0, none⟩ = some (.int .i64 0))
   case atStart => exact ⟨0, rfl, .inl ⟨rfl, rfl⟩, bW, y2, c2⟩
   case round =>
    clear bW y2 c2
    obtain ⟨i, rfl, hig, bW, y2, c2⟩ := hrel
    rcases hig with ⟨rfl, hig⟩ | ⟨rfl, hig⟩
    ·skip
     obtain ⟨d0, d1, d2, d3, d4, d5, d6, d7⟩ := id y2
     go_wp2
     go_roundg (gk - 1)
     case measure => omega
     exact ⟨1, by go_num, .inr ⟨rfl, by omega⟩, bW, y2, c2⟩
    ·skip
     go_wp2_with fail
     go_loopg [10, 55] 1 (fun g _ z wr => ∃ i : Int, z = .int .i64 i ∧ (i = 0 ∧ g = 1 ∨ i = 1 ∧ g = 0) ∧ Below w.heap.size w wr ∧ E8 wr A k b ∧ wr.cell? ⟨B, 0, none⟩ = some (.int .i64 0))
     case atStart => exact ⟨0, rfl, .inl ⟨rfl, rfl⟩, bW, y2, c2⟩
     case round =>
      clear bW y2 c2
      obtain ⟨i, rfl, hig, bW, y2, c2⟩ := hrel
      rcases hig with ⟨rfl, hig⟩ | ⟨rfl, hig⟩
      ·skip
       obtain ⟨d0, d1, d2, d3, d4, d5, d6, d7⟩ := id y2
       go_wp2
       go_roundg (gk - 1)
       case measure => omega
       exact ⟨1, by go_num, .inr ⟨rfl, by omega⟩, bW.alloc bW.size _, y2.up ((Below.refl _ _).alloc (Nat.le_refl _) _), up_cell ((Below.refl _ _).alloc (Nat.le_refl _) _) c2⟩
      ·skip
       go_wp2_with fail
       go_loopg [12, 70] 1 (fun g _ z wr => ∃ i : Int, z = .int .i64 i ∧ (i = 0 ∧ g = 1 ∨ i = 1 ∧ g = 0) ∧ Below w.heap.size w wr ∧ E8 wr A k b ∧ wr.cell? ⟨B, 0, none⟩ = some (.int .i64 0))
       case atStart => exact ⟨0, rfl, .inl ⟨rfl, rfl⟩, bW, y2, c2⟩
       case round =>
        clear bW y2 c2
        obtain ⟨i, rfl, hig, bW, y2, c2⟩ := hrel
        rcases hig with ⟨rfl, hig⟩ | ⟨rfl, hig⟩
        ·skip
         obtain ⟨d0, d1, d2, d3, d4, d5, d6, d7⟩ := id y2
         go_wp2_with (go_at_call 47; refine (hfo _).mono ?_; rintro e w5 ⟨rfl, b5⟩)
         go_roundg (gk - 1)
         case measure => omega
         exact ⟨1, by go_num, .inr ⟨rfl, by omega⟩, (bW.alloc bW.size _).trans (b5.mono (bW.alloc bW.size _).size), (y2.up ((Below.refl _ _).alloc (Nat.le_refl _) _)).up b5, up_cell b5 (up_cell ((Below.refl _ _).alloc (Nat.le_refl _) _) c2)⟩
        ·skip
         go_wp2_with fail
         go_loopg [14, 80] 1 (fun g _ z wr => ∃ i : Int, z = .int .i64 i ∧ (i = 0 ∧ g = 1 ∨ i = 1 ∧ g = 0) ∧ Below w.heap.size w wr ∧ E8 wr A k b ∧ wr.cell? ⟨B, 0, none⟩ = some (.int .i64 0))
         case atStart => exact ⟨0, rfl, .inl ⟨rfl, rfl⟩, bW, y2, c2⟩
         case round =>
          clear bW y2 c2
          obtain ⟨i, rfl, hig, bW, y2, c2⟩ := hrel
          rcases hig with ⟨rfl, hig⟩ | ⟨rfl, hig⟩
          ·skip
           obtain ⟨d0, d1, d2, d3, d4, d5, d6, d7⟩ := id y2
           go_wp2_with (go_at_call 48; refine (htw _).mono ?_; rintro e w5 ⟨rfl, b5⟩)
           go_roundg (gk - 1)
           case measure => omega
           exact ⟨1, by go_num, .inr ⟨rfl, by omega⟩, (bW.alloc bW.size _).trans (b5.mono (bW.alloc bW.size _).size), (y2.up ((Below.refl _ _).alloc (Nat.le_refl _) _)).up b5, up_cell b5 (up_cell ((Below.refl _ _).alloc (Nat.le_refl _) _) c2)⟩
          ·skip
           go_wp2_with fail
           go_ret
           exact ⟨rfl, bW⟩
set_option maxRecDepth 1000000 in
set_option maxHeartbeats 4000000 in
theorem obuild_num (k b : Int) (h1 : 2 ≤ k) (h2 : k ≤ 11) (hb0 : 0 ≤ b) (hb1 : b ≤ 18446744073709551615) (w : World) : Calls Tryz.prog 21 #[.agg #[.int .i64 k, .string ⟨#[]⟩, .int .u64 b, .int .u64 0, .string ⟨#[]⟩, .slice none 0 0, .slice none 0 0, .int .i64 0]] w fun e w' => e = .returned (.tuple #[.agg #[.int .i64 k, .string ⟨#[]⟩, .int .u64 (numF k b), .int .u64 0, .string ⟨#[]⟩, .slice none 0 0, .slice none 0 0, .int .i64 0], .int .i64 0]) ∧ Below w.heap.size w w' := by
 have hck := fun W => ocheck_num k b h1 h2 W
 have hin := fun W => oin_num k b h1 h2 hb0 hb1 W
 generalize numF k b = nb at *
 clear h1 h2 hb0 hb1
 obtain ⟨V1, hV1⟩ : ∃ V1, V1 = w.alloc (.cells #[.int .i64 k, .string ⟨#[]⟩, .int .u64 b, .int .u64 0, .string ⟨#[]⟩, .slice none 0 0, .slice none 0 0, .int .i64 0] 30) := ⟨_, rfl⟩
 obtain ⟨W1, hW1⟩ : ∃ W1, W1 = V1.alloc (.cells #[.int .i64 0, .string ⟨#[]⟩, .int .u64 0, .int .u64 0, .string ⟨#[]⟩, .slice none 0 0, .slice none 0 0, .int .i64 0] 30) := ⟨_, rfl⟩
 have s1 : V1.heap.size = w.heap.size + 1 := by rw [hV1]; simp
 have b0 : Below w.heap.size w V1 := by rw [hV1]; exact (Below.refl _ _).alloc (Nat.le_refl _) _
 have b1 : Below w.heap.size w W1 := by rw [hW1]; exact b0.alloc b0.size _
 have y1 : E8 W1 w.heap.size k b := by rw [hW1]; refine E8.up ?_ ((Below.refl _ _).alloc (Nat.le_refl _) _); rw [hV1]; exact E8.new w k b
 have zz1 : Zero8 W1 (w.heap.size + 1) := by
  rw [← s1]
  refine ⟨by rw [hW1]; refine ⟨?_, ?_, ?_, ?_, ?_, ?_, ?_, ?_⟩ <;> simp [go_sem], fun i => ?_⟩
  rw [hW1, frozen?_alloc_cells]
  exact frozen_none _ _ (Nat.le_refl _)
 rw [hV1] at hW1
 clear s1 b0 hV1 V1
 obtain ⟨c0, c1, c2, c3, c4, c5, c6, c7⟩ := id y1
 go_enter Tryz.func21, Tryz.ntmps21
 go_upto_region 1 with fail
 rw [← hW1]
 clear hW1
 go_upto_region 2 with (go_at_call 30; refine (hck _).mono ?_; rintro e W2 ⟨rfl, b2⟩)
 have bW : Below w.heap.size w W2 := b1.trans (b2.mono b1.size)
 have zz2 := zz1.up b2
 have y2 := y1.up b2
 have hbx : w.heap.size + 1 < W2.heap.size := lt_of_cell zz2.1.1
 obtain ⟨d0, d1, d2, d3, d4, d5, d6, d7⟩ := id y2
 clear zz1 y1 b1 b2 hck y2 c0 c1 c2 c3 c4 c5 c6 c7
 go_upto_region 4 with fail
 go_wp2_with (go_at_call 31; refine (hin _).mono ?_; rintro e W3 ⟨rfl, b3⟩; have zz3 := zz2.up b3; obtain ⟨⟨z0, z1, z2, z3, z4, z5, z6, z7⟩, zf⟩ := zz3; have y0 := zf 0; have y1 := zf 1; have y2 := zf 2; have y3 := zf 3; have y4 := zf 4; have y5 := zf 5; have y6 := zf 6; have y7 := zf 7)
 obtain ⟨r0, r1, r2, r3, r4, r5, r6, r7⟩ := set8 z0 z1 z2 z3 z4 z5 z6 z7 (.int .i64 k) (.string ⟨#[]⟩) (.int .u64 nb) (.int .u64 0) (.string ⟨#[]⟩) (.slice none 0 0) (.slice none 0 0) (.int .i64 0)
 refine bodyPost_ret (v := .tuple #[.agg #[.int .i64 k, .string ⟨#[]⟩, .int .u64 nb, .int .u64 0, .string ⟨#[]⟩, .slice none 0 0, .slice none 0 0, .int .i64 0], .int .i64 0]) (by simp [results, Tryz.results21, go_sem, r0, r1, r2, r3, r4, r5, r6, r7]) rfl ?_
 exact ⟨rfl, set8_below (bW.trans (b3.mono bW.size)) (by omega)⟩
end Go.Proofs.YtjalgdfnehgocaaGreatDoor
namespace Go.Proofs.YtjalgdfnehgocaaGreatDoor
open Go.RowKit
set_option linter.unusedVariables false
end Go.Proofs.YtjalgdfnehgocaaGreatDoor
namespace Go.Proofs.YtjalgdfnehgocaaGreatDoor
open Go.RowKit
set_option linter.unusedVariables false
structure BoxAt (B : Nat) (w0 W : World) (p mi sh sp z : Bool) (wid prec verb : Int) : Prop where
 c0 : W.cell? ⟨B, 0, none⟩ = some (.bool p)
 c1 : W.cell? ⟨B, 1, none⟩ = some (.bool mi)
 c2 : W.cell? ⟨B, 2, none⟩ = some (.bool sh)
 c3 : W.cell? ⟨B, 3, none⟩ = some (.bool sp)
 c4 : W.cell? ⟨B, 4, none⟩ = some (.bool z)
 c5 : W.cell? ⟨B, 5, none⟩ = some (.int .i64 wid)
 c6 : W.cell? ⟨B, 6, none⟩ = some (.int .i64 prec)
 c7 : W.cell? ⟨B, 7, none⟩ = some (.int .i32 verb)
 fr : ∀ i, W.frozen? ⟨B, i, none⟩ = false
 lt : B < W.heap.size
 ge : w0.heap.size ≤ B
 bl : Below w0.heap.size w0 W
 es0 : Esc w0
theorem BoxAt.es {B : Nat} {w0 W : World} {p mi sh sp z : Bool} {wid prec verb : Int} (h : BoxAt B w0 W p mi sh sp z wid prec verb) : Esc W := h.es0.below h.bl
theorem BoxAt.cells {B : Nat} {w0 W : World} {p mi sh sp z : Bool} {wid prec verb : Int} (h : BoxAt B w0 W p mi sh sp z wid prec verb) :
  W.cell? ⟨B, 0, none⟩ = some (.bool p) ∧ W.cell? ⟨B, 1, none⟩ = some (.bool mi) ∧ W.cell? ⟨B, 2, none⟩ = some (.bool sh) ∧ W.cell? ⟨B, 3, none⟩ = some (.bool sp) ∧ W.cell? ⟨B, 4, none⟩ = some (.bool z) ∧ W.cell? ⟨B, 5, none⟩ = some (.int .i64 wid) ∧ W.cell? ⟨B, 6, none⟩ = some (.int .i64 prec) ∧ W.cell? ⟨B, 7, none⟩ = some (.int .i32 verb) ∧ (∀ i, W.frozen? ⟨B, i, none⟩ = false) :=
 ⟨h.c0, h.c1, h.c2, h.c3, h.c4, h.c5, h.c6, h.c7, h.fr⟩
theorem BoxAt.new {w0 : World} (w : World) (p mi sh sp z : Bool) (wid prec verb : Int) (hb : Below w0.heap.size w0 w) (hE : Esc w0) : BoxAt w.heap.size w0 (w.alloc (.cells #[.bool p, .bool mi, .bool sh, .bool sp, .bool z, .int .i64 wid, .int .i64 prec, .int .i32 verb] 151)) p mi sh sp z wid prec verb where
 c0 := by simp
 c1 := by simp
 c2 := by simp
 c3 := by simp
 c4 := by simp
 c5 := by simp
 c6 := by simp
 c7 := by simp
 fr := fun i => by simp
 lt := by simp
 ge := hb.size
 bl := hb.alloc hb.size _
 es0 := hE
theorem BoxAt.call {B : Nat} {w0 W W' : World} {p mi sh sp z : Bool} {wid prec verb : Int} (h : BoxAt B w0 W p mi sh sp z wid prec verb) (b : Below W.heap.size W W') : BoxAt B w0 W' p mi sh sp z wid prec verb where
 c0 := (b.cell (p := ⟨B, 0, none⟩) h.lt).trans h.c0
 c1 := (b.cell (p := ⟨B, 1, none⟩) h.lt).trans h.c1
 c2 := (b.cell (p := ⟨B, 2, none⟩) h.lt).trans h.c2
 c3 := (b.cell (p := ⟨B, 3, none⟩) h.lt).trans h.c3
 c4 := (b.cell (p := ⟨B, 4, none⟩) h.lt).trans h.c4
 c5 := (b.cell (p := ⟨B, 5, none⟩) h.lt).trans h.c5
 c6 := (b.cell (p := ⟨B, 6, none⟩) h.lt).trans h.c6
 c7 := (b.cell (p := ⟨B, 7, none⟩) h.lt).trans h.c7
 fr := fun i => (b.frozen (p := ⟨B, i, none⟩) h.lt).trans (h.fr i)
 lt := Nat.lt_of_lt_of_le h.lt b.size
 ge := h.ge
 bl := h.bl.trans (b.mono h.bl.size)
 es0 := h.es0
theorem BoxAt.drew {B : Nat} {w0 W : World} {p mi sh sp z : Bool} {wid prec verb : Int} (h : BoxAt B w0 W p mi sh sp z wid prec verb) : BoxAt B w0 W.drew p mi sh sp z wid prec verb := h.call (Below.refl _ _).drew
theorem set_otherI {W : World} {B i j : Nat} {u v : Value} (hij : i ≠ j) (h : W.cell? ⟨B, j, none⟩ = some v) : (W.setCell ⟨B, i, none⟩ u).cell? ⟨B, j, none⟩ = some v := by
 rw [World.cell?_setCell_other _ _ _ _ (by intro e; have := congrArg Addr.off e; simp at this; exact hij this)]; exact h
theorem size_set (W : World) (a : Addr) (u : Value) : (W.setCell a u).heap.size = W.heap.size := by simp [World.setCell]
theorem BoxAt.set3 {B : Nat} {w0 W : World} {p mi sh sp z : Bool} {wid prec verb : Int} (h : BoxAt B w0 W p mi sh sp z wid prec verb) (y : Bool) : BoxAt B w0 (W.setCell ⟨B, 3, none⟩ (.bool y)) p mi sh y z wid prec verb where
 c0 := set_otherI (by omega) h.c0
 c1 := set_otherI (by omega) h.c1
 c2 := set_otherI (by omega) h.c2
 c3 := World.cell?_setCell_same _ _ _ h.c3
 c4 := set_otherI (by omega) h.c4
 c5 := set_otherI (by omega) h.c5
 c6 := set_otherI (by omega) h.c6
 c7 := set_otherI (by omega) h.c7
 fr := fun j => by rw [World.frozen?_setCell]; exact h.fr j
 lt := by rw [size_set]; exact h.lt
 ge := h.ge
 bl := h.bl.setCell h.ge _
 es0 := h.es0
theorem BoxAt.set4 {B : Nat} {w0 W : World} {p mi sh sp z : Bool} {wid prec verb : Int} (h : BoxAt B w0 W p mi sh sp z wid prec verb) (y : Bool) : BoxAt B w0 (W.setCell ⟨B, 4, none⟩ (.bool y)) p mi sh sp y wid prec verb where
 c0 := set_otherI (by omega) h.c0
 c1 := set_otherI (by omega) h.c1
 c2 := set_otherI (by omega) h.c2
 c3 := set_otherI (by omega) h.c3
 c4 := World.cell?_setCell_same _ _ _ h.c4
 c5 := set_otherI (by omega) h.c5
 c6 := set_otherI (by omega) h.c6
 c7 := set_otherI (by omega) h.c7
 fr := fun j => by rw [World.frozen?_setCell]; exact h.fr j
 lt := by rw [size_set]; exact h.lt
 ge := h.ge
 bl := h.bl.setCell h.ge _
 es0 := h.es0
theorem BoxAt.set5 {B : Nat} {w0 W : World} {p mi sh sp z : Bool} {wid prec verb : Int} (h : BoxAt B w0 W p mi sh sp z wid prec verb) (y : Int) : BoxAt B w0 (W.setCell ⟨B, 5, none⟩ (.int .i64 y)) p mi sh sp z y prec verb where
 c0 := set_otherI (by omega) h.c0
 c1 := set_otherI (by omega) h.c1
 c2 := set_otherI (by omega) h.c2
 c3 := set_otherI (by omega) h.c3
 c4 := set_otherI (by omega) h.c4
 c5 := World.cell?_setCell_same _ _ _ h.c5
 c6 := set_otherI (by omega) h.c6
 c7 := set_otherI (by omega) h.c7
 fr := fun j => by rw [World.frozen?_setCell]; exact h.fr j
 lt := by rw [size_set]; exact h.lt
 ge := h.ge
 bl := h.bl.setCell h.ge _
 es0 := h.es0
end Go.Proofs.YtjalgdfnehgocaaGreatDoor
namespace Go.Proofs.YtjalgdfnehgocaaGreatDoor
open Go.RowKit
set_option linter.unusedVariables false
theorem wf64 (n : Int) (h : (Lit.int .i64 n).wf = true) : -9223372036854775808 ≤ n ∧ n ≤ 9223372036854775807 := by
 simp [Lit.wf] at h
 first | exact h | omega | exact ⟨by omega, by omega⟩
theorem app_nil' (T : ByteArray) : T ++ (⟨#[]⟩ : ByteArray) = T := by
 apply ByteArray.ext
 rw [ByteArray.data_append]
 simp
theorem run0_app (c : Nat) (T : ByteArray) : run c 0 ++ T = T := by
 apply ByteArray.ext
 rw [ByteArray.data_append]
 simp [run]
theorem numS_base (bits size : Nat) (sign : ByteArray) (p mi sh z : Bool) (wid prec verb : Int) (h1 : ¬ verb = 99) (h2 : ¬ verb = 113) (h3 : ¬ verb = 85) (h4 : ¬ baseV verb = 0) :
  numS bits size sign p mi sh z wid prec verb = padS (coreB size (baseV verb) sign mi sh z wid prec verb) mi false wid ∧ numK verb = true := by
 refine ⟨?_, by simp [numK, h4]⟩
 unfold numS numO
 rw [if_neg h1, if_neg h2, if_neg h3, if_neg h4]
theorem lenS_short (s : ByteArray) (n : Int) (h : n ≤ (s.size : Nat)) : lenS s n = s := by
 have e : wdt (n - (s.size : Nat)) = 0 := by unfold wdt; omega
 unfold lenS
 rw [e, run0_app]
end Go.Proofs.YtjalgdfnehgocaaGreatDoor
namespace Go.Proofs.YtjalgdfnehgocaaGreatDoor
open Go.RowKit
set_option linter.unusedVariables false
def dgV (x : UInt8) : Nat := if x.toNat ≤ 57 then x.toNat - 48 else if 97 ≤ x.toNat then x.toNat - 87 else x.toNat - 55
theorem dgV_hex (g : Bool) (d : Nat) (h : d < 16) : dgV (hexB g d) = d := by
 have : ∀ i : Fin 16, dgV (hexB false i.val) = i.val ∧ dgV (hexB true i.val) = i.val := by decide
 have := this ⟨d, h⟩
 cases g
 ·exact this.1
 ·exact this.2
theorem wrapUI (n : Int) (h0 : 0 ≤ n) (h : n < 18446744073709551616) : IntKind.u64.wrap n = n := by rw [iwrap_u64]; omega
end Go.Proofs.YtjalgdfnehgocaaGreatDoor
namespace Go.Proofs.YtjalgdfnehgocaaGreatDoor
open Go.RowKit
set_option linter.unusedVariables false
structure Rdn where
 n : Nat
 g : Bool
 t : Bool
def rdB (b : Nat) (s : Rdn) (x : UInt8) : Rdn := if x.toNat = 45 then ⟨s.n, true, s.t⟩ else if x.toNat = 32 ∨ x.toNat = 43 then s else ⟨s.n * b + dgV x, s.g, true⟩
def dgX (b : Nat) (x : UInt8) (d : Nat) : Prop := d < b ∧ dgV x = d ∧ ((x.toNat = 48 + d ∧ d < 10) ∨ (x.toNat = 87 + d ∧ 10 ≤ d) ∨ (x.toNat = 55 + d ∧ 10 ≤ d))
def okX (b : Nat) (x : UInt8) : Prop := x.toNat = 45 ∨ x.toNat = 32 ∨ x.toNat = 43 ∨ ∃ d, dgX b x d
theorem rdB_le (b : Nat) (hb : 1 ≤ b) : ∀ (l : List UInt8) (s : Rdn), s.n ≤ (l.foldl (rdB b) s).n
 | [], s => Nat.le_refl _
 | x :: l, s => by
   refine Nat.le_trans ?_ (rdB_le b hb l (rdB b s x))
   unfold rdB
   split
   ·exact Nat.le_refl _
   ·split
    ·exact Nat.le_refl _
    ·show s.n ≤ s.n * b + dgV x
     have : s.n * 1 ≤ s.n * b := Nat.mul_le_mul_left _ hb
     omega
theorem rd_blank (b : Nat) : ∀ (k : Nat) (s : Rdn), (List.replicate k (UInt8.ofNat 32)).foldl (rdB b) s = s
 | 0, s => rfl
 | k + 1, s => by
   rw [List.replicate_succ, List.foldl_cons, show rdB b s (UInt8.ofNat 32) = s from rfl]
   exact rd_blank b k s
theorem rd_zero (b : Nat) : ∀ (k : Nat) (g t : Bool), ∃ t', (List.replicate k (UInt8.ofNat 48)).foldl (rdB b) ⟨0, g, t⟩ = ⟨0, g, t'⟩
 | 0, g, t => ⟨t, rfl⟩
 | k + 1, g, t => by
   obtain ⟨t', h⟩ := rd_zero b k g true
   have e : rdB b ⟨0, g, t⟩ (UInt8.ofNat 48) = ⟨0, g, true⟩ := by
    show Rdn.mk (0 * b + 0) g true = _
    rw [Nat.zero_mul]
   exact ⟨t', by rw [List.replicate_succ, List.foldl_cons, e]; exact h⟩
theorem dgX_ne {b : Nat} {x : UInt8} {d : Nat} (h : dgX b x d) : ¬ x.toNat = 45 ∧ ¬ x.toNat = 32 ∧ ¬ x.toNat = 43 := by
 obtain ⟨-, -, h | h | h⟩ := h <;> omega
theorem rd_digs (b : Nat) : ∀ (l : List UInt8) (n : Nat) (g t : Bool), (∀ x ∈ l, ∃ d, dgX b x d) → l.foldl (rdB b) ⟨n, g, t⟩ = ⟨l.foldl (fun n x => n * b + dgV x) n, g, t || !l.isEmpty⟩
 | [], n, g, t, _ => by simp
 | x :: l, n, g, t, h => by
   obtain ⟨d, hd⟩ := h x (by simp)
   obtain ⟨h1, h2, h3⟩ := dgX_ne hd
   have e : rdB b ⟨n, g, t⟩ x = ⟨n * b + dgV x, g, true⟩ := by
    unfold rdB
    rw [if_neg h1, if_neg (by omega)]
   rw [List.foldl_cons, e, rd_digs b l _ g true fun y hy => h y (by simp [hy])]
   simp
theorem dig_X (g : Bool) (b n : Nat) (hb : 0 < b) (h16 : b ≤ 16) (x : UInt8) (hx : x ∈ digS g b n) : ∃ d, dgX b x d := by
 obtain ⟨d, hd, rfl⟩ := digS_mem g b n hb x hx
 have h2 : (hexB g d).toNat = hexN g d := hexB_nat g d (by omega)
 refine ⟨d, hd, dgV_hex g d (by omega), ?_⟩
 rw [h2]
 unfold hexN
 split
 ·exact .inl ⟨rfl, by omega⟩
 ·split
  ·exact .inr (.inr ⟨rfl, by omega⟩)
  ·exact .inr (.inl ⟨rfl, by omega⟩)
abbrev nmL (g : Bool) (b size : Nat) (sg : List UInt8) (a k e : Nat) : List UInt8 := List.replicate a (UInt8.ofNat 32) ++ (sg ++ (List.replicate k (UInt8.ofNat 48) ++ (digS g b size ++ List.replicate e (UInt8.ofNat 32))))
theorem nm_ok (g : Bool) (b size : Nat) (sg : List UInt8) (a k e : Nat) (hb : 2 ≤ b) (h16 : b ≤ 16) (hs : sg = [] ∨ sg = [43] ∨ sg = [45]) (x : UInt8) (hx : x ∈ nmL g b size sg a k e) : okX b x := by
 have h32 : ∀ k, x ∈ List.replicate k (UInt8.ofNat 32) → okX b x := fun k h => by rw [List.eq_of_mem_replicate h]; exact .inr (.inl rfl)
 rcases List.mem_append.1 hx with h | h
 ·exact h32 _ h
 rcases List.mem_append.1 h with h | h
 ·rcases hs with rfl | rfl | rfl
  ·simp at h
  ·obtain rfl : x = 43 := by simpa using h
   exact .inr (.inr (.inl rfl))
  ·obtain rfl : x = 45 := by simpa using h
   exact .inl rfl
 rcases List.mem_append.1 h with h | h
 ·rw [List.eq_of_mem_replicate h]
  exact .inr (.inr (.inr ⟨0, by omega, rfl, .inl ⟨rfl, by omega⟩⟩))
 rcases List.mem_append.1 h with h | h
 ·exact .inr (.inr (.inr (dig_X g b size (by omega) h16 x h)))
 ·exact h32 _ h
theorem nm_read (g : Bool) (b size : Nat) (sg : List UInt8) (a k e : Nat) (hb : 2 ≤ b) (h16 : b ≤ 16) (hs : sg = [] ∨ sg = [43] ∨ sg = [45]) (hn : size < 18446744073709551616) :
  (nmL g b size sg a k e).foldl (rdB b) ⟨0, false, false⟩ = ⟨size, decide (sg = [45]), true⟩ := by
 have hv : valL b dgV (digS g b size) = size := valL_digS g b size dgV hb (fun d hd => dgV_hex g d (by omega)) (by omega)
 have hne := digS_ne g b size
 have hsg : sg.foldl (rdB b) ⟨0, false, false⟩ = ⟨0, decide (sg = [45]), false⟩ := by
  rcases hs with rfl | rfl | rfl
  ·rfl
  ·rfl
  ·rfl
 obtain ⟨t', hz⟩ := rd_zero b k (decide (sg = [45])) false
 have he : (digS g b size).isEmpty = false := by
  cases h : digS g b size with
  | nil => exact absurd h hne
  | cons x l => rfl
 unfold nmL
 rw [List.foldl_append, rd_blank, List.foldl_append, hsg, List.foldl_append, hz, List.foldl_append, rd_digs b _ 0 _ _ fun x hx => dig_X g b size (by omega) h16 x hx, rd_blank, he]
 show Rdn.mk (valL b dgV (digS g b size)) _ _ = _
 rw [hv]
 simp
theorem rd_runl (c k : Nat) : (run c k).data.toList = List.replicate k (UInt8.ofNat c) := by simp [run]
theorem num_shape (bits size : Nat) (sign : ByteArray) (p mi z : Bool) (wid c : Int) (b : Nat) (h1 : ¬ c = 99) (h2 : ¬ c = 113) (h3 : ¬ c = 85) (h4 : baseV c = b) (hb : ¬ b = 0) (h5 : ¬ c = 79) (hsg : sign.size ≤ 1) :
  numK c = true ∧ (numS bits size sign p mi false z wid (-1) c).size ≤ 4096 ∧ wdt wid ≤ (numS bits size sign p mi false z wid (-1) c).size ∧ ∃ a k e, (numS bits size sign p mi false z wid (-1) c).data.toList = nmL (decide (c = 88)) b size sign.data.toList a k e := by
 obtain ⟨e1, e2⟩ := numS_base bits size sign p mi false z wid (-1) c h1 h2 h3 (by omega)
 have hs := digT_size (decide (c = 88)) b size
 have hd : digBy size b (-1) c = digT (decide (c = 88)) b size := by
  unfold digBy
  rw [if_neg (by omega)]
  exact lenS_short _ _ (by unfold wdt; omega)
 have hm : ∀ d, markB d false c = ⟨#[]⟩ := fun d => by unfold markB; rw [if_neg h5, if_pos rfl]
 obtain ⟨k, hk, hk1⟩ : ∃ k, widD (digT (decide (c = 88)) b size) sign.size mi z wid (-1) = run 48 k ++ digT (decide (c = 88)) b size ∧ k ≤ 1000 := by
  unfold widD
  split
  ·exact ⟨_, rfl, wdt_le _⟩
  ·exact ⟨0, (run0_app 48 _).symm, by decide⟩
 have hc : coreB size b sign mi false z wid (-1) c = sign ++ (run 48 k ++ digT (decide (c = 88)) b size) := by
  unfold coreB
  rw [hd, if_neg (by omega), hm, app_nil', hk]
 rw [e1, h4, hc]
 have hL : (sign ++ (run 48 k ++ digT (decide (c = 88)) b size)).data.toList = sign.data.toList ++ (List.replicate k (UInt8.ofNat 48) ++ digS (decide (c = 88)) b size) := by
  rw [ByteArray.data_append, ByteArray.data_append, Array.toList_append, Array.toList_append, rd_runl]
  rfl
 have hrz : (sign ++ (run 48 k ++ digT (decide (c = 88)) b size)).size ≤ 1066 := by
  rw [app_size, app_size, run_size]
  omega
 have hcl := cntR_le (sign ++ (run 48 k ++ digT (decide (c = 88)) b size))
 have hw := wdt_le wid
 generalize sign ++ (run 48 k ++ digT (decide (c = 88)) b size) = r at *
 have hww : ((wdt ((wdt wid : Nat) - (cntR r : Nat) : Int) : Nat) : Int) = max 0 ((wdt wid : Nat) - (cntR r : Nat) : Int) := by
  unfold wdt at *
  omega
 unfold padS
 generalize wdt ((wdt wid : Nat) - (cntR r : Nat) : Int) = q at *
 cases mi
 ·simp only [Bool.false_eq_true, if_false]
  refine ⟨e2, by rw [app_size, run_size]; omega, by rw [app_size, run_size]; omega, q, k, 0, ?_⟩
  rw [ByteArray.data_append, Array.toList_append, rd_runl, hL]
  simp [nmL]
 ·simp only [if_true]
  refine ⟨e2, by rw [app_size, run_size]; omega, by rw [app_size, run_size]; omega, 0, k, q, ?_⟩
  rw [ByteArray.data_append, Array.toList_append, rd_runl, hL]
  simp [nmL, List.append_assoc]
end Go.Proofs.YtjalgdfnehgocaaGreatDoor
