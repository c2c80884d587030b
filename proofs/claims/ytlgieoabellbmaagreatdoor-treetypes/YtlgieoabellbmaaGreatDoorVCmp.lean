/- cmp.Compare, cmp.Or; values' Cmp, round rankOf. -/
import Derived.Test.YtlgieoabellbmaaGreatDoorVMark
import Derived.Deep.RegionHeld
import Derived.Deep.LoopGhost
namespace Go.Proofs.YtlgieoabellbmaaGreatDoor
open Go.RowKit
set_option linter.unusedVariables false
set_option linter.unusedSimpArgs false
def cmpI (x y : Int) : Int := if x < y then -1 else if y < x then 1 else 0
def cmpS (a b : ByteArray) : Int := if Op.bytesLess a.toList b.toList then -1 else if a.toList == b.toList then 0 else 1
theorem ccmpI_any (x y : Int) (w : World) : Calls Tryz.prog 145 #[.int .i64 x, .int .i64 y] w fun e w' => e = .returned (.int .i64 (cmpI x y)) ∧ w' = w := by
 by_cases h1 : x < y
 ·go_enter Tryz.func145, Tryz.ntmps145
  go_wp2
  go_ret
  exact ⟨by simp [cmpI, h1], rfl⟩
 ·by_cases h2 : y < x
  ·have e : cmpI x y = 1 := by unfold cmpI; rw [if_neg h1, if_pos h2]
   rw [e]
   go_enter Tryz.func145, Tryz.ntmps145
   go_wp2
   go_ret
   exact ⟨rfl, rfl⟩
  ·have e : cmpI x y = 0 := by unfold cmpI; rw [if_neg h1, if_neg h2]
   rw [e]
   go_enter Tryz.func145, Tryz.ntmps145
   go_wp2
   go_ret
   exact ⟨rfl, rfl⟩
theorem ccmpU_any (x y : Int) (w : World) : Calls Tryz.prog 146 #[.int .u64 x, .int .u64 y] w fun e w' => e = .returned (.int .i64 (cmpI x y)) ∧ w' = w := by
 by_cases h1 : x < y
 ·go_enter Tryz.func146, Tryz.ntmps146
  go_wp2
  go_ret
  exact ⟨by simp [cmpI, h1], rfl⟩
 ·by_cases h2 : y < x
  ·have e : cmpI x y = 1 := by unfold cmpI; rw [if_neg h1, if_pos h2]
   rw [e]
   go_enter Tryz.func146, Tryz.ntmps146
   go_wp2
   go_ret
   exact ⟨rfl, rfl⟩
  ·have e : cmpI x y = 0 := by unfold cmpI; rw [if_neg h1, if_neg h2]
   rw [e]
   go_enter Tryz.func146, Tryz.ntmps146
   go_wp2
   go_ret
   exact ⟨rfl, rfl⟩
theorem ccmpS_any (a b : ByteArray) (w : World) : Calls Tryz.prog 147 #[.string a, .string b] w fun e w' => e = .returned (.int .i64 (cmpS a b)) ∧ w' = w := by
 rcases Bool.eq_false_or_eq_true (Op.bytesLess a.toList b.toList) with h1 | h1
 ·have e : cmpS a b = -1 := by unfold cmpS; rw [h1]; rfl
  rw [e]
  go_enter Tryz.func147, Tryz.ntmps147
  go_wp2
  go_ret
  exact ⟨rfl, rfl⟩
 ·rcases Bool.eq_false_or_eq_true (a.toList == b.toList) with h2 | h2
  ·have e : cmpS a b = 0 := by unfold cmpS; rw [h1, h2]; rfl
   rw [e]
   go_enter Tryz.func147, Tryz.ntmps147
   go_wp2
   go_ret
   exact ⟨rfl, rfl⟩
  ·have e : cmpS a b = 1 := by unfold cmpS; rw [h1, h2]; rfl
   rw [e]
   go_enter Tryz.func147, Tryz.ntmps147
   go_wp2
   go_ret
   exact ⟨rfl, rfl⟩
def or4 (a b c d : Int) : Int := if a ≠ 0 then a else if b ≠ 0 then b else if c ≠ 0 then c else d
set_option maxRecDepth 1000000 in
set_option maxHeartbeats 1000000 in
theorem cor_any (a b c d : Int) (g : Nat) (w : World) (h0 : w.cell? ⟨g, 0, none⟩ = some (.int .i64 a)) (h1 : w.cell? ⟨g, 1, none⟩ = some (.int .i64 b)) (h2 : w.cell? ⟨g, 2, none⟩ = some (.int .i64 c)) (h3 : w.cell? ⟨g, 3, none⟩ = some (.int .i64 d)) :
  Calls Tryz.prog 144 #[.slice (some ⟨g, 0, none⟩) 4 4] w fun e w' => e = .returned (.int .i64 (or4 a b c d)) ∧ w' = w := by
 have fin : ∀ x y : Int, x = y → Ending.returned (.int .i64 x) = Ending.returned (.int .i64 y) := fun _ _ h => by rw [h]
 by_cases ha : a = 0
 ·subst ha
  by_cases hb : b = 0
  ·subst hb
   by_cases hc : c = 0
   ·subst hc
    by_cases hd : d = 0
    ·subst hd
     go_enter Tryz.func144, Tryz.ntmps144
     go_wp2
     refine wp_loop_rounds 5 ?_
     iterate 5 (rw [rounds_succ]; go_wp2)
     go_ret
     exact ⟨rfl, rfl⟩
    ·have e : (d != 0) = true := by simp [hd]
     have HO : Hid (or4 0 0 0 d = d) := by show or4 0 0 0 d = d; simp [or4]
     clear hd
     go_enter Tryz.func144, Tryz.ntmps144
     go_wp2
     refine wp_loop_rounds 4 ?_
     iterate 4 (rw [rounds_succ]; go_wp2)
     go_ret
     exact ⟨by rw [HO.out]; rfl, rfl⟩
   ·have e : (c != 0) = true := by simp [hc]
    have HO : Hid (or4 0 0 c d = c) := by show or4 0 0 c d = c; simp [or4, hc]
    clear hc
    go_enter Tryz.func144, Tryz.ntmps144
    go_wp2
    refine wp_loop_rounds 3 ?_
    iterate 3 (rw [rounds_succ]; go_wp2)
    go_ret
    exact ⟨by rw [HO.out]; rfl, rfl⟩
  ·have e : (b != 0) = true := by simp [hb]
   have HO : Hid (or4 0 b c d = b) := by show or4 0 b c d = b; simp [or4, hb]
   clear hb
   go_enter Tryz.func144, Tryz.ntmps144
   go_wp2
   refine wp_loop_rounds 2 ?_
   iterate 2 (rw [rounds_succ]; go_wp2)
   go_ret
   exact ⟨by rw [HO.out]; rfl, rfl⟩
 ·have e : (a != 0) = true := by simp [ha]
  have HO : Hid (or4 a b c d = a) := by show or4 a b c d = a; simp [or4, ha]
  clear ha
  go_enter Tryz.func144, Tryz.ntmps144
  go_wp2
  refine wp_loop_rounds 1 ?_
  rw [rounds_succ]
  go_wp2
  go_ret
  exact ⟨by rw [HO.out]; rfl, rfl⟩
structure Rk where
 k : Int
 n : Int
 s : ByteArray
 t : ByteArray
def cmpR (x y : Rk) : Int := or4 (cmpI x.k y.k) (cmpI x.n y.n) (cmpS x.s y.s) (cmpS x.t y.t)
def RkC (v : Value) (r : Rk) : Prop := ∀ W, Calls Tryz.prog 143 #[v] W fun e w' => e = .returned (.agg #[.int .i64 r.k, .int .u64 r.n, .string r.s, .string r.t]) ∧ Below W.heap.size W w'
set_option maxRecDepth 1000000 in
set_option maxHeartbeats 4000000 in
theorem cmp_any (v1 v2 : Value) (x y : Rk) (h1 : RkC v1 x) (h2 : RkC v2 y) (w : World) :
  Calls Tryz.prog 104 #[v1, v2] w fun e w' => e = .returned (.int .i64 (cmpR x y)) ∧ Below w.heap.size w w' := by
 go_enter Tryz.func104, Tryz.ntmps104
 go_wp2_with fail
 refine (h1 _).mono ?_
 rintro e V1 ⟨rfl, hV1⟩
 go_wp2_with fail
 refine (h2 _).mono ?_
 rintro e V2 ⟨rfl, hV2⟩
 have hb2 : Below w.heap.size w V2 := hV1.trans (hV2.mono hV1.size)
 clear h1 h2 hV1 hV2
 obtain ⟨W2, hW2⟩ : ∃ W2, W2 = (V2.alloc (.cells #[.int .i64 x.k, .int .u64 x.n, .string x.s, .string x.t] 214)).alloc (.cells #[.int .i64 y.k, .int .u64 y.n, .string y.s, .string y.t] 214) := ⟨_, rfl⟩
 have hbW : Below w.heap.size w W2 := by rw [hW2]; exact (hb2.alloc hb2.size _).alloc (by have := hb2.size; simp; omega) _
 have f0 : ∀ V, Below W2.heap.size W2 V → (fun w' => w'.cell? ⟨V2.heap.size, 0, none⟩ = some (.int .i64 x.k) ∧ w'.cell? ⟨V2.heap.size, 1, none⟩ = some (.int .u64 x.n) ∧ w'.cell? ⟨V2.heap.size, 2, none⟩ = some (.string x.s) ∧ w'.cell? ⟨V2.heap.size, 3, none⟩ = some (.string x.t) ∧ w'.cell? ⟨V2.heap.size + 1, 0, none⟩ = some (.int .i64 y.k) ∧ w'.cell? ⟨V2.heap.size + 1, 1, none⟩ = some (.int .u64 y.n) ∧ w'.cell? ⟨V2.heap.size + 1, 2, none⟩ = some (.string y.s) ∧ w'.cell? ⟨V2.heap.size + 1, 3, none⟩ = some (.string y.t)) V := by
  intro V hV
  refine ⟨?_, ?_, ?_, ?_, ?_, ?_, ?_, ?_⟩
  all_goals exact up_cell hV (by rw [hW2]; simp [go_sem])
 go_wp2
 rw [← hW2]
 clear hW2
 refine wp_region_held_drew (S := fun w' => w'.cell? ⟨V2.heap.size, 0, none⟩ = some (.int .i64 x.k) ∧ w'.cell? ⟨V2.heap.size, 1, none⟩ = some (.int .u64 x.n) ∧ w'.cell? ⟨V2.heap.size, 2, none⟩ = some (.string x.s) ∧ w'.cell? ⟨V2.heap.size, 3, none⟩ = some (.string x.t) ∧ w'.cell? ⟨V2.heap.size + 1, 0, none⟩ = some (.int .i64 y.k) ∧ w'.cell? ⟨V2.heap.size + 1, 1, none⟩ = some (.int .u64 y.n) ∧ w'.cell? ⟨V2.heap.size + 1, 2, none⟩ = some (.string y.s) ∧ w'.cell? ⟨V2.heap.size + 1, 3, none⟩ = some (.string y.t)) (by kernel_rfl) (f0 _ (Below.refl W2.heap.size W2).drew) ?_
 intro hS
 refine tk 0 (.pointer (some ⟨V2.heap.size, 0, none⟩)) rfl (by kernel_rfl) (fun _ _ _ h => h) (by rfl) (by assumption) ?_ ?_
 ·intro w5 hSw
  obtain ⟨x0, x1, x2, x3, y0, y1, y2, y3⟩ := hSw
  go_simp
 simp only [Act.put, List.setIfInBounds_toArray, List.set_cons_zero, List.set_cons_succ]
 refine tk 1 (.int .i64 x.k) rfl (by kernel_rfl) (fun _ _ _ h => h) (by rfl) (by assumption) ?_ ?_
 ·intro w5 hSw
  obtain ⟨x0, x1, x2, x3, y0, y1, y2, y3⟩ := hSw
  go_simp
 simp only [Act.put, List.setIfInBounds_toArray, List.set_cons_zero, List.set_cons_succ]
 refine tk 2 (.pointer (some ⟨V2.heap.size + 1, 0, none⟩)) rfl (by kernel_rfl) (fun _ _ _ h => h) (by rfl) (by assumption) ?_ ?_
 ·intro w5 hSw
  obtain ⟨x0, x1, x2, x3, y0, y1, y2, y3⟩ := hSw
  go_simp
 simp only [Act.put, List.setIfInBounds_toArray, List.set_cons_zero, List.set_cons_succ]
 refine tk 3 (.int .i64 y.k) rfl (by kernel_rfl) (fun _ _ _ h => h) (by rfl) (by assumption) ?_ ?_
 ·intro w5 hSw
  obtain ⟨x0, x1, x2, x3, y0, y1, y2, y3⟩ := hSw
  go_simp
 simp only [Act.put, List.setIfInBounds_toArray, List.set_cons_zero, List.set_cons_succ]
 refine tk 5 (.pointer (some ⟨V2.heap.size, 1, none⟩)) rfl (by kernel_rfl) (fun _ _ _ h => h) (by rfl) (by assumption) ?_ ?_
 ·intro w5 hSw
  obtain ⟨x0, x1, x2, x3, y0, y1, y2, y3⟩ := hSw
  go_simp
 simp only [Act.put, List.setIfInBounds_toArray, List.set_cons_zero, List.set_cons_succ]
 refine tk 6 (.int .u64 x.n) rfl (by kernel_rfl) (fun _ _ _ h => h) (by rfl) (by assumption) ?_ ?_
 ·intro w5 hSw
  obtain ⟨x0, x1, x2, x3, y0, y1, y2, y3⟩ := hSw
  go_simp
 simp only [Act.put, List.setIfInBounds_toArray, List.set_cons_zero, List.set_cons_succ]
 refine tk 7 (.pointer (some ⟨V2.heap.size + 1, 1, none⟩)) rfl (by kernel_rfl) (fun _ _ _ h => h) (by rfl) (by assumption) ?_ ?_
 ·intro w5 hSw
  obtain ⟨x0, x1, x2, x3, y0, y1, y2, y3⟩ := hSw
  go_simp
 simp only [Act.put, List.setIfInBounds_toArray, List.set_cons_zero, List.set_cons_succ]
 refine tk 8 (.int .u64 y.n) rfl (by kernel_rfl) (fun _ _ _ h => h) (by rfl) (by assumption) ?_ ?_
 ·intro w5 hSw
  obtain ⟨x0, x1, x2, x3, y0, y1, y2, y3⟩ := hSw
  go_simp
 simp only [Act.put, List.setIfInBounds_toArray, List.set_cons_zero, List.set_cons_succ]
 refine tk 10 (.pointer (some ⟨V2.heap.size, 2, none⟩)) rfl (by kernel_rfl) (fun _ _ _ h => h) (by rfl) (by assumption) ?_ ?_
 ·intro w5 hSw
  obtain ⟨x0, x1, x2, x3, y0, y1, y2, y3⟩ := hSw
  go_simp
 simp only [Act.put, List.setIfInBounds_toArray, List.set_cons_zero, List.set_cons_succ]
 refine tk 11 (.string x.s) rfl (by kernel_rfl) (fun _ _ _ h => h) (by rfl) (by assumption) ?_ ?_
 ·intro w5 hSw
  obtain ⟨x0, x1, x2, x3, y0, y1, y2, y3⟩ := hSw
  go_simp
 simp only [Act.put, List.setIfInBounds_toArray, List.set_cons_zero, List.set_cons_succ]
 refine tk 12 (.pointer (some ⟨V2.heap.size + 1, 2, none⟩)) rfl (by kernel_rfl) (fun _ _ _ h => h) (by rfl) (by assumption) ?_ ?_
 ·intro w5 hSw
  obtain ⟨x0, x1, x2, x3, y0, y1, y2, y3⟩ := hSw
  go_simp
 simp only [Act.put, List.setIfInBounds_toArray, List.set_cons_zero, List.set_cons_succ]
 refine tk 13 (.string y.s) rfl (by kernel_rfl) (fun _ _ _ h => h) (by rfl) (by assumption) ?_ ?_
 ·intro w5 hSw
  obtain ⟨x0, x1, x2, x3, y0, y1, y2, y3⟩ := hSw
  go_simp
 simp only [Act.put, List.setIfInBounds_toArray, List.set_cons_zero, List.set_cons_succ]
 refine tk 15 (.pointer (some ⟨V2.heap.size, 3, none⟩)) rfl (by kernel_rfl) (fun _ _ _ h => h) (by rfl) (by assumption) ?_ ?_
 ·intro w5 hSw
  obtain ⟨x0, x1, x2, x3, y0, y1, y2, y3⟩ := hSw
  go_simp
 simp only [Act.put, List.setIfInBounds_toArray, List.set_cons_zero, List.set_cons_succ]
 refine tk 16 (.string x.t) rfl (by kernel_rfl) (fun _ _ _ h => h) (by rfl) (by assumption) ?_ ?_
 ·intro w5 hSw
  obtain ⟨x0, x1, x2, x3, y0, y1, y2, y3⟩ := hSw
  go_simp
 simp only [Act.put, List.setIfInBounds_toArray, List.set_cons_zero, List.set_cons_succ]
 refine tk 17 (.pointer (some ⟨V2.heap.size + 1, 3, none⟩)) rfl (by kernel_rfl) (fun _ _ _ h => h) (by rfl) (by assumption) ?_ ?_
 ·intro w5 hSw
  obtain ⟨x0, x1, x2, x3, y0, y1, y2, y3⟩ := hSw
  go_simp
 simp only [Act.put, List.setIfInBounds_toArray, List.set_cons_zero, List.set_cons_succ]
 refine tk 18 (.string y.t) rfl (by kernel_rfl) (fun _ _ _ h => h) (by rfl) (by assumption) ?_ ?_
 ·intro w5 hSw
  obtain ⟨x0, x1, x2, x3, y0, y1, y2, y3⟩ := hSw
  go_simp
 simp only [Act.put, List.setIfInBounds_toArray, List.set_cons_zero, List.set_cons_succ]
 refine rd1 4 (by kernel_rfl) rfl fun K1 hK1 => ?_
 go_simp
 refine (ccmpI_any _ _ _).mono ?_
 rintro e Z1 ⟨rfl, hZ⟩
 rw [hZ]
 clear hZ Z1
 refine hK1.out _ _ (f0 _ (Below.refl W2.heap.size W2).drew) (fun _ => ?_)
 refine rd1 9 (by kernel_rfl) rfl fun K2 hK2 => ?_
 go_simp
 refine (ccmpU_any _ _ _).mono ?_
 rintro e Z2 ⟨rfl, hZ⟩
 rw [hZ]
 clear hZ Z2
 refine hK2.out _ _ (f0 _ (Below.refl W2.heap.size W2).drew) (fun _ => ?_)
 refine rd1 14 (by kernel_rfl) rfl fun K3 hK3 => ?_
 go_simp
 refine (ccmpS_any _ _ _).mono ?_
 rintro e Z3 ⟨rfl, hZ⟩
 rw [hZ]
 clear hZ Z3
 refine hK3.out _ _ (f0 _ (Below.refl W2.heap.size W2).drew) (fun _ => ?_)
 refine rd1 19 (by kernel_rfl) rfl fun K4 hK4 => ?_
 go_simp
 refine (ccmpS_any _ _ _).mono ?_
 rintro e Z4 ⟨rfl, hZ⟩
 rw [hZ]
 clear hZ Z4
 refine hK4.out _ _ (f0 _ (Below.refl W2.heap.size W2).drew) (fun _ => ?_)
 refine rd1 20 (by kernel_rfl) rfl fun K5 hK5 => ?_
 go_simp
 obtain ⟨W4, hW4⟩ : ∃ W4, W4 = (W2.alloc (.cells #[.int .i64 (cmpI x.k y.k), .int .i64 (cmpI x.n y.n), .int .i64 (cmpS x.s y.s), .int .i64 (cmpS x.t y.t)] 3)).drew := ⟨_, rfl⟩
 have hb4 : Below W2.heap.size W2 W4 := by rw [hW4]; exact ((Below.refl _ _).alloc (Nat.le_refl _) _).drew
 have ho := cor_any (cmpI x.k y.k) (cmpI x.n y.n) (cmpS x.s y.s) (cmpS x.t y.t) W2.heap.size W4 (by rw [hW4]; simp [go_sem]) (by rw [hW4]; simp [go_sem]) (by rw [hW4]; simp [go_sem]) (by rw [hW4]; simp [go_sem])
 rw [← hW4]
 clear hW4
 refine hK5.out _ _ (f0 W4 hb4) (fun _ => ?_)
 refine rd1 21 (by kernel_rfl) rfl fun K6 hK6 => ?_
 go_simp
 refine ho.mono ?_
 rintro e Z6 ⟨rfl, hZ⟩
 rw [hZ]
 clear hZ Z6
 refine hK6.out _ _ (f0 W4 hb4) (fun _ => ?_)
 refine rd1 22 (by kernel_rfl) rfl fun K7 hK7 => ?_
 go_simp
 refine hK7.out _ _ (f0 W4 hb4) (fun _ => ?_)
 refine wpAnyH_done (by kernel_rfl) ?_ _
 clear hK1 hK2 hK3 hK4 hK5 hK6 hK7 ho
 go_wp2
 go_ret
 exact ⟨rfl, hbW.trans (hb4.mono hbW.size)⟩
end Go.Proofs.YtlgieoabellbmaaGreatDoor
