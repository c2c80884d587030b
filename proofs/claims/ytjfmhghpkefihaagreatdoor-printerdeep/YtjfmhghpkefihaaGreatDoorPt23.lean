/- BExtra, ZExt: these texts in one. -/
import Derived.Test.YtjfmhghpkefihaaGreatDoorABad
import Derived.Deep.RegionHeld
import Derived.Deep.LoopGhost
import Derived.Deep.RegionWith
import Derived.Deep.DeepCutAuto
import Derived.Deep.CutBlock
import Derived.Maps.AppendAt
import Derived.OwnWalk
import Derived.Test.YtjfmhghpkefihaaGreatDoorPt22
namespace Go.Proofs.YtjfmhghpkefihaaGreatDoor
open Go.RowKit
set_option linter.unusedVariables false
set_option linter.unusedSimpArgs false
def insL : List ByteArray → List ByteArray → Nat → List ByteArray
 | xs, ys, 0 => [⟨#[69, 88, 84, 82, 65, 32]⟩]
 | xs, ys, n + 1 => insL xs ys n ++ (if n = 0 then [] else [⟨#[44, 32]⟩]) ++ [xs.getD n ⟨#[]⟩, ⟨#[61]⟩, ys.getD n ⟨#[]⟩]
theorem insL_len (xs ys : List ByteArray) : ∀ n, (insL xs ys n).length ≤ 1 + 4 * n
 | 0 => by simp [insL]
 | n + 1 => by
   have := insL_len xs ys n
   unfold insL
   split <;> simp <;> omega
theorem insL_size (xs ys : List ByteArray) (hx : ∀ x ∈ xs, x.size ≤ 1000) (hy : ∀ y ∈ ys, y.size ≤ 1000) : ∀ n, ((insL xs ys n).flatMap (·.data.toList)).length ≤ 6 + 2003 * n
 | 0 => by simp [insL]
 | n + 1 => by
   have h := insL_size xs ys hx hy n
   have e : ∀ (l : List ByteArray), (∀ x ∈ l, x.size ≤ 1000) → (l.getD n ⟨#[]⟩).data.toList.length ≤ 1000 := fun l hl => by
    rw [list_len]
    by_cases hn : n < l.length
    ·have : l.getD n ⟨#[]⟩ = l[n] := by simp [List.getD, hn]
     rw [this]
     exact hl _ (List.getElem_mem hn)
    ·have : l.getD n ⟨#[]⟩ = ⟨#[]⟩ := by simp [List.getD, hn]
     rw [this]; exact Nat.zero_le _
   have h1 := e xs hx
   have h2 := e ys hy
   unfold insL
   rw [List.flatMap_append, List.flatMap_append, List.length_append, List.length_append]
   have h3 : ((if n = 0 then [] else [(⟨#[44, 32]⟩ : ByteArray)]).flatMap (·.data.toList)).length ≤ 2 := by split <;> simp
   have h4 : ([xs.getD n ⟨#[]⟩, (⟨#[61]⟩ : ByteArray), ys.getD n ⟨#[]⟩].flatMap (·.data.toList)).length = (xs.getD n ⟨#[]⟩).data.toList.length + 1 + (ys.getD n ⟨#[]⟩).data.toList.length := by simp; omega
   omega
theorem own_sliceB {w : World} {b : Nat} {e : TypeId} {z : Nat} {v : Value} {n : Nat} {xs : List Value} (h : w.ownsRow b e z v n xs) : ∃ a c, v = .slice a n c ∧ n ≤ c ∧ c ≤ maxLen := by
 rcases h.2 with ⟨rfl, rfl⟩ | ⟨g, cap, cur, rfl, -, -, h4, h5, -⟩
 ·exact ⟨none, 0, rfl, by omega, by omega⟩
 ·exact ⟨_, _, rfl, h4, h5⟩
set_option maxRecDepth 1000000 in
set_option maxHeartbeats 4000000 in
theorem bextra_any (xs ys : List ByteArray) (a1 a2 : Option Addr) (c1 c2 : Nat) (w : World) (hx : ∀ x ∈ xs, x.size ≤ 1000) (hy : ∀ y ∈ ys, y.size ≤ 1000) (hlx : xs.length ≤ 40) (hly : ys.length ≤ 40)
  (h1 : ∀ (j : Nat) x, xs[j]? = some x → ∃ g, a1 = some ⟨g, 0, none⟩ ∧ w.cell? ⟨g, j, none⟩ = some (.string x)) (h2 : ∀ (j : Nat) y, ys[j]? = some y → ∃ g, a2 = some ⟨g, 0, none⟩ ∧ w.cell? ⟨g, j, none⟩ = some (.string y)) :
  Calls Tryz.prog 48 #[.slice a1 xs.length c1, .slice a2 ys.length c2] w fun e w' => e = .returned (.string (bT [] ((insL xs ys (min xs.length ys.length)).flatMap (·.data.toList)))) ∧ Below w.heap.size w w' := by
 obtain ⟨i0, hi⟩ : ∃ i0, Tryz.prog.info? 9 = some i0 := ⟨_, rfl⟩
 have hz0 : i0.zero = some (.string ⟨#[]⟩) := by
  have : (Tryz.prog.info? 9).bind (·.zero) = some (.string ⟨#[]⟩) := by kernel_rfl
  rw [hi] at this; exact this
 have hz1 : i0.size = 1 := by
  have : (Tryz.prog.info? 9).map (·.size) = some 1 := by kernel_rfl
  rw [hi] at this; exact Option.some.inj this
 have hz2 : i0.bytes = 16 := by
  have : (Tryz.prog.info? 9).map (·.bytes) = some 16 := by kernel_rfl
  rw [hi] at this; exact Option.some.inj this
 obtain ⟨k, hk⟩ : ∃ k, min xs.length ys.length = k := ⟨_, rfl⟩
 have hkx : k ≤ xs.length := by omega
 have hky : k ≤ ys.length := by omega
 rw [hk]
 have hkI : min (xs.length : Int) (ys.length : Int) = (k : Int) := by omega
 obtain ⟨W1, hW1⟩ : ∃ W1, W1 = w.alloc (.cells #[.string ⟨#[69, 88, 84, 82, 65, 32]⟩] 9) := ⟨_, rfl⟩
 have hb1 : Below w.heap.size w W1 := by rw [hW1]; exact (Below.refl _ _).alloc (Nat.le_refl _) _
 have ho1 : W1.ownsRow w.heap.size 9 1 (.slice (some ⟨w.heap.size, 0, none⟩) 1 1) 1 ((insL xs ys 0).map Value.string) := by
  rw [hW1]
  exact World.ownsRow_lit w #[.string ⟨#[69, 88, 84, 82, 65, 32]⟩] 1 (Nat.le_refl _) (by decide) rfl
 have HK : Hid (min xs.length ys.length = k) := hk
 clear hk
 go_enter Tryz.func48, Tryz.ntmps48
 go_upto_region 2 with fail
 rw [← hW1]
 clear hW1
 go_cut [12, 13] (fun x y wx => x = .int .i64 (k : Nat) ∧ y = .int .i64 0 ∧ wx = W1)
 case first =>
  go_wp2
  all_goals
   go_meet
   refine ⟨?_, rfl, rfl⟩
   have := HK.out
  all_goals first | rfl | (congr 1; omega)
 case rest =>
  obtain ⟨rfl, rfl, hw⟩ := hcut
  have hw2 : W1 = wc := hw.symm
  subst hw2
  clear hw hkI
  go_wp2_with fail
  go_loopg [5, 6, 13] k (fun g sv xv iv wr => ∃ (i : Nat) (ins : List ByteArray), iv = .int .i64 (i : Nat) ∧ i + g = k ∧ Hid (ins = insL xs ys i) ∧ wr.ownsRow w.heap.size 9 1 sv ins.length (ins.map Value.string) ∧ Below w.heap.size w wr)
  case atStart => exact ⟨0, insL xs ys 0, rfl, by omega, rfl, ho1, hb1⟩
  case round =>
   obtain ⟨i, ins, rfl, hik, HI, hown, hb⟩ := hrel
   clear ho1 hb1
   obtain ⟨ao, ca, rfl, hca, hcm⟩ := own_sliceB hown
   have hil : ins.length ≤ 1 + 4 * i := by rw [HI.out]; exact insL_len _ _ _
   by_cases hlt : i < k
   ·have hltI : (i : Int) < k := by omega
    obtain ⟨x, hxi⟩ : ∃ x, xs[i]? = some x := ⟨_, List.getElem?_eq_getElem (by omega)⟩
    obtain ⟨y, hyi⟩ : ∃ y, ys[i]? = some y := ⟨_, List.getElem?_eq_getElem (by omega)⟩
    obtain ⟨gt, rfl, ct⟩ := h1 i x hxi
    obtain ⟨gv, rfl, cv⟩ := h2 i y hyi
    have hgt : gt < w.heap.size := by
     rcases Nat.lt_or_ge gt w.heap.size with h | h
     ·exact h
     ·simp [World.cell?, Array.getElem?_eq_none h] at ct
    have hgv : gv < w.heap.size := by
     rcases Nat.lt_or_ge gv w.heap.size with h | h
     ·exact h
     ·simp [World.cell?, Array.getElem?_eq_none h] at cv
    have dx : xs.getD i ⟨#[]⟩ = x := by simp [List.getD, hxi]
    have dy : ys.getD i ⟨#[]⟩ = y := by simp [List.getD, hyi]
    have hixI : (i : Int) < xs.length := by omega
    have hiyI : (i : Int) < ys.length := by omega
    have HS : Hid (∀ l : List ByteArray, l = ins ++ (if i = 0 then [] else [⟨#[44, 32]⟩]) → l ++ [x, ⟨#[61]⟩, y] = insL xs ys (i + 1)) := fun l hl => by
     rw [hl, HI.out]
     show _ = insL xs ys i ++ (if i = 0 then [] else [⟨#[44, 32]⟩]) ++ [xs.getD i ⟨#[]⟩, ⟨#[61]⟩, ys.getD i ⟨#[]⟩]
     rw [dx, dy]
    clear hxi hyi dx dy h1 h2 HI
    have tail : ∀ (ins : List ByteArray) (ao : Option Addr) (ca : Nat) (wr : World), True := fun _ _ _ _ => trivial
    by_cases hi0 : i = 0
    ·subst hi0
     have hgi : ¬ 0 < (0 : Int) := by omega
     have hxn : ¬ xs = [] := fun e => by rw [e] at hkx; simp at hkx; omega
     have hyn : ¬ ys = [] := fun e => by rw [e] at hky; simp at hky; omega
     go_upto_region 7 with fail
     have q0 : wr.cell? ⟨gt, 0, none⟩ = some (.string x) := (hb.cell (p := ⟨gt, 0, none⟩) hgt).trans ct
     have q1 : wr.cell? ⟨gv, 0, none⟩ = some (.string y) := (hb.cell (p := ⟨gv, 0, none⟩) hgv).trans cv
     refine wp_region_held_drew (S := fun w' => w'.cell? ⟨gt, 0, none⟩ = some (.string x) ∧ w'.cell? ⟨gv, 0, none⟩ = some (.string y)) (by kernel_rfl) ⟨q0, q1⟩ ?_
     intro hS
     refine tk 0 (.slice ao ins.length ca) rfl (by kernel_rfl) (fun _ _ _ h => h) (by rfl) (by assumption) ?_ ?_
     ·intro w5 hSw
      obtain ⟨s0, s1⟩ := hSw
      go_simp
     simp only [Act.put, List.setIfInBounds_toArray, List.set_cons_zero, List.set_cons_succ]
     refine tk 1 (.slice (some ⟨gt, 0, none⟩) xs.length c1) rfl (by kernel_rfl) (fun _ _ _ h => h) (by rfl) (by assumption) ?_ ?_
     ·intro w5 hSw
      obtain ⟨s0, s1⟩ := hSw
      go_simp
     simp only [Act.put, List.setIfInBounds_toArray, List.set_cons_zero, List.set_cons_succ]
     refine tk 2 (.int .i64 0) rfl (by kernel_rfl) (fun _ _ _ h => h) (by rfl) (by assumption) ?_ ?_
     ·intro w5 hSw
      obtain ⟨s0, s1⟩ := hSw
      go_simp
     simp only [Act.put, List.setIfInBounds_toArray, List.set_cons_zero, List.set_cons_succ]
     refine tk 3 (.pointer (some ⟨gt, 0, none⟩)) rfl (by kernel_rfl) (fun _ _ _ h => h) (by rfl) (by assumption) ?_ ?_
     ·intro w5 hSw
      obtain ⟨s0, s1⟩ := hSw
      go_simp
     simp only [Act.put, List.setIfInBounds_toArray, List.set_cons_zero, List.set_cons_succ]
     refine tk 4 (.string x) rfl (by kernel_rfl) (fun _ _ _ h => h) (by rfl) (by assumption) ?_ ?_
     ·intro w5 hSw
      obtain ⟨s0, s1⟩ := hSw
      go_simp
     simp only [Act.put, List.setIfInBounds_toArray, List.set_cons_zero, List.set_cons_succ]
     refine tk 5 (.slice (some ⟨gv, 0, none⟩) ys.length c2) rfl (by kernel_rfl) (fun _ _ _ h => h) (by rfl) (by assumption) ?_ ?_
     ·intro w5 hSw
      obtain ⟨s0, s1⟩ := hSw
      go_simp
     simp only [Act.put, List.setIfInBounds_toArray, List.set_cons_zero, List.set_cons_succ]
     refine tk 6 (.int .i64 0) rfl (by kernel_rfl) (fun _ _ _ h => h) (by rfl) (by assumption) ?_ ?_
     ·intro w5 hSw
      obtain ⟨s0, s1⟩ := hSw
      go_simp
     simp only [Act.put, List.setIfInBounds_toArray, List.set_cons_zero, List.set_cons_succ]
     refine tk 7 (.pointer (some ⟨gv, 0, none⟩)) rfl (by kernel_rfl) (fun _ _ _ h => h) (by rfl) (by assumption) ?_ ?_
     ·intro w5 hSw
      obtain ⟨s0, s1⟩ := hSw
      go_simp
     simp only [Act.put, List.setIfInBounds_toArray, List.set_cons_zero, List.set_cons_succ]
     refine tk 8 (.string y) rfl (by kernel_rfl) (fun _ _ _ h => h) (by rfl) (by assumption) ?_ ?_
     ·intro w5 hSw
      obtain ⟨s0, s1⟩ := hSw
      go_simp
     simp only [Act.put, List.setIfInBounds_toArray, List.set_cons_zero, List.set_cons_succ]
     refine rd1 9 (by kernel_rfl) rfl fun K1 hK1 => ?_
     go_simp
     have r0 : (wr.drew.alloc (.cells #[.string x, .string ⟨#[61]⟩, .string y] 9)).cell? ⟨gt, 0, none⟩ = some (.string x) := (World.cell?_alloc_old _ _ _ (by have := hb.size; simp; omega)).trans q0
     have r1 : (wr.drew.alloc (.cells #[.string x, .string ⟨#[61]⟩, .string y] 9)).cell? ⟨gv, 0, none⟩ = some (.string y) := (World.cell?_alloc_old _ _ _ (by have := hb.size; simp; omega)).trans q1
     refine hK1.out _ _ ⟨r0, r1⟩ (fun _ => ?_)
     refine rd1 10 (by kernel_rfl) rfl fun K2 hK2 => ?_
     rw [if_pos (by rfl)]
     refine wp_append_own _ _ _ 26 rfl w.heap.size 9 i0 _ 1 16 Tryz.underlying26 hi hz0 hz1 hz2 rfl (by decide) _ _ _ rfl (hown.alloc _) ⟨wr.heap.size, 0, none⟩ 3 3 [.string x, .string ⟨#[61]⟩, .string y] rfl rfl ?d1 ?d2 ?d3 ?d4 ?d5 ?_
     case d1 =>
      intro j u hj
      rw [show ((⟨wr.heap.size, 0, none⟩ : Addr).add j) = ⟨wr.heap.size, j, none⟩ by unfold Addr.add; split <;> simp_all]
      exact (cell_of_row (wr.alloc (.cells #[.string x, .string ⟨#[61]⟩, .string y] 9)) wr.heap.size j #[.string x, .string ⟨#[61]⟩, .string y] 9 (0, 0) (heap_alloc_new wr _)).trans (by simpa using hj)
     case d2 => intro u hu; simp at hu; rcases hu with rfl | rfl | rfl <;> rfl
     case d3 => unfold maxLen; omega
     case d4 => omega
     case d5 => have := hb.size; simp; omega
     intro v' w7 o7 g7 _
     have b7 : Below w.heap.size w w7 := ((hb.drew).alloc hb.size _).grown g7 (by have := hb.size; simp; omega) (fun kk hkk => (hown.lt kk hkk).1)
     refine hK2.out _ _ ⟨(b7.cell (p := ⟨gt, 0, none⟩) hgt).trans ct, (b7.cell (p := ⟨gv, 0, none⟩) hgv).trans cv⟩ (fun _ => ?_)
     obtain ⟨a7, c7, rfl, -, -⟩ := own_sliceB o7
     refine rd1 11 (by kernel_rfl) rfl fun K3 hK3 => ?_
     go_simp
     refine hK3.out _ _ ⟨(b7.cell (p := ⟨gt, 0, none⟩) hgt).trans ct, (b7.cell (p := ⟨gv, 0, none⟩) hgv).trans cv⟩ (fun _ => ?_)
     refine wpAnyH_done (by kernel_rfl) ?_ _
     have o8 : w7.ownsRow w.heap.size 9 1 (.slice a7 (ins.length + 3) c7) (ins ++ [x, ⟨#[61]⟩, y]).length ((ins ++ [x, ⟨#[61]⟩, y]).map Value.string) := by
      rw [List.map_append, show (ins ++ [x, (⟨#[61]⟩ : ByteArray), y]).length = ins.length + 3 by simp]
      exact o7
     clear o7 g7
     go_wp2
     go_roundg (gk - 1)
     case measure => omega
     case rel => exact ⟨1, ins ++ [x, ⟨#[61]⟩, y], by go_num, by omega, by show _ = insL xs ys 1; exact HS.out ins (by simp), o8, b7⟩
    ·have hgi : 0 < (i : Int) := by omega
     go_upto_region 7 with (at_builtin; refine wpList_append_own_at _ rfl _ _ 26 rfl w.heap.size 9 i0 _ 1 16 Tryz.underlying26 hi hz0 hz1 hz2 rfl (by decide) _ _ _ rfl (hown.alloc _) ⟨wr.heap.size, 0, none⟩ 1 1 [.string ⟨#[44, 32]⟩] rfl rfl ?c1 ?c2 ?c3 ?c4 ?c5 ?_)
     case c1 =>
      intro j u hj
      match j, hj with
      | 0, hj => simp at hj; subst hj; simp [Addr.add]
     case c2 => intro u hu; simp at hu; subst hu; rfl
     case c3 => unfold maxLen; omega
     case c4 => omega
     case c5 => have := hb.size; simp; omega
     intro v3 w3 o3' g3 _ _
     have b3 : Below w.heap.size w w3 := (hb.alloc hb.size _).grown g3 (by have := hb.size; simp; omega) (fun kk hkk => (hown.lt kk hkk).1)
     obtain ⟨ao2, ca2, rfl, -, -⟩ := own_sliceB o3'
     have o3 : w3.ownsRow w.heap.size 9 1 (.slice ao2 (ins.length + 1) ca2) (ins.length + 1) ((ins ++ [(⟨#[44, 32]⟩ : ByteArray)]).map Value.string) := by
      rw [List.map_append]
      exact o3'
     clear o3' g3
     have hln : (ins ++ [(⟨#[44, 32]⟩ : ByteArray)]).length = ins.length + 1 := by simp
     go_upto_region 7 with fail
     have q0 : w3.cell? ⟨gt, i, none⟩ = some (.string x) := (b3.cell (p := ⟨gt, i, none⟩) hgt).trans ct
     have q1 : w3.cell? ⟨gv, i, none⟩ = some (.string y) := (b3.cell (p := ⟨gv, i, none⟩) hgv).trans cv
     refine wp_region_held_drew (S := fun w' => w'.cell? ⟨gt, i, none⟩ = some (.string x) ∧ w'.cell? ⟨gv, i, none⟩ = some (.string y)) (by kernel_rfl) ⟨q0, q1⟩ ?_
     intro hS
     refine tk 0 (.slice ao2 (ins.length + 1) ca2) rfl (by kernel_rfl) (fun _ _ _ h => h) (by rfl) (by assumption) ?_ ?_
     ·intro w5 hSw
      obtain ⟨s0, s1⟩ := hSw
      go_simp
     simp only [Act.put, List.setIfInBounds_toArray, List.set_cons_zero, List.set_cons_succ]
     refine tk 1 (.slice (some ⟨gt, 0, none⟩) xs.length c1) rfl (by kernel_rfl) (fun _ _ _ h => h) (by rfl) (by assumption) ?_ ?_
     ·intro w5 hSw
      obtain ⟨s0, s1⟩ := hSw
      go_simp
     simp only [Act.put, List.setIfInBounds_toArray, List.set_cons_zero, List.set_cons_succ]
     refine tk 2 (.int .i64 (i : Nat)) rfl (by kernel_rfl) (fun _ _ _ h => h) (by rfl) (by assumption) ?_ ?_
     ·intro w5 hSw
      obtain ⟨s0, s1⟩ := hSw
      go_simp
     simp only [Act.put, List.setIfInBounds_toArray, List.set_cons_zero, List.set_cons_succ]
     refine tk 3 (.pointer (some ⟨gt, i, none⟩)) rfl (by kernel_rfl) (fun _ _ _ h => h) (by rfl) (by assumption) ?_ ?_
     ·intro w5 hSw
      obtain ⟨s0, s1⟩ := hSw
      go_simp
     simp only [Act.put, List.setIfInBounds_toArray, List.set_cons_zero, List.set_cons_succ]
     refine tk 4 (.string x) rfl (by kernel_rfl) (fun _ _ _ h => h) (by rfl) (by assumption) ?_ ?_
     ·intro w5 hSw
      obtain ⟨s0, s1⟩ := hSw
      go_simp
     simp only [Act.put, List.setIfInBounds_toArray, List.set_cons_zero, List.set_cons_succ]
     refine tk 5 (.slice (some ⟨gv, 0, none⟩) ys.length c2) rfl (by kernel_rfl) (fun _ _ _ h => h) (by rfl) (by assumption) ?_ ?_
     ·intro w5 hSw
      obtain ⟨s0, s1⟩ := hSw
      go_simp
     simp only [Act.put, List.setIfInBounds_toArray, List.set_cons_zero, List.set_cons_succ]
     refine tk 6 (.int .i64 (i : Nat)) rfl (by kernel_rfl) (fun _ _ _ h => h) (by rfl) (by assumption) ?_ ?_
     ·intro w5 hSw
      obtain ⟨s0, s1⟩ := hSw
      go_simp
     simp only [Act.put, List.setIfInBounds_toArray, List.set_cons_zero, List.set_cons_succ]
     refine tk 7 (.pointer (some ⟨gv, i, none⟩)) rfl (by kernel_rfl) (fun _ _ _ h => h) (by rfl) (by assumption) ?_ ?_
     ·intro w5 hSw
      obtain ⟨s0, s1⟩ := hSw
      go_simp
     simp only [Act.put, List.setIfInBounds_toArray, List.set_cons_zero, List.set_cons_succ]
     refine tk 8 (.string y) rfl (by kernel_rfl) (fun _ _ _ h => h) (by rfl) (by assumption) ?_ ?_
     ·intro w5 hSw
      obtain ⟨s0, s1⟩ := hSw
      go_simp
     simp only [Act.put, List.setIfInBounds_toArray, List.set_cons_zero, List.set_cons_succ]
     refine rd1 9 (by kernel_rfl) rfl fun K1 hK1 => ?_
     go_simp
     have r0 : (w3.drew.alloc (.cells #[.string x, .string ⟨#[61]⟩, .string y] 9)).cell? ⟨gt, i, none⟩ = some (.string x) := (World.cell?_alloc_old _ _ _ (by have := b3.size; simp; omega)).trans q0
     have r1 : (w3.drew.alloc (.cells #[.string x, .string ⟨#[61]⟩, .string y] 9)).cell? ⟨gv, i, none⟩ = some (.string y) := (World.cell?_alloc_old _ _ _ (by have := b3.size; simp; omega)).trans q1
     refine hK1.out _ _ ⟨r0, r1⟩ (fun _ => ?_)
     refine rd1 10 (by kernel_rfl) rfl fun K2 hK2 => ?_
     rw [if_pos (by rfl)]
     refine wp_append_own _ _ _ 26 rfl w.heap.size 9 i0 _ 1 16 Tryz.underlying26 hi hz0 hz1 hz2 rfl (by decide) _ _ _ rfl (o3.alloc _) ⟨w3.heap.size, 0, none⟩ 3 3 [.string x, .string ⟨#[61]⟩, .string y] rfl rfl ?d1 ?d2 ?d3 ?d4 ?d5 ?_
     case d1 =>
      intro j u hj
      rw [show ((⟨w3.heap.size, 0, none⟩ : Addr).add j) = ⟨w3.heap.size, j, none⟩ by unfold Addr.add; split <;> simp_all]
      exact (cell_of_row (w3.alloc (.cells #[.string x, .string ⟨#[61]⟩, .string y] 9)) w3.heap.size j #[.string x, .string ⟨#[61]⟩, .string y] 9 (0, 0) (heap_alloc_new w3 _)).trans (by simpa using hj)
     case d2 => intro u hu; simp at hu; rcases hu with rfl | rfl | rfl <;> rfl
     case d3 => unfold maxLen; omega
     case d4 => omega
     case d5 => have := b3.size; simp; omega
     intro v' w7 o7 g7 _
     have b7 : Below w.heap.size w w7 := ((b3.drew).alloc b3.size _).grown g7 (by have := b3.size; simp; omega) (fun kk hkk => (o3.lt kk hkk).1)
     refine hK2.out _ _ ⟨(b7.cell (p := ⟨gt, i, none⟩) hgt).trans ct, (b7.cell (p := ⟨gv, i, none⟩) hgv).trans cv⟩ (fun _ => ?_)
     obtain ⟨a7, c7, rfl, -, -⟩ := own_sliceB o7
     refine rd1 11 (by kernel_rfl) rfl fun K3 hK3 => ?_
     go_simp
     refine hK3.out _ _ ⟨(b7.cell (p := ⟨gt, i, none⟩) hgt).trans ct, (b7.cell (p := ⟨gv, i, none⟩) hgv).trans cv⟩ (fun _ => ?_)
     refine wpAnyH_done (by kernel_rfl) ?_ _
     have o8 : w7.ownsRow w.heap.size 9 1 (.slice a7 ((ins.length + 1) + 3) c7) ((ins ++ [(⟨#[44, 32]⟩ : ByteArray)]) ++ [x, ⟨#[61]⟩, y]).length (((ins ++ [(⟨#[44, 32]⟩ : ByteArray)]) ++ [x, ⟨#[61]⟩, y]).map Value.string) := by
      rw [List.map_append, show ((ins ++ [(⟨#[44, 32]⟩ : ByteArray)]) ++ [x, (⟨#[61]⟩ : ByteArray), y]).length = (ins.length + 1) + 3 by simp]
      exact o7
     clear o7 g7
     go_wp2
     go_roundg (gk - 1)
     case measure => omega
     case rel => exact ⟨i + 1, (ins ++ [(⟨#[44, 32]⟩ : ByteArray)]) ++ [x, ⟨#[61]⟩, y], by go_num, by omega, by show _ = insL xs ys (i + 1); exact HS.out _ (by rw [if_neg hi0]), o8, b7⟩
   ·have hltI : ¬ (i : Int) < k := by omega
    obtain rfl : i = k := by omega
    rcases hown.2 with ⟨-, hn0⟩ | ⟨g, cap, cur, e, -⟩
    ·exact absurd hn0 (by
      rw [HI.out]
      cases i with
      | zero => simp [insL]
      | succ n => unfold insL; simp)
    ·obtain ⟨rfl, -, rfl⟩ := Value.slice.inj e
     have hlt2 := (hown.lt g rfl).2
     have hbt := btext_any (v := ⟨#[]⟩) (xs := ins) (bk := g) (c := ca) (w := wr) (L := (insL xs ys i).flatMap (·.data.toList)) (by decide) (fun j x hj => by
      have := hown.cellAt j (by have := (List.getElem?_eq_some_iff.1 hj).1; omega)
      rw [this, List.getElem?_map, hj]; rfl) hlt2 (by omega) hca (by rw [HI.out]) (by have := insL_size xs ys hx hy i; omega)
     unfold BtC at hbt
     rw [show (⟨#[]⟩ : ByteArray).data.toList = [] from rfl] at hbt
     clear h1 h2
     go_wp2_with (go_at_call 12; refine hbt.mono ?_; rintro e w4 ⟨rfl, b4⟩)
     go_ret
     exact ⟨rfl, hb.trans (b4.mono hb.size)⟩
end Go.Proofs.YtjfmhghpkefihaaGreatDoor
namespace Go.Proofs.YtjfmhghpkefihaaGreatDoor
open Go.RowKit
set_option linter.unusedVariables false
set_option linter.unusedSimpArgs false
set_option maxRecDepth 1000000 in
set_option maxHeartbeats 1000000 in
theorem extra_none {w : World} {g C M : Nat} {l : List UInt8} {dp : Int} {av : Value} {vs : List Value} {nx : Int} (hE : En w g C M l dp av vs nx) (hn : (vs.length : Int) < nx) :
  Calls Tryz.prog 34 #[.pointer (some ⟨g, 0, none⟩)] w fun e w' => e = .returned (.tuple #[]) ∧ IsPr w' g (l ++ []) (prT C dp av nx) ∧ Kx (fun k => k = g) w w' := by
 rw [List.append_nil]
 obtain ⟨a, c, rfl, hc1, hc2, ha⟩ := hE.a
 have q3 : w.cell? ⟨g, 4100, none⟩ = some (.int .i64 nx) := hE.v.p.tl (i := 3) rfl
 have q2 : w.cell? ⟨g, 4099, none⟩ = some (.slice a vs.length c) := hE.v.p.tl (i := 2) rfl
 have hp := hE.v.p
 clear ha hE
 go_enter Tryz.func34, Tryz.ntmps34
 go_wp2
 go_quiet (fail)
 all_goals go_wp2
 all_goals refine bodyPost_ret (results_none rfl _ _ _) rfl ?_
 all_goals exact ⟨rfl, hp.below (below_drewN (Below.refl _ _) _), .of_below (below_drewN (Below.refl _ _) _)⟩
set_option maxRecDepth 1000000 in
set_option maxHeartbeats 2000000 in
theorem extra_one {w : World} {g C M : Nat} {l : List UInt8} {dp : Int} {av : Value} (n : Int) (h0 : 0 ≤ n) (h1 : n < 9223372036854775808) (hE : En w g C M l dp av [VI 0 n] 1) (T : ByteArray) (hT : T = bT [] ((insL [⟨#[105, 110, 116]⟩] [numT n (bareQ 118)] 1).flatMap (·.data.toList))) (hTn : (numT n (bareQ 118)).size ≤ 1000) (hl : l.length ≤ 100000) (hTl : T.size ≤ 10000) :
  Calls Tryz.prog 34 #[.pointer (some ⟨g, 0, none⟩)] w fun e w' => e = .returned (.tuple #[]) ∧ IsPr w' g (l ++ T.data.toList) (prT C dp av 1) ∧ Kx (fun k => k = g) w w' := by
 obtain ⟨i0, hi⟩ : ∃ i0, Tryz.prog.info? 9 = some i0 := ⟨_, rfl⟩
 have hz0 : i0.zero = some (.string ⟨#[]⟩) := by
  have : (Tryz.prog.info? 9).bind (·.zero) = some (.string ⟨#[]⟩) := by kernel_rfl
  rw [hi] at this; exact this
 have hz1 : i0.size = 1 := by
  have : (Tryz.prog.info? 9).map (·.size) = some 1 := by kernel_rfl
  rw [hi] at this; exact Option.some.inj this
 have hz2 : i0.bytes = 16 := by
  have : (Tryz.prog.info? 9).map (·.bytes) = some 16 := by kernel_rfl
  rw [hi] at this; exact Option.some.inj this
 obtain ⟨a, c, rfl, hc1, hc2, ha⟩ := hE.a
 obtain ⟨A, rfl, hA, hcl⟩ := ha 0 _ rfl
 have q3 : w.cell? ⟨g, 4100, none⟩ = some (.int .i64 1) := hE.v.p.tl (i := 3) rfl
 have q2 : w.cell? ⟨g, 4099, none⟩ = some (.slice (some ⟨A, 0, none⟩) 1 c) := hE.v.p.tl (i := 2) rfl
 have hg := hE.lt
 have hcI : (1 : Int) ≤ c := by have : 1 ≤ c := hc1; omega
 have hTy := fun W (hW : Below w.heap.size w W) => type_own (VI 0 n) 6 0 W _ rfl (hE.up hW).v.k (mk_I 0 n)
 have hSh := fun W (hW : Below w.heap.size w W) => shown_I n (bareQ 118) rfl (by decide) (hE.up hW).v h0 h1
 generalize numT n (bareQ 118) = X at *
 have HT : Hid (T = _) := hT
 have hlT : l.length + T.size ≤ 1000000000 := by omega
 clear ha hT
 go_enter Tryz.func34, Tryz.ntmps34
 go_wp2
 go_quiet (fail)
 have bW0 := below_drewN (Below.refl w.heap.size w) nq
 have q4 := up_cell bW0 q3
 have q5 := up_cell bW0 q2
 generalize w.drewN nq = W0 at *
 go_wp2
 go_quiet (fail)
 go_wp2
 have bW := below_drewN bW0 nq
 generalize W0.drewN nq = W at *
 clear q4 q5 bW0
 have hclW := up_cell bW hcl
 have E0 := hE.up bW
 clear q3 q2 hcl
 go_loopg [2, 3, 5, 27] 1 (fun gg s2 s3 s5 i wr => (i = .int .i64 0 ∧ s2 = .slice none 0 0 ∧ s3 = .slice none 0 0 ∧ wr = W ∧ gg = 1) ∨ (i = .int .i64 1 ∧ gg = 0 ∧ ∃ A1 c1 A2 c2, s2 = .slice (some ⟨A1, 0, none⟩) 1 c1 ∧ s3 = .slice (some ⟨A2, 0, none⟩) 1 c2 ∧ wr.cell? ⟨A1, 0, none⟩ = some (.string ⟨#[105, 110, 116]⟩) ∧ wr.cell? ⟨A2, 0, none⟩ = some (.string X) ∧ w.heap.size ≤ A1 ∧ w.heap.size ≤ A2 ∧ Below w.heap.size w wr))
 case atStart => exact Or.inl ⟨rfl, rfl, rfl, rfl, rfl⟩
 case round =>
  rcases hrel with ⟨rfl, rfl, rfl, rfl, rfl⟩ | ⟨rfl, rfl, A1, c1, A2, c2, rfl, rfl, d1, d2, m1, m2, bb⟩
  ·have hT1 := hTy _ bW
   have hltI : (0 : Int) < 1 := by omega
   go_upto_region 6 with (first | (go_at_call 47; refine hT1.mono ?_; rintro e W3 ⟨rfl, b3⟩) | (at_builtin; refine wpList_append_own_at _ rfl _ _ 26 rfl w.heap.size 9 i0 _ 1 16 Tryz.underlying26 hi hz0 hz1 hz2 rfl (by decide) _ _ _ rfl (World.ownsRow_nil _ _ _ _) ⟨_, 0, none⟩ 1 1 [.string ⟨#[105, 110, 116]⟩] rfl rfl ?c1 ?c2 ?c3 ?c4 ?c5 ?_))
   case c1 =>
    intro j u hj
    match j, hj with
    | 0, hj => simp at hj; subst hj; simp [Addr.add]
   case c2 => intro u hu; simp at hu; subst hu; rfl
   case c3 => unfold maxLen; omega
   case c4 => omega
   case c5 => have := (bW.trans (b3.mono bW.size)).size; simp; omega
   intro v4 W4 o4 g4 _ _
   have bw3 := bW.trans (b3.mono bW.size)
   have b4 : Below w.heap.size w W4 := (bw3.alloc bw3.size _).grown g4 (by have := bw3.size; simp; omega) (fun kk hkk => by simp [Value.ownBlock] at hkk)
   obtain ⟨a4, c4, rfl, -, -⟩ := own_sliceB o4
   obtain ⟨A1, rfl, hA1, hA2, hA3⟩ := own_cell9 o4 (by decide)
   have d1 : W4.cell? ⟨A1, 0, none⟩ = some (.string ⟨#[105, 110, 116]⟩) := hA3 0 _ rfl
   clear o4 g4 hA3 hT1
   go_upto_region 6 with fail
   have hBV := byV_any W4
   have hSh4 := fun V (hV : Below W4.heap.size W4 V) => hSh V (b4.trans (hV.mono b4.size))
   go_upto_region 7 with (first | (go_at_call 25; refine hBV.mono ?_; rintro e W5 ⟨rfl, b5⟩; have hS5 := hSh4 W5 b5) | (go_at_call 24; refine hS5.mono ?_; rintro e W6 ⟨rfl, b6⟩) | (at_builtin; refine wpList_append_own_at _ rfl _ _ 26 rfl w.heap.size 9 i0 _ 1 16 Tryz.underlying26 hi hz0 hz1 hz2 rfl (by decide) _ _ _ rfl (World.ownsRow_nil _ _ _ _) ⟨_, 0, none⟩ 1 1 [.string X] rfl rfl ?c1 ?c2 ?c3 ?c4 ?c5 ?_))
   case c1 =>
    intro j u hj
    match j, hj with
    | 0, hj => simp at hj; subst hj; simp [Addr.add]
   case c2 => intro u hu; simp at hu; subst hu; rfl
   case c3 => unfold maxLen; omega
   case c4 => omega
   case c5 => have := ((b4.trans (b5.mono b4.size)).trans (b6.mono (b4.trans (b5.mono b4.size)).size)).size; simp; omega
   intro v7 W7 o7 g7 _ _
   have b45 := b4.trans (b5.mono b4.size)
   have bw6 := b45.trans (b6.mono b45.size)
   have b46 := b5.trans (b6.mono b5.size)
   have b7 : Below w.heap.size w W7 := (bw6.alloc bw6.size _).grown g7 (by have := bw6.size; simp; omega) (fun kk hkk => by simp [Value.ownBlock] at hkk)
   have b47 : Below W4.heap.size W4 W7 := (b46.alloc b46.size _).grown g7 (by have := b46.size; simp; omega) (fun kk hkk => by simp [Value.ownBlock] at hkk)
   obtain ⟨a7, c7, rfl, -, -⟩ := own_sliceB o7
   obtain ⟨A2, rfl, hB1, hB2, hB3⟩ := own_cell9 o7 (by decide)
   have d2 : W7.cell? ⟨A2, 0, none⟩ = some (.string X) := hB3 0 _ rfl
   have d1' := up_cell b47 d1
   clear o7 g7 hB3
   go_wp2
   go_roundg 0
   case measure => omega
   case rel => exact Or.inr ⟨by go_num, rfl, A1, c4, A2, c7, rfl, rfl, d1', d2, hA1, hB1, b7⟩
  ·have hltI : ¬ (1 : Int) < 1 := by omega
   have hX := bextra_any [⟨#[105, 110, 116]⟩] [X] (some ⟨A1, 0, none⟩) (some ⟨A2, 0, none⟩) c1 c2
   go_wp2
   obtain ⟨Yd, hYd⟩ : ∃ Yd, Yd = wr.drew := ⟨_, rfl⟩
   have bY : Below w.heap.size w Yd := by rw [hYd]; exact bb.drew
   have hXY := hX Yd (by simp; decide) (by simp; omega) (by simp) (by simp) (fun j x hj => ?j1) (fun j x hj => ?j2)
   case j1 =>
    match j, hj with
    | 0, hj => simp at hj; subst hj; exact ⟨A1, rfl, by rw [hYd]; exact d1⟩
   case j2 =>
    match j, hj with
    | 0, hj => simp at hj; subst hj; exact ⟨A2, rfl, by rw [hYd]; exact d2⟩
   rw [show min [(⟨#[105, 110, 116]⟩ : ByteArray)].length [X].length = 1 by rfl, ← HT.out] at hXY
   refine wp_region_held_drew (S := fun _ : World => True) (by kernel_rfl) trivial ?_
   rw [← hYd]
   clear hYd hX d1 d2 HT
   intro hS
   refine tk 0 (.pointer (some ⟨g, 0, none⟩)) rfl (by kernel_rfl) (fun _ _ _ h => h) (by rfl) (by assumption) ?_ ?_
   ·intro w5 s0
    go_simp
   try simp only [Act.put, lys]
   refine tk 1 (.pointer (some ⟨g, 0, none⟩)) rfl (by kernel_rfl) (fun _ _ _ h => h) (by rfl) (by assumption) ?_ ?_
   ·intro w5 s0
    go_simp
   try simp only [Act.put, lys]
   refine tk 2 (.pointer (some ⟨g, 0, none⟩)) rfl (by kernel_rfl) (fun _ _ _ h => h) (by rfl) (by assumption) ?_ ?_
   ·intro w5 s0
    go_simp
   try simp only [Act.put, lys]
   refine tk 3 (.slice (some ⟨A1, 0, none⟩) 1 c1) rfl (by kernel_rfl) (fun _ _ _ h => h) (by rfl) (by assumption) ?_ ?_
   ·intro w5 s0
    go_simp
   try simp only [Act.put, lys]
   refine tk 4 (.slice (some ⟨A2, 0, none⟩) 1 c2) rfl (by kernel_rfl) (fun _ _ _ h => h) (by rfl) (by assumption) ?_ ?_
   ·intro w5 s0
    go_simp
   try simp only [Act.put, lys]
   refine rd1 5 (by kernel_rfl) rfl fun K5 hK5 => ?_
   go_simp
   refine hXY.mono ?_
   rintro e W6 ⟨rfl, b6⟩
   refine hK5.out _ _ trivial (fun _ => ?_)
   clear hK5
   try simp only [Act.put, lys]
   have b6' := bY.trans (b6.mono bY.size)
   have E6 := hE.up b6'
   refine rd1 6 (by kernel_rfl) rfl fun K6 hK6 => ?_
   go_simp
   refine (put_any g l _ T W6 E6.v.p hlT).mono ?_
   rintro e W7 ⟨rfl, p7, k7⟩
   refine hK6.out _ _ trivial (fun _ => ?_)
   clear hK6
   try simp only [Act.put, lys]
   refine wpAnyH_done (by kernel_rfl) ?_ _
   go_wp2
   go_end0
   exact ⟨rfl, p7, (Kx.of_below b6').trans k7⟩
end Go.Proofs.YtjfmhghpkefihaaGreatDoor
