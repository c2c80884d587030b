/- check: the errors that are looked for ahead of what is there twice. -/
import Derived.Test.YtdlnmnipnkeabaaGreatDoorPt9
import Derived.RowKit3
namespace Go.Proofs.YtdlnmnipnkeabaaGreatDoor
open Go.RowKit
set_option linter.unusedVariables false
def chk0 (d : D) : Int :=
 if runV ok1 1 0 (pre d 0) = none then 2 else if runV ok2 0 0 (pre d 0) = none then 6 else if runV ok3 0 0 (pre d 0) = none then 3 else if runV ok4 0 0 (pre d 0) = none then 4 else 0
theorem runV_start {ok : Int → D → Int → Bool} (h : ∀ s s' d k, ok s d k = ok s' d k) : ∀ (l : List (D × Int)) (s s' : Int), runV ok 0 s l = none ↔ runV ok 0 s' l = none
 | [], s, s' => by simp [runV]
 | (d, k) :: l, s, s' => by
   simp only [runV, h s s' d k]
   split
   ·exact runV_start h l (s + 0) (s' + 0)
   ·simp
theorem frozen_none (W : World) (a : Addr) (h : W.heap.size ≤ a.block) : W.frozen? a = false := by
 unfold World.frozen?
 rw [Array.getElem?_eq_none h]
set_option maxRecDepth 1000000 in
set_option maxHeartbeats 4000000 in
theorem check_any (n : Nat) (d : D) (nv pv : Value) (w : World) (hr : RdC n w nv pv d) (hn : n ≤ 1000) :
  Calls Tryz.prog 74 #[DV d nv pv] w fun e w' => Below w.heap.size w w' ∧ ((chk0 d = 0 ∧ e = .returned (.tuple #[])) ∨ (chk0 d ≠ 0 ∧ e = .panicked (PE (chk0 d)))) := by
 obtain ⟨na, nc, pa, pc, rfl, rfl⟩ := hr.slices
 obtain ⟨W1, hW1⟩ : ∃ W1, W1 = (w.alloc (.cells #[.int .i64 d.kind, .string d.ty, .int .u64 d.bits, .int .u64 d.imag, .string d.text, .slice na d.names.length nc, .slice pa d.parts.length pc, .int .i64 d.hook] 29)).alloc (.cells #[.int .i64 0] 3) := ⟨_, rfl⟩
 have hb0 : Below w.heap.size w W1 := by rw [hW1]; exact ((Below.refl _ _).alloc (Nat.le_refl _) _).alloc (by simp) _
 obtain ⟨C1, hC1⟩ : ∃ C1 : Cl w, C1.w = W1 := ⟨⟨W1, hb0⟩, rfl⟩
 have hn1 : Num C1.w (w.heap.size + 1) 0 := by
  rw [hC1, hW1]
  refine ⟨by simp, ?_⟩
  rw [frozen?_alloc_cells]
  exact frozen_none _ _ (by simp)
 have box : ∀ x : Cl w, Keep (w.heap.size + 1) C1.w x.w → At8 x.w w.heap.size 0 d (.slice na d.names.length nc) (.slice pa d.parts.length pc) := by
  intro x hx
  rw [hC1] at hx
  refine ⟨?_, ?_, ?_, ?_, ?_, ?_, ?_, ?_⟩
  all_goals exact hx.cell (by rw [hW1]; simp) (by show w.heap.size ≠ _; omega)
 have hc : w.heap.size ≤ w.heap.size + 1 := by omega
 have k1 := walk_any w (w.heap.size + 1) 88 #[.pointer (some ⟨w.heap.size + 1, 0, none⟩)] ok1 1 2 hc (look1 w _ hc) (fun s d k h h0 h1 => by simp [ok1] at h; omega) (enters_of Tryz.func88 (by kernel_rfl) rfl) n C1 0 d _ _ 0 hn1 (by omega) (by omega) hr (by omega) (by omega)
 have k2 := fun (W : Cl w) (s : Int) (h : Num W.w (w.heap.size + 1) s) (h0 : 0 ≤ s) (h1 : s ≤ 1000) => walk_any w (w.heap.size + 1) 91 #[] ok2 0 6 hc (look2 w _) (fun s d k h h0 h1 => by omega) (enters_of Tryz.func91 (by kernel_rfl) rfl) n W s d _ _ 0 h h0 h1 hr (by omega) (by omega)
 have k3 := fun (W : Cl w) (s : Int) (h : Num W.w (w.heap.size + 1) s) (h0 : 0 ≤ s) (h1 : s ≤ 1000) => walk_any w (w.heap.size + 1) 92 #[] ok3 0 3 hc (look3 w _) (fun s d k h h0 h1 => by omega) (enters_of Tryz.func92 (by kernel_rfl) rfl) n W s d _ _ 0 h h0 h1 hr (by omega) (by omega)
 have k4 := fun (W : Cl w) (s : Int) (h : Num W.w (w.heap.size + 1) s) (h0 : 0 ≤ s) (h1 : s ≤ 1000) => walk_any w (w.heap.size + 1) 94 #[] ok4 0 4 hc (look4 w _) (fun s d k h h0 h1 => by omega) (enters_of Tryz.func94 (by kernel_rfl) rfl) n W s d _ _ 0 h h0 h1 hr (by omega) (by omega)
 have HD : Hid (chk0 d = if runV ok1 1 0 (pre d 0) = none then 2 else if runV ok2 0 0 (pre d 0) = none then 6 else if runV ok3 0 0 (pre d 0) = none then 3 else if runV ok4 0 0 (pre d 0) = none then 4 else 0) := rfl
 have s2 : ∀ s, runV ok2 0 s (pre d 0) = none ↔ runV ok2 0 0 (pre d 0) = none := fun s => runV_start (fun _ _ _ _ => rfl) _ _ _
 have s3 : ∀ s, runV ok3 0 s (pre d 0) = none ↔ runV ok3 0 0 (pre d 0) = none := fun s => runV_start (fun _ _ _ _ => rfl) _ _ _
 have s4 : ∀ s, runV ok4 0 s (pre d 0) = none ↔ runV ok4 0 0 (pre d 0) = none := fun s => runV_start (fun _ _ _ _ => rfl) _ _ _
 rw [hC1] at k1
 go_enter Tryz.func74, Tryz.ntmps74
 go_wp2_with fail
 rw [← hW1]
 refine k1.mono ?_
 rintro e w1 ⟨V1, rfl, hK1, (⟨c1, r1, rfl, hn1, hz1, hz1'⟩ | ⟨r1, rfl⟩)⟩
 ·obtain ⟨a0, a1, a2, a3, a4, a5, a6, a7⟩ := box V1 (by rw [hC1]; exact hK1)
  go_wp2_with fail
  refine (k2 V1 c1 hn1 hz1 hz1').mono ?_
  rintro e w1 ⟨V2, rfl, hK2, (⟨c2, r2, rfl, hn2, hz2, hz2'⟩ | ⟨r2, rfl⟩)⟩
  ·obtain ⟨b0, b1, b2, b3, b4, b5, b6, b7⟩ := box V2 (by rw [hC1]; exact hK1.trans hK2)
   go_wp2_with fail
   refine (k3 V2 c2 hn2 hz2 hz2').mono ?_
   rintro e w1 ⟨V3, rfl, hK3, (⟨c3, r3, rfl, hn3, hz3, hz3'⟩ | ⟨r3, rfl⟩)⟩
   ·obtain ⟨d0, d1, d2, d3, d4, d5, d6, d7⟩ := box V3 (by rw [hC1]; exact hK1.trans (hK2.trans hK3))
    go_wp2_with fail
    refine (k4 V3 c3 hn3 hz3 hz3').mono ?_
    rintro e w1 ⟨V4, rfl, hK4, (⟨c4, r4, rfl, hn4, hz4, hz4'⟩ | ⟨r4, rfl⟩)⟩
    ·go_wp2
     go_end0
     refine ⟨V4.below, .inl ⟨?_, rfl⟩⟩
     rw [HD.out, if_neg (by rw [r1]; simp), if_neg (by rw [← s2 c1, r2]; simp), if_neg (by rw [← s3 c2, r3]; simp), if_neg (by rw [← s4 c3, r4]; simp)]
    ·have e4 : chk0 d = 4 := by rw [HD.out, if_neg (by rw [r1]; simp), if_neg (by rw [← s2 c1, r2]; simp), if_neg (by rw [← s3 c2, r3]; simp), if_pos ((s4 c3).1 r4)]
     exact ⟨rfl, V4.below, .inr ⟨by rw [e4]; decide, by rw [e4]⟩⟩
   ·have e3 : chk0 d = 3 := by rw [HD.out, if_neg (by rw [r1]; simp), if_neg (by rw [← s2 c1, r2]; simp), if_pos ((s3 c2).1 r3)]
    exact ⟨rfl, V3.below, .inr ⟨by rw [e3]; decide, by rw [e3]⟩⟩
  ·have e2 : chk0 d = 6 := by rw [HD.out, if_neg (by rw [r1]; simp), if_pos ((s2 c1).1 r2)]
   exact ⟨rfl, V2.below, .inr ⟨by rw [e2]; decide, by rw [e2]⟩⟩
 ·have e1 : chk0 d = 2 := by rw [HD.out, if_pos r1]
  exact ⟨rfl, V1.below, .inr ⟨by rw [e1]; decide, by rw [e1]⟩⟩
end Go.Proofs.YtdlnmnipnkeabaaGreatDoor
