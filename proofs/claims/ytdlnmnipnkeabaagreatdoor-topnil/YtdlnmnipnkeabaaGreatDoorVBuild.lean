/- Build: the deferred closure that recovers, and the call round check and made. -/
import Derived.Test.YtdlnmnipnkeabaaGreatDoorVCheck
import Derived.Defers
import Derived.Recover
namespace Go.Proofs.YtdlnmnipnkeabaaGreatDoor
open Go.RowKit
set_option linter.unusedVariables false
set_option maxRecDepth 1000000 in
theorem reason_any (n : Int) (w : World) : Calls Tryz.prog 73 #[.iface 124 (.int .i64 n)] w fun e w' => e = .returned (.int .i64 n) ∧ w' = w := by
 have ht : ∀ w, (Instr.typeAssert (.iface 124 (.int .i64 n)) 20 124 false).run Tryz.prog w = .ok (.int .i64 n) w := fun w => by kernel_rfl
 go_enter Tryz.func73, Tryz.ntmps73
 go_wp2
 go_ret
 exact ⟨rfl, rfl⟩
theorem catch_idle (p q : Addr) (w : World) :
  CallsD Tryz.prog 72 #[.pointer (some p), .pointer (some q)] .returning w fun e u' w' => e = .returned (.tuple #[]) ∧ u' = .returning ∧ w' = w := by
 refine callsD_of_wpS Tryz.func72 rfl fun c₀ cs hu => ?_
 apply wpS_seq
 apply wpS_region
 simp [wpOpsS, go_sem, recoverD, hu, Tryz.ntmps72, Exit.thenS]
 refine wpS_of_wp ?_
 go_wp2
 exact ⟨rfl, .returning, by rw [← hu], _, results_none rfl _ _ _, rfl, rfl, rfl⟩
set_option maxRecDepth 1000000 in
theorem catch_err (n : Int) (P Q : Nat) (w : World) (vp vq : Value) (hp : w.frozen? ⟨P, 0, none⟩ = false) (hq : w.frozen? ⟨Q, 0, none⟩ = false) (cp : w.cell? ⟨P, 0, none⟩ = some vp) (cq : w.cell? ⟨Q, 0, none⟩ = some vq) (hpq : P < Q) :
  CallsD Tryz.prog 72 #[.pointer (some ⟨P, 0, none⟩), .pointer (some ⟨Q, 0, none⟩)] (.panicking (PE n)) w fun e u' w' => e = .returned (.tuple #[]) ∧ u' = .panicking [{ v := .iface 124 (.int .i64 n), recovered := true }] ∧ w' = (w.setCell ⟨P, 0, none⟩ .nilIface).setCell ⟨Q, 0, none⟩ (.int .i64 n) := by
 have cq2 : ∀ v, (w.setCell ⟨P, 0, none⟩ v).cell? ⟨Q, 0, none⟩ = some vq := fun v => (World.cell?_of_block (w := w) (Below.heap_setCell _ _ _ _ (by show Q ≠ P; omega))).trans cq
 have hq2 : ∀ v, (w.setCell ⟨P, 0, none⟩ v).frozen? ⟨Q, 0, none⟩ = false := fun v => (World.frozen?_setCell _ _ _ _).trans hq
 refine callsD_of_wpS Tryz.func72 rfl fun c₀ cs hu => ?_
 apply wpS_seq
 apply wpS_region
 simp [wpOpsS, go_sem, recoverD, hu, Tryz.ntmps72, Exit.thenS]
 refine wpS_of_wp ?_
 go_wp2_with (go_at_call 73; refine (reason_any _ _).mono ?_; rintro e w1 ⟨rfl, hw1⟩; subst hw1)
 exact ⟨rfl, _, rfl, _, results_none rfl _ _ _, rfl, rfl, rfl⟩
def Keep2 (c c' : Nat) (W W' : World) : Prop := ∀ p : Addr, p.block ≠ c → p.block ≠ c' → W'.cell? p = W.cell? p
set_option maxRecDepth 1000000 in
set_option maxHeartbeats 4000000 in
theorem build_any (n : Nat) (d : D) (nv pv : Value) (w : World) (hr : RdC n w nv pv d) (hn : n ≤ 1000) (T : Prop) (P : World → Value → Prop)
  (hm : chk0 d = 0 → ∀ W, Below w.heap.size w W → w.heap.size + 3 ≤ W.heap.size → Calls Tryz.prog 75 #[DV d nv pv] W fun e W' => Below W.heap.size W W' ∧ ((¬ T ∧ ∃ t x, e = .returned (.iface t x) ∧ ∀ W'', Keep2 (w.heap.size + 1) (w.heap.size + 2) W' W'' → P W'' (.iface t x)) ∨ (T ∧ e = .panicked (PE 5)))) :
  Calls Tryz.prog 60 #[DV d nv pv] w fun e w' => Below w.heap.size w w' ∧
   ((chk0 d = 0 ∧ ¬ T ∧ ∃ v, e = .returned (.tuple #[v, .int .i64 0]) ∧ v ≠ .nilIface ∧ P w' v) ∨ (chk0 d = 0 ∧ T ∧ e = .returned (.tuple #[.nilIface, .int .i64 5])) ∨ (chk0 d ≠ 0 ∧ e = .returned (.tuple #[.nilIface, .int .i64 (chk0 d)]))) := by
 obtain ⟨na, nc, pa, pc, rfl, rfl⟩ := hr.slices
 have hmf : ∀ (fn : Fn) (first cap : Array Value) (w : World), (Instr.makeFunc fn first cap).run Tryz.prog w = .ok (.func fn first cap) w := fun _ _ _ _ => rfl
 obtain ⟨W1, hW1⟩ : ∃ W1, W1 = ((w.alloc (.cells #[.int .i64 d.kind, .string d.ty, .int .u64 d.bits, .int .u64 d.imag, .string d.text, .slice na d.names.length nc, .slice pa d.parts.length pc, .int .i64 d.hook] 29)).alloc (.cells #[.nilIface] 108)).alloc (.cells #[.int .i64 0] 124) := ⟨_, rfl⟩
 have hb1 : Below w.heap.size w W1 := by rw [hW1]; exact (((Below.refl _ _).alloc (Nat.le_refl _) _).alloc (by simp) _).alloc (by simp; omega) _
 have hsz : W1.heap.size = w.heap.size + 3 := by rw [hW1]; simp
 have hck := check_any n d _ _ W1 (hr.up hb1) hn
 have box : ∀ V, Below W1.heap.size W1 V → At8 V w.heap.size 0 d (.slice na d.names.length nc) (.slice pa d.parts.length pc) ∧ (V.cell? ⟨w.heap.size + 1, 0, none⟩ = some .nilIface ∧ V.frozen? ⟨w.heap.size + 1, 0, none⟩ = false) ∧ (V.cell? ⟨w.heap.size + 1 + 1, 0, none⟩ = some (.int .i64 0) ∧ V.frozen? ⟨w.heap.size + 1 + 1, 0, none⟩ = false) := by
  intro V hV
  refine ⟨⟨?_, ?_, ?_, ?_, ?_, ?_, ?_, ?_⟩, ⟨?_, ?_⟩, ?_, ?_⟩
  ·exact up_cell hV (by rw [hW1]; simp [go_sem])
  ·exact up_cell hV (by rw [hW1]; simp [go_sem])
  ·exact up_cell hV (by rw [hW1]; simp [go_sem])
  ·exact up_cell hV (by rw [hW1]; simp [go_sem])
  ·exact up_cell hV (by rw [hW1]; simp [go_sem])
  ·exact up_cell hV (by rw [hW1]; simp [go_sem])
  ·exact up_cell hV (by rw [hW1]; simp [go_sem])
  ·exact up_cell hV (by rw [hW1]; simp [go_sem])
  ·exact up_cell hV (by rw [hW1]; simp [go_sem])
  ·rw [hV.frozen (p := ⟨w.heap.size + 1, 0, none⟩) (by show w.heap.size + 1 < _; omega), hW1, frozen?_alloc_cells, frozen?_alloc_cells, frozen?_alloc_cells]
   exact frozen_none _ _ (by show w.heap.size ≤ w.heap.size + 1; omega)
  ·exact up_cell hV (by rw [hW1]; simp [go_sem])
  ·rw [hV.frozen (p := ⟨w.heap.size + 1 + 1, 0, none⟩) (by show w.heap.size + 1 + 1 < _; omega), hW1, frozen?_alloc_cells, frozen?_alloc_cells, frozen?_alloc_cells]
   exact frozen_none _ _ (by show w.heap.size ≤ w.heap.size + 1 + 1; omega)
 have fin : ∀ {V : World} {u x : Value}, Below W1.heap.size W1 V → Below w.heap.size w ((V.setCell ⟨w.heap.size + 1, 0, none⟩ u).setCell ⟨w.heap.size + 1 + 1, 0, none⟩ x) := fun hV =>
  ((hb1.trans (hV.mono hb1.size)).setCell (by show w.heap.size ≤ w.heap.size + 1; omega) _).setCell (by show w.heap.size ≤ w.heap.size + 1 + 1; omega) _
 have kp : ∀ (V : World) (u x : Value), Keep2 (w.heap.size + 1) (w.heap.size + 2) V ((V.setCell ⟨w.heap.size + 1, 0, none⟩ u).setCell ⟨w.heap.size + 1 + 1, 0, none⟩ x) := by
  intro V u x p h1 h2
  rw [World.cell?_of_block (w := V.setCell ⟨w.heap.size + 1, 0, none⟩ u) (Below.heap_setCell _ _ _ _ h2)]
  exact World.cell?_of_block (w := V) (Below.heap_setCell _ _ _ _ h1)
 have two : ∀ {V : World}, (V.cell? ⟨w.heap.size + 1, 0, none⟩).isSome = true → (V.cell? ⟨w.heap.size + 1 + 1, 0, none⟩).isSome = true → ∀ (u x : Value),
   ((V.setCell ⟨w.heap.size + 1, 0, none⟩ u).setCell ⟨w.heap.size + 1 + 1, 0, none⟩ x).cell? ⟨w.heap.size + 1, 0, none⟩ = some u ∧ ((V.setCell ⟨w.heap.size + 1, 0, none⟩ u).setCell ⟨w.heap.size + 1 + 1, 0, none⟩ x).cell? ⟨w.heap.size + 1 + 1, 0, none⟩ = some x := by
  intro V c1 c2 u x
  refine ⟨?_, cs_same8 _ _ _ ?_⟩
  ·rw [World.cell?_of_block (w := V.setCell ⟨w.heap.size + 1, 0, none⟩ u) (Below.heap_setCell _ _ _ _ (by show w.heap.size + 1 ≠ w.heap.size + 1 + 1; omega))]
   exact cs_same8 _ _ _ c1
  ·rw [World.cell?_of_block (w := V) (Below.heap_setCell _ _ _ _ (by show w.heap.size + 1 + 1 ≠ w.heap.size + 1; omega))]
   exact c2
 go_enter_defers Tryz.func60, Tryz.ntmps60
 go_wp2_with fail
 rw [← hW1]
 refine hck.mono ?_
 rintro e V ⟨hV, (⟨hc0, rfl⟩ | ⟨hc0, rfl⟩)⟩
 ·obtain ⟨⟨a0, a1, a2, a3, a4, a5, a6, a7⟩, -, -⟩ := box V hV
  go_wp2_with fail
  refine (hm hc0 V (hb1.trans (hV.mono hb1.size)) (by have := hV.size; omega)).mono ?_
  rintro e V2 ⟨hV2, (⟨hT, t, x, rfl, hP⟩ | ⟨hT, rfl⟩)⟩
  ·have hV3 : Below W1.heap.size W1 V2 := hV.trans (hV2.mono hV.size)
   obtain ⟨-, ⟨b0, b1⟩, b2, b3⟩ := box V2 hV3
   have b4 : ∀ u, (V2.setCell ⟨w.heap.size + 1, 0, none⟩ u).cell? ⟨w.heap.size + 1 + 1, 0, none⟩ = some (.int .i64 0) := fun u => (World.cell?_of_block (w := V2) (Below.heap_setCell _ _ _ _ (by show w.heap.size + 1 + 1 ≠ w.heap.size + 1; omega))).trans b2
   have b5 : ∀ u, (V2.setCell ⟨w.heap.size + 1, 0, none⟩ u).frozen? ⟨w.heap.size + 1 + 1, 0, none⟩ = false := fun u => (World.frozen?_setCell _ _ _ _).trans b3
   go_wp2
   refine leaves_cons (f := 72) (args := #[.pointer (some ⟨w.heap.size + 1, 0, none⟩), .pointer (some ⟨w.heap.size + 1 + 1, 0, none⟩)]) (by simp) (by simp [go_sem]) ?_
   refine (catch_idle _ _ _).mono ?_
   rintro e u' w'' ⟨rfl, rfl, rfl⟩
   obtain ⟨r0, r1⟩ := two (by rw [b0]; rfl) (by rw [b2]; rfl) (.iface t x) (.int .i64 0)
   refine ⟨.tuple #[.iface t x, .int .i64 0], ?_, ?_⟩
   ·simp [results, Tryz.results60, go_sem, r0, r1]
   ·exact ⟨fin hV3, .inl ⟨hc0, hT, _, rfl, (by simp), hP _ (kp _ _ _)⟩⟩
  ·have hV3 : Below W1.heap.size W1 V2 := hV.trans (hV2.mono hV.size)
   obtain ⟨-, ⟨b0, b1⟩, b2, b3⟩ := box V2 hV3
   refine leaves_cons (f := 72) (args := #[.pointer (some ⟨w.heap.size + 1, 0, none⟩), .pointer (some ⟨w.heap.size + 1 + 1, 0, none⟩)]) (by simp) (by simp [go_sem]) ?_
   refine (catch_err 5 _ _ _ _ _ b1 b3 b0 b2 (by omega)).mono ?_
   rintro e u' w'' ⟨rfl, rfl, rfl⟩
   obtain ⟨r0, r1⟩ := two (by rw [b0]; rfl) (by rw [b2]; rfl) .nilIface (.int .i64 5)
   refine ⟨.tuple #[.nilIface, .int .i64 5], ?_, ?_⟩
   ·simp [results, Tryz.results60, go_sem, r0, r1]
   ·exact ⟨fin hV3, .inr (.inl ⟨hc0, hT, rfl⟩)⟩
 ·obtain ⟨-, ⟨b0, b1⟩, b2, b3⟩ := box V hV
  refine leaves_cons (f := 72) (args := #[.pointer (some ⟨w.heap.size + 1, 0, none⟩), .pointer (some ⟨w.heap.size + 1 + 1, 0, none⟩)]) (by simp) (by simp [go_sem]) ?_
  refine (catch_err (chk0 d) _ _ _ _ _ b1 b3 b0 b2 (by omega)).mono ?_
  rintro e u' w'' ⟨rfl, rfl, rfl⟩
  obtain ⟨r0, r1⟩ := two (by rw [b0]; rfl) (by rw [b2]; rfl) .nilIface (.int .i64 (chk0 d))
  refine ⟨.tuple #[.nilIface, .int .i64 (chk0 d)], ?_, ?_⟩
  ·simp [results, Tryz.results60, go_sem, r0, r1]
  ·exact ⟨fin hV, .inr (.inr ⟨hc0, rfl⟩)⟩
end Go.Proofs.YtdlnmnipnkeabaaGreatDoor
