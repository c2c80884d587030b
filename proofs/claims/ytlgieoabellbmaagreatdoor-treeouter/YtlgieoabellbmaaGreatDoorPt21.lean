/- GtY, GtT: these texts in one. -/
import Derived.Test.YtlgieoabellbmaaGreatDoorGtX
import Derived.Defers
import Derived.Recover
import Derived.Laws.EntriesVeiled
namespace Go.Proofs.YtlgieoabellbmaaGreatDoor
open Go.RowKit
set_option linter.unusedVariables false
set_option linter.unusedSimpArgs false
set_option maxRecDepth 1000000 in
theorem outer1_any (v : Value) (f : Sq) (Bn Bt : Nat) (T : ByteArray) (w : World) (hne : Bn ≠ Bt) (cn : w.cell? ⟨Bn, 0, none⟩ = some (.int .i64 0)) (fn : w.frozen? ⟨Bn, 0, none⟩ = false) (ct : w.cell? ⟨Bt, 0, none⟩ = some (.string T)) :
  Calls Tryz.prog 18 #[v, SV f, .pointer (some ⟨Bn, 0, none⟩), .pointer (some ⟨Bt, 0, none⟩)] w fun e w' => e = .returned (.tuple #[.string T, .bool true]) ∧ ∃ W, Below w.heap.size w W ∧ w' = W.setCell ⟨Bn, 0, none⟩ (.int .i64 1) := by
 obtain ⟨W1, hW1⟩ : ∃ W1, W1 = w.alloc (.cells #[.bool f.p, .bool f.mi, .bool f.sh, .bool f.sp, .bool f.z, .int .i64 f.wid, .int .i64 f.prec, .int .i32 f.verb] 33) := ⟨_, rfl⟩
 have b1 : Below w.heap.size w W1 := by rw [hW1]; exact (Below.refl _ _).alloc (Nat.le_refl _) _
 have cn1 := up_cell b1 cn
 have ct1 := up_cell b1 ct
 have fn1 : W1.frozen? ⟨Bn, 0, none⟩ = false := (b1.frozen (lt_of_cell cn)).trans fn
 have ct2 : ∀ u, (W1.setCell ⟨Bn, 0, none⟩ u).cell? ⟨Bt, 0, none⟩ = some (.string T) := fun u => (World.cell?_of_block (w := W1) (Below.heap_setCell _ _ _ _ (by show Bt ≠ Bn; omega))).trans ct1
 go_enter Tryz.func18, Tryz.ntmps18
 go_upto_region 1 with fail
 rw [← hW1]
 clear hW1
 go_wp2
 go_ret2
 exact ⟨rfl, W1, b1, rfl⟩
theorem catch12_idle (p q : Addr) (w : World) :
  CallsD Tryz.prog 82 #[.pointer (some p), .pointer (some q)] .returning w fun e u' w' => e = .returned (.tuple #[]) ∧ u' = .returning ∧ w' = w := by
 refine callsD_of_wpS Tryz.func82 rfl fun c₀ cs hu => ?_
 apply wpS_seq
 apply wpS_region
 simp [wpOpsS, go_sem, recoverD, hu, Tryz.ntmps82, Exit.thenS]
 refine wpS_of_wp ?_
 go_wp2
 exact ⟨rfl, .returning, by rw [← hu], _, results_none rfl _ _ _, rfl, rfl, rfl⟩
def Fr (B : Nat) (w w' : World) : Prop := Below B w w' ∧ ∀ p : Addr, p.block < w.heap.size → p.block ≠ B → w'.cell? p = w.cell? p
theorem Fr.of {B : Nat} {w w' : World} (h : Below w.heap.size w w') (hB : B ≤ w.heap.size) : Fr B w w' := ⟨h.mono hB, fun p hp _ => h.cell hp⟩
theorem Fr.trans {B : Nat} {w w' w'' : World} (h : Fr B w w') (h' : Fr B w' w'') : Fr B w w'' := ⟨h.1.trans h'.1, fun p hp hn => (h'.2 p (Nat.lt_of_lt_of_le hp h.1.size) hn).trans (h.2 p hp hn)⟩
theorem Fr.set {B : Nat} {w w' : World} (h : Fr B w w') (b : Nat) (hb : b = B ∨ w.heap.size ≤ b) (hB : B ≤ w.heap.size) (v : Value) : Fr B w (w'.setCell ⟨b, 0, none⟩ v) :=
 ⟨h.1.setCell (by show B ≤ b; omega) v, fun p hp hn => (World.cell?_of_block (w := w') (Below.heap_setCell _ _ _ _ (by show p.block ≠ b; omega))).trans (h.2 p hp hn)⟩
abbrev FO (Bn Bt : Nat) : Value := .func (.func 18) #[] #[.pointer (some ⟨Bn, 0, none⟩), .pointer (some ⟨Bt, 0, none⟩)]
set_option maxRecDepth 1000000 in
set_option maxHeartbeats 2000000 in
theorem asked_out (f : Sq) (v : Value) (Bn Bt : Nat) (T : ByteArray) (w : World) (hne : Bn ≠ Bt) (cn : w.cell? ⟨Bn, 0, none⟩ = some (.int .i64 0)) (fn : w.frozen? ⟨Bn, 0, none⟩ = false) (ct : w.cell? ⟨Bt, 0, none⟩ = some (.string T)) :
  Calls Tryz.prog 44 #[WV f (FO Bn Bt), v] w fun e w' => e = .returned (.tuple #[.string T, .bool true]) ∧ Fr Bn w w' ∧ w'.cell? ⟨Bn, 0, none⟩ = some (.int .i64 1) := by
 have hq : ∀ w, (binOp .eql 35 (FO Bn Bt) .nilFunc).run Tryz.prog w = .ok (.bool false) w := fun w => by kernel_rfl
 have hmf : ∀ (fn : Fn) (first cap : Array Value) (w : World), (Instr.makeFunc fn first cap).run Tryz.prog w = .ok (.func fn first cap) w := fun _ _ _ _ => rfl
 obtain ⟨W1, hW1⟩ : ∃ W1, W1 = ((w.alloc (.cells #[.bool f.p, .bool f.mi, .bool f.sh, .bool f.sp, .bool f.z, .int .i64 f.wid, .int .i64 f.prec, .int .i32 f.verb, FO Bn Bt] 57)).alloc (.cells #[.string ⟨#[]⟩] 9)).alloc (.cells #[.bool false] 4) := ⟨_, rfl⟩
 have b1 : Below w.heap.size w W1 := by rw [hW1]; exact (((Below.refl _ _).alloc (Nat.le_refl _) _).alloc (by simp) _).alloc (by simp; omega) _
 have z1 : W1.heap.size = w.heap.size + 3 := by rw [hW1]; simp
 have a1 : At9 W1 w.heap.size f (FO Bn Bt) := by
  rw [hW1]
  refine ⟨?_, ?_, ?_, ?_, ?_, ?_, ?_, ?_, ?_⟩
  all_goals simp [go_sem]
 have s1 : W1.cell? ⟨w.heap.size + 1, 0, none⟩ = some (.string ⟨#[]⟩) := by rw [hW1]; simp [go_sem]
 have s2 : W1.cell? ⟨w.heap.size + 1 + 1, 0, none⟩ = some (.bool false) := by rw [hW1]; simp [go_sem]
 have y1 : W1.frozen? ⟨w.heap.size + 1, 0, none⟩ = false := by
  rw [hW1, frozen?_alloc_cells, frozen?_alloc_cells, frozen?_alloc_cells]
  exact frozen_none _ _ (by show w.heap.size ≤ w.heap.size + 1; omega)
 have y2 : W1.frozen? ⟨w.heap.size + 1 + 1, 0, none⟩ = false := by
  rw [hW1, frozen?_alloc_cells, frozen?_alloc_cells, frozen?_alloc_cells]
  exact frozen_none _ _ (by show w.heap.size ≤ w.heap.size + 1 + 1; omega)
 have hln : Bn < w.heap.size := lt_of_cell cn
 have hO := outer1_any v f Bn Bt T W1 hne (up_cell b1 cn) ((b1.frozen hln).trans fn) (up_cell b1 ct)
 obtain ⟨q0, q1, q2, q3, q4, q5, q6, q7, q8⟩ := a1
 go_enter_defers Tryz.func44, Tryz.ntmps44
 go_upto_region 1 with fail
 rw [← hW1]
 clear hW1
 go_wp2_with fail
 refine hO.mono ?_
 rintro e W2 ⟨rfl, W, bW, hW2⟩
 have g2 : ∀ p : Addr, p.block < W1.heap.size → p.block ≠ Bn → W2.cell? p = W1.cell? p := fun p hp hn => by rw [hW2, World.cell?_of_block (w := W) (Below.heap_setCell _ _ _ _ hn)]; exact bW.cell hp
 have k1 : W2.cell? ⟨w.heap.size + 1, 0, none⟩ = some (.string ⟨#[]⟩) := (g2 _ (by dsimp only; omega) (by dsimp only; omega)).trans s1
 have k2 : ∀ u, (W2.setCell ⟨w.heap.size + 1, 0, none⟩ u).cell? ⟨w.heap.size + 1 + 1, 0, none⟩ = some (.bool false) := fun u => (World.cell?_of_block (w := W2) (Below.heap_setCell _ _ _ _ (by show w.heap.size + 1 + 1 ≠ w.heap.size + 1; omega))).trans ((g2 _ (by dsimp only; omega) (by dsimp only; omega)).trans s2)
 have x1 : W2.frozen? ⟨w.heap.size + 1, 0, none⟩ = false := by rw [hW2, World.frozen?_setCell, bW.frozen (by dsimp only; omega)]; exact y1
 have x2 : ∀ u, (W2.setCell ⟨w.heap.size + 1, 0, none⟩ u).frozen? ⟨w.heap.size + 1 + 1, 0, none⟩ = false := fun u => by rw [World.frozen?_setCell, hW2, World.frozen?_setCell, bW.frozen (by dsimp only; omega)]; exact y2
 have kn : W2.cell? ⟨Bn, 0, none⟩ = some (.int .i64 1) := by rw [hW2]; exact cs_same8 _ _ _ (by rw [up_cell bW (up_cell b1 cn)]; rfl)
 have fr : Fr Bn w W2 := by rw [hW2]; exact ((Fr.of b1 (by omega)).trans (Fr.of bW (by omega))).set Bn (Or.inl rfl) (by omega) _
 have e1 : ∀ u x, ((W2.setCell ⟨w.heap.size + 1, 0, none⟩ u).setCell ⟨w.heap.size + 1 + 1, 0, none⟩ x).cell? ⟨w.heap.size + 1, 0, none⟩ = some u := fun u x => (World.cell?_of_block (w := W2.setCell ⟨w.heap.size + 1, 0, none⟩ u) (Below.heap_setCell _ _ _ _ (by show w.heap.size + 1 ≠ w.heap.size + 1 + 1; omega))).trans (cs_same8 _ _ _ (by rw [k1]; rfl))
 have e2 : ∀ u x, ((W2.setCell ⟨w.heap.size + 1, 0, none⟩ u).setCell ⟨w.heap.size + 1 + 1, 0, none⟩ x).cell? ⟨w.heap.size + 1 + 1, 0, none⟩ = some x := fun u x => cs_same8 _ _ _ (by rw [k2]; rfl)
 have e3 : ∀ u x, ((W2.setCell ⟨w.heap.size + 1, 0, none⟩ u).setCell ⟨w.heap.size + 1 + 1, 0, none⟩ x).cell? ⟨Bn, 0, none⟩ = some (.int .i64 1) := fun u x => ((World.cell?_of_block (w := W2.setCell ⟨w.heap.size + 1, 0, none⟩ u) (Below.heap_setCell _ _ _ _ (by show Bn ≠ w.heap.size + 1 + 1; omega))).trans (World.cell?_of_block (w := W2) (Below.heap_setCell _ _ _ _ (by show Bn ≠ w.heap.size + 1; omega)))).trans kn
 clear hW2 g2 hO s1 s2 y1 y2 q0 q1 q2 q3 q4 q5 q6 q7 q8 hq bW z1
 go_wp2
 refine leaves_cons (f := 82) (args := #[.pointer (some ⟨w.heap.size + 1, 0, none⟩), .pointer (some ⟨w.heap.size + 1 + 1, 0, none⟩)]) (by simp) (by simp [go_sem]) ?_
 refine (catch12_idle _ _ _).mono ?_
 rintro e u' w'' ⟨rfl, rfl, rfl⟩
 refine ⟨.tuple #[.string T, .bool true], ?_, rfl, (fr.set _ (Or.inr (by omega)) (by omega) _).set _ (Or.inr (by omega)) (by omega) _, e3 _ _⟩
 simp [results, Tryz.results44, go_sem, e1, e2]
end Go.Proofs.YtlgieoabellbmaaGreatDoor
namespace Go.Proofs.YtlgieoabellbmaaGreatDoor
open Go.RowKit
set_option linter.unusedVariables false
set_option linter.unusedSimpArgs false
set_option maxRecDepth 1000000 in
set_option maxHeartbeats 2000000 in
theorem written_out (f : Sq) (v : Value) (depth : Int) (Bn Bt : Nat) (T : ByteArray) (w : World) (hne : Bn ≠ Bt) (cn : w.cell? ⟨Bn, 0, none⟩ = some (.int .i64 0)) (fn : w.frozen? ⟨Bn, 0, none⟩ = false) (ct : w.cell? ⟨Bt, 0, none⟩ = some (.string T))
  (hS : ∀ W, Below w.heap.size w W → Calls Tryz.prog 42 #[v] W fun e W' => Below W.heap.size W W' ∧ ∃ t x, e = .returned (.iface t x)) :
  Calls Tryz.prog 25 #[WV f (FO Bn Bt), v, .int .i64 depth] w fun e w' => e = .returned (.string T) ∧ Fr Bn w w' ∧ w'.cell? ⟨Bn, 0, none⟩ = some (.int .i64 1) := by
 have hq : ∀ (t : TypeId) (x : Value) w, (binOp .eql 20 (.iface t x) .nilIface).run Tryz.prog w = .ok (.bool false) w := fun t x w => by kernel_rfl
 obtain ⟨W1, hW1⟩ : ∃ W1, W1 = w.alloc (.cells #[.bool f.p, .bool f.mi, .bool f.sh, .bool f.sp, .bool f.z, .int .i64 f.wid, .int .i64 f.prec, .int .i32 f.verb, FO Bn Bt] 57) := ⟨_, rfl⟩
 have b1 : Below w.heap.size w W1 := by rw [hW1]; exact (Below.refl _ _).alloc (Nat.le_refl _) _
 have a1 : At9 W1 w.heap.size f (FO Bn Bt) := by
  rw [hW1]
  refine ⟨?_, ?_, ?_, ?_, ?_, ?_, ?_, ?_, ?_⟩
  all_goals simp [go_sem]
 have hS1 := hS W1 b1
 have hln : Bn < w.heap.size := lt_of_cell cn
 go_enter Tryz.func25, Tryz.ntmps25
 go_upto_region 1 with fail
 rw [← hW1]
 clear hW1 hS
 go_upto_region 2 with (go_at_call 42; refine hS1.mono ?_; rintro e W2 ⟨b2, t, x, rfl⟩)
 have a2 := a1.up b2
 have b12 : Below w.heap.size w W2 := b1.trans (b2.mono b1.size)
 have hA := asked_out f v Bn Bt T W2 hne (up_cell b12 cn) ((b12.frozen hln).trans fn) (up_cell b12 ct)
 obtain ⟨q0, q1, q2, q3, q4, q5, q6, q7, q8⟩ := id a2
 clear hS1 a1 a2 cn fn ct
 go_wp2_with (go_at_call 44; refine hA.mono ?_; rintro e W3 ⟨rfl, r3, k3⟩)
 go_ret
 exact ⟨rfl, (Fr.of b12 (by omega)).trans r3, k3⟩
set_option maxRecDepth 1000000 in
set_option maxHeartbeats 2000000 in
theorem show_out (f : Sq) (hv : ¬ f.verb = 84) (v : Value) (Bn Bt : Nat) (T : ByteArray) (w : World) (hne : Bn ≠ Bt) (cn : w.cell? ⟨Bn, 0, none⟩ = some (.int .i64 0)) (fn : w.frozen? ⟨Bn, 0, none⟩ = false) (ct : w.cell? ⟨Bt, 0, none⟩ = some (.string T))
  (hS : ∀ W, Below w.heap.size w W → Calls Tryz.prog 42 #[v] W fun e W' => Below W.heap.size W W' ∧ ∃ t x, e = .returned (.iface t x)) :
  Calls Tryz.prog 10 #[v, SV f, FO Bn Bt] w fun e w' => e = .returned (.string T) ∧ Fr Bn w w' ∧ w'.cell? ⟨Bn, 0, none⟩ = some (.int .i64 1) := by
 obtain ⟨W1, hW1⟩ : ∃ W1, W1 = w.alloc (.cells #[.bool f.p, .bool f.mi, .bool f.sh, .bool f.sp, .bool f.z, .int .i64 f.wid, .int .i64 f.prec, .int .i32 f.verb] 33) := ⟨_, rfl⟩
 have b1 : Below w.heap.size w W1 := by rw [hW1]; exact (Below.refl _ _).alloc (Nat.le_refl _) _
 have q0 : W1.cell? ⟨w.heap.size, 0, none⟩ = some (.bool f.p) ∧ W1.cell? ⟨w.heap.size, 1, none⟩ = some (.bool f.mi) ∧ W1.cell? ⟨w.heap.size, 2, none⟩ = some (.bool f.sh) ∧ W1.cell? ⟨w.heap.size, 3, none⟩ = some (.bool f.sp) ∧ W1.cell? ⟨w.heap.size, 4, none⟩ = some (.bool f.z) ∧ W1.cell? ⟨w.heap.size, 5, none⟩ = some (.int .i64 f.wid) ∧ W1.cell? ⟨w.heap.size, 6, none⟩ = some (.int .i64 f.prec) ∧ W1.cell? ⟨w.heap.size, 7, none⟩ = some (.int .i32 f.verb) := by
  rw [hW1]
  refine ⟨?_, ?_, ?_, ?_, ?_, ?_, ?_, ?_⟩
  all_goals simp [go_sem]
 obtain ⟨q0, q1, q2, q3, q4, q5, q6, q7⟩ := q0
 have hln : Bn < w.heap.size := lt_of_cell cn
 have hW1c := written_out f v 0 Bn Bt T W1 hne (up_cell b1 cn) ((b1.frozen hln).trans fn) (up_cell b1 ct) fun W hW => hS W (b1.trans (hW.mono b1.size))
 go_enter Tryz.func10, Tryz.ntmps10
 go_upto_region 1 with fail
 rw [← hW1]
 clear hW1 hS cn fn ct
 go_wp2_with (go_at_call 25; refine hW1c.mono ?_; rintro e W2 ⟨rfl, r2, k2⟩)
 go_ret
 exact ⟨rfl, (Fr.of b1 (by omega)).trans r2, k2⟩
end Go.Proofs.YtlgieoabellbmaaGreatDoor
