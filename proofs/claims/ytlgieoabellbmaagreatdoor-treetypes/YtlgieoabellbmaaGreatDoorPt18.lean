/- GtP, GtQ, GtV, GtS, GtL: these texts in one. -/
import Derived.Test.YtlgieoabellbmaaGreatDoorGtD
import Derived.Test.YtlgieoabellbmaaGreatDoorPt11
namespace Go.Proofs.YtlgieoabellbmaaGreatDoor
open Go.RowKit
set_option linter.unusedVariables false
set_option linter.unusedSimpArgs false
theorem isNil_one (addr : Int) (a : Option Addr) (pc : Nat) (w : World) : Calls Tryz.prog 177 #[.agg #[.int .u64 addr, .slice a 1 pc]] w fun e w' => e = .returned (.bool false) ∧ Below w.heap.size w w' := by
 go_enter Tryz.func177, Tryz.ntmps177
 go_wp2
 go_ret
 exact ⟨rfl, by go_grown⟩
set_option maxRecDepth 1000000 in
theorem leads_struct (addr : Int) (b off pc : Nat) (w : World) (hc : w.cell? ⟨b, off, none⟩ = some (.int .i64 18)) : Calls Tryz.prog 176 #[.agg #[.int .u64 addr, .slice (some ⟨b, off, none⟩) 1 pc]] w fun e w' => e = .returned (.bool true) ∧ Below w.heap.size w w' := by
 obtain ⟨W1, hW1⟩ : ∃ W1, W1 = w.alloc (.cells #[.int .u64 addr, .slice (some ⟨b, off, none⟩) 1 pc] 157) := ⟨_, rfl⟩
 have b1 : Below w.heap.size w W1 := by rw [hW1]; exact (Below.refl _ _).alloc (Nat.le_refl _) _
 have r0 : W1.cell? ⟨w.heap.size, 0, none⟩ = some (.int .u64 addr) := by rw [hW1]; simp [go_sem]
 have r1 : W1.cell? ⟨w.heap.size, 1, none⟩ = some (.slice (some ⟨b, off, none⟩) 1 pc) := by rw [hW1]; simp [go_sem]
 have hN := isNil_one addr (some ⟨b, off, none⟩) pc W1
 go_enter Tryz.func176, Tryz.ntmps176
 go_upto_region 1 with fail
 rw [← hW1]
 clear hW1
 go_upto_region 3 with (go_at_call 177; refine hN.mono ?_; rintro e W2 ⟨rfl, b2⟩)
 have r2 := up_cell b2 r1
 have c2 := up_cell b2 (up_cell b1 hc)
 go_wp2
 go_ret
 exact ⟨rfl, b1.trans (b2.mono b1.size)⟩
set_option maxRecDepth 1000000 in
set_option maxHeartbeats 4000000 in
theorem byV_struct (f : Sq) (ty T : ByteArray) (addr : Int) (b off pc : Nat) (x : D) (hk : x.kind = 18) (n1 p1 : Option Addr) (n2 n3 p2 p3 : Nat) (w : World) (h8 : At8 w b off x (.slice n1 n2 n3) (.slice p1 p2 p3)) (hT : TxOf f .nilFunc 1 w x (.slice n1 n2 n3) (.slice p1 p2 p3) T) (hz : T.size ≤ 1000000000) :
  Calls Tryz.prog 136 #[WV f .nilFunc, .agg #[.int .u64 addr, .slice (some ⟨b, off, none⟩) 1 pc], .string ty, .int .i64 0] w fun e w' => e = .returned (.string (⟨#[38]⟩ ++ T)) ∧ Below w.heap.size w w' := by
 have hsum : ¬ 9223372036854775807 < 1 + T.size := by omega
 obtain ⟨W1, hW1⟩ : ∃ W1, W1 = (w.alloc (.cells #[.bool f.p, .bool f.mi, .bool f.sh, .bool f.sp, .bool f.z, .int .i64 f.wid, .int .i64 f.prec, .int .i32 f.verb, .nilFunc] 57)).alloc (.cells #[.int .u64 addr, .slice (some ⟨b, off, none⟩) 1 pc] 157) := ⟨_, rfl⟩
 have b1 : Below w.heap.size w W1 := by rw [hW1]; exact ((Below.refl _ _).alloc (Nat.le_refl _) _).alloc (by simp) _
 have a1 : At9 W1 w.heap.size f .nilFunc := by
  rw [hW1]
  refine ⟨?_, ?_, ?_, ?_, ?_, ?_, ?_, ?_, ?_⟩
  all_goals simp [go_sem]
 have r0 : W1.cell? ⟨w.heap.size + 1, 0, none⟩ = some (.int .u64 addr) := by rw [hW1]; simp [go_sem]
 have r1 : W1.cell? ⟨w.heap.size + 1, 1, none⟩ = some (.slice (some ⟨b, off, none⟩) 1 pc) := by rw [hW1]; simp [go_sem]
 have x1 := h8.up b1
 have hL := leads_struct addr b off pc W1 (by have h := x1.1; rw [hk] at h; exact h)
 go_enter Tryz.func136, Tryz.ntmps136
 go_upto_region 1 with fail
 rw [← hW1]
 clear hW1
 obtain ⟨X, hX⟩ : ∃ X, w.heap.size = X := ⟨_, rfl⟩
 rw [hX] at a1 r0 r1
 simp only [hX]
 have HX : Unit → w.heap.size = X := fun _ => hX
 clear hX
 go_upto_region 2 with (go_at_call 176; refine hL.mono ?_; rintro e W2 ⟨rfl, b2⟩)
 have a2 := a1.up b2
 have r2 := up_cell b2 r1
 have x2 := x1.up b2
 have bW2 := b1.trans (b2.mono b1.size)
 obtain ⟨Yd, hYd⟩ : ∃ Yd, Yd = W2.drew := ⟨_, rfl⟩
 have bY : Below w.heap.size w Yd := by rw [hYd]; exact bW2.drew
 refine wp_region_held_drew (S := (fun w' : World => At9 w' X f .nilFunc ∧ w'.cell? ⟨X + 1, 1, none⟩ = some (.slice (some ⟨b, off, none⟩) 1 pc) ∧ At8 w' b off x (.slice n1 n2 n3) (.slice p1 p2 p3))) (by kernel_rfl) (by exact ⟨a2, r2, x2⟩) ?_
 rw [← hYd]
 have s5 : (fun w' : World => At9 w' X f .nilFunc ∧ w'.cell? ⟨X + 1, 1, none⟩ = some (.slice (some ⟨b, off, none⟩) 1 pc) ∧ At8 w' b off x (.slice n1 n2 n3) (.slice p1 p2 p3)) Yd := by rw [hYd]; exact ⟨a2, r2, x2⟩
 have hup : ∀ {w1 w2 : World}, (fun w' : World => At9 w' X f .nilFunc ∧ w'.cell? ⟨X + 1, 1, none⟩ = some (.slice (some ⟨b, off, none⟩) 1 pc) ∧ At8 w' b off x (.slice n1 n2 n3) (.slice p1 p2 p3)) w1 → Below w1.heap.size w1 w2 → (fun w' : World => At9 w' X f .nilFunc ∧ w'.cell? ⟨X + 1, 1, none⟩ = some (.slice (some ⟨b, off, none⟩) 1 pc) ∧ At8 w' b off x (.slice n1 n2 n3) (.slice p1 p2 p3)) w2 := fun h h' => ⟨h.1.up h', up_cell h' h.2.1, h.2.2.up h'⟩
 clear hYd a1 a2 r0 r1 r2 x1 x2 b1 b2 bW2 hL h8 hz hk
 intro hS
 refine tk 0 (.agg #[.bool f.p, .bool f.mi, .bool f.sh, .bool f.sp, .bool f.z, .int .i64 f.wid, .int .i64 f.prec, .int .i32 f.verb, .nilFunc]) rfl (by kernel_rfl) (fun _ _ _ h => h) (by rfl) (by assumption) ?_ ?_
 ·intro w5 s0
  obtain ⟨⟨q0, q1, q2, q3, q4, q5, q6, q7, q8⟩, -⟩ := s0
  go_simp
 try simp only [Act.put, lyt]
 refine tk 1 (.pointer (some ⟨X + 1, 1, none⟩)) rfl (by kernel_rfl) (fun _ _ _ h => h) (by rfl) (by assumption) ?_ ?_
 ·intro w5 s0
  go_simp
 try simp only [Act.put, lyt]
 refine tk 2 (.slice (some ⟨b, off, none⟩) 1 pc) rfl (by kernel_rfl) (fun _ _ _ h => h) (by rfl) (by assumption) ?_ ?_
 ·intro w5 s0
  obtain ⟨-, r1, -⟩ := s0
  go_simp
 try simp only [Act.put, lyt]
 refine tk 3 (.pointer (some ⟨b, off, none⟩)) rfl (by kernel_rfl) (fun _ _ _ h => h) (by rfl) (by assumption) ?_ ?_
 ·intro w5 s0
  go_simp
 try simp only [Act.put, lyt]
 refine tk 4 (.agg #[.int .i64 x.kind, .string x.ty, .int .u64 x.bits, .int .u64 x.imag, .string x.text, .slice n1 n2 n3, .slice p1 p2 p3, .int .i64 x.hook]) rfl (by kernel_rfl) (fun _ _ _ h => h) (by rfl) (by assumption) ?_ ?_
 ·intro w5 s0
  obtain ⟨-, -, y0, y1, y2, y3, y4, y5, y6, y7⟩ := s0
  go_simp
 try simp only [Act.put, lyt]
 refine tk 6 (.int .i64 0) rfl (by kernel_rfl) (fun _ _ _ h => h) (by rfl) (by assumption) ?_ ?_
 ·intro w5 s0
  go_simp
 try simp only [Act.put, lyt]
 refine tk 7 (.int .i64 1) rfl (by kernel_rfl) (fun _ _ _ h => h) (by rfl) (by assumption) ?_ ?_
 ·intro w5 s0
  go_simp
  rfl
 try simp only [Act.put, lyt]
 refine rd1 5 (by kernel_rfl) rfl fun K1 hK1 => ?_
 go_simp
 refine (hT Yd bY).mono ?_
 rintro e Z1 ⟨z1, v, rfl, hwr⟩
 have sZ1 := (hup s5) z1
 have hw1 := hwr Z1 (Below.refl _ _)
 clear hwr
 refine hK1.out _ _ sZ1 (fun _ => ?_)
 clear hK1
 try simp only [Act.put, lyt]
 refine rd1 8 (by kernel_rfl) rfl fun K2 hK2 => ?_
 go_simp
 refine (hw1).mono ?_
 rintro e Z2 ⟨rfl, z2⟩
 have sZ2 := (hup sZ1) z2
 refine hK2.out _ _ sZ2 (fun _ => ?_)
 clear hK2
 try simp only [Act.put, lyt]
 refine rd1 9 (by kernel_rfl) rfl fun K3 hK3 => ?_
 go_simp
 refine hK3.out _ _ sZ2 (fun _ => ?_)
 clear hK3
 try simp only [Act.put, lyt]
 refine rd1 10 (by kernel_rfl) rfl fun K4 hK4 => ?_
 go_simp
 refine hK4.out _ _ sZ2 (fun _ => ?_)
 clear hK4
 try simp only [Act.put, lyt]
 refine wpAnyH_done (by kernel_rfl) ?_ _
 clear hS
 go_wp2
 go_ret
 exact ⟨rfl, (bY.trans (z1.mono bY.size)).trans (z2.mono (by have := bY.size; have := z1.size; omega))⟩
end Go.Proofs.YtlgieoabellbmaaGreatDoor
namespace Go.Proofs.YtlgieoabellbmaaGreatDoor
open Go.RowKit
set_option linter.unusedVariables false
set_option linter.unusedSimpArgs false
set_option maxRecDepth 1000000 in
set_option maxHeartbeats 2000000 in
theorem pointer_v (f : Sq) (hv : f.verb = 118) (ty R : ByteArray) (addr depth : Int) (pa : Option Addr) (pl pc : Nat) (w : World)
  (hB : ∀ W, Below w.heap.size w W → Calls Tryz.prog 136 #[WV f .nilFunc, .agg #[.int .u64 addr, .slice pa pl pc], .string ty, .int .i64 depth] W fun e W' => e = .returned (.string R) ∧ Below W.heap.size W W') :
  Calls Tryz.prog 94 #[WV f .nilFunc, .agg #[.int .u64 addr, .slice pa pl pc], .string ty, .int .i64 depth] w fun e w' => e = .returned (.tuple #[.string R, .bool true]) ∧ Below w.heap.size w w' := by
 obtain ⟨p, mi, sh, sp, z, wid, prec, verb⟩ := f
 dsimp only at hv hB ⊢
 subst hv
 obtain ⟨W1, hW1⟩ : ∃ W1, W1 = (w.alloc (.cells #[.bool p, .bool mi, .bool sh, .bool sp, .bool z, .int .i64 wid, .int .i64 prec, .int .i32 118, .nilFunc] 57)).alloc (.cells #[.int .u64 addr, .slice pa pl pc] 157) := ⟨_, rfl⟩
 have b1 : Below w.heap.size w W1 := by rw [hW1]; exact ((Below.refl _ _).alloc (Nat.le_refl _) _).alloc (by simp) _
 have a1 : At9 W1 w.heap.size ⟨p, mi, sh, sp, z, wid, prec, 118⟩ .nilFunc := by
  rw [hW1]
  refine ⟨?_, ?_, ?_, ?_, ?_, ?_, ?_, ?_, ?_⟩
  all_goals simp [go_sem]
 have r0 : W1.cell? ⟨w.heap.size + 1, 0, none⟩ = some (.int .u64 addr) := by rw [hW1]; simp [go_sem]
 have r1 : W1.cell? ⟨w.heap.size + 1, 1, none⟩ = some (.slice pa pl pc) := by rw [hW1]; simp [go_sem]
 have hB1 := hB W1 b1
 go_enter Tryz.func94, Tryz.ntmps94
 go_upto_region 1 with fail
 rw [← hW1]
 clear hW1 hB
 obtain ⟨q0, q1, q2, q3, q4, q5, q6, q7, q8⟩ := a1
 go_wp2_with (go_at_call 136; refine hB1.mono ?_; rintro e W2 ⟨rfl, b2⟩)
 go_ret2
 exact ⟨rfl, b1.trans (b2.mono b1.size)⟩
set_option maxRecDepth 1000000 in
set_option maxHeartbeats 2000000 in
theorem shaped_pointer (f : Sq) (ty R : ByteArray) (addr depth : Int) (pa : Option Addr) (pl pc : Nat) (w : World)
  (hB : ∀ W, Below w.heap.size w W → Calls Tryz.prog 94 #[WV f .nilFunc, .agg #[.int .u64 addr, .slice pa pl pc], .string ty, .int .i64 depth] W fun e W' => e = .returned (.tuple #[.string R, .bool true]) ∧ Below W.heap.size W W') :
  Calls Tryz.prog 45 #[WV f .nilFunc, .iface 157 (.agg #[.int .u64 addr, .slice pa pl pc]), .string ty, .int .i64 depth] w fun e w' => e = .returned (.tuple #[.string R, .bool true]) ∧ Below w.heap.size w w' := by
 have t0 : ∀ w, (Instr.typeAssert (.iface 157 (.agg #[.int .u64 addr, .slice pa pl pc])) 20 143 true).run Tryz.prog w = .ok (.tuple #[.bool false, .bool false]) w := fun w => by kernel_rfl
 have t1 : ∀ w, (Instr.typeAssert (.iface 157 (.agg #[.int .u64 addr, .slice pa pl pc])) 20 144 true).run Tryz.prog w = .ok (.tuple #[.int .i64 0, .bool false]) w := fun w => by kernel_rfl
 have t2 : ∀ w, (Instr.typeAssert (.iface 157 (.agg #[.int .u64 addr, .slice pa pl pc])) 20 145 true).run Tryz.prog w = .ok (.tuple #[.int .u64 0, .bool false]) w := fun w => by kernel_rfl
 have t3 : ∀ w, (Instr.typeAssert (.iface 157 (.agg #[.int .u64 addr, .slice pa pl pc])) 20 147 true).run Tryz.prog w = .ok (.tuple #[.agg #[.int .u64 0, .int .i64 0], .bool false]) w := fun w => by kernel_rfl
 have t4 : ∀ w, (Instr.typeAssert (.iface 157 (.agg #[.int .u64 addr, .slice pa pl pc])) 20 149 true).run Tryz.prog w = .ok (.tuple #[.agg #[.int .u64 0, .int .u64 0, .int .i64 0], .bool false]) w := fun w => by kernel_rfl
 have t5 : ∀ w, (Instr.typeAssert (.iface 157 (.agg #[.int .u64 addr, .slice pa pl pc])) 20 150 true).run Tryz.prog w = .ok (.tuple #[.string ⟨#[]⟩, .bool false]) w := fun w => by kernel_rfl
 have t6 : ∀ w, (Instr.typeAssert (.iface 157 (.agg #[.int .u64 addr, .slice pa pl pc])) 20 151 true).run Tryz.prog w = .ok (.tuple #[.string ⟨#[]⟩, .bool false]) w := fun w => by kernel_rfl
 have t7 : ∀ w, (Instr.typeAssert (.iface 157 (.agg #[.int .u64 addr, .slice pa pl pc])) 20 153 true).run Tryz.prog w = .ok (.tuple #[.agg #[.slice none 0 0, .slice none 0 0], .bool false]) w := fun w => by kernel_rfl
 have t8 : ∀ w, (Instr.typeAssert (.iface 157 (.agg #[.int .u64 addr, .slice pa pl pc])) 20 154 true).run Tryz.prog w = .ok (.tuple #[.slice none 0 0, .bool false]) w := fun w => by kernel_rfl
 have t9 : ∀ w, (Instr.typeAssert (.iface 157 (.agg #[.int .u64 addr, .slice pa pl pc])) 20 155 true).run Tryz.prog w = .ok (.tuple #[.slice none 0 0, .bool false]) w := fun w => by kernel_rfl
 have t10 : ∀ w, (Instr.typeAssert (.iface 157 (.agg #[.int .u64 addr, .slice pa pl pc])) 20 157 true).run Tryz.prog w = .ok (.tuple #[.agg #[.int .u64 addr, .slice pa pl pc], .bool true]) w := fun w => by kernel_rfl
 obtain ⟨W1, hW1⟩ : ∃ W1, W1 = (w.alloc (.cells #[.bool f.p, .bool f.mi, .bool f.sh, .bool f.sp, .bool f.z, .int .i64 f.wid, .int .i64 f.prec, .int .i32 f.verb, .nilFunc] 57)).alloc (.cells #[.int .u64 addr, .slice pa pl pc] 157) := ⟨_, rfl⟩
 have b1 : Below w.heap.size w W1 := by rw [hW1]; exact ((Below.refl _ _).alloc (Nat.le_refl _) _).alloc (by simp) _
 have a1 : At9 W1 w.heap.size f .nilFunc := by
  rw [hW1]
  refine ⟨?_, ?_, ?_, ?_, ?_, ?_, ?_, ?_, ?_⟩
  all_goals simp [go_sem]
 have r0 : W1.cell? ⟨w.heap.size + 1, 0, none⟩ = some (.int .u64 addr) := by rw [hW1]; simp [go_sem]
 have r1 : W1.cell? ⟨w.heap.size + 1, 1, none⟩ = some (.slice pa pl pc) := by rw [hW1]; simp [go_sem]
 have hB1 := hB W1 b1
 go_enter Tryz.func45, Tryz.ntmps45
 go_upto_region 34 with fail
 rw [← hW1]
 clear hW1 hB
 obtain ⟨q0, q1, q2, q3, q4, q5, q6, q7, q8⟩ := a1
 go_wp2_with (go_at_call 94; refine hB1.mono ?_; rintro e W2 ⟨rfl, b2⟩)
 go_ret2
 exact ⟨rfl, b1.trans (b2.mono b1.size)⟩
set_option maxRecDepth 1000000 in
set_option maxHeartbeats 2000000 in
theorem show_nil (f : Sq) (hv : ¬ f.verb = 84) (v : Value) (R : ByteArray) (w : World)
  (hW : ∀ W, Below w.heap.size w W → Calls Tryz.prog 25 #[WV f .nilFunc, v, .int .i64 0] W fun e W' => e = .returned (.string R) ∧ Below W.heap.size W W') :
  Calls Tryz.prog 10 #[v, SV f, .nilFunc] w fun e w' => e = .returned (.string R) ∧ Below w.heap.size w w' := by
 obtain ⟨W1, hW1⟩ : ∃ W1, W1 = w.alloc (.cells #[.bool f.p, .bool f.mi, .bool f.sh, .bool f.sp, .bool f.z, .int .i64 f.wid, .int .i64 f.prec, .int .i32 f.verb] 33) := ⟨_, rfl⟩
 have b1 : Below w.heap.size w W1 := by rw [hW1]; exact (Below.refl _ _).alloc (Nat.le_refl _) _
 have q0 : W1.cell? ⟨w.heap.size, 0, none⟩ = some (.bool f.p) ∧ W1.cell? ⟨w.heap.size, 1, none⟩ = some (.bool f.mi) ∧ W1.cell? ⟨w.heap.size, 2, none⟩ = some (.bool f.sh) ∧ W1.cell? ⟨w.heap.size, 3, none⟩ = some (.bool f.sp) ∧ W1.cell? ⟨w.heap.size, 4, none⟩ = some (.bool f.z) ∧ W1.cell? ⟨w.heap.size, 5, none⟩ = some (.int .i64 f.wid) ∧ W1.cell? ⟨w.heap.size, 6, none⟩ = some (.int .i64 f.prec) ∧ W1.cell? ⟨w.heap.size, 7, none⟩ = some (.int .i32 f.verb) := by
  rw [hW1]
  refine ⟨?_, ?_, ?_, ?_, ?_, ?_, ?_, ?_⟩
  all_goals simp [go_sem]
 obtain ⟨q0, q1, q2, q3, q4, q5, q6, q7⟩ := q0
 have hW1c := hW W1 b1
 go_enter Tryz.func10, Tryz.ntmps10
 go_upto_region 1 with fail
 rw [← hW1]
 clear hW1 hW
 go_wp2_with (go_at_call 25; refine hW1c.mono ?_; rintro e W2 ⟨rfl, h2⟩)
 go_ret
 exact ⟨rfl, b1.trans (h2.mono b1.size)⟩
end Go.Proofs.YtlgieoabellbmaaGreatDoor
namespace Go.Proofs.YtlgieoabellbmaaGreatDoor
open Go.RowKit
set_option linter.unusedVariables false
set_option linter.unusedSimpArgs false
set_option maxRecDepth 1000000 in
set_option maxHeartbeats 2000000 in
theorem valueOf_any (n : Nat) (x : D) (nv pv : Value) (w : World) (hr : RdC n w nv pv x) (hn : n ≤ 1000) (h0 : bErr x = 0) :
  Calls Tryz.prog 133 #[DV x nv pv] w fun e w' => Below w.heap.size w w' ∧ ∃ t y, e = .returned (.iface t y) ∧ VlC srt n (fun _ => True) w' (.iface t y) x := by
 obtain ⟨na, nc, pa, pc, rfl, rfl⟩ := hr.slices
 obtain ⟨W1, hW1⟩ : ∃ W1, W1 = w.alloc (.cells #[.int .i64 x.kind, .string x.ty, .int .u64 x.bits, .int .u64 x.imag, .string x.text, .slice na x.names.length nc, .slice pa x.parts.length pc, .int .i64 x.hook] 26) := ⟨_, rfl⟩
 have b1 : Below w.heap.size w W1 := by rw [hW1]; exact (Below.refl _ _).alloc (Nat.le_refl _) _
 have a1 : At8 W1 w.heap.size 0 x (.slice na x.names.length nc) (.slice pa x.parts.length pc) := by
  rw [hW1]
  refine ⟨?_, ?_, ?_, ?_, ?_, ?_, ?_, ?_⟩
  all_goals simp [go_sem]
 have hB := (buildA n x _ _ W1 (hr.up b1) hn).mono fun e w' h => (⟨h.1, h.2.elim (fun q => q.2) (fun q => absurd h0 q.1)⟩ : _ ∧ _)
 obtain ⟨c0, c1, c2, c3, c4, c5, c6, c7⟩ := a1
 simp only [Nat.zero_add] at c0 c1 c2 c3 c4 c5 c6 c7
 go_enter Tryz.func133, Tryz.ntmps133
 go_upto_region 1 with fail
 rw [← hW1]
 clear hW1
 go_wp2_with (go_at_call 20; refine hB.mono ?_; rintro e W2 ⟨b2, t, y, rfl, hv⟩)
 go_ret
 exact ⟨b1.trans (b2.mono b1.size), t, y, rfl, hv.turn (Kept.below (Below.refl _ _) fun _ _ _ => trivial)⟩
theorem txOf_of (f : Sq) (depth : Int) (n : Nat) (x : D) (nv pv : Value) (w : World) (T : ByteArray) (hr : RdC n w nv pv x) (hn : n ≤ 1000) (h0 : bErr x = 0)
  (hw : ∀ W v, Below w.heap.size w W → VlC srt n (fun _ => True) W v x → Calls Tryz.prog 25 #[WV f .nilFunc, v, .int .i64 depth] W fun e W' => e = .returned (.string T) ∧ Below W.heap.size W W') : TxOf f .nilFunc depth w x nv pv T := by
 intro W hW
 refine (valueOf_any n x nv pv W (hr.up hW) hn h0).mono ?_
 rintro e W1 ⟨b1, t, y, rfl, hv⟩
 refine ⟨b1, _, rfl, fun W2 h2 => hw W2 _ ((hW.trans (b1.mono hW.size)).trans (h2.mono (by have := hW.size; have := b1.size; omega))) (hv.turn (Kept.below h2 fun _ _ _ => trivial))⟩
theorem TxOf.up {f : Sq} {ask : Value} {depth : Int} {w V : World} {x : D} {nv pv : Value} {t : ByteArray} (h : TxOf f ask depth w x nv pv t) (hb : Below w.heap.size w V) : TxOf f ask depth V x nv pv t :=
 fun W hW => h W (hb.trans (hW.mono hb.size))
set_option maxRecDepth 1000000 in
theorem written_int (f : Sq) (hk6 : numK f.verb = true) (n : Nat) (x : D) (hk : x.kind = 6) (hg : Good8 x) (depth : Int) (w : World) (v : Value) (ty : ByteArray) (hE : Esc w) (hK : KN w) (hv : VlC srt n (fun _ => True) w v x) (hty : if (inF x).ty.size = 0 then 0 ≤ (inF x).kind ∧ kindN[(inF x).kind.toNat]? = some ty else ty = (inF x).ty) (hi : (inF x).kind = 6) (hbits : 0 ≤ (inF x).bits) (hp : (inF x).parts.length ≤ 1000) (hw1 : -9223372036854775808 ≤ wrap64 (inF x).bits) (hw2 : wrap64 (inF x).bits ≤ 9223372036854775807) :
  Calls Tryz.prog 25 #[WV f .nilFunc, v, .int .i64 depth] w fun e W' => e = .returned (.string (numT (wrap64 (inF x).bits) f)) ∧ Below w.heap.size w W' := by
 refine written_of f v depth w ty _ (fun t y W => (Value.iface t y = .iface 144 (.int .i64 (wrap64 (inF x).bits))) ∧ Below w.heap.size w W) ?_ ?_ ?_
 ·intro W hW
  refine (shapeOf_any n x hg _ W v (hv.turn (Kept.below hW fun _ _ _ => trivial)) (by omega) (by omega) hbits hp).mono ?_
  rintro e W' ⟨b, na, nc, pa, pc, rfl, -⟩
  refine ⟨b, 144, .int .i64 (wrap64 (inF x).bits), ?_, rfl, hW.trans (b.mono hW.size)⟩
  unfold shV
  rw [if_neg (by omega), if_pos (by omega)]
 ·intro W hW
  have hm := mark_any n _ w v x (by omega) hv
  exact vtype_any v _ _ _ hm W (hK.up hW) ty hty
 ·rintro t y W1 W2 ⟨e, hW1⟩ h2
  rw [e]
  have hE2 := (hE.below hW1).below h2
  have := shaped_signed f .nilFunc ty depth (wrap64 (inF x).bits) W2 hE2 hw1 hw2
  rw [hk6] at this
  exact this
end Go.Proofs.YtlgieoabellbmaaGreatDoor
namespace Go.Proofs.YtlgieoabellbmaaGreatDoor
open Go.RowKit
set_option linter.unusedVariables false
set_option linter.unusedSimpArgs false
set_option maxRecDepth 1000000 in
set_option maxHeartbeats 2000000 in
theorem written_struct0 (f : Sq) (n : Nat) (x : D) (hg : Good8 x) (w : World) (v : Value) (ty : ByteArray) (hK : KN w) (hv : VlC srt (n + 1) (fun _ => True) w v x)
  (hty : if (inF x).ty.size = 0 then 0 ≤ (inF x).kind ∧ kindN[(inF x).kind.toNat]? = some ty else ty = (inF x).ty) (hk0 : 0 ≤ x.kind) (hk : (inF x).kind = 18) (hbits : 0 ≤ (inF x).bits) (hp : (inF x).parts.length ≤ 1000) (hn : n ≤ 1000) (htyz : ty.size ≤ 1000)
  (ts : List ByteArray) (xs : List TxK) (hxs : xs.map (·.1) = ((inF x).names.zip ts).map fun q => fldT f q.1 q.2) (hlt : ts.length = (inF x).parts.length) (hln : (inF x).names.length = (inF x).parts.length)
  (hnz : ∀ s ∈ (inF x).names, s.size ≤ 1000) (htz : ∀ t ∈ ts, t.size ≤ 100000000)
  (hparts : ∀ (i : Nat) (y : D) (t : ByteArray), (inF x).parts[i]? = some y → ts[i]? = some t → bErr y = 0 ∧ ∀ W v', Below w.heap.size w W → VlC srt n (fun _ => True) W v' y → Calls Tryz.prog 25 #[WV f .nilFunc, v', .int .i64 1] W fun e W' => e = .returned (.string t) ∧ Below W.heap.size W W')
  (R : ByteArray) (hR : (if syn f then (⟨((ty ++ ⟨#[123]⟩).data.toList ++ (jn [44, 32] (xs.map (·.1))).2 ++ (ByteArray.mk #[125]).data.toList).toArray⟩ : ByteArray) else ⟨((ByteArray.mk #[123]).data.toList ++ (jn [32] (xs.map (·.1))).2 ++ (ByteArray.mk #[125]).data.toList).toArray⟩) = R) :
  Calls Tryz.prog 25 #[WV f .nilFunc, v, .int .i64 0] w fun e W' => e = .returned (.string R) ∧ Below w.heap.size w W' := by
 have hlx : xs.length = ts.length := by have := congrArg List.length hxs; simp at this; omega
 refine written_of f v 0 w ty _ (fun t y W => ∃ na nc pa pc, Value.iface t y = .iface 153 (.agg #[.slice na (inF x).names.length nc, .slice pa (inF x).parts.length pc]) ∧ RdS (n + 1) (fun _ => True) W (.slice na (inF x).names.length nc) (.slice pa (inF x).parts.length pc) (inF x) ∧ Below w.heap.size w W) ?_ ?_ ?_
 ·intro W hW
  refine (shapeOf_any (n + 1) x hg _ W v (hv.turn (Kept.below hW fun _ _ _ => trivial)) (by omega) (by omega) hbits hp).mono ?_
  rintro e W' ⟨b, na, nc, pa, pc, rfl, hrd⟩
  refine ⟨b, 153, .agg #[.slice na (inF x).names.length nc, .slice pa (inF x).parts.length pc], ?_, na, nc, pa, pc, rfl, hrd.turn (Kept.below (Below.refl _ _) fun _ _ _ => trivial), hW.trans (b.mono hW.size)⟩
  unfold shV
  rw [if_neg (by omega), if_neg (by omega), if_neg (by omega), if_neg (by omega), if_neg (by omega), if_neg (by omega), if_neg (by omega), if_neg (by omega), if_neg (by omega), if_pos (by omega)]
 ·intro W hW
  have hm := mark_any (n + 1) _ w v x hk0 hv
  exact vtype_any v _ _ _ hm W (hK.up hW) ty hty
 ·rintro t y W1 W2 ⟨na, nc, pa, pc, e, hrd, hW1⟩ h2
  rw [e]
  refine shaped_struct0 f ty na pa nc pc (inF x).parts (inF x).names W2 R ?_
  intro Y hY Z hZ
  have hYZ : Below Y.heap.size Y Z := by rw [hZ]; exact (((Below.refl _ _).alloc (Nat.le_refl _) _).alloc (by simp) _).alloc (by simp; omega) _
  have h1Z : Below W1.heap.size W1 Z := (h2.trans (hY.mono h2.size)).trans (hYZ.mono (by have := h2.size; have := hY.size; omega))
  have hwZ : Below w.heap.size w Z := hW1.trans (h1Z.mono hW1.size)
  have hrz := hrd.turn (Kept.below (S' := fun _ => True) h1Z fun _ _ _ => trivial)
  obtain ⟨-, ⟨na', nc', en, -, -, hnames⟩, pa', pc', ep, -, -, hprt⟩ := hrz
  cases en
  cases ep
  have hseq := fields_stops f .nilFunc 1 (Y.heap.size + 1) Y.heap.size (Y.heap.size + 2) na pa nc pc (inF x).parts (inF x).names ts xs Z
   (by rw [hZ]; simp [go_sem]) (by rw [hZ]; simp [go_sem])
   (by rw [hZ]; refine ⟨?_, ?_, ?_, ?_, ?_, ?_, ?_, ?_, ?_⟩ <;> simp [go_sem])
   (by rw [hZ]; simp [go_sem]) hln hlt hp hxs
   (fun i s hs => by
    obtain ⟨-, b, off, e1, -, e3⟩ := hnames i s hs
    exact ⟨hnz s (List.mem_of_getElem? hs), b, off, e1, e3⟩) htz
   (fun i q t hq ht => by
    obtain ⟨b, off, nv, pv, e1, -, e3, e4⟩ := hprt i q hq
    obtain ⟨h0, hwr⟩ := hparts i q t hq ht
    obtain ⟨n1, n2, p1, p2, rfl, rfl⟩ := e4.slices
    refine ⟨b, off, _, _, e1, e3, ⟨_, _, _, rfl⟩, ⟨_, _, _, rfl⟩, txOf_of f 1 n q _ _ Z t e4.plain hn h0 fun W v' hW hv' => hwr W v' (hwZ.trans (hW.mono hwZ.size)) hv'⟩)
  have hent := enters_of Tryz.func131 (by kernel_rfl) rfl
  by_cases hs : syn f = true
  ·rw [if_pos hs] at hR
   exact enclosed_syn f .nilFunc ty _ _ _ _ xs 131 _ Z hs rfl rfl (by omega) hent hseq (by rw [ByteArray.size_append]; show ty.size + 1 + 1 ≤ 1000000000; omega) (by omega) R fun _ => hR
  ·rw [if_neg hs] at hR
   have hs' : syn f = false := by cases h : syn f with | false => rfl | true => exact absurd h hs
   exact enclosed_plain f .nilFunc ty ⟨#[123]⟩ ⟨#[125]⟩ xs 131 _ Z hs' hent hseq (by show 1 + 1 ≤ 1000000000; omega) (by omega) R fun _ => hR
set_option maxRecDepth 1000000 in
set_option maxHeartbeats 2000000 in
theorem written_struct1 (f : Sq) (n : Nat) (x : D) (hg : Good8 x) (w : World) (v : Value) (ty : ByteArray) (hK : KN w) (hv : VlC srt (n + 1) (fun _ => True) w v x)
  (hty : if (inF x).ty.size = 0 then 0 ≤ (inF x).kind ∧ kindN[(inF x).kind.toNat]? = some ty else ty = (inF x).ty) (hk0 : 0 ≤ x.kind) (hk : (inF x).kind = 18) (hbits : 0 ≤ (inF x).bits) (hp : (inF x).parts.length ≤ 1000) (hn : n ≤ 1000) (htyz : ty.size ≤ 1000)
  (ts : List ByteArray) (xs : List TxK) (hxs : xs.map (·.1) = ((inF x).names.zip ts).map fun q => fldT f q.1 q.2) (hlt : ts.length = (inF x).parts.length) (hln : (inF x).names.length = (inF x).parts.length)
  (hnz : ∀ s ∈ (inF x).names, s.size ≤ 1000) (htz : ∀ t ∈ ts, t.size ≤ 100000000)
  (hparts : ∀ (i : Nat) (y : D) (t : ByteArray), (inF x).parts[i]? = some y → ts[i]? = some t → bErr y = 0 ∧ ∀ W v', Below w.heap.size w W → VlC srt n (fun _ => True) W v' y → Calls Tryz.prog 25 #[WV f .nilFunc, v', .int .i64 2] W fun e W' => e = .returned (.string t) ∧ Below W.heap.size W W')
  (R : ByteArray) (hR : (if syn f then (⟨((ty ++ ⟨#[123]⟩).data.toList ++ (jn [44, 32] (xs.map (·.1))).2 ++ (ByteArray.mk #[125]).data.toList).toArray⟩ : ByteArray) else ⟨((ByteArray.mk #[123]).data.toList ++ (jn [32] (xs.map (·.1))).2 ++ (ByteArray.mk #[125]).data.toList).toArray⟩) = R) :
  Calls Tryz.prog 25 #[WV f .nilFunc, v, .int .i64 1] w fun e W' => e = .returned (.string R) ∧ Below w.heap.size w W' := by
 have hlx : xs.length = ts.length := by have := congrArg List.length hxs; simp at this; omega
 refine written_of f v 1 w ty _ (fun t y W => ∃ na nc pa pc, Value.iface t y = .iface 153 (.agg #[.slice na (inF x).names.length nc, .slice pa (inF x).parts.length pc]) ∧ RdS (n + 1) (fun _ => True) W (.slice na (inF x).names.length nc) (.slice pa (inF x).parts.length pc) (inF x) ∧ Below w.heap.size w W) ?_ ?_ ?_
 ·intro W hW
  refine (shapeOf_any (n + 1) x hg _ W v (hv.turn (Kept.below hW fun _ _ _ => trivial)) (by omega) (by omega) hbits hp).mono ?_
  rintro e W' ⟨b, na, nc, pa, pc, rfl, hrd⟩
  refine ⟨b, 153, .agg #[.slice na (inF x).names.length nc, .slice pa (inF x).parts.length pc], ?_, na, nc, pa, pc, rfl, hrd.turn (Kept.below (Below.refl _ _) fun _ _ _ => trivial), hW.trans (b.mono hW.size)⟩
  unfold shV
  rw [if_neg (by omega), if_neg (by omega), if_neg (by omega), if_neg (by omega), if_neg (by omega), if_neg (by omega), if_neg (by omega), if_neg (by omega), if_neg (by omega), if_pos (by omega)]
 ·intro W hW
  have hm := mark_any (n + 1) _ w v x hk0 hv
  exact vtype_any v _ _ _ hm W (hK.up hW) ty hty
 ·rintro t y W1 W2 ⟨na, nc, pa, pc, e, hrd, hW1⟩ h2
  rw [e]
  refine shaped_struct1 f ty na pa nc pc (inF x).parts (inF x).names W2 R ?_
  intro Y hY Z hZ
  have hYZ : Below Y.heap.size Y Z := by rw [hZ]; exact (((Below.refl _ _).alloc (Nat.le_refl _) _).alloc (by simp) _).alloc (by simp; omega) _
  have h1Z : Below W1.heap.size W1 Z := (h2.trans (hY.mono h2.size)).trans (hYZ.mono (by have := h2.size; have := hY.size; omega))
  have hwZ : Below w.heap.size w Z := hW1.trans (h1Z.mono hW1.size)
  have hrz := hrd.turn (Kept.below (S' := fun _ => True) h1Z fun _ _ _ => trivial)
  obtain ⟨-, ⟨na', nc', en, -, -, hnames⟩, pa', pc', ep, -, -, hprt⟩ := hrz
  cases en
  cases ep
  have hseq := fields_stops f .nilFunc 2 (Y.heap.size + 1) Y.heap.size (Y.heap.size + 2) na pa nc pc (inF x).parts (inF x).names ts xs Z
   (by rw [hZ]; simp [go_sem]) (by rw [hZ]; simp [go_sem])
   (by rw [hZ]; refine ⟨?_, ?_, ?_, ?_, ?_, ?_, ?_, ?_, ?_⟩ <;> simp [go_sem])
   (by rw [hZ]; simp [go_sem]) hln hlt hp hxs
   (fun i s hs => by
    obtain ⟨-, b, off, e1, -, e3⟩ := hnames i s hs
    exact ⟨hnz s (List.mem_of_getElem? hs), b, off, e1, e3⟩) htz
   (fun i q t hq ht => by
    obtain ⟨b, off, nv, pv, e1, -, e3, e4⟩ := hprt i q hq
    obtain ⟨h0, hwr⟩ := hparts i q t hq ht
    obtain ⟨n1, n2, p1, p2, rfl, rfl⟩ := e4.slices
    refine ⟨b, off, _, _, e1, e3, ⟨_, _, _, rfl⟩, ⟨_, _, _, rfl⟩, txOf_of f 2 n q _ _ Z t e4.plain hn h0 fun W v' hW hv' => hwr W v' (hwZ.trans (hW.mono hwZ.size)) hv'⟩)
  have hent := enters_of Tryz.func131 (by kernel_rfl) rfl
  by_cases hs : syn f = true
  ·rw [if_pos hs] at hR
   exact enclosed_syn f .nilFunc ty _ _ _ _ xs 131 _ Z hs rfl rfl (by omega) hent hseq (by rw [ByteArray.size_append]; show ty.size + 1 + 1 ≤ 1000000000; omega) (by omega) R fun _ => hR
  ·rw [if_neg hs] at hR
   have hs' : syn f = false := by cases h : syn f with | false => rfl | true => exact absurd h hs
   exact enclosed_plain f .nilFunc ty ⟨#[123]⟩ ⟨#[125]⟩ xs 131 _ Z hs' hent hseq (by show 1 + 1 ≤ 1000000000; omega) (by omega) R fun _ => hR
end Go.Proofs.YtlgieoabellbmaaGreatDoor
namespace Go.Proofs.YtlgieoabellbmaaGreatDoor
open Go.RowKit
set_option linter.unusedVariables false
set_option linter.unusedSimpArgs false
set_option maxRecDepth 1000000 in
theorem written_text0 (f : Sq) (hvb : f.verb = 118) (hs : f.sh = false) (hpr : f.prec ≤ 9223372036854775807) (n : Nat) (x : D) (hg : Good8 x) (depth : Int) (w : World) (v : Value) (ty : ByteArray) (hE : Esc w) (hv : VlC srt n (fun _ => True) w v x) (hK : KN w) (hty : if (inF x).ty.size = 0 then 0 ≤ (inF x).kind ∧ kindN[(inF x).kind.toNat]? = some ty else ty = (inF x).ty) (hk0 : 0 ≤ x.kind) (hbits : 0 ≤ (inF x).bits) (hp : (inF x).parts.length ≤ 1000) (hk : (inF x).kind = 16) (hz : (inF x).text.size ≤ 9000) :
  Calls Tryz.prog 25 #[WV f .nilFunc, v, .int .i64 depth] w fun e W' => e = .returned (.string (padS (cutS (inF x).text (min f.prec 1000)) f.mi f.z f.wid)) ∧ Below w.heap.size w W' := by
 refine written_of f v depth w ty _ (fun t y W => (Value.iface t y = .iface 150 (.string (inF x).text)) ∧ Below w.heap.size w W) ?_ ?_ ?_
 ·intro W hW
  refine (shapeOf_any n x hg _ W v (hv.turn (Kept.below hW fun _ _ _ => trivial)) (by omega) (by omega) hbits hp).mono ?_
  rintro e W' ⟨b, na, nc, pa, pc, rfl, -⟩
  refine ⟨b, 150, .string (inF x).text, ?_, rfl, hW.trans (b.mono hW.size)⟩
  unfold shV
  rw [if_neg (by omega), if_neg (by omega), if_neg (by omega), if_neg (by omega), if_neg (by omega), if_neg (by omega), if_neg (by omega), if_pos (by omega)]
 ·intro W hW
  have hm := mark_any n _ w v x hk0 hv
  exact vtype_any v _ _ _ hm W (hK.up hW) ty hty
 ·rintro t y W1 W2 ⟨e, hW1⟩ h2
  rw [e]
  exact shaped_text0 f ty (inF x).text depth W2 ((hE.below hW1).below h2) hvb hs hz hpr
set_option maxRecDepth 1000000 in
theorem written_text1 (f : Sq) (hvb : f.verb = 118) (hs : f.sh = true) (hpr : f.prec ≤ 9223372036854775807) (n : Nat) (x : D) (hg : Good8 x) (depth : Int) (w : World) (v : Value) (ty : ByteArray) (hE : Esc w) (hv : VlC srt n (fun _ => True) w v x) (hK : KN w) (hty : if (inF x).ty.size = 0 then 0 ≤ (inF x).kind ∧ kindN[(inF x).kind.toNat]? = some ty else ty = (inF x).ty) (hk0 : 0 ≤ x.kind) (hbits : 0 ≤ (inF x).bits) (hp : (inF x).parts.length ≤ 1000) (hk : (inF x).kind = 16) (hz : (inF x).text.size ≤ 9000) :
  Calls Tryz.prog 25 #[WV f .nilFunc, v, .int .i64 depth] w fun e W' => e = .returned (.string (padS (quoS (inF x).text false) f.mi f.z f.wid)) ∧ Below w.heap.size w W' := by
 refine written_of f v depth w ty _ (fun t y W => (Value.iface t y = .iface 150 (.string (inF x).text)) ∧ Below w.heap.size w W) ?_ ?_ ?_
 ·intro W hW
  refine (shapeOf_any n x hg _ W v (hv.turn (Kept.below hW fun _ _ _ => trivial)) (by omega) (by omega) hbits hp).mono ?_
  rintro e W' ⟨b, na, nc, pa, pc, rfl, -⟩
  refine ⟨b, 150, .string (inF x).text, ?_, rfl, hW.trans (b.mono hW.size)⟩
  unfold shV
  rw [if_neg (by omega), if_neg (by omega), if_neg (by omega), if_neg (by omega), if_neg (by omega), if_neg (by omega), if_neg (by omega), if_pos (by omega)]
 ·intro W hW
  have hm := mark_any n _ w v x hk0 hv
  exact vtype_any v _ _ _ hm W (hK.up hW) ty hty
 ·rintro t y W1 W2 ⟨e, hW1⟩ h2
  rw [e]
  exact shaped_text1 f ty (inF x).text depth W2 ((hE.below hW1).below h2) hvb hs hz hpr
set_option maxRecDepth 1000000 in
theorem written_ptr (f : Sq) (hvb : f.verb = 118) (n : Nat) (x q : D) (hg : Good8 x) (w : World) (v : Value) (ty T : ByteArray) (hv : VlC srt (n + 1) (fun _ => True) w v x) (hK : KN w) (hty : if (inF x).ty.size = 0 then 0 ≤ (inF x).kind ∧ kindN[(inF x).kind.toNat]? = some ty else ty = (inF x).ty) (hk0 : 0 ≤ x.kind) (hbits : 0 ≤ (inF x).bits) (hp : (inF x).parts.length ≤ 1000) (hk : (inF x).kind = 22) (hn : n ≤ 1000) (hq : (inF x).parts = [q]) (hq18 : q.kind = 18) (hz : T.size ≤ 1000000000)
  (hpart : bErr q = 0 ∧ ∀ W v', Below w.heap.size w W → VlC srt n (fun _ => True) W v' q → Calls Tryz.prog 25 #[WV f .nilFunc, v', .int .i64 1] W fun e W' => e = .returned (.string T) ∧ Below W.heap.size W W') :
  Calls Tryz.prog 25 #[WV f .nilFunc, v, .int .i64 0] w fun e W' => e = .returned (.string (⟨#[38]⟩ ++ T)) ∧ Below w.heap.size w W' := by
 refine written_of f v 0 w ty _ (fun t y W => ∃ na nc pa pc, Value.iface t y = .iface 157 (.agg #[.int .u64 (inF x).bits, .slice pa 1 pc]) ∧ RdS (n + 1) (fun _ => True) W (.slice na (inF x).names.length nc) (.slice pa (inF x).parts.length pc) (inF x) ∧ Below w.heap.size w W) ?_ ?_ ?_
 ·intro W hW
  refine (shapeOf_any (n + 1) x hg _ W v (hv.turn (Kept.below hW fun _ _ _ => trivial)) (by omega) (by omega) hbits hp).mono ?_
  rintro e W' ⟨b, na, nc, pa, pc, rfl, hrd⟩
  refine ⟨b, 157, .agg #[.int .u64 (inF x).bits, .slice pa 1 pc], ?_, na, nc, pa, pc, rfl, hrd.turn (Kept.below (Below.refl _ _) fun _ _ _ => trivial), hW.trans (b.mono hW.size)⟩
  unfold shV
  rw [if_neg (by omega), if_neg (by omega), if_neg (by omega), if_neg (by omega), if_neg (by omega), if_neg (by omega), if_neg (by omega), if_neg (by omega), if_neg (by omega), if_neg (by omega), if_neg (by omega), if_neg (by omega), if_pos (by omega), if_neg (by rw [hq]; simp), hq]
  rfl
 ·intro W hW
  have hm := mark_any (n + 1) _ w v x hk0 hv
  exact vtype_any v _ _ _ hm W (hK.up hW) ty hty
 ·rintro t y W1 W2 ⟨na, nc, pa, pc, e, hrd, hW1⟩ h2
  rw [e]
  refine shaped_pointer f ty _ (inF x).bits 0 pa 1 pc W2 fun Y hY => pointer_v f hvb ty _ (inF x).bits 0 pa 1 pc Y fun Z hZ => ?_
  have h1Z : Below W1.heap.size W1 Z := (h2.trans (hY.mono h2.size)).trans (hZ.mono (by have := h2.size; have := hY.size; omega))
  have hwZ : Below w.heap.size w Z := hW1.trans (h1Z.mono hW1.size)
  have hrz := hrd.turn (Kept.below (S' := fun _ => True) h1Z fun _ _ _ => trivial)
  obtain ⟨-, -, pa', pc', ep, -, -, hprt⟩ := hrz
  cases ep
  obtain ⟨b, off, nv, pv, e1, -, e3, e4⟩ := hprt 0 q (by rw [hq]; rfl)
  obtain ⟨n1, n2, p1, p2, rfl, rfl⟩ := e4.slices
  subst e1
  rw [Nat.zero_mul, Nat.add_zero] at e3
  exact byV_struct f ty T (inF x).bits b off pc q hq18 _ _ _ _ _ _ Z e3 (txOf_of f 1 n q _ _ Z T e4.plain hn hpart.1 fun W v' hW hv' => hpart.2 W v' (hwZ.trans (hW.mono hwZ.size)) hv') hz
end Go.Proofs.YtlgieoabellbmaaGreatDoor
