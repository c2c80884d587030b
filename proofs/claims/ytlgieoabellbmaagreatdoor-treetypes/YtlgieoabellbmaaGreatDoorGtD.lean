/- tree: the shapes of texts and of structs. -/
import Derived.Test.YtlgieoabellbmaaGreatDoorPt17
namespace Go.Proofs.YtlgieoabellbmaaGreatDoor
open Go.RowKit
set_option linter.unusedVariables false
set_option linter.unusedSimpArgs false
set_option maxRecDepth 1000000 in
set_option maxHeartbeats 2000000 in
theorem shaped_text0 (f : Sq) (ty s : ByteArray) (depth : Int) (w : World) (hE : Esc w) (hv : f.verb = 118) (hs : f.sh = false) (hz : s.size ≤ 9000) (hpr : f.prec ≤ 9223372036854775807) :
  Calls Tryz.prog 45 #[WV f .nilFunc, .iface 150 (.string s), .string ty, .int .i64 depth] w fun e w' => e = .returned (.tuple #[.string (padS (cutS s (min f.prec 1000)) f.mi f.z f.wid), .bool true]) ∧ Below w.heap.size w w' := by
 obtain ⟨p, mi, sh, sp, z, wid, prec, verb⟩ := f
 dsimp only at hv hs hpr ⊢
 subst hv hs
 have t0 : ∀ w, (Instr.typeAssert (.iface 150 (.string s)) 20 143 true).run Tryz.prog w = .ok (.tuple #[.bool false, .bool false]) w := fun w => by kernel_rfl
 have t1 : ∀ w, (Instr.typeAssert (.iface 150 (.string s)) 20 144 true).run Tryz.prog w = .ok (.tuple #[.int .i64 0, .bool false]) w := fun w => by kernel_rfl
 have t2 : ∀ w, (Instr.typeAssert (.iface 150 (.string s)) 20 145 true).run Tryz.prog w = .ok (.tuple #[.int .u64 0, .bool false]) w := fun w => by kernel_rfl
 have t3 : ∀ w, (Instr.typeAssert (.iface 150 (.string s)) 20 147 true).run Tryz.prog w = .ok (.tuple #[.agg #[.int .u64 0, .int .i64 0], .bool false]) w := fun w => by kernel_rfl
 have t4 : ∀ w, (Instr.typeAssert (.iface 150 (.string s)) 20 149 true).run Tryz.prog w = .ok (.tuple #[.agg #[.int .u64 0, .int .u64 0, .int .i64 0], .bool false]) w := fun w => by kernel_rfl
 have t5 : ∀ w, (Instr.typeAssert (.iface 150 (.string s)) 20 150 true).run Tryz.prog w = .ok (.tuple #[.string s, .bool true]) w := fun w => by kernel_rfl
 obtain ⟨R, hR⟩ : ∃ R : ByteArray, padS (cutS s (min prec 1000)) mi z wid = R := ⟨_, rfl⟩
 have hT := fun W (hE : Esc W) => text_v0 s p mi sp z wid prec W hE hz hpr
 rw [hR] at *
 clear hR
 obtain ⟨W1, hW1⟩ : ∃ W1, W1 = w.alloc (.cells #[.bool p, .bool mi, .bool false, .bool sp, .bool z, .int .i64 wid, .int .i64 prec, .int .i32 118, .nilFunc] 57) := ⟨_, rfl⟩
 have b1 : Below w.heap.size w W1 := by rw [hW1]; exact (Below.refl _ _).alloc (Nat.le_refl _) _
 have a1 : At9 W1 w.heap.size ⟨p, mi, false, sp, z, wid, prec, 118⟩ .nilFunc := by
  rw [hW1]
  refine ⟨?_, ?_, ?_, ?_, ?_, ?_, ?_, ?_, ?_⟩
  all_goals simp [go_sem]
 have hE1 := hE.below b1
 go_enter Tryz.func45, Tryz.ntmps45
 go_upto_region 19 with fail
 rw [← hW1]
 clear hW1 hz hpr
 obtain ⟨q0, q1, q2, q3, q4, q5, q6, q7, q8⟩ := a1
 go_wp2_with (go_at_call 24; refine (hT _ hE1).mono ?_; rintro e W3 ⟨rfl, b3⟩)
 go_ret2
 exact ⟨rfl, b1.trans (b3.mono b1.size)⟩
set_option maxRecDepth 1000000 in
set_option maxHeartbeats 2000000 in
theorem shaped_text1 (f : Sq) (ty s : ByteArray) (depth : Int) (w : World) (hE : Esc w) (hv : f.verb = 118) (hs : f.sh = true) (hz : s.size ≤ 9000) (hpr : f.prec ≤ 9223372036854775807) :
  Calls Tryz.prog 45 #[WV f .nilFunc, .iface 150 (.string s), .string ty, .int .i64 depth] w fun e w' => e = .returned (.tuple #[.string (padS (quoS s false) f.mi f.z f.wid), .bool true]) ∧ Below w.heap.size w w' := by
 obtain ⟨p, mi, sh, sp, z, wid, prec, verb⟩ := f
 dsimp only at hv hs hpr ⊢
 subst hv hs
 have t0 : ∀ w, (Instr.typeAssert (.iface 150 (.string s)) 20 143 true).run Tryz.prog w = .ok (.tuple #[.bool false, .bool false]) w := fun w => by kernel_rfl
 have t1 : ∀ w, (Instr.typeAssert (.iface 150 (.string s)) 20 144 true).run Tryz.prog w = .ok (.tuple #[.int .i64 0, .bool false]) w := fun w => by kernel_rfl
 have t2 : ∀ w, (Instr.typeAssert (.iface 150 (.string s)) 20 145 true).run Tryz.prog w = .ok (.tuple #[.int .u64 0, .bool false]) w := fun w => by kernel_rfl
 have t3 : ∀ w, (Instr.typeAssert (.iface 150 (.string s)) 20 147 true).run Tryz.prog w = .ok (.tuple #[.agg #[.int .u64 0, .int .i64 0], .bool false]) w := fun w => by kernel_rfl
 have t4 : ∀ w, (Instr.typeAssert (.iface 150 (.string s)) 20 149 true).run Tryz.prog w = .ok (.tuple #[.agg #[.int .u64 0, .int .u64 0, .int .i64 0], .bool false]) w := fun w => by kernel_rfl
 have t5 : ∀ w, (Instr.typeAssert (.iface 150 (.string s)) 20 150 true).run Tryz.prog w = .ok (.tuple #[.string s, .bool true]) w := fun w => by kernel_rfl
 obtain ⟨R, hR⟩ : ∃ R : ByteArray, padS (quoS s false) mi z wid = R := ⟨_, rfl⟩
 have hT := fun W (hE : Esc W) => text_v1 s p mi sp z wid prec W hE hz hpr
 rw [hR] at *
 clear hR
 obtain ⟨W1, hW1⟩ : ∃ W1, W1 = w.alloc (.cells #[.bool p, .bool mi, .bool true, .bool sp, .bool z, .int .i64 wid, .int .i64 prec, .int .i32 118, .nilFunc] 57) := ⟨_, rfl⟩
 have b1 : Below w.heap.size w W1 := by rw [hW1]; exact (Below.refl _ _).alloc (Nat.le_refl _) _
 have a1 : At9 W1 w.heap.size ⟨p, mi, true, sp, z, wid, prec, 118⟩ .nilFunc := by
  rw [hW1]
  refine ⟨?_, ?_, ?_, ?_, ?_, ?_, ?_, ?_, ?_⟩
  all_goals simp [go_sem]
 have hE1 := hE.below b1
 go_enter Tryz.func45, Tryz.ntmps45
 go_upto_region 19 with fail
 rw [← hW1]
 clear hW1 hz hpr
 obtain ⟨q0, q1, q2, q3, q4, q5, q6, q7, q8⟩ := a1
 go_wp2_with (go_at_call 24; refine (hT _ hE1).mono ?_; rintro e W3 ⟨rfl, b3⟩)
 go_ret2
 exact ⟨rfl, b1.trans (b3.mono b1.size)⟩
theorem fieldsOf_any (f : Sq) (ask nv pv : Value) (dp : Int) (w : World) (h1 : nv.oneCell' = true) (h2 : pv.oneCell' = true) :
  Calls Tryz.prog 91 #[WV f ask, .agg #[nv, pv], .int .i64 dp] w fun e w' => e = .returned (.func (.func 131) #[] #[.pointer (some ⟨w.heap.size + 1, 0, none⟩), .pointer (some ⟨w.heap.size, 0, none⟩), .pointer (some ⟨w.heap.size + 2, 0, none⟩)]) ∧ w' = ((w.alloc (.cells #[.bool f.p, .bool f.mi, .bool f.sh, .bool f.sp, .bool f.z, .int .i64 f.wid, .int .i64 f.prec, .int .i32 f.verb, ask] 57)).alloc (.cells #[nv, pv] 153)).alloc (.cells #[.int .i64 dp] 3) := by
 have hmf : ∀ (fn : Fn) (first cap : Array Value) (w : World), (Instr.makeFunc fn first cap).run Tryz.prog w = .ok (.func fn first cap) w := fun _ _ _ _ => rfl
 go_enter Tryz.func91, Tryz.ntmps91
 go_wp2
 go_ret
 exact ⟨rfl, rfl⟩
set_option maxRecDepth 1000000 in
set_option maxHeartbeats 4000000 in
theorem shaped_struct0 (f : Sq) (ty : ByteArray) (na pa : Option Addr) (nc pc : Nat) (ps : List D) (nms : List ByteArray) (w : World) (R : ByteArray)
  (hEn : ∀ Y, Below w.heap.size w Y → ∀ Z, Z = ((Y.alloc (.cells #[.bool f.p, .bool f.mi, .bool f.sh, .bool f.sp, .bool f.z, .int .i64 f.wid, .int .i64 f.prec, .int .i32 f.verb, .nilFunc] 57)).alloc (.cells #[.slice na nms.length nc, .slice pa ps.length pc] 153)).alloc (.cells #[.int .i64 1] 3) →
   Calls Tryz.prog 90 #[WV f .nilFunc, .string ty, .string ⟨#[123]⟩, .string ⟨#[125]⟩, .func (.func 131) #[] #[.pointer (some ⟨Y.heap.size + 1, 0, none⟩), .pointer (some ⟨Y.heap.size, 0, none⟩), .pointer (some ⟨Y.heap.size + 2, 0, none⟩)]] Z fun e w' => e = .returned (.string R) ∧ Below Z.heap.size Z w') :
  Calls Tryz.prog 45 #[WV f .nilFunc, .iface 153 (.agg #[.slice na nms.length nc, .slice pa ps.length pc]), .string ty, .int .i64 0] w fun e w' => e = .returned (.tuple #[.string R, .bool true]) ∧ Below w.heap.size w w' := by
 have t0 : ∀ w, (Instr.typeAssert (.iface 153 (.agg #[.slice na nms.length nc, .slice pa ps.length pc])) 20 143 true).run Tryz.prog w = .ok (.tuple #[.bool false, .bool false]) w := fun w => by kernel_rfl
 have t1 : ∀ w, (Instr.typeAssert (.iface 153 (.agg #[.slice na nms.length nc, .slice pa ps.length pc])) 20 144 true).run Tryz.prog w = .ok (.tuple #[.int .i64 0, .bool false]) w := fun w => by kernel_rfl
 have t2 : ∀ w, (Instr.typeAssert (.iface 153 (.agg #[.slice na nms.length nc, .slice pa ps.length pc])) 20 145 true).run Tryz.prog w = .ok (.tuple #[.int .u64 0, .bool false]) w := fun w => by kernel_rfl
 have t3 : ∀ w, (Instr.typeAssert (.iface 153 (.agg #[.slice na nms.length nc, .slice pa ps.length pc])) 20 147 true).run Tryz.prog w = .ok (.tuple #[.agg #[.int .u64 0, .int .i64 0], .bool false]) w := fun w => by kernel_rfl
 have t4 : ∀ w, (Instr.typeAssert (.iface 153 (.agg #[.slice na nms.length nc, .slice pa ps.length pc])) 20 149 true).run Tryz.prog w = .ok (.tuple #[.agg #[.int .u64 0, .int .u64 0, .int .i64 0], .bool false]) w := fun w => by kernel_rfl
 have t5 : ∀ w, (Instr.typeAssert (.iface 153 (.agg #[.slice na nms.length nc, .slice pa ps.length pc])) 20 150 true).run Tryz.prog w = .ok (.tuple #[.string ⟨#[]⟩, .bool false]) w := fun w => by kernel_rfl
 have t6 : ∀ w, (Instr.typeAssert (.iface 153 (.agg #[.slice na nms.length nc, .slice pa ps.length pc])) 20 151 true).run Tryz.prog w = .ok (.tuple #[.string ⟨#[]⟩, .bool false]) w := fun w => by kernel_rfl
 have t7 : ∀ w, (Instr.typeAssert (.iface 153 (.agg #[.slice na nms.length nc, .slice pa ps.length pc])) 20 153 true).run Tryz.prog w = .ok (.tuple #[.agg #[.slice na nms.length nc, .slice pa ps.length pc], .bool true]) w := fun w => by kernel_rfl
 obtain ⟨W1, hW1⟩ : ∃ W1, W1 = (w.alloc (.cells #[.bool f.p, .bool f.mi, .bool f.sh, .bool f.sp, .bool f.z, .int .i64 f.wid, .int .i64 f.prec, .int .i32 f.verb, .nilFunc] 57)).alloc (.cells #[.slice na nms.length nc, .slice pa ps.length pc] 153) := ⟨_, rfl⟩
 have b1 : Below w.heap.size w W1 := by rw [hW1]; exact ((Below.refl _ _).alloc (Nat.le_refl _) _).alloc (by simp) _
 have a1 : At9 W1 w.heap.size f .nilFunc := by
  rw [hW1]
  refine ⟨?_, ?_, ?_, ?_, ?_, ?_, ?_, ?_, ?_⟩
  all_goals simp [go_sem]
 have r0 : W1.cell? ⟨w.heap.size + 1, 0, none⟩ = some (.slice na nms.length nc) := by rw [hW1]; simp [go_sem]
 have r1 : W1.cell? ⟨w.heap.size + 1, 1, none⟩ = some (.slice pa ps.length pc) := by rw [hW1]; simp [go_sem]
 go_enter Tryz.func45, Tryz.ntmps45
 go_upto_region 25 with fail
 rw [← hW1]
 clear hW1
 obtain ⟨X, hX⟩ : ∃ X, w.heap.size = X := ⟨_, rfl⟩
 have HX : Unit → w.heap.size = X := fun _ => hX
 rw [hX] at a1 r0 r1
 simp only [hX]
 clear hX
 obtain ⟨Yd, hYd⟩ : ∃ Yd, Yd = W1.drew := ⟨_, rfl⟩
 have bY : Below w.heap.size w Yd := by rw [hYd]; exact b1.drew
 refine wp_region_held_drew (S := (fun w' : World => At9 w' X f .nilFunc ∧ w'.cell? ⟨X + 1, 0, none⟩ = some (.slice na nms.length nc) ∧ w'.cell? ⟨X + 1, 1, none⟩ = some (.slice pa ps.length pc))) (by kernel_rfl) (by exact ⟨a1, r0, r1⟩) ?_
 rw [← hYd]
 have s5 : (fun w' : World => At9 w' X f .nilFunc ∧ w'.cell? ⟨X + 1, 0, none⟩ = some (.slice na nms.length nc) ∧ w'.cell? ⟨X + 1, 1, none⟩ = some (.slice pa ps.length pc)) Yd := by rw [hYd]; exact ⟨a1, r0, r1⟩
 have hup : ∀ {w1 w2 : World}, (fun w' : World => At9 w' X f .nilFunc ∧ w'.cell? ⟨X + 1, 0, none⟩ = some (.slice na nms.length nc) ∧ w'.cell? ⟨X + 1, 1, none⟩ = some (.slice pa ps.length pc)) w1 → Below w1.heap.size w1 w2 → (fun w' : World => At9 w' X f .nilFunc ∧ w'.cell? ⟨X + 1, 0, none⟩ = some (.slice na nms.length nc) ∧ w'.cell? ⟨X + 1, 1, none⟩ = some (.slice pa ps.length pc)) w2 := fun h h' => ⟨h.1.up h', up_cell h' h.2.1, up_cell h' h.2.2⟩
 clear hYd a1 r0 r1 b1
 intro hS
 refine tk 0 (.agg #[.bool f.p, .bool f.mi, .bool f.sh, .bool f.sp, .bool f.z, .int .i64 f.wid, .int .i64 f.prec, .int .i32 f.verb, .nilFunc]) rfl (by kernel_rfl) (fun _ _ _ h => h) (by rfl) (by assumption) ?_ ?_
 ·intro w5 s0
  obtain ⟨⟨q0, q1, q2, q3, q4, q5, q6, q7, q8⟩, -⟩ := s0
  go_simp
 try simp only [Act.put, lyt]
 refine tk 1 (.string ty) rfl (by kernel_rfl) (fun _ _ _ h => h) (by rfl) (by assumption) ?_ ?_
 ·intro w5 s0
  go_simp
 try simp only [Act.put, lyt]
 refine tk 2 (.agg #[.bool f.p, .bool f.mi, .bool f.sh, .bool f.sp, .bool f.z, .int .i64 f.wid, .int .i64 f.prec, .int .i32 f.verb, .nilFunc]) rfl (by kernel_rfl) (fun _ _ _ h => h) (by rfl) (by assumption) ?_ ?_
 ·intro w5 s0
  obtain ⟨⟨q0, q1, q2, q3, q4, q5, q6, q7, q8⟩, -⟩ := s0
  go_simp
 try simp only [Act.put, lyt]
 refine tk 3 (.agg #[.slice na nms.length nc, .slice pa ps.length pc]) rfl (by kernel_rfl) (fun _ _ _ h => h) (by rfl) (by assumption) ?_ ?_
 ·intro w5 s0
  obtain ⟨-, r0, r1⟩ := s0
  go_simp
 try simp only [Act.put, lyt]
 refine tk 4 (.int .i64 0) rfl (by kernel_rfl) (fun _ _ _ h => h) (by rfl) (by assumption) ?_ ?_
 ·intro w5 s0
  go_simp
 try simp only [Act.put, lyt]
 refine tk 5 (.int .i64 1) rfl (by kernel_rfl) (fun _ _ _ h => h) (by rfl) (by assumption) ?_ ?_
 ·intro w5 s0
  go_simp
  rfl
 try simp only [Act.put, lyt]
 refine rd1 6 (by kernel_rfl) rfl fun K1 hK1 => ?_
 go_simp
 refine (fieldsOf_any f .nilFunc (.slice na nms.length nc) (.slice pa ps.length pc) 1 Yd rfl rfl).mono ?_
 rintro e Z1 ⟨rfl, hZ1⟩
 have z1 : Below Yd.heap.size Yd Z1 := by rw [hZ1]; exact (((Below.refl _ _).alloc (Nat.le_refl _) _).alloc (by simp) _).alloc (by simp; omega) _
 have sZ1 := (hup s5) z1
 have hen := hEn Yd bY Z1 hZ1
 clear hZ1
 refine hK1.out _ _ sZ1 (fun _ => ?_)
 clear hK1
 try simp only [Act.put, lyt]
 refine rd1 7 (by kernel_rfl) rfl fun K2 hK2 => ?_
 go_simp
 refine (hen).mono ?_
 rintro e Z2 ⟨rfl, z2⟩
 have sZ2 := (hup sZ1) z2
 refine hK2.out _ _ sZ2 (fun _ => ?_)
 clear hK2
 try simp only [Act.put, lyt]
 refine rd1 8 (by kernel_rfl) rfl fun K3 hK3 => ?_
 go_simp
 refine hK3.out _ _ sZ2 (fun _ => ?_)
 clear hK3
 try simp only [Act.put, lyt]
 refine rd1 9 (by kernel_rfl) rfl fun K4 hK4 => ?_
 go_simp
 refine hK4.out _ _ sZ2 (fun _ => ?_)
 clear hK4
 try simp only [Act.put, lyt]
 refine wpAnyH_done (by kernel_rfl) ?_ _
 clear hS
 go_wp2
 go_ret2
 exact ⟨rfl, (bY.trans (z1.mono bY.size)).trans (z2.mono (by have := bY.size; have := z1.size; omega))⟩
set_option maxRecDepth 1000000 in
set_option maxHeartbeats 4000000 in
theorem shaped_struct1 (f : Sq) (ty : ByteArray) (na pa : Option Addr) (nc pc : Nat) (ps : List D) (nms : List ByteArray) (w : World) (R : ByteArray)
  (hEn : ∀ Y, Below w.heap.size w Y → ∀ Z, Z = ((Y.alloc (.cells #[.bool f.p, .bool f.mi, .bool f.sh, .bool f.sp, .bool f.z, .int .i64 f.wid, .int .i64 f.prec, .int .i32 f.verb, .nilFunc] 57)).alloc (.cells #[.slice na nms.length nc, .slice pa ps.length pc] 153)).alloc (.cells #[.int .i64 2] 3) →
   Calls Tryz.prog 90 #[WV f .nilFunc, .string ty, .string ⟨#[123]⟩, .string ⟨#[125]⟩, .func (.func 131) #[] #[.pointer (some ⟨Y.heap.size + 1, 0, none⟩), .pointer (some ⟨Y.heap.size, 0, none⟩), .pointer (some ⟨Y.heap.size + 2, 0, none⟩)]] Z fun e w' => e = .returned (.string R) ∧ Below Z.heap.size Z w') :
  Calls Tryz.prog 45 #[WV f .nilFunc, .iface 153 (.agg #[.slice na nms.length nc, .slice pa ps.length pc]), .string ty, .int .i64 1] w fun e w' => e = .returned (.tuple #[.string R, .bool true]) ∧ Below w.heap.size w w' := by
 have t0 : ∀ w, (Instr.typeAssert (.iface 153 (.agg #[.slice na nms.length nc, .slice pa ps.length pc])) 20 143 true).run Tryz.prog w = .ok (.tuple #[.bool false, .bool false]) w := fun w => by kernel_rfl
 have t1 : ∀ w, (Instr.typeAssert (.iface 153 (.agg #[.slice na nms.length nc, .slice pa ps.length pc])) 20 144 true).run Tryz.prog w = .ok (.tuple #[.int .i64 0, .bool false]) w := fun w => by kernel_rfl
 have t2 : ∀ w, (Instr.typeAssert (.iface 153 (.agg #[.slice na nms.length nc, .slice pa ps.length pc])) 20 145 true).run Tryz.prog w = .ok (.tuple #[.int .u64 0, .bool false]) w := fun w => by kernel_rfl
 have t3 : ∀ w, (Instr.typeAssert (.iface 153 (.agg #[.slice na nms.length nc, .slice pa ps.length pc])) 20 147 true).run Tryz.prog w = .ok (.tuple #[.agg #[.int .u64 0, .int .i64 0], .bool false]) w := fun w => by kernel_rfl
 have t4 : ∀ w, (Instr.typeAssert (.iface 153 (.agg #[.slice na nms.length nc, .slice pa ps.length pc])) 20 149 true).run Tryz.prog w = .ok (.tuple #[.agg #[.int .u64 0, .int .u64 0, .int .i64 0], .bool false]) w := fun w => by kernel_rfl
 have t5 : ∀ w, (Instr.typeAssert (.iface 153 (.agg #[.slice na nms.length nc, .slice pa ps.length pc])) 20 150 true).run Tryz.prog w = .ok (.tuple #[.string ⟨#[]⟩, .bool false]) w := fun w => by kernel_rfl
 have t6 : ∀ w, (Instr.typeAssert (.iface 153 (.agg #[.slice na nms.length nc, .slice pa ps.length pc])) 20 151 true).run Tryz.prog w = .ok (.tuple #[.string ⟨#[]⟩, .bool false]) w := fun w => by kernel_rfl
 have t7 : ∀ w, (Instr.typeAssert (.iface 153 (.agg #[.slice na nms.length nc, .slice pa ps.length pc])) 20 153 true).run Tryz.prog w = .ok (.tuple #[.agg #[.slice na nms.length nc, .slice pa ps.length pc], .bool true]) w := fun w => by kernel_rfl
 obtain ⟨W1, hW1⟩ : ∃ W1, W1 = (w.alloc (.cells #[.bool f.p, .bool f.mi, .bool f.sh, .bool f.sp, .bool f.z, .int .i64 f.wid, .int .i64 f.prec, .int .i32 f.verb, .nilFunc] 57)).alloc (.cells #[.slice na nms.length nc, .slice pa ps.length pc] 153) := ⟨_, rfl⟩
 have b1 : Below w.heap.size w W1 := by rw [hW1]; exact ((Below.refl _ _).alloc (Nat.le_refl _) _).alloc (by simp) _
 have a1 : At9 W1 w.heap.size f .nilFunc := by
  rw [hW1]
  refine ⟨?_, ?_, ?_, ?_, ?_, ?_, ?_, ?_, ?_⟩
  all_goals simp [go_sem]
 have r0 : W1.cell? ⟨w.heap.size + 1, 0, none⟩ = some (.slice na nms.length nc) := by rw [hW1]; simp [go_sem]
 have r1 : W1.cell? ⟨w.heap.size + 1, 1, none⟩ = some (.slice pa ps.length pc) := by rw [hW1]; simp [go_sem]
 go_enter Tryz.func45, Tryz.ntmps45
 go_upto_region 25 with fail
 rw [← hW1]
 clear hW1
 obtain ⟨X, hX⟩ : ∃ X, w.heap.size = X := ⟨_, rfl⟩
 have HX : Unit → w.heap.size = X := fun _ => hX
 rw [hX] at a1 r0 r1
 simp only [hX]
 clear hX
 obtain ⟨Yd, hYd⟩ : ∃ Yd, Yd = W1.drew := ⟨_, rfl⟩
 have bY : Below w.heap.size w Yd := by rw [hYd]; exact b1.drew
 refine wp_region_held_drew (S := (fun w' : World => At9 w' X f .nilFunc ∧ w'.cell? ⟨X + 1, 0, none⟩ = some (.slice na nms.length nc) ∧ w'.cell? ⟨X + 1, 1, none⟩ = some (.slice pa ps.length pc))) (by kernel_rfl) (by exact ⟨a1, r0, r1⟩) ?_
 rw [← hYd]
 have s5 : (fun w' : World => At9 w' X f .nilFunc ∧ w'.cell? ⟨X + 1, 0, none⟩ = some (.slice na nms.length nc) ∧ w'.cell? ⟨X + 1, 1, none⟩ = some (.slice pa ps.length pc)) Yd := by rw [hYd]; exact ⟨a1, r0, r1⟩
 have hup : ∀ {w1 w2 : World}, (fun w' : World => At9 w' X f .nilFunc ∧ w'.cell? ⟨X + 1, 0, none⟩ = some (.slice na nms.length nc) ∧ w'.cell? ⟨X + 1, 1, none⟩ = some (.slice pa ps.length pc)) w1 → Below w1.heap.size w1 w2 → (fun w' : World => At9 w' X f .nilFunc ∧ w'.cell? ⟨X + 1, 0, none⟩ = some (.slice na nms.length nc) ∧ w'.cell? ⟨X + 1, 1, none⟩ = some (.slice pa ps.length pc)) w2 := fun h h' => ⟨h.1.up h', up_cell h' h.2.1, up_cell h' h.2.2⟩
 clear hYd a1 r0 r1 b1
 intro hS
 refine tk 0 (.agg #[.bool f.p, .bool f.mi, .bool f.sh, .bool f.sp, .bool f.z, .int .i64 f.wid, .int .i64 f.prec, .int .i32 f.verb, .nilFunc]) rfl (by kernel_rfl) (fun _ _ _ h => h) (by rfl) (by assumption) ?_ ?_
 ·intro w5 s0
  obtain ⟨⟨q0, q1, q2, q3, q4, q5, q6, q7, q8⟩, -⟩ := s0
  go_simp
 try simp only [Act.put, lyt]
 refine tk 1 (.string ty) rfl (by kernel_rfl) (fun _ _ _ h => h) (by rfl) (by assumption) ?_ ?_
 ·intro w5 s0
  go_simp
 try simp only [Act.put, lyt]
 refine tk 2 (.agg #[.bool f.p, .bool f.mi, .bool f.sh, .bool f.sp, .bool f.z, .int .i64 f.wid, .int .i64 f.prec, .int .i32 f.verb, .nilFunc]) rfl (by kernel_rfl) (fun _ _ _ h => h) (by rfl) (by assumption) ?_ ?_
 ·intro w5 s0
  obtain ⟨⟨q0, q1, q2, q3, q4, q5, q6, q7, q8⟩, -⟩ := s0
  go_simp
 try simp only [Act.put, lyt]
 refine tk 3 (.agg #[.slice na nms.length nc, .slice pa ps.length pc]) rfl (by kernel_rfl) (fun _ _ _ h => h) (by rfl) (by assumption) ?_ ?_
 ·intro w5 s0
  obtain ⟨-, r0, r1⟩ := s0
  go_simp
 try simp only [Act.put, lyt]
 refine tk 4 (.int .i64 1) rfl (by kernel_rfl) (fun _ _ _ h => h) (by rfl) (by assumption) ?_ ?_
 ·intro w5 s0
  go_simp
 try simp only [Act.put, lyt]
 refine tk 5 (.int .i64 2) rfl (by kernel_rfl) (fun _ _ _ h => h) (by rfl) (by assumption) ?_ ?_
 ·intro w5 s0
  go_simp
  rfl
 try simp only [Act.put, lyt]
 refine rd1 6 (by kernel_rfl) rfl fun K1 hK1 => ?_
 go_simp
 refine (fieldsOf_any f .nilFunc (.slice na nms.length nc) (.slice pa ps.length pc) 2 Yd rfl rfl).mono ?_
 rintro e Z1 ⟨rfl, hZ1⟩
 have z1 : Below Yd.heap.size Yd Z1 := by rw [hZ1]; exact (((Below.refl _ _).alloc (Nat.le_refl _) _).alloc (by simp) _).alloc (by simp; omega) _
 have sZ1 := (hup s5) z1
 have hen := hEn Yd bY Z1 hZ1
 clear hZ1
 refine hK1.out _ _ sZ1 (fun _ => ?_)
 clear hK1
 try simp only [Act.put, lyt]
 refine rd1 7 (by kernel_rfl) rfl fun K2 hK2 => ?_
 go_simp
 refine (hen).mono ?_
 rintro e Z2 ⟨rfl, z2⟩
 have sZ2 := (hup sZ1) z2
 refine hK2.out _ _ sZ2 (fun _ => ?_)
 clear hK2
 try simp only [Act.put, lyt]
 refine rd1 8 (by kernel_rfl) rfl fun K3 hK3 => ?_
 go_simp
 refine hK3.out _ _ sZ2 (fun _ => ?_)
 clear hK3
 try simp only [Act.put, lyt]
 refine rd1 9 (by kernel_rfl) rfl fun K4 hK4 => ?_
 go_simp
 refine hK4.out _ _ sZ2 (fun _ => ?_)
 clear hK4
 try simp only [Act.put, lyt]
 refine wpAnyH_done (by kernel_rfl) ?_ _
 clear hS
 go_wp2
 go_ret2
 exact ⟨rfl, (bY.trans (z1.mono bY.size)).trans (z2.mono (by have := bY.size; have := z1.size; omega))⟩
end Go.Proofs.YtlgieoabellbmaaGreatDoor
