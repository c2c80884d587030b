/- UVal, UValB, JTree: these texts in one. -/
import Derived.Test.YtdlnmnipnkeabaaGreatDoorPt10
import Derived.Test.YtdlnmnipnkeabaaGreatDoorPt1
import Derived.Test.YtdlnmnipnkeabaaGreatDoorPt21
import Derived.Test.YtdlnmnipnkeabaaGreatDoorPt20
namespace Go.Proofs.YtdlnmnipnkeabaaGreatDoor
open Go.RowKit
set_option linter.unusedVariables false
set_option linter.unusedSimpArgs false
structure Flat (v : Value) (x0 x1 x2 x3 x4 x7 : Value) (k : Nat) (h : Int) (st : TypeId) (sx : Value) : Prop where
 vo : ∀ W, Calls Tryz.prog 53 #[.agg #[x0, x1, x2, x3, x4, .slice none 0 0, .slice none 0 0, x7]] W fun e w' => e = .returned v ∧ Below W.heap.size W w'
 mr : MkC v k ⟨#[]⟩ h
 sh : ∀ W, Calls Tryz.prog 135 #[v] W fun e w' => e = .returned (.iface st sx) ∧ Below W.heap.size W w'
theorem shown_flat {v x0 x1 x2 x3 x4 x7 : Value} {k : Nat} {st : TypeId} {sx : Value} (hF : Flat v x0 x1 x2 x3 x4 x7 k 0 st sx) (ty : ByteArray) (hty : kindN[k]? = some ty) (f : Sq) (hv : ¬ f.verb = 84) (T : ByteArray) {w : World} {g C M : Nat} {l : List UInt8} {m dp : Int} {av : Value} {nx : Int} (he : Env w g C M l m dp av nx)
  (hSh : ∀ W, Esc W → Calls Tryz.prog 138 #[WV f (FA g), .iface st sx, .string ty, .int .i64 0] W fun e W' => e = .returned (.tuple #[.string T, .bool true]) ∧ Below W.heap.size W W') :
  Calls Tryz.prog 69 #[.pointer (some ⟨g, 0, none⟩), v, SV f] w fun e w' => e = .returned (.string T) ∧ Below w.heap.size w w' :=
 shown_of f hv v g T w fun W hW => written_by f (FA g) v 0 W ty T (fun t x V => t = st ∧ x = sx ∧ Below W.heap.size W V) (fun V hV => asked_no f _ g V fun V2 hV2 => ask_0 g C M l dp m av nx _ k ⟨#[]⟩ f V2 ((((he.up hW).up hV).up hV2)).p ((((he.up hW).up hV).up hV2)).c he.n hF.mr)
  (fun V hV => (hF.sh V).mono fun e V' ⟨h1, h2⟩ => ⟨h2, _, _, h1, rfl, rfl, hV.trans (h2.mono hV.size)⟩) (fun V hV => type_own _ k 0 V _ hty ((he.up hW).up hV).k hF.mr) (fun t x W1 W2 ⟨h1, h2, b1⟩ b2 => by subst h1 h2; exact hSh W2 (((he.up hW).up b1).up b2).e)
set_option maxRecDepth 1000000 in
theorem shape_raw (v : Value) (k b i h : Int) (s : ByteArray) (st : TypeId) (sx : Value) (hk : (k = 13 ∧ st = 259 ∧ sx = .agg #[.int .u64 b, .int .i64 64]) ∨ (k = 12 ∧ st = 259 ∧ sx = .agg #[.int .u64 b, .int .i64 32]) ∨ (k = 16 ∧ st = 262 ∧ sx = .string s) ∨ (k = 17 ∧ st = 263 ∧ sx = .string s) ∨ (7 ≤ k ∧ k ≤ 11 ∧ st = 257 ∧ sx = .int .u64 b) ∨ (k = 1 ∧ st = 255 ∧ sx = .bool (decide (b = 1))))
  (hb : 0 ≤ b ∧ b ≤ 18446744073709551615) (hR : ∀ W, Calls Tryz.prog 145 #[v] W fun e w' => e = .returned (.agg #[.int .i64 k, .string ⟨#[]⟩, .int .u64 b, .int .u64 i, .string s, .slice none 0 0, .slice none 0 0, .int .i64 h]) ∧ Below W.heap.size W w') (w : World) :
  Calls Tryz.prog 135 #[v] w fun e w' => e = .returned (.iface st sx) ∧ Below w.heap.size w w' := by
 have hR := hR w
 obtain ⟨hb0, hb1⟩ := hb
 rcases hk with ⟨rfl, rfl, rfl⟩ | ⟨rfl, rfl, rfl⟩ | ⟨rfl, rfl, rfl⟩ | ⟨rfl, rfl, rfl⟩ | ⟨h7, h11, rfl, rfl⟩ | ⟨rfl, rfl, rfl⟩
 ·go_enter Tryz.func135, Tryz.ntmps135
  go_wp2_with (go_at_call 145; refine hR.mono ?_; rintro e W2 ⟨rfl, b2⟩)
  go_ret
  exact ⟨rfl, b2.alloc b2.size _⟩
 ·go_enter Tryz.func135, Tryz.ntmps135
  go_wp2_with (go_at_call 145; refine hR.mono ?_; rintro e W2 ⟨rfl, b2⟩)
  go_ret
  exact ⟨rfl, b2.alloc b2.size _⟩
 ·go_enter Tryz.func135, Tryz.ntmps135
  go_wp2_with (go_at_call 145; refine hR.mono ?_; rintro e W2 ⟨rfl, b2⟩)
  go_ret
  exact ⟨rfl, b2.alloc b2.size _⟩
 ·go_enter Tryz.func135, Tryz.ntmps135
  go_wp2_with (go_at_call 145; refine hR.mono ?_; rintro e W2 ⟨rfl, b2⟩)
  go_ret
  exact ⟨rfl, b2.alloc b2.size _⟩
 ·have hk5 : k = 7 ∨ k = 8 ∨ k = 9 ∨ k = 10 ∨ k = 11 := by omega
  rcases hk5 with rfl | rfl | rfl | rfl | rfl
  all_goals
   go_enter Tryz.func135, Tryz.ntmps135
   go_wp2_with (go_at_call 145; refine hR.mono ?_; rintro e W2 ⟨rfl, b2⟩)
   go_ret
   exact ⟨rfl, b2.alloc b2.size _⟩
 ·by_cases h1 : b = 1
  ·subst h1
   go_enter Tryz.func135, Tryz.ntmps135
   go_wp2_with (go_at_call 145; refine hR.mono ?_; rintro e W2 ⟨rfl, b2⟩)
   go_ret
   exact ⟨rfl, b2.alloc b2.size _⟩
  ·have hbq : (b == 1) = false := by simpa using h1
   rw [decide_eq_false h1]
   go_enter Tryz.func135, Tryz.ntmps135
   go_wp2_with (go_at_call 145; refine hR.mono ?_; rintro e W2 ⟨rfl, b2⟩)
   go_ret
   exact ⟨rfl, b2.alloc b2.size _⟩
theorem shaped_text (f : Sq) (ask : Value) (ty s : ByteArray) (depth : Int) (T : ByteArray) (ok : Bool) (w : World) (hE : Esc w) (hT : ∀ W, Esc W → Calls Tryz.prog 110 #[.string s, SV f] W fun e w' => e = .returned (.tuple #[.string T, .bool ok]) ∧ Below W.heap.size W w') :
  Calls Tryz.prog 138 #[WV f ask, .iface 262 (.string s), .string ty, .int .i64 depth] w fun e w' => e = .returned (.tuple #[.string T, .bool ok]) ∧ Below w.heap.size w w' := by
 obtain ⟨p, mi, sh, sp, z, wid, prec, verb⟩ := f
 have t0 : ∀ w, (Instr.typeAssert (.iface 262 (.string s)) 20 255 true).run Tryz.prog w = .ok (.tuple #[.bool false, .bool false]) w := fun w => by kernel_rfl
 have t1 : ∀ w, (Instr.typeAssert (.iface 262 (.string s)) 20 256 true).run Tryz.prog w = .ok (.tuple #[.int .i64 0, .bool false]) w := fun w => by kernel_rfl
 have t2 : ∀ w, (Instr.typeAssert (.iface 262 (.string s)) 20 257 true).run Tryz.prog w = .ok (.tuple #[.int .u64 0, .bool false]) w := fun w => by kernel_rfl
 have t3 : ∀ w, (Instr.typeAssert (.iface 262 (.string s)) 20 259 true).run Tryz.prog w = .ok (.tuple #[.agg #[.int .u64 0, .int .i64 0], .bool false]) w := fun w => by kernel_rfl
 have t4 : ∀ w, (Instr.typeAssert (.iface 262 (.string s)) 20 261 true).run Tryz.prog w = .ok (.tuple #[.agg #[.int .u64 0, .int .u64 0, .int .i64 0], .bool false]) w := fun w => by kernel_rfl
 have t5 : ∀ w, (Instr.typeAssert (.iface 262 (.string s)) 20 262 true).run Tryz.prog w = .ok (.tuple #[.string s, .bool true]) w := fun w => by kernel_rfl
 obtain ⟨W1, hW1⟩ : ∃ W1, W1 = w.alloc (.cells #[.bool p, .bool mi, .bool sh, .bool sp, .bool z, .int .i64 wid, .int .i64 prec, .int .i32 verb, ask] 200) := ⟨_, rfl⟩
 have b1 : Below w.heap.size w W1 := by rw [hW1]; exact (Below.refl _ _).alloc (Nat.le_refl _) _
 have a1 : At9 W1 w.heap.size ⟨p, mi, sh, sp, z, wid, prec, verb⟩ ask := by
  rw [hW1]
  refine ⟨?_, ?_, ?_, ?_, ?_, ?_, ?_, ?_, ?_⟩
  all_goals simp [go_sem]
 have hE1 := hE.below b1
 go_enter Tryz.func138, Tryz.ntmps138
 go_upto_region 19 with fail
 rw [← hW1]
 clear hW1
 obtain ⟨q0, q1, q2, q3, q4, q5, q6, q7, q8⟩ := a1
 go_wp2_with (go_at_call 110; refine (hT _ hE1).mono ?_; rintro e W3 ⟨rfl, b3⟩)
 go_ret2
 exact ⟨rfl, b1.trans (b3.mono b1.size)⟩
end Go.Proofs.YtdlnmnipnkeabaaGreatDoor
namespace Go.Proofs.YtdlnmnipnkeabaaGreatDoor
open Go.RowKit
set_option linter.unusedVariables false
set_option linter.unusedSimpArgs false
set_option maxRecDepth 1000000 in
set_option maxHeartbeats 2000000 in
theorem shaped_float (f : Sq) (ask : Value) (ty : ByteArray) (bits size depth : Int) (T : ByteArray) (ok : Bool) (w : World) (hT : ∀ W, Calls Tryz.prog 171 #[.int .u64 bits, .int .i64 size, SV (numQ f)] W fun e w' => e = .returned (.tuple #[.string T, .bool ok]) ∧ Below W.heap.size W w') :
  Calls Tryz.prog 138 #[WV f ask, .iface 259 (.agg #[.int .u64 bits, .int .i64 size]), .string ty, .int .i64 depth] w fun e w' => e = .returned (.tuple #[.string T, .bool ok]) ∧ Below w.heap.size w w' := by
 have t0 : ∀ w, (Instr.typeAssert (.iface 259 (.agg #[.int .u64 bits, .int .i64 size])) 20 255 true).run Tryz.prog w = .ok (.tuple #[.bool false, .bool false]) w := fun w => by kernel_rfl
 have t1 : ∀ w, (Instr.typeAssert (.iface 259 (.agg #[.int .u64 bits, .int .i64 size])) 20 256 true).run Tryz.prog w = .ok (.tuple #[.int .i64 0, .bool false]) w := fun w => by kernel_rfl
 have t2 : ∀ w, (Instr.typeAssert (.iface 259 (.agg #[.int .u64 bits, .int .i64 size])) 20 257 true).run Tryz.prog w = .ok (.tuple #[.int .u64 0, .bool false]) w := fun w => by kernel_rfl
 have t3 : ∀ w, (Instr.typeAssert (.iface 259 (.agg #[.int .u64 bits, .int .i64 size])) 20 259 true).run Tryz.prog w = .ok (.tuple #[.agg #[.int .u64 bits, .int .i64 size], .bool true]) w := fun w => by kernel_rfl
 obtain ⟨W1, hW1⟩ : ∃ W1, W1 = w.alloc (.cells #[.bool f.p, .bool f.mi, .bool f.sh, .bool f.sp, .bool f.z, .int .i64 f.wid, .int .i64 f.prec, .int .i32 f.verb, ask] 200) := ⟨_, rfl⟩
 have b1 : Below w.heap.size w W1 := by rw [hW1]; exact (Below.refl _ _).alloc (Nat.le_refl _) _
 have a1 : At9 W1 w.heap.size f ask := by
  rw [hW1]
  refine ⟨?_, ?_, ?_, ?_, ?_, ?_, ?_, ?_, ?_⟩
  all_goals simp [go_sem]
 obtain ⟨W2, hW2⟩ : ∃ W2, W2 = W1.alloc (.cells #[.int .u64 bits, .int .i64 size] 259) := ⟨_, rfl⟩
 have b2 : Below W1.heap.size W1 W2 := by rw [hW2]; exact (Below.refl _ _).alloc (Nat.le_refl _) _
 have d0 : W2.cell? ⟨W1.heap.size, 0, none⟩ = some (.int .u64 bits) := by rw [hW2]; simp [go_sem]
 have d1 : W2.cell? ⟨W1.heap.size, 1, none⟩ = some (.int .i64 size) := by rw [hW2]; simp [go_sem]
 have a2 := a1.up b2
 have bw := b1.trans (b2.mono b1.size)
 have hN := fun W => forNumbers_any f ask W
 clear a1
 go_enter Tryz.func138, Tryz.ntmps138
 go_upto_region 12 with fail
 rw [← hW1]
 clear hW1
 go_upto_region 13 with fail
 rw [← hW2]
 clear hW2
 obtain ⟨q0, q1, q2, q3, q4, q5, q6, q7, q8⟩ := a2
 have e0 : ∀ x : Cl W2, x.w.cell? ⟨W1.heap.size, 0, none⟩ = some (.int .u64 bits) := fun x => x.cell d0
 have e1 : ∀ x : Cl W2, x.w.cell? ⟨W1.heap.size, 1, none⟩ = some (.int .i64 size) := fun x => x.cell d1
 have f0 : ∀ x : Cl W2, x.w.cell? ⟨w.heap.size, 0, none⟩ = some (.bool f.p) := fun x => x.cell q0
 have f1 : ∀ x : Cl W2, x.w.cell? ⟨w.heap.size, 1, none⟩ = some (.bool f.mi) := fun x => x.cell q1
 have f2 : ∀ x : Cl W2, x.w.cell? ⟨w.heap.size, 2, none⟩ = some (.bool f.sh) := fun x => x.cell q2
 have f3 : ∀ x : Cl W2, x.w.cell? ⟨w.heap.size, 3, none⟩ = some (.bool f.sp) := fun x => x.cell q3
 have f4 : ∀ x : Cl W2, x.w.cell? ⟨w.heap.size, 4, none⟩ = some (.bool f.z) := fun x => x.cell q4
 have f5 : ∀ x : Cl W2, x.w.cell? ⟨w.heap.size, 5, none⟩ = some (.int .i64 f.wid) := fun x => x.cell q5
 have f6 : ∀ x : Cl W2, x.w.cell? ⟨w.heap.size, 6, none⟩ = some (.int .i64 f.prec) := fun x => x.cell q6
 have f7 : ∀ x : Cl W2, x.w.cell? ⟨w.heap.size, 7, none⟩ = some (.int .i32 f.verb) := fun x => x.cell q7
 have f8 : ∀ x : Cl W2, x.w.cell? ⟨w.heap.size, 8, none⟩ = some ask := fun x => x.cell q8
 refine wp_region_above W2 (Below.refl _ _) (by kernel_rfl) (by kernel_rfl) ?_
 intro hCl
 repeat (go_big_quiet_step ((first | (go_at_call 169; exact Cl.call (hN _)) | (go_at_call 171; exact Cl.call (hT _)))))
 refine wpQuiet_nil ?_
 intro _ hw'
 obtain ⟨y, hx⟩ := hw'
 subst hx
 go_wp2
 go_ret2
 exact ⟨rfl, bw.trans (y.below.mono bw.size)⟩
end Go.Proofs.YtdlnmnipnkeabaaGreatDoor
namespace Go.Proofs.YtdlnmnipnkeabaaGreatDoor
open Go.RowKit
set_option linter.unusedVariables false
set_option linter.unusedSimpArgs false
set_option maxRecDepth 1000000 in
set_option maxHeartbeats 4000000 in
theorem asked_g {ok : Bool} {B : World → Prop} {P : Nat → Prop} (f : Sq) (v : Value) (g : Nat) (T : ByteArray) (w : World) (hP : ∀ k, P k → k < w.heap.size) (hB : ∀ W W', B W → Kx (fun k => w.heap.size ≤ k) W W' → B W') (hA : ∀ W, Below w.heap.size w W → Calls Tryz.prog 86 #[.pointer (some ⟨g, 0, none⟩), v, SV f] W fun e w' => e = .returned (.tuple #[.string T, .bool ok]) ∧ B w' ∧ Kx P W w') :
  Calls Tryz.prog 137 #[WV f (FA g), v] w fun e w' => e = .returned (.tuple #[.string T, .bool ok]) ∧ B w' ∧ Kx P w w' := by
 have hq : ∀ w, (binOp .eql 151 (FA g) .nilFunc).run Tryz.prog w = .ok (.bool false) w := fun w => by kernel_rfl
 have hmf : ∀ (fn : Fn) (first cap : Array Value) (w : World), (Instr.makeFunc fn first cap).run Tryz.prog w = .ok (.func fn first cap) w := fun _ _ _ _ => rfl
 obtain ⟨W1, hW1⟩ : ∃ W1, W1 = ((w.alloc (.cells #[.bool f.p, .bool f.mi, .bool f.sh, .bool f.sp, .bool f.z, .int .i64 f.wid, .int .i64 f.prec, .int .i32 f.verb, FA g] 200)).alloc (.cells #[.string ⟨#[]⟩] 9)).alloc (.cells #[.bool false] 4) := ⟨_, rfl⟩
 have b1 : Below w.heap.size w W1 := by rw [hW1]; exact (((Below.refl _ _).alloc (Nat.le_refl _) _).alloc (by simp) _).alloc (by simp; omega) _
 have a1 : At9 W1 w.heap.size f (FA g) := by
  rw [hW1]
  refine ⟨?_, ?_, ?_, ?_, ?_, ?_, ?_, ?_, ?_⟩
  all_goals simp [go_sem]
 have s1 : W1.cell? ⟨w.heap.size + 1, 0, none⟩ = some (.string ⟨#[]⟩) := by rw [hW1]; simp [go_sem]
 have s2 : W1.cell? ⟨w.heap.size + 1 + 1, 0, none⟩ = some (.bool false) := by rw [hW1]; simp [go_sem]
 have y1 : W1.frozen? ⟨w.heap.size + 1, 0, none⟩ = false := by
  rw [hW1, frozen?_alloc_cells, frozen?_alloc_cells, frozen?_alloc_cells]
  exact frozen_none _ _ (by show w.heap.size ≤ w.heap.size + 1; omega)
 have y2 : W1.frozen? ⟨w.heap.size + 1 + 1, 0, none⟩ = false := by
  rw [hW1, frozen?_alloc_cells, frozen?_alloc_cells, frozen?_alloc_cells]
  exact frozen_none _ _ (by show w.heap.size ≤ w.heap.size + 1 + 1; omega)
 have hO := hA W1 b1
 have l1 := lt_of_cell s1
 have l2 := lt_of_cell s2
 obtain ⟨q0, q1, q2, q3, q4, q5, q6, q7, q8⟩ := a1
 go_enter_defers Tryz.func137, Tryz.ntmps137
 go_upto_region 1 with fail
 rw [← hW1]
 clear hW1 hA
 go_wp2_with fail
 refine hO.mono ?_
 rintro e W2 ⟨rfl, hBB, b2⟩
 have k1 := b2.cell s1 (fun h => by have := hP _ h; dsimp only at this; omega)
 have k2 := b2.cell s2 (fun h => by have := hP _ h; dsimp only at this; omega)
 have x1 : W2.frozen? ⟨w.heap.size + 1, 0, none⟩ = false := (World.frozen?_of_block (w := W1) (a := ⟨w.heap.size + 1, 0, none⟩) (b2.block _ l1 (fun h => by have := hP _ h; dsimp only at this; omega))).trans y1
 have x2 : W2.frozen? ⟨w.heap.size + 1 + 1, 0, none⟩ = false := (World.frozen?_of_block (w := W1) (a := ⟨w.heap.size + 1 + 1, 0, none⟩) (b2.block _ l2 (fun h => by have := hP _ h; dsimp only at this; omega))).trans y2
 have bw2 : Kx P w W2 := (Kx.of_below b1).trans b2
 have k2' : ∀ u, (W2.setCell ⟨w.heap.size + 1, 0, none⟩ u).cell? ⟨w.heap.size + 1 + 1, 0, none⟩ = some (.bool false) := fun u => (World.cell?_of_block (w := W2) (Below.heap_setCell _ _ _ _ (by show w.heap.size + 1 + 1 ≠ w.heap.size + 1; omega))).trans k2
 have x2' : ∀ u, (W2.setCell ⟨w.heap.size + 1, 0, none⟩ u).frozen? ⟨w.heap.size + 1 + 1, 0, none⟩ = false := fun u => by rw [World.frozen?_setCell]; exact x2
 have e1 : ∀ u x, ((W2.setCell ⟨w.heap.size + 1, 0, none⟩ u).setCell ⟨w.heap.size + 1 + 1, 0, none⟩ x).cell? ⟨w.heap.size + 1, 0, none⟩ = some u := fun u x => (World.cell?_of_block (w := W2.setCell ⟨w.heap.size + 1, 0, none⟩ u) (Below.heap_setCell _ _ _ _ (by show w.heap.size + 1 ≠ w.heap.size + 1 + 1; omega))).trans (cs_same8 _ _ _ (by rw [k1]; rfl))
 have e2 : ∀ u x, ((W2.setCell ⟨w.heap.size + 1, 0, none⟩ u).setCell ⟨w.heap.size + 1 + 1, 0, none⟩ x).cell? ⟨w.heap.size + 1 + 1, 0, none⟩ = some x := fun u x => cs_same8 _ _ _ (by rw [k2']; rfl)
 clear hO s1 s2 y1 y2 q0 q1 q2 q3 q4 q5 q6 q7 q8 hq
 go_wp2
 refine leaves_cons (f := 166) (args := #[.pointer (some ⟨w.heap.size + 1, 0, none⟩), .pointer (some ⟨w.heap.size + 1 + 1, 0, none⟩)]) (by simp) (by simp [go_sem]) ?_
 refine (catch14_idle _ _ _).mono ?_
 rintro e u' w'' ⟨rfl, rfl, rfl⟩
 refine ⟨.tuple #[.string T, .bool ok], ?_, rfl, hB _ _ hBB (((Kx.refl _ _).setCell _ _ (Or.inl (by omega)) _).setCell _ _ (Or.inl (by omega)) _), (bw2.setCell _ _ (Or.inr (by omega)) _).setCell _ _ (Or.inr (by omega)) _⟩
 simp [results, Tryz.results137, go_sem, e1, e2]
set_option maxRecDepth 1000000 in
set_option maxHeartbeats 4000000 in
theorem written_n {B : World → Prop} {P : Nat → Prop} (f : Sq) (ask v : Value) (depth : Int) (w : World) (ty T : ByteArray) (st : TypeId) (sx : Value) (hP : ∀ k, P k → k < w.heap.size)
  (hB : ∀ W W', B W → Below W.heap.size W W' → B W')
  (hA0 : ∀ W, Below w.heap.size w W → Calls Tryz.prog 137 #[WV f ask, v] W fun e W' => e = .returned (.tuple #[.string ⟨#[]⟩, .bool false]) ∧ B W' ∧ Kx P W W')
  (hS : ∀ W, Below w.heap.size w W → Calls Tryz.prog 135 #[v] W fun e W' => e = .returned (.iface st sx) ∧ Below W.heap.size W W')
  (hTy : ∀ W, B W → Calls Tryz.prog 68 #[v] W fun e W' => e = .returned (.string ty) ∧ Below W.heap.size W W')
  (hSh : ∀ W, B W → Calls Tryz.prog 138 #[WV f ask, .iface st sx, .string ty, .int .i64 depth] W fun e W' => e = .returned (.tuple #[.string T, .bool true]) ∧ Below W.heap.size W W') :
  Calls Tryz.prog 111 #[WV f ask, v, .int .i64 depth] w fun e w' => e = .returned (.string T) ∧ B w' ∧ Kx P w w' := by
 have hne : ∀ w, (binOp .eql 20 (.iface st sx) .nilIface).run Tryz.prog w = .ok (.bool false) w := fun w => by kernel_rfl
 obtain ⟨W1, hW1⟩ : ∃ W1, W1 = w.alloc (.cells #[.bool f.p, .bool f.mi, .bool f.sh, .bool f.sp, .bool f.z, .int .i64 f.wid, .int .i64 f.prec, .int .i32 f.verb, ask] 200) := ⟨_, rfl⟩
 have b1 : Below w.heap.size w W1 := by rw [hW1]; exact (Below.refl _ _).alloc (Nat.le_refl _) _
 have a1 : At9 W1 w.heap.size f ask := by
  rw [hW1]
  refine ⟨?_, ?_, ?_, ?_, ?_, ?_, ?_, ?_, ?_⟩
  all_goals simp [go_sem]
 have hS1 := hS W1 b1
 have hn0 : ¬ P w.heap.size := fun h => by have := hP _ h; omega
 go_enter Tryz.func111, Tryz.ntmps111
 go_upto_region 1 with fail
 rw [← hW1]
 clear hW1
 obtain ⟨X, hX⟩ : ∃ X, w.heap.size = X := ⟨_, rfl⟩
 have HX : Unit → w.heap.size = X := fun _ => hX
 rw [hX] at a1 hn0
 simp only [hX]
 clear hX hS
 go_upto_region 2 with (go_at_call 135; refine hS1.mono ?_; rintro e W2 ⟨rfl, b2⟩)
 have hA := hA0 W2 (b1.trans (b2.mono b1.size))
 have a2 := a1.up b2
 obtain ⟨q0, q1, q2, q3, q4, q5, q6, q7, q8⟩ := id a2
 clear hS1
 go_upto_region 7 with (go_at_call 137; refine hA.mono ?_; rintro e W3 ⟨rfl, hB3, b3⟩)
 have a3 : At9 W3 X f ask := ⟨b3.cell a2.1 hn0, b3.cell a2.2.1 hn0, b3.cell a2.2.2.1 hn0, b3.cell a2.2.2.2.1 hn0, b3.cell a2.2.2.2.2.1 hn0, b3.cell a2.2.2.2.2.2.1 hn0, b3.cell a2.2.2.2.2.2.2.1 hn0, b3.cell a2.2.2.2.2.2.2.2.1 hn0, b3.cell a2.2.2.2.2.2.2.2.2 hn0⟩
 have bW3 : Kx P w W3 := (Kx.of_below (b1.trans (b2.mono b1.size))).trans b3
 obtain ⟨Yd, hYd⟩ : ∃ Yd, Yd = W3.drew := ⟨_, rfl⟩
 have bY : Below W3.heap.size W3 Yd := by rw [hYd]; exact (Below.refl _ _).drew
 have hBY := hB _ _ hB3 bY
 have bwY : Kx P w Yd := bW3.trans (.of_below bY)
 clear q0 q1 q2 q3 q4 q5 q6 q7 q8 hA a1 a2 b1 b2 b3 hA0
 refine wp_region_held_drew (S := fun w' : World => At9 w' X f ask) (by kernel_rfl) (by exact a3) ?_
 rw [← hYd]
 have s5 : (fun w' : World => At9 w' X f ask) Yd := by rw [hYd]; exact a3
 have hup : ∀ {w1 w2 : World}, (fun w' : World => At9 w' X f ask) w1 → Below w1.heap.size w1 w2 → (fun w' : World => At9 w' X f ask) w2 := fun h h' => At9.up h h'
 clear hYd a3 bW3
 intro hS
 refine tk 0 (.agg #[.bool f.p, .bool f.mi, .bool f.sh, .bool f.sp, .bool f.z, .int .i64 f.wid, .int .i64 f.prec, .int .i32 f.verb, ask]) rfl (by kernel_rfl) (fun _ _ _ h => h) (by rfl) (by assumption) ?_ ?_
 ·intro w5 s0
  obtain ⟨q0, q1, q2, q3, q4, q5, q6, q7, q8⟩ := s0
  go_simp
 try simp only [Act.put, List.getElem_toArray, List.getElem_cons_zero, List.getElem_cons_succ, List.setIfInBounds_toArray, List.set_cons_zero, List.set_cons_succ, List.length_cons]
 refine tk 1 (.iface st sx) rfl (by kernel_rfl) (fun _ _ _ h => h) (by rfl) (by assumption) ?_ ?_
 ·intro w5 s0
  go_simp
 try simp only [Act.put, List.getElem_toArray, List.getElem_cons_zero, List.getElem_cons_succ, List.setIfInBounds_toArray, List.set_cons_zero, List.set_cons_succ, List.length_cons]
 refine tk 2 (v) rfl (by kernel_rfl) (fun _ _ _ h => h) (by rfl) (by assumption) ?_ ?_
 ·intro w5 s0
  go_simp
 try simp only [Act.put, List.getElem_toArray, List.getElem_cons_zero, List.getElem_cons_succ, List.setIfInBounds_toArray, List.set_cons_zero, List.set_cons_succ, List.length_cons]
 refine tk 4 (.int .i64 depth) rfl (by kernel_rfl) (fun _ _ _ h => h) (by rfl) (by assumption) ?_ ?_
 ·intro w5 s0
  go_simp
 try simp only [Act.put, List.getElem_toArray, List.getElem_cons_zero, List.getElem_cons_succ, List.setIfInBounds_toArray, List.set_cons_zero, List.set_cons_succ, List.length_cons]
 refine rd1 3 (by kernel_rfl) rfl fun K1 hK1 => ?_
 go_simp
 refine (hTy _ hBY).mono ?_
 rintro e Z1 ⟨rfl, z1⟩
 have sZ1 := (hup s5) z1
 have hBZ1 := hB _ _ hBY z1
 refine hK1.out _ _ sZ1 (fun _ => ?_)
 clear hK1
 try simp only [Act.put, List.getElem_toArray, List.getElem_cons_zero, List.getElem_cons_succ, List.setIfInBounds_toArray, List.set_cons_zero, List.set_cons_succ, List.length_cons]
 refine rd1 5 (by kernel_rfl) rfl fun K2 hK2 => ?_
 go_simp
 refine (hSh Z1 hBZ1).mono ?_
 rintro e Z2 ⟨rfl, z2⟩
 have sZ2 := (hup sZ1) z2
 have hBZ2 := hB _ _ hBZ1 z2
 refine hK2.out _ _ sZ2 (fun _ => ?_)
 clear hK2
 try simp only [Act.put, List.getElem_toArray, List.getElem_cons_zero, List.getElem_cons_succ, List.setIfInBounds_toArray, List.set_cons_zero, List.set_cons_succ, List.length_cons]
 refine rd1 6 (by kernel_rfl) rfl fun K3 hK3 => ?_
 go_simp
 refine hK3.out _ _ sZ2 (fun _ => ?_)
 clear hK3
 try simp only [Act.put, List.getElem_toArray, List.getElem_cons_zero, List.getElem_cons_succ, List.setIfInBounds_toArray, List.set_cons_zero, List.set_cons_succ, List.length_cons]
 refine tk 7 (.string T) rfl (by kernel_rfl) (fun _ _ _ h => h) (by rfl) (by assumption) ?_ ?_
 ·intro w5 s0
  go_simp
 try simp only [Act.put, List.getElem_toArray, List.getElem_cons_zero, List.getElem_cons_succ, List.setIfInBounds_toArray, List.set_cons_zero, List.set_cons_succ, List.length_cons]
 refine tk 8 (.bool true) rfl (by kernel_rfl) (fun _ _ _ h => h) (by rfl) (by assumption) ?_ ?_
 ·intro w5 s0
  go_simp
 try simp only [Act.put, List.getElem_toArray, List.getElem_cons_zero, List.getElem_cons_succ, List.setIfInBounds_toArray, List.set_cons_zero, List.set_cons_succ, List.length_cons]
 refine rd1 9 (by kernel_rfl) rfl fun K4 hK4 => ?_
 go_simp
 refine hK4.out _ _ sZ2 (fun _ => ?_)
 clear hK4
 try simp only [Act.put, List.getElem_toArray, List.getElem_cons_zero, List.getElem_cons_succ, List.setIfInBounds_toArray, List.set_cons_zero, List.set_cons_succ, List.length_cons]
 refine rd1 10 (by kernel_rfl) rfl fun K5 hK5 => ?_
 go_simp
 refine hK5.out _ _ sZ2 (fun _ => ?_)
 clear hK5
 try simp only [Act.put, List.getElem_toArray, List.getElem_cons_zero, List.getElem_cons_succ, List.setIfInBounds_toArray, List.set_cons_zero, List.set_cons_succ, List.length_cons]
 refine wpAnyH_done (by kernel_rfl) ?_ _
 have kf : Kx P w Z2 := (bwY.trans (.of_below z1)).trans (.of_below z2)
 go_wp2
 go_ret
 exact ⟨rfl, hBZ2, kf⟩
set_option maxRecDepth 1000000 in
set_option maxHeartbeats 4000000 in
theorem written_nb {B : World → Prop} {P : Nat → Prop} (f : Sq) (ask v : Value) (depth : Int) (w : World) (ty T T2 : ByteArray) (st : TypeId) (sx : Value) (hP : ∀ k, P k → k < w.heap.size)
  (hB : ∀ W W', B W → Below W.heap.size W W' → B W')
  (hA0 : ∀ W, Below w.heap.size w W → Calls Tryz.prog 137 #[WV f ask, v] W fun e W' => e = .returned (.tuple #[.string ⟨#[]⟩, .bool false]) ∧ B W' ∧ Kx P W W')
  (hS : ∀ W, Below w.heap.size w W → Calls Tryz.prog 135 #[v] W fun e W' => e = .returned (.iface st sx) ∧ Below W.heap.size W W')
  (hTy : ∀ W, B W → Calls Tryz.prog 68 #[v] W fun e W' => e = .returned (.string ty) ∧ Below W.heap.size W W')
  (hSh : ∀ W, B W → Calls Tryz.prog 138 #[WV f ask, .iface st sx, .string ty, .int .i64 depth] W fun e W' => e = .returned (.tuple #[.string T, .bool false]) ∧ Below W.heap.size W W')
  (hBad : ∀ W, B W → Calls Tryz.prog 139 #[v, .int .i32 f.verb] W fun e W' => e = .returned (.string T2) ∧ Below W.heap.size W W') :
  Calls Tryz.prog 111 #[WV f ask, v, .int .i64 depth] w fun e w' => e = .returned (.string T2) ∧ B w' ∧ Kx P w w' := by
 have hne : ∀ w, (binOp .eql 20 (.iface st sx) .nilIface).run Tryz.prog w = .ok (.bool false) w := fun w => by kernel_rfl
 obtain ⟨W1, hW1⟩ : ∃ W1, W1 = w.alloc (.cells #[.bool f.p, .bool f.mi, .bool f.sh, .bool f.sp, .bool f.z, .int .i64 f.wid, .int .i64 f.prec, .int .i32 f.verb, ask] 200) := ⟨_, rfl⟩
 have b1 : Below w.heap.size w W1 := by rw [hW1]; exact (Below.refl _ _).alloc (Nat.le_refl _) _
 have a1 : At9 W1 w.heap.size f ask := by
  rw [hW1]
  refine ⟨?_, ?_, ?_, ?_, ?_, ?_, ?_, ?_, ?_⟩
  all_goals simp [go_sem]
 have hS1 := hS W1 b1
 have hn0 : ¬ P w.heap.size := fun h => by have := hP _ h; omega
 go_enter Tryz.func111, Tryz.ntmps111
 go_upto_region 1 with fail
 rw [← hW1]
 clear hW1
 obtain ⟨X, hX⟩ : ∃ X, w.heap.size = X := ⟨_, rfl⟩
 have HX : Unit → w.heap.size = X := fun _ => hX
 rw [hX] at a1 hn0
 simp only [hX]
 clear hX hS
 go_upto_region 2 with (go_at_call 135; refine hS1.mono ?_; rintro e W2 ⟨rfl, b2⟩)
 have hA := hA0 W2 (b1.trans (b2.mono b1.size))
 have a2 := a1.up b2
 obtain ⟨q0, q1, q2, q3, q4, q5, q6, q7, q8⟩ := id a2
 clear hS1
 go_upto_region 7 with (go_at_call 137; refine hA.mono ?_; rintro e W3 ⟨rfl, hB3, b3⟩)
 have a3 : At9 W3 X f ask := ⟨b3.cell a2.1 hn0, b3.cell a2.2.1 hn0, b3.cell a2.2.2.1 hn0, b3.cell a2.2.2.2.1 hn0, b3.cell a2.2.2.2.2.1 hn0, b3.cell a2.2.2.2.2.2.1 hn0, b3.cell a2.2.2.2.2.2.2.1 hn0, b3.cell a2.2.2.2.2.2.2.2.1 hn0, b3.cell a2.2.2.2.2.2.2.2.2 hn0⟩
 have bW3 : Kx P w W3 := (Kx.of_below (b1.trans (b2.mono b1.size))).trans b3
 obtain ⟨Yd, hYd⟩ : ∃ Yd, Yd = W3.drew := ⟨_, rfl⟩
 have bY : Below W3.heap.size W3 Yd := by rw [hYd]; exact (Below.refl _ _).drew
 have hBY := hB _ _ hB3 bY
 have bwY : Kx P w Yd := bW3.trans (.of_below bY)
 clear q0 q1 q2 q3 q4 q5 q6 q7 q8 hA a1 a2 b1 b2 b3 hA0
 refine wp_region_held_drew (S := fun w' : World => At9 w' X f ask) (by kernel_rfl) (by exact a3) ?_
 rw [← hYd]
 have s5 : (fun w' : World => At9 w' X f ask) Yd := by rw [hYd]; exact a3
 have hup : ∀ {w1 w2 : World}, (fun w' : World => At9 w' X f ask) w1 → Below w1.heap.size w1 w2 → (fun w' : World => At9 w' X f ask) w2 := fun h h' => At9.up h h'
 clear hYd a3 bW3
 intro hS
 refine tk 0 (.agg #[.bool f.p, .bool f.mi, .bool f.sh, .bool f.sp, .bool f.z, .int .i64 f.wid, .int .i64 f.prec, .int .i32 f.verb, ask]) rfl (by kernel_rfl) (fun _ _ _ h => h) (by rfl) (by assumption) ?_ ?_
 ·intro w5 s0
  obtain ⟨q0, q1, q2, q3, q4, q5, q6, q7, q8⟩ := s0
  go_simp
 try simp only [Act.put, List.getElem_toArray, List.getElem_cons_zero, List.getElem_cons_succ, List.setIfInBounds_toArray, List.set_cons_zero, List.set_cons_succ, List.length_cons]
 refine tk 1 (.iface st sx) rfl (by kernel_rfl) (fun _ _ _ h => h) (by rfl) (by assumption) ?_ ?_
 ·intro w5 s0
  go_simp
 try simp only [Act.put, List.getElem_toArray, List.getElem_cons_zero, List.getElem_cons_succ, List.setIfInBounds_toArray, List.set_cons_zero, List.set_cons_succ, List.length_cons]
 refine tk 2 (v) rfl (by kernel_rfl) (fun _ _ _ h => h) (by rfl) (by assumption) ?_ ?_
 ·intro w5 s0
  go_simp
 try simp only [Act.put, List.getElem_toArray, List.getElem_cons_zero, List.getElem_cons_succ, List.setIfInBounds_toArray, List.set_cons_zero, List.set_cons_succ, List.length_cons]
 refine tk 4 (.int .i64 depth) rfl (by kernel_rfl) (fun _ _ _ h => h) (by rfl) (by assumption) ?_ ?_
 ·intro w5 s0
  go_simp
 try simp only [Act.put, List.getElem_toArray, List.getElem_cons_zero, List.getElem_cons_succ, List.setIfInBounds_toArray, List.set_cons_zero, List.set_cons_succ, List.length_cons]
 refine rd1 3 (by kernel_rfl) rfl fun K1 hK1 => ?_
 go_simp
 refine (hTy _ hBY).mono ?_
 rintro e Z1 ⟨rfl, z1⟩
 have sZ1 := (hup s5) z1
 have hBZ1 := hB _ _ hBY z1
 refine hK1.out _ _ sZ1 (fun _ => ?_)
 clear hK1
 try simp only [Act.put, List.getElem_toArray, List.getElem_cons_zero, List.getElem_cons_succ, List.setIfInBounds_toArray, List.set_cons_zero, List.set_cons_succ, List.length_cons]
 refine rd1 5 (by kernel_rfl) rfl fun K2 hK2 => ?_
 go_simp
 refine (hSh Z1 hBZ1).mono ?_
 rintro e Z2 ⟨rfl, z2⟩
 have sZ2 := (hup sZ1) z2
 have hBZ2 := hB _ _ hBZ1 z2
 refine hK2.out _ _ sZ2 (fun _ => ?_)
 clear hK2
 try simp only [Act.put, List.getElem_toArray, List.getElem_cons_zero, List.getElem_cons_succ, List.setIfInBounds_toArray, List.set_cons_zero, List.set_cons_succ, List.length_cons]
 refine rd1 6 (by kernel_rfl) rfl fun K3 hK3 => ?_
 go_simp
 refine hK3.out _ _ sZ2 (fun _ => ?_)
 clear hK3
 try simp only [Act.put, List.getElem_toArray, List.getElem_cons_zero, List.getElem_cons_succ, List.setIfInBounds_toArray, List.set_cons_zero, List.set_cons_succ, List.length_cons]
 refine tk 7 (.string T) rfl (by kernel_rfl) (fun _ _ _ h => h) (by rfl) (by assumption) ?_ ?_
 ·intro w5 s0
  go_simp
 try simp only [Act.put, List.getElem_toArray, List.getElem_cons_zero, List.getElem_cons_succ, List.setIfInBounds_toArray, List.set_cons_zero, List.set_cons_succ, List.length_cons]
 refine tk 8 (.bool false) rfl (by kernel_rfl) (fun _ _ _ h => h) (by rfl) (by assumption) ?_ ?_
 ·intro w5 s0
  go_simp
 try simp only [Act.put, List.getElem_toArray, List.getElem_cons_zero, List.getElem_cons_succ, List.setIfInBounds_toArray, List.set_cons_zero, List.set_cons_succ, List.length_cons]
 refine rd1 9 (by kernel_rfl) rfl fun K4 hK4 => ?_
 go_simp
 refine hK4.out _ _ sZ2 (fun _ => ?_)
 clear hK4
 try simp only [Act.put, List.getElem_toArray, List.getElem_cons_zero, List.getElem_cons_succ, List.setIfInBounds_toArray, List.set_cons_zero, List.set_cons_succ, List.length_cons]
 refine rd1 10 (by kernel_rfl) rfl fun K5 hK5 => ?_
 go_simp
 refine hK5.out _ _ sZ2 (fun _ => ?_)
 clear hK5
 try simp only [Act.put, List.getElem_toArray, List.getElem_cons_zero, List.getElem_cons_succ, List.setIfInBounds_toArray, List.set_cons_zero, List.set_cons_succ, List.length_cons]
 refine wpAnyH_done (by kernel_rfl) ?_ _
 have kf : Kx P w Z2 := (bwY.trans (.of_below z1)).trans (.of_below z2)
 obtain ⟨q0, q1, q2, q3, q4, q5, q6, q7, q8⟩ := id sZ2
 have hBd := hBad Z2 hBZ2
 clear hBad hTy hSh
 go_wp2_with (go_at_call 139; refine hBd.mono ?_; rintro e W9 ⟨rfl, b9⟩)
 go_ret
 exact ⟨rfl, hB _ _ hBZ2 b9, kf.trans (.of_below b9)⟩
set_option maxRecDepth 1000000 in
set_option maxHeartbeats 4000000 in
theorem truth_t (p mi sh sp z : Bool) (wid prec verb : Int) (ask : Value) (hv : verb = 116) (w : World) :
  Calls Tryz.prog 167 #[WV ⟨p, mi, sh, sp, z, wid, prec, verb⟩ ask, .bool true] w fun e w' => e = .returned (.tuple #[.string (padS ⟨#[116, 114, 117, 101]⟩ mi z wid), .bool true]) ∧ Below w.heap.size w w' := by
 subst hv
 have hPd := fun w => pad_any ⟨#[116, 114, 117, 101]⟩ p mi sh sp z wid prec 116 w (by decide)
 generalize padS ⟨#[116, 114, 117, 101]⟩ mi z wid = T at *
 obtain ⟨W1, hW1⟩ : ∃ W1, W1 = w.alloc (.cells #[.bool p, .bool mi, .bool sh, .bool sp, .bool z, .int .i64 wid, .int .i64 prec, .int .i32 116, ask] 200) := ⟨_, rfl⟩
 have b1 : Below w.heap.size w W1 := by rw [hW1]; exact (Below.refl _ _).alloc (Nat.le_refl _) _
 have a1 : At9 W1 w.heap.size ⟨p, mi, sh, sp, z, wid, prec, 116⟩ ask := by
  rw [hW1]
  refine ⟨?_, ?_, ?_, ?_, ?_, ?_, ?_, ?_, ?_⟩
  all_goals simp [go_sem]
 go_enter Tryz.func167, Tryz.ntmps167
 go_upto_region 1 with fail
 rw [← hW1]
 clear hW1
 obtain ⟨q0, q1, q2, q3, q4, q5, q6, q7, q8⟩ := a1
 try dsimp only at q0 q1 q2 q3 q4 q5 q6 q7 q8
 go_wp2_with (go_at_call 129; refine (hPd _).mono ?_; rintro e W3 ⟨rfl, b3⟩)
 go_ret2
 exact ⟨rfl, b1.trans (b3.mono b1.size)⟩
set_option maxRecDepth 1000000 in
set_option maxHeartbeats 4000000 in
theorem truth_v (p mi sh sp z : Bool) (wid prec verb : Int) (ask : Value) (hv : verb = 118) (w : World) :
  Calls Tryz.prog 167 #[WV ⟨p, mi, sh, sp, z, wid, prec, verb⟩ ask, .bool true] w fun e w' => e = .returned (.tuple #[.string (padS ⟨#[116, 114, 117, 101]⟩ mi z wid), .bool true]) ∧ Below w.heap.size w w' := by
 subst hv
 have hPd := fun w => pad_any ⟨#[116, 114, 117, 101]⟩ p mi sh sp z wid prec 118 w (by decide)
 generalize padS ⟨#[116, 114, 117, 101]⟩ mi z wid = T at *
 obtain ⟨W1, hW1⟩ : ∃ W1, W1 = w.alloc (.cells #[.bool p, .bool mi, .bool sh, .bool sp, .bool z, .int .i64 wid, .int .i64 prec, .int .i32 118, ask] 200) := ⟨_, rfl⟩
 have b1 : Below w.heap.size w W1 := by rw [hW1]; exact (Below.refl _ _).alloc (Nat.le_refl _) _
 have a1 : At9 W1 w.heap.size ⟨p, mi, sh, sp, z, wid, prec, 118⟩ ask := by
  rw [hW1]
  refine ⟨?_, ?_, ?_, ?_, ?_, ?_, ?_, ?_, ?_⟩
  all_goals simp [go_sem]
 go_enter Tryz.func167, Tryz.ntmps167
 go_upto_region 1 with fail
 rw [← hW1]
 clear hW1
 obtain ⟨q0, q1, q2, q3, q4, q5, q6, q7, q8⟩ := a1
 try dsimp only at q0 q1 q2 q3 q4 q5 q6 q7 q8
 go_wp2_with (go_at_call 129; refine (hPd _).mono ?_; rintro e W3 ⟨rfl, b3⟩)
 go_ret2
 exact ⟨rfl, b1.trans (b3.mono b1.size)⟩
set_option maxRecDepth 1000000 in
set_option maxHeartbeats 4000000 in
theorem truth_n (p mi sh sp z : Bool) (wid prec verb : Int) (ask : Value) (hv : ¬ verb = 116 ∧ ¬ verb = 118) (w : World) :
  Calls Tryz.prog 167 #[WV ⟨p, mi, sh, sp, z, wid, prec, verb⟩ ask, .bool true] w fun e w' => e = .returned (.tuple #[.string ⟨#[]⟩, .bool false]) ∧ Below w.heap.size w w' := by
 obtain ⟨h1, h2⟩ := hv
 have hb1 : (verb != 116) = true := by simpa using h1
 have hb2 : (verb != 118) = true := by simpa using h2
 obtain ⟨W1, hW1⟩ : ∃ W1, W1 = w.alloc (.cells #[.bool p, .bool mi, .bool sh, .bool sp, .bool z, .int .i64 wid, .int .i64 prec, .int .i32 verb, ask] 200) := ⟨_, rfl⟩
 have b1 : Below w.heap.size w W1 := by rw [hW1]; exact (Below.refl _ _).alloc (Nat.le_refl _) _
 have a1 : At9 W1 w.heap.size ⟨p, mi, sh, sp, z, wid, prec, verb⟩ ask := by
  rw [hW1]
  refine ⟨?_, ?_, ?_, ?_, ?_, ?_, ?_, ?_, ?_⟩
  all_goals simp [go_sem]
 go_enter Tryz.func167, Tryz.ntmps167
 go_upto_region 1 with fail
 rw [← hW1]
 clear hW1
 obtain ⟨q0, q1, q2, q3, q4, q5, q6, q7, q8⟩ := a1
 try dsimp only at q0 q1 q2 q3 q4 q5 q6 q7 q8
 go_wp2_with fail
 go_ret2
 exact ⟨rfl, b1⟩
set_option maxRecDepth 1000000 in
set_option maxHeartbeats 4000000 in
theorem shaped_truth (f : Sq) (ask : Value) (ty : ByteArray) (depth : Int) (T : ByteArray) (ok : Bool) (w : World) (hT : ∀ W, Calls Tryz.prog 167 #[WV f ask, .bool true] W fun e w' => e = .returned (.tuple #[.string T, .bool ok]) ∧ Below W.heap.size W w') :
  Calls Tryz.prog 138 #[WV f ask, .iface 255 (.bool true), .string ty, .int .i64 depth] w fun e w' => e = .returned (.tuple #[.string T, .bool ok]) ∧ Below w.heap.size w w' := by
 obtain ⟨p, mi, sh, sp, z, wid, prec, verb⟩ := f
 have t0 : ∀ w, (Instr.typeAssert (.iface 255 (.bool true)) 20 255 true).run Tryz.prog w = .ok (.tuple #[.bool true, .bool true]) w := fun w => by kernel_rfl
 obtain ⟨W1, hW1⟩ : ∃ W1, W1 = w.alloc (.cells #[.bool p, .bool mi, .bool sh, .bool sp, .bool z, .int .i64 wid, .int .i64 prec, .int .i32 verb, ask] 200) := ⟨_, rfl⟩
 have b1 : Below w.heap.size w W1 := by rw [hW1]; exact (Below.refl _ _).alloc (Nat.le_refl _) _
 have a1 : At9 W1 w.heap.size ⟨p, mi, sh, sp, z, wid, prec, verb⟩ ask := by
  rw [hW1]
  refine ⟨?_, ?_, ?_, ?_, ?_, ?_, ?_, ?_, ?_⟩
  all_goals simp [go_sem]
 go_enter Tryz.func138, Tryz.ntmps138
 go_upto_region 1 with fail
 rw [← hW1]
 clear hW1
 obtain ⟨q0, q1, q2, q3, q4, q5, q6, q7, q8⟩ := a1
 try dsimp only at q0 q1 q2 q3 q4 q5 q6 q7 q8
 try dsimp only at hT
 go_wp2_with (go_at_call 167; refine (hT _).mono ?_; rintro e W3 ⟨rfl, b3⟩)
 go_ret2
 exact ⟨rfl, b1.trans (b3.mono b1.size)⟩
end Go.Proofs.YtdlnmnipnkeabaaGreatDoor
