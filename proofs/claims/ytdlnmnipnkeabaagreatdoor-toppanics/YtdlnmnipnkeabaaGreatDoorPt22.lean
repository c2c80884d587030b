/- UVal, UValB, JTree, VVal: these texts in one. -/
import Derived.Test.YtdlnmnipnkeabaaGreatDoorPt10
import Derived.Test.YtdlnmnipnkeabaaGreatDoorPt1
import Derived.Test.YtdlnmnipnkeabaaGreatDoorPt21
import Derived.Test.YtdlnmnipnkeabaaGreatDoorPt17
import Derived.Test.YtdlnmnipnkeabaaGreatDoorVMade
import Derived.Test.YtdlnmnipnkeabaaGreatDoorVBuild
import Derived.OwnWalk
import Derived.WalkSmall
import Derived.Maps.AppendAt
import Derived.Deep.LoopGhost
namespace Go.Proofs.YtdlnmnipnkeabaaGreatDoor
open Go.RowKit
set_option linter.unusedVariables false
set_option linter.unusedSimpArgs false
structure Flat (v : Value) (x0 x1 x2 x3 x4 x7 : Value) (k : Nat) (h : Int) (st : TypeId) (sx : Value) : Prop where
 vo : ∀ W, Calls Tryz.prog 53 #[.agg #[x0, x1, x2, x3, x4, .slice none 0 0, .slice none 0 0, x7]] W fun e w' => e = .returned v ∧ Below W.heap.size W w'
 mr : MkC v k ⟨#[]⟩ h
 sh : ∀ W, Calls Tryz.prog 135 #[v] W fun e w' => e = .returned (.iface st sx) ∧ Below W.heap.size W w'
theorem shown_flat {v x0 x1 x2 x3 x4 x7 : Value} {k : Nat} {st : TypeId} {sx : Value} (hF : Flat v x0 x1 x2 x3 x4 x7 k 0 st sx) (ty : ByteArray) (hty : kindN[k]? = some ty) (f : Sq) (hv : ¬ f.verb = 84) (T : ByteArray) {w : World} {g C M : Nat} {l : List UInt8} {m dp : Int} {av : Value} {nx : Int} (he : Env w g C M l m dp av nx)
  (hSh : ∀ W, Esc W → Calls Tryz.prog 138 #[WV f (FA g), .iface st sx, .string ty, .int .i64 0] W fun e W' => e = .returned (.tuple #[.string T, .bool true]) ∧ Below W.heap.size W W') :
  Calls Tryz.prog 69 #[.pointer (some ⟨g, 0, none⟩), v, SV f] w fun e w' => e = .returned (.string T) ∧ Below w.heap.size w w' :=
 shown_of f hv v g T w fun W hW => written_by f (FA g) v 0 W ty T (fun t x V => t = st ∧ x = sx ∧ Below W.heap.size W V) (fun V hV => asked_no f _ g V fun V2 hV2 => ask_0 g C M l dp m av nx _ k ⟨#[]⟩ f V2 ((((he.up hW).up hV).up hV2)).p ((((he.up hW).up hV).up hV2)).c he.n hF.mr)
  (fun V hV => (hF.sh V).mono fun e V' ⟨h1, h2⟩ => ⟨h2, _, _, h1, rfl, rfl, hV.trans (h2.mono hV.size)⟩) (fun V hV => type_own _ k 0 V _ hty ((he.up hW).up hV).k hF.mr) (fun t x W1 W2 ⟨h1, h2, b1⟩ b2 => by subst h1 h2; exact hSh W2 (((he.up hW).up b1).up b2).e)
set_option maxRecDepth 1000000 in
theorem shape_raw (v : Value) (k b i h : Int) (s : ByteArray) (st : TypeId) (sx : Value) (hk : (k = 13 ∧ st = 259 ∧ sx = .agg #[.int .u64 b, .int .i64 64]) ∨ (k = 12 ∧ st = 259 ∧ sx = .agg #[.int .u64 b, .int .i64 32]) ∨ (k = 16 ∧ st = 262 ∧ sx = .string s) ∨ (k = 17 ∧ st = 263 ∧ sx = .string s) ∨ (7 ≤ k ∧ k ≤ 11 ∧ st = 257 ∧ sx = .int .u64 b) ∨ (k = 1 ∧ st = 255 ∧ sx = .bool (decide (b = 1))))
  (hb : 0 ≤ b ∧ b ≤ 18446744073709551615) (hR : ∀ W, Calls Tryz.prog 145 #[v] W fun e w' => e = .returned (.agg #[.int .i64 k, .string ⟨#[]⟩, .int .u64 b, .int .u64 i, .string s, .slice none 0 0, .slice none 0 0, .int .i64 h]) ∧ Below W.heap.size W w') (w : World) :
  Calls Tryz.prog 135 #[v] w fun e w' => e = .returned (.iface st sx) ∧ Below w.heap.size w w' := by
 have hR := hR w
 obtain ⟨hb0, hb1⟩ := hb
 rcases hk with ⟨rfl, rfl, rfl⟩ | ⟨rfl, rfl, rfl⟩ | ⟨rfl, rfl, rfl⟩ | ⟨rfl, rfl, rfl⟩ | ⟨h7, h11, rfl, rfl⟩ | ⟨rfl, rfl, rfl⟩
 ·go_enter Tryz.func135, Tryz.ntmps135
  go_wp2_with (go_at_call 145; refine hR.mono ?_; rintro e W2 ⟨rfl, b2⟩)
  go_ret
  exact ⟨rfl, b2.alloc b2.size _⟩
 ·go_enter Tryz.func135, Tryz.ntmps135
  go_wp2_with (go_at_call 145; refine hR.mono ?_; rintro e W2 ⟨rfl, b2⟩)
  go_ret
  exact ⟨rfl, b2.alloc b2.size _⟩
 ·go_enter Tryz.func135, Tryz.ntmps135
  go_wp2_with (go_at_call 145; refine hR.mono ?_; rintro e W2 ⟨rfl, b2⟩)
  go_ret
  exact ⟨rfl, b2.alloc b2.size _⟩
 ·go_enter Tryz.func135, Tryz.ntmps135
  go_wp2_with (go_at_call 145; refine hR.mono ?_; rintro e W2 ⟨rfl, b2⟩)
  go_ret
  exact ⟨rfl, b2.alloc b2.size _⟩
 ·have hk5 : k = 7 ∨ k = 8 ∨ k = 9 ∨ k = 10 ∨ k = 11 := by omega
  rcases hk5 with rfl | rfl | rfl | rfl | rfl
  all_goals
   go_enter Tryz.func135, Tryz.ntmps135
   go_wp2_with (go_at_call 145; refine hR.mono ?_; rintro e W2 ⟨rfl, b2⟩)
   go_ret
   exact ⟨rfl, b2.alloc b2.size _⟩
 ·by_cases h1 : b = 1
  ·subst h1
   go_enter Tryz.func135, Tryz.ntmps135
   go_wp2_with (go_at_call 145; refine hR.mono ?_; rintro e W2 ⟨rfl, b2⟩)
   go_ret
   exact ⟨rfl, b2.alloc b2.size _⟩
  ·have hbq : (b == 1) = false := by simpa using h1
   rw [decide_eq_false h1]
   go_enter Tryz.func135, Tryz.ntmps135
   go_wp2_with (go_at_call 145; refine hR.mono ?_; rintro e W2 ⟨rfl, b2⟩)
   go_ret
   exact ⟨rfl, b2.alloc b2.size _⟩
theorem shaped_text (f : Sq) (ask : Value) (ty s : ByteArray) (depth : Int) (T : ByteArray) (ok : Bool) (w : World) (hE : Esc w) (hT : ∀ W, Esc W → Calls Tryz.prog 110 #[.string s, SV f] W fun e w' => e = .returned (.tuple #[.string T, .bool ok]) ∧ Below W.heap.size W w') :
  Calls Tryz.prog 138 #[WV f ask, .iface 262 (.string s), .string ty, .int .i64 depth] w fun e w' => e = .returned (.tuple #[.string T, .bool ok]) ∧ Below w.heap.size w w' := by
 obtain ⟨p, mi, sh, sp, z, wid, prec, verb⟩ := f
 have t0 : ∀ w, (Instr.typeAssert (.iface 262 (.string s)) 20 255 true).run Tryz.prog w = .ok (.tuple #[.bool false, .bool false]) w := fun w => by kernel_rfl
 have t1 : ∀ w, (Instr.typeAssert (.iface 262 (.string s)) 20 256 true).run Tryz.prog w = .ok (.tuple #[.int .i64 0, .bool false]) w := fun w => by kernel_rfl
 have t2 : ∀ w, (Instr.typeAssert (.iface 262 (.string s)) 20 257 true).run Tryz.prog w = .ok (.tuple #[.int .u64 0, .bool false]) w := fun w => by kernel_rfl
 have t3 : ∀ w, (Instr.typeAssert (.iface 262 (.string s)) 20 259 true).run Tryz.prog w = .ok (.tuple #[.agg #[.int .u64 0, .int .i64 0], .bool false]) w := fun w => by kernel_rfl
 have t4 : ∀ w, (Instr.typeAssert (.iface 262 (.string s)) 20 261 true).run Tryz.prog w = .ok (.tuple #[.agg #[.int .u64 0, .int .u64 0, .int .i64 0], .bool false]) w := fun w => by kernel_rfl
 have t5 : ∀ w, (Instr.typeAssert (.iface 262 (.string s)) 20 262 true).run Tryz.prog w = .ok (.tuple #[.string s, .bool true]) w := fun w => by kernel_rfl
 obtain ⟨W1, hW1⟩ : ∃ W1, W1 = w.alloc (.cells #[.bool p, .bool mi, .bool sh, .bool sp, .bool z, .int .i64 wid, .int .i64 prec, .int .i32 verb, ask] 200) := ⟨_, rfl⟩
 have b1 : Below w.heap.size w W1 := by rw [hW1]; exact (Below.refl _ _).alloc (Nat.le_refl _) _
 have a1 : At9 W1 w.heap.size ⟨p, mi, sh, sp, z, wid, prec, verb⟩ ask := by
  rw [hW1]
  refine ⟨?_, ?_, ?_, ?_, ?_, ?_, ?_, ?_, ?_⟩
  all_goals simp [go_sem]
 have hE1 := hE.below b1
 go_enter Tryz.func138, Tryz.ntmps138
 go_upto_region 19 with fail
 rw [← hW1]
 clear hW1
 obtain ⟨q0, q1, q2, q3, q4, q5, q6, q7, q8⟩ := a1
 go_wp2_with (go_at_call 110; refine (hT _ hE1).mono ?_; rintro e W3 ⟨rfl, b3⟩)
 go_ret2
 exact ⟨rfl, b1.trans (b3.mono b1.size)⟩
end Go.Proofs.YtdlnmnipnkeabaaGreatDoor
namespace Go.Proofs.YtdlnmnipnkeabaaGreatDoor
open Go.RowKit
set_option linter.unusedVariables false
set_option linter.unusedSimpArgs false
set_option maxRecDepth 1000000 in
set_option maxHeartbeats 2000000 in
theorem shaped_float (f : Sq) (ask : Value) (ty : ByteArray) (bits size depth : Int) (T : ByteArray) (ok : Bool) (w : World) (hT : ∀ W, Calls Tryz.prog 171 #[.int .u64 bits, .int .i64 size, SV (numQ f)] W fun e w' => e = .returned (.tuple #[.string T, .bool ok]) ∧ Below W.heap.size W w') :
  Calls Tryz.prog 138 #[WV f ask, .iface 259 (.agg #[.int .u64 bits, .int .i64 size]), .string ty, .int .i64 depth] w fun e w' => e = .returned (.tuple #[.string T, .bool ok]) ∧ Below w.heap.size w w' := by
 have t0 : ∀ w, (Instr.typeAssert (.iface 259 (.agg #[.int .u64 bits, .int .i64 size])) 20 255 true).run Tryz.prog w = .ok (.tuple #[.bool false, .bool false]) w := fun w => by kernel_rfl
 have t1 : ∀ w, (Instr.typeAssert (.iface 259 (.agg #[.int .u64 bits, .int .i64 size])) 20 256 true).run Tryz.prog w = .ok (.tuple #[.int .i64 0, .bool false]) w := fun w => by kernel_rfl
 have t2 : ∀ w, (Instr.typeAssert (.iface 259 (.agg #[.int .u64 bits, .int .i64 size])) 20 257 true).run Tryz.prog w = .ok (.tuple #[.int .u64 0, .bool false]) w := fun w => by kernel_rfl
 have t3 : ∀ w, (Instr.typeAssert (.iface 259 (.agg #[.int .u64 bits, .int .i64 size])) 20 259 true).run Tryz.prog w = .ok (.tuple #[.agg #[.int .u64 bits, .int .i64 size], .bool true]) w := fun w => by kernel_rfl
 obtain ⟨W1, hW1⟩ : ∃ W1, W1 = w.alloc (.cells #[.bool f.p, .bool f.mi, .bool f.sh, .bool f.sp, .bool f.z, .int .i64 f.wid, .int .i64 f.prec, .int .i32 f.verb, ask] 200) := ⟨_, rfl⟩
 have b1 : Below w.heap.size w W1 := by rw [hW1]; exact (Below.refl _ _).alloc (Nat.le_refl _) _
 have a1 : At9 W1 w.heap.size f ask := by
  rw [hW1]
  refine ⟨?_, ?_, ?_, ?_, ?_, ?_, ?_, ?_, ?_⟩
  all_goals simp [go_sem]
 obtain ⟨W2, hW2⟩ : ∃ W2, W2 = W1.alloc (.cells #[.int .u64 bits, .int .i64 size] 259) := ⟨_, rfl⟩
 have b2 : Below W1.heap.size W1 W2 := by rw [hW2]; exact (Below.refl _ _).alloc (Nat.le_refl _) _
 have d0 : W2.cell? ⟨W1.heap.size, 0, none⟩ = some (.int .u64 bits) := by rw [hW2]; simp [go_sem]
 have d1 : W2.cell? ⟨W1.heap.size, 1, none⟩ = some (.int .i64 size) := by rw [hW2]; simp [go_sem]
 have a2 := a1.up b2
 have bw := b1.trans (b2.mono b1.size)
 have hN := fun W => forNumbers_any f ask W
 clear a1
 go_enter Tryz.func138, Tryz.ntmps138
 go_upto_region 12 with fail
 rw [← hW1]
 clear hW1
 go_upto_region 13 with fail
 rw [← hW2]
 clear hW2
 obtain ⟨q0, q1, q2, q3, q4, q5, q6, q7, q8⟩ := a2
 have e0 : ∀ x : Cl W2, x.w.cell? ⟨W1.heap.size, 0, none⟩ = some (.int .u64 bits) := fun x => x.cell d0
 have e1 : ∀ x : Cl W2, x.w.cell? ⟨W1.heap.size, 1, none⟩ = some (.int .i64 size) := fun x => x.cell d1
 have f0 : ∀ x : Cl W2, x.w.cell? ⟨w.heap.size, 0, none⟩ = some (.bool f.p) := fun x => x.cell q0
 have f1 : ∀ x : Cl W2, x.w.cell? ⟨w.heap.size, 1, none⟩ = some (.bool f.mi) := fun x => x.cell q1
 have f2 : ∀ x : Cl W2, x.w.cell? ⟨w.heap.size, 2, none⟩ = some (.bool f.sh) := fun x => x.cell q2
 have f3 : ∀ x : Cl W2, x.w.cell? ⟨w.heap.size, 3, none⟩ = some (.bool f.sp) := fun x => x.cell q3
 have f4 : ∀ x : Cl W2, x.w.cell? ⟨w.heap.size, 4, none⟩ = some (.bool f.z) := fun x => x.cell q4
 have f5 : ∀ x : Cl W2, x.w.cell? ⟨w.heap.size, 5, none⟩ = some (.int .i64 f.wid) := fun x => x.cell q5
 have f6 : ∀ x : Cl W2, x.w.cell? ⟨w.heap.size, 6, none⟩ = some (.int .i64 f.prec) := fun x => x.cell q6
 have f7 : ∀ x : Cl W2, x.w.cell? ⟨w.heap.size, 7, none⟩ = some (.int .i32 f.verb) := fun x => x.cell q7
 have f8 : ∀ x : Cl W2, x.w.cell? ⟨w.heap.size, 8, none⟩ = some ask := fun x => x.cell q8
 refine wp_region_above W2 (Below.refl _ _) (by kernel_rfl) (by kernel_rfl) ?_
 intro hCl
 repeat (go_big_quiet_step ((first | (go_at_call 169; exact Cl.call (hN _)) | (go_at_call 171; exact Cl.call (hT _)))))
 refine wpQuiet_nil ?_
 intro _ hw'
 obtain ⟨y, hx⟩ := hw'
 subst hx
 go_wp2
 go_ret2
 exact ⟨rfl, bw.trans (y.below.mono bw.size)⟩
end Go.Proofs.YtdlnmnipnkeabaaGreatDoor
namespace Go.Proofs.YtdlnmnipnkeabaaGreatDoor
open Go.RowKit
set_option linter.unusedVariables false
set_option linter.unusedSimpArgs false
set_option maxRecDepth 1000000 in
set_option maxHeartbeats 4000000 in
theorem asked_g {ok : Bool} {B : World → Prop} {P : Nat → Prop} (f : Sq) (v : Value) (g : Nat) (T : ByteArray) (w : World) (hP : ∀ k, P k → k < w.heap.size) (hB : ∀ W W', B W → Kx (fun k => w.heap.size ≤ k) W W' → B W') (hA : ∀ W, Below w.heap.size w W → Calls Tryz.prog 86 #[.pointer (some ⟨g, 0, none⟩), v, SV f] W fun e w' => e = .returned (.tuple #[.string T, .bool ok]) ∧ B w' ∧ Kx P W w') :
  Calls Tryz.prog 137 #[WV f (FA g), v] w fun e w' => e = .returned (.tuple #[.string T, .bool ok]) ∧ B w' ∧ Kx P w w' := by
 have hq : ∀ w, (binOp .eql 151 (FA g) .nilFunc).run Tryz.prog w = .ok (.bool false) w := fun w => by kernel_rfl
 have hmf : ∀ (fn : Fn) (first cap : Array Value) (w : World), (Instr.makeFunc fn first cap).run Tryz.prog w = .ok (.func fn first cap) w := fun _ _ _ _ => rfl
 obtain ⟨W1, hW1⟩ : ∃ W1, W1 = ((w.alloc (.cells #[.bool f.p, .bool f.mi, .bool f.sh, .bool f.sp, .bool f.z, .int .i64 f.wid, .int .i64 f.prec, .int .i32 f.verb, FA g] 200)).alloc (.cells #[.string ⟨#[]⟩] 9)).alloc (.cells #[.bool false] 4) := ⟨_, rfl⟩
 have b1 : Below w.heap.size w W1 := by rw [hW1]; exact (((Below.refl _ _).alloc (Nat.le_refl _) _).alloc (by simp) _).alloc (by simp; omega) _
 have a1 : At9 W1 w.heap.size f (FA g) := by
  rw [hW1]
  refine ⟨?_, ?_, ?_, ?_, ?_, ?_, ?_, ?_, ?_⟩
  all_goals simp [go_sem]
 have s1 : W1.cell? ⟨w.heap.size + 1, 0, none⟩ = some (.string ⟨#[]⟩) := by rw [hW1]; simp [go_sem]
 have s2 : W1.cell? ⟨w.heap.size + 1 + 1, 0, none⟩ = some (.bool false) := by rw [hW1]; simp [go_sem]
 have y1 : W1.frozen? ⟨w.heap.size + 1, 0, none⟩ = false := by
  rw [hW1, frozen?_alloc_cells, frozen?_alloc_cells, frozen?_alloc_cells]
  exact frozen_none _ _ (by show w.heap.size ≤ w.heap.size + 1; omega)
 have y2 : W1.frozen? ⟨w.heap.size + 1 + 1, 0, none⟩ = false := by
  rw [hW1, frozen?_alloc_cells, frozen?_alloc_cells, frozen?_alloc_cells]
  exact frozen_none _ _ (by show w.heap.size ≤ w.heap.size + 1 + 1; omega)
 have hO := hA W1 b1
 have l1 := lt_of_cell s1
 have l2 := lt_of_cell s2
 obtain ⟨q0, q1, q2, q3, q4, q5, q6, q7, q8⟩ := a1
 go_enter_defers Tryz.func137, Tryz.ntmps137
 go_upto_region 1 with fail
 rw [← hW1]
 clear hW1 hA
 go_wp2_with fail
 refine hO.mono ?_
 rintro e W2 ⟨rfl, hBB, b2⟩
 have k1 := b2.cell s1 (fun h => by have := hP _ h; dsimp only at this; omega)
 have k2 := b2.cell s2 (fun h => by have := hP _ h; dsimp only at this; omega)
 have x1 : W2.frozen? ⟨w.heap.size + 1, 0, none⟩ = false := (World.frozen?_of_block (w := W1) (a := ⟨w.heap.size + 1, 0, none⟩) (b2.block _ l1 (fun h => by have := hP _ h; dsimp only at this; omega))).trans y1
 have x2 : W2.frozen? ⟨w.heap.size + 1 + 1, 0, none⟩ = false := (World.frozen?_of_block (w := W1) (a := ⟨w.heap.size + 1 + 1, 0, none⟩) (b2.block _ l2 (fun h => by have := hP _ h; dsimp only at this; omega))).trans y2
 have bw2 : Kx P w W2 := (Kx.of_below b1).trans b2
 have k2' : ∀ u, (W2.setCell ⟨w.heap.size + 1, 0, none⟩ u).cell? ⟨w.heap.size + 1 + 1, 0, none⟩ = some (.bool false) := fun u => (World.cell?_of_block (w := W2) (Below.heap_setCell _ _ _ _ (by show w.heap.size + 1 + 1 ≠ w.heap.size + 1; omega))).trans k2
 have x2' : ∀ u, (W2.setCell ⟨w.heap.size + 1, 0, none⟩ u).frozen? ⟨w.heap.size + 1 + 1, 0, none⟩ = false := fun u => by rw [World.frozen?_setCell]; exact x2
 have e1 : ∀ u x, ((W2.setCell ⟨w.heap.size + 1, 0, none⟩ u).setCell ⟨w.heap.size + 1 + 1, 0, none⟩ x).cell? ⟨w.heap.size + 1, 0, none⟩ = some u := fun u x => (World.cell?_of_block (w := W2.setCell ⟨w.heap.size + 1, 0, none⟩ u) (Below.heap_setCell _ _ _ _ (by show w.heap.size + 1 ≠ w.heap.size + 1 + 1; omega))).trans (cs_same8 _ _ _ (by rw [k1]; rfl))
 have e2 : ∀ u x, ((W2.setCell ⟨w.heap.size + 1, 0, none⟩ u).setCell ⟨w.heap.size + 1 + 1, 0, none⟩ x).cell? ⟨w.heap.size + 1 + 1, 0, none⟩ = some x := fun u x => cs_same8 _ _ _ (by rw [k2']; rfl)
 clear hO s1 s2 y1 y2 q0 q1 q2 q3 q4 q5 q6 q7 q8 hq
 go_wp2
 refine leaves_cons (f := 166) (args := #[.pointer (some ⟨w.heap.size + 1, 0, none⟩), .pointer (some ⟨w.heap.size + 1 + 1, 0, none⟩)]) (by simp) (by simp [go_sem]) ?_
 refine (catch14_idle _ _ _).mono ?_
 rintro e u' w'' ⟨rfl, rfl, rfl⟩
 refine ⟨.tuple #[.string T, .bool ok], ?_, rfl, hB _ _ hBB (((Kx.refl _ _).setCell _ _ (Or.inl (by omega)) _).setCell _ _ (Or.inl (by omega)) _), (bw2.setCell _ _ (Or.inr (by omega)) _).setCell _ _ (Or.inr (by omega)) _⟩
 simp [results, Tryz.results137, go_sem, e1, e2]
end Go.Proofs.YtdlnmnipnkeabaaGreatDoor
namespace Go.Proofs.YtdlnmnipnkeabaaGreatDoor
open Go.RowKit
set_option linter.unusedVariables false
def nodes : D → List D
 | ⟨kind, ty, bits, imag, text, names, parts, hook⟩ => ⟨kind, ty, bits, imag, text, names, parts, hook⟩ :: (if great kind then parts.flatMap fun x => nodes x else [])
def Vals (R : Value → D → Prop) (S : Nat → Prop) (W : World) (a : Option Addr) (l : List D) : Prop :=
 ∀ (i : Nat) (y : D), l[i]? = some y → ∃ b off t u, a = some ⟨b, off, none⟩ ∧ S b ∧ W.cell? ⟨b, off + i, none⟩ = some (.iface t u) ∧ R (.iface t u) y
def StrsS (S : Nat → Prop) (W : World) (a : Option Addr) (l : List ByteArray) : Prop :=
 ∀ (i : Nat) (s : ByteArray), l[i]? = some s → ∃ b off, a = some ⟨b, off, none⟩ ∧ S b ∧ W.cell? ⟨b, off + i, none⟩ = some (.string s)
def Ents (R : Value → D → Prop) (S : Nat → Prop) (W : World) (a : Option Addr) (l : List (D × D)) : Prop :=
 ∀ (i : Nat) (p : D × D), l[i]? = some p → ∃ b off t u t' u', a = some ⟨b, off, none⟩ ∧ S b ∧ W.cell? ⟨b, off + i * 2, none⟩ = some (.iface t u) ∧ W.cell? ⟨b, off + i * 2 + 1, none⟩ = some (.iface t' u') ∧ R (.iface t u) p.1 ∧ R (.iface t' u') p.2
def VlC (sr : List D → List (D × D)) : Nat → (Nat → Prop) → World → Value → D → Prop
 | 0, _, _, _, _ => False
 | n + 1, S, W, v, d =>
   if d.kind ≤ 17 then v = mdV d
   else if d.kind = 18 then ∃ na nc fa fc, v = .iface 175 (.agg #[.int .i64 d.kind, .string d.ty, .int .i64 d.hook, .slice na d.names.length nc, .slice fa d.parts.length fc]) ∧ d.names.length ≤ nc ∧ nc ≤ maxLen ∧ d.parts.length ≤ fc ∧ fc ≤ maxLen ∧ StrsS S W na d.names ∧ Vals (VlC sr n S W) S W fa d.parts
   else if d.kind = 21 then ∃ fa fc, v = .iface 181 (.agg #[.int .i64 d.kind, .string d.ty, .int .i64 d.hook, .slice fa (sr d.parts).length fc]) ∧ (sr d.parts).length ≤ fc ∧ fc ≤ maxLen ∧ Ents (VlC sr n S W) S W fa (sr d.parts)
   else if d.kind = 22 then ∃ fa fc, v = .iface 183 (.agg #[.int .i64 d.kind, .string d.ty, .int .i64 d.hook, .int .u64 d.bits, .slice fa d.parts.length fc]) ∧ d.parts.length ≤ fc ∧ fc ≤ maxLen ∧ Vals (VlC sr n S W) S W fa d.parts
   else ∃ fa fc, v = .iface 177 (.agg #[.int .i64 d.kind, .string d.ty, .int .i64 d.hook, .slice fa d.parts.length fc]) ∧ d.parts.length ≤ fc ∧ fc ≤ maxLen ∧ Vals (VlC sr n S W) S W fa d.parts
def Kept (S S' : Nat → Prop) (W W' : World) : Prop := ∀ b, S b → b < W.heap.size → S' b ∧ ∀ o, W'.cell? ⟨b, o, none⟩ = W.cell? ⟨b, o, none⟩
theorem Kept.at {S S' : Nat → Prop} {W W' : World} (h : Kept S S' W W') {b o : Nat} {v : Value} (hs : S b) (hc : W.cell? ⟨b, o, none⟩ = some v) : S' b ∧ W'.cell? ⟨b, o, none⟩ = some v :=
 let ⟨h1, h2⟩ := h b hs (lt_of_cell hc); ⟨h1, (h2 o).trans hc⟩
theorem Vals.turn {R R' : Value → D → Prop} {S S' : Nat → Prop} {W W' : World} {a : Option Addr} {l : List D} (h : Vals R S W a l) (hk : Kept S S' W W') (hR : ∀ v y, R v y → R' v y) : Vals R' S' W' a l := by
 intro i y hy
 obtain ⟨b, off, t, u, h1, h2, h3, h4⟩ := h i y hy
 obtain ⟨k1, k2⟩ := hk.at h2 h3
 exact ⟨b, off, t, u, h1, k1, k2, hR _ _ h4⟩
theorem Ents.turn {R R' : Value → D → Prop} {S S' : Nat → Prop} {W W' : World} {a : Option Addr} {l : List (D × D)} (h : Ents R S W a l) (hk : Kept S S' W W') (hR : ∀ v y, R v y → R' v y) : Ents R' S' W' a l := by
 intro i y hy
 obtain ⟨b, off, t, u, t', u', h1, h2, h3, h4, h5, h6⟩ := h i y hy
 obtain ⟨k1, k2⟩ := hk.at h2 h3
 exact ⟨b, off, t, u, t', u', h1, k1, k2, (hk.at h2 h4).2, hR _ _ h5, hR _ _ h6⟩
theorem StrsS.turn {S S' : Nat → Prop} {W W' : World} {a : Option Addr} {l : List ByteArray} (h : StrsS S W a l) (hk : Kept S S' W W') : StrsS S' W' a l := by
 intro i y hy
 obtain ⟨b, off, h1, h2, h3⟩ := h i y hy
 obtain ⟨k1, k2⟩ := hk.at h2 h3
 exact ⟨b, off, h1, k1, k2⟩
theorem VlC.turn {sr : List D → List (D × D)} {S S' : Nat → Prop} {W W' : World} (hk : Kept S S' W W') : ∀ {n : Nat} {v : Value} {d : D}, VlC sr n S W v d → VlC sr n S' W' v d
 | 0, _, _, h => h
 | n + 1, v, d, h => by
   unfold VlC at h ⊢
   split at h
   ·rw [if_pos (by assumption)]; exact h
   rw [if_neg (by assumption)]
   split at h
   ·rw [if_pos (by assumption)]
    obtain ⟨na, nc, fa, fc, h1, h2, h3, h4, h5, h6, h7⟩ := h
    exact ⟨na, nc, fa, fc, h1, h2, h3, h4, h5, h6.turn hk, h7.turn hk fun v y => VlC.turn hk⟩
   rw [if_neg (by assumption)]
   split at h
   ·rw [if_pos (by assumption)]
    obtain ⟨fa, fc, h1, h4, h5, h7⟩ := h
    exact ⟨fa, fc, h1, h4, h5, h7.turn hk fun v y => VlC.turn hk⟩
   rw [if_neg (by assumption)]
   split at h
   ·rw [if_pos (by assumption)]
    obtain ⟨fa, fc, h1, h4, h5, h7⟩ := h
    exact ⟨fa, fc, h1, h4, h5, h7.turn hk fun v y => VlC.turn hk⟩
   rw [if_neg (by assumption)]
   obtain ⟨fa, fc, h1, h4, h5, h7⟩ := h
   exact ⟨fa, fc, h1, h4, h5, h7.turn hk fun v y => VlC.turn hk⟩
theorem Kept.below {S S' : Nat → Prop} {W W' : World} (h : Below W.heap.size W W') (hS : ∀ b, S b → b < W.heap.size → S' b) : Kept S S' W W' := fun b hb hl => ⟨hS b hb hl, fun o => h.cell hl⟩
theorem own_ge8 {w : World} {B : Nat} {e : TypeId} {ao : Option Addr} {n c : Nat} {us : List Value} (h : w.ownsRow B e 1 (.slice ao n c) n us) : ∀ k, Value.ownBlock (.slice ao n c) = some k → B ≤ k := by
 intro k hk
 rcases h.2 with ⟨h1, -⟩ | ⟨g, cap, cur, h1, hB, -⟩
 ·cases h1; cases hk
 ·cases h1
  have : g = k := Option.some.inj hk
  omega
theorem own_lt8 {w : World} {B : Nat} {e : TypeId} {ao : Option Addr} {n c : Nat} {us : List Value} (h : w.ownsRow B e 1 (.slice ao n c) n us) : ∀ k, Value.ownBlock (.slice ao n c) = some k → k < w.heap.size := by
 intro k hk
 rcases h.2 with ⟨h1, -⟩ | ⟨g, cap, cur, h1, hB, hg, -⟩
 ·cases h1; cases hk
 ·cases h1
  have : g = k := Option.some.inj hk
  have := (Array.getElem?_eq_some_iff.1 hg).1
  omega
theorem own_up8 {w w' : World} {B : Nat} {e : TypeId} {v : Value} {n : Nat} {us : List Value} (h : w.ownsRow B e 1 v n us) (b : Below w.heap.size w w') : w'.ownsRow B e 1 v n us := by
 refine ⟨h.1, ?_⟩
 rcases h.2 with h1 | ⟨g, cap, cur, h1, hB, hg, k⟩
 ·exact .inl h1
 ·exact .inr ⟨g, cap, cur, h1, hB, (b.block g (Array.getElem?_eq_some_iff.1 hg).1).trans hg, k⟩
theorem own_slice8 {w : World} {B : Nat} {e : TypeId} {v : Value} {n : Nat} {us : List Value} (h : w.ownsRow B e 1 v n us) : ∃ ao c, v = .slice ao n c ∧ n ≤ c ∧ c ≤ maxLen := by
 rcases h.2 with ⟨h1, rfl⟩ | ⟨g, cap, cur, h1, hB, hg, k1, k2, -⟩
 ·exact ⟨none, 0, h1, Nat.le_refl _, Nat.zero_le _⟩
 ·exact ⟨_, cap, h1, k1, k2⟩
end Go.Proofs.YtdlnmnipnkeabaaGreatDoor
