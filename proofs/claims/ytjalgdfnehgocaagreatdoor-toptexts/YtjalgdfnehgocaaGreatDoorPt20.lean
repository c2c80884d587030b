/- UVal, UValB, YComm: these texts in one. -/
import Derived.Test.YtjalgdfnehgocaaGreatDoorPt10
import Derived.Test.YtjalgdfnehgocaaGreatDoorPt1
import Derived.Test.YtjalgdfnehgocaaGreatDoorChecked
import Derived.WalkKit
import Derived.WalkSpells
import Derived.Conc.LoneSelect
namespace Go.Proofs.YtjalgdfnehgocaaGreatDoor
open Go.RowKit
set_option linter.unusedVariables false
set_option linter.unusedSimpArgs false
structure Flat (v : Value) (x0 x1 x2 x3 x4 x7 : Value) (k : Nat) (h : Int) (st : TypeId) (sx : Value) : Prop where
 vo : ∀ W, Calls Tryz.prog 95 #[.agg #[x0, x1, x2, x3, x4, .slice none 0 0, .slice none 0 0, x7]] W fun e w' => e = .returned v ∧ Below W.heap.size W w'
 mr : MkC v k ⟨#[]⟩ h
 sh : ∀ W, Calls Tryz.prog 175 #[v] W fun e w' => e = .returned (.iface st sx) ∧ Below W.heap.size W w'
theorem shown_flat {v x0 x1 x2 x3 x4 x7 : Value} {k : Nat} {st : TypeId} {sx : Value} (hF : Flat v x0 x1 x2 x3 x4 x7 k 0 st sx) (ty : ByteArray) (hty : kindN[k]? = some ty) (f : Sq) (hv : ¬ f.verb = 84) (T : ByteArray) {w : World} {g C M : Nat} {l : List UInt8} {m dp : Int} {av : Value} {nx : Int} (he : Env w g C M l m dp av nx)
  (hSh : ∀ W, Esc W → Calls Tryz.prog 178 #[WV f (FA g), .iface st sx, .string ty, .int .i64 0] W fun e W' => e = .returned (.tuple #[.string T, .bool true]) ∧ Below W.heap.size W W') :
  Calls Tryz.prog 110 #[.pointer (some ⟨g, 0, none⟩), v, SV f] w fun e w' => e = .returned (.string T) ∧ Below w.heap.size w w' :=
 shown_of f hv v g T w fun W hW => written_by f (FA g) v 0 W ty T (fun t x V => t = st ∧ x = sx ∧ Below W.heap.size W V) (fun V hV => asked_no f _ g V fun V2 hV2 => ask_0 g C M l dp m av nx _ k ⟨#[]⟩ f V2 ((((he.up hW).up hV).up hV2)).p ((((he.up hW).up hV).up hV2)).c he.n hF.mr)
  (fun V hV => (hF.sh V).mono fun e V' ⟨h1, h2⟩ => ⟨h2, _, _, h1, rfl, rfl, hV.trans (h2.mono hV.size)⟩) (fun V hV => type_own _ k 0 V _ hty ((he.up hW).up hV).k hF.mr) (fun t x W1 W2 ⟨h1, h2, b1⟩ b2 => by subst h1 h2; exact hSh W2 (((he.up hW).up b1).up b2).e)
set_option maxRecDepth 1000000 in
theorem shape_raw (v : Value) (k b i h : Int) (s : ByteArray) (st : TypeId) (sx : Value) (hk : (k = 13 ∧ st = 283 ∧ sx = .agg #[.int .u64 b, .int .i64 64]) ∨ (k = 12 ∧ st = 283 ∧ sx = .agg #[.int .u64 b, .int .i64 32]) ∨ (k = 16 ∧ st = 286 ∧ sx = .string s) ∨ (k = 17 ∧ st = 287 ∧ sx = .string s) ∨ (7 ≤ k ∧ k ≤ 11 ∧ st = 281 ∧ sx = .int .u64 b) ∨ (k = 1 ∧ st = 279 ∧ sx = .bool (decide (b = 1))))
  (hb : 0 ≤ b ∧ b ≤ 18446744073709551615) (hR : ∀ W, Calls Tryz.prog 185 #[v] W fun e w' => e = .returned (.agg #[.int .i64 k, .string ⟨#[]⟩, .int .u64 b, .int .u64 i, .string s, .slice none 0 0, .slice none 0 0, .int .i64 h]) ∧ Below W.heap.size W w') (w : World) :
  Calls Tryz.prog 175 #[v] w fun e w' => e = .returned (.iface st sx) ∧ Below w.heap.size w w' := by
 have hR := hR w
 obtain ⟨hb0, hb1⟩ := hb
 rcases hk with ⟨rfl, rfl, rfl⟩ | ⟨rfl, rfl, rfl⟩ | ⟨rfl, rfl, rfl⟩ | ⟨rfl, rfl, rfl⟩ | ⟨h7, h11, rfl, rfl⟩ | ⟨rfl, rfl, rfl⟩
 ·go_enter Tryz.func175, Tryz.ntmps175
  go_wp2_with (go_at_call 185; refine hR.mono ?_; rintro e W2 ⟨rfl, b2⟩)
  go_ret
  exact ⟨rfl, b2.alloc b2.size _⟩
 ·go_enter Tryz.func175, Tryz.ntmps175
  go_wp2_with (go_at_call 185; refine hR.mono ?_; rintro e W2 ⟨rfl, b2⟩)
  go_ret
  exact ⟨rfl, b2.alloc b2.size _⟩
 ·go_enter Tryz.func175, Tryz.ntmps175
  go_wp2_with (go_at_call 185; refine hR.mono ?_; rintro e W2 ⟨rfl, b2⟩)
  go_ret
  exact ⟨rfl, b2.alloc b2.size _⟩
 ·go_enter Tryz.func175, Tryz.ntmps175
  go_wp2_with (go_at_call 185; refine hR.mono ?_; rintro e W2 ⟨rfl, b2⟩)
  go_ret
  exact ⟨rfl, b2.alloc b2.size _⟩
 ·have hk5 : k = 7 ∨ k = 8 ∨ k = 9 ∨ k = 10 ∨ k = 11 := by omega
  rcases hk5 with rfl | rfl | rfl | rfl | rfl
  all_goals
   go_enter Tryz.func175, Tryz.ntmps175
   go_wp2_with (go_at_call 185; refine hR.mono ?_; rintro e W2 ⟨rfl, b2⟩)
   go_ret
   exact ⟨rfl, b2.alloc b2.size _⟩
 ·by_cases h1 : b = 1
  ·subst h1
   go_enter Tryz.func175, Tryz.ntmps175
   go_wp2_with (go_at_call 185; refine hR.mono ?_; rintro e W2 ⟨rfl, b2⟩)
   go_ret
   exact ⟨rfl, b2.alloc b2.size _⟩
  ·have hbq : (b == 1) = false := by simpa using h1
   rw [decide_eq_false h1]
   go_enter Tryz.func175, Tryz.ntmps175
   go_wp2_with (go_at_call 185; refine hR.mono ?_; rintro e W2 ⟨rfl, b2⟩)
   go_ret
   exact ⟨rfl, b2.alloc b2.size _⟩
theorem shaped_text (f : Sq) (ask : Value) (ty s : ByteArray) (depth : Int) (T : ByteArray) (ok : Bool) (w : World) (hE : Esc w) (hT : ∀ W, Esc W → Calls Tryz.prog 151 #[.string s, SV f] W fun e w' => e = .returned (.tuple #[.string T, .bool ok]) ∧ Below W.heap.size W w') :
  Calls Tryz.prog 178 #[WV f ask, .iface 286 (.string s), .string ty, .int .i64 depth] w fun e w' => e = .returned (.tuple #[.string T, .bool ok]) ∧ Below w.heap.size w w' := by
 obtain ⟨p, mi, sh, sp, z, wid, prec, verb⟩ := f
 have t0 : ∀ w, (Instr.typeAssert (.iface 286 (.string s)) 20 279 true).run Tryz.prog w = .ok (.tuple #[.bool false, .bool false]) w := fun w => by kernel_rfl
 have t1 : ∀ w, (Instr.typeAssert (.iface 286 (.string s)) 20 280 true).run Tryz.prog w = .ok (.tuple #[.int .i64 0, .bool false]) w := fun w => by kernel_rfl
 have t2 : ∀ w, (Instr.typeAssert (.iface 286 (.string s)) 20 281 true).run Tryz.prog w = .ok (.tuple #[.int .u64 0, .bool false]) w := fun w => by kernel_rfl
 have t3 : ∀ w, (Instr.typeAssert (.iface 286 (.string s)) 20 283 true).run Tryz.prog w = .ok (.tuple #[.agg #[.int .u64 0, .int .i64 0], .bool false]) w := fun w => by kernel_rfl
 have t4 : ∀ w, (Instr.typeAssert (.iface 286 (.string s)) 20 285 true).run Tryz.prog w = .ok (.tuple #[.agg #[.int .u64 0, .int .u64 0, .int .i64 0], .bool false]) w := fun w => by kernel_rfl
 have t5 : ∀ w, (Instr.typeAssert (.iface 286 (.string s)) 20 286 true).run Tryz.prog w = .ok (.tuple #[.string s, .bool true]) w := fun w => by kernel_rfl
 obtain ⟨W1, hW1⟩ : ∃ W1, W1 = w.alloc (.cells #[.bool p, .bool mi, .bool sh, .bool sp, .bool z, .int .i64 wid, .int .i64 prec, .int .i32 verb, ask] 232) := ⟨_, rfl⟩
 have b1 : Below w.heap.size w W1 := by rw [hW1]; exact (Below.refl _ _).alloc (Nat.le_refl _) _
 have a1 : At9 W1 w.heap.size ⟨p, mi, sh, sp, z, wid, prec, verb⟩ ask := by
  rw [hW1]
  refine ⟨?_, ?_, ?_, ?_, ?_, ?_, ?_, ?_, ?_⟩
  all_goals simp [go_sem]
 have hE1 := hE.below b1
 go_enter Tryz.func178, Tryz.ntmps178
 go_upto_region 19 with fail
 rw [← hW1]
 clear hW1
 obtain ⟨q0, q1, q2, q3, q4, q5, q6, q7, q8⟩ := a1
 go_wp2_with (go_at_call 151; refine (hT _ hE1).mono ?_; rintro e W3 ⟨rfl, b3⟩)
 go_ret2
 exact ⟨rfl, b1.trans (b3.mono b1.size)⟩
end Go.Proofs.YtjalgdfnehgocaaGreatDoor
namespace Go.Proofs.YtjalgdfnehgocaaGreatDoor
open Go.RowKit
set_option linter.unusedVariables false
set_option linter.unusedSimpArgs false
set_option maxRecDepth 1000000 in
set_option maxHeartbeats 2000000 in
theorem shaped_float (f : Sq) (ask : Value) (ty : ByteArray) (bits size depth : Int) (T : ByteArray) (ok : Bool) (w : World) (hT : ∀ W, Calls Tryz.prog 207 #[.int .u64 bits, .int .i64 size, SV (numQ f)] W fun e w' => e = .returned (.tuple #[.string T, .bool ok]) ∧ Below W.heap.size W w') :
  Calls Tryz.prog 178 #[WV f ask, .iface 283 (.agg #[.int .u64 bits, .int .i64 size]), .string ty, .int .i64 depth] w fun e w' => e = .returned (.tuple #[.string T, .bool ok]) ∧ Below w.heap.size w w' := by
 have t0 : ∀ w, (Instr.typeAssert (.iface 283 (.agg #[.int .u64 bits, .int .i64 size])) 20 279 true).run Tryz.prog w = .ok (.tuple #[.bool false, .bool false]) w := fun w => by kernel_rfl
 have t1 : ∀ w, (Instr.typeAssert (.iface 283 (.agg #[.int .u64 bits, .int .i64 size])) 20 280 true).run Tryz.prog w = .ok (.tuple #[.int .i64 0, .bool false]) w := fun w => by kernel_rfl
 have t2 : ∀ w, (Instr.typeAssert (.iface 283 (.agg #[.int .u64 bits, .int .i64 size])) 20 281 true).run Tryz.prog w = .ok (.tuple #[.int .u64 0, .bool false]) w := fun w => by kernel_rfl
 have t3 : ∀ w, (Instr.typeAssert (.iface 283 (.agg #[.int .u64 bits, .int .i64 size])) 20 283 true).run Tryz.prog w = .ok (.tuple #[.agg #[.int .u64 bits, .int .i64 size], .bool true]) w := fun w => by kernel_rfl
 obtain ⟨W1, hW1⟩ : ∃ W1, W1 = w.alloc (.cells #[.bool f.p, .bool f.mi, .bool f.sh, .bool f.sp, .bool f.z, .int .i64 f.wid, .int .i64 f.prec, .int .i32 f.verb, ask] 232) := ⟨_, rfl⟩
 have b1 : Below w.heap.size w W1 := by rw [hW1]; exact (Below.refl _ _).alloc (Nat.le_refl _) _
 have a1 : At9 W1 w.heap.size f ask := by
  rw [hW1]
  refine ⟨?_, ?_, ?_, ?_, ?_, ?_, ?_, ?_, ?_⟩
  all_goals simp [go_sem]
 obtain ⟨W2, hW2⟩ : ∃ W2, W2 = W1.alloc (.cells #[.int .u64 bits, .int .i64 size] 283) := ⟨_, rfl⟩
 have b2 : Below W1.heap.size W1 W2 := by rw [hW2]; exact (Below.refl _ _).alloc (Nat.le_refl _) _
 have d0 : W2.cell? ⟨W1.heap.size, 0, none⟩ = some (.int .u64 bits) := by rw [hW2]; simp [go_sem]
 have d1 : W2.cell? ⟨W1.heap.size, 1, none⟩ = some (.int .i64 size) := by rw [hW2]; simp [go_sem]
 have a2 := a1.up b2
 have bw := b1.trans (b2.mono b1.size)
 have hN := fun W => forNumbers_any f ask W
 clear a1
 go_enter Tryz.func178, Tryz.ntmps178
 go_upto_region 12 with fail
 rw [← hW1]
 clear hW1
 go_upto_region 13 with fail
 rw [← hW2]
 clear hW2
 obtain ⟨q0, q1, q2, q3, q4, q5, q6, q7, q8⟩ := a2
 have e0 : ∀ x : Cl W2, x.w.cell? ⟨W1.heap.size, 0, none⟩ = some (.int .u64 bits) := fun x => x.cell d0
 have e1 : ∀ x : Cl W2, x.w.cell? ⟨W1.heap.size, 1, none⟩ = some (.int .i64 size) := fun x => x.cell d1
 have f0 : ∀ x : Cl W2, x.w.cell? ⟨w.heap.size, 0, none⟩ = some (.bool f.p) := fun x => x.cell q0
 have f1 : ∀ x : Cl W2, x.w.cell? ⟨w.heap.size, 1, none⟩ = some (.bool f.mi) := fun x => x.cell q1
 have f2 : ∀ x : Cl W2, x.w.cell? ⟨w.heap.size, 2, none⟩ = some (.bool f.sh) := fun x => x.cell q2
 have f3 : ∀ x : Cl W2, x.w.cell? ⟨w.heap.size, 3, none⟩ = some (.bool f.sp) := fun x => x.cell q3
 have f4 : ∀ x : Cl W2, x.w.cell? ⟨w.heap.size, 4, none⟩ = some (.bool f.z) := fun x => x.cell q4
 have f5 : ∀ x : Cl W2, x.w.cell? ⟨w.heap.size, 5, none⟩ = some (.int .i64 f.wid) := fun x => x.cell q5
 have f6 : ∀ x : Cl W2, x.w.cell? ⟨w.heap.size, 6, none⟩ = some (.int .i64 f.prec) := fun x => x.cell q6
 have f7 : ∀ x : Cl W2, x.w.cell? ⟨w.heap.size, 7, none⟩ = some (.int .i32 f.verb) := fun x => x.cell q7
 have f8 : ∀ x : Cl W2, x.w.cell? ⟨w.heap.size, 8, none⟩ = some ask := fun x => x.cell q8
 refine wp_region_above W2 (Below.refl _ _) (by kernel_rfl) (by kernel_rfl) ?_
 intro hCl
 repeat (go_big_quiet_step ((first | (go_at_call 205; exact Cl.call (hN _)) | (go_at_call 207; exact Cl.call (hT _)))))
 refine wpQuiet_nil ?_
 intro _ hw'
 obtain ⟨y, hx⟩ := hw'
 subst hx
 go_wp2
 go_ret2
 exact ⟨rfl, bw.trans (y.below.mono bw.size)⟩
theorem shaped_octets (f : Sq) (hv : f.verb = 120) (ask : Value) (ty s : ByteArray) (depth : Int) (T : ByteArray) (w : World) (hE : Esc w) (hT : ∀ W, Esc W → Calls Tryz.prog 151 #[.string s, SV f] W fun e w' => e = .returned (.tuple #[.string T, .bool true]) ∧ Below W.heap.size W w') :
  Calls Tryz.prog 178 #[WV f ask, .iface 287 (.string s), .string ty, .int .i64 depth] w fun e w' => e = .returned (.tuple #[.string T, .bool true]) ∧ Below w.heap.size w w' := by
 obtain ⟨p, mi, sh, sp, z, wid, prec, verb⟩ := f
 dsimp only at hv
 subst hv
 have t0 : ∀ w, (Instr.typeAssert (.iface 287 (.string s)) 20 279 true).run Tryz.prog w = .ok (.tuple #[.bool false, .bool false]) w := fun w => by kernel_rfl
 have t1 : ∀ w, (Instr.typeAssert (.iface 287 (.string s)) 20 280 true).run Tryz.prog w = .ok (.tuple #[.int .i64 0, .bool false]) w := fun w => by kernel_rfl
 have t2 : ∀ w, (Instr.typeAssert (.iface 287 (.string s)) 20 281 true).run Tryz.prog w = .ok (.tuple #[.int .u64 0, .bool false]) w := fun w => by kernel_rfl
 have t3 : ∀ w, (Instr.typeAssert (.iface 287 (.string s)) 20 283 true).run Tryz.prog w = .ok (.tuple #[.agg #[.int .u64 0, .int .i64 0], .bool false]) w := fun w => by kernel_rfl
 have t4 : ∀ w, (Instr.typeAssert (.iface 287 (.string s)) 20 285 true).run Tryz.prog w = .ok (.tuple #[.agg #[.int .u64 0, .int .u64 0, .int .i64 0], .bool false]) w := fun w => by kernel_rfl
 have t5 : ∀ w, (Instr.typeAssert (.iface 287 (.string s)) 20 286 true).run Tryz.prog w = .ok (.tuple #[.string ⟨#[]⟩, .bool false]) w := fun w => by kernel_rfl
 have t6 : ∀ w, (Instr.typeAssert (.iface 287 (.string s)) 20 287 true).run Tryz.prog w = .ok (.tuple #[.string s, .bool true]) w := fun w => by kernel_rfl
 obtain ⟨W1, hW1⟩ : ∃ W1, W1 = w.alloc (.cells #[.bool p, .bool mi, .bool sh, .bool sp, .bool z, .int .i64 wid, .int .i64 prec, .int .i32 120, ask] 232) := ⟨_, rfl⟩
 have b1 : Below w.heap.size w W1 := by rw [hW1]; exact (Below.refl _ _).alloc (Nat.le_refl _) _
 have a1 : At9 W1 w.heap.size ⟨p, mi, sh, sp, z, wid, prec, 120⟩ ask := by
  rw [hW1]
  refine ⟨?_, ?_, ?_, ?_, ?_, ?_, ?_, ?_, ?_⟩
  all_goals simp [go_sem]
 have hE1 := hE.below b1
 have hO : ∀ W, Esc W → Calls Tryz.prog 209 #[WV ⟨p, mi, sh, sp, z, wid, prec, 120⟩ ask, .string s, .string ty] W fun e w' => e = .returned (.tuple #[.string T, .bool true]) ∧ Below W.heap.size W w' := by
  intro w hE
  clear a1 b1 hE1
  obtain ⟨W1, hW1⟩ : ∃ W1, W1 = w.alloc (.cells #[.bool p, .bool mi, .bool sh, .bool sp, .bool z, .int .i64 wid, .int .i64 prec, .int .i32 120, ask] 232) := ⟨_, rfl⟩
  have b1 : Below w.heap.size w W1 := by rw [hW1]; exact (Below.refl _ _).alloc (Nat.le_refl _) _
  have a1 : At9 W1 w.heap.size ⟨p, mi, sh, sp, z, wid, prec, 120⟩ ask := by
   rw [hW1]
   refine ⟨?_, ?_, ?_, ?_, ?_, ?_, ?_, ?_, ?_⟩
   all_goals simp [go_sem]
  have hE1 := hE.below b1
  go_enter Tryz.func209, Tryz.ntmps209
  go_upto_region 1 with fail
  rw [← hW1]
  clear hW1
  obtain ⟨q0, q1, q2, q3, q4, q5, q6, q7, q8⟩ := a1
  go_wp2_with (go_at_call 151; refine (hT _ hE1).mono ?_; rintro e W3 ⟨rfl, b3⟩)
  go_ret2
  exact ⟨rfl, b1.trans (b3.mono b1.size)⟩
 go_enter Tryz.func178, Tryz.ntmps178
 go_upto_region 22 with fail
 rw [← hW1]
 clear hW1
 obtain ⟨q0, q1, q2, q3, q4, q5, q6, q7, q8⟩ := a1
 go_wp2_with (go_at_call 209; refine (hO _ hE1).mono ?_; rintro e W3 ⟨rfl, b3⟩)
 go_ret2
 exact ⟨rfl, b1.trans (b3.mono b1.size)⟩
end Go.Proofs.YtjalgdfnehgocaaGreatDoor
namespace Go.Proofs.YtjalgdfnehgocaaGreatDoor
open Go.RowKit Go.Conc
set_option linter.unusedVariables false
def CN (P : Program) (c : Code) (Q : Exit → Act → World → Prop) (a : Act) (w : World) : Prop :=
 ∀ (b : Frame) (k : List Item) (cs : List Frame), b.kind ≠ .early → ∃ e a' w', Q e a' w' ∧ Arrives P (lone (b.at a (.code c :: k)) cs w) b k cs e a' w'
theorem CN.of_wp {P : Program} {c : Code} {Q : Exit → Act → World → Prop} {a : Act} {w : World} (h : c.wp P Q a w) : CN P c Q a w := fun b k cs _ => h b k cs
theorem CN.seq {P : Program} {x y : Code} {Q : Exit → Act → World → Prop} {a : Act} {w : World} (h : CN P x (Exit.then (CN P y Q) Q) a w) : CN P (.seq x y) Q a w := by
 intro b k cs hb
 obtain ⟨e, a', w', hq, hr⟩ := h b (.code y :: k) cs hb
 have hs : Steps P (lone (b.at a (.code (.seq x y) :: k)) cs w) (lone (b.at a (.code x :: .code y :: k)) cs w) := .one step_seq
 cases e with
 | normal =>
   obtain ⟨e2, a2, w2, hq2, hr2⟩ := hq b k cs hb
   exact ⟨e2, a2, w2, hq2, .of_steps (hs.trans hr) hr2⟩
 | exit id => exact ⟨_, a', w', hq, .of_steps hs (Arrives.pass rfl (fun _ _ => .inl (by simp)) hr)⟩
 | goto l => exact (by
   refine ⟨.goto l, a', w', hq, fun k' hk => ?_⟩
   by_cases hg : gotoIn l (Item.code y :: k) = some k'
   ·exact hs.trans (hr k' hg)
   ·exact absurd (by simpa [gotoIn] using hk) hg)
 | ret => exact ⟨_, a', w', hq, .of_steps hs hr⟩
 | panic chain => exact ⟨_, a', w', hq, .of_steps hs hr⟩
 | outgrown => exact ⟨_, a', w', hq, .of_steps hs hr⟩
theorem calls_of_CN {P : Program} {f : FuncId} {fn : Func} {c : Code} {args : Array Value} {w : World} {R : Ending → World → Prop} (hf : P.funcs[f]? = some fn) (hb : fn.body = some c)
  (h : CN P c (bodyPost P fn R) { tmps := args ++ Array.replicate (fn.ntmps - args.size) undef, defers := [] } w) : Calls P f args w R := by
 intro cs
 obtain ⟨e, a', w', hq, harr⟩ := h { (default : Frame) with fn := f, kind := .normal } [] cs (by simp)
 have henter : Frame.enter P f args .normal = Frame.at { (default : Frame) with fn := f, kind := .normal } { tmps := args ++ Array.replicate (fn.ntmps - args.size) undef, defers := [] } [.code c] := by
  simp [Frame.enter, Frame.at, hf, hb]
 rw [← henter] at harr
 cases e with
 | normal =>
   obtain ⟨hd, v, hr, hR⟩ := hq
   exact ⟨.returned v, w', _, hR, Steps.trans harr (.one step_end), rfl, rfl, hd, rfl, fn, hf, hr⟩
 | ret =>
   obtain ⟨hd, v, hr, hR⟩ := hq
   obtain ⟨todo, hs⟩ := harr
   exact ⟨.returned v, w', _, hR, hs, rfl, rfl, hd, rfl, fn, hf, hr⟩
 | panic chain =>
   obtain ⟨hd, hR⟩ := hq
   obtain ⟨todo, hs⟩ := harr
   exact ⟨.panicked chain, w', _, hR, hs, rfl, rfl, hd, fn, hf⟩
 | exit id => exact hq.elim
 | goto l => exact hq.elim
 | outgrown => exact ⟨.outgrown, w', { (default : Frame) with fn := f, kind := .normal }, hq, harr.resolve_left (by simp), rfl, trivial⟩
theorem CN.region {P : Program} {id : Nat} {o : Oper} {rest : List Oper} {Q : Exit → Act → World → Prop} {a a1 : Act} {w w1 : World}
  (hstep : ∀ (b : Frame) (k : List Item) (cs : List Frame) (is : List Nat), b.kind ≠ .early →
   step P (lone (b.at a (.inRegion (o :: rest).toArray (0 :: is) :: k)) cs w) = .next (lone (b.at a1 (.inRegion (o :: rest).toArray is :: k)) cs w1))
  (h : wpList P (o :: rest).toArray Q rest a1 w1) : CN P (.region id (o :: rest).toArray false) Q a w := by
 intro b k cs hb
 have h' : wpOps P (o :: rest).toArray Q (List.range' 1 rest.length) a1 w1 := by
  rw [wpOps_eq_wpList rest 1 (fun j => by rw [Nat.add_comm]; simp)]
  exact h
 obtain ⟨e, a', w', hq, hr⟩ := wp_ops _ a1 w1 h' b k cs
 refine ⟨e, a', w', hq, .of_steps (.one step_region) ?_⟩
 have hrange : List.range (o :: rest).toArray.size = 0 :: List.range' 1 rest.length := by
  simp [List.range_eq_range', List.range'_succ]
 rw [hrange]
 exact .of_steps (.one (hstep b k cs _ hb)) hr
section
variable {P : Program} {id : Nat} {o : Oper} {rest : List Oper} {Q : Exit → Act → World → Prop} {a : Act} {w : World} {c cap s r : Nat} {buf : Array Value} {z v : Value}
theorem CN.recv_none (hgd : o.guard = none) (hr : (execOp a.eval o).run P w = .ok (.comm #[rcase c z] false .select) w) (hc : w.heap[c]? = some (.chan cap #[] false s r false))
  (h : wpList P (o :: rest).toArray Q rest (a.put o.dst (.tuple #[goInt (-1), .bool false, z])) w) : CN P (.region id (o :: rest).toArray false) Q a w := by
 refine CN.region (fun b k cs is hk => ?_) h
 have hs := step_lone_select_default (stepG_comm (P := P) (main := true) (b := b) (a := a) (k := k) (cs := cs) (w := w) (ops := (o :: rest).toArray) (i := 0) (rest := is) (o := o) rfl (by simp [Region.wanted, hgd]) hk hr) hc
 rw [Frame.finish_at] at hs
 exact hs
theorem CN.send_room (hgd : o.guard = none) (hr : (execOp a.eval o).run P w = .ok (.comm #[scase c v z] false .select) w) (hc : w.heap[c]? = some (.chan cap buf false s r false)) (hb : buf.size < cap)
  (h : wpList P (o :: rest).toArray Q rest (a.put o.dst (.tuple #[goInt 0, .bool false])) (w.setChan c cap (buf.push v) false (s + 1) r false)) : CN P (.region id (o :: rest).toArray false) Q a w := by
 refine CN.region (fun b k cs is hk => ?_) h
 have hs := step_lone_select_send_room (stepG_comm (P := P) (main := true) (b := b) (a := a) (k := k) (cs := cs) (w := w) (ops := (o :: rest).toArray) (i := 0) (rest := is) (o := o) rfl (by simp [Region.wanted, hgd]) hk hr) hc hb
 rw [Frame.finish_at] at hs
 exact hs
end
end Go.Proofs.YtjalgdfnehgocaaGreatDoor
