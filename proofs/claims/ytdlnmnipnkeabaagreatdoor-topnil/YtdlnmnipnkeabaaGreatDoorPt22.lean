/- UVal, UValB, YComm, TFree: these texts in one. -/
import Derived.Test.YtdlnmnipnkeabaaGreatDoorPt11
import Derived.Test.YtdlnmnipnkeabaaGreatDoorPt1
import Derived.Test.YtdlnmnipnkeabaaGreatDoorChecked
import Derived.WalkKit
import Derived.WalkSpells
import Derived.Conc.LoneSelect
import Derived.Test.YtdlnmnipnkeabaaGreatDoorPt17
import Derived.Defers
import Derived.Recover
import Derived.Conc.LoneSelectN
namespace Go.Proofs.YtdlnmnipnkeabaaGreatDoor
open Go.RowKit
set_option linter.unusedVariables false
set_option linter.unusedSimpArgs false
structure Flat (v : Value) (x0 x1 x2 x3 x4 x7 : Value) (k : Nat) (h : Int) (st : TypeId) (sx : Value) : Prop where
 vo : ∀ W, Calls Tryz.prog 53 #[.agg #[x0, x1, x2, x3, x4, .slice none 0 0, .slice none 0 0, x7]] W fun e w' => e = .returned v ∧ Below W.heap.size W w'
 mr : MkC v k ⟨#[]⟩ h
 sh : ∀ W, Calls Tryz.prog 135 #[v] W fun e w' => e = .returned (.iface st sx) ∧ Below W.heap.size W w'
theorem shown_flat {v x0 x1 x2 x3 x4 x7 : Value} {k : Nat} {st : TypeId} {sx : Value} (hF : Flat v x0 x1 x2 x3 x4 x7 k 0 st sx) (ty : ByteArray) (hty : kindN[k]? = some ty) (f : Sq) (hv : ¬ f.verb = 84) (T : ByteArray) {w : World} {g C M : Nat} {l : List UInt8} {m dp : Int} {av : Value} {nx : Int} (he : Env w g C M l m dp av nx)
  (hSh : ∀ W, Esc W → Calls Tryz.prog 138 #[WV f (FA g), .iface st sx, .string ty, .int .i64 0] W fun e W' => e = .returned (.tuple #[.string T, .bool true]) ∧ Below W.heap.size W W') :
  Calls Tryz.prog 69 #[.pointer (some ⟨g, 0, none⟩), v, SV f] w fun e w' => e = .returned (.string T) ∧ Below w.heap.size w w' :=
 shown_of f hv v g T w fun W hW => written_by f (FA g) v 0 W ty T (fun t x V => t = st ∧ x = sx ∧ Below W.heap.size W V) (fun V hV => asked_no f _ g V fun V2 hV2 => ask_0 g C M l dp m av nx _ k ⟨#[]⟩ f V2 ((((he.up hW).up hV).up hV2)).p ((((he.up hW).up hV).up hV2)).c he.n hF.mr)
  (fun V hV => (hF.sh V).mono fun e V' ⟨h1, h2⟩ => ⟨h2, _, _, h1, rfl, rfl, hV.trans (h2.mono hV.size)⟩) (fun V hV => type_own _ k 0 V _ hty ((he.up hW).up hV).k hF.mr) (fun t x W1 W2 ⟨h1, h2, b1⟩ b2 => by subst h1 h2; exact hSh W2 (((he.up hW).up b1).up b2).e)
set_option maxRecDepth 1000000 in
theorem shape_raw (v : Value) (k b i h : Int) (s : ByteArray) (st : TypeId) (sx : Value) (hk : (k = 13 ∧ st = 259 ∧ sx = .agg #[.int .u64 b, .int .i64 64]) ∨ (k = 12 ∧ st = 259 ∧ sx = .agg #[.int .u64 b, .int .i64 32]) ∨ (k = 16 ∧ st = 262 ∧ sx = .string s) ∨ (k = 17 ∧ st = 263 ∧ sx = .string s) ∨ (7 ≤ k ∧ k ≤ 11 ∧ st = 257 ∧ sx = .int .u64 b) ∨ (k = 1 ∧ st = 255 ∧ sx = .bool (decide (b = 1))))
  (hb : 0 ≤ b ∧ b ≤ 18446744073709551615) (hR : ∀ W, Calls Tryz.prog 145 #[v] W fun e w' => e = .returned (.agg #[.int .i64 k, .string ⟨#[]⟩, .int .u64 b, .int .u64 i, .string s, .slice none 0 0, .slice none 0 0, .int .i64 h]) ∧ Below W.heap.size W w') (w : World) :
  Calls Tryz.prog 135 #[v] w fun e w' => e = .returned (.iface st sx) ∧ Below w.heap.size w w' := by
 have hR := hR w
 obtain ⟨hb0, hb1⟩ := hb
 rcases hk with ⟨rfl, rfl, rfl⟩ | ⟨rfl, rfl, rfl⟩ | ⟨rfl, rfl, rfl⟩ | ⟨rfl, rfl, rfl⟩ | ⟨h7, h11, rfl, rfl⟩ | ⟨rfl, rfl, rfl⟩
 ·go_enter Tryz.func135, Tryz.ntmps135
  go_wp2_with (go_at_call 145; refine hR.mono ?_; rintro e W2 ⟨rfl, b2⟩)
  go_ret
  exact ⟨rfl, b2.alloc b2.size _⟩
 ·go_enter Tryz.func135, Tryz.ntmps135
  go_wp2_with (go_at_call 145; refine hR.mono ?_; rintro e W2 ⟨rfl, b2⟩)
  go_ret
  exact ⟨rfl, b2.alloc b2.size _⟩
 ·go_enter Tryz.func135, Tryz.ntmps135
  go_wp2_with (go_at_call 145; refine hR.mono ?_; rintro e W2 ⟨rfl, b2⟩)
  go_ret
  exact ⟨rfl, b2.alloc b2.size _⟩
 ·go_enter Tryz.func135, Tryz.ntmps135
  go_wp2_with (go_at_call 145; refine hR.mono ?_; rintro e W2 ⟨rfl, b2⟩)
  go_ret
  exact ⟨rfl, b2.alloc b2.size _⟩
 ·have hk5 : k = 7 ∨ k = 8 ∨ k = 9 ∨ k = 10 ∨ k = 11 := by omega
  rcases hk5 with rfl | rfl | rfl | rfl | rfl
  all_goals
   go_enter Tryz.func135, Tryz.ntmps135
   go_wp2_with (go_at_call 145; refine hR.mono ?_; rintro e W2 ⟨rfl, b2⟩)
   go_ret
   exact ⟨rfl, b2.alloc b2.size _⟩
 ·by_cases h1 : b = 1
  ·subst h1
   go_enter Tryz.func135, Tryz.ntmps135
   go_wp2_with (go_at_call 145; refine hR.mono ?_; rintro e W2 ⟨rfl, b2⟩)
   go_ret
   exact ⟨rfl, b2.alloc b2.size _⟩
  ·have hbq : (b == 1) = false := by simpa using h1
   rw [decide_eq_false h1]
   go_enter Tryz.func135, Tryz.ntmps135
   go_wp2_with (go_at_call 145; refine hR.mono ?_; rintro e W2 ⟨rfl, b2⟩)
   go_ret
   exact ⟨rfl, b2.alloc b2.size _⟩
theorem shaped_text (f : Sq) (ask : Value) (ty s : ByteArray) (depth : Int) (T : ByteArray) (ok : Bool) (w : World) (hE : Esc w) (hT : ∀ W, Esc W → Calls Tryz.prog 110 #[.string s, SV f] W fun e w' => e = .returned (.tuple #[.string T, .bool ok]) ∧ Below W.heap.size W w') :
  Calls Tryz.prog 138 #[WV f ask, .iface 262 (.string s), .string ty, .int .i64 depth] w fun e w' => e = .returned (.tuple #[.string T, .bool ok]) ∧ Below w.heap.size w w' := by
 obtain ⟨p, mi, sh, sp, z, wid, prec, verb⟩ := f
 have t0 : ∀ w, (Instr.typeAssert (.iface 262 (.string s)) 20 255 true).run Tryz.prog w = .ok (.tuple #[.bool false, .bool false]) w := fun w => by kernel_rfl
 have t1 : ∀ w, (Instr.typeAssert (.iface 262 (.string s)) 20 256 true).run Tryz.prog w = .ok (.tuple #[.int .i64 0, .bool false]) w := fun w => by kernel_rfl
 have t2 : ∀ w, (Instr.typeAssert (.iface 262 (.string s)) 20 257 true).run Tryz.prog w = .ok (.tuple #[.int .u64 0, .bool false]) w := fun w => by kernel_rfl
 have t3 : ∀ w, (Instr.typeAssert (.iface 262 (.string s)) 20 259 true).run Tryz.prog w = .ok (.tuple #[.agg #[.int .u64 0, .int .i64 0], .bool false]) w := fun w => by kernel_rfl
 have t4 : ∀ w, (Instr.typeAssert (.iface 262 (.string s)) 20 261 true).run Tryz.prog w = .ok (.tuple #[.agg #[.int .u64 0, .int .u64 0, .int .i64 0], .bool false]) w := fun w => by kernel_rfl
 have t5 : ∀ w, (Instr.typeAssert (.iface 262 (.string s)) 20 262 true).run Tryz.prog w = .ok (.tuple #[.string s, .bool true]) w := fun w => by kernel_rfl
 obtain ⟨W1, hW1⟩ : ∃ W1, W1 = w.alloc (.cells #[.bool p, .bool mi, .bool sh, .bool sp, .bool z, .int .i64 wid, .int .i64 prec, .int .i32 verb, ask] 200) := ⟨_, rfl⟩
 have b1 : Below w.heap.size w W1 := by rw [hW1]; exact (Below.refl _ _).alloc (Nat.le_refl _) _
 have a1 : At9 W1 w.heap.size ⟨p, mi, sh, sp, z, wid, prec, verb⟩ ask := by
  rw [hW1]
  refine ⟨?_, ?_, ?_, ?_, ?_, ?_, ?_, ?_, ?_⟩
  all_goals simp [go_sem]
 have hE1 := hE.below b1
 go_enter Tryz.func138, Tryz.ntmps138
 go_upto_region 19 with fail
 rw [← hW1]
 clear hW1
 obtain ⟨q0, q1, q2, q3, q4, q5, q6, q7, q8⟩ := a1
 go_wp2_with (go_at_call 110; refine (hT _ hE1).mono ?_; rintro e W3 ⟨rfl, b3⟩)
 go_ret2
 exact ⟨rfl, b1.trans (b3.mono b1.size)⟩
end Go.Proofs.YtdlnmnipnkeabaaGreatDoor
namespace Go.Proofs.YtdlnmnipnkeabaaGreatDoor
open Go.RowKit
set_option linter.unusedVariables false
set_option linter.unusedSimpArgs false
set_option maxRecDepth 1000000 in
set_option maxHeartbeats 2000000 in
theorem shaped_float (f : Sq) (ask : Value) (ty : ByteArray) (bits size depth : Int) (T : ByteArray) (ok : Bool) (w : World) (hT : ∀ W, Calls Tryz.prog 171 #[.int .u64 bits, .int .i64 size, SV (numQ f)] W fun e w' => e = .returned (.tuple #[.string T, .bool ok]) ∧ Below W.heap.size W w') :
  Calls Tryz.prog 138 #[WV f ask, .iface 259 (.agg #[.int .u64 bits, .int .i64 size]), .string ty, .int .i64 depth] w fun e w' => e = .returned (.tuple #[.string T, .bool ok]) ∧ Below w.heap.size w w' := by
 have t0 : ∀ w, (Instr.typeAssert (.iface 259 (.agg #[.int .u64 bits, .int .i64 size])) 20 255 true).run Tryz.prog w = .ok (.tuple #[.bool false, .bool false]) w := fun w => by kernel_rfl
 have t1 : ∀ w, (Instr.typeAssert (.iface 259 (.agg #[.int .u64 bits, .int .i64 size])) 20 256 true).run Tryz.prog w = .ok (.tuple #[.int .i64 0, .bool false]) w := fun w => by kernel_rfl
 have t2 : ∀ w, (Instr.typeAssert (.iface 259 (.agg #[.int .u64 bits, .int .i64 size])) 20 257 true).run Tryz.prog w = .ok (.tuple #[.int .u64 0, .bool false]) w := fun w => by kernel_rfl
 have t3 : ∀ w, (Instr.typeAssert (.iface 259 (.agg #[.int .u64 bits, .int .i64 size])) 20 259 true).run Tryz.prog w = .ok (.tuple #[.agg #[.int .u64 bits, .int .i64 size], .bool true]) w := fun w => by kernel_rfl
 obtain ⟨W1, hW1⟩ : ∃ W1, W1 = w.alloc (.cells #[.bool f.p, .bool f.mi, .bool f.sh, .bool f.sp, .bool f.z, .int .i64 f.wid, .int .i64 f.prec, .int .i32 f.verb, ask] 200) := ⟨_, rfl⟩
 have b1 : Below w.heap.size w W1 := by rw [hW1]; exact (Below.refl _ _).alloc (Nat.le_refl _) _
 have a1 : At9 W1 w.heap.size f ask := by
  rw [hW1]
  refine ⟨?_, ?_, ?_, ?_, ?_, ?_, ?_, ?_, ?_⟩
  all_goals simp [go_sem]
 obtain ⟨W2, hW2⟩ : ∃ W2, W2 = W1.alloc (.cells #[.int .u64 bits, .int .i64 size] 259) := ⟨_, rfl⟩
 have b2 : Below W1.heap.size W1 W2 := by rw [hW2]; exact (Below.refl _ _).alloc (Nat.le_refl _) _
 have d0 : W2.cell? ⟨W1.heap.size, 0, none⟩ = some (.int .u64 bits) := by rw [hW2]; simp [go_sem]
 have d1 : W2.cell? ⟨W1.heap.size, 1, none⟩ = some (.int .i64 size) := by rw [hW2]; simp [go_sem]
 have a2 := a1.up b2
 have bw := b1.trans (b2.mono b1.size)
 have hN := fun W => forNumbers_any f ask W
 clear a1
 go_enter Tryz.func138, Tryz.ntmps138
 go_upto_region 12 with fail
 rw [← hW1]
 clear hW1
 go_upto_region 13 with fail
 rw [← hW2]
 clear hW2
 obtain ⟨q0, q1, q2, q3, q4, q5, q6, q7, q8⟩ := a2
 have e0 : ∀ x : Cl W2, x.w.cell? ⟨W1.heap.size, 0, none⟩ = some (.int .u64 bits) := fun x => x.cell d0
 have e1 : ∀ x : Cl W2, x.w.cell? ⟨W1.heap.size, 1, none⟩ = some (.int .i64 size) := fun x => x.cell d1
 have f0 : ∀ x : Cl W2, x.w.cell? ⟨w.heap.size, 0, none⟩ = some (.bool f.p) := fun x => x.cell q0
 have f1 : ∀ x : Cl W2, x.w.cell? ⟨w.heap.size, 1, none⟩ = some (.bool f.mi) := fun x => x.cell q1
 have f2 : ∀ x : Cl W2, x.w.cell? ⟨w.heap.size, 2, none⟩ = some (.bool f.sh) := fun x => x.cell q2
 have f3 : ∀ x : Cl W2, x.w.cell? ⟨w.heap.size, 3, none⟩ = some (.bool f.sp) := fun x => x.cell q3
 have f4 : ∀ x : Cl W2, x.w.cell? ⟨w.heap.size, 4, none⟩ = some (.bool f.z) := fun x => x.cell q4
 have f5 : ∀ x : Cl W2, x.w.cell? ⟨w.heap.size, 5, none⟩ = some (.int .i64 f.wid) := fun x => x.cell q5
 have f6 : ∀ x : Cl W2, x.w.cell? ⟨w.heap.size, 6, none⟩ = some (.int .i64 f.prec) := fun x => x.cell q6
 have f7 : ∀ x : Cl W2, x.w.cell? ⟨w.heap.size, 7, none⟩ = some (.int .i32 f.verb) := fun x => x.cell q7
 have f8 : ∀ x : Cl W2, x.w.cell? ⟨w.heap.size, 8, none⟩ = some ask := fun x => x.cell q8
 refine wp_region_above W2 (Below.refl _ _) (by kernel_rfl) (by kernel_rfl) ?_
 intro hCl
 repeat (go_big_quiet_step ((first | (go_at_call 169; exact Cl.call (hN _)) | (go_at_call 171; exact Cl.call (hT _)))))
 refine wpQuiet_nil ?_
 intro _ hw'
 obtain ⟨y, hx⟩ := hw'
 subst hx
 go_wp2
 go_ret2
 exact ⟨rfl, bw.trans (y.below.mono bw.size)⟩
end Go.Proofs.YtdlnmnipnkeabaaGreatDoor
namespace Go.Proofs.YtdlnmnipnkeabaaGreatDoor
open Go.RowKit Go.Conc
set_option linter.unusedVariables false
def CN (P : Program) (c : Code) (Q : Exit → Act → World → Prop) (a : Act) (w : World) : Prop :=
 ∀ (b : Frame) (k : List Item) (cs : List Frame), b.kind ≠ .early → ∃ e a' w', Q e a' w' ∧ Arrives P (lone (b.at a (.code c :: k)) cs w) b k cs e a' w'
theorem CN.of_wp {P : Program} {c : Code} {Q : Exit → Act → World → Prop} {a : Act} {w : World} (h : c.wp P Q a w) : CN P c Q a w := fun b k cs _ => h b k cs
theorem CN.seq {P : Program} {x y : Code} {Q : Exit → Act → World → Prop} {a : Act} {w : World} (h : CN P x (Exit.then (CN P y Q) Q) a w) : CN P (.seq x y) Q a w := by
 intro b k cs hb
 obtain ⟨e, a', w', hq, hr⟩ := h b (.code y :: k) cs hb
 have hs : Steps P (lone (b.at a (.code (.seq x y) :: k)) cs w) (lone (b.at a (.code x :: .code y :: k)) cs w) := .one step_seq
 cases e with
 | normal =>
   obtain ⟨e2, a2, w2, hq2, hr2⟩ := hq b k cs hb
   exact ⟨e2, a2, w2, hq2, .of_steps (hs.trans hr) hr2⟩
 | exit id => exact ⟨_, a', w', hq, .of_steps hs (Arrives.pass rfl (fun _ _ => .inl (by simp)) hr)⟩
 | goto l => exact (by
   refine ⟨.goto l, a', w', hq, fun k' hk => ?_⟩
   by_cases hg : gotoIn l (Item.code y :: k) = some k'
   ·exact hs.trans (hr k' hg)
   ·exact absurd (by simpa [gotoIn] using hk) hg)
 | ret => exact ⟨_, a', w', hq, .of_steps hs hr⟩
 | panic chain => exact ⟨_, a', w', hq, .of_steps hs hr⟩
 | outgrown => exact ⟨_, a', w', hq, .of_steps hs hr⟩
theorem calls_of_CN {P : Program} {f : FuncId} {fn : Func} {c : Code} {args : Array Value} {w : World} {R : Ending → World → Prop} (hf : P.funcs[f]? = some fn) (hb : fn.body = some c)
  (h : CN P c (bodyPost P fn R) { tmps := args ++ Array.replicate (fn.ntmps - args.size) undef, defers := [] } w) : Calls P f args w R := by
 intro cs
 obtain ⟨e, a', w', hq, harr⟩ := h { (default : Frame) with fn := f, kind := .normal } [] cs (by simp)
 have henter : Frame.enter P f args .normal = Frame.at { (default : Frame) with fn := f, kind := .normal } { tmps := args ++ Array.replicate (fn.ntmps - args.size) undef, defers := [] } [.code c] := by
  simp [Frame.enter, Frame.at, hf, hb]
 rw [← henter] at harr
 cases e with
 | normal =>
   obtain ⟨hd, v, hr, hR⟩ := hq
   exact ⟨.returned v, w', _, hR, Steps.trans harr (.one step_end), rfl, rfl, hd, rfl, fn, hf, hr⟩
 | ret =>
   obtain ⟨hd, v, hr, hR⟩ := hq
   obtain ⟨todo, hs⟩ := harr
   exact ⟨.returned v, w', _, hR, hs, rfl, rfl, hd, rfl, fn, hf, hr⟩
 | panic chain =>
   obtain ⟨hd, hR⟩ := hq
   obtain ⟨todo, hs⟩ := harr
   exact ⟨.panicked chain, w', _, hR, hs, rfl, rfl, hd, fn, hf⟩
 | exit id => exact hq.elim
 | goto l => exact hq.elim
 | outgrown => exact ⟨.outgrown, w', { (default : Frame) with fn := f, kind := .normal }, hq, harr.resolve_left (by simp), rfl, trivial⟩
theorem CN.region {P : Program} {id : Nat} {o : Oper} {rest : List Oper} {Q : Exit → Act → World → Prop} {a a1 : Act} {w w1 : World}
  (hstep : ∀ (b : Frame) (k : List Item) (cs : List Frame) (is : List Nat), b.kind ≠ .early →
   step P (lone (b.at a (.inRegion (o :: rest).toArray (0 :: is) :: k)) cs w) = .next (lone (b.at a1 (.inRegion (o :: rest).toArray is :: k)) cs w1))
  (h : wpList P (o :: rest).toArray Q rest a1 w1) : CN P (.region id (o :: rest).toArray false) Q a w := by
 intro b k cs hb
 have h' : wpOps P (o :: rest).toArray Q (List.range' 1 rest.length) a1 w1 := by
  rw [wpOps_eq_wpList rest 1 (fun j => by rw [Nat.add_comm]; simp)]
  exact h
 obtain ⟨e, a', w', hq, hr⟩ := wp_ops _ a1 w1 h' b k cs
 refine ⟨e, a', w', hq, .of_steps (.one step_region) ?_⟩
 have hrange : List.range (o :: rest).toArray.size = 0 :: List.range' 1 rest.length := by
  simp [List.range_eq_range', List.range'_succ]
 rw [hrange]
 exact .of_steps (.one (hstep b k cs _ hb)) hr
section
variable {P : Program} {id : Nat} {o : Oper} {rest : List Oper} {Q : Exit → Act → World → Prop} {a : Act} {w : World} {c cap s r : Nat} {buf : Array Value} {z v : Value}
theorem CN.recv_none (hgd : o.guard = none) (hr : (execOp a.eval o).run P w = .ok (.comm #[rcase c z] false .select) w) (hc : w.heap[c]? = some (.chan cap #[] false s r false))
  (h : wpList P (o :: rest).toArray Q rest (a.put o.dst (.tuple #[goInt (-1), .bool false, z])) w) : CN P (.region id (o :: rest).toArray false) Q a w := by
 refine CN.region (fun b k cs is hk => ?_) h
 have hs := step_lone_select_default (stepG_comm (P := P) (main := true) (b := b) (a := a) (k := k) (cs := cs) (w := w) (ops := (o :: rest).toArray) (i := 0) (rest := is) (o := o) rfl (by simp [Region.wanted, hgd]) hk hr) hc
 rw [Frame.finish_at] at hs
 exact hs
theorem CN.send_room (hgd : o.guard = none) (hr : (execOp a.eval o).run P w = .ok (.comm #[scase c v z] false .select) w) (hc : w.heap[c]? = some (.chan cap buf false s r false)) (hb : buf.size < cap)
  (h : wpList P (o :: rest).toArray Q rest (a.put o.dst (.tuple #[goInt 0, .bool false])) (w.setChan c cap (buf.push v) false (s + 1) r false)) : CN P (.region id (o :: rest).toArray false) Q a w := by
 refine CN.region (fun b k cs is hk => ?_) h
 have hs := step_lone_select_send_room (stepG_comm (P := P) (main := true) (b := b) (a := a) (k := k) (cs := cs) (w := w) (ops := (o :: rest).toArray) (i := 0) (rest := is) (o := o) rfl (by simp [Region.wanted, hgd]) hk hr) hc hb
 rw [Frame.finish_at] at hs
 exact hs
end
end Go.Proofs.YtdlnmnipnkeabaaGreatDoor
namespace Go.Proofs.YtdlnmnipnkeabaaGreatDoor
open Go.RowKit Go.Conc
set_option linter.unusedVariables false
set_option linter.unusedSimpArgs false
theorem Kx.setChan {P : Nat → Prop} {a b : World} (h : Kx P a b) (c : Nat) (hp : P c ∨ a.heap.size ≤ c) (cap : Nat) (buf : Array Value) (cl : Bool) (s r : Nat) (tm : Bool) : Kx P a (b.setChan c cap buf cl s r tm) :=
 ⟨h.os, h.tape, h.output, by simpa [World.setChan] using h.size, fun k hk hn => by
  have hne : c ≠ k := by rintro rfl; exact hp.elim hn (fun hp => by omega)
  simp only [World.setChan]
  rw [Array.getElem?_setIfInBounds_ne hne]
  exact h.block k hk hn⟩
theorem callsD_of_CN {P : Program} {f : FuncId} {fn : Func} {c : Code} {args : Array Value} {u : FrameMode} {w : World} {R : Ending → World → Prop} (hf : P.funcs[f]? = some fn) (hb : fn.body = some c)
  (h : CN P c (bodyPost P fn R) { tmps := args ++ Array.replicate (fn.ntmps - args.size) undef, defers := [] } w) : CallsD P f args u w fun e u' w' => u' = u ∧ R e w' := by
 intro c₀ cs hu
 have henter : Frame.enter P f args .deferred = Frame.at { (default : Frame) with fn := f, kind := .deferred } { tmps := args ++ Array.replicate (fn.ntmps - args.size) undef, defers := [] } [.code c] := by
  simp [Frame.enter, Frame.at, hf, hb]
 have hc : ({ c₀ with mode := u } : Frame) = c₀ := by subst hu; rfl
 obtain ⟨e, a', w', hq, harr⟩ := h { (default : Frame) with fn := f, kind := .deferred } [] (c₀ :: cs) (by simp)
 rw [← henter] at harr
 cases e with
 | normal =>
   obtain ⟨hd, v, hr, hR⟩ := hq
   exact ⟨.returned v, u, w', _, ⟨rfl, hR⟩, (by rw [hc]; exact Steps.trans harr (.one step_end)), rfl, rfl, hd, fn, hf, hr⟩
 | ret =>
   obtain ⟨hd, v, hr, hR⟩ := hq
   obtain ⟨todo, hs⟩ := harr
   exact ⟨.returned v, u, w', _, ⟨rfl, hR⟩, (by rw [hc]; exact hs), rfl, rfl, hd, fn, hf, hr⟩
 | panic chain =>
   obtain ⟨hd, hR⟩ := hq
   obtain ⟨todo, hs⟩ := harr
   exact ⟨.panicked chain, u, w', _, ⟨rfl, hR⟩, (by rw [hc]; exact hs), rfl, rfl, hd, fn, hf⟩
 | exit id => exact hq.elim
 | goto l => exact hq.elim
 | outgrown => exact ⟨.outgrown, u, w', { (default : Frame) with fn := f, kind := .deferred }, ⟨rfl, hq⟩, harr.resolve_left (by simp), rfl, trivial⟩
structure StoM (w : World) (B c cap : Nat) (l : List Value) (mk : Value) (m : Int) : Prop where
 bx : Blk w B [.chan (some c), mk, .int .i64 m]
 ch : ∃ s r, w.heap[c]? = some (.chan cap l.toArray false s r false)
theorem StoM.cb {w : World} {B c cap : Nat} {l : List Value} {mk : Value} {m : Int} (h : StoM w B c cap l mk m) : c < w.heap.size := by
 obtain ⟨s, r, hc⟩ := h.ch
 exact (Array.getElem?_eq_some_iff.1 hc).1
theorem StoM.ne {w : World} {B c cap : Nat} {l : List Value} {mk : Value} {m : Int} (h : StoM w B c cap l mk m) : B ≠ c := by
 rintro rfl
 obtain ⟨s, r, hc⟩ := h.ch
 have := h.bx.c 0 _ rfl
 simp [World.cell?, hc] at this
theorem StoM.kx {P : Nat → Prop} {w w' : World} {B c cap : Nat} {l : List Value} {mk : Value} {m : Int} (h : StoM w B c cap l mk m) (k : Kx P w w') (hB : ¬ P B) (hc : ¬ P c) : StoM w' B c cap l mk m := by
 obtain ⟨s, r, hc'⟩ := h.ch
 exact ⟨h.bx.kx k hB, s, r, (k.block c h.cb hc).trans hc'⟩
theorem StoM.up {w w' : World} {B c cap : Nat} {l : List Value} {mk : Value} {m : Int} (h : StoM w B c cap l mk m) (b : Below w.heap.size w w') : StoM w' B c cap l mk m := h.kx (P := fun _ => False) (.of_below b) id id
theorem StoM.turn {w : World} {B c cap : Nat} {l l' : List Value} {mk : Value} {m : Int} (h : StoM w B c cap l mk m) (s r : Nat) : StoM (w.setChan c cap l'.toArray false s r false) B c cap l' mk m :=
 ⟨h.bx.kx ((Kx.refl (fun k => k = c) w).setChan c (Or.inl rfl) _ _ _ _ _ _) h.ne, s, r, heap_setChan _ _ _ _ _ _ _ _ h.cb⟩
theorem StoM.made {w : World} {B c cap : Nat} {l : List Value} {mk : Value} {m : Int} (h : StoM w B c cap l mk m) (m' : Int) : StoM (w.setCell ⟨B, 2, none⟩ (.int .i64 m')) B c cap l mk m' := by
 obtain ⟨s, r, hc⟩ := h.ch
 refine ⟨h.bx.one 2 (.int .i64 m') (by simp), s, r, ?_⟩
 rw [Below.heap_setCell _ _ _ _ h.ne.symm]
 exact hc
abbrev mkV (a : Option Addr) (n c : Nat) : Value := .agg #[.slice a n c]
theorem neCm (c : Nat) (w : World) : (binOp BinOp.neq 64 (.chan (some c)) (.chan none)).run Tryz.prog w = .ok (.bool true) w := by kernel_rfl
theorem neFm (f : Fn) (a c : Array Value) (w : World) : (binOp BinOp.neq 58 (.func f a c) .nilFunc).run Tryz.prog w = .ok (.bool true) w := by kernel_rfl
theorem isMadem_any {w : World} {B c cap : Nat} {l : List Value} {mk : Value} {m : Int} (h : StoM w B c cap l mk m) :
  Calls Tryz.prog 41 #[.pointer (some ⟨B, 0, none⟩)] w fun e w' => e = .returned (.bool true) ∧ w' = w := by
 have c0 := h.bx.c 0 _ rfl
 have hn := fun w => neCm c w
 go_enter Tryz.func41, Tryz.ntmps41
 go_wp2
 go_ret
 exact ⟨rfl, rfl⟩
theorem bytesCm : ∃ i, Tryz.prog.info? 57 = some i ∧ i.bytes = 24 := by
 have h : (Tryz.prog.info? 57).map (·.bytes) = some 24 := by kernel_rfl
 obtain ⟨i, hi, hb⟩ := Option.map_eq_some_iff.1 h
 exact ⟨i, hi, hb⟩
theorem mkCm (n : Nat) (hn : n ≤ 64) (w : World) : (Instr.makeChan 64 (.int .i64 n)).run Tryz.prog w = .ok (.chan (some w.heap.size)) (w.alloc (.chan n #[] false 0 0 false)) := by
 obtain ⟨i, hi, hb⟩ := bytesCm
 simpa using run_makeChan (P := Tryz.prog) (w := w) Tryz.underlying64 hi .i64 n (by omega) (by rw [hb]; omega)
set_option maxRecDepth 100000 in
theorem roomm_1 (w : World) : Calls Tryz.prog 26 #[.int .i64 1] w fun e w' => e = .returned (.chan (some w.heap.size)) ∧ w' = w.alloc (.chan 1 #[] false 0 0 false) := by
 have hm : ∀ w : World, (Instr.makeChan 64 (.int .i64 1)).run Tryz.prog w = .ok (.chan (some w.heap.size)) (w.alloc (.chan 1 #[] false 0 0 false)) := fun w => mkCm 1 (by omega) w
 have hmm : min (max (1 : Int) 0) 64 = 1 := by decide
 go_enter Tryz.func26, Tryz.ntmps26
 go_wp2
 go_ret
 exact ⟨rfl, rfl⟩
set_option maxRecDepth 100000 in
theorem newm_1 (f : Fn) (a k : Array Value) (w : World) : Calls Tryz.prog 20 #[.int .i64 1, .func f a k] w fun e w' =>
  ∃ B c, e = .returned (.pointer (some ⟨B, 0, none⟩)) ∧ Hid (w.heap.size ≤ B ∧ w.heap.size ≤ c ∧ StoM w' B c 1 [] (.func f a k) 0) ∧ Below w.heap.size w w' := by
 have h1 := roomm_1 w
 obtain ⟨W1, hW1⟩ : ∃ W1, W1 = w.alloc (.chan 1 #[] false 0 0 false) := ⟨_, rfl⟩
 have hfin : ∀ t, StoM (W1.alloc (.cells #[.chan (some w.heap.size), .func f a k, .int .i64 0] t)) W1.heap.size w.heap.size 1 [] (.func f a k) 0 ∧ Below w.heap.size w (W1.alloc (.cells #[.chan (some w.heap.size), .func f a k, .int .i64 0] t)) := by
  intro t
  refine ⟨⟨Blk.new _ [_, _, _] _, 0, 0, ?_⟩, ?_⟩
  ·rw [Below.heap_alloc _ _ _ (by rw [hW1]; simp), hW1]
   exact heap_alloc_new w _
  ·rw [hW1]
   exact ((Below.refl _ _).alloc (Nat.le_refl _) _).alloc (by simp) _
 have hs : w.heap.size ≤ W1.heap.size := by rw [hW1]; simp
 rw [← hW1] at h1
 clear hW1
 go_enter Tryz.func20, Tryz.ntmps20
 go_wp2_with (go_at_call 26; refine h1.mono ?_; rintro e w9 ⟨rfl, rfl⟩)
 go_ret
 exact ⟨_, _, rfl, ⟨hs, Nat.le_refl _, (hfin _).1⟩, (hfin _).2⟩
set_option maxRecDepth 100000 in
theorem putm_room {w : World} {B c cap : Nat} {l : List Value} {mk : Value} {m : Int} (h : StoM w B c cap l mk m) (a : Option Addr) (n k : Nat) (u : FrameMode) (hr : l.length < cap) :
  CallsD Tryz.prog 36 #[.pointer (some ⟨B, 0, none⟩), mkV a n k] u w fun e u' w' => u' = u ∧ e = .returned (.bool true) ∧ StoM w' B c cap (l ++ [mkV a n k]) mk m ∧ Kx (fun k => k = c) w w' := by
 obtain ⟨W1, hW1⟩ : ∃ W1, W1 = w.alloc (.cells #[.slice a n k] 57) := ⟨_, rfl⟩
 have k1 : Below w.heap.size w W1 := by rw [hW1]; exact (Below.refl _ _).alloc (Nat.le_refl _) _
 have x1 : Blk W1 w.heap.size [.slice a n k] := by rw [hW1]; exact Blk.new _ [_] _
 have d0 := x1.c 0 _ rfl
 have h9 := h.up k1
 have c0 := h9.bx.c 0 _ rfl
 have h1 := isMadem_any h9
 obtain ⟨s, r, hc⟩ := h9.ch
 refine callsD_of_CN Tryz.func36 rfl ?_
 simp only [Tryz.ntmps36, List.size_toArray, List.length_cons, List.length_nil, Nat.reduceAdd, Nat.reduceSub, Array.replicate_succ, Array.replicate_zero, List.push_toArray, List.append_toArray, List.nil_append, List.cons_append]
 refine CN.seq (CN.of_wp ?_)
 go_wp2
 rw [← hW1]
 clear hW1
 refine CN.seq (CN.of_wp ?_)
 go_wp2_with (go_at_call 41; refine h1.mono ?_; rintro e w9 ⟨rfl, rfl⟩)
 refine CN.seq (CN.of_wp ?_)
 go_wp2
 refine CN.seq ?_
 refine CN.send_room (v := mkV a n k) (z := mkV none 0 0) rfl (by simp [go_sem, execOp, scase, Act.eval]) hc (by simpa using hr) ?_
 go_wp2
 refine CN.of_wp ?_
 go_wp2
 go_ret
 exact ⟨rfl, h9.turn _ _, (Kx.of_below (P := fun k => k = c) k1).setChan c (.inl rfl) _ _ _ _ _ _⟩
theorem fresh1m_idle (p : Nat) {w : World} {B : Nat} {m : Int} (c : w.cell? ⟨p, 0, none⟩ = some (.pointer (some ⟨B, 0, none⟩))) (c2 : w.cell? ⟨B, 2, none⟩ = some (.int .i64 m)) (z : w.frozen? ⟨B, 2, none⟩ = false) (h0 : 0 ≤ m) (h1 : m < 9223372036854775807) :
  CallsD Tryz.prog 49 #[.pointer (some ⟨p, 0, none⟩)] .returning w fun e u' w' => e = .returned (.tuple #[]) ∧ u' = .returning ∧ w' = w.setCell ⟨B, 2, none⟩ (.int .i64 (m + 1)) := by
 refine callsD_of_wpS Tryz.func49 rfl fun c₀ cs hu => ?_
 refine wpS_seq ?_
 apply wpS_region
 simp [wpOpsS, go_sem, recoverD, hu, Tryz.ntmps49, Exit.thenS, c, c2, z]
 rw [show (#[Value.pointer (some ⟨p, 0, none⟩)] ++ (Array.replicate 8 undef).setIfInBounds 0 Value.nilIface) = #[.pointer (some ⟨p, 0, none⟩), .nilIface, undef, undef, undef, undef, undef, undef, undef] from rfl]
 refine wpS_of_wp ?_
 go_wp2
 exact ⟨rfl, .returning, by rw [← hu], _, results_none rfl _ _ _, rfl, rfl, rfl⟩
theorem new1_any (RB : Nat) (a : Option Addr) (n k : Nat) (w : World) (h : w.cell? ⟨RB, 0, none⟩ = some (.slice a n k)) :
  Calls Tryz.prog 21 #[.pointer (some ⟨RB, 0, none⟩)] w fun e w' => e = .returned (mkV a n k) ∧ Below w.heap.size w w' := by
 obtain ⟨W1, hW1⟩ : ∃ W1, W1 = w.alloc (.cells #[.slice none 0 0] 57) := ⟨_, rfl⟩
 have k1 : Below w.heap.size w W1 := by rw [hW1]; exact (Below.refl _ _).alloc (Nat.le_refl _) _
 have x1 : Blk W1 w.heap.size [.slice none 0 0] := by rw [hW1]; exact Blk.new _ [_] _
 have e0 := x1.c 0 _ rfl
 have e1 := x1.z 0
 have h1 : W1.cell? ⟨RB, 0, none⟩ = some (.slice a n k) := (k1.cell (p := ⟨RB, 0, none⟩) (World.block_lt_of_cell? w _ h)).trans h
 have x2 := x1.one 0 (.slice a n k) (by simp)
 have r0 := x2.c 0 _ rfl
 go_enter Tryz.func21, Tryz.ntmps21
 go_upto_region 1 with fail
 rw [← hW1]
 clear hW1
 go_wp2
 refine bodyPost_ret (by simp [results, Tryz.results21, go_sem, r0]; rfl) rfl ?_
 exact ⟨rfl, k1.setCell (by dsimp only; omega) _⟩
set_option maxRecDepth 100000 in
theorem freshm_any {w : World} {B c cap : Nat} {l : List Value} {m : Int} {RB : Nat} (h : StoM w B c cap l (.func (.func 21) #[] #[.pointer (some ⟨RB, 0, none⟩)]) m) (h0 : 0 ≤ m) (h1 : m < 9223372036854775807) (a : Option Addr) (n k : Nat) (hr : w.cell? ⟨RB, 0, none⟩ = some (.slice a n k)) :
  Calls Tryz.prog 42 #[.pointer (some ⟨B, 0, none⟩)] w fun e w' => e = .returned (mkV a n k) ∧ StoM w' B c cap l (.func (.func 21) #[] #[.pointer (some ⟨RB, 0, none⟩)]) (m + 1) ∧ Kx (fun k => k = B) w w' := by
 obtain ⟨W1, hW1⟩ : ∃ W1, W1 = (w.alloc (.cells #[.pointer (some ⟨B, 0, none⟩)] 54)).alloc (.cells #[.slice none 0 0] 57) := ⟨_, rfl⟩
 have hb : Blk W1 w.heap.size [.pointer (some ⟨B, 0, none⟩)] := by rw [hW1]; exact (Blk.new w [_] _).alloc _
 have hx : Blk W1 (w.heap.size + 1) [.slice none 0 0] := by
  rw [hW1]
  have := Blk.new (w.alloc (.cells #[.pointer (some ⟨B, 0, none⟩)] 54)) [.slice none 0 0] 57
  simpa using this
 have k0 : Below w.heap.size w W1 := by rw [hW1]; exact ((Below.refl _ _).alloc (Nat.le_refl _) _).alloc (by simp) _
 have hRB := World.block_lt_of_cell? w _ hr
 dsimp only at hRB
 have s1 := h.up k0
 have a0 := hb.c 0 _ rfl
 have a1 := s1.bx.c 1 _ rfl
 have hr1 : W1.cell? ⟨RB, 0, none⟩ = some (.slice a n k) := (k0.cell (p := ⟨RB, 0, none⟩) hRB).trans hr
 have hn := fun f a k w => neFm f a k w
 have hBw := h.bx.b
 have hcw := h.cb
 have hs1 := k0.size
 have hF := new1_any RB a n k W1 hr1
 have hmf : ∀ (fn : Fn) (first cap : Array Value) (w : World), (Instr.makeFunc fn first cap).run Tryz.prog w = .ok (.func fn first cap) w := fun _ _ _ _ => rfl
 go_enter_defers Tryz.func42, Tryz.ntmps42
 go_upto_region 1 with fail
 rw [← hW1]
 clear hW1
 go_wp2_with fail
 refine hF.mono ?_
 rintro e W2 ⟨rfl, k2⟩
 have s2 := s1.up k2
 have hb2 := hb.up k2
 have hx2 := hx.up k2
 have e0 := hx2.c 0 _ rfl
 have e1 := hx2.z 0
 have x3 := hx2.one 0 (.slice a n k) (by simp)
 have hs2 := k2.size
 have k3 : Kx (fun k => k = B) w (W2.setCell ⟨w.heap.size + 1, 0, none⟩ (.slice a n k)) := ((Kx.of_below k0).trans (.of_below k2)).setCell _ _ (.inr (by omega)) _
 have k23 : Kx (fun k => k = w.heap.size + 1) W2 (W2.setCell ⟨w.heap.size + 1, 0, none⟩ (.slice a n k)) := (Kx.refl (fun k => k = w.heap.size + 1) _).setCell _ _ (Or.inl rfl) _
 have s3 := s2.kx k23 (by omega) (by omega)
 have hb3 := hb2.kx k23 (by omega)
 go_upto_region 4 with fail
 generalize W2.setCell ⟨w.heap.size + 1, 0, none⟩ (.slice a n k) = W3 at *
 have g0 := x3.c 0 _ rfl
 have g1 := x3.z 0
 dsimp only [List.set] at x3
 have x4 := x3.one 0 (.slice a n k) (by simp)
 have k4 : Kx (fun k => k = B) w (W3.setCell ⟨w.heap.size + 1, 0, none⟩ (.slice a n k)) := k3.setCell _ _ (.inr (by omega)) _
 have k34 : Kx (fun k => k = w.heap.size + 1) W3 (W3.setCell ⟨w.heap.size + 1, 0, none⟩ (.slice a n k)) := (Kx.refl (fun k => k = w.heap.size + 1) _).setCell _ _ (Or.inl rfl) _
 have s4 := s3.kx k34 (by omega) (by omega)
 have hb4 := hb3.kx k34 (by omega)
 go_wp2
 generalize W3.setCell ⟨w.heap.size + 1, 0, none⟩ (.slice a n k) = W4 at *
 refine leaves_cons (f := 49) (args := #[.pointer (some ⟨w.heap.size, 0, none⟩)]) (by simp) (by simp [go_sem]) ?_
 refine (fresh1m_idle _ (hb4.c 0 _ rfl) (s4.bx.c 2 _ rfl) (s4.bx.z 2) h0 h1).mono ?_
 rintro e u' w'' ⟨rfl, rfl, rfl⟩
 have hx5 : Blk (W4.setCell ⟨B, 2, none⟩ (.int .i64 (m + 1))) (w.heap.size + 1) [.slice a n k] := x4.far (by omega) 2 _
 have r0 := hx5.c 0 _ rfl
 refine ⟨mkV a n k, ?_, rfl, s4.made _, k4.setCell _ _ (.inl rfl) _⟩
 simp [results, Tryz.results42, go_sem, r0]
set_option maxRecDepth 100000 in
theorem getm_any {w : World} {B c cap : Nat} {m : Int} {RB : Nat} (h : StoM w B c cap [] (.func (.func 21) #[] #[.pointer (some ⟨RB, 0, none⟩)]) m) (h0 : 0 ≤ m) (h2 : m < 9223372036854775807) (a : Option Addr) (n k : Nat) (hr : w.cell? ⟨RB, 0, none⟩ = some (.slice a n k)) :
  Calls Tryz.prog 35 #[.pointer (some ⟨B, 0, none⟩)] w fun e w' => e = .returned (mkV a n k) ∧ StoM w' B c cap [] (.func (.func 21) #[] #[.pointer (some ⟨RB, 0, none⟩)]) (m + 1) ∧ Kx (fun k => k = B) w w' := by
 obtain ⟨W1, hW1⟩ : ∃ W1, W1 = w.alloc (.cells #[.slice none 0 0] 57) := ⟨_, rfl⟩
 have k1 : Below w.heap.size w W1 := by rw [hW1]; exact (Below.refl _ _).alloc (Nat.le_refl _) _
 have x1 : Blk W1 w.heap.size [.slice none 0 0] := by rw [hW1]; exact Blk.new _ [_] _
 have hRB := World.block_lt_of_cell? w _ hr
 dsimp only at hRB
 have h9 := h.up k1
 have hr9 : W1.cell? ⟨RB, 0, none⟩ = some (.slice a n k) := (k1.cell (p := ⟨RB, 0, none⟩) hRB).trans hr
 have c0 := h9.bx.c 0 _ rfl
 have h1 := isMadem_any h9
 have hF := freshm_any h9 h0 h2 a n k hr9
 have hBw := h.bx.b
 have hcw := h.cb
 have hs1 := k1.size
 obtain ⟨s, r, hc⟩ := h9.ch
 refine calls_of_CN Tryz.func35 rfl ?_
 simp only [Tryz.ntmps35, List.size_toArray, List.length_cons, List.length_nil, Nat.reduceAdd, Nat.reduceSub, Array.replicate_succ, Array.replicate_zero, List.push_toArray, List.append_toArray, List.nil_append, List.cons_append]
 refine CN.seq (CN.of_wp ?_)
 go_wp2
 rw [← hW1]
 clear hW1
 refine CN.seq (CN.of_wp ?_)
 go_wp2_with (go_at_call 41; refine h1.mono ?_; rintro e w9 ⟨rfl, rfl⟩)
 refine CN.seq (CN.of_wp ?_)
 go_wp2
 refine CN.seq ?_
 refine CN.recv_none (z := mkV none 0 0) rfl (by simp [go_sem, execOp, rcase, Act.eval]) hc ?_
 go_wp2
 refine CN.of_wp ?_
 go_wp2_with fail
 refine hF.mono ?_
 rintro e W3 ⟨rfl, s3, k3⟩
 have x3 := x1.kx k3 (by omega)
 have e0 := x3.c 0 _ rfl
 have e1 := x3.z 0
 have x4 := x3.one 0 (.slice a n k) (by simp)
 have k34 : Kx (fun k => k = w.heap.size) W3 (W3.setCell ⟨w.heap.size, 0, none⟩ (.slice a n k)) := (Kx.refl (fun k => k = w.heap.size) _).setCell _ _ (Or.inl rfl) _
 have s4 := s3.kx k34 (by omega) (by omega)
 have k4 : Kx (fun k => k = B) w (W3.setCell ⟨w.heap.size, 0, none⟩ (.slice a n k)) := ((Kx.of_below k1).trans k3).setCell _ _ (.inr (Nat.le_refl _)) _
 have r0 := x4.c 0 _ rfl
 go_wp2
 refine bodyPost_ret (by simp [results, Tryz.results35, go_sem, r0]; rfl) rfl ?_
 exact ⟨rfl, s4, k4⟩
end Go.Proofs.YtdlnmnipnkeabaaGreatDoor
