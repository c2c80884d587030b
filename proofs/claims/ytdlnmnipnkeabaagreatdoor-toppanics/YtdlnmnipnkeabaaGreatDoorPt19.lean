/- TFree, TPress: these texts in one. -/
import Derived.Test.YtdlnmnipnkeabaaGreatDoorPt16
import Derived.Test.YtdlnmnipnkeabaaGreatDoorPt18
import Derived.Defers
import Derived.Recover
import Derived.Conc.LoneSelectN
import Derived.Deep.RegionHeld
namespace Go.Proofs.YtdlnmnipnkeabaaGreatDoor
open Go.RowKit Go.Conc
set_option linter.unusedVariables false
set_option linter.unusedSimpArgs false
theorem Kx.setChan {P : Nat → Prop} {a b : World} (h : Kx P a b) (c : Nat) (hp : P c ∨ a.heap.size ≤ c) (cap : Nat) (buf : Array Value) (cl : Bool) (s r : Nat) (tm : Bool) : Kx P a (b.setChan c cap buf cl s r tm) :=
 ⟨h.os, h.tape, h.output, by simpa [World.setChan] using h.size, fun k hk hn => by
  have hne : c ≠ k := by rintro rfl; exact hp.elim hn (fun hp => by omega)
  simp only [World.setChan]
  rw [Array.getElem?_setIfInBounds_ne hne]
  exact h.block k hk hn⟩
theorem callsD_of_CN {P : Program} {f : FuncId} {fn : Func} {c : Code} {args : Array Value} {u : FrameMode} {w : World} {R : Ending → World → Prop} (hf : P.funcs[f]? = some fn) (hb : fn.body = some c)
  (h : CN P c (bodyPost P fn R) { tmps := args ++ Array.replicate (fn.ntmps - args.size) undef, defers := [] } w) : CallsD P f args u w fun e u' w' => u' = u ∧ R e w' := by
 intro c₀ cs hu
 have henter : Frame.enter P f args .deferred = Frame.at { (default : Frame) with fn := f, kind := .deferred } { tmps := args ++ Array.replicate (fn.ntmps - args.size) undef, defers := [] } [.code c] := by
  simp [Frame.enter, Frame.at, hf, hb]
 have hc : ({ c₀ with mode := u } : Frame) = c₀ := by subst hu; rfl
 obtain ⟨e, a', w', hq, harr⟩ := h { (default : Frame) with fn := f, kind := .deferred } [] (c₀ :: cs) (by simp)
 rw [← henter] at harr
 cases e with
 | normal =>
   obtain ⟨hd, v, hr, hR⟩ := hq
   exact ⟨.returned v, u, w', _, ⟨rfl, hR⟩, (by rw [hc]; exact Steps.trans harr (.one step_end)), rfl, rfl, hd, fn, hf, hr⟩
 | ret =>
   obtain ⟨hd, v, hr, hR⟩ := hq
   obtain ⟨todo, hs⟩ := harr
   exact ⟨.returned v, u, w', _, ⟨rfl, hR⟩, (by rw [hc]; exact hs), rfl, rfl, hd, fn, hf, hr⟩
 | panic chain =>
   obtain ⟨hd, hR⟩ := hq
   obtain ⟨todo, hs⟩ := harr
   exact ⟨.panicked chain, u, w', _, ⟨rfl, hR⟩, (by rw [hc]; exact hs), rfl, rfl, hd, fn, hf⟩
 | exit id => exact hq.elim
 | goto l => exact hq.elim
 | outgrown => exact ⟨.outgrown, u, w', { (default : Frame) with fn := f, kind := .deferred }, ⟨rfl, hq⟩, harr.resolve_left (by simp), rfl, trivial⟩
structure StoM (w : World) (B c cap : Nat) (l : List Value) (mk : Value) (m : Int) : Prop where
 bx : Blk w B [.chan (some c), mk, .int .i64 m]
 ch : ∃ s r, w.heap[c]? = some (.chan cap l.toArray false s r false)
theorem StoM.cb {w : World} {B c cap : Nat} {l : List Value} {mk : Value} {m : Int} (h : StoM w B c cap l mk m) : c < w.heap.size := by
 obtain ⟨s, r, hc⟩ := h.ch
 exact (Array.getElem?_eq_some_iff.1 hc).1
theorem StoM.ne {w : World} {B c cap : Nat} {l : List Value} {mk : Value} {m : Int} (h : StoM w B c cap l mk m) : B ≠ c := by
 rintro rfl
 obtain ⟨s, r, hc⟩ := h.ch
 have := h.bx.c 0 _ rfl
 simp [World.cell?, hc] at this
theorem StoM.kx {P : Nat → Prop} {w w' : World} {B c cap : Nat} {l : List Value} {mk : Value} {m : Int} (h : StoM w B c cap l mk m) (k : Kx P w w') (hB : ¬ P B) (hc : ¬ P c) : StoM w' B c cap l mk m := by
 obtain ⟨s, r, hc'⟩ := h.ch
 exact ⟨h.bx.kx k hB, s, r, (k.block c h.cb hc).trans hc'⟩
theorem StoM.up {w w' : World} {B c cap : Nat} {l : List Value} {mk : Value} {m : Int} (h : StoM w B c cap l mk m) (b : Below w.heap.size w w') : StoM w' B c cap l mk m := h.kx (P := fun _ => False) (.of_below b) id id
theorem StoM.turn {w : World} {B c cap : Nat} {l l' : List Value} {mk : Value} {m : Int} (h : StoM w B c cap l mk m) (s r : Nat) : StoM (w.setChan c cap l'.toArray false s r false) B c cap l' mk m :=
 ⟨h.bx.kx ((Kx.refl (fun k => k = c) w).setChan c (Or.inl rfl) _ _ _ _ _ _) h.ne, s, r, heap_setChan _ _ _ _ _ _ _ _ h.cb⟩
theorem StoM.made {w : World} {B c cap : Nat} {l : List Value} {mk : Value} {m : Int} (h : StoM w B c cap l mk m) (m' : Int) : StoM (w.setCell ⟨B, 2, none⟩ (.int .i64 m')) B c cap l mk m' := by
 obtain ⟨s, r, hc⟩ := h.ch
 refine ⟨h.bx.one 2 (.int .i64 m') (by simp), s, r, ?_⟩
 rw [Below.heap_setCell _ _ _ _ h.ne.symm]
 exact hc
abbrev mkV (a : Option Addr) (n c : Nat) : Value := .agg #[.slice a n c]
theorem neCm (c : Nat) (w : World) : (binOp BinOp.neq 64 (.chan (some c)) (.chan none)).run Tryz.prog w = .ok (.bool true) w := by kernel_rfl
theorem neFm (f : Fn) (a c : Array Value) (w : World) : (binOp BinOp.neq 58 (.func f a c) .nilFunc).run Tryz.prog w = .ok (.bool true) w := by kernel_rfl
theorem isMadem_any {w : World} {B c cap : Nat} {l : List Value} {mk : Value} {m : Int} (h : StoM w B c cap l mk m) :
  Calls Tryz.prog 41 #[.pointer (some ⟨B, 0, none⟩)] w fun e w' => e = .returned (.bool true) ∧ w' = w := by
 have c0 := h.bx.c 0 _ rfl
 have hn := fun w => neCm c w
 go_enter Tryz.func41, Tryz.ntmps41
 go_wp2
 go_ret
 exact ⟨rfl, rfl⟩
theorem bytesCm : ∃ i, Tryz.prog.info? 57 = some i ∧ i.bytes = 24 := by
 have h : (Tryz.prog.info? 57).map (·.bytes) = some 24 := by kernel_rfl
 obtain ⟨i, hi, hb⟩ := Option.map_eq_some_iff.1 h
 exact ⟨i, hi, hb⟩
theorem mkCm (n : Nat) (hn : n ≤ 64) (w : World) : (Instr.makeChan 64 (.int .i64 n)).run Tryz.prog w = .ok (.chan (some w.heap.size)) (w.alloc (.chan n #[] false 0 0 false)) := by
 obtain ⟨i, hi, hb⟩ := bytesCm
 simpa using run_makeChan (P := Tryz.prog) (w := w) Tryz.underlying64 hi .i64 n (by omega) (by rw [hb]; omega)
set_option maxRecDepth 100000 in
theorem roomm_1 (w : World) : Calls Tryz.prog 26 #[.int .i64 1] w fun e w' => e = .returned (.chan (some w.heap.size)) ∧ w' = w.alloc (.chan 1 #[] false 0 0 false) := by
 have hm : ∀ w : World, (Instr.makeChan 64 (.int .i64 1)).run Tryz.prog w = .ok (.chan (some w.heap.size)) (w.alloc (.chan 1 #[] false 0 0 false)) := fun w => mkCm 1 (by omega) w
 have hmm : min (max (1 : Int) 0) 64 = 1 := by decide
 go_enter Tryz.func26, Tryz.ntmps26
 go_wp2
 go_ret
 exact ⟨rfl, rfl⟩
set_option maxRecDepth 100000 in
theorem newm_1 (f : Fn) (a k : Array Value) (w : World) : Calls Tryz.prog 20 #[.int .i64 1, .func f a k] w fun e w' =>
  ∃ B c, e = .returned (.pointer (some ⟨B, 0, none⟩)) ∧ Hid (w.heap.size ≤ B ∧ w.heap.size ≤ c ∧ StoM w' B c 1 [] (.func f a k) 0) ∧ Below w.heap.size w w' := by
 have h1 := roomm_1 w
 obtain ⟨W1, hW1⟩ : ∃ W1, W1 = w.alloc (.chan 1 #[] false 0 0 false) := ⟨_, rfl⟩
 have hfin : ∀ t, StoM (W1.alloc (.cells #[.chan (some w.heap.size), .func f a k, .int .i64 0] t)) W1.heap.size w.heap.size 1 [] (.func f a k) 0 ∧ Below w.heap.size w (W1.alloc (.cells #[.chan (some w.heap.size), .func f a k, .int .i64 0] t)) := by
  intro t
  refine ⟨⟨Blk.new _ [_, _, _] _, 0, 0, ?_⟩, ?_⟩
  ·rw [Below.heap_alloc _ _ _ (by rw [hW1]; simp), hW1]
   exact heap_alloc_new w _
  ·rw [hW1]
   exact ((Below.refl _ _).alloc (Nat.le_refl _) _).alloc (by simp) _
 have hs : w.heap.size ≤ W1.heap.size := by rw [hW1]; simp
 rw [← hW1] at h1
 clear hW1
 go_enter Tryz.func20, Tryz.ntmps20
 go_wp2_with (go_at_call 26; refine h1.mono ?_; rintro e w9 ⟨rfl, rfl⟩)
 go_ret
 exact ⟨_, _, rfl, ⟨hs, Nat.le_refl _, (hfin _).1⟩, (hfin _).2⟩
set_option maxRecDepth 100000 in
theorem putm_room {w : World} {B c cap : Nat} {l : List Value} {mk : Value} {m : Int} (h : StoM w B c cap l mk m) (a : Option Addr) (n k : Nat) (u : FrameMode) (hr : l.length < cap) :
  CallsD Tryz.prog 36 #[.pointer (some ⟨B, 0, none⟩), mkV a n k] u w fun e u' w' => u' = u ∧ e = .returned (.bool true) ∧ StoM w' B c cap (l ++ [mkV a n k]) mk m ∧ Kx (fun k => k = c) w w' := by
 obtain ⟨W1, hW1⟩ : ∃ W1, W1 = w.alloc (.cells #[.slice a n k] 57) := ⟨_, rfl⟩
 have k1 : Below w.heap.size w W1 := by rw [hW1]; exact (Below.refl _ _).alloc (Nat.le_refl _) _
 have x1 : Blk W1 w.heap.size [.slice a n k] := by rw [hW1]; exact Blk.new _ [_] _
 have d0 := x1.c 0 _ rfl
 have h9 := h.up k1
 have c0 := h9.bx.c 0 _ rfl
 have h1 := isMadem_any h9
 obtain ⟨s, r, hc⟩ := h9.ch
 refine callsD_of_CN Tryz.func36 rfl ?_
 simp only [Tryz.ntmps36, List.size_toArray, List.length_cons, List.length_nil, Nat.reduceAdd, Nat.reduceSub, Array.replicate_succ, Array.replicate_zero, List.push_toArray, List.append_toArray, List.nil_append, List.cons_append]
 refine CN.seq (CN.of_wp ?_)
 go_wp2
 rw [← hW1]
 clear hW1
 refine CN.seq (CN.of_wp ?_)
 go_wp2_with (go_at_call 41; refine h1.mono ?_; rintro e w9 ⟨rfl, rfl⟩)
 refine CN.seq (CN.of_wp ?_)
 go_wp2
 refine CN.seq ?_
 refine CN.send_room (v := mkV a n k) (z := mkV none 0 0) rfl (by simp [go_sem, execOp, scase, Act.eval]) hc (by simpa using hr) ?_
 go_wp2
 refine CN.of_wp ?_
 go_wp2
 go_ret
 exact ⟨rfl, h9.turn _ _, (Kx.of_below (P := fun k => k = c) k1).setChan c (.inl rfl) _ _ _ _ _ _⟩
theorem fresh1m_idle (p : Nat) {w : World} {B : Nat} {m : Int} (c : w.cell? ⟨p, 0, none⟩ = some (.pointer (some ⟨B, 0, none⟩))) (c2 : w.cell? ⟨B, 2, none⟩ = some (.int .i64 m)) (z : w.frozen? ⟨B, 2, none⟩ = false) (h0 : 0 ≤ m) (h1 : m < 9223372036854775807) :
  CallsD Tryz.prog 49 #[.pointer (some ⟨p, 0, none⟩)] .returning w fun e u' w' => e = .returned (.tuple #[]) ∧ u' = .returning ∧ w' = w.setCell ⟨B, 2, none⟩ (.int .i64 (m + 1)) := by
 refine callsD_of_wpS Tryz.func49 rfl fun c₀ cs hu => ?_
 refine wpS_seq ?_
 apply wpS_region
 simp [wpOpsS, go_sem, recoverD, hu, Tryz.ntmps49, Exit.thenS, c, c2, z]
 rw [show (#[Value.pointer (some ⟨p, 0, none⟩)] ++ (Array.replicate 8 undef).setIfInBounds 0 Value.nilIface) = #[.pointer (some ⟨p, 0, none⟩), .nilIface, undef, undef, undef, undef, undef, undef, undef] from rfl]
 refine wpS_of_wp ?_
 go_wp2
 exact ⟨rfl, .returning, by rw [← hu], _, results_none rfl _ _ _, rfl, rfl, rfl⟩
theorem new1_any (RB : Nat) (a : Option Addr) (n k : Nat) (w : World) (h : w.cell? ⟨RB, 0, none⟩ = some (.slice a n k)) :
  Calls Tryz.prog 21 #[.pointer (some ⟨RB, 0, none⟩)] w fun e w' => e = .returned (mkV a n k) ∧ Below w.heap.size w w' := by
 obtain ⟨W1, hW1⟩ : ∃ W1, W1 = w.alloc (.cells #[.slice none 0 0] 57) := ⟨_, rfl⟩
 have k1 : Below w.heap.size w W1 := by rw [hW1]; exact (Below.refl _ _).alloc (Nat.le_refl _) _
 have x1 : Blk W1 w.heap.size [.slice none 0 0] := by rw [hW1]; exact Blk.new _ [_] _
 have e0 := x1.c 0 _ rfl
 have e1 := x1.z 0
 have h1 : W1.cell? ⟨RB, 0, none⟩ = some (.slice a n k) := (k1.cell (p := ⟨RB, 0, none⟩) (World.block_lt_of_cell? w _ h)).trans h
 have x2 := x1.one 0 (.slice a n k) (by simp)
 have r0 := x2.c 0 _ rfl
 go_enter Tryz.func21, Tryz.ntmps21
 go_upto_region 1 with fail
 rw [← hW1]
 clear hW1
 go_wp2
 refine bodyPost_ret (by simp [results, Tryz.results21, go_sem, r0]; rfl) rfl ?_
 exact ⟨rfl, k1.setCell (by dsimp only; omega) _⟩
set_option maxRecDepth 100000 in
theorem freshm_any {w : World} {B c cap : Nat} {l : List Value} {m : Int} {RB : Nat} (h : StoM w B c cap l (.func (.func 21) #[] #[.pointer (some ⟨RB, 0, none⟩)]) m) (h0 : 0 ≤ m) (h1 : m < 9223372036854775807) (a : Option Addr) (n k : Nat) (hr : w.cell? ⟨RB, 0, none⟩ = some (.slice a n k)) :
  Calls Tryz.prog 42 #[.pointer (some ⟨B, 0, none⟩)] w fun e w' => e = .returned (mkV a n k) ∧ StoM w' B c cap l (.func (.func 21) #[] #[.pointer (some ⟨RB, 0, none⟩)]) (m + 1) ∧ Kx (fun k => k = B) w w' := by
 obtain ⟨W1, hW1⟩ : ∃ W1, W1 = (w.alloc (.cells #[.pointer (some ⟨B, 0, none⟩)] 54)).alloc (.cells #[.slice none 0 0] 57) := ⟨_, rfl⟩
 have hb : Blk W1 w.heap.size [.pointer (some ⟨B, 0, none⟩)] := by rw [hW1]; exact (Blk.new w [_] _).alloc _
 have hx : Blk W1 (w.heap.size + 1) [.slice none 0 0] := by
  rw [hW1]
  have := Blk.new (w.alloc (.cells #[.pointer (some ⟨B, 0, none⟩)] 54)) [.slice none 0 0] 57
  simpa using this
 have k0 : Below w.heap.size w W1 := by rw [hW1]; exact ((Below.refl _ _).alloc (Nat.le_refl _) _).alloc (by simp) _
 have hRB := World.block_lt_of_cell? w _ hr
 dsimp only at hRB
 have s1 := h.up k0
 have a0 := hb.c 0 _ rfl
 have a1 := s1.bx.c 1 _ rfl
 have hr1 : W1.cell? ⟨RB, 0, none⟩ = some (.slice a n k) := (k0.cell (p := ⟨RB, 0, none⟩) hRB).trans hr
 have hn := fun f a k w => neFm f a k w
 have hBw := h.bx.b
 have hcw := h.cb
 have hs1 := k0.size
 have hF := new1_any RB a n k W1 hr1
 have hmf : ∀ (fn : Fn) (first cap : Array Value) (w : World), (Instr.makeFunc fn first cap).run Tryz.prog w = .ok (.func fn first cap) w := fun _ _ _ _ => rfl
 go_enter_defers Tryz.func42, Tryz.ntmps42
 go_upto_region 1 with fail
 rw [← hW1]
 clear hW1
 go_wp2_with fail
 refine hF.mono ?_
 rintro e W2 ⟨rfl, k2⟩
 have s2 := s1.up k2
 have hb2 := hb.up k2
 have hx2 := hx.up k2
 have e0 := hx2.c 0 _ rfl
 have e1 := hx2.z 0
 have x3 := hx2.one 0 (.slice a n k) (by simp)
 have hs2 := k2.size
 have k3 : Kx (fun k => k = B) w (W2.setCell ⟨w.heap.size + 1, 0, none⟩ (.slice a n k)) := ((Kx.of_below k0).trans (.of_below k2)).setCell _ _ (.inr (by omega)) _
 have k23 : Kx (fun k => k = w.heap.size + 1) W2 (W2.setCell ⟨w.heap.size + 1, 0, none⟩ (.slice a n k)) := (Kx.refl (fun k => k = w.heap.size + 1) _).setCell _ _ (Or.inl rfl) _
 have s3 := s2.kx k23 (by omega) (by omega)
 have hb3 := hb2.kx k23 (by omega)
 go_upto_region 4 with fail
 generalize W2.setCell ⟨w.heap.size + 1, 0, none⟩ (.slice a n k) = W3 at *
 have g0 := x3.c 0 _ rfl
 have g1 := x3.z 0
 dsimp only [List.set] at x3
 have x4 := x3.one 0 (.slice a n k) (by simp)
 have k4 : Kx (fun k => k = B) w (W3.setCell ⟨w.heap.size + 1, 0, none⟩ (.slice a n k)) := k3.setCell _ _ (.inr (by omega)) _
 have k34 : Kx (fun k => k = w.heap.size + 1) W3 (W3.setCell ⟨w.heap.size + 1, 0, none⟩ (.slice a n k)) := (Kx.refl (fun k => k = w.heap.size + 1) _).setCell _ _ (Or.inl rfl) _
 have s4 := s3.kx k34 (by omega) (by omega)
 have hb4 := hb3.kx k34 (by omega)
 go_wp2
 generalize W3.setCell ⟨w.heap.size + 1, 0, none⟩ (.slice a n k) = W4 at *
 refine leaves_cons (f := 49) (args := #[.pointer (some ⟨w.heap.size, 0, none⟩)]) (by simp) (by simp [go_sem]) ?_
 refine (fresh1m_idle _ (hb4.c 0 _ rfl) (s4.bx.c 2 _ rfl) (s4.bx.z 2) h0 h1).mono ?_
 rintro e u' w'' ⟨rfl, rfl, rfl⟩
 have hx5 : Blk (W4.setCell ⟨B, 2, none⟩ (.int .i64 (m + 1))) (w.heap.size + 1) [.slice a n k] := x4.far (by omega) 2 _
 have r0 := hx5.c 0 _ rfl
 refine ⟨mkV a n k, ?_, rfl, s4.made _, k4.setCell _ _ (.inl rfl) _⟩
 simp [results, Tryz.results42, go_sem, r0]
set_option maxRecDepth 100000 in
theorem getm_any {w : World} {B c cap : Nat} {m : Int} {RB : Nat} (h : StoM w B c cap [] (.func (.func 21) #[] #[.pointer (some ⟨RB, 0, none⟩)]) m) (h0 : 0 ≤ m) (h2 : m < 9223372036854775807) (a : Option Addr) (n k : Nat) (hr : w.cell? ⟨RB, 0, none⟩ = some (.slice a n k)) :
  Calls Tryz.prog 35 #[.pointer (some ⟨B, 0, none⟩)] w fun e w' => e = .returned (mkV a n k) ∧ StoM w' B c cap [] (.func (.func 21) #[] #[.pointer (some ⟨RB, 0, none⟩)]) (m + 1) ∧ Kx (fun k => k = B) w w' := by
 obtain ⟨W1, hW1⟩ : ∃ W1, W1 = w.alloc (.cells #[.slice none 0 0] 57) := ⟨_, rfl⟩
 have k1 : Below w.heap.size w W1 := by rw [hW1]; exact (Below.refl _ _).alloc (Nat.le_refl _) _
 have x1 : Blk W1 w.heap.size [.slice none 0 0] := by rw [hW1]; exact Blk.new _ [_] _
 have hRB := World.block_lt_of_cell? w _ hr
 dsimp only at hRB
 have h9 := h.up k1
 have hr9 : W1.cell? ⟨RB, 0, none⟩ = some (.slice a n k) := (k1.cell (p := ⟨RB, 0, none⟩) hRB).trans hr
 have c0 := h9.bx.c 0 _ rfl
 have h1 := isMadem_any h9
 have hF := freshm_any h9 h0 h2 a n k hr9
 have hBw := h.bx.b
 have hcw := h.cb
 have hs1 := k1.size
 obtain ⟨s, r, hc⟩ := h9.ch
 refine calls_of_CN Tryz.func35 rfl ?_
 simp only [Tryz.ntmps35, List.size_toArray, List.length_cons, List.length_nil, Nat.reduceAdd, Nat.reduceSub, Array.replicate_succ, Array.replicate_zero, List.push_toArray, List.append_toArray, List.nil_append, List.cons_append]
 refine CN.seq (CN.of_wp ?_)
 go_wp2
 rw [← hW1]
 clear hW1
 refine CN.seq (CN.of_wp ?_)
 go_wp2_with (go_at_call 41; refine h1.mono ?_; rintro e w9 ⟨rfl, rfl⟩)
 refine CN.seq (CN.of_wp ?_)
 go_wp2
 refine CN.seq ?_
 refine CN.recv_none (z := mkV none 0 0) rfl (by simp [go_sem, execOp, rcase, Act.eval]) hc ?_
 go_wp2
 refine CN.of_wp ?_
 go_wp2_with fail
 refine hF.mono ?_
 rintro e W3 ⟨rfl, s3, k3⟩
 have x3 := x1.kx k3 (by omega)
 have e0 := x3.c 0 _ rfl
 have e1 := x3.z 0
 have x4 := x3.one 0 (.slice a n k) (by simp)
 have k34 : Kx (fun k => k = w.heap.size) W3 (W3.setCell ⟨w.heap.size, 0, none⟩ (.slice a n k)) := (Kx.refl (fun k => k = w.heap.size) _).setCell _ _ (Or.inl rfl) _
 have s4 := s3.kx k34 (by omega) (by omega)
 have k4 : Kx (fun k => k = B) w (W3.setCell ⟨w.heap.size, 0, none⟩ (.slice a n k)) := ((Kx.of_below k1).trans k3).setCell _ _ (.inr (Nat.le_refl _)) _
 have r0 := x4.c 0 _ rfl
 go_wp2
 refine bodyPost_ret (by simp [results, Tryz.results35, go_sem, r0]; rfl) rfl ?_
 exact ⟨rfl, s4, k4⟩
end Go.Proofs.YtdlnmnipnkeabaaGreatDoor
namespace Go.Proofs.YtdlnmnipnkeabaaGreatDoor
open Go.RowKit Go.Conc
set_option linter.unusedVariables false
set_option linter.unusedSimpArgs false
theorem eqP1 (c : Nat) (w : World) : (binOp BinOp.eql 49 (.pointer (some ⟨c, 0, none⟩)) (.pointer none)).run Tryz.prog w = .ok (.bool false) w := by kernel_rfl
theorem eqP2 (c : Nat) (w : World) : (binOp BinOp.eql 54 (.pointer (some ⟨c, 0, none⟩)) (.pointer none)).run Tryz.prog w = .ok (.bool false) w := by kernel_rfl
theorem new_any (tv : Value) (R : Option Addr → Nat → Nat → Nat → World → Prop) (w : World)
  (hR : ∀ a n k hi W W', R a n k hi W → Kx (fun b => hi ≤ b) W W' → R a n k hi W')
  (hC : ∀ W, Below w.heap.size w W → Calls Tryz.prog 19 #[tv] W fun e W' => ∃ a n k, e = .returned (.slice a n k) ∧ Hid (R a n k W'.heap.size W') ∧ Below W.heap.size W W') :
  Calls Tryz.prog 16 #[tv, .bool false] w fun e w' => ∃ p B c RB hi a n k, e = .returned (.pointer (some ⟨p, 0, none⟩)) ∧ Hid (w.heap.size ≤ hi ∧ hi ≤ p ∧ hi ≤ B ∧ hi ≤ c ∧ hi ≤ RB ∧ p ≠ B ∧ p ≠ c ∧ RB ≠ p ∧ RB ≠ B ∧ RB ≠ c ∧ Blk w' p [.pointer (some ⟨B, 0, none⟩), .int .i64 0] ∧ StoM w' B c 1 [] (.func (.func 21) #[] #[.pointer (some ⟨RB, 0, none⟩)]) 0 ∧ Blk w' RB [.slice a n k] ∧ R a n k hi w') ∧ Below w.heap.size w w' := by
 have hC1 := hC w (Below.refl _ _)
 have hmf : ∀ (fn : Fn) (first cap : Array Value) (w : World), (Instr.makeFunc fn first cap).run Tryz.prog w = .ok (.func fn first cap) w := fun _ _ _ _ => rfl
 have hN := fun RB W => newm_1 (.func 21) #[] #[.pointer (some ⟨RB, 0, none⟩)] W
 go_enter Tryz.func16, Tryz.ntmps16
 go_upto_region 2 with (first | (go_at_call 19; refine hC1.mono ?_; rintro e W1 ⟨a, n, k, rfl, hR1, b1⟩; have hs1 := b1.size))
 obtain ⟨W2, hW2⟩ : ∃ W2, W2 = W1.alloc (.cells #[.slice a n k] 35) := ⟨_, rfl⟩
 have b2 : Below W1.heap.size W1 W2 := by rw [hW2]; exact (Below.refl _ _).alloc (Nat.le_refl _) _
 have x2 : Blk W2 W1.heap.size [.slice a n k] := by rw [hW2]; exact Blk.new _ [_] _
 rw [← hW2]
 clear hW2
 have hs2 := x2.b
 go_wp2_with (go_at_call 20; refine (hN _ _).mono ?_; rintro e W3 ⟨B, c, rfl, hh, b3⟩)
 obtain ⟨hB, hc, s3⟩ := hh.out
 have hs3 := b3.size
 have b4 : Below W3.heap.size W3 (W3.alloc (.cells #[.pointer (some ⟨B, 0, none⟩), .int .i64 0] 60)) := (Below.refl _ _).alloc (Nat.le_refl _) _
 have hBl := s3.bx.b
 have hcl := s3.cb
 go_ret
 refine ⟨W3.heap.size, B, c, W1.heap.size, W1.heap.size, a, n, k, rfl, ⟨hs1, by omega, by omega, by omega, Nat.le_refl _, by omega, by omega, by omega, by omega, by omega, Blk.new _ [_, _] _, s3.up b4, (x2.up b3).up b4, ?_⟩, ?_⟩
 ·exact hR _ _ _ _ _ _ hR1.out (((Kx.of_below b2).trans (.of_below b3)).trans (.of_below b4))
 ·exact ((b1.trans (b2.mono hs1)).trans (b3.mono (by omega))).trans (b4.mono (by omega))
theorem leaves_tmps {P : Program} {fn : Func} {t t' : Array Value} {R : Ending → World → Prop} (h : results fn t = results fn t') : ∀ (ds : List Deferred) (u : FrameMode) (w : World), Leaves P fn t R ds u w → Leaves P fn t' R ds u w
 | [], .returning, w, ⟨v, h1, h2⟩ => ⟨v, by rw [← h]; exact h1, h2⟩
 | [], .panicking _, _, h1 => h1
 | [], .run, _, h1 => h1
 | d :: ds, u, w, ⟨h1, fv, cap, f, args, h2, h3, h4⟩ => ⟨h1, fv, cap, f, args, h2, h3, h4.mono fun e u' w' => by
     cases e with
     | returned v => exact leaves_tmps h ds _ _
     | panicked chain => exact leaves_tmps h ds _ _
     | outgrown => exact id⟩
theorem pan_put {R : Ending → World → Prop} {d : Nat} (hd : d ≠ 4) {x : List PanicEntry} {a : Act} {v : Value} {w : World} (h : bodyPostD Tryz.prog Tryz.f27 R (.panic x) (a.put (some d) v) w) : bodyPostD Tryz.prog Tryz.f27 R (.panic x) a w := by
 refine leaves_tmps ?_ _ _ _ h
 simp [results, Tryz.results27, Act.put, Array.getElem?_setIfInBounds, hd]
set_option maxRecDepth 100000 in
theorem call_any (p B c RB fb ab : Nat) (m : Int) (h0 : 0 ≤ m) (h1 : m < 4611686018427387904) (a : Option Addr) (n k : Nat) (T : ByteArray) (w : World) (x : Blk w p [.pointer (some ⟨B, 0, none⟩), .int .i64 m]) (s : StoM w B c 1 [] (.func (.func 21) #[] #[.pointer (some ⟨RB, 0, none⟩)]) m) (r : Blk w RB [.slice a n k])
  (hpB : p ≠ B) (hpc : p ≠ c) (hRp : RB ≠ p)
  (hF : ∀ W, Kx (fun b => b = p ∨ b = B) w W → Calls Tryz.prog 28 #[mkV a n k, .pointer (some ⟨fb, 0, none⟩), .pointer (some ⟨ab, 0, none⟩)] W fun e W' => e = .returned (.string T) ∧ Below W.heap.size W W') :
  Calls Tryz.prog 27 #[.pointer (some ⟨p, 0, none⟩), .func (.func 28) #[] #[.pointer (some ⟨fb, 0, none⟩), .pointer (some ⟨ab, 0, none⟩)]] w fun e w' => e = .returned (.string T) ∧ Kx (fun b => b = p ∨ b = B ∨ b = c) w w' := by
 have c0 := x.c 0 _ rfl
 have c1 := x.c 1 _ rfl
 have z1 := x.z 1
 have hn1 := fun w => eqP1 p w
 have hn2 := fun w => eqP2 B w
 have hp := x.b
 have hB := s.bx.b
 have hc := s.cb
 have hR := r.b
 have x1 := x.one 1 (.int .i64 (m + 1)) (by simp)
 have k1 : Kx (fun b => b = p) w (w.setCell ⟨p, 1, none⟩ (.int .i64 (m + 1))) := (Kx.refl (fun b => b = p) _).setCell _ _ (.inl rfl) _
 have s1 := s.kx k1 (fun e => hpB e.symm) (fun e => hpc e.symm)
 have r1 := r.kx k1 hRp
 have hG := fun W h => getm_any (w := W) (B := B) (c := c) (cap := 1) (m := m) (RB := RB) h h0 (by omega) a n k
 go_enter_defers Tryz.func27, Tryz.ntmps27
 go_upto_region 4 with fail
 generalize w.setCell ⟨p, 1, none⟩ (.int .i64 (m + 1)) = W1 at *
 have d0 := x1.c 0 _ rfl
 have hG1 := hG W1 s1 (r1.c 0 _ rfl)
 have hs1 := k1.size
 go_upto_region 5 with (go_at_call 35; refine hG1.mono ?_; rintro e W2 ⟨rfl, s2, k2⟩)
 obtain ⟨W3, hW3⟩ : ∃ W3, W3 = W2.alloc (.cells #[.slice a n k] 57) := ⟨_, rfl⟩
 have k3 : Below W2.heap.size W2 W3 := by rw [hW3]; exact (Below.refl _ _).alloc (Nat.le_refl _) _
 have y3 : Blk W3 W2.heap.size [.slice a n k] := by rw [hW3]; exact Blk.new _ [_] _
 rw [← hW3]
 clear hW3
 have x2 := x1.kx k2 hpB
 have x3 := x2.up k3
 have g0 := x3.c 0 _ rfl
 have g1 := y3.c 0 _ rfl
 have s3 := s2.up k3
 have k03 : Kx (fun b => b = p ∨ b = B) w W3 := ((k1.mono fun _ _ h => Or.inl h).trans (k2.mono fun _ _ h => Or.inr h)).trans (.of_below k3)
 clear c0 c1 z1 d0 hG hG1 x1 x2 s1 s2 r1 s r x k1
 obtain ⟨Yd, hYd⟩ : ∃ Yd, Yd = W3.drew := ⟨_, rfl⟩
 have bY : Below W3.heap.size W3 Yd := by rw [hYd]; exact (Below.refl _ _).drew
 refine wp_region_held_drew (S := fun w' : World => w'.cell? ⟨p, 0, none⟩ = some (.pointer (some ⟨B, 0, none⟩)) ∧ w'.cell? ⟨W2.heap.size, 0, none⟩ = some (.slice a n k)) (by kernel_rfl) (by exact ⟨g0, g1⟩) ?_
 have sY : Yd.cell? ⟨p, 0, none⟩ = some (.pointer (some ⟨B, 0, none⟩)) ∧ Yd.cell? ⟨W2.heap.size, 0, none⟩ = some (.slice a n k) := by rw [hYd]; exact ⟨g0, g1⟩
 rw [← hYd]
 clear hYd g0 g1
 intro hS
 refine wpAnyH_take (i := 0) (v := .pointer (some ⟨p, 0, none⟩)) rfl (by kernel_rfl) (by kernel_rfl) (by kernel_rfl) (fun _ _ _ h => pan_put (by decide) h) (Or.inl ⟨by rfl, ?_⟩) (by assumption) ?_
 ·intro w5 s0
  obtain ⟨s1, s2⟩ := s0
  go_simp
 try simp only [Act.put, List.getElem_toArray, List.getElem_cons_zero, List.getElem_cons_succ, List.setIfInBounds_toArray, List.set_cons_zero, List.set_cons_succ, List.length_cons]
 refine wpAnyH_take (i := 1) (v := .pointer (some ⟨p, 0, none⟩)) rfl (by kernel_rfl) (by kernel_rfl) (by kernel_rfl) (fun _ _ _ h => pan_put (by decide) h) (Or.inl ⟨by rfl, ?_⟩) (by assumption) ?_
 ·intro w5 s0
  obtain ⟨s1, s2⟩ := s0
  go_simp
 try simp only [Act.put, List.getElem_toArray, List.getElem_cons_zero, List.getElem_cons_succ, List.setIfInBounds_toArray, List.set_cons_zero, List.set_cons_succ, List.length_cons]
 refine wpAnyH_take (i := 2) (v := .pointer (some ⟨p, 0, none⟩)) rfl (by kernel_rfl) (by kernel_rfl) (by kernel_rfl) (fun _ _ _ h => pan_put (by decide) h) (Or.inl ⟨by rfl, ?_⟩) (by assumption) ?_
 ·intro w5 s0
  obtain ⟨s1, s2⟩ := s0
  go_simp
 try simp only [Act.put, List.getElem_toArray, List.getElem_cons_zero, List.getElem_cons_succ, List.setIfInBounds_toArray, List.set_cons_zero, List.set_cons_succ, List.length_cons]
 refine wpAnyH_take (i := 3) (v := .pointer (some ⟨B, 0, none⟩)) rfl (by kernel_rfl) (by kernel_rfl) (by kernel_rfl) (fun _ _ _ h => pan_put (by decide) h) (Or.inl ⟨by rfl, ?_⟩) (by assumption) ?_
 ·intro w5 s0
  obtain ⟨s1, s2⟩ := s0
  go_simp
 try simp only [Act.put, List.getElem_toArray, List.getElem_cons_zero, List.getElem_cons_succ, List.setIfInBounds_toArray, List.set_cons_zero, List.set_cons_succ, List.length_cons]
 refine wpAnyH_take (i := 4) (v := mkV a n k) rfl (by kernel_rfl) (by kernel_rfl) (by kernel_rfl) (fun _ _ _ h => pan_put (by decide) h) (Or.inl ⟨by rfl, ?_⟩) (by assumption) ?_
 ·intro w5 s0
  obtain ⟨s1, s2⟩ := s0
  go_simp
 try simp only [Act.put, List.getElem_toArray, List.getElem_cons_zero, List.getElem_cons_succ, List.setIfInBounds_toArray, List.set_cons_zero, List.set_cons_succ, List.length_cons]
 refine rd1 5 (by kernel_rfl) rfl fun K hK => ?_
 go_simp
 refine hK.out _ _ sY (fun _ => ?_)
 clear hK
 try simp only [Act.put, List.getElem_toArray, List.getElem_cons_zero, List.getElem_cons_succ, List.setIfInBounds_toArray, List.set_cons_zero, List.set_cons_succ, List.length_cons]
 refine wpAnyH_done (by kernel_rfl) ?_ _
 have hY := hF Yd (k03.trans (.of_below bY))
 have g1 := sY.2
 go_wp2_with (go_at_call 28; refine hY.mono ?_; rintro e W6 ⟨rfl, b6⟩)
 have s6 := (s3.up bY).up b6
 refine leaves_cons (f := 36) (args := #[.pointer (some ⟨B, 0, none⟩), mkV a n k]) (by simp) (by simp [go_sem]) ?_
 refine (putm_room s6 a n k _ (by simp)).mono ?_
 rintro e u' w7 ⟨rfl, rfl, s7, k7⟩
 refine ⟨.string T, ?_, rfl, ?_⟩
 ·simp [results, Tryz.results27, go_sem]
 ·exact (((k03.trans (.of_below bY)).trans (.of_below b6)).mono fun _ _ h => h.elim Or.inl fun h => Or.inr (Or.inl h)).trans (k7.mono fun _ _ h => Or.inr (Or.inr h))
theorem render1_any (a : Option Addr) (n k fb ab : Nat) (f : ByteArray) (av : Value) (T : ByteArray) (w : World) (h1 : w.cell? ⟨fb, 0, none⟩ = some (.string f)) (h2 : w.cell? ⟨ab, 0, none⟩ = some av) (h3 : ∃ x y z, av = .slice x y z)
  (hS : ∀ W, Below w.heap.size w W → Calls Tryz.prog 29 #[.slice a n k, .string f, av] W fun e W' => e = .returned (.string T) ∧ Below W.heap.size W W') :
  Calls Tryz.prog 28 #[mkV a n k, .pointer (some ⟨fb, 0, none⟩), .pointer (some ⟨ab, 0, none⟩)] w fun e w' => e = .returned (.string T) ∧ Below w.heap.size w w' := by
 obtain ⟨x, y, z, rfl⟩ := h3
 obtain ⟨W1, hW1⟩ : ∃ W1, W1 = w.alloc (.cells #[.slice a n k] 57) := ⟨_, rfl⟩
 have k1 : Below w.heap.size w W1 := by rw [hW1]; exact (Below.refl _ _).alloc (Nat.le_refl _) _
 have x1 : Blk W1 w.heap.size [.slice a n k] := by rw [hW1]; exact Blk.new _ [_] _
 have d0 := x1.c 0 _ rfl
 have d1 := up_cell k1 h1
 have d2 := up_cell k1 h2
 have hS1 := hS W1 k1
 go_enter Tryz.func28, Tryz.ntmps28
 go_upto_region 1 with fail
 rw [← hW1]
 clear hW1 hS h1 h2
 go_wp2_with (go_at_call 29; refine hS1.mono ?_; rintro e W2 ⟨rfl, b2⟩)
 go_ret
 exact ⟨rfl, k1.trans (b2.mono k1.size)⟩
theorem sprintf_q (p B c RB : Nat) (a : Option Addr) (n k : Nat) (f : ByteArray) (av : Value) (T : ByteArray) (w : World) (h3 : ∃ x y z, av = .slice x y z)
  (x1 : Blk w p [.pointer (some ⟨B, 0, none⟩), .int .i64 0]) (s1 : StoM w B c 1 [] (.func (.func 21) #[] #[.pointer (some ⟨RB, 0, none⟩)]) 0) (r1 : Blk w RB [.slice a n k]) (a6 : p ≠ B) (a7 : p ≠ c) (a8 : RB ≠ p)
  (hS : ∀ W, Kx (fun b => b = p ∨ b = B) w W → Calls Tryz.prog 29 #[.slice a n k, .string f, av] W fun e W' => e = .returned (.string T) ∧ Below W.heap.size W W') :
  Calls Tryz.prog 17 #[.pointer (some ⟨p, 0, none⟩), .string f, av] w fun e w' => e = .returned (.string T) ∧ Kx (fun b => b = p ∨ b = B ∨ b = c) w w' := by
 obtain ⟨W2, hW2⟩ : ∃ W2, W2 = (w.alloc (.cells #[.string f] 9)).alloc (.cells #[av] 25) := ⟨_, rfl⟩
 have b2 : Below w.heap.size w W2 := by rw [hW2]; exact ((Below.refl _ _).alloc (Nat.le_refl _) _).alloc (by simp) _
 have d1 : Blk W2 w.heap.size [.string f] := by rw [hW2]; exact (Blk.new w [_] _).alloc _
 have d2 : Blk W2 (w.heap.size + 1) [av] := by
  rw [hW2]
  have := Blk.new (w.alloc (.cells #[.string f] 9)) [av] 25
  simpa using this
 have hp := x1.b
 have hB := s1.bx.b
 have hc := call_any p B c RB w.heap.size (w.heap.size + 1) 0 (by decide) (by decide) a n k T W2 (x1.up b2) (s1.up b2) (r1.up b2) a6 a7 a8 (fun W kW => by
  have e1 := (d1.kx kW (by omega)).c 0 _ rfl
  have e2 := (d2.kx kW (by omega)).c 0 _ rfl
  exact render1_any a n k w.heap.size (w.heap.size + 1) f av T W e1 e2 h3 fun W' bW' => hS W' (((Kx.of_below b2).trans kW).trans (.of_below bW')))
 have hRe : Calls Tryz.prog 22 #[.pointer (some ⟨p, 0, none⟩), .string f, av] w fun e w' => e = .returned (.string T) ∧ Kx (fun b => b = p ∨ b = B ∨ b = c) w w' := by
  obtain ⟨x, y, z, rfl⟩ := h3
  have hmf : ∀ (fn : Fn) (first cap : Array Value) (w : World), (Instr.makeFunc fn first cap).run Tryz.prog w = .ok (.func fn first cap) w := fun _ _ _ _ => rfl
  go_enter Tryz.func22, Tryz.ntmps22
  go_upto_region 1 with fail
  rw [← hW2]
  clear hW2
  go_wp2_with (go_at_call 27; refine hc.mono ?_; rintro e W3 ⟨rfl, k3⟩)
  go_ret
  exact ⟨rfl, (Kx.of_below b2).trans k3⟩
 clear hc hS
 obtain ⟨x, y, z, rfl⟩ := h3
 go_enter Tryz.func17, Tryz.ntmps17
 go_wp2_with (go_at_call 22; refine hRe.mono ?_; rintro e W3 ⟨rfl, b3⟩)
 go_ret
 exact ⟨rfl, b3⟩
theorem print_any (tv : Value) (R : Option Addr → Nat → Nat → Nat → World → Prop) (f : ByteArray) (av : Value) (T : ByteArray) (w : World) (h3 : ∃ x y z, av = .slice x y z)
  (hR : ∀ a n k hi W W', R a n k hi W → Kx (fun b => hi ≤ b) W W' → R a n k hi W')
  (hC : ∀ W, Below w.heap.size w W → Calls Tryz.prog 19 #[tv] W fun e W' => ∃ a n k, e = .returned (.slice a n k) ∧ Hid (R a n k W'.heap.size W') ∧ Below W.heap.size W W')
  (hS : ∀ a n k hi W, R a n k hi W → w.heap.size ≤ hi → hi ≤ W.heap.size → Below w.heap.size w W → Calls Tryz.prog 29 #[.slice a n k, .string f, av] W fun e W' => e = .returned (.string T) ∧ Below W.heap.size W W') :
  Calls Tryz.prog 9 #[tv, .string f, av] w fun e w' => e = .returned (.string T) ∧ Below w.heap.size w w' := by
 have hN := new_any tv R w hR hC
 have hn := fun p w => eqP1 p w
 have hSp : ∀ p B c RB hi a n k W1, (w.heap.size ≤ hi ∧ hi ≤ p ∧ hi ≤ B ∧ hi ≤ c ∧ hi ≤ RB ∧ p ≠ B ∧ p ≠ c ∧ RB ≠ p ∧ RB ≠ B ∧ RB ≠ c ∧ Blk W1 p [.pointer (some ⟨B, 0, none⟩), .int .i64 0] ∧ StoM W1 B c 1 [] (.func (.func 21) #[] #[.pointer (some ⟨RB, 0, none⟩)]) 0 ∧ Blk W1 RB [.slice a n k] ∧ R a n k hi W1) → Below w.heap.size w W1 →
   Calls Tryz.prog 17 #[.pointer (some ⟨p, 0, none⟩), .string f, av] W1 fun e w' => e = .returned (.string T) ∧ Below w.heap.size w w' := by
  rintro p B c RB hi a n k W1 ⟨a1, a2, a3, a4, a5, a6, a7, a8, a9, a10, x1, s1, r1, R1⟩ b1
  have hs1 := b1.size
  have hp := x1.b
  refine (sprintf_q p B c RB a n k f av T W1 h3 x1 s1 r1 a6 a7 a8 (fun W kW => hS a n k hi W (hR _ _ _ _ _ _ R1 (kW.mono fun b _ h => by rcases h with rfl | rfl <;> omega)) a1 (by have := kW.size; omega) (b1.trans (kW.below (fun b h => by rcases h with rfl | rfl <;> omega) hs1)))).mono ?_
  rintro e w' ⟨rfl, k3⟩
  exact ⟨rfl, b1.trans (k3.below (fun b h => by rcases h with rfl | rfl | rfl <;> omega) hs1)⟩
 clear hC hR hS
 obtain ⟨x, y, z, rfl⟩ := h3
 go_enter Tryz.func9, Tryz.ntmps9
 go_upto_region 2 with (go_at_call 16; refine hN.mono ?_; rintro e W1 ⟨p, B, c, RB, hi, a, n, k, rfl, hh, b1⟩; have hS1 := hSp p B c RB hi a n k W1 hh.out b1)
 go_wp2_with (go_at_call 17; refine hS1.mono ?_; rintro e W3 ⟨rfl, b3⟩)
 go_ret
 exact ⟨rfl, b3⟩
end Go.Proofs.YtdlnmnipnkeabaaGreatDoor
