/- Package hooks: what a script tells or throws, and what is caught of it. -/
import Derived.Test.YtbfaapbbhgegiaaDoorXWalkC
import Derived.Defers
import Derived.Recover
namespace Go.Proofs.YtbfaapbbhgegiaaDoor
open Go.RowKit
set_option linter.unusedVariables false
set_option linter.unusedSimpArgs false

set_option maxRecDepth 1000000 in
set_option maxHeartbeats 2000000 in
theorem tells_any (x : Ac) (g : Value) (w : World) : Calls Tryd.prog 42 #[.agg (x.v ++ [g]).toArray] w fun e w' => e = .returned (.string x.t) ∧ Below w.heap.size w w' := by
  obtain ⟨L, hL⟩ : ∃ L, L = x.v ++ [g] := ⟨_, rfl⟩
  have h0 : L[1]? = some (.string x.t) := by rw [hL]; rfl
  obtain ⟨W1, hW1⟩ : ∃ W1, W1 = w.alloc (.cells L.toArray 63) := ⟨_, rfl⟩
  have hb : Blk W1 w.heap.size L := by rw [hW1]; exact Blk.new _ _ _
  have hw1 : Below w.heap.size w W1 := by rw [hW1]; exact (Below.refl _ _).alloc (Nat.le_refl _) _
  have c0 := hb.c 1 _ h0
  rw [← hL]
  clear hL
  generalize x.t = t at *
  go_enter Tryd.func42, Tryd.ntmps42
  go_upto_region 1 with fail
  rw [← hW1]
  clear hW1
  go_wp2
  go_ret
  exact ⟨rfl, hw1⟩
/-- What a script throws. -/
abbrev thV (d : Ds) : Value := .iface 81 (.agg d.v.toArray)
abbrev PT (d : Ds) : List PanicEntry := [{ v := thV d, recovered := false }]
theorem bld_thrown (d : Ds) (w : World) : (Instr.build 81 #[(0, .agg d.v.toArray)]).run Tryd.prog w = .ok (.agg d.v.toArray) w := by
  obtain ⟨a0, a1, a2, a3, a4, ⟨na, nn, nc⟩, ⟨pa, pn, pc⟩, a7⟩ := d
  kernel_rfl
set_option maxRecDepth 1000000 in
set_option maxHeartbeats 2000000 in
theorem throws_any (x : Ac) (g : Value) (w : World) : Calls Tryd.prog 43 #[.agg (x.v ++ [g]).toArray] w fun e w' => e = .panicked (PT x.p) ∧ Below w.heap.size w w' := by
  obtain ⟨L, hL⟩ : ∃ L, L = x.v ++ [g] := ⟨_, rfl⟩
  obtain ⟨W1, hW1⟩ : ∃ W1, W1 = w.alloc (.cells L.toArray 63) := ⟨_, rfl⟩
  have hb : Blk W1 w.heap.size L := by rw [hW1]; exact Blk.new _ _ _
  have hw1 : Below w.heap.size w W1 := by rw [hW1]; exact (Below.refl _ _).alloc (Nat.le_refl _) _
  have hr : W1.rangeAt w.heap.size 4 x.p.v := by
    rw [hL] at hb
    have hb' : Blk W1 w.heap.size ([.int .i64 x.k, .string x.t, .string x.f, .slice x.l.a x.l.n x.l.c] ++ (x.p.v ++ [g])) := hb
    exact Blk.mid hb' rfl
  have hB := fun w => bld_thrown x.p w
  have hl := x.p.len
  rw [← hL]
  clear hL hb
  unfold PT thV
  generalize x.p.v = P at *
  go_enter Tryd.func43, Tryd.ntmps43
  go_upto_region 1 with fail
  rw [← hW1]
  clear hW1
  go_wp2_with (first
    | (refine wpl_ld row_Desc rfl (.tmp 4) rfl (vs := P) rfl hr hl ?_)
    | (refine wpl_bld rfl _ _ rfl [(0, .agg P.toArray)] rfl (hB _) ?_))
  exact ⟨rfl, rfl, hw1⟩
/-- The deferred closure behind a call that returns, and behind one that throws. -/
theorem xcatch_idle (p : Nat) (w : World) (v : Value) (c : w.cell? ⟨p, 0, none⟩ = some v) (z : w.frozen? ⟨p, 0, none⟩ = false) :
    CallsD Tryd.prog 46 #[.pointer (some ⟨p, 0, none⟩)] .returning w fun e u' w' => e = .returned (.tuple #[]) ∧ u' = .returning ∧ w' = w.setCell ⟨p, 0, none⟩ .nilIface := by
  refine callsD_of_wpS Tryd.func46 rfl fun c₀ cs hu => ?_
  apply wpS_region
  simp [wpOpsS, go_sem, recoverD, hu, Tryd.ntmps46, Exit.thenS, c, z]
  exact ⟨rfl, .returning, by rw [← hu], _, results_none rfl _ _ _, rfl, rfl, rfl⟩
theorem xcatch_throw (d : Ds) (p : Nat) (w : World) (v : Value) (c : w.cell? ⟨p, 0, none⟩ = some v) (z : w.frozen? ⟨p, 0, none⟩ = false) :
    CallsD Tryd.prog 46 #[.pointer (some ⟨p, 0, none⟩)] (.panicking (PT d)) w fun e u' w' => e = .returned (.tuple #[]) ∧ u' = .panicking [{ v := thV d, recovered := true }] ∧ w' = w.setCell ⟨p, 0, none⟩ (thV d) := by
  unfold PT thV
  generalize d.v.toArray = D
  refine callsD_of_wpS Tryd.func46 rfl fun c₀ cs hu => ?_
  apply wpS_region
  simp [wpOpsS, go_sem, recoverD, hu, Tryd.ntmps46, Exit.thenS, c, z]
  exact ⟨rfl, _, rfl, _, results_none rfl _ _ _, rfl, rfl, rfl⟩
theorem xgr_below {w w' : World} (hb : Below w.heap.size w w') (row : Option Nat) : w.grownBy w' row := ⟨hb.os, hb.tape, hb.output, hb.size, fun k hk _ => hb.block k hk⟩
theorem xgr_own {w w' : World} {R B o : Nat} (h : w.grownBy w' (some R)) (hB : w.heap.size ≤ B) (v : Value) : w.grownBy (w'.setCell ⟨B, o, none⟩ v) (some R) :=
  ⟨h.os, h.tape, h.output, by simpa [World.setCell] using h.size, fun k hk hne => by rw [Below.heap_setCell _ _ _ _ (by dsimp only; omega)]; exact h.block k hk hne⟩
theorem Blk.other {w : World} {B B' o : Nat} {vs : List Value} (h : Blk w B vs) (hne : B' ≠ B) (v : Value) : Blk (w.setCell ⟨B', o, none⟩ v) B vs := by
  have hB : (w.setCell ⟨B', o, none⟩ v).heap[B]? = w.heap[B]? := Below.heap_setCell _ _ _ _ hne.symm
  exact ⟨fun i u hu => (World.cell?_of_block (w := w) (a := ⟨B, i, none⟩) hB).trans (h.c i u hu), fun i => (World.frozen?_of_block (w := w) (a := ⟨B, i, none⟩) hB).trans (h.z i), by simpa [World.setCell] using h.b⟩
theorem Blk.set {w : World} {B : Nat} {vs : List Value} (h : Blk w B vs) (i : Nat) (hi : i < vs.length) (v : Value) : Blk (w.setCell ⟨B, i, none⟩ v) B (vs.set i v) := by
  refine ⟨fun j u hu => ?_, fun j => (World.frozen?_setCell _ _ _ _).trans (h.z j), by simpa [World.setCell] using h.b⟩
  by_cases e : i = j
  · subst e
    rw [List.getElem?_set_self hi] at hu
    obtain rfl := Option.some.inj hu
    exact World.cell?_setCell_same _ _ _ (h.c i _ (List.getElem?_eq_getElem hi))
  · rw [List.getElem?_set_ne e] at hu
    rw [World.cell?_setCell_other _ _ _ _ (fun k => e (congrArg Addr.off k))]
    exact h.c j u hu
/-- What was asked for: two numbers at X. -/
abbrev Aq (w : World) (X : Nat) (p s : Int) : Prop := Blk w X [.int .i64 p, .int .i64 s]
/-- A function that tells T, and may turn what was asked for. -/
def Fc (w0 : World) (X : Nat) (p s p' s' : Int) (f : Nat) (args : Array Value) (T : ByteArray) : Prop := ∀ W, w0.grownBy W (some X) → Aq W X p s → Calls Tryd.prog f args W fun e W' => e = .returned (.string T) ∧ Aq W' X p' s' ∧ W.grownBy W' (some X)
set_option maxRecDepth 1000000 in
set_option maxHeartbeats 2000000 in
theorem caught_tells {w0 : World} {X : Nat} {p s p' s' : Int} {S S2 : Value} {T : ByteArray} (h : Fc w0 X p s p' s' 42 #[S] T) (w : World) (hg : w0.grownBy w (some X)) (hq : Aq w X p s) :
    Calls Tryd.prog 33 #[.func (.func 42) #[S] #[]] w fun e w' => e = .returned (.tuple #[.string T, .nilIface]) ∧ Aq w' X p' s' ∧ w.grownBy w' (some X) := by
  obtain ⟨W1, hW1⟩ : ∃ W1, W1 = w.alloc (.cells #[.nilIface] 20) := ⟨_, rfl⟩
  have hb : Blk W1 w.heap.size [.nilIface] := by rw [hW1]; exact Blk.new _ _ _
  have hw1 : Below w.heap.size w W1 := by rw [hW1]; exact (Below.refl _ _).alloc (Nat.le_refl _) _
  have g1 : w.grownBy W1 (some X) := xgr_below hw1 _
  have q1 := hq.up hw1
  have hX := hq.b
  have hne : w.heap.size ≠ X := by omega
  have hmf : ∀ (fn : Fn) (first cap : Array Value) (w : World), (Instr.makeFunc fn first cap).run Tryd.prog w = .ok (.func fn first cap) w := fun _ _ _ _ => rfl
  have hc := h W1 (hg.trans g1) q1
  go_enter_defers Tryd.func33, Tryd.ntmps33
  go_upto_region 1 with fail
  rw [← hW1]
  clear hW1
  go_wp2_with fail
  refine hc.mono ?_
  rintro e W2 ⟨rfl, q2, g2⟩
  have b2 := hb.grown g2 hne
  have c2 := b2.c 0 _ rfl
  have z2 := b2.z 0
  go_wp2
  refine leaves_cons (f := 46) (args := #[.pointer (some ⟨w.heap.size, 0, none⟩)]) (by simp) (by simp [go_sem]) ?_
  have b3 := b2.set 0 (by simp) .nilIface
  refine (xcatch_idle _ _ _ (b3.c 0 _ rfl) (b3.z 0)).mono ?_
  rintro e u' w'' ⟨rfl, rfl, rfl⟩
  have b4 := b3.set 0 (by simp) .nilIface
  have r0 := b4.c 0 _ rfl
  refine ⟨.tuple #[.string T, .nilIface], ?_, rfl, (q2.other hne _).other hne _, xgr_own (xgr_own (g1.trans g2) (Nat.le_refl _) _) (Nat.le_refl _) _⟩
  simp [results, Tryd.results33, go_sem, r0]
set_option maxRecDepth 1000000 in
set_option maxHeartbeats 2000000 in
theorem caught_prints {w0 : World} {X : Nat} {p s p' s' : Int} {S S2 : Value} {T : ByteArray} (h : Fc w0 X p s p' s' 44 #[S] T) (w : World) (hg : w0.grownBy w (some X)) (hq : Aq w X p s) :
    Calls Tryd.prog 33 #[.func (.func 44) #[S] #[]] w fun e w' => e = .returned (.tuple #[.string T, .nilIface]) ∧ Aq w' X p' s' ∧ w.grownBy w' (some X) := by
  obtain ⟨W1, hW1⟩ : ∃ W1, W1 = w.alloc (.cells #[.nilIface] 20) := ⟨_, rfl⟩
  have hb : Blk W1 w.heap.size [.nilIface] := by rw [hW1]; exact Blk.new _ _ _
  have hw1 : Below w.heap.size w W1 := by rw [hW1]; exact (Below.refl _ _).alloc (Nat.le_refl _) _
  have g1 : w.grownBy W1 (some X) := xgr_below hw1 _
  have q1 := hq.up hw1
  have hX := hq.b
  have hne : w.heap.size ≠ X := by omega
  have hmf : ∀ (fn : Fn) (first cap : Array Value) (w : World), (Instr.makeFunc fn first cap).run Tryd.prog w = .ok (.func fn first cap) w := fun _ _ _ _ => rfl
  have hc := h W1 (hg.trans g1) q1
  go_enter_defers Tryd.func33, Tryd.ntmps33
  go_upto_region 1 with fail
  rw [← hW1]
  clear hW1
  go_wp2_with fail
  refine hc.mono ?_
  rintro e W2 ⟨rfl, q2, g2⟩
  have b2 := hb.grown g2 hne
  have c2 := b2.c 0 _ rfl
  have z2 := b2.z 0
  go_wp2
  refine leaves_cons (f := 46) (args := #[.pointer (some ⟨w.heap.size, 0, none⟩)]) (by simp) (by simp [go_sem]) ?_
  have b3 := b2.set 0 (by simp) .nilIface
  refine (xcatch_idle _ _ _ (b3.c 0 _ rfl) (b3.z 0)).mono ?_
  rintro e u' w'' ⟨rfl, rfl, rfl⟩
  have b4 := b3.set 0 (by simp) .nilIface
  have r0 := b4.c 0 _ rfl
  refine ⟨.tuple #[.string T, .nilIface], ?_, rfl, (q2.other hne _).other hne _, xgr_own (xgr_own (g1.trans g2) (Nat.le_refl _) _) (Nat.le_refl _) _⟩
  simp [results, Tryd.results33, go_sem, r0]
set_option maxRecDepth 1000000 in
set_option maxHeartbeats 2000000 in
theorem caught_shown {w0 : World} {X : Nat} {p s p' s' : Int} {S S2 : Value} {T : ByteArray} (h : Fc w0 X p s p' s' 49 #[S, S2] T) (w : World) (hg : w0.grownBy w (some X)) (hq : Aq w X p s) :
    Calls Tryd.prog 33 #[.func (.func 49) #[] #[S, S2]] w fun e w' => e = .returned (.tuple #[.string T, .nilIface]) ∧ Aq w' X p' s' ∧ w.grownBy w' (some X) := by
  obtain ⟨W1, hW1⟩ : ∃ W1, W1 = w.alloc (.cells #[.nilIface] 20) := ⟨_, rfl⟩
  have hb : Blk W1 w.heap.size [.nilIface] := by rw [hW1]; exact Blk.new _ _ _
  have hw1 : Below w.heap.size w W1 := by rw [hW1]; exact (Below.refl _ _).alloc (Nat.le_refl _) _
  have g1 : w.grownBy W1 (some X) := xgr_below hw1 _
  have q1 := hq.up hw1
  have hX := hq.b
  have hne : w.heap.size ≠ X := by omega
  have hmf : ∀ (fn : Fn) (first cap : Array Value) (w : World), (Instr.makeFunc fn first cap).run Tryd.prog w = .ok (.func fn first cap) w := fun _ _ _ _ => rfl
  have hc := h W1 (hg.trans g1) q1
  go_enter_defers Tryd.func33, Tryd.ntmps33
  go_upto_region 1 with fail
  rw [← hW1]
  clear hW1
  go_wp2_with fail
  refine hc.mono ?_
  rintro e W2 ⟨rfl, q2, g2⟩
  have b2 := hb.grown g2 hne
  have c2 := b2.c 0 _ rfl
  have z2 := b2.z 0
  go_wp2
  refine leaves_cons (f := 46) (args := #[.pointer (some ⟨w.heap.size, 0, none⟩)]) (by simp) (by simp [go_sem]) ?_
  have b3 := b2.set 0 (by simp) .nilIface
  refine (xcatch_idle _ _ _ (b3.c 0 _ rfl) (b3.z 0)).mono ?_
  rintro e u' w'' ⟨rfl, rfl, rfl⟩
  have b4 := b3.set 0 (by simp) .nilIface
  have r0 := b4.c 0 _ rfl
  refine ⟨.tuple #[.string T, .nilIface], ?_, rfl, (q2.other hne _).other hne _, xgr_own (xgr_own (g1.trans g2) (Nat.le_refl _) _) (Nat.le_refl _) _⟩
  simp [results, Tryd.results33, go_sem, r0]
set_option maxRecDepth 1000000 in
set_option maxHeartbeats 2000000 in
theorem caught_throws {X : Nat} {p s : Int} (x : Ac) (g : Value) (w : World) (hq : Aq w X p s) :
    Calls Tryd.prog 33 #[.func (.func 43) #[.agg (x.v ++ [g]).toArray] #[]] w fun e w' => e = .returned (.tuple #[.string ⟨#[]⟩, thV x.p]) ∧ Aq w' X p s ∧ w.grownBy w' (some X) := by
  obtain ⟨W1, hW1⟩ : ∃ W1, W1 = w.alloc (.cells #[.nilIface] 20) := ⟨_, rfl⟩
  have hb : Blk W1 w.heap.size [.nilIface] := by rw [hW1]; exact Blk.new _ _ _
  have hw1 : Below w.heap.size w W1 := by rw [hW1]; exact (Below.refl _ _).alloc (Nat.le_refl _) _
  have g1 : w.grownBy W1 (some X) := xgr_below hw1 _
  have q1 := hq.up hw1
  have hX := hq.b
  have hne : w.heap.size ≠ X := by omega
  have hmf : ∀ (fn : Fn) (first cap : Array Value) (w : World), (Instr.makeFunc fn first cap).run Tryd.prog w = .ok (.func fn first cap) w := fun _ _ _ _ => rfl
  have hc := throws_any x g W1
  generalize (x.v ++ [g]).toArray = S at *
  go_enter_defers Tryd.func33, Tryd.ntmps33
  go_upto_region 1 with fail
  rw [← hW1]
  clear hW1
  go_wp2_with fail
  refine hc.mono ?_
  rintro e W2 ⟨rfl, hw2⟩
  have q2 := q1.up hw2
  have b2 := hb.up hw2
  have c2 := b2.c 0 _ rfl
  have z2 := b2.z 0
  refine leaves_cons (f := 46) (args := #[.pointer (some ⟨w.heap.size, 0, none⟩)]) (by simp) (by simp [go_sem]) ?_
  refine (xcatch_throw _ _ _ _ c2 z2).mono ?_
  rintro e u' w'' ⟨rfl, rfl, rfl⟩
  have b4 := b2.set 0 (by simp) (thV x.p)
  have r0 := b4.c 0 _ rfl
  refine ⟨.tuple #[.string ⟨#[]⟩, thV x.p], ?_, rfl, (q2.other hne _), xgr_own (g1.trans (xgr_below hw2 _)) (Nat.le_refl _) _⟩
  unfold thV at *
  generalize x.p.v.toArray = D at *
  simp [results, Tryd.results33, go_sem, r0]
end Go.Proofs.YtbfaapbbhgegiaaDoor
