/- DTree, VVal: these texts in one. -/
import Derived.Test.YtjfmhghpkefihaaGreatDoorDAsk
import Derived.Test.YtjfmhghpkefihaaGreatDoorVMade
import Derived.Test.YtjfmhghpkefihaaGreatDoorVBuild
import Derived.OwnWalk
import Derived.WalkSmall
import Derived.Maps.AppendAt
import Derived.Deep.LoopGhost
namespace Go.Proofs.YtjfmhghpkefihaaGreatDoor
open Go.RowKit
set_option linter.unusedVariables false
set_option linter.unusedSimpArgs false
set_option maxRecDepth 1000000 in
set_option maxHeartbeats 2000000 in
theorem asked_q {B : World → Prop} {P : Nat → Prop} (f : Sq) (v : Value) (g : Nat) (T : ByteArray) (w : World) (hP : ∀ k, P k → k < w.heap.size) (hB : ∀ W W', B W → Kx (fun k => w.heap.size ≤ k) W W' → B W') (hA : ∀ W, Below w.heap.size w W → Calls Tryz.prog 38 #[.pointer (some ⟨g, 0, none⟩), v, SV f] W fun e w' => e = .returned (.tuple #[.string T, .bool true]) ∧ B w' ∧ Kx P W w') :
  Calls Tryz.prog 94 #[WV f (FA g), v] w fun e w' => e = .returned (.tuple #[.string T, .bool true]) ∧ B w' ∧ Kx P w w' := by
 have hq : ∀ w, (binOp .eql 95 (FA g) .nilFunc).run Tryz.prog w = .ok (.bool false) w := fun w => by kernel_rfl
 have hmf : ∀ (fn : Fn) (first cap : Array Value) (w : World), (Instr.makeFunc fn first cap).run Tryz.prog w = .ok (.func fn first cap) w := fun _ _ _ _ => rfl
 obtain ⟨W1, hW1⟩ : ∃ W1, W1 = ((w.alloc (.cells #[.bool f.p, .bool f.mi, .bool f.sh, .bool f.sp, .bool f.z, .int .i64 f.wid, .int .i64 f.prec, .int .i32 f.verb, FA g] 111)).alloc (.cells #[.string ⟨#[]⟩] 9)).alloc (.cells #[.bool false] 4) := ⟨_, rfl⟩
 have b1 : Below w.heap.size w W1 := by rw [hW1]; exact (((Below.refl _ _).alloc (Nat.le_refl _) _).alloc (by simp) _).alloc (by simp; omega) _
 have a1 : At9 W1 w.heap.size f (FA g) := by
  rw [hW1]
  refine ⟨?_, ?_, ?_, ?_, ?_, ?_, ?_, ?_, ?_⟩
  all_goals simp [go_sem]
 have s1 : W1.cell? ⟨w.heap.size + 1, 0, none⟩ = some (.string ⟨#[]⟩) := by rw [hW1]; simp [go_sem]
 have s2 : W1.cell? ⟨w.heap.size + 1 + 1, 0, none⟩ = some (.bool false) := by rw [hW1]; simp [go_sem]
 have y1 : W1.frozen? ⟨w.heap.size + 1, 0, none⟩ = false := by
  rw [hW1, frozen?_alloc_cells, frozen?_alloc_cells, frozen?_alloc_cells]
  exact frozen_none _ _ (by show w.heap.size ≤ w.heap.size + 1; omega)
 have y2 : W1.frozen? ⟨w.heap.size + 1 + 1, 0, none⟩ = false := by
  rw [hW1, frozen?_alloc_cells, frozen?_alloc_cells, frozen?_alloc_cells]
  exact frozen_none _ _ (by show w.heap.size ≤ w.heap.size + 1 + 1; omega)
 have hO := hA W1 b1
 have l1 := lt_of_cell s1
 have l2 := lt_of_cell s2
 obtain ⟨q0, q1, q2, q3, q4, q5, q6, q7, q8⟩ := a1
 go_enter_defers Tryz.func94, Tryz.ntmps94
 go_upto_region 1 with fail
 rw [← hW1]
 clear hW1 hA
 go_wp2_with fail
 refine hO.mono ?_
 rintro e W2 ⟨rfl, hBB, b2⟩
 have k1 := b2.cell s1 (fun h => by have := hP _ h; dsimp only at this; omega)
 have k2 := b2.cell s2 (fun h => by have := hP _ h; dsimp only at this; omega)
 have x1 : W2.frozen? ⟨w.heap.size + 1, 0, none⟩ = false := (World.frozen?_of_block (w := W1) (a := ⟨w.heap.size + 1, 0, none⟩) (b2.block _ l1 (fun h => by have := hP _ h; dsimp only at this; omega))).trans y1
 have x2 : W2.frozen? ⟨w.heap.size + 1 + 1, 0, none⟩ = false := (World.frozen?_of_block (w := W1) (a := ⟨w.heap.size + 1 + 1, 0, none⟩) (b2.block _ l2 (fun h => by have := hP _ h; dsimp only at this; omega))).trans y2
 have bw2 : Kx P w W2 := (Kx.of_below b1).trans b2
 have k2' : ∀ u, (W2.setCell ⟨w.heap.size + 1, 0, none⟩ u).cell? ⟨w.heap.size + 1 + 1, 0, none⟩ = some (.bool false) := fun u => (World.cell?_of_block (w := W2) (Below.heap_setCell _ _ _ _ (by show w.heap.size + 1 + 1 ≠ w.heap.size + 1; omega))).trans k2
 have x2' : ∀ u, (W2.setCell ⟨w.heap.size + 1, 0, none⟩ u).frozen? ⟨w.heap.size + 1 + 1, 0, none⟩ = false := fun u => by rw [World.frozen?_setCell]; exact x2
 have e1 : ∀ u x, ((W2.setCell ⟨w.heap.size + 1, 0, none⟩ u).setCell ⟨w.heap.size + 1 + 1, 0, none⟩ x).cell? ⟨w.heap.size + 1, 0, none⟩ = some u := fun u x => (World.cell?_of_block (w := W2.setCell ⟨w.heap.size + 1, 0, none⟩ u) (Below.heap_setCell _ _ _ _ (by show w.heap.size + 1 ≠ w.heap.size + 1 + 1; omega))).trans (cs_same8 _ _ _ (by rw [k1]; rfl))
 have e2 : ∀ u x, ((W2.setCell ⟨w.heap.size + 1, 0, none⟩ u).setCell ⟨w.heap.size + 1 + 1, 0, none⟩ x).cell? ⟨w.heap.size + 1 + 1, 0, none⟩ = some x := fun u x => cs_same8 _ _ _ (by rw [k2']; rfl)
 clear hO s1 s2 y1 y2 q0 q1 q2 q3 q4 q5 q6 q7 q8 hq
 go_wp2
 refine leaves_cons (f := 130) (args := #[.pointer (some ⟨w.heap.size + 1, 0, none⟩), .pointer (some ⟨w.heap.size + 1 + 1, 0, none⟩)]) (by simp) (by simp [go_sem]) ?_
 refine (catch14_idle _ _ _).mono ?_
 rintro e u' w'' ⟨rfl, rfl, rfl⟩
 refine ⟨.tuple #[.string T, .bool true], ?_, rfl, hB _ _ hBB (((Kx.refl _ _).setCell _ _ (Or.inl (by omega)) _).setCell _ _ (Or.inl (by omega)) _), (bw2.setCell _ _ (Or.inr (by omega)) _).setCell _ _ (Or.inr (by omega)) _⟩
 simp [results, Tryz.results94, go_sem, e1, e2]
set_option maxRecDepth 1000000 in
set_option maxHeartbeats 2000000 in
theorem written_q {B : World → Prop} {P : Nat → Prop} (f : Sq) (ask v : Value) (depth : Int) (w : World) (T : ByteArray)
  (hA0 : ∀ W, Below w.heap.size w W → Calls Tryz.prog 94 #[WV f ask, v] W fun e W' => e = .returned (.tuple #[.string T, .bool true]) ∧ B W' ∧ Kx P W W')
  (hS : ∀ W, Below w.heap.size w W → Calls Tryz.prog 92 #[v] W fun e W' => (∃ t x, e = .returned (.iface t x)) ∧ Below W.heap.size W W') :
  Calls Tryz.prog 54 #[WV f ask, v, .int .i64 depth] w fun e w' => e = .returned (.string T) ∧ B w' ∧ Kx P w w' := by
 have hne : ∀ (t : TypeId) (x : Value) w, (binOp .eql 20 (.iface t x) .nilIface).run Tryz.prog w = .ok (.bool false) w := fun t x w => by kernel_rfl
 obtain ⟨W1, hW1⟩ : ∃ W1, W1 = w.alloc (.cells #[.bool f.p, .bool f.mi, .bool f.sh, .bool f.sp, .bool f.z, .int .i64 f.wid, .int .i64 f.prec, .int .i32 f.verb, ask] 111) := ⟨_, rfl⟩
 have b1 : Below w.heap.size w W1 := by rw [hW1]; exact (Below.refl _ _).alloc (Nat.le_refl _) _
 have a1 : At9 W1 w.heap.size f ask := by
  rw [hW1]
  refine ⟨?_, ?_, ?_, ?_, ?_, ?_, ?_, ?_, ?_⟩
  all_goals simp [go_sem]
 have hS1 := hS W1 b1
 go_enter Tryz.func54, Tryz.ntmps54
 go_upto_region 1 with fail
 rw [← hW1]
 clear hW1
 obtain ⟨X, hX⟩ : ∃ X, w.heap.size = X := ⟨_, rfl⟩
 have HX : Unit → w.heap.size = X := fun _ => hX
 rw [hX] at a1
 simp only [hX]
 clear hX hS
 go_upto_region 2 with (go_at_call 92; refine hS1.mono ?_; rintro e W2 ⟨⟨t, x, rfl⟩, b2⟩)
 have b02 : Below w.heap.size w W2 := b1.trans (b2.mono b1.size)
 have hA := hA0 W2 b02
 have a2 := a1.up b2
 obtain ⟨q0, q1, q2, q3, q4, q5, q6, q7, q8⟩ := id a2
 clear hS1
 go_wp2_with (go_at_call 94; refine hA.mono ?_; rintro e W3 ⟨rfl, h3, b3⟩)
 go_ret
 exact ⟨rfl, h3, (Kx.of_below b02).trans b3⟩
set_option maxRecDepth 1000000 in
theorem show_q {B : World → Prop} {P : Nat → Prop} (f : Sq) (hv : ¬ f.verb = 84) (v ask : Value) (T : ByteArray) (w : World) (ha : ∃ a b c, ask = .func a b c)
  (hW : ∀ W, Below w.heap.size w W → Calls Tryz.prog 54 #[WV f ask, v, .int .i64 0] W fun e w' => e = .returned (.string T) ∧ B w' ∧ Kx P W w') :
  Calls Tryz.prog 37 #[v, SV f, ask] w fun e w' => e = .returned (.string T) ∧ B w' ∧ Kx P w w' := by
 obtain ⟨a, b, c, rfl⟩ := ha
 obtain ⟨W1, hW1⟩ : ∃ W1, W1 = w.alloc (.cells #[.bool f.p, .bool f.mi, .bool f.sh, .bool f.sp, .bool f.z, .int .i64 f.wid, .int .i64 f.prec, .int .i32 f.verb] 67) := ⟨_, rfl⟩
 have b1 : Below w.heap.size w W1 := by rw [hW1]; exact (Below.refl _ _).alloc (Nat.le_refl _) _
 have q0 : W1.cell? ⟨w.heap.size, 0, none⟩ = some (.bool f.p) ∧ W1.cell? ⟨w.heap.size, 1, none⟩ = some (.bool f.mi) ∧ W1.cell? ⟨w.heap.size, 2, none⟩ = some (.bool f.sh) ∧ W1.cell? ⟨w.heap.size, 3, none⟩ = some (.bool f.sp) ∧ W1.cell? ⟨w.heap.size, 4, none⟩ = some (.bool f.z) ∧ W1.cell? ⟨w.heap.size, 5, none⟩ = some (.int .i64 f.wid) ∧ W1.cell? ⟨w.heap.size, 6, none⟩ = some (.int .i64 f.prec) ∧ W1.cell? ⟨w.heap.size, 7, none⟩ = some (.int .i32 f.verb) := by
  rw [hW1]
  refine ⟨?_, ?_, ?_, ?_, ?_, ?_, ?_, ?_⟩
  all_goals simp [go_sem]
 obtain ⟨q0, q1, q2, q3, q4, q5, q6, q7⟩ := q0
 have hW1c := hW W1 b1
 go_enter Tryz.func37, Tryz.ntmps37
 go_upto_region 1 with fail
 rw [← hW1]
 clear hW1 hW
 go_wp2_with (go_at_call 54; refine hW1c.mono ?_; rintro e W2 ⟨rfl, h2, r2⟩)
 go_ret
 exact ⟨rfl, h2, (Kx.of_below b1).trans r2⟩
set_option maxRecDepth 1000000 in
theorem shown_q {B : World → Prop} {P : Nat → Prop} (f : Sq) (hv : ¬ f.verb = 84) (v : Value) (g : Nat) (T : ByteArray) (w : World)
  (hW : ∀ W, Below w.heap.size w W → Calls Tryz.prog 54 #[WV f (FA g), v, .int .i64 0] W fun e w' => e = .returned (.string T) ∧ B w' ∧ Kx P W w') :
  Calls Tryz.prog 24 #[.pointer (some ⟨g, 0, none⟩), v, SV f] w fun e w' => e = .returned (.string T) ∧ B w' ∧ Kx P w w' := by
 have hmf : ∀ (fn : Fn) (first cap : Array Value) (w : World), (Instr.makeFunc fn first cap).run Tryz.prog w = .ok (.func fn first cap) w := fun _ _ _ _ => rfl
 obtain ⟨W1, hW1⟩ : ∃ W1, W1 = w.alloc (.cells #[.bool f.p, .bool f.mi, .bool f.sh, .bool f.sp, .bool f.z, .int .i64 f.wid, .int .i64 f.prec, .int .i32 f.verb] 67) := ⟨_, rfl⟩
 have b1 : Below w.heap.size w W1 := by rw [hW1]; exact (Below.refl _ _).alloc (Nat.le_refl _) _
 have q0 : W1.cell? ⟨w.heap.size, 0, none⟩ = some (.bool f.p) ∧ W1.cell? ⟨w.heap.size, 1, none⟩ = some (.bool f.mi) ∧ W1.cell? ⟨w.heap.size, 2, none⟩ = some (.bool f.sh) ∧ W1.cell? ⟨w.heap.size, 3, none⟩ = some (.bool f.sp) ∧ W1.cell? ⟨w.heap.size, 4, none⟩ = some (.bool f.z) ∧ W1.cell? ⟨w.heap.size, 5, none⟩ = some (.int .i64 f.wid) ∧ W1.cell? ⟨w.heap.size, 6, none⟩ = some (.int .i64 f.prec) ∧ W1.cell? ⟨w.heap.size, 7, none⟩ = some (.int .i32 f.verb) := by
  rw [hW1]
  refine ⟨?_, ?_, ?_, ?_, ?_, ?_, ?_, ?_⟩
  all_goals simp [go_sem]
 obtain ⟨q0, q1, q2, q3, q4, q5, q6, q7⟩ := q0
 have hS := show_q f hv v (FA g) T W1 ⟨_, _, _, rfl⟩ fun W hW' => hW W (b1.trans (hW'.mono b1.size))
 go_enter Tryz.func24, Tryz.ntmps24
 go_upto_region 1 with fail
 rw [← hW1]
 clear hW1 hW
 go_wp2_with (go_at_call 37; refine hS.mono ?_; rintro e W2 ⟨rfl, h2, r2⟩)
 go_ret
 exact ⟨rfl, h2, (Kx.of_below b1).trans r2⟩
end Go.Proofs.YtjfmhghpkefihaaGreatDoor
namespace Go.Proofs.YtjfmhghpkefihaaGreatDoor
open Go.RowKit
set_option linter.unusedVariables false
def nodes : D → List D
 | ⟨kind, ty, bits, imag, text, names, parts, hook⟩ => ⟨kind, ty, bits, imag, text, names, parts, hook⟩ :: (if great kind then parts.flatMap fun x => nodes x else [])
def Vals (R : Value → D → Prop) (S : Nat → Prop) (W : World) (a : Option Addr) (l : List D) : Prop :=
 ∀ (i : Nat) (y : D), l[i]? = some y → ∃ b off t u, a = some ⟨b, off, none⟩ ∧ S b ∧ W.cell? ⟨b, off + i, none⟩ = some (.iface t u) ∧ R (.iface t u) y
def StrsS (S : Nat → Prop) (W : World) (a : Option Addr) (l : List ByteArray) : Prop :=
 ∀ (i : Nat) (s : ByteArray), l[i]? = some s → ∃ b off, a = some ⟨b, off, none⟩ ∧ S b ∧ W.cell? ⟨b, off + i, none⟩ = some (.string s)
def Ents (R : Value → D → Prop) (S : Nat → Prop) (W : World) (a : Option Addr) (l : List (D × D)) : Prop :=
 ∀ (i : Nat) (p : D × D), l[i]? = some p → ∃ b off t u t' u', a = some ⟨b, off, none⟩ ∧ S b ∧ W.cell? ⟨b, off + i * 2, none⟩ = some (.iface t u) ∧ W.cell? ⟨b, off + i * 2 + 1, none⟩ = some (.iface t' u') ∧ R (.iface t u) p.1 ∧ R (.iface t' u') p.2
def VlC (sr : List D → List (D × D)) : Nat → (Nat → Prop) → World → Value → D → Prop
 | 0, _, _, _, _ => False
 | n + 1, S, W, v, d =>
   if d.kind ≤ 17 then v = mdV d
   else if d.kind = 18 then ∃ na nc fa fc, v = .iface 157 (.agg #[.int .i64 d.kind, .string d.ty, .int .i64 d.hook, .slice na d.names.length nc, .slice fa d.parts.length fc]) ∧ d.names.length ≤ nc ∧ nc ≤ maxLen ∧ d.parts.length ≤ fc ∧ fc ≤ maxLen ∧ StrsS S W na d.names ∧ Vals (VlC sr n S W) S W fa d.parts
   else if d.kind = 21 then ∃ fa fc, v = .iface 163 (.agg #[.int .i64 d.kind, .string d.ty, .int .i64 d.hook, .slice fa (sr d.parts).length fc]) ∧ (sr d.parts).length ≤ fc ∧ fc ≤ maxLen ∧ Ents (VlC sr n S W) S W fa (sr d.parts)
   else if d.kind = 22 then ∃ fa fc, v = .iface 165 (.agg #[.int .i64 d.kind, .string d.ty, .int .i64 d.hook, .int .u64 d.bits, .slice fa d.parts.length fc]) ∧ d.parts.length ≤ fc ∧ fc ≤ maxLen ∧ Vals (VlC sr n S W) S W fa d.parts
   else ∃ fa fc, v = .iface 159 (.agg #[.int .i64 d.kind, .string d.ty, .int .i64 d.hook, .slice fa d.parts.length fc]) ∧ d.parts.length ≤ fc ∧ fc ≤ maxLen ∧ Vals (VlC sr n S W) S W fa d.parts
def Kept (S S' : Nat → Prop) (W W' : World) : Prop := ∀ b, S b → b < W.heap.size → S' b ∧ ∀ o, W'.cell? ⟨b, o, none⟩ = W.cell? ⟨b, o, none⟩
theorem Kept.at {S S' : Nat → Prop} {W W' : World} (h : Kept S S' W W') {b o : Nat} {v : Value} (hs : S b) (hc : W.cell? ⟨b, o, none⟩ = some v) : S' b ∧ W'.cell? ⟨b, o, none⟩ = some v :=
 let ⟨h1, h2⟩ := h b hs (lt_of_cell hc); ⟨h1, (h2 o).trans hc⟩
theorem Vals.turn {R R' : Value → D → Prop} {S S' : Nat → Prop} {W W' : World} {a : Option Addr} {l : List D} (h : Vals R S W a l) (hk : Kept S S' W W') (hR : ∀ v y, R v y → R' v y) : Vals R' S' W' a l := by
 intro i y hy
 obtain ⟨b, off, t, u, h1, h2, h3, h4⟩ := h i y hy
 obtain ⟨k1, k2⟩ := hk.at h2 h3
 exact ⟨b, off, t, u, h1, k1, k2, hR _ _ h4⟩
theorem Ents.turn {R R' : Value → D → Prop} {S S' : Nat → Prop} {W W' : World} {a : Option Addr} {l : List (D × D)} (h : Ents R S W a l) (hk : Kept S S' W W') (hR : ∀ v y, R v y → R' v y) : Ents R' S' W' a l := by
 intro i y hy
 obtain ⟨b, off, t, u, t', u', h1, h2, h3, h4, h5, h6⟩ := h i y hy
 obtain ⟨k1, k2⟩ := hk.at h2 h3
 exact ⟨b, off, t, u, t', u', h1, k1, k2, (hk.at h2 h4).2, hR _ _ h5, hR _ _ h6⟩
theorem StrsS.turn {S S' : Nat → Prop} {W W' : World} {a : Option Addr} {l : List ByteArray} (h : StrsS S W a l) (hk : Kept S S' W W') : StrsS S' W' a l := by
 intro i y hy
 obtain ⟨b, off, h1, h2, h3⟩ := h i y hy
 obtain ⟨k1, k2⟩ := hk.at h2 h3
 exact ⟨b, off, h1, k1, k2⟩
theorem VlC.turn {sr : List D → List (D × D)} {S S' : Nat → Prop} {W W' : World} (hk : Kept S S' W W') : ∀ {n : Nat} {v : Value} {d : D}, VlC sr n S W v d → VlC sr n S' W' v d
 | 0, _, _, h => h
 | n + 1, v, d, h => by
   unfold VlC at h ⊢
   split at h
   ·rw [if_pos (by assumption)]; exact h
   rw [if_neg (by assumption)]
   split at h
   ·rw [if_pos (by assumption)]
    obtain ⟨na, nc, fa, fc, h1, h2, h3, h4, h5, h6, h7⟩ := h
    exact ⟨na, nc, fa, fc, h1, h2, h3, h4, h5, h6.turn hk, h7.turn hk fun v y => VlC.turn hk⟩
   rw [if_neg (by assumption)]
   split at h
   ·rw [if_pos (by assumption)]
    obtain ⟨fa, fc, h1, h4, h5, h7⟩ := h
    exact ⟨fa, fc, h1, h4, h5, h7.turn hk fun v y => VlC.turn hk⟩
   rw [if_neg (by assumption)]
   split at h
   ·rw [if_pos (by assumption)]
    obtain ⟨fa, fc, h1, h4, h5, h7⟩ := h
    exact ⟨fa, fc, h1, h4, h5, h7.turn hk fun v y => VlC.turn hk⟩
   rw [if_neg (by assumption)]
   obtain ⟨fa, fc, h1, h4, h5, h7⟩ := h
   exact ⟨fa, fc, h1, h4, h5, h7.turn hk fun v y => VlC.turn hk⟩
theorem Kept.below {S S' : Nat → Prop} {W W' : World} (h : Below W.heap.size W W') (hS : ∀ b, S b → b < W.heap.size → S' b) : Kept S S' W W' := fun b hb hl => ⟨hS b hb hl, fun o => h.cell hl⟩
theorem own_ge8 {w : World} {B : Nat} {e : TypeId} {ao : Option Addr} {n c : Nat} {us : List Value} (h : w.ownsRow B e 1 (.slice ao n c) n us) : ∀ k, Value.ownBlock (.slice ao n c) = some k → B ≤ k := by
 intro k hk
 rcases h.2 with ⟨h1, -⟩ | ⟨g, cap, cur, h1, hB, -⟩
 ·cases h1; cases hk
 ·cases h1
  have : g = k := Option.some.inj hk
  omega
theorem own_lt8 {w : World} {B : Nat} {e : TypeId} {ao : Option Addr} {n c : Nat} {us : List Value} (h : w.ownsRow B e 1 (.slice ao n c) n us) : ∀ k, Value.ownBlock (.slice ao n c) = some k → k < w.heap.size := by
 intro k hk
 rcases h.2 with ⟨h1, -⟩ | ⟨g, cap, cur, h1, hB, hg, -⟩
 ·cases h1; cases hk
 ·cases h1
  have : g = k := Option.some.inj hk
  have := (Array.getElem?_eq_some_iff.1 hg).1
  omega
theorem own_up8 {w w' : World} {B : Nat} {e : TypeId} {v : Value} {n : Nat} {us : List Value} (h : w.ownsRow B e 1 v n us) (b : Below w.heap.size w w') : w'.ownsRow B e 1 v n us := by
 refine ⟨h.1, ?_⟩
 rcases h.2 with h1 | ⟨g, cap, cur, h1, hB, hg, k⟩
 ·exact .inl h1
 ·exact .inr ⟨g, cap, cur, h1, hB, (b.block g (Array.getElem?_eq_some_iff.1 hg).1).trans hg, k⟩
theorem own_slice8 {w : World} {B : Nat} {e : TypeId} {v : Value} {n : Nat} {us : List Value} (h : w.ownsRow B e 1 v n us) : ∃ ao c, v = .slice ao n c ∧ n ≤ c ∧ c ≤ maxLen := by
 rcases h.2 with ⟨h1, rfl⟩ | ⟨g, cap, cur, h1, hB, hg, k1, k2, -⟩
 ·exact ⟨none, 0, h1, Nat.le_refl _, Nat.zero_le _⟩
 ·exact ⟨_, cap, h1, k1, k2⟩
end Go.Proofs.YtjfmhghpkefihaaGreatDoor
