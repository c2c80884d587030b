/- The law ValuesOrders: its contracts laid into its walk. -/
import Derived.Test.YtjphklhfigammaaDoorVBuilt
import Derived.Test.YtjphklhfigammaaDoorVRankB
import Derived.Test.YtjphklhfigammaaDoorVCmp
import Derived.Test.YtjphklhfigammaaDoorVDocA
namespace Go.Proofs.YtjphklhfigammaaDoor
open Go.RowKit
set_option linter.unusedVariables false
set_option linter.unusedSimpArgs false


set_option maxRecDepth 1000000 in
set_option maxHeartbeats 8000000 in
theorem osame_no (d e : D) (na pa ma qa : Option Addr) (nl nc pl pc ml mc ql qc : Nat) (w : World)
    (h : d.kind ≠ e.kind ∨ (d.kind = e.kind ∧ d.ty ≠ e.ty) ∨ (d.kind = e.kind ∧ d.ty = e.ty ∧ d.bits ≠ e.bits) ∨ (d.kind = e.kind ∧ d.ty = e.ty ∧ d.bits = e.bits ∧ d.imag = e.imag ∧ d.text ≠ e.text)) :
    Calls Tryd.prog 11 #[DV d (.slice na nl nc) (.slice pa pl pc), DV e (.slice ma ml mc) (.slice qa ql qc)] w fun x w' => x = .returned (.bool false) ∧ Below w.heap.size w w' := by
  have hba : ∀ {a b : ByteArray}, a ≠ b → (a.toList == b.toList) = false := fun {a b} h => by
    rw [beq_eq_false_iff_ne]
    exact fun h2 => h (toList_inj h2)
  have hB : ∀ c1 c2 t1 t2, Below w.heap.size w ((w.alloc (.cells c1 t1)).alloc (.cells c2 t2)) := fun c1 c2 t1 t2 => ((Below.refl _ _).alloc (Nat.le_refl _) _).alloc (by simp) _
  obtain ⟨k1, s1, b1, i1, x1, n1, p1, o1⟩ := d
  obtain ⟨k2, s2, b2, i2, x2, n2, p2, o2⟩ := e
  simp only at h
  rcases h with h | ⟨h0, h⟩ | ⟨h0, h1, h⟩ | ⟨h0, h1, h2, h3, h⟩
  · have f1 : decide (k1 = k2) = false := decide_eq_false h
    go_enter Tryd.func11, Tryd.ntmps11
    go_wp2
    go_ret
    exact ⟨rfl, hB _ _ _ _⟩
  · subst h0
    have f1 := hba h
    go_enter Tryd.func11, Tryd.ntmps11
    go_wp2
    go_ret
    exact ⟨rfl, hB _ _ _ _⟩
  · subst h0 h1
    have f1 : decide (b1 = b2) = false := decide_eq_false h
    go_enter Tryd.func11, Tryd.ntmps11
    go_wp2
    go_ret
    exact ⟨rfl, hB _ _ _ _⟩
  · subst h0 h1 h2 h3
    have f1 := hba h
    go_enter Tryd.func11, Tryd.ntmps11
    go_wp2
    go_ret
    exact ⟨rfl, hB _ _ _ _⟩

/-- A descriptor without its hook. -/
def unhk (d : D) : D := ⟨d.kind, d.ty, d.bits, d.imag, d.text, d.names, d.parts, 0⟩
theorem RdC.unhk {n : Nat} {W : World} {nv pv : Value} {d : D} (h : RdC n W nv pv d) : RdC n W nv pv (unhk d) := by
  match n, h with
  | n + 1, ⟨⟨f1, f2, f3, f4, f5, f6⟩, h2, h3⟩ => exact ⟨⟨f1, f2, f3, ⟨show (-9223372036854775808 : Int) ≤ 0 by decide, show (0 : Int) ≤ 9223372036854775807 by decide⟩, f5, f6⟩, h2, h3⟩
set_option maxRecDepth 1000000 in
set_option maxHeartbeats 4000000 in
theorem unhooked_any (d : D) (na pa : Option Addr) (nl nc pl pc : Nat) (w : World) :
    Calls Tryd.prog 16 #[DV d (.slice na nl nc) (.slice pa pl pc)] w fun e w' => e = .returned (DV (unhk d) (.slice na nl nc) (.slice pa pl pc)) ∧ Below w.heap.size w w' := by
  obtain ⟨k1, s1, b1, i1, x1, n1, p1, o1⟩ := d
  go_enter Tryd.func16, Tryd.ntmps16
  go_wp2
  go_returns
  exact ⟨rfl, by go_grown⟩
theorem same_eq {n m : Nat} {fa fb : D} {s1 s2 s3 s4 : Value} {Z : World} (e : unhk fa = unhk fb) (h1 : RdC n Z s1 s2 (unhk fa)) (h2 : RdC m Z s3 s4 (unhk fb)) :
    Calls Tryd.prog 11 #[DV (unhk fa) s1 s2, DV (unhk fb) s3 s4] Z fun x w' => x = .returned (.bool true) ∧ Below Z.heap.size Z w' := by
  rw [← e] at h2 ⊢
  exact osame_true n m _ _ _ _ _ Z h1 h2
theorem wpl_bld8 {ops : Array Oper} {rest : List Oper} {op : Oper} {a : Act} {w : World} {Q : Exit → Act → World → Prop} (hgd : op.guard = none) (t : TypeId) (parts : Array (Nat × Operand)) (ho : op.op = .build t parts) {V : Value} (ps : List (Nat × Value))
    (hx : parts.toList.map (fun x => (x.1, a.eval x.2)) = ps) (hb : (Instr.build t ps.toArray).run Tryd.prog w = .ok V w)
    (h : wpList Tryd.prog ops Q rest (a.put op.dst V) w) : wpList Tryd.prog ops Q (op :: rest) a w := by
  have hx' : (parts.map fun (i, x) => (i, a.eval x)) = ps.toArray := by
    rw [← hx]
    apply Array.ext'
    simp
  refine wpList_plain hgd fun K hK => ?_
  unfold Oper.wp execOp
  simp only [ho, hx', hb, Sem.run_bind, Sem.run_pure, Result.andThen_ok]
  exact hK _ _ h
/-- Three descriptors in a row. -/
theorem arr3 (d e f : D) (n1 p1 n2 p2 n3 p3 : Option Addr) (nl1 nc1 pl1 pc1 nl2 nc2 pl2 pc2 nl3 nc3 pl3 pc3 : Nat) :
    ∃ V, ∀ w, (Instr.build 40 #[(0, DV d (.slice n1 nl1 nc1) (.slice p1 pl1 pc1)), (1, DV e (.slice n2 nl2 nc2) (.slice p2 pl2 pc2)), (2, DV f (.slice n3 nl3 nc3) (.slice p3 pl3 pc3))]).run Tryd.prog w = .ok V w ∧
      (Instr.index 40 V (.int .i64 0)).run Tryd.prog w = .ok (DV d (.slice n1 nl1 nc1) (.slice p1 pl1 pc1)) w ∧ (Instr.index 40 V (.int .i64 1)).run Tryd.prog w = .ok (DV e (.slice n2 nl2 nc2) (.slice p2 pl2 pc2)) w ∧ (Instr.index 40 V (.int .i64 2)).run Tryd.prog w = .ok (DV f (.slice n3 nl3 nc3) (.slice p3 pl3 pc3)) w := by
  obtain ⟨k1, s1, b1, i1, x1, m1, q1, o1⟩ := d
  obtain ⟨k2, s2, b2, i2, x2, m2, q2, o2⟩ := e
  obtain ⟨k3, s3, b3, i3, x3, m3, q3, o3⟩ := f
  refine ⟨.agg #[.int .i64 k1, .string s1, .int .u64 b1, .int .u64 i1, .string x1, .slice n1 nl1 nc1, .slice p1 pl1 pc1, .int .i64 o1, .int .i64 k2, .string s2, .int .u64 b2, .int .u64 i2, .string x2, .slice n2 nl2 nc2, .slice p2 pl2 pc2, .int .i64 o2, .int .i64 k3, .string s3, .int .u64 b3, .int .u64 i3, .string x3, .slice n3 nl3 nc3, .slice p3 pl3 pc3, .int .i64 o3], fun w => ⟨?_, ?_, ?_, ?_⟩⟩
  all_goals kernel_rfl
theorem cmpR3 (x y : Rk) : cmpR x y = -1 ∨ cmpR x y = 0 ∨ cmpR x y = 1 := by
  have h1 : ∀ a b, cmpI a b = -1 ∨ cmpI a b = 0 ∨ cmpI a b = 1 := fun a b => by unfold cmpI; (repeat' split) <;> simp
  have h2 : ∀ a b, cmpS a b = -1 ∨ cmpS a b = 0 ∨ cmpS a b = 1 := fun a b => by unfold cmpS; (repeat' split) <;> simp
  unfold cmpR or4
  (repeat' split)
  · exact h1 _ _
  · exact h1 _ _
  · exact h2 _ _
  · exact h2 _ _
/-- How three stand. -/
theorem cmpR_min (x y z : Rk) (h1 : cmpR x y ≤ 0) (h2 : cmpR y z ≤ 0) : cmpR x z = min (cmpR x y) (cmpR y z) := by
  by_cases e1 : cmpR x y = 0
  · rw [(TO.rk.zero _ _).1 e1]
    have : cmpR y y = 0 := (TO.rk.zero _ _).2 rfl
    omega
  by_cases e2 : cmpR y z = 0
  · rw [← (TO.rk.zero _ _).1 e2]
    have : cmpR y y = 0 := (TO.rk.zero _ _).2 rfl
    omega
  have h := TO.rk.trans x y z (by omega) (by omega)
  have := cmpR3 x y
  have := cmpR3 y z
  have := cmpR3 x z
  omega

/-- The laws' built, told at once: q says whether it is there. -/
def BuC (w : World) (d f : D) (r : Rk) (nv pv : Value) : Prop := ∀ W, Below w.heap.size w W → Calls Tryd.prog 7 #[DV d nv pv] W fun e W' => Below W.heap.size W W' ∧
  ∃ v x q na nc pa pc, e = .returned (.tuple #[v, DV x (.slice na x.names.length nc) (.slice pa x.parts.length pc), .bool q]) ∧ Hid (q = true → x = f ∧ RkC v r ∧ ∃ n, RdC n W' (.slice na x.names.length nc) (.slice pa x.parts.length pc) x)
def keyK (k : Int) : Prop := k = 1 ∨ (2 ≤ k ∧ k ≤ 11) ∨ k = 16
def Diff (d e : D) : Prop := d.kind ≠ e.kind ∨ (d.kind = e.kind ∧ d.ty ≠ e.ty) ∨ (d.kind = e.kind ∧ d.ty = e.ty ∧ d.bits ≠ e.bits) ∨ (d.kind = e.kind ∧ d.ty = e.ty ∧ d.bits = e.bits ∧ d.imag = e.imag ∧ d.text ≠ e.text)
theorem idx_of {V : Value} {d e f x : D} {n1 p1 n2 p2 n3 p3 : Option Addr} {nl1 nc1 pl1 pc1 nl2 nc2 pl2 pc2 nl3 nc3 pl3 pc3 : Nat}
    (h : ∀ w, (Instr.index 40 V (.int .i64 0)).run Tryd.prog w = .ok (DV d (.slice n1 nl1 nc1) (.slice p1 pl1 pc1)) w ∧ (Instr.index 40 V (.int .i64 1)).run Tryd.prog w = .ok (DV e (.slice n2 nl2 nc2) (.slice p2 pl2 pc2)) w ∧ (Instr.index 40 V (.int .i64 2)).run Tryd.prog w = .ok (DV f (.slice n3 nl3 nc3) (.slice p3 pl3 pc3)) w)
    (j : Nat) (hj : [d, e, f][j]? = some x) : ∃ na nl nc pa pl pc, ∀ w, (Instr.index 40 V (.int .i64 j)).run Tryd.prog w = .ok (DV x (.slice na nl nc) (.slice pa pl pc)) w := by
  match j, hj with
  | 0, hj => obtain rfl := Option.some.inj hj; exact ⟨_, _, _, _, _, _, fun w => (h w).1⟩
  | 1, hj => obtain rfl := Option.some.inj hj; exact ⟨_, _, _, _, _, _, fun w => (h w).2.1⟩
  | 2, hj => obtain rfl := Option.some.inj hj; exact ⟨_, _, _, _, _, _, fun w => (h w).2.2⟩
  | j + 3, hj => simp at hj
set_option maxRecDepth 1000000 in
set_option maxHeartbeats 16000000 in
theorem orders_core (a b c fa fb fc : D) (ra rb rc : Rk) (ma0 qa0 ma1 qa1 ma2 qa2 : Option Addr) (mc0 qc0 mc1 qc1 mc2 qc2 : Nat) (w : World) (hK : KN w)
    (hA : BuC w a fa ra (.slice ma0 a.names.length mc0) (.slice qa0 a.parts.length qc0)) (hB : BuC w b fb rb (.slice ma1 b.names.length mc1) (.slice qa1 b.parts.length qc1)) (hC : BuC w c fc rc (.slice ma2 c.names.length mc2) (.slice qa2 c.parts.length qc2))
    (hS : Hid (keyK fa.kind → keyK fb.kind → (cmpR ra rb = 0 → unhk fa = unhk fb) ∧ (cmpR ra rb ≠ 0 → Diff (unhk fa) (unhk fb)))) :
    Calls Tryd.prog 4 #[DV a (.slice ma0 a.names.length mc0) (.slice qa0 a.parts.length qc0), DV b (.slice ma1 b.names.length mc1) (.slice qa1 b.parts.length qc1), DV c (.slice ma2 c.names.length mc2) (.slice qa2 c.parts.length qc2)] w fun e w' => e = .returned (.bool true) ∧ Below w.heap.size w w' := by
  obtain ⟨W1, hW1⟩ : ∃ W1, W1 = ((w.alloc (.cells #[.int .i64 a.kind, .string a.ty, .int .u64 a.bits, .int .u64 a.imag, .string a.text, .slice ma0 a.names.length mc0, .slice qa0 a.parts.length qc0, .int .i64 a.hook] 26)).alloc (.cells #[.int .i64 b.kind, .string b.ty, .int .u64 b.bits, .int .u64 b.imag, .string b.text, .slice ma1 b.names.length mc1, .slice qa1 b.parts.length qc1, .int .i64 b.hook] 26)).alloc (.cells #[.int .i64 c.kind, .string c.ty, .int .u64 c.bits, .int .u64 c.imag, .string c.text, .slice ma2 c.names.length mc2, .slice qa2 c.parts.length qc2, .int .i64 c.hook] 26) := ⟨_, rfl⟩
  have b1 : Below w.heap.size w W1 := by rw [hW1]; exact (((Below.refl _ _).alloc (Nat.le_refl _) _).alloc (by simp) _).alloc (by simp; omega) _
  have a1 : At8 W1 w.heap.size 0 a (.slice ma0 a.names.length mc0) (.slice qa0 a.parts.length qc0) := by
    rw [hW1]
    refine ⟨?_, ?_, ?_, ?_, ?_, ?_, ?_, ?_⟩
    all_goals simp [go_sem]
  have a2 : At8 W1 (w.heap.size + 1) 0 b (.slice ma1 b.names.length mc1) (.slice qa1 b.parts.length qc1) := by
    rw [hW1]
    refine ⟨?_, ?_, ?_, ?_, ?_, ?_, ?_, ?_⟩
    all_goals simp [go_sem]
  have a3 : At8 W1 (w.heap.size + 2) 0 c (.slice ma2 c.names.length mc2) (.slice qa2 c.parts.length qc2) := by
    rw [hW1]
    refine ⟨?_, ?_, ?_, ?_, ?_, ?_, ?_, ?_⟩
    all_goals simp [go_sem]
  obtain ⟨X, hX⟩ : ∃ X, w.heap.size = X := ⟨_, rfl⟩
  rw [hX] at a1 a2 a3
  obtain ⟨c0, c1, c2, c3, c4, c5, c6, c7⟩ := a1
  simp only [Nat.zero_add] at c0 c1 c2 c3 c4 c5 c6 c7
  go_enter Tryd.func4, Tryd.ntmps4
  go_upto_region 1 with fail
  rw [← hW1]
  clear hW1
  try simp only [hX]
  go_upto_region 2 with (go_at_call 7; refine (hA _ b1).mono ?_; rintro e W2 ⟨b2, v1, x1, q1, na1, nc1, pa1, pc1, rfl, hq1⟩; obtain ⟨W3, hW3⟩ : ∃ W3, W3 = W2.alloc (.cells #[.int .i64 x1.kind, .string x1.ty, .int .u64 x1.bits, .int .u64 x1.imag, .string x1.text, .slice na1 x1.names.length nc1, .slice pa1 x1.parts.length pc1, .int .i64 x1.hook] 26) := ⟨_, rfl⟩)
  rw [← hW3]
  have b3 : Below W2.heap.size W2 W3 := by rw [hW3]; exact (Below.refl _ _).alloc (Nat.le_refl _) _
  have y1 : At8 W3 W2.heap.size 0 x1 (.slice na1 x1.names.length nc1) (.slice pa1 x1.parts.length pc1) := by
    rw [hW3]
    refine ⟨?_, ?_, ?_, ?_, ?_, ?_, ?_, ?_⟩
    all_goals simp [go_sem]
  obtain ⟨X1, hX1⟩ : ∃ X1, W2.heap.size = X1 := ⟨_, rfl⟩
  rw [hX1] at y1
  try simp only [hX1]
  clear hW3 hX1 c0 c1 c2 c3 c4 c5 c6 c7
  have b13 : Below W1.heap.size W1 W3 := b2.trans (b3.mono b2.size)
  have bW3 : Below w.heap.size w W3 := b1.trans (b13.mono b1.size)
  obtain ⟨c0, c1, c2, c3, c4, c5, c6, c7⟩ := a2.up b13
  simp only [Nat.zero_add] at c0 c1 c2 c3 c4 c5 c6 c7
  go_upto_region 3 with (go_at_call 7; refine (hB _ bW3).mono ?_; rintro e W4 ⟨b4, v2, x2, q2, na2, nc2, pa2, pc2, rfl, hq2⟩; obtain ⟨W5, hW5⟩ : ∃ W5, W5 = W4.alloc (.cells #[.int .i64 x2.kind, .string x2.ty, .int .u64 x2.bits, .int .u64 x2.imag, .string x2.text, .slice na2 x2.names.length nc2, .slice pa2 x2.parts.length pc2, .int .i64 x2.hook] 26) := ⟨_, rfl⟩)
  rw [← hW5]
  have b5 : Below W4.heap.size W4 W5 := by rw [hW5]; exact (Below.refl _ _).alloc (Nat.le_refl _) _
  have y2 : At8 W5 W4.heap.size 0 x2 (.slice na2 x2.names.length nc2) (.slice pa2 x2.parts.length pc2) := by
    rw [hW5]
    refine ⟨?_, ?_, ?_, ?_, ?_, ?_, ?_, ?_⟩
    all_goals simp [go_sem]
  obtain ⟨X2, hX2⟩ : ∃ X2, W4.heap.size = X2 := ⟨_, rfl⟩
  rw [hX2] at y2
  try simp only [hX2]
  clear hW5 hX2 c0 c1 c2 c3 c4 c5 c6 c7
  have b35 : Below W3.heap.size W3 W5 := b4.trans (b5.mono b4.size)
  have bW5 : Below w.heap.size w W5 := bW3.trans (b35.mono bW3.size)
  obtain ⟨c0, c1, c2, c3, c4, c5, c6, c7⟩ := a3.up (b13.trans (b35.mono b13.size))
  simp only [Nat.zero_add] at c0 c1 c2 c3 c4 c5 c6 c7
  go_upto_region 4 with (go_at_call 7; refine (hC _ bW5).mono ?_; rintro e W6 ⟨b6, v3, x3, q3, na3, nc3, pa3, pc3, rfl, hq3⟩; obtain ⟨W7, hW7⟩ : ∃ W7, W7 = W6.alloc (.cells #[.int .i64 x3.kind, .string x3.ty, .int .u64 x3.bits, .int .u64 x3.imag, .string x3.text, .slice na3 x3.names.length nc3, .slice pa3 x3.parts.length pc3, .int .i64 x3.hook] 26) := ⟨_, rfl⟩)
  rw [← hW7]
  have b7 : Below W6.heap.size W6 W7 := by rw [hW7]; exact (Below.refl _ _).alloc (Nat.le_refl _) _
  have y3 : At8 W7 W6.heap.size 0 x3 (.slice na3 x3.names.length nc3) (.slice pa3 x3.parts.length pc3) := by
    rw [hW7]
    refine ⟨?_, ?_, ?_, ?_, ?_, ?_, ?_, ?_⟩
    all_goals simp [go_sem]
  obtain ⟨X3, hX3⟩ : ∃ X3, W6.heap.size = X3 := ⟨_, rfl⟩
  rw [hX3] at y3
  try simp only [hX3]
  clear hW7 hX3 c0 c1 c2 c3 c4 c5 c6 c7 a2 a3
  have b57 : Below W5.heap.size W5 W7 := b6.trans (b7.mono b6.size)
  have bW7 : Below w.heap.size w W7 := bW5.trans (b57.mono bW5.size)
  have hlive := fun (W : World) (h : Below w.heap.size w W) => lives8_any W (hK.up h)
  clear hK
  by_cases hall : q1 = true ∧ q2 = true ∧ q3 = true
  · obtain ⟨rfl, rfl, rfl⟩ := hall
    obtain ⟨e1, r1, n1, d1⟩ := hq1.out rfl
    obtain ⟨e2, r2, n2, d2⟩ := hq2.out rfl
    obtain ⟨e3, r3, n3, d3⟩ := hq3.out rfl
    clear hq1 hq2 hq3 hA hB hC
    subst x1 x2 x3
    have b27 : Below W2.heap.size W2 W7 := (b3.trans (b35.mono b3.size)).trans (b57.mono (Nat.le_trans b3.size b35.size))
    have b47 : Below W4.heap.size W4 W7 := b5.trans (b57.mono b5.size)
    replace d1 := d1.up b27
    replace d2 := d2.up b47
    replace y1 := y1.up (b35.trans (b57.mono b35.size))
    replace y2 := y2.up b57
    obtain ⟨V, hV⟩ := arr3 fa fb fc na1 pa1 na2 pa2 na3 pa3 fa.names.length nc1 fa.parts.length pc1 fb.names.length nc2 fb.parts.length pc2 fc.names.length nc3 fc.parts.length pc3
    have hix := fun j x => idx_of (x := x) (fun w => (hV w).2) j
    replace hV := fun w => (hV w).1
    obtain ⟨c0, c1, c2, c3, c4, c5, c6, c7⟩ := id y1
    obtain ⟨f0, f1, f2, f3, f4, f5, f6, f7⟩ := id y2
    obtain ⟨g0, g1, g2, g3, g4, g5, g6, g7⟩ := id y3
    simp only [Nat.zero_add] at c0 c1 c2 c3 c4 c5 c6 c7 f0 f1 f2 f3 f4 f5 f6 f7 g0 g1 g2 g3 g4 g5 g6 g7
    have h12 := fun W => cmp_any _ _ _ _ r1 r2 W
    have h21 := fun W => cmp_any _ _ _ _ r2 r1 W
    have h23 := fun W => cmp_any _ _ _ _ r2 r3 W
    have h13 := fun W => cmp_any _ _ _ _ r1 r3 W
    have h11 := fun W => cmp_any _ _ _ _ r1 r1 W
    rw [show cmpR ra ra = 0 from (TO.rk.zero _ _).2 rfl] at h11
    rw [show cmpR rb ra = - cmpR ra rb from TO.rk.anti _ _] at h21
    have hmin : Hid (cmpR ra rb ≤ 0 → cmpR rb rc ≤ 0 → cmpR ra rc = min (cmpR ra rb) (cmpR rb rc)) := cmpR_min _ _ _
    have p3 : Hid (cmpR ra rb = -1 ∨ cmpR ra rb = 0 ∨ cmpR ra rb = 1) := cmpR3 _ _
    have q3 : Hid (cmpR rb rc = -1 ∨ cmpR rb rc = 0 ∨ cmpR rb rc = 1) := cmpR3 _ _
    clear r1 r2 r3 b2 b3 b4 b5 b6 b7 b13 b35 b57 b27 b47 d3 bW3 bW5 b1
    generalize cmpR ra rb = p at *
    generalize cmpR rb rc = q at *
    generalize cmpR ra rc = r at *
    go_upto_region 7 with (first
      | (refine wpl_bld8 rfl 40 _ rfl (V := V) [(0, DV fa (.slice na1 fa.names.length nc1) (.slice pa1 fa.parts.length pc1)), (1, DV fb (.slice na2 fb.names.length nc2) (.slice pa2 fb.parts.length pc2)), (2, DV fc (.slice na3 fc.names.length nc3) (.slice pa3 fc.parts.length pc3))] rfl (hV _) ?_))
    clear hV c0 c1 c2 c3 c4 c5 c6 c7 f0 f1 f2 f3 f4 f5 f6 f7 g0 g1 g2 g3 g4 g5 g6 g7 y3
    go_loopg [17, 54] 3 (fun gg z i wr => ∃ j : Nat, i = .int .i64 j ∧ j + gg = 3 ∧ Below W7.heap.size W7 wr ∧ Hid (∀ x ∈ [fa, fb, fc].take j, keyK x.kind))
    case atStart => exact ⟨0, rfl, rfl, Below.refl _ _, fun x hx => by simp at hx⟩
    case round =>
      obtain ⟨j, rfl, hjg, hbl, hky⟩ := hrel
      have bwr : Below w.heap.size w wr := bW7.trans (hbl.mono bW7.size)
      by_cases hlt : j < 3
      · have hltI : (j : Int) < 3 := by omega
        obtain ⟨x, hx⟩ : ∃ x, [fa, fb, fc][j]? = some x := ⟨_, List.getElem?_eq_getElem (by simpa using hlt)⟩
        obtain ⟨xa, xl, xc, za, zl, zc, ix⟩ := hix j x hx
        have hk1 : keyK x.kind → ∀ y ∈ [fa, fb, fc].take (j + 1), keyK y.kind := fun hk y hy => by
          rw [List.take_add_one, hx] at hy
          rcases List.mem_append.1 hy with hy | hy
          · exact hky.out y hy
          · simp at hy; subst hy; exact hk
        obtain ⟨kx, tx, bx, ix2, sx, nx, px, ox⟩ := x
        simp only at hk1 ix
        have bal : ∀ cs t, Below wr.heap.size wr (wr.alloc (.cells cs t)) := fun _ _ => (Below.refl _ _).alloc (Nat.le_refl _) _
        clear hx hix hS hmin p3 q3 hky h12 h21 h23 h13
        by_cases m1 : kx = 1
        · subst m1
          have hk2 : Hid (∀ y ∈ [fa, fb, fc].take (j + 1), keyK y.kind) := hk1 (.inl rfl)
          clear hk1
          go_wp2_with fail
          go_roundg (gk - 1)
          case measure => omega
          case rel => exact ⟨j + 1, by go_num, by omega, hbl.trans ((bal _ _).mono hbl.size), hk2⟩
        have m1d : decide (kx = 1) = false := decide_eq_false m1
        have m1b : (kx != 1) = true := by simpa using m1
        by_cases m2 : 2 ≤ kx ∧ kx ≤ 11
        · have hk2 : Hid (∀ y ∈ [fa, fb, fc].take (j + 1), keyK y.kind) := hk1 (.inr (.inl m2))
          have ew : whoB kx = true := by simp [whoB]; omega
          have hw := fun W => owhole_any kx W
          rw [ew] at hw
          clear hk1 ew m2
          go_wp2_with (go_at_call 14; refine (hw _).mono ?_; rintro e w9 ⟨rfl, rfl⟩)
          go_roundg (gk - 1)
          case measure => omega
          case rel => exact ⟨j + 1, by go_num, by omega, hbl.trans ((bal _ _).mono hbl.size), hk2⟩
        have ew : whoB kx = false := by simp [whoB]; omega
        have hw := fun W => owhole_any kx W
        rw [ew] at hw
        by_cases m3 : kx = 16
        · subst m3
          have hk2 : Hid (∀ y ∈ [fa, fb, fc].take (j + 1), keyK y.kind) := hk1 (.inr (.inr rfl))
          clear hk1 ew
          go_wp2_with (go_at_call 14; refine (hw _).mono ?_; rintro e w9 ⟨rfl, rfl⟩)
          go_roundg (gk - 1)
          case measure => omega
          case rel => exact ⟨j + 1, by go_num, by omega, hbl.trans ((bal _ _).mono hbl.size), hk2⟩
        · have m3d : decide (kx = 16) = false := decide_eq_false m3
          have m3b : (kx != 16) = true := by simpa using m3
          clear hk1 ew m2
          go_wp2_with (first
            | (go_at_call 14; refine (hw _).mono ?_; rintro e w9 ⟨rfl, rfl⟩)
            | (go_at_call 15; refine (h11 _).mono ?_; rintro e Z1 ⟨rfl, z1⟩; have bZ1 : Below w.heap.size w Z1 := bwr.trans (((bal _ _).trans (z1.mono (bal _ _).size)).mono bwr.size))
            | (go_at_call 8; refine (hlive _ bZ1).mono ?_; rintro e Z2 ⟨rfl, z2⟩))
          go_ret
          exact ⟨rfl, bZ1.trans (z2.mono bZ1.size)⟩
      · have hltI : ¬ (j : Int) < 3 := by omega
        obtain rfl : j = 3 := by omega
        have ka : keyK fa.kind := hky.out fa (by simp)
        have kb : keyK fb.kind := hky.out fb (by simp)
        obtain ⟨hs0, hs1⟩ := hS.out ka kb
        clear ka kb hky hS hix h11 hltI hlt hjg
        replace y1 := y1.up hbl
        replace y2 := y2.up hbl
        replace d1 := d1.up hbl
        replace d2 := d2.up hbl
        clear hbl
        go_upto_region 13 with (first
          | (go_at_call 15; (with_reducible refine (h12 _).mono ?_); rintro e Z1 ⟨rfl, z1⟩)
          | (go_at_call 15; (with_reducible refine (h23 _).mono ?_); rintro e Z2 ⟨rfl, z2⟩)
          | (go_at_call 15; (with_reducible refine (h13 _).mono ?_); rintro e Z3 ⟨rfl, z3⟩))
        have g3 : Below wr.heap.size wr Z3 := (z1.trans (z2.mono z1.size)).trans (z3.mono (Nat.le_trans z1.size z2.size))
        replace y1 := y1.up g3
        replace y2 := y2.up g3
        replace d1 := d1.up g3
        replace d2 := d2.up g3
        have bZ3 : Below w.heap.size w Z3 := bwr.trans (g3.mono bwr.size)
        clear h12 h23 h13 z1 z2 z3 g3 bwr
        obtain ⟨Yd, hYd⟩ : ∃ Yd, Yd = Z3.drew := ⟨_, rfl⟩
        have bY : Below w.heap.size w Yd := by rw [hYd]; exact bZ3.drew
        have b3Y : Below Z3.heap.size Z3 Yd := by rw [hYd]; exact (Below.refl _ _).drew
        replace d1 := d1.up b3Y
        replace d2 := d2.up b3Y
        have hu1 := fun W => unhooked_any fa na1 pa1 fa.names.length nc1 fa.parts.length pc1 W
        have hu2 := fun W => unhooked_any fb na2 pa2 fb.names.length nc2 fb.parts.length pc2 W
        have hsm : ∀ s : Bool, (p = 0 ↔ s = true) → ∀ Z, Below Yd.heap.size Yd Z → Calls Tryd.prog 11 #[DV (unhk fa) (.slice na1 fa.names.length nc1) (.slice pa1 fa.parts.length pc1), DV (unhk fb) (.slice na2 fb.names.length nc2) (.slice pa2 fb.parts.length pc2)] Z fun x w' => x = .returned (.bool s) ∧ Below Z.heap.size Z w' := fun s hs Z hZ => by
          cases s with
          | true => exact same_eq (hs0 (hs.2 rfl)) (d1.up hZ).unhk (d2.up hZ).unhk
          | false => exact osame_no _ _ _ _ _ _ _ _ _ _ _ _ _ _ Z (hs1 fun h => by have := hs.1 h; cases this)
        clear hs0 hs1 d1 d2 b3Y bZ3 bW7
        generalize hua : unhk fa = ua at hu1 hsm
        generalize hub : unhk fb = ub at hu2 hsm
        clear hua hub
        rcases p3.out with rfl | rfl | rfl
        · replace hsm := hsm false (by simp)
          clear p3
          try simp only [Int.neg_zero, Int.neg_neg] at h21
          refine wp_region_held_drew (S := fun w' : World => At8 w' X1 0 fa (.slice na1 fa.names.length nc1) (.slice pa1 fa.parts.length pc1) ∧ At8 w' X2 0 fb (.slice na2 fb.names.length nc2) (.slice pa2 fb.parts.length pc2)) (by kernel_rfl) (by exact ⟨y1, y2⟩) ?_
          rw [← hYd]
          have s5 : (fun w' : World => At8 w' X1 0 fa (.slice na1 fa.names.length nc1) (.slice pa1 fa.parts.length pc1) ∧ At8 w' X2 0 fb (.slice na2 fb.names.length nc2) (.slice pa2 fb.parts.length pc2)) Yd := by rw [hYd]; exact ⟨y1, y2⟩
          have hup : ∀ {w1 w2 : World}, (fun w' : World => At8 w' X1 0 fa (.slice na1 fa.names.length nc1) (.slice pa1 fa.parts.length pc1) ∧ At8 w' X2 0 fb (.slice na2 fb.names.length nc2) (.slice pa2 fb.parts.length pc2)) w1 → Below w1.heap.size w1 w2 → (fun w' : World => At8 w' X1 0 fa (.slice na1 fa.names.length nc1) (.slice pa1 fa.parts.length pc1) ∧ At8 w' X2 0 fb (.slice na2 fb.names.length nc2) (.slice pa2 fb.parts.length pc2)) w2 := fun h h' => ⟨h.1.up h', h.2.up h'⟩
          clear hYd
          intro hS1
          refine wpAnyH_take (i := 0) (v := v2) rfl (by kernel_rfl) (by kernel_rfl) (by kernel_rfl) (fun _ _ _ h => h) (Or.inl ⟨by rfl, ?_⟩) (by assumption) ?_
          · intro w5 s0
            go_simp
          try simp only [Act.put, List.getElem_toArray, List.getElem_cons_zero, List.getElem_cons_succ, List.setIfInBounds_toArray, List.set_cons_zero, List.set_cons_succ]
          refine wpAnyH_take (i := 1) (v := v1) rfl (by kernel_rfl) (by kernel_rfl) (by kernel_rfl) (fun _ _ _ h => h) (Or.inl ⟨by rfl, ?_⟩) (by assumption) ?_
          · intro w5 s0
            go_simp
          try simp only [Act.put, List.getElem_toArray, List.getElem_cons_zero, List.getElem_cons_succ, List.setIfInBounds_toArray, List.set_cons_zero, List.set_cons_succ]
          refine wpAnyH_take (i := 3) (v := .int .i64 (-1)) rfl (by kernel_rfl) (by kernel_rfl) (by kernel_rfl) (fun _ _ _ h => h) (Or.inl ⟨by rfl, ?_⟩) (by assumption) ?_
          · intro w5 s0
            go_simp
          try simp only [Act.put, List.getElem_toArray, List.getElem_cons_zero, List.getElem_cons_succ, List.setIfInBounds_toArray, List.set_cons_zero, List.set_cons_succ]
          refine wpAnyH_take (i := 4) (v := .int .i64 1) rfl (by kernel_rfl) (by kernel_rfl) (by kernel_rfl) (fun _ _ _ h => h) (Or.inl ⟨by rfl, ?_⟩) (by assumption) ?_
          · intro w5 s0
            go_simp
            try rfl
          try simp only [Act.put, List.getElem_toArray, List.getElem_cons_zero, List.getElem_cons_succ, List.setIfInBounds_toArray, List.set_cons_zero, List.set_cons_succ]
          refine wpAnyH_ready (rs := [2]) (by kernel_rfl) (by simp) ?_
          refine AllReadyH.cons rfl (fun K1 hK1 => ?_) AllReadyH.nil
          go_simp
          refine (h21 _).mono ?_
          rintro e Z4 ⟨rfl, z4⟩
          have sZ4 := (hup s5) z4
          refine hK1.out _ _ sZ4 (fun _ => ?_)
          clear hK1
          try simp only [Act.put, List.getElem_toArray, List.getElem_cons_zero, List.getElem_cons_succ, List.setIfInBounds_toArray, List.set_cons_zero, List.set_cons_succ]
          refine wpAnyH_ready (rs := [5]) (by kernel_rfl) (by simp) ?_
          refine AllReadyH.cons rfl (fun K2 hK2 => ?_) AllReadyH.nil
          go_simp
          refine hK2.out _ _ sZ4 (fun _ => ?_)
          clear hK2
          try simp only [Act.put, List.getElem_toArray, List.getElem_cons_zero, List.getElem_cons_succ, List.setIfInBounds_toArray, List.set_cons_zero, List.set_cons_succ]
          refine wpAnyH_ready (rs := [6]) (by kernel_rfl) (by simp) ?_
          refine AllReadyH.cons rfl (fun K3 hK3 => ?_) AllReadyH.nil
          go_simp
          refine hK3.out _ _ sZ4 (fun _ => ?_)
          clear hK3
          try simp only [Act.put, List.getElem_toArray, List.getElem_cons_zero, List.getElem_cons_succ, List.setIfInBounds_toArray, List.set_cons_zero, List.set_cons_succ]
          refine wpAnyH_take (i := 7) (v := .int .i64 (-1)) rfl (by kernel_rfl) (by kernel_rfl) (by kernel_rfl) (fun _ _ _ h => h) (Or.inl ⟨by rfl, ?_⟩) (by assumption) ?_
          · intro w5 s0
            go_simp
          try simp only [Act.put, List.getElem_toArray, List.getElem_cons_zero, List.getElem_cons_succ, List.setIfInBounds_toArray, List.set_cons_zero, List.set_cons_succ]
          refine wpAnyH_take (i := 8) (v := .bool false) rfl (by kernel_rfl) (by kernel_rfl) (by kernel_rfl) (fun _ _ _ h => h) (Or.inl ⟨by rfl, ?_⟩) (by assumption) ?_
          · intro w5 s0
            go_simp
          try simp only [Act.put, List.getElem_toArray, List.getElem_cons_zero, List.getElem_cons_succ, List.setIfInBounds_toArray, List.set_cons_zero, List.set_cons_succ]
          refine wpAnyH_take (i := 9) (v := .agg #[.int .i64 fa.kind, .string fa.ty, .int .u64 fa.bits, .int .u64 fa.imag, .string fa.text, .slice na1 fa.names.length nc1, .slice pa1 fa.parts.length pc1, .int .i64 fa.hook]) rfl (by kernel_rfl) (by kernel_rfl) (by kernel_rfl) (fun _ _ _ h => h) (Or.inl ⟨by rfl, ?_⟩) (by assumption) ?_
          · intro w5 s0
            obtain ⟨q0, q1, q2, q3, q4, q5, q6, q7⟩ := s0.1
            simp only [Nat.zero_add] at q0 q1 q2 q3 q4 q5 q6 q7
            clear s0
            go_simp
          try simp only [Act.put, List.getElem_toArray, List.getElem_cons_zero, List.getElem_cons_succ, List.setIfInBounds_toArray, List.set_cons_zero, List.set_cons_succ]
          refine wpAnyH_take (i := 11) (v := .agg #[.int .i64 fb.kind, .string fb.ty, .int .u64 fb.bits, .int .u64 fb.imag, .string fb.text, .slice na2 fb.names.length nc2, .slice pa2 fb.parts.length pc2, .int .i64 fb.hook]) rfl (by kernel_rfl) (by kernel_rfl) (by kernel_rfl) (fun _ _ _ h => h) (Or.inl ⟨by rfl, ?_⟩) (by assumption) ?_
          · intro w5 s0
            obtain ⟨q0, q1, q2, q3, q4, q5, q6, q7⟩ := s0.2
            simp only [Nat.zero_add] at q0 q1 q2 q3 q4 q5 q6 q7
            clear s0
            go_simp
          try simp only [Act.put, List.getElem_toArray, List.getElem_cons_zero, List.getElem_cons_succ, List.setIfInBounds_toArray, List.set_cons_zero, List.set_cons_succ]
          refine wpAnyH_ready (rs := [10]) (by kernel_rfl) (by simp) ?_
          refine AllReadyH.cons rfl (fun K6 hK6 => ?_) AllReadyH.nil
          go_simp
          refine (hu1 _).mono ?_
          rintro e Z5 ⟨rfl, z5⟩
          have sZ5 := (hup sZ4) z5
          refine hK6.out _ _ sZ5 (fun _ => ?_)
          clear hK6
          try simp only [Act.put, List.getElem_toArray, List.getElem_cons_zero, List.getElem_cons_succ, List.setIfInBounds_toArray, List.set_cons_zero, List.set_cons_succ]
          refine wpAnyH_ready (rs := [12]) (by kernel_rfl) (by simp) ?_
          refine AllReadyH.cons rfl (fun K7 hK7 => ?_) AllReadyH.nil
          go_simp
          refine (hu2 _).mono ?_
          rintro e Z6 ⟨rfl, z6⟩
          have sZ6 := (hup sZ5) z6
          refine hK7.out _ _ sZ6 (fun _ => ?_)
          clear hK7
          try simp only [Act.put, List.getElem_toArray, List.getElem_cons_zero, List.getElem_cons_succ, List.setIfInBounds_toArray, List.set_cons_zero, List.set_cons_succ]
          have g6 : Below Yd.heap.size Yd Z6 := (z4.trans (z5.mono z4.size)).trans (z6.mono (Nat.le_trans z4.size z5.size))
          refine wpAnyH_ready (rs := [13]) (by kernel_rfl) (by simp) ?_
          refine AllReadyH.cons rfl (fun K8 hK8 => ?_) AllReadyH.nil
          go_simp
          refine (hsm _ g6).mono ?_
          rintro e Z7 ⟨rfl, z7⟩
          have sZ7 := (hup sZ6) z7
          refine hK8.out _ _ sZ7 (fun _ => ?_)
          clear hK8
          try simp only [Act.put, List.getElem_toArray, List.getElem_cons_zero, List.getElem_cons_succ, List.setIfInBounds_toArray, List.set_cons_zero, List.set_cons_succ]
          refine wpAnyH_ready (rs := [14]) (by kernel_rfl) (by simp) ?_
          refine AllReadyH.cons rfl (fun K9 hK9 => ?_) AllReadyH.nil
          go_simp
          refine hK9.out _ _ sZ7 (fun _ => ?_)
          clear hK9
          try simp only [Act.put, List.getElem_toArray, List.getElem_cons_zero, List.getElem_cons_succ, List.setIfInBounds_toArray, List.set_cons_zero, List.set_cons_succ]
          refine wpAnyH_ready (rs := [15]) (by kernel_rfl) (by simp) ?_
          refine AllReadyH.cons rfl (fun K10 hK10 => ?_) AllReadyH.nil
          go_simp
          refine hK10.out _ _ sZ7 (fun _ => ?_)
          clear hK10
          try simp only [Act.put, List.getElem_toArray, List.getElem_cons_zero, List.getElem_cons_succ, List.setIfInBounds_toArray, List.set_cons_zero, List.set_cons_succ]
          refine wpAnyH_done (by kernel_rfl) ?_ _
          clear hS1
          have bZ7 : Below w.heap.size w Z7 := (bY.trans (g6.mono bY.size)).trans (z7.mono (Nat.le_trans bY.size g6.size))
          clear hsm hu1 hu2 h21 z4 z5 z6 z7 g6 sZ4 sZ5 sZ6 sZ7 s5 y1 y2 hup
          rcases q3.out with rfl | rfl | rfl
          · obtain rfl := hmin.out (by decide) (by decide)
            clear hmin q3
            go_wp2_with (go_at_call 8; refine (hlive _ bZ7).mono ?_; rintro e Z8 ⟨rfl, z8⟩)
            go_ret
            exact ⟨rfl, bZ7.trans (z8.mono bZ7.size)⟩
          · obtain rfl := hmin.out (by decide) (by decide)
            clear hmin q3
            go_wp2_with (go_at_call 8; refine (hlive _ bZ7).mono ?_; rintro e Z8 ⟨rfl, z8⟩)
            go_ret
            exact ⟨rfl, bZ7.trans (z8.mono bZ7.size)⟩
          · clear hmin q3
            go_wp2_with (go_at_call 8; refine (hlive _ bZ7).mono ?_; rintro e Z8 ⟨rfl, z8⟩)
            go_ret
            exact ⟨rfl, bZ7.trans (z8.mono bZ7.size)⟩
        · replace hsm := hsm true (by simp)
          clear p3
          try simp only [Int.neg_zero, Int.neg_neg] at h21
          refine wp_region_held_drew (S := fun w' : World => At8 w' X1 0 fa (.slice na1 fa.names.length nc1) (.slice pa1 fa.parts.length pc1) ∧ At8 w' X2 0 fb (.slice na2 fb.names.length nc2) (.slice pa2 fb.parts.length pc2)) (by kernel_rfl) (by exact ⟨y1, y2⟩) ?_
          rw [← hYd]
          have s5 : (fun w' : World => At8 w' X1 0 fa (.slice na1 fa.names.length nc1) (.slice pa1 fa.parts.length pc1) ∧ At8 w' X2 0 fb (.slice na2 fb.names.length nc2) (.slice pa2 fb.parts.length pc2)) Yd := by rw [hYd]; exact ⟨y1, y2⟩
          have hup : ∀ {w1 w2 : World}, (fun w' : World => At8 w' X1 0 fa (.slice na1 fa.names.length nc1) (.slice pa1 fa.parts.length pc1) ∧ At8 w' X2 0 fb (.slice na2 fb.names.length nc2) (.slice pa2 fb.parts.length pc2)) w1 → Below w1.heap.size w1 w2 → (fun w' : World => At8 w' X1 0 fa (.slice na1 fa.names.length nc1) (.slice pa1 fa.parts.length pc1) ∧ At8 w' X2 0 fb (.slice na2 fb.names.length nc2) (.slice pa2 fb.parts.length pc2)) w2 := fun h h' => ⟨h.1.up h', h.2.up h'⟩
          clear hYd
          intro hS1
          refine wpAnyH_take (i := 0) (v := v2) rfl (by kernel_rfl) (by kernel_rfl) (by kernel_rfl) (fun _ _ _ h => h) (Or.inl ⟨by rfl, ?_⟩) (by assumption) ?_
          · intro w5 s0
            go_simp
          try simp only [Act.put, List.getElem_toArray, List.getElem_cons_zero, List.getElem_cons_succ, List.setIfInBounds_toArray, List.set_cons_zero, List.set_cons_succ]
          refine wpAnyH_take (i := 1) (v := v1) rfl (by kernel_rfl) (by kernel_rfl) (by kernel_rfl) (fun _ _ _ h => h) (Or.inl ⟨by rfl, ?_⟩) (by assumption) ?_
          · intro w5 s0
            go_simp
          try simp only [Act.put, List.getElem_toArray, List.getElem_cons_zero, List.getElem_cons_succ, List.setIfInBounds_toArray, List.set_cons_zero, List.set_cons_succ]
          refine wpAnyH_take (i := 3) (v := .int .i64 0) rfl (by kernel_rfl) (by kernel_rfl) (by kernel_rfl) (fun _ _ _ h => h) (Or.inl ⟨by rfl, ?_⟩) (by assumption) ?_
          · intro w5 s0
            go_simp
          try simp only [Act.put, List.getElem_toArray, List.getElem_cons_zero, List.getElem_cons_succ, List.setIfInBounds_toArray, List.set_cons_zero, List.set_cons_succ]
          refine wpAnyH_take (i := 4) (v := .int .i64 0) rfl (by kernel_rfl) (by kernel_rfl) (by kernel_rfl) (fun _ _ _ h => h) (Or.inl ⟨by rfl, ?_⟩) (by assumption) ?_
          · intro w5 s0
            go_simp
            try rfl
          try simp only [Act.put, List.getElem_toArray, List.getElem_cons_zero, List.getElem_cons_succ, List.setIfInBounds_toArray, List.set_cons_zero, List.set_cons_succ]
          refine wpAnyH_ready (rs := [2]) (by kernel_rfl) (by simp) ?_
          refine AllReadyH.cons rfl (fun K1 hK1 => ?_) AllReadyH.nil
          go_simp
          refine (h21 _).mono ?_
          rintro e Z4 ⟨rfl, z4⟩
          have sZ4 := (hup s5) z4
          refine hK1.out _ _ sZ4 (fun _ => ?_)
          clear hK1
          try simp only [Act.put, List.getElem_toArray, List.getElem_cons_zero, List.getElem_cons_succ, List.setIfInBounds_toArray, List.set_cons_zero, List.set_cons_succ]
          refine wpAnyH_ready (rs := [5]) (by kernel_rfl) (by simp) ?_
          refine AllReadyH.cons rfl (fun K2 hK2 => ?_) AllReadyH.nil
          go_simp
          refine hK2.out _ _ sZ4 (fun _ => ?_)
          clear hK2
          try simp only [Act.put, List.getElem_toArray, List.getElem_cons_zero, List.getElem_cons_succ, List.setIfInBounds_toArray, List.set_cons_zero, List.set_cons_succ]
          refine wpAnyH_ready (rs := [6]) (by kernel_rfl) (by simp) ?_
          refine AllReadyH.cons rfl (fun K3 hK3 => ?_) AllReadyH.nil
          go_simp
          refine hK3.out _ _ sZ4 (fun _ => ?_)
          clear hK3
          try simp only [Act.put, List.getElem_toArray, List.getElem_cons_zero, List.getElem_cons_succ, List.setIfInBounds_toArray, List.set_cons_zero, List.set_cons_succ]
          refine wpAnyH_take (i := 7) (v := .int .i64 0) rfl (by kernel_rfl) (by kernel_rfl) (by kernel_rfl) (fun _ _ _ h => h) (Or.inl ⟨by rfl, ?_⟩) (by assumption) ?_
          · intro w5 s0
            go_simp
          try simp only [Act.put, List.getElem_toArray, List.getElem_cons_zero, List.getElem_cons_succ, List.setIfInBounds_toArray, List.set_cons_zero, List.set_cons_succ]
          refine wpAnyH_take (i := 8) (v := .bool true) rfl (by kernel_rfl) (by kernel_rfl) (by kernel_rfl) (fun _ _ _ h => h) (Or.inl ⟨by rfl, ?_⟩) (by assumption) ?_
          · intro w5 s0
            go_simp
          try simp only [Act.put, List.getElem_toArray, List.getElem_cons_zero, List.getElem_cons_succ, List.setIfInBounds_toArray, List.set_cons_zero, List.set_cons_succ]
          refine wpAnyH_take (i := 9) (v := .agg #[.int .i64 fa.kind, .string fa.ty, .int .u64 fa.bits, .int .u64 fa.imag, .string fa.text, .slice na1 fa.names.length nc1, .slice pa1 fa.parts.length pc1, .int .i64 fa.hook]) rfl (by kernel_rfl) (by kernel_rfl) (by kernel_rfl) (fun _ _ _ h => h) (Or.inl ⟨by rfl, ?_⟩) (by assumption) ?_
          · intro w5 s0
            obtain ⟨q0, q1, q2, q3, q4, q5, q6, q7⟩ := s0.1
            simp only [Nat.zero_add] at q0 q1 q2 q3 q4 q5 q6 q7
            clear s0
            go_simp
          try simp only [Act.put, List.getElem_toArray, List.getElem_cons_zero, List.getElem_cons_succ, List.setIfInBounds_toArray, List.set_cons_zero, List.set_cons_succ]
          refine wpAnyH_take (i := 11) (v := .agg #[.int .i64 fb.kind, .string fb.ty, .int .u64 fb.bits, .int .u64 fb.imag, .string fb.text, .slice na2 fb.names.length nc2, .slice pa2 fb.parts.length pc2, .int .i64 fb.hook]) rfl (by kernel_rfl) (by kernel_rfl) (by kernel_rfl) (fun _ _ _ h => h) (Or.inl ⟨by rfl, ?_⟩) (by assumption) ?_
          · intro w5 s0
            obtain ⟨q0, q1, q2, q3, q4, q5, q6, q7⟩ := s0.2
            simp only [Nat.zero_add] at q0 q1 q2 q3 q4 q5 q6 q7
            clear s0
            go_simp
          try simp only [Act.put, List.getElem_toArray, List.getElem_cons_zero, List.getElem_cons_succ, List.setIfInBounds_toArray, List.set_cons_zero, List.set_cons_succ]
          refine wpAnyH_ready (rs := [10]) (by kernel_rfl) (by simp) ?_
          refine AllReadyH.cons rfl (fun K6 hK6 => ?_) AllReadyH.nil
          go_simp
          refine (hu1 _).mono ?_
          rintro e Z5 ⟨rfl, z5⟩
          have sZ5 := (hup sZ4) z5
          refine hK6.out _ _ sZ5 (fun _ => ?_)
          clear hK6
          try simp only [Act.put, List.getElem_toArray, List.getElem_cons_zero, List.getElem_cons_succ, List.setIfInBounds_toArray, List.set_cons_zero, List.set_cons_succ]
          refine wpAnyH_ready (rs := [12]) (by kernel_rfl) (by simp) ?_
          refine AllReadyH.cons rfl (fun K7 hK7 => ?_) AllReadyH.nil
          go_simp
          refine (hu2 _).mono ?_
          rintro e Z6 ⟨rfl, z6⟩
          have sZ6 := (hup sZ5) z6
          refine hK7.out _ _ sZ6 (fun _ => ?_)
          clear hK7
          try simp only [Act.put, List.getElem_toArray, List.getElem_cons_zero, List.getElem_cons_succ, List.setIfInBounds_toArray, List.set_cons_zero, List.set_cons_succ]
          have g6 : Below Yd.heap.size Yd Z6 := (z4.trans (z5.mono z4.size)).trans (z6.mono (Nat.le_trans z4.size z5.size))
          refine wpAnyH_ready (rs := [13]) (by kernel_rfl) (by simp) ?_
          refine AllReadyH.cons rfl (fun K8 hK8 => ?_) AllReadyH.nil
          go_simp
          refine (hsm _ g6).mono ?_
          rintro e Z7 ⟨rfl, z7⟩
          have sZ7 := (hup sZ6) z7
          refine hK8.out _ _ sZ7 (fun _ => ?_)
          clear hK8
          try simp only [Act.put, List.getElem_toArray, List.getElem_cons_zero, List.getElem_cons_succ, List.setIfInBounds_toArray, List.set_cons_zero, List.set_cons_succ]
          refine wpAnyH_ready (rs := [14]) (by kernel_rfl) (by simp) ?_
          refine AllReadyH.cons rfl (fun K9 hK9 => ?_) AllReadyH.nil
          go_simp
          refine hK9.out _ _ sZ7 (fun _ => ?_)
          clear hK9
          try simp only [Act.put, List.getElem_toArray, List.getElem_cons_zero, List.getElem_cons_succ, List.setIfInBounds_toArray, List.set_cons_zero, List.set_cons_succ]
          refine wpAnyH_ready (rs := [15]) (by kernel_rfl) (by simp) ?_
          refine AllReadyH.cons rfl (fun K10 hK10 => ?_) AllReadyH.nil
          go_simp
          refine hK10.out _ _ sZ7 (fun _ => ?_)
          clear hK10
          try simp only [Act.put, List.getElem_toArray, List.getElem_cons_zero, List.getElem_cons_succ, List.setIfInBounds_toArray, List.set_cons_zero, List.set_cons_succ]
          refine wpAnyH_done (by kernel_rfl) ?_ _
          clear hS1
          have bZ7 : Below w.heap.size w Z7 := (bY.trans (g6.mono bY.size)).trans (z7.mono (Nat.le_trans bY.size g6.size))
          clear hsm hu1 hu2 h21 z4 z5 z6 z7 g6 sZ4 sZ5 sZ6 sZ7 s5 y1 y2 hup
          rcases q3.out with rfl | rfl | rfl
          · obtain rfl := hmin.out (by decide) (by decide)
            clear hmin q3
            go_wp2_with (go_at_call 8; refine (hlive _ bZ7).mono ?_; rintro e Z8 ⟨rfl, z8⟩)
            go_ret
            exact ⟨rfl, bZ7.trans (z8.mono bZ7.size)⟩
          · obtain rfl := hmin.out (by decide) (by decide)
            clear hmin q3
            go_wp2_with (go_at_call 8; refine (hlive _ bZ7).mono ?_; rintro e Z8 ⟨rfl, z8⟩)
            go_ret
            exact ⟨rfl, bZ7.trans (z8.mono bZ7.size)⟩
          · clear hmin q3
            go_wp2_with (go_at_call 8; refine (hlive _ bZ7).mono ?_; rintro e Z8 ⟨rfl, z8⟩)
            go_ret
            exact ⟨rfl, bZ7.trans (z8.mono bZ7.size)⟩
        · replace hsm := hsm false (by simp)
          clear p3
          try simp only [Int.neg_zero, Int.neg_neg] at h21
          refine wp_region_held_drew (S := fun w' : World => At8 w' X1 0 fa (.slice na1 fa.names.length nc1) (.slice pa1 fa.parts.length pc1) ∧ At8 w' X2 0 fb (.slice na2 fb.names.length nc2) (.slice pa2 fb.parts.length pc2)) (by kernel_rfl) (by exact ⟨y1, y2⟩) ?_
          rw [← hYd]
          have s5 : (fun w' : World => At8 w' X1 0 fa (.slice na1 fa.names.length nc1) (.slice pa1 fa.parts.length pc1) ∧ At8 w' X2 0 fb (.slice na2 fb.names.length nc2) (.slice pa2 fb.parts.length pc2)) Yd := by rw [hYd]; exact ⟨y1, y2⟩
          have hup : ∀ {w1 w2 : World}, (fun w' : World => At8 w' X1 0 fa (.slice na1 fa.names.length nc1) (.slice pa1 fa.parts.length pc1) ∧ At8 w' X2 0 fb (.slice na2 fb.names.length nc2) (.slice pa2 fb.parts.length pc2)) w1 → Below w1.heap.size w1 w2 → (fun w' : World => At8 w' X1 0 fa (.slice na1 fa.names.length nc1) (.slice pa1 fa.parts.length pc1) ∧ At8 w' X2 0 fb (.slice na2 fb.names.length nc2) (.slice pa2 fb.parts.length pc2)) w2 := fun h h' => ⟨h.1.up h', h.2.up h'⟩
          clear hYd
          intro hS1
          refine wpAnyH_take (i := 0) (v := v2) rfl (by kernel_rfl) (by kernel_rfl) (by kernel_rfl) (fun _ _ _ h => h) (Or.inl ⟨by rfl, ?_⟩) (by assumption) ?_
          · intro w5 s0
            go_simp
          try simp only [Act.put, List.getElem_toArray, List.getElem_cons_zero, List.getElem_cons_succ, List.setIfInBounds_toArray, List.set_cons_zero, List.set_cons_succ]
          refine wpAnyH_take (i := 1) (v := v1) rfl (by kernel_rfl) (by kernel_rfl) (by kernel_rfl) (fun _ _ _ h => h) (Or.inl ⟨by rfl, ?_⟩) (by assumption) ?_
          · intro w5 s0
            go_simp
          try simp only [Act.put, List.getElem_toArray, List.getElem_cons_zero, List.getElem_cons_succ, List.setIfInBounds_toArray, List.set_cons_zero, List.set_cons_succ]
          refine wpAnyH_take (i := 3) (v := .int .i64 1) rfl (by kernel_rfl) (by kernel_rfl) (by kernel_rfl) (fun _ _ _ h => h) (Or.inl ⟨by rfl, ?_⟩) (by assumption) ?_
          · intro w5 s0
            go_simp
          try simp only [Act.put, List.getElem_toArray, List.getElem_cons_zero, List.getElem_cons_succ, List.setIfInBounds_toArray, List.set_cons_zero, List.set_cons_succ]
          refine wpAnyH_take (i := 4) (v := .int .i64 (-1)) rfl (by kernel_rfl) (by kernel_rfl) (by kernel_rfl) (fun _ _ _ h => h) (Or.inl ⟨by rfl, ?_⟩) (by assumption) ?_
          · intro w5 s0
            go_simp
            try rfl
          try simp only [Act.put, List.getElem_toArray, List.getElem_cons_zero, List.getElem_cons_succ, List.setIfInBounds_toArray, List.set_cons_zero, List.set_cons_succ]
          refine wpAnyH_ready (rs := [2]) (by kernel_rfl) (by simp) ?_
          refine AllReadyH.cons rfl (fun K1 hK1 => ?_) AllReadyH.nil
          go_simp
          refine (h21 _).mono ?_
          rintro e Z4 ⟨rfl, z4⟩
          have sZ4 := (hup s5) z4
          refine hK1.out _ _ sZ4 (fun _ => ?_)
          clear hK1
          try simp only [Act.put, List.getElem_toArray, List.getElem_cons_zero, List.getElem_cons_succ, List.setIfInBounds_toArray, List.set_cons_zero, List.set_cons_succ]
          refine wpAnyH_ready (rs := [5]) (by kernel_rfl) (by simp) ?_
          refine AllReadyH.cons rfl (fun K2 hK2 => ?_) AllReadyH.nil
          go_simp
          refine hK2.out _ _ sZ4 (fun _ => ?_)
          clear hK2
          try simp only [Act.put, List.getElem_toArray, List.getElem_cons_zero, List.getElem_cons_succ, List.setIfInBounds_toArray, List.set_cons_zero, List.set_cons_succ]
          refine wpAnyH_ready (rs := [6]) (by kernel_rfl) (by simp) ?_
          refine AllReadyH.cons rfl (fun K3 hK3 => ?_) AllReadyH.nil
          go_simp
          refine hK3.out _ _ sZ4 (fun _ => ?_)
          clear hK3
          try simp only [Act.put, List.getElem_toArray, List.getElem_cons_zero, List.getElem_cons_succ, List.setIfInBounds_toArray, List.set_cons_zero, List.set_cons_succ]
          refine wpAnyH_take (i := 7) (v := .int .i64 1) rfl (by kernel_rfl) (by kernel_rfl) (by kernel_rfl) (fun _ _ _ h => h) (Or.inl ⟨by rfl, ?_⟩) (by assumption) ?_
          · intro w5 s0
            go_simp
          try simp only [Act.put, List.getElem_toArray, List.getElem_cons_zero, List.getElem_cons_succ, List.setIfInBounds_toArray, List.set_cons_zero, List.set_cons_succ]
          refine wpAnyH_take (i := 8) (v := .bool false) rfl (by kernel_rfl) (by kernel_rfl) (by kernel_rfl) (fun _ _ _ h => h) (Or.inl ⟨by rfl, ?_⟩) (by assumption) ?_
          · intro w5 s0
            go_simp
          try simp only [Act.put, List.getElem_toArray, List.getElem_cons_zero, List.getElem_cons_succ, List.setIfInBounds_toArray, List.set_cons_zero, List.set_cons_succ]
          refine wpAnyH_take (i := 9) (v := .agg #[.int .i64 fa.kind, .string fa.ty, .int .u64 fa.bits, .int .u64 fa.imag, .string fa.text, .slice na1 fa.names.length nc1, .slice pa1 fa.parts.length pc1, .int .i64 fa.hook]) rfl (by kernel_rfl) (by kernel_rfl) (by kernel_rfl) (fun _ _ _ h => h) (Or.inl ⟨by rfl, ?_⟩) (by assumption) ?_
          · intro w5 s0
            obtain ⟨q0, q1, q2, q3, q4, q5, q6, q7⟩ := s0.1
            simp only [Nat.zero_add] at q0 q1 q2 q3 q4 q5 q6 q7
            clear s0
            go_simp
          try simp only [Act.put, List.getElem_toArray, List.getElem_cons_zero, List.getElem_cons_succ, List.setIfInBounds_toArray, List.set_cons_zero, List.set_cons_succ]
          refine wpAnyH_take (i := 11) (v := .agg #[.int .i64 fb.kind, .string fb.ty, .int .u64 fb.bits, .int .u64 fb.imag, .string fb.text, .slice na2 fb.names.length nc2, .slice pa2 fb.parts.length pc2, .int .i64 fb.hook]) rfl (by kernel_rfl) (by kernel_rfl) (by kernel_rfl) (fun _ _ _ h => h) (Or.inl ⟨by rfl, ?_⟩) (by assumption) ?_
          · intro w5 s0
            obtain ⟨q0, q1, q2, q3, q4, q5, q6, q7⟩ := s0.2
            simp only [Nat.zero_add] at q0 q1 q2 q3 q4 q5 q6 q7
            clear s0
            go_simp
          try simp only [Act.put, List.getElem_toArray, List.getElem_cons_zero, List.getElem_cons_succ, List.setIfInBounds_toArray, List.set_cons_zero, List.set_cons_succ]
          refine wpAnyH_ready (rs := [10]) (by kernel_rfl) (by simp) ?_
          refine AllReadyH.cons rfl (fun K6 hK6 => ?_) AllReadyH.nil
          go_simp
          refine (hu1 _).mono ?_
          rintro e Z5 ⟨rfl, z5⟩
          have sZ5 := (hup sZ4) z5
          refine hK6.out _ _ sZ5 (fun _ => ?_)
          clear hK6
          try simp only [Act.put, List.getElem_toArray, List.getElem_cons_zero, List.getElem_cons_succ, List.setIfInBounds_toArray, List.set_cons_zero, List.set_cons_succ]
          refine wpAnyH_ready (rs := [12]) (by kernel_rfl) (by simp) ?_
          refine AllReadyH.cons rfl (fun K7 hK7 => ?_) AllReadyH.nil
          go_simp
          refine (hu2 _).mono ?_
          rintro e Z6 ⟨rfl, z6⟩
          have sZ6 := (hup sZ5) z6
          refine hK7.out _ _ sZ6 (fun _ => ?_)
          clear hK7
          try simp only [Act.put, List.getElem_toArray, List.getElem_cons_zero, List.getElem_cons_succ, List.setIfInBounds_toArray, List.set_cons_zero, List.set_cons_succ]
          have g6 : Below Yd.heap.size Yd Z6 := (z4.trans (z5.mono z4.size)).trans (z6.mono (Nat.le_trans z4.size z5.size))
          refine wpAnyH_ready (rs := [13]) (by kernel_rfl) (by simp) ?_
          refine AllReadyH.cons rfl (fun K8 hK8 => ?_) AllReadyH.nil
          go_simp
          refine (hsm _ g6).mono ?_
          rintro e Z7 ⟨rfl, z7⟩
          have sZ7 := (hup sZ6) z7
          refine hK8.out _ _ sZ7 (fun _ => ?_)
          clear hK8
          try simp only [Act.put, List.getElem_toArray, List.getElem_cons_zero, List.getElem_cons_succ, List.setIfInBounds_toArray, List.set_cons_zero, List.set_cons_succ]
          refine wpAnyH_ready (rs := [14]) (by kernel_rfl) (by simp) ?_
          refine AllReadyH.cons rfl (fun K9 hK9 => ?_) AllReadyH.nil
          go_simp
          refine hK9.out _ _ sZ7 (fun _ => ?_)
          clear hK9
          try simp only [Act.put, List.getElem_toArray, List.getElem_cons_zero, List.getElem_cons_succ, List.setIfInBounds_toArray, List.set_cons_zero, List.set_cons_succ]
          refine wpAnyH_ready (rs := [15]) (by kernel_rfl) (by simp) ?_
          refine AllReadyH.cons rfl (fun K10 hK10 => ?_) AllReadyH.nil
          go_simp
          refine hK10.out _ _ sZ7 (fun _ => ?_)
          clear hK10
          try simp only [Act.put, List.getElem_toArray, List.getElem_cons_zero, List.getElem_cons_succ, List.setIfInBounds_toArray, List.set_cons_zero, List.set_cons_succ]
          refine wpAnyH_done (by kernel_rfl) ?_ _
          clear hS1
          have bZ7 : Below w.heap.size w Z7 := (bY.trans (g6.mono bY.size)).trans (z7.mono (Nat.le_trans bY.size g6.size))
          clear hsm hu1 hu2 h21 z4 z5 z6 z7 g6 sZ4 sZ5 sZ6 sZ7 s5 y1 y2 hup
          go_wp2_with (go_at_call 8; refine (hlive _ bZ7).mono ?_; rintro e Z8 ⟨rfl, z8⟩)
          go_ret
          exact ⟨rfl, bZ7.trans (z8.mono bZ7.size)⟩
  · clear hS hA hB hC y1 y2 y3 b1 b2 b3 b4 b5 b6 b7 b13 b35 b57 bW3 bW5 hq1 hq2 hq3
    cases q1 <;> cases q2 <;> cases q3 <;> first | exact absurd ⟨rfl, rfl, rfl⟩ hall | skip
    all_goals clear hall
    all_goals go_wp2_with (go_at_call 8; refine (hlive _ bW7).mono ?_; rintro e Z2 ⟨rfl, z2⟩)
    all_goals go_ret
    all_goals exact ⟨rfl, bW7.trans (z2.mono bW7.size)⟩
def rkA (d : D) : Rk := if keyB d.kind = true then rkF d else ⟨d.kind, 0, ⟨#[]⟩, ⟨#[]⟩⟩
theorem keyB_le {k : Int} (h : keyB k = true) : 1 ≤ k ∧ k ≤ 16 := by
  simp [keyB] at h
  omega
theorem cmpR_k (x y : Rk) (h : x.k ≠ y.k) : cmpR x y = if x.k < y.k then -1 else 1 := by
  unfold cmpR or4 cmpI
  by_cases h1 : x.k < y.k
  · simp [h1]
  · have h2 : y.k < x.k := by omega
    simp [h1, h2]
theorem cmpR_same (x : Rk) : cmpR x x = 0 := by
  unfold cmpR or4
  simp [cmpI_same, cmpS_same]
theorem rkA_k (d : D) : (rkA d).k = d.kind := by
  unfold rkA
  split
  · exact rkF_k d
  · rfl
theorem rkA_cmp (a b : D) : dcmp (inF a) (inF b) = cmpR (rkA a) (rkA b) := by
  by_cases hk : a.kind = b.kind
  · by_cases ha : keyB a.kind = true
    · have hb : keyB b.kind = true := hk ▸ ha
      have h1 := keyB_le ha
      have h2 := keyB_le hb
      rw [inF_flat a (by omega), inF_flat b (by omega), rkF_cmp a b ha hb]
      unfold rkA
      rw [if_pos ha, if_pos hb]
    · have hb : ¬ keyB b.kind = true := hk ▸ ha
      unfold rkA dcmp
      rw [if_neg ha, if_neg hb, inF_kind, inF_kind, if_neg (by simpa using hk), if_neg ha, hk, cmpR_same]
  · rw [cmpR_k _ _ (by rw [rkA_k, rkA_k]; exact hk), rkA_k, rkA_k]
    unfold dcmp
    rw [inF_kind, inF_kind, if_pos hk]
theorem rank_any (n : Nat) (S : Nat → Prop) (W : World) (v : Value) (d : D) (hl : 0 ≤ d.kind) (hv : VlC srt n S W v d) : RkC v (rkA d) := by
  match n, hv with
  | n + 1, hv =>
    unfold VlC at hv
    unfold rkA
    by_cases k17 : d.kind ≤ 17
    · rw [if_pos k17] at hv
      rw [hv]
      by_cases ha : keyB d.kind = true
      · rw [if_pos ha]
        exact fun W => (rkF_ok d ha W).mono fun e w' h => ⟨h.1, h.2.1⟩
      · rw [if_neg ha]
        have hn : ¬ d.kind = 1 ∧ ¬ (2 ≤ d.kind ∧ d.kind ≤ 6) ∧ ¬ (7 ≤ d.kind ∧ d.kind ≤ 11) ∧ ¬ d.kind = 16 := by
          simp [keyB] at ha
          omega
        obtain ⟨n1, n2, n3, n4⟩ := hn
        unfold mdV
        rw [if_neg n1, if_neg n2, if_neg n3]
        by_cases k12 : d.kind = 12
        · rw [if_pos k12]; exact rankof_float _ _ _ _
        rw [if_neg k12]
        by_cases k13 : d.kind = 13
        · rw [if_pos k13]; exact rankof_float _ _ _ _
        rw [if_neg k13]
        by_cases k14 : d.kind = 14
        · rw [if_pos k14]; exact rankof_pair _ _ _ _ _
        rw [if_neg k14]
        by_cases k15 : d.kind = 15
        · rw [if_pos k15]; exact rankof_pair _ _ _ _ _
        rw [if_neg k15, if_neg n4]
        by_cases k17 : d.kind = 17
        · rw [if_pos k17]; exact rankof_octets _ _ _ _
        rw [if_neg k17]
        have k0 : d.kind = 0 := by omega
        rw [k0]
        exact rankof_nothing _ _ _
    · have ha : ¬ keyB d.kind = true := fun h => by have := keyB_le h; omega
      rw [if_neg k17] at hv
      rw [if_neg ha]
      by_cases k18 : d.kind = 18
      · rw [if_pos k18] at hv
        obtain ⟨na, nc, fa, fc, rfl, _⟩ := hv
        exact rankof_structure _ _ _ _ _ _ _ _ _
      rw [if_neg k18] at hv
      by_cases k21 : d.kind = 21
      · rw [if_pos k21] at hv
        obtain ⟨fa, fc, rfl, _⟩ := hv
        exact rankof_dictionary _ _ _ _ _ _
      rw [if_neg k21] at hv
      by_cases k22 : d.kind = 22
      · rw [if_pos k22] at hv
        obtain ⟨fa, fc, rfl, _⟩ := hv
        exact rankof_pointer _ _ _ _ _ _ _
      rw [if_neg k22] at hv
      obtain ⟨fa, fc, rfl, _⟩ := hv
      exact rankof_list _ _ _ _ _ _

theorem keyK_B {k : Int} (h : keyK k) : keyB k = true := by
  unfold keyK at h
  simp [keyB]
  omega
theorem inF_key (a : D) (h : keyK a.kind) : inF a = ⟨a.kind, a.ty, inBits a.kind a.bits, 0, inText a.kind a.text, [], [], a.hook⟩ := by
  have h' := h
  unfold keyK at h'
  rw [inF_flat a (by omega)]
  unfold inFlat
  rw [if_neg (by omega)]
  have : inImag a.kind a.imag = 0 := by unfold inImag; rw [if_neg (by omega), if_neg (by omega)]
  rw [this]
theorem keys_same (a b : D) (ha : keyK a.kind) (hb : keyK b.kind) : (cmpR (rkA a) (rkA b) = 0 → unhk (inF a) = unhk (inF b)) ∧ (cmpR (rkA a) (rkA b) ≠ 0 → Diff (unhk (inF a)) (unhk (inF b))) := by
  have ea : rkA a = rkF a := by unfold rkA; rw [if_pos (keyK_B ha)]
  have eb : rkA b = rkF b := by unfold rkA; rw [if_pos (keyK_B hb)]
  rw [ea, eb]
  refine ⟨fun h => ?_, fun h => ?_⟩
  · have hr : rkF a = rkF b := (TO.rk.zero _ _).1 h
    have hk : a.kind = b.kind := by rw [← rkF_k a, hr, rkF_k b]
    rw [inF_key a ha, inF_key b hb]
    unfold unhk
    simp only
    unfold rkF at hr
    rw [← hk] at hr ⊢
    rcases ha with h1 | h1 | h1
    · rw [if_pos h1, if_pos h1] at hr
      obtain ⟨-, h2, -, h3⟩ := Rk.mk.inj hr
      have e1 : ∀ x, inBits a.kind x = x % 2 := fun x => by unfold inBits; rw [if_pos h1]
      have e2 : ∀ x, inText a.kind x = ⟨#[]⟩ := fun x => by unfold inText; rw [if_neg (by omega)]
      rw [e1, e1, e2, e2, h2, h3]
    · have n1 : ¬ a.kind = 1 := by omega
      rw [if_neg n1, if_neg n1] at hr
      have e2 : ∀ x, inText a.kind x = ⟨#[]⟩ := fun x => by unfold inText; rw [if_neg (by omega)]
      by_cases hs : 2 ≤ a.kind ∧ a.kind ≤ 6
      · rw [if_pos hs, if_pos hs] at hr
        obtain ⟨-, h2, -, h3⟩ := Rk.mk.inj hr
        have e1 : ∀ x, inBits a.kind x = sgN a.kind x % 18446744073709551616 := fun x => by
          unfold inBits numF
          rw [if_neg (by omega), if_pos (by omega), if_pos (by simp [sgnB]; omega)]
        rw [e1, e1, e2, e2, h3, show sgN a.kind a.bits = sgN a.kind b.bits by omega]
      · have hu : 7 ≤ a.kind ∧ a.kind ≤ 11 := by omega
        rw [if_neg hs, if_neg hs, if_pos hu, if_pos hu] at hr
        obtain ⟨-, h2, -, h3⟩ := Rk.mk.inj hr
        have e1 : ∀ x, inBits a.kind x = unN a.kind x := fun x => by
          unfold inBits numF
          rw [if_neg (by omega), if_pos (by omega), if_neg (by simp [sgnB]; omega)]
        rw [e1, e1, e2, e2, h3, h2]
    · have n1 : ¬ a.kind = 1 := by omega
      have n2 : ¬ (2 ≤ a.kind ∧ a.kind ≤ 6) := by omega
      have n3 : ¬ (7 ≤ a.kind ∧ a.kind ≤ 11) := by omega
      simp only [if_neg n1, if_neg n2, if_neg n3] at hr
      obtain ⟨-, -, h2, h3⟩ := Rk.mk.inj hr
      have e1 : ∀ x, inBits a.kind x = 0 := fun x => by unfold inBits; rw [if_neg (by omega), if_neg (by omega), if_neg (by omega), if_neg (by omega)]
      rw [e1, e1, h2, h3]
  · have hr : rkF a ≠ rkF b := fun e => h ((TO.rk.zero _ _).2 e)
    have hi : (unhk (inF a)).imag = (unhk (inF b)).imag := by rw [inF_key a ha, inF_key b hb]; rfl
    by_cases h1 : (unhk (inF a)).kind = (unhk (inF b)).kind
    · by_cases h2 : (unhk (inF a)).ty = (unhk (inF b)).ty
      · by_cases h3 : (unhk (inF a)).bits = (unhk (inF b)).bits
        · by_cases h4 : (unhk (inF a)).text = (unhk (inF b)).text
          · refine absurd ?_ hr
            rw [← rkF_in a (keyK_B ha), ← rkF_in b (keyK_B hb)]
            unfold rkF
            have h1' : (inF a).kind = (inF b).kind := h1
            have h2' : (inF a).ty = (inF b).ty := h2
            have h3' : (inF a).bits = (inF b).bits := h3
            have h4' : (inF a).text = (inF b).text := h4
            rw [h1', h2', h3', h4']
          · exact .inr (.inr (.inr ⟨h1, h2, h3, hi, h4⟩))
        · exact .inr (.inr (.inl ⟨h1, h2, h3⟩))
      · exact .inr (.inl ⟨h1, h2⟩)
    · exact .inl h1
theorem buC_of {d : D} {n : Nat} {nv pv : Value} {w : World} (hr : RdC n w nv pv d) : BuC w d (inF d) (rkA d) nv pv := fun W hW => by
  refine (built_any d n nv pv W (hr.up hW)).mono ?_
  rintro e w' ⟨hb, (⟨hok, t, x, nv', pv', rfl, hv, hd⟩ | ⟨-, rfl⟩)⟩
  · obtain ⟨na, nc, pa, pc, rfl, rfl⟩ := hd.slices
    exact ⟨hb, .iface t x, inF d, true, na, nc, pa, pc, rfl, fun _ => ⟨rfl, rank_any _ _ _ _ _ (good_of (rd_nAll n hr) hok.2).1.self.lo hv, _, hd.plain⟩⟩
  · exact ⟨hb, .nilIface, d00, false, none, 0, none, 0, rfl, fun h => by cases h⟩
theorem valuesOrders_walk (a : D) (n1 : Nat) (nv1 pv1 : Value) (b : D) (n2 : Nat) (nv2 pv2 : Value) (c : D) (n3 : Nat) (nv3 pv3 : Value) (w : World) (hK : KN w) (hr1 : RdC n1 w nv1 pv1 a) (hr2 : RdC n2 w nv2 pv2 b) (hr3 : RdC n3 w nv3 pv3 c) :
    Calls Tryd.prog 4 #[DV a nv1 pv1, DV b nv2 pv2, DV c nv3 pv3] w fun e w' => e = .returned (.bool true) ∧ Below w.heap.size w w' := by
  obtain ⟨na1, nc1, pa1, pc1, rfl, rfl⟩ := hr1.slices
  obtain ⟨na2, nc2, pa2, pc2, rfl, rfl⟩ := hr2.slices
  obtain ⟨na3, nc3, pa3, pc3, rfl, rfl⟩ := hr3.slices
  refine orders_core a b c (inF a) (inF b) (inF c) (rkA a) (rkA b) (rkA c) na1 pa1 na2 pa2 na3 pa3 nc1 pc1 nc2 pc2 nc3 pc3 w hK (buC_of hr1) (buC_of hr2) (buC_of hr3) (fun ha hb => ?_)
  rw [inF_kind] at ha hb
  exact keys_same a b ha hb
end Go.Proofs.YtjphklhfigammaaDoor
