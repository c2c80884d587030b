/- Structs in the midst of a block, and in regions that draw their order; the law's small. (XQuiet, XPut and XSmall in one text.) -/
import Derived.Test.YtbfaapbbhgegiaaDoorXWalkC
import Derived.Test.YtbfaapbbhgegiaaDoorXDo
namespace Go.Proofs.YtbfaapbbhgegiaaDoor
open Go.RowKit
set_option linter.unusedVariables false
set_option linter.unusedSimpArgs false

theorem wpq_ld {ops : Array Oper} {rest : List Oper} {op : Oper} {a : Act} {w0 : World} {Q : Act → Prop} {t n : Nat} (hr : Row t n) (hw : Region.wanted op (yielded ops a.tmps) = true) (x : Operand) (ho : op.op = .load t x) {B o : Nat} {vs : List Value}
    (hx : a.eval x = .pointer (some ⟨B, o, none⟩)) (hB : ∀ y : Cl w0, y.w.rangeAt B o vs) (hl : vs.length = n)
    (h : wpQuiet Tryd.prog ops (fun w' => ∃ x : Cl w0, w' = x.w) Q rest (a.put op.dst (.agg vs.toArray))) : wpQuiet Tryd.prog ops (fun w' => ∃ x : Cl w0, w' = x.w) Q (op :: rest) a := by
  obtain ⟨⟨d, h1, h2⟩, h3⟩ := hr
  refine BigFrame.wpQuiet_want hw fun K hK => ⟨_, fun w hw' => ?_, hK _ h⟩
  obtain ⟨y, rfl⟩ := hw'
  unfold Oper.quietAt execOp
  simp only [ho, hx, Instr.loadAt, Instr.sureAddr, Sem.run_bind, Sem.run_pure, Result.andThen_ok, run_loadVar_mid y.w B o t vs d (hB y) h1 h2 (by rw [hl]; exact h3)]
  exact ⟨rfl, rfl⟩
theorem Cl.rng {w0 : World} {B o : Nat} {vs : List Value} (h : w0.rangeAt B o vs) (y : Cl w0) : y.w.rangeAt B o vs := fun j v hv => y.cell (h j v hv)

theorem Blk.thereMid {w : World} {B : Nat} {p cs q : List Value} (h : Blk w B (p ++ (cs ++ q))) : w.there B p.length cs.length := fun j hj => by
  refine ⟨?_, h.z _⟩
  have hlt : p.length + j < (p ++ (cs ++ q)).length := by simp; omega
  rw [h.c (p.length + j) _ (List.getElem?_eq_getElem hlt)]
  rfl
theorem Blk.put {w : World} {B : Nat} {p cs q : List Value} (h : Blk w B (p ++ (cs ++ q))) (us : List Value) (hl : us.length = cs.length) : Blk (w.setCells B p.length us) B (p ++ (us ++ q)) := by
  refine ⟨fun i v hv => ?_, fun i => (World.frozen?_setCells _ _ _ _ _).trans (h.z i), by rw [xsc_size]; exact h.b⟩
  have r1 : (w.setCells B p.length us).rangeAt B 0 p := by
    refine World.rangeAt_setCells_apart (fun j u hu => ?_) B p.length us (.inr (.inl (by omega)))
    rw [Nat.zero_add]
    exact h.c j u (by rw [List.getElem?_append_left (List.getElem?_eq_some_iff.1 hu).1]; exact hu)
  have r2 : (w.setCells B p.length us).rangeAt B p.length us := World.rangeAt_setCells_same w B p.length us (by rw [hl]; exact h.thereMid)
  have r3 : (w.setCells B p.length us).rangeAt B (p.length + cs.length) q := by
    refine World.rangeAt_setCells_apart (fun j u hu => ?_) B p.length us (.inr (.inr (by omega)))
    refine h.c _ u ?_
    rw [← List.append_assoc, List.getElem?_append_right (by simp), List.length_append, Nat.add_sub_cancel_left]
    exact hu
  rcases Nat.lt_or_ge i p.length with h1 | h1
  · rw [List.getElem?_append_left h1] at hv
    have := r1 i v hv
    rwa [Nat.zero_add] at this
  · rw [List.getElem?_append_right h1] at hv
    rcases Nat.lt_or_ge (i - p.length) us.length with h2 | h2
    · rw [List.getElem?_append_left h2] at hv
      have := r2 _ v hv
      rwa [show p.length + (i - p.length) = i by omega] at this
    · rw [List.getElem?_append_right h2] at hv
      have := r3 _ v hv
      rwa [show p.length + cs.length + (i - p.length - us.length) = i by omega] at this
theorem wpl_stm {ops : Array Oper} {rest : List Oper} {op : Oper} {a : Act} {w : World} {Q : Exit → Act → World → Prop} {t n : Nat} (hr : Row t n) (hgd : op.guard = none) (x y : Operand) (ho : op.op = .store t x y) {B o : Nat} {us : List Value}
    (hx : a.eval x = .pointer (some ⟨B, o, none⟩)) (hy : a.eval y = .agg us.toArray) (ht : w.there B o n) (hu : us.length = n) (h1 : ∀ v ∈ us, v.oneCell' = true)
    (h : wpList Tryd.prog ops Q rest (a.put op.dst undef) (w.setCells B o us)) : wpList Tryd.prog ops Q (op :: rest) a w := by
  refine wpList_store_mid hgd t x y ho B o us.toArray hx hy (by simpa [hu] using ht) (by simp [hu, hr.2]) (all_oneCell_toArray h1) ?_
  simpa using h

def SmA (x : Ac) : Prop := x.l.n ≤ 100 ∧ x.t.size + x.f.size + x.p.tx.size ≤ 4000
def SmOk (h : Hk) : Prop := SmA h.a ∧ SmA h.b ∧ SmA h.c ∧ SmA h.d
/-- Texts no machine can hold are not there. -/
def SzA (x : Ac) : Prop := x.t.size ≤ 140737488355328 ∧ x.f.size ≤ 140737488355328 ∧ x.p.tx.size ≤ 140737488355328
def SzOk (h : Hk) : Prop := SzA h.a ∧ SzA h.b ∧ SzA h.c ∧ SzA h.d
theorem wr_sum {n a b c : Int} (hn : 0 ≤ n) (hn2 : n ≤ 4000) (ha : 0 ≤ a) (hb : 0 ≤ b) (hc : 0 ≤ c) (h1 : a ≤ 140737488355328) (h2 : b ≤ 140737488355328) (h3 : c ≤ 140737488355328) : wrap64 (n + wrap64 (wrap64 (a + b) + c)) = n + (a + b + c) := by
  have e : ∀ n : Int, -9223372036854775808 ≤ n ∧ n ≤ 9223372036854775807 → wrap64 n = n := fun n h => by rw [← IntWalk.i64_left, IntKind.wrap_i64]; omega
  rw [e (a + b) (by omega), e (a + b + c) (by omega), e _ (by omega)]
theorem bld_act4 (h : Hk) (w : World) : (Instr.build 43 #[(0, .agg h.a.v.toArray), (1, .agg h.b.v.toArray), (2, .agg h.c.v.toArray), (3, .agg h.d.v.toArray)]).run Tryd.prog w = .ok (.agg h.v.toArray) w := by
  obtain ⟨⟨k, t, f, ⟨la, ln, lc⟩, ⟨a0, a1, a2, a3, a4, ⟨na, nn, nc⟩, ⟨pa, pn, pc⟩, a7⟩⟩, ⟨k', t', f', ⟨la', ln', lc'⟩, ⟨a0', a1', a2', a3', a4', ⟨na', nn', nc'⟩, ⟨pa', pn', pc'⟩, a7'⟩⟩, ⟨k2, t2, f2, ⟨la2, ln2, lc2⟩, ⟨a02, a12, a22, a32, a42, ⟨na2, nn2, nc2⟩, ⟨pa2, pn2, pc2⟩, a72⟩⟩, ⟨k3, t3, f3, ⟨la3, ln3, lc3⟩, ⟨a03, a13, a23, a33, a43, ⟨na3, nn3, nc3⟩, ⟨pa3, pn3, pc3⟩, a73⟩⟩⟩ := h
  kernel_rfl
theorem idx_act0 (h : Hk) (w : World) : (Instr.index 43 (.agg h.v.toArray) (.int .i64 0)).run Tryd.prog w = .ok (.agg h.a.v.toArray) w := by
  obtain ⟨⟨k, t, f, ⟨la, ln, lc⟩, ⟨a0, a1, a2, a3, a4, ⟨na, nn, nc⟩, ⟨pa, pn, pc⟩, a7⟩⟩, ⟨k', t', f', ⟨la', ln', lc'⟩, ⟨a0', a1', a2', a3', a4', ⟨na', nn', nc'⟩, ⟨pa', pn', pc'⟩, a7'⟩⟩, ⟨k2, t2, f2, ⟨la2, ln2, lc2⟩, ⟨a02, a12, a22, a32, a42, ⟨na2, nn2, nc2⟩, ⟨pa2, pn2, pc2⟩, a72⟩⟩, ⟨k3, t3, f3, ⟨la3, ln3, lc3⟩, ⟨a03, a13, a23, a33, a43, ⟨na3, nn3, nc3⟩, ⟨pa3, pn3, pc3⟩, a73⟩⟩⟩ := h
  kernel_rfl
theorem idx_act1 (h : Hk) (w : World) : (Instr.index 43 (.agg h.v.toArray) (.int .i64 1)).run Tryd.prog w = .ok (.agg h.b.v.toArray) w := by
  obtain ⟨⟨k, t, f, ⟨la, ln, lc⟩, ⟨a0, a1, a2, a3, a4, ⟨na, nn, nc⟩, ⟨pa, pn, pc⟩, a7⟩⟩, ⟨k', t', f', ⟨la', ln', lc'⟩, ⟨a0', a1', a2', a3', a4', ⟨na', nn', nc'⟩, ⟨pa', pn', pc'⟩, a7'⟩⟩, ⟨k2, t2, f2, ⟨la2, ln2, lc2⟩, ⟨a02, a12, a22, a32, a42, ⟨na2, nn2, nc2⟩, ⟨pa2, pn2, pc2⟩, a72⟩⟩, ⟨k3, t3, f3, ⟨la3, ln3, lc3⟩, ⟨a03, a13, a23, a33, a43, ⟨na3, nn3, nc3⟩, ⟨pa3, pn3, pc3⟩, a73⟩⟩⟩ := h
  kernel_rfl
theorem idx_act2 (h : Hk) (w : World) : (Instr.index 43 (.agg h.v.toArray) (.int .i64 2)).run Tryd.prog w = .ok (.agg h.c.v.toArray) w := by
  obtain ⟨⟨k, t, f, ⟨la, ln, lc⟩, ⟨a0, a1, a2, a3, a4, ⟨na, nn, nc⟩, ⟨pa, pn, pc⟩, a7⟩⟩, ⟨k', t', f', ⟨la', ln', lc'⟩, ⟨a0', a1', a2', a3', a4', ⟨na', nn', nc'⟩, ⟨pa', pn', pc'⟩, a7'⟩⟩, ⟨k2, t2, f2, ⟨la2, ln2, lc2⟩, ⟨a02, a12, a22, a32, a42, ⟨na2, nn2, nc2⟩, ⟨pa2, pn2, pc2⟩, a72⟩⟩, ⟨k3, t3, f3, ⟨la3, ln3, lc3⟩, ⟨a03, a13, a23, a33, a43, ⟨na3, nn3, nc3⟩, ⟨pa3, pn3, pc3⟩, a73⟩⟩⟩ := h
  kernel_rfl
theorem idx_act3 (h : Hk) (w : World) : (Instr.index 43 (.agg h.v.toArray) (.int .i64 3)).run Tryd.prog w = .ok (.agg h.d.v.toArray) w := by
  obtain ⟨⟨k, t, f, ⟨la, ln, lc⟩, ⟨a0, a1, a2, a3, a4, ⟨na, nn, nc⟩, ⟨pa, pn, pc⟩, a7⟩⟩, ⟨k', t', f', ⟨la', ln', lc'⟩, ⟨a0', a1', a2', a3', a4', ⟨na', nn', nc'⟩, ⟨pa', pn', pc'⟩, a7'⟩⟩, ⟨k2, t2, f2, ⟨la2, ln2, lc2⟩, ⟨a02, a12, a22, a32, a42, ⟨na2, nn2, nc2⟩, ⟨pa2, pn2, pc2⟩, a72⟩⟩, ⟨k3, t3, f3, ⟨la3, ln3, lc3⟩, ⟨a03, a13, a23, a33, a43, ⟨na3, nn3, nc3⟩, ⟨pa3, pn3, pc3⟩, a73⟩⟩⟩ := h
  kernel_rfl
/-- A round's box: the method is loaded into new memory. -/
theorem sm_box (x : Ac) (W : World) : ∃ W2 : World, W2 = (W.alloc (.cells #[.int .i64 0, .string ⟨#[]⟩, .string ⟨#[]⟩, .slice none 0 0, .int .i64 0, .string ⟨#[]⟩, .int .u64 0, .int .u64 0, .string ⟨#[]⟩, .slice none 0 0, .slice none 0 0, .int .i64 0] 28)).setCells W.heap.size 0 x.v ∧ Below W.heap.size W W2 ∧ W2.cell? ⟨W.heap.size, 1, none⟩ = some (.string x.t) ∧ W2.cell? ⟨W.heap.size, 2, none⟩ = some (.string x.f) ∧ W2.cell? ⟨W.heap.size, 3, none⟩ = some (.slice x.l.a x.l.n x.l.c) ∧ W2.cell? ⟨W.heap.size, 8, none⟩ = some (.string x.p.tx) := by
  have b := (Blk.new W Ac.no.v 28).all x.v rfl
  exact ⟨_, rfl, xbelow_sc ((Below.refl _ _).alloc (Nat.le_refl _) _) (Nat.le_refl _) _ _, b.c 1 _ rfl, b.c 2 _ rfl, b.c 3 _ rfl, b.c 8 _ rfl⟩
theorem sm_new (W : World) : Blk (W.alloc (.cells #[.int .i64 0, .string ⟨#[]⟩, .string ⟨#[]⟩, .slice none 0 0, .int .i64 0, .string ⟨#[]⟩, .int .u64 0, .int .u64 0, .string ⟨#[]⟩, .slice none 0 0, .slice none 0 0, .int .i64 0] 28)) W.heap.size Ac.no.v := Blk.new W Ac.no.v 28
set_option maxRecDepth 1000000 in
set_option maxHeartbeats 20000000 in
theorem small_any (h : Hk) (w : World) : Calls Tryd.prog 18 #[.agg h.v.toArray] w fun e w' => ∃ v : Value, e = .returned v ∧ Below w.heap.size w w' ∧ (v = .bool false ∨ (v = .bool true ∧ (SzOk h → SmOk h))) := by
  have hB := fun w => bld_act4 h w
  have i0 := fun w => idx_act0 h w
  have i1 := fun w => idx_act1 h w
  have i2 := fun w => idx_act2 h w
  have i3 := fun w => idx_act3 h w
  obtain ⟨W1, hW1⟩ : ∃ W1, W1 = w.alloc (.cells h.v.toArray 30) := ⟨_, rfl⟩
  have b1 : Blk W1 w.heap.size h.v := by rw [hW1]; exact Blk.new _ _ _
  have w1 : Below w.heap.size w W1 := by rw [hW1]; exact (Below.refl _ _).alloc (Nat.le_refl _) _
  have ra := hk_a b1
  have rb := hk_b b1
  have rc := hk_c b1
  have rd := hk_d b1
  obtain ⟨⟨xa, xb, xc, xd⟩, rfl⟩ : ∃ h' : Hk, h' = h := ⟨h, rfl⟩
  unfold SmOk SzOk
  dsimp only at *
  have HSa : Hid (SmA xa ↔ xa.l.n ≤ 100 ∧ xa.t.size + xa.f.size + xa.p.tx.size ≤ 4000) := Iff.rfl
  have HZa : Hid (SzA xa ↔ xa.t.size ≤ 140737488355328 ∧ xa.f.size ≤ 140737488355328 ∧ xa.p.tx.size ≤ 140737488355328) := Iff.rfl
  have bxa := fun W => sm_box xa W
  have oa := xa.one
  have la := xa.len
  have HSb : Hid (SmA xb ↔ xb.l.n ≤ 100 ∧ xb.t.size + xb.f.size + xb.p.tx.size ≤ 4000) := Iff.rfl
  have HZb : Hid (SzA xb ↔ xb.t.size ≤ 140737488355328 ∧ xb.f.size ≤ 140737488355328 ∧ xb.p.tx.size ≤ 140737488355328) := Iff.rfl
  have bxb := fun W => sm_box xb W
  have ob := xb.one
  have lb := xb.len
  have HSc : Hid (SmA xc ↔ xc.l.n ≤ 100 ∧ xc.t.size + xc.f.size + xc.p.tx.size ≤ 4000) := Iff.rfl
  have HZc : Hid (SzA xc ↔ xc.t.size ≤ 140737488355328 ∧ xc.f.size ≤ 140737488355328 ∧ xc.p.tx.size ≤ 140737488355328) := Iff.rfl
  have bxc := fun W => sm_box xc W
  have oc := xc.one
  have lc := xc.len
  have HSd : Hid (SmA xd ↔ xd.l.n ≤ 100 ∧ xd.t.size + xd.f.size + xd.p.tx.size ≤ 4000) := Iff.rfl
  have HZd : Hid (SzA xd ↔ xd.t.size ≤ 140737488355328 ∧ xd.f.size ≤ 140737488355328 ∧ xd.p.tx.size ≤ 140737488355328) := Iff.rfl
  have bxd := fun W => sm_box xd W
  have od := xd.one
  have ld := xd.len
  generalize (⟨xa, xb, xc, xd⟩ : Hk).v = H at *
  generalize SmA xa = Pa at *
  generalize SzA xa = Za at *
  generalize hva : xa.v = La at *
  clear hva
  generalize xa.t = ta at *
  generalize xa.f = fa at *
  generalize xa.p.tx = ua at *
  generalize xa.l.n = na at *
  generalize xa.l.a = aa at *
  generalize xa.l.c = ca at *
  generalize SmA xb = Pb at *
  generalize SzA xb = Zb at *
  generalize hvb : xb.v = Lb at *
  clear hvb
  generalize xb.t = tb at *
  generalize xb.f = fb at *
  generalize xb.p.tx = ub at *
  generalize xb.l.n = nb at *
  generalize xb.l.a = ab at *
  generalize xb.l.c = cb at *
  generalize SmA xc = Pc at *
  generalize SzA xc = Zc at *
  generalize hvc : xc.v = Lc at *
  clear hvc
  generalize xc.t = tc at *
  generalize xc.f = fc at *
  generalize xc.p.tx = uc at *
  generalize xc.l.n = nc at *
  generalize xc.l.a = ac at *
  generalize xc.l.c = cc at *
  generalize SmA xd = Pd at *
  generalize SzA xd = Zd at *
  generalize hvd : xd.v = Ld at *
  clear hvd
  generalize xd.t = td at *
  generalize xd.f = fd at *
  generalize xd.p.tx = ud at *
  generalize xd.l.n = nd at *
  generalize xd.l.a = ad at *
  generalize xd.l.c = cd at *
  go_enter Tryd.func18, Tryd.ntmps18
  go_upto_region 1 with fail
  rw [← hW1]
  clear hW1
  go_wp2_with (first
    | (refine wpl_ld row_Act rfl (.tmp 6) rfl (vs := La) rfl ra la ?_)
    | (refine wpl_ld row_Act rfl (.tmp 8) rfl (vs := Lb) rfl rb lb ?_)
    | (refine wpl_ld row_Act rfl (.tmp 10) rfl (vs := Lc) rfl rc lc ?_)
    | (refine wpl_ld row_Act rfl (.tmp 12) rfl (vs := Ld) rfl rd ld ?_)
    | (refine wpl_bld rfl _ _ rfl [(0, .agg La.toArray), (1, .agg Lb.toArray), (2, .agg Lc.toArray), (3, .agg Ld.toArray)] rfl (hB _) ?_))
  clear ra rb rc rd hB b1
  refine wp_loop_rounds 5 ?_
  generalize W1 = V0 at *
  obtain ⟨V1, e0, q0, d01, d02, d03, d08⟩ := bxa V0
  clear bxa
  have w2 : Below w.heap.size w V1 := w1.trans (q0.mono w1.size)
  rw [rounds_succ]
  go_upto_region 5 with (refine wpl_st row_Act rfl (.tmp 5) (.tmp 17) rfl (us := La) rfl rfl (sm_new _) rfl la oa ?_; rw [← e0]; clear e0)
  simp only [Act.put]
  go_cut [3, 15] from 15 to 44 (fun t x wx => V1 = wx ∧ x = .int .i64 0 ∧ ∃ n : Int, t = .int .i64 n ∧ Hid (n = wrap64 (wrap64 (wrap64 ((ta.size : Int) + (fa.size : Int)) + (ua.size : Int)))))
  case first =>
    as_aux_lemma =>
    go_wp2
    go_meet
    exact ⟨rfl, rfl, _, rfl, rfl⟩
  case rest =>
  obtain ⟨rfl, rfl, N1, rfl, HN1⟩ := hcut
  by_cases c01 : (100 : Int) < na
  · go_wp2
    go_ret
    exact ⟨_, rfl, w2, .inl rfl⟩
  by_cases c03 : N1 < 0
  · go_wp2
    go_ret
    exact ⟨_, rfl, w2, .inl rfl⟩
  by_cases c02 : (4000 : Int) < N1
  · go_wp2
    go_ret
    exact ⟨_, rfl, w2, .inl rfl⟩
  go_wp2
  obtain ⟨V2, e1, q1, d11, d12, d13, d18⟩ := bxb V1
  clear bxb
  have w3 : Below w.heap.size w V2 := w2.trans (q1.mono w2.size)
  rw [rounds_succ]
  go_upto_region 5 with (refine wpl_st row_Act rfl (.tmp 5) (.tmp 17) rfl (us := Lb) rfl rfl (sm_new _) rfl lb ob ?_; rw [← e1]; clear e1)
  simp only [Act.put]
  go_cut [3, 15] from 15 to 44 (fun t x wx => V2 = wx ∧ x = .int .i64 1 ∧ ∃ n : Int, t = .int .i64 n ∧ Hid (n = wrap64 (N1 + wrap64 (wrap64 ((tb.size : Int) + (fb.size : Int)) + (ub.size : Int)))))
  case first =>
    as_aux_lemma =>
    go_wp2
    go_meet
    exact ⟨rfl, rfl, _, rfl, rfl⟩
  case rest =>
  obtain ⟨rfl, rfl, N2, rfl, HN2⟩ := hcut
  by_cases c11 : (100 : Int) < nb
  · go_wp2
    go_ret
    exact ⟨_, rfl, w3, .inl rfl⟩
  by_cases c13 : N2 < 0
  · go_wp2
    go_ret
    exact ⟨_, rfl, w3, .inl rfl⟩
  by_cases c12 : (4000 : Int) < N2
  · go_wp2
    go_ret
    exact ⟨_, rfl, w3, .inl rfl⟩
  go_wp2
  obtain ⟨V3, e2, q2, d21, d22, d23, d28⟩ := bxc V2
  clear bxc
  have w4 : Below w.heap.size w V3 := w3.trans (q2.mono w3.size)
  rw [rounds_succ]
  go_upto_region 5 with (refine wpl_st row_Act rfl (.tmp 5) (.tmp 17) rfl (us := Lc) rfl rfl (sm_new _) rfl lc oc ?_; rw [← e2]; clear e2)
  simp only [Act.put]
  go_cut [3, 15] from 15 to 44 (fun t x wx => V3 = wx ∧ x = .int .i64 2 ∧ ∃ n : Int, t = .int .i64 n ∧ Hid (n = wrap64 (N2 + wrap64 (wrap64 ((tc.size : Int) + (fc.size : Int)) + (uc.size : Int)))))
  case first =>
    as_aux_lemma =>
    go_wp2
    go_meet
    exact ⟨rfl, rfl, _, rfl, rfl⟩
  case rest =>
  obtain ⟨rfl, rfl, N3, rfl, HN3⟩ := hcut
  by_cases c21 : (100 : Int) < nc
  · go_wp2
    go_ret
    exact ⟨_, rfl, w4, .inl rfl⟩
  by_cases c23 : N3 < 0
  · go_wp2
    go_ret
    exact ⟨_, rfl, w4, .inl rfl⟩
  by_cases c22 : (4000 : Int) < N3
  · go_wp2
    go_ret
    exact ⟨_, rfl, w4, .inl rfl⟩
  go_wp2
  obtain ⟨V4, e3, q3, d31, d32, d33, d38⟩ := bxd V3
  clear bxd
  have w5 : Below w.heap.size w V4 := w4.trans (q3.mono w4.size)
  rw [rounds_succ]
  go_upto_region 5 with (refine wpl_st row_Act rfl (.tmp 5) (.tmp 17) rfl (us := Ld) rfl rfl (sm_new _) rfl ld od ?_; rw [← e3]; clear e3)
  simp only [Act.put]
  go_cut [3, 15] from 15 to 44 (fun t x wx => V4 = wx ∧ x = .int .i64 3 ∧ ∃ n : Int, t = .int .i64 n ∧ Hid (n = wrap64 (N3 + wrap64 (wrap64 ((td.size : Int) + (fd.size : Int)) + (ud.size : Int)))))
  case first =>
    as_aux_lemma =>
    go_wp2
    go_meet
    exact ⟨rfl, rfl, _, rfl, rfl⟩
  case rest =>
  obtain ⟨rfl, rfl, N4, rfl, HN4⟩ := hcut
  by_cases c31 : (100 : Int) < nd
  · go_wp2
    go_ret
    exact ⟨_, rfl, w5, .inl rfl⟩
  by_cases c33 : N4 < 0
  · go_wp2
    go_ret
    exact ⟨_, rfl, w5, .inl rfl⟩
  by_cases c32 : (4000 : Int) < N4
  · go_wp2
    go_ret
    exact ⟨_, rfl, w5, .inl rfl⟩
  go_wp2
  rw [rounds_succ]
  go_wp2
  go_ret
  refine ⟨_, rfl, w5, .inr ⟨rfl, fun ⟨sa, sb, sc, sd⟩ => ?_⟩⟩
  have y1 := HZa.out.1 sa
  have y2 := HZb.out.1 sb
  have y3 := HZc.out.1 sc
  have y4 := HZd.out.1 sd
  have k1 : N1 = 0 + ((ta.size : Int) + fa.size + ua.size) := (HN1.out.trans (by rw [Int.zero_add])).trans (wr_sum (n := 0) (by omega) (by omega) (by omega) (by omega) (by omega) (by omega) (by omega) (by omega))
  have k2 : N2 = N1 + ((tb.size : Int) + fb.size + ub.size) := HN2.out.trans (wr_sum (by omega) (by omega) (by omega) (by omega) (by omega) (by omega) (by omega) (by omega))
  have k3 : N3 = N2 + ((tc.size : Int) + fc.size + uc.size) := HN3.out.trans (wr_sum (by omega) (by omega) (by omega) (by omega) (by omega) (by omega) (by omega) (by omega))
  have k4 : N4 = N3 + ((td.size : Int) + fd.size + ud.size) := HN4.out.trans (wr_sum (by omega) (by omega) (by omega) (by omega) (by omega) (by omega) (by omega) (by omega))
  exact ⟨HSa.out.2 ⟨by omega, by omega⟩, HSb.out.2 ⟨by omega, by omega⟩, HSc.out.2 ⟨by omega, by omega⟩, HSd.out.2 ⟨by omega, by omega⟩⟩
end Go.Proofs.YtbfaapbbhgegiaaDoor
