/- DCopy, DGet, DRow: these texts in one. -/
import Derived.Test.YtdlnmnipnkeabaaGreatDoorPt3
import Derived.Test.YtdlnmnipnkeabaaGreatDoorPt17
import Derived.Test.YtdlnmnipnkeabaaGreatDoorPt10
import Derived.Deep.AppendLies
namespace Go.Proofs.YtdlnmnipnkeabaaGreatDoor
open Go.RowKit
set_option linter.unusedVariables false
set_option linter.unusedSimpArgs false
set_option maxRecDepth 1000000 in
theorem cloneD_nil (w : World) : Calls Tryz.prog 33 #[.slice none 0 0] w fun e w' => e = .returned (.slice none 0 0) ∧ w' = w := by
 have he : ∀ w, (binOp BinOp.eql 25 (.slice none 0 0) (.slice none 0 0)).run Tryz.prog w = .ok (.bool true) w := fun w => by kernel_rfl
 go_enter Tryz.func33, Tryz.ntmps33
 go_wp2
 go_ret
 exact ⟨rfl, rfl⟩
set_option maxRecDepth 1000000 in
theorem clone_nil (w : World) : Calls Tryz.prog 48 #[.slice none 0 0] w fun e w' => e = .returned (.slice none 0 0) ∧ w' = w := by
 have he : ∀ w, (binOp BinOp.eql 27 (.slice none 0 0) (.slice none 0 0)).run Tryz.prog w = .ok (.bool true) w := fun w => by kernel_rfl
 go_enter Tryz.func48, Tryz.ntmps48
 go_wp2
 go_ret
 exact ⟨rfl, rfl⟩
set_option maxRecDepth 1000000 in
theorem copies_nil (w : World) : Calls Tryz.prog 267 #[.slice none 0 0] w fun e w' => e = .returned (.slice none 0 0) ∧ w' = w := by
 go_enter Tryz.func267, Tryz.ntmps267
 go_wp2_with (go_at_call 33; refine (cloneD_nil _).mono ?_; rintro e w2 ⟨rfl, q2⟩; subst q2)
 refine wp_loop_rounds 1 ?_
 rw [rounds_succ]
 go_wp2
 go_ret
 exact ⟨rfl, rfl⟩
set_option maxRecDepth 1000000 in
set_option maxHeartbeats 4000000 in
theorem copied_nil (d : Ds) (hn : d.ns = .no) (hp : d.ps = .no) (w : World) : Calls Tryz.prog 234 #[.agg d.v.toArray] w fun e w' => e = .returned (.agg d.v.toArray) ∧ Below w.heap.size w w' := by
 obtain ⟨W1, hW1⟩ : ∃ W1, W1 = (w.alloc (.cells d.v.toArray 29)).alloc (.cells #[.int .i64 0, .string ⟨#[]⟩, .int .u64 0, .int .u64 0, .string ⟨#[]⟩, .slice none 0 0, .slice none 0 0, .int .i64 0] 29) := ⟨_, rfl⟩
 have bd : Blk W1 w.heap.size d.v := by rw [hW1]; exact (Blk.new _ _ _).alloc _
 have br : Blk W1 (w.heap.size + 1) Ds.no.v := by
  rw [hW1]
  have := Blk.new (w.alloc (.cells d.v.toArray 29)) Ds.no.v 29
  rwa [show (w.alloc (.cells d.v.toArray 29)).heap.size = w.heap.size + 1 by simp] at this
 have w1 : Below w.heap.size w W1 := by rw [hW1]; exact ((Below.refl _ _).alloc (Nat.le_refl _) _).alloc (by simp) _
 have c5 : W1.cell? ⟨w.heap.size, 5, none⟩ = some (.slice none 0 0) := by
  have := bd.c 5 _ rfl
  rw [hn] at this
  exact this
 have z5 := bd.z 5
 obtain ⟨W2, hW2⟩ : ∃ W2, W2 = W1.setCell ⟨w.heap.size, 5, none⟩ (.slice none 0 0) := ⟨_, rfl⟩
 have b2 : Blk W2 w.heap.size d.v := by
  rw [hW2]
  have := bd.set 5 (by rw [d.len]; omega) (.slice none 0 0)
  rwa [show d.v.set 5 (.slice none 0 0) = d.v by unfold Ds.v; rw [hn]; rfl] at this
 have r2 : Blk W2 (w.heap.size + 1) Ds.no.v := by rw [hW2]; exact br.other (by omega) _
 have w2 : Below w.heap.size w W2 := by rw [hW2]; exact w1.setCell (Nat.le_refl _) _
 have c6 : W2.cell? ⟨w.heap.size, 6, none⟩ = some (.slice none 0 0) := by
  have := b2.c 6 _ rfl
  rw [hp] at this
  exact this
 have z6 := b2.z 6
 obtain ⟨W3, hW3⟩ : ∃ W3, W3 = W2.setCell ⟨w.heap.size, 6, none⟩ (.slice none 0 0) := ⟨_, rfl⟩
 have b3 : Blk W3 w.heap.size d.v := by
  rw [hW3]
  have := b2.set 6 (by rw [d.len]; omega) (.slice none 0 0)
  rwa [show d.v.set 6 (.slice none 0 0) = d.v by unfold Ds.v; rw [hp]; rfl] at this
 have r3 : Blk W3 (w.heap.size + 1) Ds.no.v := by rw [hW3]; exact r2.other (by omega) _
 have w3 : Below w.heap.size w W3 := by rw [hW3]; exact w2.setCell (Nat.le_refl _) _
 have fin : Blk (W3.setCells (w.heap.size + 1) 0 d.v) (w.heap.size + 1) d.v ∧ Below w.heap.size w (W3.setCells (w.heap.size + 1) 0 d.v) := ⟨r3.all _ rfl, xbelow_sc w3 (by omega) _ _⟩
 have hl := d.len
 have h1 := d.one
 have hz : Ds.no.v.length = 8 := rfl
 generalize Ds.no.v = Z at *
 generalize d.v = D at *
 obtain ⟨f1, f2⟩ := fin
 go_enter Tryz.func234, Tryz.ntmps234
 go_upto_region 1 with fail
 rw [← hW1]
 clear hW1
 go_upto_region 2 with (go_at_call 48; refine (clone_nil _).mono ?_; rintro e w9 ⟨rfl, q9⟩; subst q9)
 rw [← hW2]
 clear hW2
 go_upto_region 3 with (go_at_call 267; refine (copies_nil _).mono ?_; rintro e w9 ⟨rfl, q9⟩; subst q9)
 rw [← hW3]
 clear hW3
 go_wp2_with (first
  | (refine wpl_ld row_Desc rfl (.tmp 1) rfl (vs := D) rfl b3.range hl ?_)
  | (refine wpl_st row_Desc rfl (.tmp 2) (.tmp 11) rfl (us := D) rfl rfl r3 hz hl h1 ?_; generalize W3.setCells (w.heap.size + 1) 0 D = Wf at *))
 exact bodyPost_ret (res_row row_Desc Tryz.results234 rfl f1 hl) rfl ⟨rfl, f2⟩
set_option maxRecDepth 1000000 in
set_option maxHeartbeats 4000000 in
theorem copiedAct_q (x : Ac) (w : World) (QL : Sl → World → Prop) (hQ : ∀ l W W', QL l W → Kx (fun k => k = w.heap.size ∨ k = w.heap.size + 1) W W' → QL l W')
  (hP0 : ∀ V, Below w.heap.size w V → w.heap.size + 2 ≤ V.heap.size → Calls Tryz.prog 267 #[.slice x.l.a x.l.n x.l.c] V fun e W' => (∃ l' : Sl, e = .returned (.slice l'.a l'.n l'.c) ∧ QL l' W') ∧ Below V.heap.size V W')
  (hD0 : ∀ V, Calls Tryz.prog 234 #[.agg x.p.v.toArray] V fun e W' => e = .returned (.agg x.p.v.toArray) ∧ Below V.heap.size V W') :
  Calls Tryz.prog 228 #[.agg x.v.toArray] w fun e w' => (∃ l' : Sl, e = .returned (.agg (Ac.v ⟨x.k, x.t, x.f, l', x.p⟩).toArray) ∧ QL l' w') ∧ Below w.heap.size w w' := by
 obtain ⟨W1, hW1⟩ : ∃ W1, W1 = (w.alloc (.cells x.v.toArray 31)).alloc (.cells #[.int .i64 0, .string ⟨#[]⟩, .string ⟨#[]⟩, .slice none 0 0, .int .i64 0, .string ⟨#[]⟩, .int .u64 0, .int .u64 0, .string ⟨#[]⟩, .slice none 0 0, .slice none 0 0, .int .i64 0] 31) := ⟨_, rfl⟩
 have bd : Blk W1 w.heap.size x.v := by rw [hW1]; exact (Blk.new _ _ _).alloc _
 have br : Blk W1 (w.heap.size + 1) Ac.no.v := by
  rw [hW1]
  have := Blk.new (w.alloc (.cells x.v.toArray 31)) Ac.no.v 31
  rwa [show (w.alloc (.cells x.v.toArray 31)).heap.size = w.heap.size + 1 by simp] at this
 have w1 : Below w.heap.size w W1 := by rw [hW1]; exact ((Below.refl _ _).alloc (Nat.le_refl _) _).alloc (by simp) _
 have c3 : W1.cell? ⟨w.heap.size, 3, none⟩ = some (.slice x.l.a x.l.n x.l.c) := bd.c 3 _ rfl
 have hs1 : w.heap.size + 2 ≤ W1.heap.size := by rw [hW1]; simp
 have hP := hP0 W1 w1 hs1
 have hz : Ac.no.v.length = 12 := rfl
 clear hP0
 go_enter Tryz.func228, Tryz.ntmps228
 go_upto_region 1 with fail
 rw [← hW1]
 clear hW1
 go_upto_region 2 with (go_at_call 267; refine hP.mono ?_; rintro e W2 ⟨⟨s1, rfl, ql⟩, q2⟩; have b2 := bd.up q2; have c2 := b2.c 3 _ rfl; have z2 := b2.z 3)
 have r2 := br.up q2
 have w2 : Below w.heap.size w W2 := w1.trans (q2.mono w1.size)
 have b3 : Blk (W2.setCell ⟨w.heap.size, 3, none⟩ (.slice s1.a s1.n s1.c)) w.heap.size (Ac.v ⟨x.k, x.t, x.f, s1, x.p⟩) := b2.set 3 (by rw [x.len]; omega) _
 have r3 : Blk (W2.setCell ⟨w.heap.size, 3, none⟩ (.slice s1.a s1.n s1.c)) (w.heap.size + 1) Ac.no.v := r2.other (by omega) _
 have w3 : Below w.heap.size w (W2.setCell ⟨w.heap.size, 3, none⟩ (.slice s1.a s1.n s1.c)) := w2.setCell (Nat.le_refl _) _
 have ql3 : QL s1 (W2.setCell ⟨w.heap.size, 3, none⟩ (.slice s1.a s1.n s1.c)) := hQ _ _ _ ql ((Kx.refl _ _).setCell _ _ (Or.inl (Or.inl rfl)) _)
 clear ql
 generalize W2.setCell ⟨w.heap.size, 3, none⟩ (.slice s1.a s1.n s1.c) = W3 at *
 clear b2 c2 z2 r2 w2 q2 bd br w1 c3 hP
 have b3' : Blk W3 w.heap.size ([.int .i64 x.k, .string x.t, .string x.f, .slice s1.a s1.n s1.c] ++ (x.p.v ++ [])) := by rw [List.append_nil]; exact b3
 have rp : W3.rangeAt w.heap.size 4 x.p.v := Blk.mid b3' rfl
 have hD3 := hD0 W3
 have hlp := x.p.len
 clear hD0
 have fin : ∀ (V : World), Below W3.heap.size W3 V → V.there w.heap.size 4 8 ∧ Blk (V.setCells w.heap.size 4 x.p.v) w.heap.size (Ac.v ⟨x.k, x.t, x.f, s1, x.p⟩) ∧ Blk (V.setCells w.heap.size 4 x.p.v) (w.heap.size + 1) Ac.no.v ∧ Below w.heap.size w (V.setCells w.heap.size 4 x.p.v) ∧ QL s1 (V.setCells w.heap.size 4 x.p.v) := fun V hV => by
  have bV := b3'.up hV
  have h2 := Blk.put (p := [.int .i64 x.k, .string x.t, .string x.f, .slice s1.a s1.n s1.c]) (cs := x.p.v) (q := []) bV x.p.v rfl
  rw [List.append_nil] at h2
  exact ⟨Blk.thereMid (p := [.int .i64 x.k, .string x.t, .string x.f, .slice s1.a s1.n s1.c]) (cs := x.p.v) (q := []) bV, h2, (r3.up hV).oth (by omega) _ _, xbelow_sc (w3.trans (hV.mono w3.size)) (Nat.le_refl _) _ _, hQ _ _ _ (hQ _ _ _ ql3 (.of_below hV)) (Kx.setCells _ (Or.inl (Or.inl rfl)) _ _ _ (Kx.refl _ _))⟩
 have hd2 := x.p.one
 go_upto_region 3 with (first
  | (refine wpl_ld row_Desc rfl (.tmp 7) rfl (vs := x.p.v) rfl rp hlp ?_)
  | (go_at_call 234; refine hD3.mono ?_; rintro e W4 ⟨rfl, q4⟩; obtain ⟨th4, b5, r5, w5, ql5⟩ := fin W4 q4)
  | (refine wpl_stm row_Desc rfl (.tmp 10) (.tmp 9) rfl (us := x.p.v) rfl rfl th4 hlp hd2 ?_; generalize W4.setCells w.heap.size 4 x.p.v = W5 at *))
 try simp only [Act.put]
 clear fin th4 q4 rp b3 b3' r3 w3 hD3 ql3
 have ql6 : QL s1 (W5.setCells (w.heap.size + 1) 0 (Ac.v ⟨x.k, x.t, x.f, s1, x.p⟩)) := hQ _ _ _ ql5 (Kx.setCells _ (Or.inl (Or.inr rfl)) _ _ _ (Kx.refl _ _))
 have f1 : Blk (W5.setCells (w.heap.size + 1) 0 (Ac.v ⟨x.k, x.t, x.f, s1, x.p⟩)) (w.heap.size + 1) (Ac.v ⟨x.k, x.t, x.f, s1, x.p⟩) := r5.all _ rfl
 have f2 : Below w.heap.size w (W5.setCells (w.heap.size + 1) 0 (Ac.v ⟨x.k, x.t, x.f, s1, x.p⟩)) := xbelow_sc w5 (by omega) _ _
 obtain ⟨x', hx'⟩ : ∃ x' : Ac, x' = ⟨x.k, x.t, x.f, s1, x.p⟩ := ⟨_, rfl⟩
 have HX : Hid (x' = _) := hx'
 rw [← hx'] at b5 f1 f2 ql6
 clear hx'
 go_wp2_with (first
  | (refine wpl_ld row_Act rfl (.tmp 1) rfl (vs := x'.v) rfl b5.range x'.len ?_)
  | (refine wpl_st row_Act rfl (.tmp 2) (.tmp 11) rfl (us := x'.v) rfl rfl r5 hz x'.len x'.one ?_; generalize W5.setCells (w.heap.size + 1) 0 x'.v = Wf at *))
 exact bodyPost_ret (res_row row_Act Tryz.results228 rfl f1 x'.len) rfl ⟨⟨s1, by rw [HX.out], ql6⟩, f2⟩
end Go.Proofs.YtdlnmnipnkeabaaGreatDoor
namespace Go.Proofs.YtdlnmnipnkeabaaGreatDoor
open Go.RowKit
set_option linter.unusedVariables false
set_option linter.unusedSimpArgs false
def Ro (d : Ds) (B : Nat) (l : Sl) (W : World) : Prop := l.n = 1 ∧ 1 ≤ l.c ∧ l.c ≤ maxLen ∧ ∃ b, l.a = some ⟨b, 0, none⟩ ∧ B ≤ b ∧ b < W.heap.size ∧ W.rangeAt b 0 d.v
theorem Ro.kx {d : Ds} {B : Nat} {l : Sl} {W W' : World} {P : Nat → Prop} (h : Ro d B l W) (k : Kx P W W') (hp : ∀ b, B ≤ b → ¬ P b) : Ro d B l W' := by
 obtain ⟨h1, h2, h3, b, h4, h5, h6, h7⟩ := h
 exact ⟨h1, h2, h3, b, h4, h5, Nat.lt_of_lt_of_le h6 k.size, fun j v hv => k.cell (h7 j v hv) (hp b h5)⟩
theorem Ro.mono {d : Ds} {B B' : Nat} {l : Sl} {W : World} (h : Ro d B l W) (hb : B' ≤ B) : Ro d B' l W := by
 obtain ⟨h1, h2, h3, b, h4, h5, h6, h7⟩ := h
 exact ⟨h1, h2, h3, b, h4, Nat.le_trans hb h5, h6, h7⟩
theorem nbld_hk4 (h : Hk) (w : World) : (Instr.build 34 #[(0, .agg h.a.v.toArray), (1, .agg h.b.v.toArray), (2, .agg h.c.v.toArray), (3, .agg h.d.v.toArray)]).run Tryz.prog w = .ok (.agg h.v.toArray) w := by
 obtain ⟨⟨k, t, f, ⟨la, ln, lc⟩, ⟨a0, a1, a2, a3, a4, ⟨na, nn, nc⟩, ⟨pa, pn, pc⟩, a7⟩⟩, ⟨k', t', f', ⟨la', ln', lc'⟩, ⟨a0', a1', a2', a3', a4', ⟨na', nn', nc'⟩, ⟨pa', pn', pc'⟩, a7'⟩⟩, ⟨k2, t2, f2, ⟨la2, ln2, lc2⟩, ⟨a02, a12, a22, a32, a42, ⟨na2, nn2, nc2⟩, ⟨pa2, pn2, pc2⟩, a72⟩⟩, ⟨k3, t3, f3, ⟨la3, ln3, lc3⟩, ⟨a03, a13, a23, a33, a43, ⟨na3, nn3, nc3⟩, ⟨pa3, pn3, pc3⟩, a73⟩⟩⟩ := h
 kernel_rfl
theorem yieldsIf_bld {ops : Array Oper} {S : World → Prop} {op : Oper} {a : Act} (hw : Region.wanted op (yielded ops a.tmps) = true) (t : TypeId) (parts : Array (Nat × Operand)) (ho : op.op = .build t parts) (ps : List (Nat × Value)) {V : Value} (hx : parts.toList.map (fun x => (x.1, a.eval x.2)) = ps) (hb : ∀ w, (Instr.build t ps.toArray).run Tryz.prog w = .ok V w) : YieldsIf Tryz.prog ops S op V a :=
 .inl ⟨hw, fun w _ => by
  have hx' : (parts.map fun (i, x) => (i, a.eval x)) = ps.toArray := by
   rw [← hx]
   apply Array.ext'
   simp
  unfold execOp
  simp only [ho, hx', hb, Sem.run_bind, Sem.run_pure, Result.andThen_ok]⟩
set_option maxRecDepth 1000000 in
set_option maxHeartbeats 8000000 in
theorem copiedHook_q (h : Hk) (w : World) (QL : Sl → World → Prop) (hQ : ∀ l W W', QL l W → Kx (fun k => k = w.heap.size ∨ k = w.heap.size + 1) W W' → QL l W')
  (hA0 : ∀ V, Calls Tryz.prog 228 #[.agg h.a.v.toArray] V fun e W' => (∃ x' : Ac, e = .returned (.agg x'.v.toArray) ∧ Hid (x' = h.a)) ∧ Below V.heap.size V W')
  (hB0 : ∀ V, Calls Tryz.prog 228 #[.agg h.b.v.toArray] V fun e W' => (∃ x' : Ac, e = .returned (.agg x'.v.toArray) ∧ Hid (x' = h.b)) ∧ Below V.heap.size V W')
  (hC0 : ∀ V, Calls Tryz.prog 228 #[.agg h.c.v.toArray] V fun e W' => (∃ x' : Ac, e = .returned (.agg x'.v.toArray) ∧ Hid (x' = h.c)) ∧ Below V.heap.size V W')
  (hD0 : ∀ V, Below w.heap.size w V → w.heap.size + 2 ≤ V.heap.size → Calls Tryz.prog 228 #[.agg h.d.v.toArray] V fun e W' => (∃ x' : Ac, e = .returned (.agg x'.v.toArray) ∧ Hid (∃ l', x' = ⟨h.d.k, h.d.t, h.d.f, l', h.d.p⟩ ∧ QL l' W')) ∧ Below V.heap.size V W') :
  Calls Tryz.prog 180 #[.agg h.v.toArray] w fun e w' => (∃ h' : Hk, e = .returned (.agg h'.v.toArray) ∧ Hid (∃ l', h' = ⟨h.a, h.b, h.c, ⟨h.d.k, h.d.t, h.d.f, l', h.d.p⟩⟩ ∧ QL l' w')) ∧ Below w.heap.size w w' := by
 obtain ⟨W1, hW1⟩ : ∃ W1, W1 = (w.alloc (.cells h.v.toArray 34)).alloc (.cells #[.int .i64 0, .string ⟨#[]⟩, .string ⟨#[]⟩, .slice none 0 0, .int .i64 0, .string ⟨#[]⟩, .int .u64 0, .int .u64 0, .string ⟨#[]⟩, .slice none 0 0, .slice none 0 0, .int .i64 0, .int .i64 0, .string ⟨#[]⟩, .string ⟨#[]⟩, .slice none 0 0, .int .i64 0, .string ⟨#[]⟩, .int .u64 0, .int .u64 0, .string ⟨#[]⟩, .slice none 0 0, .slice none 0 0, .int .i64 0, .int .i64 0, .string ⟨#[]⟩, .string ⟨#[]⟩, .slice none 0 0, .int .i64 0, .string ⟨#[]⟩, .int .u64 0, .int .u64 0, .string ⟨#[]⟩, .slice none 0 0, .slice none 0 0, .int .i64 0, .int .i64 0, .string ⟨#[]⟩, .string ⟨#[]⟩, .slice none 0 0, .int .i64 0, .string ⟨#[]⟩, .int .u64 0, .int .u64 0, .string ⟨#[]⟩, .slice none 0 0, .slice none 0 0, .int .i64 0] 34) := ⟨_, rfl⟩
 have bd : Blk W1 w.heap.size h.v := by rw [hW1]; exact (Blk.new _ _ _).alloc _
 have br : Blk W1 (w.heap.size + 1) hk0.v := by
  rw [hW1]
  have := Blk.new (w.alloc (.cells h.v.toArray 34)) hk0.v 34
  rwa [show (w.alloc (.cells h.v.toArray 34)).heap.size = w.heap.size + 1 by simp] at this
 have w1 : Below w.heap.size w W1 := by rw [hW1]; exact ((Below.refl _ _).alloc (Nat.le_refl _) _).alloc (by simp) _
 have f0 : ∀ V, Below W1.heap.size W1 V → (fun w' : World => w'.rangeAt w.heap.size 0 h.a.v ∧ w'.rangeAt w.heap.size 12 h.b.v ∧ w'.rangeAt w.heap.size 24 h.c.v ∧ w'.rangeAt w.heap.size 36 h.d.v) V := fun V q => ⟨hk_a (bd.up q), hk_b (bd.up q), hk_c (bd.up q), hk_d (bd.up q)⟩
 have hs1 : w.heap.size + 2 ≤ W1.heap.size := by rw [hW1]; simp
 have hA := fun (V : World) (q : Below W1.heap.size W1 V) => hA0 V
 have hB := fun (V : World) (q : Below W1.heap.size W1 V) => hB0 V
 have hC := fun (V : World) (q : Below W1.heap.size W1 V) => hC0 V
 have hD := fun (V : World) (q : Below W1.heap.size W1 V) => hD0 V (w1.trans (q.mono w1.size)) (Nat.le_trans hs1 q.size)
 have la := h.a.len
 have lb := h.b.len
 have lc := h.c.len
 have ld := h.d.len
 have bD : Below W1.heap.size W1 W1.drew := (Below.refl W1.heap.size W1).drew
 have hz : hk0.v.length = 48 := rfl
 have hbl : ∀ (V : World) (h' : Hk), Below W1.heap.size W1 V → Blk (V.setCells (w.heap.size + 1) 0 h'.v) (w.heap.size + 1) h'.v ∧ Below w.heap.size w (V.setCells (w.heap.size + 1) 0 h'.v) ∧ V.there (w.heap.size + 1) 0 48 ∧ (V.setCells (w.heap.size + 1) 0 h'.v).rangeAt w.heap.size 0 h.a.v ∧ (V.setCells (w.heap.size + 1) 0 h'.v).rangeAt w.heap.size 12 h.b.v ∧ (V.setCells (w.heap.size + 1) 0 h'.v).rangeAt w.heap.size 24 h.c.v ∧ (V.setCells (w.heap.size + 1) 0 h'.v).rangeAt w.heap.size 36 h.d.v := fun V h' q => by
  have bo := (bd.up q).oth (B' := w.heap.size + 1) (by omega) 0 h'.v
  have bt := (br.up q).there
  rw [hz] at bt
  exact ⟨(br.up q).all _ rfl, xbelow_sc (w1.trans (q.mono w1.size)) (by omega) _ _, bt, hk_a bo, hk_b bo, hk_c bo, hk_d bo⟩
 clear hA0 hB0 hC0 hD0 bd br
 generalize h.a.v = La at *
 generalize h.b.v = Lb at *
 generalize h.c.v = Lc at *
 generalize h.d.v = Ld at *
 generalize hHH : h.v = H at *
 clear hHH
 go_enter Tryz.func180, Tryz.ntmps180
 go_upto_region 1 with fail
 rw [← hW1]
 clear hW1
 refine wp_region_held_drew (S := fun w' => w'.rangeAt w.heap.size 0 La ∧ w'.rangeAt w.heap.size 12 Lb ∧ w'.rangeAt w.heap.size 24 Lc ∧ w'.rangeAt w.heap.size 36 Ld) (by kernel_rfl) (f0 _ bD) ?_
 intro hS
 refine tk 0 (.pointer (some ⟨w.heap.size, 0, none⟩)) rfl (by kernel_rfl) (fun _ _ _ h => h) (by rfl) (by assumption) ?_ ?_
 ·intro w5 hSw
  go_simp
 try simp only [Act.put, List.getElem_toArray, List.getElem_cons_zero, List.getElem_cons_succ, List.setIfInBounds_toArray, List.set_cons_zero, List.set_cons_succ, List.length_cons]
 refine wpAnyH_take (i := 1) (v := .agg La.toArray) rfl (by kernel_rfl) (by kernel_rfl) (by kernel_rfl) (fun _ _ _ h => h) ?_ (by assumption) ?_
 ·obtain ⟨⟨dd, r1, r2⟩, r3⟩ := row_Act
  exact yieldsIf_load_mid rfl 31 (.tmp 3) rfl w.heap.size 0 rfl La dd (fun _ h => h.1) r1 r2 (by rw [la]; exact r3)
 try simp only [Act.put, List.getElem_toArray, List.getElem_cons_zero, List.getElem_cons_succ, List.setIfInBounds_toArray, List.set_cons_zero, List.set_cons_succ, List.length_cons]
 refine tk 3 (.pointer (some ⟨w.heap.size, 12, none⟩)) rfl (by kernel_rfl) (fun _ _ _ h => h) (by rfl) (by assumption) ?_ ?_
 ·intro w5 hSw
  go_simp
 try simp only [Act.put, List.getElem_toArray, List.getElem_cons_zero, List.getElem_cons_succ, List.setIfInBounds_toArray, List.set_cons_zero, List.set_cons_succ, List.length_cons]
 refine wpAnyH_take (i := 4) (v := .agg Lb.toArray) rfl (by kernel_rfl) (by kernel_rfl) (by kernel_rfl) (fun _ _ _ h => h) ?_ (by assumption) ?_
 ·obtain ⟨⟨dd, r1, r2⟩, r3⟩ := row_Act
  exact yieldsIf_load_mid rfl 31 (.tmp 6) rfl w.heap.size 12 rfl Lb dd (fun _ h => h.2.1) r1 r2 (by rw [lb]; exact r3)
 try simp only [Act.put, List.getElem_toArray, List.getElem_cons_zero, List.getElem_cons_succ, List.setIfInBounds_toArray, List.set_cons_zero, List.set_cons_succ, List.length_cons]
 refine tk 6 (.pointer (some ⟨w.heap.size, 24, none⟩)) rfl (by kernel_rfl) (fun _ _ _ h => h) (by rfl) (by assumption) ?_ ?_
 ·intro w5 hSw
  go_simp
 try simp only [Act.put, List.getElem_toArray, List.getElem_cons_zero, List.getElem_cons_succ, List.setIfInBounds_toArray, List.set_cons_zero, List.set_cons_succ, List.length_cons]
 refine wpAnyH_take (i := 7) (v := .agg Lc.toArray) rfl (by kernel_rfl) (by kernel_rfl) (by kernel_rfl) (fun _ _ _ h => h) ?_ (by assumption) ?_
 ·obtain ⟨⟨dd, r1, r2⟩, r3⟩ := row_Act
  exact yieldsIf_load_mid rfl 31 (.tmp 9) rfl w.heap.size 24 rfl Lc dd (fun _ h => h.2.2.1) r1 r2 (by rw [lc]; exact r3)
 try simp only [Act.put, List.getElem_toArray, List.getElem_cons_zero, List.getElem_cons_succ, List.setIfInBounds_toArray, List.set_cons_zero, List.set_cons_succ, List.length_cons]
 refine tk 9 (.pointer (some ⟨w.heap.size, 36, none⟩)) rfl (by kernel_rfl) (fun _ _ _ h => h) (by rfl) (by assumption) ?_ ?_
 ·intro w5 hSw
  go_simp
 try simp only [Act.put, List.getElem_toArray, List.getElem_cons_zero, List.getElem_cons_succ, List.setIfInBounds_toArray, List.set_cons_zero, List.set_cons_succ, List.length_cons]
 refine wpAnyH_take (i := 10) (v := .agg Ld.toArray) rfl (by kernel_rfl) (by kernel_rfl) (by kernel_rfl) (fun _ _ _ h => h) ?_ (by assumption) ?_
 ·obtain ⟨⟨dd, r1, r2⟩, r3⟩ := row_Act
  exact yieldsIf_load_mid rfl 31 (.tmp 12) rfl w.heap.size 36 rfl Ld dd (fun _ h => h.2.2.2) r1 r2 (by rw [ld]; exact r3)
 try simp only [Act.put, List.getElem_toArray, List.getElem_cons_zero, List.getElem_cons_succ, List.setIfInBounds_toArray, List.set_cons_zero, List.set_cons_succ, List.length_cons]
 refine rd1 2 (by kernel_rfl) rfl fun K0 hK0 => ?_
 go_simp
 refine (hA _ bD).mono ?_
 rintro e Z0 ⟨⟨ya, rfl, ka⟩, q0⟩
 have b0 : Below W1.heap.size W1 Z0 := bD.trans (q0.mono bD.size)
 refine hK0.out _ _ (f0 _ b0) (fun hH0 => ?_)
 try simp only [Act.put, List.getElem_toArray, List.getElem_cons_zero, List.getElem_cons_succ, List.setIfInBounds_toArray, List.set_cons_zero, List.set_cons_succ, List.length_cons]
 refine rd1 5 (by kernel_rfl) rfl fun K1 hK1 => ?_
 go_simp
 refine (hB _ b0).mono ?_
 rintro e Z1 ⟨⟨yb, rfl, kb⟩, q1⟩
 have b1 : Below W1.heap.size W1 Z1 := b0.trans (q1.mono b0.size)
 refine hK1.out _ _ (f0 _ b1) (fun hH1 => ?_)
 try simp only [Act.put, List.getElem_toArray, List.getElem_cons_zero, List.getElem_cons_succ, List.setIfInBounds_toArray, List.set_cons_zero, List.set_cons_succ, List.length_cons]
 refine rd1 8 (by kernel_rfl) rfl fun K2 hK2 => ?_
 go_simp
 refine (hC _ b1).mono ?_
 rintro e Z2 ⟨⟨yc, rfl, kc⟩, q2⟩
 have b2 : Below W1.heap.size W1 Z2 := b1.trans (q2.mono b1.size)
 refine hK2.out _ _ (f0 _ b2) (fun hH2 => ?_)
 try simp only [Act.put, List.getElem_toArray, List.getElem_cons_zero, List.getElem_cons_succ, List.setIfInBounds_toArray, List.set_cons_zero, List.set_cons_succ, List.length_cons]
 refine rd1 11 (by kernel_rfl) rfl fun K3 hK3 => ?_
 go_simp
 refine (hD _ b2).mono ?_
 rintro e Z3 ⟨⟨yd, rfl, kd⟩, q3⟩
 have b3 : Below W1.heap.size W1 Z3 := b2.trans (q3.mono b2.size)
 refine hK3.out _ _ (f0 _ b3) (fun hH3 => ?_)
 try simp only [Act.put, List.getElem_toArray, List.getElem_cons_zero, List.getElem_cons_succ, List.setIfInBounds_toArray, List.set_cons_zero, List.set_cons_succ, List.length_cons]
 refine wpAnyH_take (i := 12) (v := .agg (Hk.v ⟨ya, yb, yc, yd⟩).toArray) rfl (by kernel_rfl) (by kernel_rfl) (by kernel_rfl) (fun _ _ _ h => h) (yieldsIf_bld rfl _ _ rfl [(0, .agg ya.v.toArray), (1, .agg yb.v.toArray), (2, .agg yc.v.toArray), (3, .agg yd.v.toArray)] rfl (fun w => nbld_hk4 ⟨ya, yb, yc, yd⟩ w)) (by assumption) ?_
 try simp only [Act.put, List.getElem_toArray, List.getElem_cons_zero, List.getElem_cons_succ, List.setIfInBounds_toArray, List.set_cons_zero, List.set_cons_succ, List.length_cons]
 have hk : Hid (∃ l', (⟨ya, yb, yc, yd⟩ : Hk) = ⟨h.a, h.b, h.c, ⟨h.d.k, h.d.t, h.d.f, l', h.d.p⟩⟩ ∧ QL l' Z3) := by
  obtain ⟨l', e1, e2⟩ := kd.out
  exact ⟨l', by rw [ka.out, kb.out, kc.out, e1], e2⟩
 clear hA hB hC hD ka kb kc kd hK0 hK1 hK2 hK3
 generalize hy : (⟨ya, yb, yc, yd⟩ : Hk) = h' at *
 clear hy
 obtain ⟨g1, g2, g3, g4⟩ := hbl Z3 h' b3
 clear hbl f0
 refine rd1 13 (by kernel_rfl) rfl fun K9 hK9 => ?_
 rw [if_pos (by rfl)]
 refine wp_store_mid 34 (.tmp 2) (.tmp 15) rfl (w.heap.size + 1) 0 h'.v.toArray rfl rfl (by simpa [h'.len] using g3) (by simp [h'.len, row_Hook.2]) (all_oneCell_toArray h'.one) ?_
 rw [show h'.v.toArray.toList = h'.v from rfl]
 have hk2 : Hid (∃ l', h' = ⟨h.a, h.b, h.c, ⟨h.d.k, h.d.t, h.d.f, l', h.d.p⟩⟩ ∧ QL l' (Z3.setCells (w.heap.size + 1) 0 h'.v)) := by
  obtain ⟨l', e1, e2⟩ := hk.out
  exact ⟨l', e1, hQ _ _ _ e2 (Kx.setCells _ (Or.inl (Or.inr rfl)) _ _ _ (Kx.refl _ _))⟩
 clear hk
 generalize Z3.setCells (w.heap.size + 1) 0 h'.v = Wf at *
 refine hK9.out _ _ g4 (fun _ => ?_)
 clear hK9
 refine wpAnyH_done (by kernel_rfl) ?_ _
 try simp only [Act.put, List.getElem_toArray, List.getElem_cons_zero, List.getElem_cons_succ, List.setIfInBounds_toArray, List.set_cons_zero, List.set_cons_succ, List.length_cons]
 go_wp2
 exact bodyPost_ret (res_row row_Hook Tryz.results180 rfl g1 h'.len) rfl ⟨⟨h', rfl, hk2⟩, g2⟩
end Go.Proofs.YtdlnmnipnkeabaaGreatDoor
namespace Go.Proofs.YtdlnmnipnkeabaaGreatDoor
open Go.RowKit
set_option linter.unusedVariables false
set_option linter.unusedSimpArgs false
theorem Hid.mk' {p : Prop} (h : p) : Hid p := h
abbrev hkP (f : ByteArray) (l : Sl) : Hk := ⟨.no, .no, .no, ⟨3, ⟨#[]⟩, f, l, .no⟩⟩
set_option maxRecDepth 1000000 in
set_option maxHeartbeats 8000000 in
theorem get_q (h : Hk) (TB : Nat) {c : Nat} (w : World) (QH : Hk → World → Prop) (hQ : ∀ h' W W', QH h' W → Kx (fun k => k = w.heap.size) W W' → QH h' W') (hB : Blk w TB h.v)
  (hH0 : ∀ V, Below w.heap.size w V → w.heap.size < V.heap.size → Calls Tryz.prog 180 #[.agg h.v.toArray] V fun e w' => (∃ h' : Hk, e = .returned (.agg h'.v.toArray) ∧ Hid (QH h' w')) ∧ Below V.heap.size V w') :
  Calls Tryz.prog 140 #[.slice (some ⟨TB, 0, none⟩) 1 c, .int .i64 1] w fun e w' => (∃ h' : Hk, e = .returned (.tuple #[.agg h'.v.toArray, .bool true]) ∧ Hid (QH h' w')) ∧ Below w.heap.size w w' := by
 have hz : hk0.v.length = 48 := rfl
 have ha0 := fun w => zero_hk w
 have hoz := hk0.one
 have hlh := h.len
 obtain ⟨W1, hW1⟩ : ∃ W1, W1 = w.alloc (.cells hk0.v.toArray 34) := ⟨_, rfl⟩
 have b1 : Below w.heap.size w W1 := by rw [hW1]; exact (Below.refl _ _).alloc (Nat.le_refl _) _
 have k1 : Blk W1 w.heap.size hk0.v := by rw [hW1]; exact Blk.new w hk0.v 34
 have hs : w.heap.size < W1.heap.size := k1.b
 have hH := hH0 W1 b1 hs
 have rH := (hB.up b1).range
 generalize h.v = H at *
 generalize hk0.v = ZV at *
 clear hB hH0
 go_enter Tryz.func140, Tryz.ntmps140
 go_upto_region 1 with (refine wpl_allocz ha0 rfl rfl ?_)
 rw [← hW1]
 clear hW1
 go_upto_region 3 with fail
 go_wp2_with (first
  | (refine wpl_ld row_Hook rfl (.tmp 19) rfl rfl rH hlh ?_)
  | (go_at_call 180; refine hH.mono ?_; rintro e W2 ⟨⟨h', rfl, hq⟩, b2⟩; have k2 := k1.up b2; have l2 := h'.len; have o2 := h'.one; have f1 : Blk (W2.setCells w.heap.size 0 h'.v) w.heap.size h'.v := k2.all _ (by rw [l2, hz]); have f2 : Below w.heap.size w (W2.setCells w.heap.size 0 h'.v) := xbelow_sc (b1.trans (b2.mono b1.size)) (Nat.le_refl _) _ _; have hq2 : Hid (QH h' (W2.setCells w.heap.size 0 h'.v)) := hQ _ _ _ hq.out (Kx.setCells (P := fun k => k = w.heap.size) _ (Or.inl rfl) _ _ _ (Kx.refl _ _)); clear hq b2)
  | (refine wpl_st row_Hook rfl (.tmp 4) (.tmp 21) rfl (us := h'.v) rfl rfl k2 hz l2 o2 ?_; generalize W2.setCells w.heap.size 0 h'.v = Wf at *))
 exact bodyPost_ret (res_row2 row_Hook Tryz.results140 rfl rfl f1 l2) rfl ⟨⟨h', rfl, hq2⟩, f2⟩
abbrev oneE (hv : Value) : Array MapEntry := #[{ key := .int .i64 1, val := hv, born := 0 }]
theorem upd_first (w : World) (M : Nat) (hv : Value) (hM : w.heap[M]? = some (.map #[] 0)) : (Instr.mapUpdate 95 (.map (some M)) (.int .i64 1) hv).run Tryz.prog w = .ok () { w with heap := w.heap.setIfInBounds M (.map (oneE hv) 1) } := by
 have h1 := MapKept.run_findKey (P := Tryz.prog) (w := w) (kt := 3) (k := .int .i64 1) (l := []) (a := none) Tryz.underlying3 rfl
 have h2 := fun e n => MapKept.run_checkKey (P := Tryz.prog) (w := w) (kt := 3) (k := .int .i64 1) Tryz.underlying3 (by exact rfl) e n
 simp [Instr.mapUpdate, run_underlying Tryz.underlying95, MapKept.run_getObj_map hM, h1, h2, MapKept.run_setObj_map _ hM, Result.andThen]
end Go.Proofs.YtdlnmnipnkeabaaGreatDoor
