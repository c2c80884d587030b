/- DGet, DRow, DRowB: these texts in one. -/
import Derived.Test.YtjfmhghpkefihaaGreatDoorPt19
import Derived.Test.YtjfmhghpkefihaaGreatDoorPt11
import Derived.Deep.AppendLies
namespace Go.Proofs.YtjfmhghpkefihaaGreatDoor
open Go.RowKit
set_option linter.unusedVariables false
set_option linter.unusedSimpArgs false
def Ro (d : Ds) (B : Nat) (l : Sl) (W : World) : Prop := l.n = 1 ∧ 1 ≤ l.c ∧ l.c ≤ maxLen ∧ ∃ b, l.a = some ⟨b, 0, none⟩ ∧ B ≤ b ∧ b < W.heap.size ∧ W.rangeAt b 0 d.v
theorem Ro.kx {d : Ds} {B : Nat} {l : Sl} {W W' : World} {P : Nat → Prop} (h : Ro d B l W) (k : Kx P W W') (hp : ∀ b, B ≤ b → ¬ P b) : Ro d B l W' := by
 obtain ⟨h1, h2, h3, b, h4, h5, h6, h7⟩ := h
 exact ⟨h1, h2, h3, b, h4, h5, Nat.lt_of_lt_of_le h6 k.size, fun j v hv => k.cell (h7 j v hv) (hp b h5)⟩
theorem Ro.mono {d : Ds} {B B' : Nat} {l : Sl} {W : World} (h : Ro d B l W) (hb : B' ≤ B) : Ro d B' l W := by
 obtain ⟨h1, h2, h3, b, h4, h5, h6, h7⟩ := h
 exact ⟨h1, h2, h3, b, h4, Nat.le_trans hb h5, h6, h7⟩
set_option maxRecDepth 1000000 in
set_option maxHeartbeats 4000000 in
theorem copies1 (b c : Nat) (d : Ds) (hn : d.ns = .no) (hp : d.ps = .no) (w : World) (hr : w.rangeAt b 0 d.v) :
  Calls Tryz.prog 240 #[.slice (some ⟨b, 0, none⟩) 1 c] w fun e w' => (∃ l' : Sl, e = .returned (.slice l'.a l'.n l'.c) ∧ Ro d w.heap.size l' w') ∧ Below w.heap.size w w' := by
 have hC := cloneD_any ⟨b, 0, none⟩ 1 c d.v w (by rw [d.len]) (fun j u hu => by have := hr j u hu; rw [Addr.add_mid]; exact this) d.one (by decide)
 have hD := fun W => copied_nil d hn hp W
 have hlen := d.len
 have hone := d.one
 unfold Ro
 generalize d.v = DV at *
 go_enter Tryz.func240, Tryz.ntmps240
 go_upto_region 2 with (go_at_call 273; refine hC.mono ?_; rintro e W2 ⟨v', rfl, o2, b2⟩; obtain ⟨g, cap, rfl, hg1, hg2⟩ := o2.form (by decide))
 obtain ⟨a', c', he1, hc1, hc2⟩ := own_slice9 o2
 obtain ⟨-, -, rfl⟩ := Value.slice.inj he1
 have r2 : W2.rangeAt g 0 DV := fun j v hv => by
  have := (List.getElem?_eq_some_iff.1 hv).1
  rw [Nat.zero_add, o2.cellAt j (by omega)]
  exact hv
 have z2 := fun x => o2.frozenAt x
 clear o2 hC hr
 go_wp2
 refine wp_loop_rounds 2 ?_
 rw [rounds_succ]
 have hDs := hD W2
 go_upto_region 5 with fail
 have kk : ∀ V, Below W2.heap.size W2 V → V.there g 0 8 ∧ Below w.heap.size w (V.setCells g 0 DV) ∧ (V.setCells g 0 DV).rangeAt g 0 DV ∧ g < (V.setCells g 0 DV).heap.size := fun V hV => by
  have rV : V.rangeAt g 0 DV := fun j v hv => (hV.cell (p := ⟨g, 0 + j, none⟩) hg2).trans (r2 j v hv)
  have zV : ∀ j, V.frozen? ⟨g, j, none⟩ = false := fun j => (hV.frozen (p := ⟨g, j, none⟩) hg2).trans (z2 j)
  have bV : Blk V g DV := ⟨fun i v hv => by have := rV i v hv; rwa [Nat.zero_add] at this, zV, Nat.lt_of_lt_of_le hg2 hV.size⟩
  have hb := b2.trans (hV.mono b2.size)
  have t := bV.there
  rw [hlen] at t
  have f := bV.all DV rfl
  exact ⟨t, xbelow_sc hb hg1 _ _, f.range, f.b⟩
 go_wp2_with (first
  | (refine wpl_ld row_Desc rfl (.tmp 15) rfl (vs := DV) rfl r2 hlen ?_)
  | (go_at_call 196; refine hDs.mono ?_; rintro e V2 ⟨rfl, q2⟩; obtain ⟨th, bb, rr, ll⟩ := kk V2 q2)
  | (refine wpl_stm row_Desc rfl (.tmp 18) (.tmp 17) rfl (us := DV) rfl rfl th hlen hone ?_; generalize V2.setCells g 0 DV = V3 at *))
 rw [rounds_succ]
 go_wp2
 go_ret
 exact ⟨⟨⟨some ⟨g, 0, none⟩, 1, cap⟩, rfl, rfl, hc1, hc2, g, rfl, hg1, ll, rr⟩, bb⟩
theorem nbld_hk4 (h : Hk) (w : World) : (Instr.build 33 #[(0, .agg h.a.v.toArray), (1, .agg h.b.v.toArray), (2, .agg h.c.v.toArray), (3, .agg h.d.v.toArray)]).run Tryz.prog w = .ok (.agg h.v.toArray) w := by
 obtain ⟨⟨k, t, f, ⟨la, ln, lc⟩, ⟨a0, a1, a2, a3, a4, ⟨na, nn, nc⟩, ⟨pa, pn, pc⟩, a7⟩⟩, ⟨k', t', f', ⟨la', ln', lc'⟩, ⟨a0', a1', a2', a3', a4', ⟨na', nn', nc'⟩, ⟨pa', pn', pc'⟩, a7'⟩⟩, ⟨k2, t2, f2, ⟨la2, ln2, lc2⟩, ⟨a02, a12, a22, a32, a42, ⟨na2, nn2, nc2⟩, ⟨pa2, pn2, pc2⟩, a72⟩⟩, ⟨k3, t3, f3, ⟨la3, ln3, lc3⟩, ⟨a03, a13, a23, a33, a43, ⟨na3, nn3, nc3⟩, ⟨pa3, pn3, pc3⟩, a73⟩⟩⟩ := h
 kernel_rfl
theorem yieldsIf_bld {ops : Array Oper} {S : World → Prop} {op : Oper} {a : Act} (hw : Region.wanted op (yielded ops a.tmps) = true) (t : TypeId) (parts : Array (Nat × Operand)) (ho : op.op = .build t parts) (ps : List (Nat × Value)) {V : Value} (hx : parts.toList.map (fun x => (x.1, a.eval x.2)) = ps) (hb : ∀ w, (Instr.build t ps.toArray).run Tryz.prog w = .ok V w) : YieldsIf Tryz.prog ops S op V a :=
 .inl ⟨hw, fun w _ => by
  have hx' : (parts.map fun (i, x) => (i, a.eval x)) = ps.toArray := by
   rw [← hx]
   apply Array.ext'
   simp
  unfold execOp
  simp only [ho, hx', hb, Sem.run_bind, Sem.run_pure, Result.andThen_ok]⟩
set_option maxRecDepth 1000000 in
set_option maxHeartbeats 8000000 in
theorem copiedHook_q (h : Hk) (w : World) (QL : Sl → World → Prop) (hQ : ∀ l W W', QL l W → Kx (fun k => k = w.heap.size ∨ k = w.heap.size + 1) W W' → QL l W')
  (hA0 : ∀ V, Calls Tryz.prog 190 #[.agg h.a.v.toArray] V fun e W' => (∃ x' : Ac, e = .returned (.agg x'.v.toArray) ∧ Hid (x' = h.a)) ∧ Below V.heap.size V W')
  (hB0 : ∀ V, Calls Tryz.prog 190 #[.agg h.b.v.toArray] V fun e W' => (∃ x' : Ac, e = .returned (.agg x'.v.toArray) ∧ Hid (x' = h.b)) ∧ Below V.heap.size V W')
  (hC0 : ∀ V, Calls Tryz.prog 190 #[.agg h.c.v.toArray] V fun e W' => (∃ x' : Ac, e = .returned (.agg x'.v.toArray) ∧ Hid (x' = h.c)) ∧ Below V.heap.size V W')
  (hD0 : ∀ V, Below w.heap.size w V → w.heap.size + 2 ≤ V.heap.size → Calls Tryz.prog 190 #[.agg h.d.v.toArray] V fun e W' => (∃ x' : Ac, e = .returned (.agg x'.v.toArray) ∧ Hid (∃ l', x' = ⟨h.d.k, h.d.t, h.d.f, l', h.d.p⟩ ∧ QL l' W')) ∧ Below V.heap.size V W') :
  Calls Tryz.prog 144 #[.agg h.v.toArray] w fun e w' => (∃ h' : Hk, e = .returned (.agg h'.v.toArray) ∧ Hid (∃ l', h' = ⟨h.a, h.b, h.c, ⟨h.d.k, h.d.t, h.d.f, l', h.d.p⟩⟩ ∧ QL l' w')) ∧ Below w.heap.size w w' := by
 obtain ⟨W1, hW1⟩ : ∃ W1, W1 = (w.alloc (.cells h.v.toArray 33)).alloc (.cells #[.int .i64 0, .string ⟨#[]⟩, .string ⟨#[]⟩, .slice none 0 0, .int .i64 0, .string ⟨#[]⟩, .int .u64 0, .int .u64 0, .string ⟨#[]⟩, .slice none 0 0, .slice none 0 0, .int .i64 0, .int .i64 0, .string ⟨#[]⟩, .string ⟨#[]⟩, .slice none 0 0, .int .i64 0, .string ⟨#[]⟩, .int .u64 0, .int .u64 0, .string ⟨#[]⟩, .slice none 0 0, .slice none 0 0, .int .i64 0, .int .i64 0, .string ⟨#[]⟩, .string ⟨#[]⟩, .slice none 0 0, .int .i64 0, .string ⟨#[]⟩, .int .u64 0, .int .u64 0, .string ⟨#[]⟩, .slice none 0 0, .slice none 0 0, .int .i64 0, .int .i64 0, .string ⟨#[]⟩, .string ⟨#[]⟩, .slice none 0 0, .int .i64 0, .string ⟨#[]⟩, .int .u64 0, .int .u64 0, .string ⟨#[]⟩, .slice none 0 0, .slice none 0 0, .int .i64 0] 33) := ⟨_, rfl⟩
 have bd : Blk W1 w.heap.size h.v := by rw [hW1]; exact (Blk.new _ _ _).alloc _
 have br : Blk W1 (w.heap.size + 1) hk0.v := by
  rw [hW1]
  have := Blk.new (w.alloc (.cells h.v.toArray 33)) hk0.v 33
  rwa [show (w.alloc (.cells h.v.toArray 33)).heap.size = w.heap.size + 1 by simp] at this
 have w1 : Below w.heap.size w W1 := by rw [hW1]; exact ((Below.refl _ _).alloc (Nat.le_refl _) _).alloc (by simp) _
 have f0 : ∀ V, Below W1.heap.size W1 V → (fun w' : World => w'.rangeAt w.heap.size 0 h.a.v ∧ w'.rangeAt w.heap.size 12 h.b.v ∧ w'.rangeAt w.heap.size 24 h.c.v ∧ w'.rangeAt w.heap.size 36 h.d.v) V := fun V q => ⟨hk_a (bd.up q), hk_b (bd.up q), hk_c (bd.up q), hk_d (bd.up q)⟩
 have hs1 : w.heap.size + 2 ≤ W1.heap.size := by rw [hW1]; simp
 have hA := fun (V : World) (q : Below W1.heap.size W1 V) => hA0 V
 have hB := fun (V : World) (q : Below W1.heap.size W1 V) => hB0 V
 have hC := fun (V : World) (q : Below W1.heap.size W1 V) => hC0 V
 have hD := fun (V : World) (q : Below W1.heap.size W1 V) => hD0 V (w1.trans (q.mono w1.size)) (Nat.le_trans hs1 q.size)
 have la := h.a.len
 have lb := h.b.len
 have lc := h.c.len
 have ld := h.d.len
 have bD : Below W1.heap.size W1 W1.drew := (Below.refl W1.heap.size W1).drew
 have hz : hk0.v.length = 48 := rfl
 have hbl : ∀ (V : World) (h' : Hk), Below W1.heap.size W1 V → Blk (V.setCells (w.heap.size + 1) 0 h'.v) (w.heap.size + 1) h'.v ∧ Below w.heap.size w (V.setCells (w.heap.size + 1) 0 h'.v) ∧ V.there (w.heap.size + 1) 0 48 ∧ (V.setCells (w.heap.size + 1) 0 h'.v).rangeAt w.heap.size 0 h.a.v ∧ (V.setCells (w.heap.size + 1) 0 h'.v).rangeAt w.heap.size 12 h.b.v ∧ (V.setCells (w.heap.size + 1) 0 h'.v).rangeAt w.heap.size 24 h.c.v ∧ (V.setCells (w.heap.size + 1) 0 h'.v).rangeAt w.heap.size 36 h.d.v := fun V h' q => by
  have bo := (bd.up q).oth (B' := w.heap.size + 1) (by omega) 0 h'.v
  have bt := (br.up q).there
  rw [hz] at bt
  exact ⟨(br.up q).all _ rfl, xbelow_sc (w1.trans (q.mono w1.size)) (by omega) _ _, bt, hk_a bo, hk_b bo, hk_c bo, hk_d bo⟩
 clear hA0 hB0 hC0 hD0 bd br
 generalize h.a.v = La at *
 generalize h.b.v = Lb at *
 generalize h.c.v = Lc at *
 generalize h.d.v = Ld at *
 generalize hHH : h.v = H at *
 clear hHH
 go_enter Tryz.func144, Tryz.ntmps144
 go_upto_region 1 with fail
 rw [← hW1]
 clear hW1
 refine wp_region_held_drew (S := fun w' => w'.rangeAt w.heap.size 0 La ∧ w'.rangeAt w.heap.size 12 Lb ∧ w'.rangeAt w.heap.size 24 Lc ∧ w'.rangeAt w.heap.size 36 Ld) (by kernel_rfl) (f0 _ bD) ?_
 intro hS
 refine tk 0 (.pointer (some ⟨w.heap.size, 0, none⟩)) rfl (by kernel_rfl) (fun _ _ _ h => h) (by rfl) (by assumption) ?_ ?_
 ·intro w5 hSw
  go_simp
 try simp only [Act.put, List.getElem_toArray, List.getElem_cons_zero, List.getElem_cons_succ, List.setIfInBounds_toArray, List.set_cons_zero, List.set_cons_succ, List.length_cons]
 refine wpAnyH_take (i := 1) (v := .agg La.toArray) rfl (by kernel_rfl) (by kernel_rfl) (by kernel_rfl) (fun _ _ _ h => h) ?_ (by assumption) ?_
 ·obtain ⟨⟨dd, r1, r2⟩, r3⟩ := row_Act
  exact yieldsIf_load_mid rfl 31 (.tmp 3) rfl w.heap.size 0 rfl La dd (fun _ h => h.1) r1 r2 (by rw [la]; exact r3)
 try simp only [Act.put, List.getElem_toArray, List.getElem_cons_zero, List.getElem_cons_succ, List.setIfInBounds_toArray, List.set_cons_zero, List.set_cons_succ, List.length_cons]
 refine tk 3 (.pointer (some ⟨w.heap.size, 12, none⟩)) rfl (by kernel_rfl) (fun _ _ _ h => h) (by rfl) (by assumption) ?_ ?_
 ·intro w5 hSw
  go_simp
 try simp only [Act.put, List.getElem_toArray, List.getElem_cons_zero, List.getElem_cons_succ, List.setIfInBounds_toArray, List.set_cons_zero, List.set_cons_succ, List.length_cons]
 refine wpAnyH_take (i := 4) (v := .agg Lb.toArray) rfl (by kernel_rfl) (by kernel_rfl) (by kernel_rfl) (fun _ _ _ h => h) ?_ (by assumption) ?_
 ·obtain ⟨⟨dd, r1, r2⟩, r3⟩ := row_Act
  exact yieldsIf_load_mid rfl 31 (.tmp 6) rfl w.heap.size 12 rfl Lb dd (fun _ h => h.2.1) r1 r2 (by rw [lb]; exact r3)
 try simp only [Act.put, List.getElem_toArray, List.getElem_cons_zero, List.getElem_cons_succ, List.setIfInBounds_toArray, List.set_cons_zero, List.set_cons_succ, List.length_cons]
 refine tk 6 (.pointer (some ⟨w.heap.size, 24, none⟩)) rfl (by kernel_rfl) (fun _ _ _ h => h) (by rfl) (by assumption) ?_ ?_
 ·intro w5 hSw
  go_simp
 try simp only [Act.put, List.getElem_toArray, List.getElem_cons_zero, List.getElem_cons_succ, List.setIfInBounds_toArray, List.set_cons_zero, List.set_cons_succ, List.length_cons]
 refine wpAnyH_take (i := 7) (v := .agg Lc.toArray) rfl (by kernel_rfl) (by kernel_rfl) (by kernel_rfl) (fun _ _ _ h => h) ?_ (by assumption) ?_
 ·obtain ⟨⟨dd, r1, r2⟩, r3⟩ := row_Act
  exact yieldsIf_load_mid rfl 31 (.tmp 9) rfl w.heap.size 24 rfl Lc dd (fun _ h => h.2.2.1) r1 r2 (by rw [lc]; exact r3)
 try simp only [Act.put, List.getElem_toArray, List.getElem_cons_zero, List.getElem_cons_succ, List.setIfInBounds_toArray, List.set_cons_zero, List.set_cons_succ, List.length_cons]
 refine tk 9 (.pointer (some ⟨w.heap.size, 36, none⟩)) rfl (by kernel_rfl) (fun _ _ _ h => h) (by rfl) (by assumption) ?_ ?_
 ·intro w5 hSw
  go_simp
 try simp only [Act.put, List.getElem_toArray, List.getElem_cons_zero, List.getElem_cons_succ, List.setIfInBounds_toArray, List.set_cons_zero, List.set_cons_succ, List.length_cons]
 refine wpAnyH_take (i := 10) (v := .agg Ld.toArray) rfl (by kernel_rfl) (by kernel_rfl) (by kernel_rfl) (fun _ _ _ h => h) ?_ (by assumption) ?_
 ·obtain ⟨⟨dd, r1, r2⟩, r3⟩ := row_Act
  exact yieldsIf_load_mid rfl 31 (.tmp 12) rfl w.heap.size 36 rfl Ld dd (fun _ h => h.2.2.2) r1 r2 (by rw [ld]; exact r3)
 try simp only [Act.put, List.getElem_toArray, List.getElem_cons_zero, List.getElem_cons_succ, List.setIfInBounds_toArray, List.set_cons_zero, List.set_cons_succ, List.length_cons]
 refine rd1 2 (by kernel_rfl) rfl fun K0 hK0 => ?_
 go_simp
 refine (hA _ bD).mono ?_
 rintro e Z0 ⟨⟨ya, rfl, ka⟩, q0⟩
 have b0 : Below W1.heap.size W1 Z0 := bD.trans (q0.mono bD.size)
 refine hK0.out _ _ (f0 _ b0) (fun hH0 => ?_)
 try simp only [Act.put, List.getElem_toArray, List.getElem_cons_zero, List.getElem_cons_succ, List.setIfInBounds_toArray, List.set_cons_zero, List.set_cons_succ, List.length_cons]
 refine rd1 5 (by kernel_rfl) rfl fun K1 hK1 => ?_
 go_simp
 refine (hB _ b0).mono ?_
 rintro e Z1 ⟨⟨yb, rfl, kb⟩, q1⟩
 have b1 : Below W1.heap.size W1 Z1 := b0.trans (q1.mono b0.size)
 refine hK1.out _ _ (f0 _ b1) (fun hH1 => ?_)
 try simp only [Act.put, List.getElem_toArray, List.getElem_cons_zero, List.getElem_cons_succ, List.setIfInBounds_toArray, List.set_cons_zero, List.set_cons_succ, List.length_cons]
 refine rd1 8 (by kernel_rfl) rfl fun K2 hK2 => ?_
 go_simp
 refine (hC _ b1).mono ?_
 rintro e Z2 ⟨⟨yc, rfl, kc⟩, q2⟩
 have b2 : Below W1.heap.size W1 Z2 := b1.trans (q2.mono b1.size)
 refine hK2.out _ _ (f0 _ b2) (fun hH2 => ?_)
 try simp only [Act.put, List.getElem_toArray, List.getElem_cons_zero, List.getElem_cons_succ, List.setIfInBounds_toArray, List.set_cons_zero, List.set_cons_succ, List.length_cons]
 refine rd1 11 (by kernel_rfl) rfl fun K3 hK3 => ?_
 go_simp
 refine (hD _ b2).mono ?_
 rintro e Z3 ⟨⟨yd, rfl, kd⟩, q3⟩
 have b3 : Below W1.heap.size W1 Z3 := b2.trans (q3.mono b2.size)
 refine hK3.out _ _ (f0 _ b3) (fun hH3 => ?_)
 try simp only [Act.put, List.getElem_toArray, List.getElem_cons_zero, List.getElem_cons_succ, List.setIfInBounds_toArray, List.set_cons_zero, List.set_cons_succ, List.length_cons]
 refine wpAnyH_take (i := 12) (v := .agg (Hk.v ⟨ya, yb, yc, yd⟩).toArray) rfl (by kernel_rfl) (by kernel_rfl) (by kernel_rfl) (fun _ _ _ h => h) (yieldsIf_bld rfl _ _ rfl [(0, .agg ya.v.toArray), (1, .agg yb.v.toArray), (2, .agg yc.v.toArray), (3, .agg yd.v.toArray)] rfl (fun w => nbld_hk4 ⟨ya, yb, yc, yd⟩ w)) (by assumption) ?_
 try simp only [Act.put, List.getElem_toArray, List.getElem_cons_zero, List.getElem_cons_succ, List.setIfInBounds_toArray, List.set_cons_zero, List.set_cons_succ, List.length_cons]
 have hk : Hid (∃ l', (⟨ya, yb, yc, yd⟩ : Hk) = ⟨h.a, h.b, h.c, ⟨h.d.k, h.d.t, h.d.f, l', h.d.p⟩⟩ ∧ QL l' Z3) := by
  obtain ⟨l', e1, e2⟩ := kd.out
  exact ⟨l', by rw [ka.out, kb.out, kc.out, e1], e2⟩
 clear hA hB hC hD ka kb kc kd hK0 hK1 hK2 hK3
 generalize hy : (⟨ya, yb, yc, yd⟩ : Hk) = h' at *
 clear hy
 obtain ⟨g1, g2, g3, g4⟩ := hbl Z3 h' b3
 clear hbl f0
 refine rd1 13 (by kernel_rfl) rfl fun K9 hK9 => ?_
 rw [if_pos (by rfl)]
 refine wp_store_mid 33 (.tmp 2) (.tmp 15) rfl (w.heap.size + 1) 0 h'.v.toArray rfl rfl (by simpa [h'.len] using g3) (by simp [h'.len, row_Hook.2]) (all_oneCell_toArray h'.one) ?_
 rw [show h'.v.toArray.toList = h'.v from rfl]
 have hk2 : Hid (∃ l', h' = ⟨h.a, h.b, h.c, ⟨h.d.k, h.d.t, h.d.f, l', h.d.p⟩⟩ ∧ QL l' (Z3.setCells (w.heap.size + 1) 0 h'.v)) := by
  obtain ⟨l', e1, e2⟩ := hk.out
  exact ⟨l', e1, hQ _ _ _ e2 (Kx.setCells _ (Or.inl (Or.inr rfl)) _ _ _ (Kx.refl _ _))⟩
 clear hk
 generalize Z3.setCells (w.heap.size + 1) 0 h'.v = Wf at *
 refine hK9.out _ _ g4 (fun _ => ?_)
 clear hK9
 refine wpAnyH_done (by kernel_rfl) ?_ _
 try simp only [Act.put, List.getElem_toArray, List.getElem_cons_zero, List.getElem_cons_succ, List.setIfInBounds_toArray, List.set_cons_zero, List.set_cons_succ, List.length_cons]
 go_wp2
 exact bodyPost_ret (res_row row_Hook Tryz.results144 rfl g1 h'.len) rfl ⟨⟨h', rfl, hk2⟩, g2⟩
end Go.Proofs.YtjfmhghpkefihaaGreatDoor
namespace Go.Proofs.YtjfmhghpkefihaaGreatDoor
open Go.RowKit
set_option linter.unusedVariables false
set_option linter.unusedSimpArgs false
theorem Hid.mk' {p : Prop} (h : p) : Hid p := h
abbrev hkP (f : ByteArray) (l : Sl) : Hk := ⟨.no, .no, .no, ⟨3, ⟨#[]⟩, f, l, .no⟩⟩
theorem copiedAct_no (V : World) : Calls Tryz.prog 190 #[.agg Ac.no.v.toArray] V fun e W' => (∃ x' : Ac, e = .returned (.agg x'.v.toArray) ∧ Hid (x' = Ac.no)) ∧ Below V.heap.size V W' := by
 refine (copiedAct_q Ac.no V (fun l _ => l = Sl.no) (fun _ _ _ h _ => h) (fun X _ _ => (copies_nil X).mono fun e W' ⟨h1, h2⟩ => ⟨⟨Sl.no, h1, rfl⟩, by rw [h2]; exact Below.refl _ _⟩) (fun X => copied_nil Ds.no rfl rfl X)).mono ?_
 rintro e W' ⟨⟨l', h1, rfl⟩, h2⟩
 exact ⟨⟨Ac.no, h1, (rfl : Ac.no = Ac.no)⟩, h2⟩
theorem copiedAct_P (f : ByteArray) (d : Ds) (hn : d.ns = .no) (hp : d.ps = .no) (b c : Nat) (w : World) (hr : w.rangeAt b 0 d.v) (hb : b < w.heap.size) :
  Calls Tryz.prog 190 #[.agg (Ac.v ⟨3, ⟨#[]⟩, f, ⟨some ⟨b, 0, none⟩, 1, c⟩, .no⟩).toArray] w fun e W' => (∃ x' : Ac, e = .returned (.agg x'.v.toArray) ∧ Hid (∃ l', x' = ⟨3, ⟨#[]⟩, f, l', .no⟩ ∧ Ro d w.heap.size l' W')) ∧ Below w.heap.size w W' := by
 refine (copiedAct_q ⟨3, ⟨#[]⟩, f, ⟨some ⟨b, 0, none⟩, 1, c⟩, .no⟩ w (Ro d (w.heap.size + 2)) (fun l W W' h k => h.kx k (fun b hb h => by omega)) (fun X bX hX => (copies1 b c d hn hp X (fun j v hv => (bX.cell (p := ⟨b, 0 + j, none⟩) hb).trans (hr j v hv))).mono fun e W' ⟨⟨l', h1, h2⟩, h3⟩ => ⟨⟨l', h1, h2.mono hX⟩, h3⟩) (fun X => copied_nil Ds.no rfl rfl X)).mono ?_
 rintro e W' ⟨⟨l', h1, h2⟩, h3⟩
 exact ⟨⟨_, h1, Hid.mk' ⟨l', rfl, h2.mono (by omega)⟩⟩, h3⟩
theorem copiedHook_P (f : ByteArray) (d : Ds) (hn : d.ns = .no) (hp : d.ps = .no) (b c : Nat) (w : World) (hr : w.rangeAt b 0 d.v) (hb : b < w.heap.size) :
  Calls Tryz.prog 144 #[.agg (hkP f ⟨some ⟨b, 0, none⟩, 1, c⟩).v.toArray] w fun e w' => (∃ h' : Hk, e = .returned (.agg h'.v.toArray) ∧ Hid (∃ l', h' = hkP f l' ∧ Ro d w.heap.size l' w')) ∧ Below w.heap.size w w' := by
 refine (copiedHook_q (hkP f ⟨some ⟨b, 0, none⟩, 1, c⟩) w (Ro d (w.heap.size + 2)) (fun l W W' h k => h.kx k (fun b hb h => by omega)) copiedAct_no copiedAct_no copiedAct_no (fun X bX hX => (copiedAct_P f d hn hp b c X (fun j v hv => (bX.cell (p := ⟨b, 0 + j, none⟩) hb).trans (hr j v hv)) (Nat.lt_of_lt_of_le hb bX.size)).mono ?_)).mono ?_
 ·rintro e W' ⟨⟨x', h1, h2⟩, h3⟩
  obtain ⟨l', h4, h5⟩ := h2.out
  exact ⟨⟨x', h1, Hid.mk' ⟨l', h4, h5.mono hX⟩⟩, h3⟩
 ·rintro e W' ⟨⟨h', h1, h2⟩, h3⟩
  obtain ⟨l', h4, h5⟩ := h2.out
  exact ⟨⟨h', h1, Hid.mk' ⟨l', h4, h5.mono (by omega)⟩⟩, h3⟩
set_option maxRecDepth 1000000 in
set_option maxHeartbeats 8000000 in
theorem get_q (h : Hk) (TB : Nat) (w : World) (QH : Hk → World → Prop) (hQ : ∀ h' W W', QH h' W → Kx (fun k => k = w.heap.size) W W' → QH h' W') (hB : Blk w TB h.v)
  (hH0 : ∀ V, Below w.heap.size w V → w.heap.size < V.heap.size → Calls Tryz.prog 144 #[.agg h.v.toArray] V fun e w' => (∃ h' : Hk, e = .returned (.agg h'.v.toArray) ∧ Hid (QH h' w')) ∧ Below V.heap.size V w') :
  Calls Tryz.prog 97 #[.slice (some ⟨TB, 0, none⟩) 1 1, .int .i64 1] w fun e w' => (∃ h' : Hk, e = .returned (.tuple #[.agg h'.v.toArray, .bool true]) ∧ Hid (QH h' w')) ∧ Below w.heap.size w w' := by
 have hz : hk0.v.length = 48 := rfl
 have ha0 := fun w => zero_hk w
 have hoz := hk0.one
 have hlh := h.len
 obtain ⟨W1, hW1⟩ : ∃ W1, W1 = w.alloc (.cells hk0.v.toArray 33) := ⟨_, rfl⟩
 have b1 : Below w.heap.size w W1 := by rw [hW1]; exact (Below.refl _ _).alloc (Nat.le_refl _) _
 have k1 : Blk W1 w.heap.size hk0.v := by rw [hW1]; exact Blk.new w hk0.v 33
 have hs : w.heap.size < W1.heap.size := k1.b
 have hH := hH0 W1 b1 hs
 have rH := (hB.up b1).range
 generalize h.v = H at *
 generalize hk0.v = ZV at *
 clear hB hH0
 go_enter Tryz.func97, Tryz.ntmps97
 go_upto_region 1 with (refine wpl_allocz ha0 rfl rfl ?_)
 rw [← hW1]
 clear hW1
 go_upto_region 3 with fail
 go_wp2_with (first
  | (refine wpl_ld row_Hook rfl (.tmp 19) rfl rfl rH hlh ?_)
  | (go_at_call 144; refine hH.mono ?_; rintro e W2 ⟨⟨h', rfl, hq⟩, b2⟩; have k2 := k1.up b2; have l2 := h'.len; have o2 := h'.one; have f1 : Blk (W2.setCells w.heap.size 0 h'.v) w.heap.size h'.v := k2.all _ (by rw [l2, hz]); have f2 : Below w.heap.size w (W2.setCells w.heap.size 0 h'.v) := xbelow_sc (b1.trans (b2.mono b1.size)) (Nat.le_refl _) _ _; have hq2 : Hid (QH h' (W2.setCells w.heap.size 0 h'.v)) := hQ _ _ _ hq.out (Kx.setCells (P := fun k => k = w.heap.size) _ (Or.inl rfl) _ _ _ (Kx.refl _ _)); clear hq b2)
  | (refine wpl_st row_Hook rfl (.tmp 4) (.tmp 21) rfl (us := h'.v) rfl rfl k2 hz l2 o2 ?_; generalize W2.setCells w.heap.size 0 h'.v = Wf at *))
 exact bodyPost_ret (res_row2 row_Hook Tryz.results97 rfl rfl f1 l2) rfl ⟨⟨h', rfl, hq2⟩, f2⟩
theorem get_1 (f : ByteArray) (d : Ds) (hn : d.ns = .no) (hp : d.ps = .no) (b c TB : Nat) (w : World) (hr : w.rangeAt b 0 d.v) (hb : b < w.heap.size) (hB : Blk w TB (hkP f ⟨some ⟨b, 0, none⟩, 1, c⟩).v) :
  Calls Tryz.prog 97 #[.slice (some ⟨TB, 0, none⟩) 1 1, .int .i64 1] w fun e w' => (∃ h' : Hk, e = .returned (.tuple #[.agg h'.v.toArray, .bool true]) ∧ Hid (∃ l', h' = hkP f l' ∧ Ro d (w.heap.size + 1) l' w')) ∧ Below w.heap.size w w' := by
 refine get_q (hkP f ⟨some ⟨b, 0, none⟩, 1, c⟩) TB w (fun h' w' => ∃ l', h' = hkP f l' ∧ Ro d (w.heap.size + 1) l' w') (fun h' W W' ⟨l', e1, e2⟩ k => ⟨l', e1, e2.kx k (fun b hb h => by omega)⟩) hB (fun V bV hV => ?_)
 refine (copiedHook_P f d hn hp b c V (fun j v hv => (bV.cell (p := ⟨b, 0 + j, none⟩) hb).trans (hr j v hv)) (Nat.lt_of_lt_of_le hb bV.size)).mono ?_
 rintro e W' ⟨⟨h', h1, h2⟩, h3⟩
 obtain ⟨l', h4, h5⟩ := h2.out
 exact ⟨⟨h', h1, Hid.mk' ⟨l', h4, h5.mono hV⟩⟩, h3⟩
abbrev oneE (hv : Value) : Array MapEntry := #[{ key := .int .i64 1, val := hv, born := 0 }]
theorem look_one (w : World) (M : Nat) (hv : Value) (hM : w.heap[M]? = some (.map (oneE hv) 1)) : (Instr.lookup 59 (.map (some M)) (.int .i64 1) true).run Tryz.prog w = .ok (.tuple #[hv, .bool true]) w := by
 have h1 := MapKept.run_findKey (P := Tryz.prog) (w := w) (kt := 3) (k := .int .i64 1) (l := [{ key := .int .i64 1, val := hv, born := 0 }]) (a := some (0, hv)) Tryz.underlying3 rfl
 have h2 := fun e n => MapKept.run_checkKey (P := Tryz.prog) (w := w) (kt := 3) (k := .int .i64 1) Tryz.underlying3 (by exact rfl) e n
 simp [Instr.lookup, run_underlying Tryz.underlying59, MapKept.run_getObj_map hM, h1, h2, Result.andThen]
theorem upd_first (w : World) (M : Nat) (hv : Value) (hM : w.heap[M]? = some (.map #[] 0)) : (Instr.mapUpdate 59 (.map (some M)) (.int .i64 1) hv).run Tryz.prog w = .ok () { w with heap := w.heap.setIfInBounds M (.map (oneE hv) 1) } := by
 have h1 := MapKept.run_findKey (P := Tryz.prog) (w := w) (kt := 3) (k := .int .i64 1) (l := []) (a := none) Tryz.underlying3 rfl
 have h2 := fun e n => MapKept.run_checkKey (P := Tryz.prog) (w := w) (kt := 3) (k := .int .i64 1) Tryz.underlying3 (by exact rfl) e n
 simp [Instr.mapUpdate, run_underlying Tryz.underlying59, MapKept.run_getObj_map hM, h1, h2, MapKept.run_setObj_map _ hM, Result.andThen]
end Go.Proofs.YtjfmhghpkefihaaGreatDoor
namespace Go.Proofs.YtjfmhghpkefihaaGreatDoor
open Go.RowKit
set_option linter.unusedVariables false
set_option linter.unusedSimpArgs false
set_option maxRecDepth 1000000 in
set_option maxHeartbeats 8000000 in
theorem row_hit (C M : Nat) (h : Hk) (w : World) (c1 : w.cell? ⟨C, 1, none⟩ = some (.map (some M))) (hM : w.heap[M]? = some (.map (oneE (.agg h.v.toArray)) 1)) :
  Calls Tryz.prog 55 #[.pointer (some ⟨C, 0, none⟩), .int .i64 1] w fun e w' => e = .returned (.tuple #[.agg h.v.toArray, .bool true]) ∧ Below w.heap.size w w' := by
 have hz : hk0.v.length = 48 := rfl
 have ha0 := fun w => zero_hk w
 have hoz := hk0.one
 have hl := h.len
 have ho := h.one
 have hlk := fun W hh => look_one W M (.agg h.v.toArray) hh
 obtain ⟨W1, hW1⟩ : ∃ W1, W1 = w.alloc (.cells hk0.v.toArray 33) := ⟨_, rfl⟩
 have b1 : Below w.heap.size w W1 := by rw [hW1]; exact (Below.refl _ _).alloc (Nat.le_refl _) _
 have k1 : Blk W1 w.heap.size hk0.v := by rw [hW1]; exact Blk.new w hk0.v 33
 have hM1 := (b1.block M (Array.getElem?_eq_some_iff.1 hM).1).trans hM
 have hl1 := hlk W1 hM1
 have d1 := up_cell b1 c1
 generalize h.v = H at *
 generalize hk0.v = ZV at *
 have k2 : Blk (W1.alloc (.cells ZV.toArray 33)) W1.heap.size ZV := Blk.new W1 ZV 33
 have b3 : Below W1.heap.size W1 ((W1.alloc (.cells ZV.toArray 33)).setCells W1.heap.size 0 H) := xbelow_sc ((Below.refl _ _).alloc (Nat.le_refl _) _) (Nat.le_refl _) _ _
 have k3 : Blk ((W1.alloc (.cells ZV.toArray 33)).setCells W1.heap.size 0 H) W1.heap.size H := k2.all _ (by rw [hl, hz])
 clear hlk hM hM1 c1
 go_enter Tryz.func55, Tryz.ntmps55
 go_upto_region 1 with (refine wpl_allocz ha0 rfl rfl ?_)
 rw [← hW1]
 clear hW1
 go_upto_region 2 with (first | (refine wpl_allocz ha0 rfl rfl ?_) | (refine wpl_st row_Hook rfl (.tmp 6) (.tmp 17) rfl (us := H) rfl rfl k2 hz hl ho ?_; generalize (W1.alloc (.cells ZV.toArray 33)).setCells W1.heap.size 0 H = W3 at *))
 have j3 := k1.up b3
 have bw3 : Below w.heap.size w W3 := b1.trans (b3.mono b1.size)
 have f1 : Blk (W3.setCells w.heap.size 0 H) w.heap.size H := j3.all _ (by rw [hl, hz])
 have f2 : Below w.heap.size w (W3.setCells w.heap.size 0 H) := xbelow_sc bw3 (Nat.le_refl _) _ _
 clear hl1 d1 k2 k1 b3
 go_wp2_with (first
  | (refine wpl_ld row_Hook rfl (.tmp 6) rfl rfl k3.range hl ?_)
  | (refine wpl_st row_Hook rfl (.tmp 4) (.tmp 20) rfl (us := H) rfl rfl j3 hz hl ho ?_; generalize W3.setCells w.heap.size 0 H = Wf at *))
 exact bodyPost_ret (res_row2 row_Hook Tryz.results55 rfl rfl f1 hl) rfl ⟨rfl, f2⟩
theorem set_other (w : World) (M k : Nat) (o : Obj) (hne : k ≠ M) : ({ w with heap := w.heap.setIfInBounds M o } : World).heap[k]? = w.heap[k]? := by
 simp [Array.getElem?_setIfInBounds, Ne.symm hne]
theorem set_kx (w : World) (M : Nat) (o : Obj) : Kx (fun k => k = M) w { w with heap := w.heap.setIfInBounds M o } :=
 ⟨rfl, rfl, rfl, by simp, fun k _ hk => set_other w M k o hk⟩
set_option maxRecDepth 1000000 in
set_option maxHeartbeats 8000000 in
theorem row_miss (C M : Nat) (tb : Value) (ht : ∃ a n c, tb = .slice a n c) (w : World) (QH : Hk → Nat → Nat → World → Prop) (hQ : ∀ h' lo hi W W', QH h' lo hi W → Kx (fun k => k = M ∨ (w.heap.size ≤ k ∧ k < lo) ∨ hi ≤ k) W W' → QH h' lo hi W')
  (c0 : w.cell? ⟨C, 0, none⟩ = some tb) (c1 : w.cell? ⟨C, 1, none⟩ = some (.map (some M))) (hM : w.heap[M]? = some (.map #[] 0)) (hCM : C ≠ M)
  (hG0 : ∀ V, Below w.heap.size w V → Calls Tryz.prog 97 #[tb, .int .i64 1] V fun e w' => (∃ h' : Hk, e = .returned (.tuple #[.agg h'.v.toArray, .bool true]) ∧ Hid (QH h' V.heap.size w'.heap.size w')) ∧ Below V.heap.size V w') :
  Calls Tryz.prog 55 #[.pointer (some ⟨C, 0, none⟩), .int .i64 1] w fun e w' => ∃ h' : Hk, e = .returned (.tuple #[.agg h'.v.toArray, .bool true]) ∧ Hid (∃ lo hi, w.heap.size ≤ lo ∧ lo ≤ hi ∧ hi ≤ w'.heap.size ∧ QH h' lo hi w') ∧ w'.heap[M]? = some (.map (oneE (.agg h'.v.toArray)) 1) ∧ Kx (fun k => k = M) w w' := by
 obtain ⟨ta, tn, tc, rfl⟩ := ht
 have hz : hk0.v.length = 48 := rfl
 have ha0 := fun w => zero_hk w
 have hoz := hk0.one
 have hlk := fun W hh => look_none W M 1 hh
 have hlM := (Array.getElem?_eq_some_iff.1 hM).1
 have hCl : C < w.heap.size := World.block_lt_of_cell? w _ c0
 obtain ⟨W1, hW1⟩ : ∃ W1, W1 = w.alloc (.cells hk0.v.toArray 33) := ⟨_, rfl⟩
 have b1 : Below w.heap.size w W1 := by rw [hW1]; exact (Below.refl _ _).alloc (Nat.le_refl _) _
 have k1 : Blk W1 w.heap.size hk0.v := by rw [hW1]; exact Blk.new w hk0.v 33
 have hM1 := (b1.block M hlM).trans hM
 have hl1 := hlk W1 hM1
 have d1 := up_cell b1 c1
 have d0 := up_cell b1 c0
 have s1 : W1.heap.size = w.heap.size + 1 := by rw [hW1]; simp
 have hs1 : w.heap.size < W1.heap.size := by omega
 clear s1
 generalize hk0.v = ZV at *
 have k2 : Blk (W1.alloc (.cells ZV.toArray 33)) W1.heap.size ZV := Blk.new W1 ZV 33
 have b3 : Below W1.heap.size W1 ((W1.alloc (.cells ZV.toArray 33)).setCells W1.heap.size 0 ZV) := xbelow_sc ((Below.refl _ _).alloc (Nat.le_refl _) _) (Nat.le_refl _) _ _
 clear hlk
 go_enter Tryz.func55, Tryz.ntmps55
 go_upto_region 1 with (refine wpl_allocz ha0 rfl rfl ?_)
 rw [← hW1]
 clear hW1
 go_upto_region 2 with (first | (refine wpl_allocz ha0 rfl rfl ?_) | (refine wpl_st row_Hook rfl (.tmp 6) (.tmp 17) rfl (us := ZV) rfl rfl k2 hz hz hoz ?_; generalize (W1.alloc (.cells ZV.toArray 33)).setCells W1.heap.size 0 ZV = W3 at *))
 have j3 := k1.up b3
 have bw3 : Below w.heap.size w W3 := b1.trans (b3.mono b1.size)
 have e0 := up_cell bw3 c0
 have hG := hG0 W3 bw3
 clear hl1 d1 d0 k2 k1 b3 hM1 hG0
 go_upto_region 5 with (first
  | (go_at_call 97; refine hG.mono ?_; rintro e W4 ⟨⟨h', rfl, hq⟩, b4⟩; have hl := h'.len; have ho := h'.one; have k5 : Blk (W4.alloc (.cells ZV.toArray 33)) W4.heap.size ZV := Blk.new W4 ZV 33; have b6 : Below W4.heap.size W4 ((W4.alloc (.cells ZV.toArray 33)).setCells W4.heap.size 0 h'.v) := xbelow_sc ((Below.refl _ _).alloc (Nat.le_refl _) _) (Nat.le_refl _) _ _; have k6 : Blk ((W4.alloc (.cells ZV.toArray 33)).setCells W4.heap.size 0 h'.v) W4.heap.size h'.v := k5.all _ (by rw [hl, hz]))
  | (refine wpl_allocz ha0 rfl rfl ?_)
  | (refine wpl_st row_Hook rfl (.tmp 8) (.tmp 28) rfl (us := h'.v) rfl rfl k5 hz hl ho ?_; generalize (W4.alloc (.cells ZV.toArray 33)).setCells W4.heap.size 0 h'.v = W6 at *))
 have b36 : Below W3.heap.size W3 W6 := b4.trans (b6.mono b4.size)
 have bw6 : Below w.heap.size w W6 := bw3.trans (b36.mono bw3.size)
 have j6 := j3.up b36
 have q6 : QH h' W3.heap.size W4.heap.size W6 := hQ _ _ _ _ _ hq.out (.of_below b6)
 have z6 : W4.heap.size ≤ W6.heap.size := b6.size
 have hW34 : W3.heap.size ≤ W4.heap.size := b4.size
 have hj3 : w.heap.size < W3.heap.size := j3.b
 clear hq hG e0 j3 k5 b6 b4 b36
 go_upto_region 6 with fail
 obtain ⟨Yd, hYd⟩ : ∃ Yd, Yd = W6.drew := ⟨_, rfl⟩
 have bY : Below W6.heap.size W6 Yd := by rw [hYd]; exact (Below.refl _ _).drew
 have bwY := bw6.trans (bY.mono bw6.size)
 have kY := k6.up bY
 have jY := j6.up bY
 have qY : QH h' W3.heap.size W4.heap.size Yd := hQ _ _ _ _ _ q6 (.of_below bY)
 have y1 := up_cell bwY c1
 have yM := (bwY.block M hlM).trans hM
 have hup := upd_first Yd M (.agg h'.v.toArray) yM
 obtain ⟨Y2, hY2⟩ : ∃ Y2, Y2 = ({ Yd with heap := Yd.heap.setIfInBounds M (.map (oneE (.agg h'.v.toArray)) 1) } : World) := ⟨_, rfl⟩
 have x2 : Kx (fun k => k = M) Yd Y2 := by rw [hY2]; exact set_kx Yd M _
 have q2 : QH h' W3.heap.size W4.heap.size Y2 := hQ _ _ _ _ _ qY (x2.mono (fun k _ h => Or.inl h))
 have kx : Kx (fun k => k = M) w Y2 := (Kx.of_below bwY).trans x2
 have hMY : M < Yd.heap.size := Nat.lt_of_lt_of_le hlM bwY.size
 have hM2 : Y2.heap[M]? = some (.map (oneE (.agg h'.v.toArray)) 1) := by rw [hY2]; simp [hMY]
 have k2 := kY.kx x2 (by omega)
 have j2 := jY.kx x2 (by omega)
 have y2 := x2.cell y1 (by dsimp only; omega)
 rw [← hY2] at hup
 clear hY2
 have f1 : Blk (Y2.setCells w.heap.size 0 h'.v) w.heap.size h'.v := j2.all _ (by rw [hl, hz])
 have f2 : Kx (fun k => k = M) w (Y2.setCells w.heap.size 0 h'.v) := Kx.setCells _ (Or.inr (Nat.le_refl _)) _ _ _ kx
 have f3 : (Y2.setCells w.heap.size 0 h'.v).heap[M]? = some (.map (oneE (.agg h'.v.toArray)) 1) := ((Kx.setCells (P := fun k => k = w.heap.size) _ (Or.inl rfl) _ _ _ (Kx.refl _ _)).block M (Nat.lt_of_lt_of_le hMY x2.size) (by omega)).trans hM2
 have g4 := hQ _ _ _ _ _ q2 (Kx.setCells (P := fun k => k = M ∨ (w.heap.size ≤ k ∧ k < W3.heap.size) ∨ W4.heap.size ≤ k) w.heap.size (Or.inl (Or.inr (Or.inl ⟨Nat.le_refl _, hj3⟩))) h'.v 0 Y2 (Kx.refl _ _))
 have f4 : Hid (∃ lo hi, w.heap.size ≤ lo ∧ lo ≤ hi ∧ hi ≤ (Y2.setCells w.heap.size 0 h'.v).heap.size ∧ QH h' lo hi (Y2.setCells w.heap.size 0 h'.v)) := ⟨_, _, Nat.le_of_lt hj3, hW34, Nat.le_trans z6 (Nat.le_trans bY.size (Nat.le_trans x2.size (Kx.setCells (P := fun k => k = w.heap.size) _ (Or.inl rfl) h'.v 0 Y2 (Kx.refl _ _)).size)), g4⟩
 clear g4
 clear q2 kx hM2 x2 jY hQ qY
 generalize hHv : h'.v = H at *
 have HH : Hid (h'.v = H) := hHv
 clear hHv
 refine wp_region_held_drew (S := fun w' : World => w'.cell? ⟨C, 1, none⟩ = some (.map (some M)) ∧ w'.rangeAt W4.heap.size 0 H) (by kernel_rfl) (by rw [← hYd]; exact ⟨y1, kY.range⟩) ?_
 rw [← hYd]
 clear hYd q6 k6 j6
 intro hS
 refine tk 0 (.pointer (some ⟨C, 0, none⟩)) rfl (by kernel_rfl) (fun _ _ _ h => h) (by rfl) (by assumption) ?_ ?_
 ·intro w5 hSw
  obtain ⟨s0, s1⟩ := hSw
  go_simp
 try simp only [Act.put, List.getElem_toArray, List.getElem_cons_zero, List.getElem_cons_succ, List.setIfInBounds_toArray, List.set_cons_zero, List.set_cons_succ, List.length_cons]
 refine tk 1 (.pointer (some ⟨C, 0, none⟩)) rfl (by kernel_rfl) (fun _ _ _ h => h) (by rfl) (by assumption) ?_ ?_
 ·intro w5 hSw
  obtain ⟨s0, s1⟩ := hSw
  go_simp
 try simp only [Act.put, List.getElem_toArray, List.getElem_cons_zero, List.getElem_cons_succ, List.setIfInBounds_toArray, List.set_cons_zero, List.set_cons_succ, List.length_cons]
 refine tk 2 (.pointer (some ⟨C, 1, none⟩)) rfl (by kernel_rfl) (fun _ _ _ h => h) (by rfl) (by assumption) ?_ ?_
 ·intro w5 hSw
  obtain ⟨s0, s1⟩ := hSw
  go_simp
 try simp only [Act.put, List.getElem_toArray, List.getElem_cons_zero, List.getElem_cons_succ, List.setIfInBounds_toArray, List.set_cons_zero, List.set_cons_succ, List.length_cons]
 refine tk 3 (.map (some M)) rfl (by kernel_rfl) (fun _ _ _ h => h) (by rfl) (by assumption) ?_ ?_
 ·intro w5 hSw
  obtain ⟨s0, s1⟩ := hSw
  go_simp
 try simp only [Act.put, List.getElem_toArray, List.getElem_cons_zero, List.getElem_cons_succ, List.setIfInBounds_toArray, List.set_cons_zero, List.set_cons_succ, List.length_cons]
 refine tk 4 (.int .i64 1) rfl (by kernel_rfl) (fun _ _ _ h => h) (by rfl) (by assumption) ?_ ?_
 ·intro w5 hSw
  obtain ⟨s0, s1⟩ := hSw
  go_simp
 try simp only [Act.put, List.getElem_toArray, List.getElem_cons_zero, List.getElem_cons_succ, List.setIfInBounds_toArray, List.set_cons_zero, List.set_cons_succ, List.length_cons]
 refine wpAnyH_take (i := 5) (v := .agg H.toArray) rfl (by kernel_rfl) (by kernel_rfl) (by kernel_rfl) (fun _ _ _ h => h) ?_ (by assumption) ?_
 ·obtain ⟨⟨dd, r1, r2⟩, r3⟩ := row_Hook
  exact yieldsIf_load_mid rfl 33 (.tmp 8) rfl W4.heap.size 0 rfl H dd (fun _ h => h.2) r1 r2 (by rw [hl]; exact r3)
 try simp only [Act.put, List.getElem_toArray, List.getElem_cons_zero, List.getElem_cons_succ, List.setIfInBounds_toArray, List.set_cons_zero, List.set_cons_succ, List.length_cons]
 refine rd1 6 (by kernel_rfl) rfl fun K hK => ?_
 go_simp
 refine hK.out _ _ ⟨y2, k2.range⟩ (fun _ => ?_)
 clear hK hup hS kY y1 yM
 try simp only [Act.put, List.getElem_toArray, List.getElem_cons_zero, List.getElem_cons_succ, List.setIfInBounds_toArray, List.set_cons_zero, List.set_cons_succ, List.length_cons]
 refine wpAnyH_done (by kernel_rfl) ?_ _
 go_wp2_with (first
  | (refine wpl_ld row_Hook rfl (.tmp 8) rfl rfl k2.range hl ?_)
  | (refine wpl_st row_Hook rfl (.tmp 4) (.tmp 37) rfl (us := H) rfl rfl j2 hz hl ho ?_; generalize Y2.setCells w.heap.size 0 H = Wf at *))
 exact bodyPost_ret (res_row2 row_Hook Tryz.results55 rfl rfl f1 hl) rfl ⟨h', by rw [HH.out]; rfl, f4, by rw [HH.out]; exact f3, f2⟩
end Go.Proofs.YtjfmhghpkefihaaGreatDoor
