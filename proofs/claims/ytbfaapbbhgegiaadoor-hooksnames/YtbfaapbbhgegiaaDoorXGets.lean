/- Package hooks: methods and rows are copied; Get; the document's Get. (XNames, XGet and XGetB in one text.) -/
import Derived.Test.YtbfaapbbhgegiaaDoorXCopy
import Derived.Test.YtbfaapbbhgegiaaDoorXLiveB
namespace Go.Proofs.YtbfaapbbhgegiaaDoor
open Go.RowKit
set_option linter.unusedVariables false
set_option linter.unusedSimpArgs false

/-- A method, a row that can be read. -/
def AcR (m : Nat) (W : World) (x : Ac) : Prop := PsK m W x.l ∧ DsK m W x.p
def HkR (m : Nat) (W : World) (h : Hk) : Prop := AcR m W h.a ∧ AcR m W h.b ∧ AcR m W h.c ∧ AcR m W h.d
theorem AcR.up {m : Nat} {W W' : World} {x : Ac} (hb : Below W.heap.size W W') (h : AcR m W x) : AcR m W' x := ⟨h.1.up hb, h.2.up hb⟩
set_option maxRecDepth 1000000 in
set_option maxHeartbeats 4000000 in
theorem copiedAct_any (m : Nat) (x : Ac) (w : World) (hx : AcR m w x) : Calls Tryd.prog 45 #[.agg x.v.toArray] w fun e w' => (∃ x' : Ac, e = .returned (.agg x'.v.toArray) ∧ x'.k = x.k) ∧ Below w.heap.size w w' := by
  obtain ⟨W1, hW1⟩ : ∃ W1, W1 = (w.alloc (.cells x.v.toArray 28)).alloc (.cells #[.int .i64 0, .string ⟨#[]⟩, .string ⟨#[]⟩, .slice none 0 0, .int .i64 0, .string ⟨#[]⟩, .int .u64 0, .int .u64 0, .string ⟨#[]⟩, .slice none 0 0, .slice none 0 0, .int .i64 0] 28) := ⟨_, rfl⟩
  have bd : Blk W1 w.heap.size x.v := by rw [hW1]; exact (Blk.new _ _ _).alloc _
  have br : Blk W1 (w.heap.size + 1) Ac.no.v := by
    rw [hW1]
    have := Blk.new (w.alloc (.cells x.v.toArray 28)) Ac.no.v 28
    rwa [show (w.alloc (.cells x.v.toArray 28)).heap.size = w.heap.size + 1 by simp] at this
  have w1 : Below w.heap.size w W1 := by rw [hW1]; exact ((Below.refl _ _).alloc (Nat.le_refl _) _).alloc (by simp) _
  have c3 : W1.cell? ⟨w.heap.size, 3, none⟩ = some (.slice x.l.a x.l.n x.l.c) := bd.c 3 _ rfl
  have hP : Calls Tryd.prog 64 #[.slice x.l.a x.l.n x.l.c] W1 fun e W' => (∃ l' : Sl, e = .returned (.slice l'.a l'.n l'.c)) ∧ Below W1.heap.size W1 W' := (copies_all m x.l W1 (hx.1.up w1)).mono (fun e W' ⟨⟨l', e1, _⟩, e2⟩ => ⟨⟨l', e1⟩, e2⟩)
  have hD : ∀ V, Below w.heap.size w V → Calls Tryd.prog 50 #[.agg x.p.v.toArray] V fun e W' => (∃ d' : Ds, e = .returned (.agg d'.v.toArray)) ∧ Below V.heap.size V W' := fun V hV => (copied_all m x.p V (hx.2.up hV)).mono (fun e W' ⟨⟨d', e1, _⟩, e2⟩ => ⟨⟨d', e1⟩, e2⟩)
  have hz : Ac.no.v.length = 12 := rfl
  clear hx
  go_enter Tryd.func45, Tryd.ntmps45
  go_upto_region 1 with fail
  rw [← hW1]
  clear hW1
  go_upto_region 2 with (go_at_call 64; refine hP.mono ?_; rintro e W2 ⟨⟨s1, rfl⟩, q2⟩; have b2 := bd.up q2; have c2 := b2.c 3 _ rfl; have z2 := b2.z 3)
  have r2 := br.up q2
  have w2 : Below w.heap.size w W2 := w1.trans (q2.mono w1.size)
  have b3 : Blk (W2.setCell ⟨w.heap.size, 3, none⟩ (.slice s1.a s1.n s1.c)) w.heap.size (Ac.v ⟨x.k, x.t, x.f, s1, x.p⟩) := b2.set 3 (by rw [x.len]; omega) _
  have r3 : Blk (W2.setCell ⟨w.heap.size, 3, none⟩ (.slice s1.a s1.n s1.c)) (w.heap.size + 1) Ac.no.v := r2.other (by omega) _
  have w3 : Below w.heap.size w (W2.setCell ⟨w.heap.size, 3, none⟩ (.slice s1.a s1.n s1.c)) := w2.setCell (Nat.le_refl _) _
  generalize W2.setCell ⟨w.heap.size, 3, none⟩ (.slice s1.a s1.n s1.c) = W3 at *
  clear b2 c2 z2 r2 w2 q2 bd br w1 c3 hP
  have b3' : Blk W3 w.heap.size ([.int .i64 x.k, .string x.t, .string x.f, .slice s1.a s1.n s1.c] ++ (x.p.v ++ [])) := by rw [List.append_nil]; exact b3
  have rp : W3.rangeAt w.heap.size 4 x.p.v := Blk.mid b3' rfl
  have hD3 := hD W3 w3
  have hlp := x.p.len
  clear hD
  have fin : ∀ (V : World) (d' : Ds), Below W3.heap.size W3 V → V.there w.heap.size 4 8 ∧ Blk (V.setCells w.heap.size 4 d'.v) w.heap.size (Ac.v ⟨x.k, x.t, x.f, s1, d'⟩) ∧ Blk (V.setCells w.heap.size 4 d'.v) (w.heap.size + 1) Ac.no.v ∧ Below w.heap.size w (V.setCells w.heap.size 4 d'.v) := fun V d' hV => by
    have bV := b3'.up hV
    have h2 := Blk.put (p := [.int .i64 x.k, .string x.t, .string x.f, .slice s1.a s1.n s1.c]) (cs := x.p.v) (q := []) bV d'.v rfl
    rw [List.append_nil] at h2
    exact ⟨Blk.thereMid (p := [.int .i64 x.k, .string x.t, .string x.f, .slice s1.a s1.n s1.c]) (cs := x.p.v) (q := []) bV, h2, (r3.up hV).oth (by omega) _ _, xbelow_sc (w3.trans (hV.mono w3.size)) (Nat.le_refl _) _ _⟩
  go_upto_region 3 with (first
    | (refine wpl_ld row_Desc rfl (.tmp 7) rfl (vs := x.p.v) rfl rp hlp ?_)
    | (go_at_call 50; refine hD3.mono ?_; rintro e W4 ⟨⟨d', rfl⟩, q4⟩; obtain ⟨th4, b5, r5, w5⟩ := fin W4 d' q4; have hd1 := d'.len; have hd2 := d'.one)
    | (refine wpl_stm row_Desc rfl (.tmp 10) (.tmp 9) rfl (us := d'.v) rfl rfl th4 hd1 hd2 ?_; generalize W4.setCells w.heap.size 4 d'.v = W5 at *))
  try simp only [Act.put]
  clear fin th4 q4 rp b3 b3' r3 w3 hD3
  have f1 : Blk (W5.setCells (w.heap.size + 1) 0 (Ac.v ⟨x.k, x.t, x.f, s1, d'⟩)) (w.heap.size + 1) (Ac.v ⟨x.k, x.t, x.f, s1, d'⟩) := r5.all _ rfl
  have f2 : Below w.heap.size w (W5.setCells (w.heap.size + 1) 0 (Ac.v ⟨x.k, x.t, x.f, s1, d'⟩)) := xbelow_sc w5 (by omega) _ _
  obtain ⟨x', hx'⟩ : ∃ x' : Ac, x' = ⟨x.k, x.t, x.f, s1, d'⟩ := ⟨_, rfl⟩
  have hk : x'.k = x.k := by rw [hx']
  rw [← hx'] at b5 f1 f2
  clear hx'
  go_wp2_with (first
    | (refine wpl_ld row_Act rfl (.tmp 1) rfl (vs := x'.v) rfl b5.range x'.len ?_)
    | (refine wpl_st row_Act rfl (.tmp 2) (.tmp 11) rfl (us := x'.v) rfl rfl r5 hz x'.len x'.one ?_; generalize W5.setCells (w.heap.size + 1) 0 x'.v = Wf at *))
  exact bodyPost_ret (res_row row_Act Tryd.results45 rfl f1 x'.len) rfl ⟨⟨x', rfl, hk⟩, f2⟩
theorem nbld_hk4 (h : Hk) (w : World) : (Instr.build 30 #[(0, .agg h.a.v.toArray), (1, .agg h.b.v.toArray), (2, .agg h.c.v.toArray), (3, .agg h.d.v.toArray)]).run Tryd.prog w = .ok (.agg h.v.toArray) w := by
  obtain ⟨⟨k, t, f, ⟨la, ln, lc⟩, ⟨a0, a1, a2, a3, a4, ⟨na, nn, nc⟩, ⟨pa, pn, pc⟩, a7⟩⟩, ⟨k', t', f', ⟨la', ln', lc'⟩, ⟨a0', a1', a2', a3', a4', ⟨na', nn', nc'⟩, ⟨pa', pn', pc'⟩, a7'⟩⟩, ⟨k2, t2, f2, ⟨la2, ln2, lc2⟩, ⟨a02, a12, a22, a32, a42, ⟨na2, nn2, nc2⟩, ⟨pa2, pn2, pc2⟩, a72⟩⟩, ⟨k3, t3, f3, ⟨la3, ln3, lc3⟩, ⟨a03, a13, a23, a33, a43, ⟨na3, nn3, nc3⟩, ⟨pa3, pn3, pc3⟩, a73⟩⟩⟩ := h
  kernel_rfl
theorem yieldsIf_bld {ops : Array Oper} {S : World → Prop} {op : Oper} {a : Act} (hw : Region.wanted op (yielded ops a.tmps) = true) (t : TypeId) (parts : Array (Nat × Operand)) (ho : op.op = .build t parts) (ps : List (Nat × Value)) {V : Value} (hx : parts.toList.map (fun x => (x.1, a.eval x.2)) = ps) (hb : ∀ w, (Instr.build t ps.toArray).run Tryd.prog w = .ok V w) : YieldsIf Tryd.prog ops S op V a :=
  .inl ⟨hw, fun w _ => by
    have hx' : (parts.map fun (i, x) => (i, a.eval x)) = ps.toArray := by
      rw [← hx]
      apply Array.ext'
      simp
    unfold execOp
    simp only [ho, hx', hb, Sem.run_bind, Sem.run_pure, Result.andThen_ok]⟩
/-- Two rows whose methods do the same. -/
def KEq (h h' : Hk) : Prop := h'.a.k = h.a.k ∧ h'.b.k = h.b.k ∧ h'.c.k = h.c.k ∧ h'.d.k = h.d.k
theorem KEq.wh {h h' : Hk} (k : KEq h h') (v : Int) (sh : Bool) : whN h' v sh = whN h v sh := by
  unfold whN fst2 fst34 thB
  rw [k.1, k.2.1, k.2.2.1, k.2.2.2]
set_option maxRecDepth 1000000 in
set_option maxHeartbeats 8000000 in
theorem copiedHook_any (m : Nat) (h : Hk) (w : World) (hx : HkR m w h) : Calls Tryd.prog 32 #[.agg h.v.toArray] w fun e w' => (∃ h' : Hk, e = .returned (.agg h'.v.toArray) ∧ KEq h h') ∧ Below w.heap.size w w' := by
  obtain ⟨W1, hW1⟩ : ∃ W1, W1 = (w.alloc (.cells h.v.toArray 30)).alloc (.cells #[.int .i64 0, .string ⟨#[]⟩, .string ⟨#[]⟩, .slice none 0 0, .int .i64 0, .string ⟨#[]⟩, .int .u64 0, .int .u64 0, .string ⟨#[]⟩, .slice none 0 0, .slice none 0 0, .int .i64 0, .int .i64 0, .string ⟨#[]⟩, .string ⟨#[]⟩, .slice none 0 0, .int .i64 0, .string ⟨#[]⟩, .int .u64 0, .int .u64 0, .string ⟨#[]⟩, .slice none 0 0, .slice none 0 0, .int .i64 0, .int .i64 0, .string ⟨#[]⟩, .string ⟨#[]⟩, .slice none 0 0, .int .i64 0, .string ⟨#[]⟩, .int .u64 0, .int .u64 0, .string ⟨#[]⟩, .slice none 0 0, .slice none 0 0, .int .i64 0, .int .i64 0, .string ⟨#[]⟩, .string ⟨#[]⟩, .slice none 0 0, .int .i64 0, .string ⟨#[]⟩, .int .u64 0, .int .u64 0, .string ⟨#[]⟩, .slice none 0 0, .slice none 0 0, .int .i64 0] 30) := ⟨_, rfl⟩
  have bd : Blk W1 w.heap.size h.v := by rw [hW1]; exact (Blk.new _ _ _).alloc _
  have br : Blk W1 (w.heap.size + 1) zH.v := by
    rw [hW1]
    have := Blk.new (w.alloc (.cells h.v.toArray 30)) zH.v 30
    rwa [show (w.alloc (.cells h.v.toArray 30)).heap.size = w.heap.size + 1 by simp] at this
  have w1 : Below w.heap.size w W1 := by rw [hW1]; exact ((Below.refl _ _).alloc (Nat.le_refl _) _).alloc (by simp) _
  have f0 : ∀ V, Below W1.heap.size W1 V → (fun w' : World => w'.rangeAt w.heap.size 0 h.a.v ∧ w'.rangeAt w.heap.size 12 h.b.v ∧ w'.rangeAt w.heap.size 24 h.c.v ∧ w'.rangeAt w.heap.size 36 h.d.v) V := fun V q => ⟨hk_a (bd.up q), hk_b (bd.up q), hk_c (bd.up q), hk_d (bd.up q)⟩
  have hA := fun (V : World) (q : Below W1.heap.size W1 V) => copiedAct_any m h.a V (hx.1.up (w1.trans (q.mono w1.size)))
  have hB := fun (V : World) (q : Below W1.heap.size W1 V) => copiedAct_any m h.b V (hx.2.1.up (w1.trans (q.mono w1.size)))
  have hC := fun (V : World) (q : Below W1.heap.size W1 V) => copiedAct_any m h.c V (hx.2.2.1.up (w1.trans (q.mono w1.size)))
  have hD := fun (V : World) (q : Below W1.heap.size W1 V) => copiedAct_any m h.d V (hx.2.2.2.up (w1.trans (q.mono w1.size)))
  have la := h.a.len
  have lb := h.b.len
  have lc := h.c.len
  have ld := h.d.len
  have bD : Below W1.heap.size W1 W1.drew := (Below.refl W1.heap.size W1).drew
  have hz : zH.v.length = 48 := rfl
  have hbl : ∀ (V : World) (h' : Hk), Below W1.heap.size W1 V → Blk (V.setCells (w.heap.size + 1) 0 h'.v) (w.heap.size + 1) h'.v ∧ Below w.heap.size w (V.setCells (w.heap.size + 1) 0 h'.v) ∧ V.there (w.heap.size + 1) 0 48 ∧ (V.setCells (w.heap.size + 1) 0 h'.v).rangeAt w.heap.size 0 h.a.v ∧ (V.setCells (w.heap.size + 1) 0 h'.v).rangeAt w.heap.size 12 h.b.v ∧ (V.setCells (w.heap.size + 1) 0 h'.v).rangeAt w.heap.size 24 h.c.v ∧ (V.setCells (w.heap.size + 1) 0 h'.v).rangeAt w.heap.size 36 h.d.v := fun V h' q => by
    have bo := (bd.up q).oth (B' := w.heap.size + 1) (by omega) 0 h'.v
    have bt := (br.up q).there
    rw [hz] at bt
    exact ⟨(br.up q).all _ rfl, xbelow_sc (w1.trans (q.mono w1.size)) (by omega) _ _, bt, hk_a bo, hk_b bo, hk_c bo, hk_d bo⟩
  have KE : ∀ a b c d : Ac, a.k = h.a.k → b.k = h.b.k → c.k = h.c.k → d.k = h.d.k → KEq h ⟨a, b, c, d⟩ := fun a b c d e1 e2 e3 e4 => ⟨e1, e2, e3, e4⟩
  clear hx bd br
  generalize h.a.v = La at *
  generalize h.b.v = Lb at *
  generalize h.c.v = Lc at *
  generalize h.d.v = Ld at *
  generalize hHH : h.v = H at *
  clear hHH
  go_enter Tryd.func32, Tryd.ntmps32
  go_upto_region 1 with fail
  rw [← hW1]
  clear hW1
  refine wp_region_held_drew (S := fun w' => w'.rangeAt w.heap.size 0 La ∧ w'.rangeAt w.heap.size 12 Lb ∧ w'.rangeAt w.heap.size 24 Lc ∧ w'.rangeAt w.heap.size 36 Ld) (by kernel_rfl) (f0 _ bD) ?_
  intro hS
  refine wpAnyH_take (i := 0) (v := .pointer (some ⟨w.heap.size, 0, none⟩)) rfl (by kernel_rfl) (by kernel_rfl) (by kernel_rfl) (fun _ _ _ h => h) (Or.inl ⟨by rfl, ?_⟩) (by assumption) ?_
  · intro w5 hSw
    go_simp
  try simp only [Act.put, List.getElem_toArray, List.getElem_cons_zero, List.getElem_cons_succ, List.setIfInBounds_toArray, List.set_cons_zero, List.set_cons_succ]
  refine wpAnyH_take (i := 1) (v := .agg La.toArray) rfl (by kernel_rfl) (by kernel_rfl) (by kernel_rfl) (fun _ _ _ h => h) ?_ (by assumption) ?_
  · obtain ⟨⟨dd, r1, r2⟩, r3⟩ := row_Act
    exact yieldsIf_load_mid rfl 28 (.tmp 3) rfl w.heap.size 0 rfl La dd (fun _ h => h.1) r1 r2 (by rw [la]; exact r3)
  try simp only [Act.put, List.getElem_toArray, List.getElem_cons_zero, List.getElem_cons_succ, List.setIfInBounds_toArray, List.set_cons_zero, List.set_cons_succ]
  refine wpAnyH_take (i := 3) (v := .pointer (some ⟨w.heap.size, 12, none⟩)) rfl (by kernel_rfl) (by kernel_rfl) (by kernel_rfl) (fun _ _ _ h => h) (Or.inl ⟨by rfl, ?_⟩) (by assumption) ?_
  · intro w5 hSw
    go_simp
  try simp only [Act.put, List.getElem_toArray, List.getElem_cons_zero, List.getElem_cons_succ, List.setIfInBounds_toArray, List.set_cons_zero, List.set_cons_succ]
  refine wpAnyH_take (i := 4) (v := .agg Lb.toArray) rfl (by kernel_rfl) (by kernel_rfl) (by kernel_rfl) (fun _ _ _ h => h) ?_ (by assumption) ?_
  · obtain ⟨⟨dd, r1, r2⟩, r3⟩ := row_Act
    exact yieldsIf_load_mid rfl 28 (.tmp 6) rfl w.heap.size 12 rfl Lb dd (fun _ h => h.2.1) r1 r2 (by rw [lb]; exact r3)
  try simp only [Act.put, List.getElem_toArray, List.getElem_cons_zero, List.getElem_cons_succ, List.setIfInBounds_toArray, List.set_cons_zero, List.set_cons_succ]
  refine wpAnyH_take (i := 6) (v := .pointer (some ⟨w.heap.size, 24, none⟩)) rfl (by kernel_rfl) (by kernel_rfl) (by kernel_rfl) (fun _ _ _ h => h) (Or.inl ⟨by rfl, ?_⟩) (by assumption) ?_
  · intro w5 hSw
    go_simp
  try simp only [Act.put, List.getElem_toArray, List.getElem_cons_zero, List.getElem_cons_succ, List.setIfInBounds_toArray, List.set_cons_zero, List.set_cons_succ]
  refine wpAnyH_take (i := 7) (v := .agg Lc.toArray) rfl (by kernel_rfl) (by kernel_rfl) (by kernel_rfl) (fun _ _ _ h => h) ?_ (by assumption) ?_
  · obtain ⟨⟨dd, r1, r2⟩, r3⟩ := row_Act
    exact yieldsIf_load_mid rfl 28 (.tmp 9) rfl w.heap.size 24 rfl Lc dd (fun _ h => h.2.2.1) r1 r2 (by rw [lc]; exact r3)
  try simp only [Act.put, List.getElem_toArray, List.getElem_cons_zero, List.getElem_cons_succ, List.setIfInBounds_toArray, List.set_cons_zero, List.set_cons_succ]
  refine wpAnyH_take (i := 9) (v := .pointer (some ⟨w.heap.size, 36, none⟩)) rfl (by kernel_rfl) (by kernel_rfl) (by kernel_rfl) (fun _ _ _ h => h) (Or.inl ⟨by rfl, ?_⟩) (by assumption) ?_
  · intro w5 hSw
    go_simp
  try simp only [Act.put, List.getElem_toArray, List.getElem_cons_zero, List.getElem_cons_succ, List.setIfInBounds_toArray, List.set_cons_zero, List.set_cons_succ]
  refine wpAnyH_take (i := 10) (v := .agg Ld.toArray) rfl (by kernel_rfl) (by kernel_rfl) (by kernel_rfl) (fun _ _ _ h => h) ?_ (by assumption) ?_
  · obtain ⟨⟨dd, r1, r2⟩, r3⟩ := row_Act
    exact yieldsIf_load_mid rfl 28 (.tmp 12) rfl w.heap.size 36 rfl Ld dd (fun _ h => h.2.2.2) r1 r2 (by rw [ld]; exact r3)
  try simp only [Act.put, List.getElem_toArray, List.getElem_cons_zero, List.getElem_cons_succ, List.setIfInBounds_toArray, List.set_cons_zero, List.set_cons_succ]
  refine wpAnyH_ready (rs := [2]) (by kernel_rfl) (by simp) ?_
  refine AllReadyH.cons rfl (fun K0 hK0 => ?_) AllReadyH.nil
  go_simp
  refine (hA _ bD).mono ?_
  rintro e Z0 ⟨⟨ya, rfl, ka⟩, q0⟩
  have b0 : Below W1.heap.size W1 Z0 := bD.trans (q0.mono bD.size)
  refine hK0.out _ _ (f0 _ b0) (fun hH0 => ?_)
  try simp only [Act.put, List.getElem_toArray, List.getElem_cons_zero, List.getElem_cons_succ, List.setIfInBounds_toArray, List.set_cons_zero, List.set_cons_succ]
  refine wpAnyH_ready (rs := [5]) (by kernel_rfl) (by simp) ?_
  refine AllReadyH.cons rfl (fun K1 hK1 => ?_) AllReadyH.nil
  go_simp
  refine (hB _ b0).mono ?_
  rintro e Z1 ⟨⟨yb, rfl, kb⟩, q1⟩
  have b1 : Below W1.heap.size W1 Z1 := b0.trans (q1.mono b0.size)
  refine hK1.out _ _ (f0 _ b1) (fun hH1 => ?_)
  try simp only [Act.put, List.getElem_toArray, List.getElem_cons_zero, List.getElem_cons_succ, List.setIfInBounds_toArray, List.set_cons_zero, List.set_cons_succ]
  refine wpAnyH_ready (rs := [8]) (by kernel_rfl) (by simp) ?_
  refine AllReadyH.cons rfl (fun K2 hK2 => ?_) AllReadyH.nil
  go_simp
  refine (hC _ b1).mono ?_
  rintro e Z2 ⟨⟨yc, rfl, kc⟩, q2⟩
  have b2 : Below W1.heap.size W1 Z2 := b1.trans (q2.mono b1.size)
  refine hK2.out _ _ (f0 _ b2) (fun hH2 => ?_)
  try simp only [Act.put, List.getElem_toArray, List.getElem_cons_zero, List.getElem_cons_succ, List.setIfInBounds_toArray, List.set_cons_zero, List.set_cons_succ]
  refine wpAnyH_ready (rs := [11]) (by kernel_rfl) (by simp) ?_
  refine AllReadyH.cons rfl (fun K3 hK3 => ?_) AllReadyH.nil
  go_simp
  refine (hD _ b2).mono ?_
  rintro e Z3 ⟨⟨yd, rfl, kd⟩, q3⟩
  have b3 : Below W1.heap.size W1 Z3 := b2.trans (q3.mono b2.size)
  refine hK3.out _ _ (f0 _ b3) (fun hH3 => ?_)
  try simp only [Act.put, List.getElem_toArray, List.getElem_cons_zero, List.getElem_cons_succ, List.setIfInBounds_toArray, List.set_cons_zero, List.set_cons_succ]
  refine wpAnyH_take (i := 12) (v := .agg (Hk.v ⟨ya, yb, yc, yd⟩).toArray) rfl (by kernel_rfl) (by kernel_rfl) (by kernel_rfl) (fun _ _ _ h => h) (yieldsIf_bld rfl _ _ rfl [(0, .agg ya.v.toArray), (1, .agg yb.v.toArray), (2, .agg yc.v.toArray), (3, .agg yd.v.toArray)] rfl (fun w => nbld_hk4 ⟨ya, yb, yc, yd⟩ w)) (by assumption) ?_
  try simp only [Act.put, List.getElem_toArray, List.getElem_cons_zero, List.getElem_cons_succ, List.setIfInBounds_toArray, List.set_cons_zero, List.set_cons_succ]
  have hk := KE ya yb yc yd ka kb kc kd
  clear hA hB hC hD KE ka kb kc kd hK0 hK1 hK2 hK3
  generalize hy : (⟨ya, yb, yc, yd⟩ : Hk) = h' at *
  clear hy
  obtain ⟨g1, g2, g3, g4⟩ := hbl Z3 h' b3
  clear hbl f0
  refine wpAnyH_ready (rs := [13]) (by kernel_rfl) (by simp) ?_
  refine AllReadyH.cons rfl (fun K9 hK9 => ?_) AllReadyH.nil
  rw [if_pos (by rfl)]
  refine wp_store_mid 30 (.tmp 2) (.tmp 15) rfl (w.heap.size + 1) 0 h'.v.toArray rfl rfl (by simpa [h'.len] using g3) (by simp [h'.len, row_Hook.2]) (all_oneCell_toArray h'.one) ?_
  rw [show h'.v.toArray.toList = h'.v from rfl]
  generalize Z3.setCells (w.heap.size + 1) 0 h'.v = Wf at *
  refine hK9.out _ _ g4 (fun _ => ?_)
  clear hK9
  refine wpAnyH_done (by kernel_rfl) ?_ _
  try simp only [Act.put, List.getElem_toArray, List.getElem_cons_zero, List.getElem_cons_succ, List.setIfInBounds_toArray, List.set_cons_zero, List.set_cons_succ]
  go_wp2
  exact bodyPost_ret (res_row row_Hook Tryd.results32 rfl g1 h'.len) rfl ⟨⟨h', rfl, hk⟩, g2⟩

/-- A struct and a value are the results. -/
theorem res_row2 {t n s s2 : Nat} (hw : Row t n) {f : Func} (hr : f.results = #[.cell s t, .tmp s2]) {tmps : Array Value} {w : World} {B : Nat} {vs : List Value} {v : Value} (ht : tmps.getD s undef = .pointer (some ⟨B, 0, none⟩)) (hv : tmps.getD s2 undef = v) (h : Blk w B vs) (hl : vs.length = n) : (results f tmps).run Tryd.prog w = .ok (.tuple #[.agg vs.toArray, v]) w := by
  obtain ⟨⟨d, h1, h2⟩, h3⟩ := hw
  have hL := run_loadVar_mid (P := Tryd.prog) w B 0 t vs d h.range h1 h2 (by rw [hl]; exact h3)
  have ht' : tmps[s]?.getD undef = .pointer (some ⟨B, 0, none⟩) := by simpa using ht
  have hv' : tmps[s2]?.getD undef = v := by simpa using hv
  simp [results, hr, ht', hv', hL, asAddr]
theorem bld_hk0 (w : World) : (Instr.build 30 #[]).run Tryd.prog w = .ok (.agg zH.v.toArray) w := by kernel_rfl
set_option maxRecDepth 1000000 in
set_option maxHeartbeats 8000000 in
theorem get_no (a : Option Addr) (n c : Nat) (i : Int) (w : World) (hi : i < 1 ∨ (1 ≤ i ∧ (n : Int) < i) ∨ (1 ≤ i ∧ i ≤ n ∧ 16 < i)) : Calls Tryd.prog 14 #[.slice a n c, .int .i64 i] w fun e w' => e = .returned (.tuple #[.agg zH.v.toArray, .bool false]) ∧ Below w.heap.size w w' := by
  obtain ⟨W1, hW1⟩ : ∃ W1, W1 = w.alloc (.cells #[.int .i64 0, .string ⟨#[]⟩, .string ⟨#[]⟩, .slice none 0 0, .int .i64 0, .string ⟨#[]⟩, .int .u64 0, .int .u64 0, .string ⟨#[]⟩, .slice none 0 0, .slice none 0 0, .int .i64 0, .int .i64 0, .string ⟨#[]⟩, .string ⟨#[]⟩, .slice none 0 0, .int .i64 0, .string ⟨#[]⟩, .int .u64 0, .int .u64 0, .string ⟨#[]⟩, .slice none 0 0, .slice none 0 0, .int .i64 0, .int .i64 0, .string ⟨#[]⟩, .string ⟨#[]⟩, .slice none 0 0, .int .i64 0, .string ⟨#[]⟩, .int .u64 0, .int .u64 0, .string ⟨#[]⟩, .slice none 0 0, .slice none 0 0, .int .i64 0, .int .i64 0, .string ⟨#[]⟩, .string ⟨#[]⟩, .slice none 0 0, .int .i64 0, .string ⟨#[]⟩, .int .u64 0, .int .u64 0, .string ⟨#[]⟩, .slice none 0 0, .slice none 0 0, .int .i64 0] 30) := ⟨_, rfl⟩
  have br : Blk W1 w.heap.size zH.v := by rw [hW1]; exact Blk.new w zH.v 30
  have w1 : Below w.heap.size w W1 := by rw [hW1]; exact (Below.refl _ _).alloc (Nat.le_refl _) _
  have hz : zH.v.length = 48 := rfl
  have hb0 := fun w => bld_hk0 w
  have hoz := zH.one
  have f1 : Blk (W1.setCells w.heap.size 0 zH.v) w.heap.size zH.v := br.all _ rfl
  have f2 : Below w.heap.size w (W1.setCells w.heap.size 0 zH.v) := xbelow_sc w1 (Nat.le_refl _) _ _
  generalize zH.v = ZV at *
  have hcs : i < 1 ∨ (¬ i < 1 ∧ (n : Int) < i) ∨ (¬ i < 1 ∧ ¬ (n : Int) < i ∧ 16 < i) := by omega
  clear hi
  rcases hcs with h1 | ⟨h1, h2⟩ | ⟨h1, h2, h3⟩
  all_goals
    go_enter Tryd.func14, Tryd.ntmps14
    go_upto_region 1 with fail
    rw [← hW1]
    clear hW1
    (try have hm : min (n : Int) 16 < i := by omega)
    go_wp2_with (first
      | (refine wpl_bld rfl _ _ rfl [] rfl (hb0 _) ?_)
      | (refine wpl_st row_Hook rfl (.tmp 4) (.tmp 15) rfl (us := ZV) rfl rfl br hz hz hoz ?_; generalize W1.setCells w.heap.size 0 ZV = Wf at *))
    exact bodyPost_ret (res_row2 row_Hook Tryd.results14 rfl rfl f1 hz) rfl ⟨rfl, f2⟩
set_option maxRecDepth 1000000 in
set_option maxHeartbeats 8000000 in
theorem jget_no (a : Option Addr) (n c : Nat) (i : Int) (w : World) (hi : i < 1 ∨ (1 ≤ i ∧ (n : Int) < i) ∨ (1 ≤ i ∧ i ≤ n ∧ 16 < i)) : Calls Tryd.prog 15 #[.slice a n c, .int .i64 i] w fun e w' => e = .returned (.tuple #[.agg zH.v.toArray, .bool false]) ∧ Below w.heap.size w w' := by
  obtain ⟨W1, hW1⟩ : ∃ W1, W1 = w.alloc (.cells #[.int .i64 0, .string ⟨#[]⟩, .string ⟨#[]⟩, .slice none 0 0, .int .i64 0, .string ⟨#[]⟩, .int .u64 0, .int .u64 0, .string ⟨#[]⟩, .slice none 0 0, .slice none 0 0, .int .i64 0, .int .i64 0, .string ⟨#[]⟩, .string ⟨#[]⟩, .slice none 0 0, .int .i64 0, .string ⟨#[]⟩, .int .u64 0, .int .u64 0, .string ⟨#[]⟩, .slice none 0 0, .slice none 0 0, .int .i64 0, .int .i64 0, .string ⟨#[]⟩, .string ⟨#[]⟩, .slice none 0 0, .int .i64 0, .string ⟨#[]⟩, .int .u64 0, .int .u64 0, .string ⟨#[]⟩, .slice none 0 0, .slice none 0 0, .int .i64 0, .int .i64 0, .string ⟨#[]⟩, .string ⟨#[]⟩, .slice none 0 0, .int .i64 0, .string ⟨#[]⟩, .int .u64 0, .int .u64 0, .string ⟨#[]⟩, .slice none 0 0, .slice none 0 0, .int .i64 0] 30) := ⟨_, rfl⟩
  have br : Blk W1 w.heap.size zH.v := by rw [hW1]; exact Blk.new w zH.v 30
  have w1 : Below w.heap.size w W1 := by rw [hW1]; exact (Below.refl _ _).alloc (Nat.le_refl _) _
  have hz : zH.v.length = 48 := rfl
  have hb0 := fun w => bld_hk0 w
  have hoz := zH.one
  have f1 : Blk (W1.setCells w.heap.size 0 zH.v) w.heap.size zH.v := br.all _ rfl
  have f2 : Below w.heap.size w (W1.setCells w.heap.size 0 zH.v) := xbelow_sc w1 (Nat.le_refl _) _ _
  generalize zH.v = ZV at *
  have hcs : i < 1 ∨ (¬ i < 1 ∧ (n : Int) < i) ∨ (¬ i < 1 ∧ ¬ (n : Int) < i ∧ 16 < i) := by omega
  clear hi
  rcases hcs with h1 | ⟨h1, h2⟩ | ⟨h1, h2, h3⟩
  all_goals
    go_enter Tryd.func15, Tryd.ntmps15
    go_upto_region 1 with fail
    rw [← hW1]
    clear hW1
    go_wp2_with (first
      | (refine wpl_bld rfl _ _ rfl [] rfl (hb0 _) ?_)
      | (refine wpl_st row_Hook rfl (.tmp 4) (.tmp 18) rfl (us := ZV) rfl rfl br hz hz hoz ?_; generalize W1.setCells w.heap.size 0 ZV = Wf at *))
    exact bodyPost_ret (res_row2 row_Hook Tryd.results15 rfl rfl f1 hz) rfl ⟨rfl, f2⟩

set_option maxRecDepth 1000000 in
set_option maxHeartbeats 8000000 in
theorem get_in (m b off n c j : Nat) (h : Hk) (w : World) (hj : j < n) (h16 : j < 16) (hn : n ≤ 40) (hb : b < w.heap.size) (hr : w.rangeAt b (off + j * 48) h.v) (hx : HkR m w h) : Calls Tryd.prog 14 #[.slice (some ⟨b, off, none⟩) n c, .int .i64 ((j : Int) + 1)] w fun e w' => (∃ h' : Hk, e = .returned (.tuple #[.agg h'.v.toArray, .bool true]) ∧ KEq h h') ∧ Below w.heap.size w w' := by
  obtain ⟨W1, hW1⟩ : ∃ W1, W1 = w.alloc (.cells #[.int .i64 0, .string ⟨#[]⟩, .string ⟨#[]⟩, .slice none 0 0, .int .i64 0, .string ⟨#[]⟩, .int .u64 0, .int .u64 0, .string ⟨#[]⟩, .slice none 0 0, .slice none 0 0, .int .i64 0, .int .i64 0, .string ⟨#[]⟩, .string ⟨#[]⟩, .slice none 0 0, .int .i64 0, .string ⟨#[]⟩, .int .u64 0, .int .u64 0, .string ⟨#[]⟩, .slice none 0 0, .slice none 0 0, .int .i64 0, .int .i64 0, .string ⟨#[]⟩, .string ⟨#[]⟩, .slice none 0 0, .int .i64 0, .string ⟨#[]⟩, .int .u64 0, .int .u64 0, .string ⟨#[]⟩, .slice none 0 0, .slice none 0 0, .int .i64 0, .int .i64 0, .string ⟨#[]⟩, .string ⟨#[]⟩, .slice none 0 0, .int .i64 0, .string ⟨#[]⟩, .int .u64 0, .int .u64 0, .string ⟨#[]⟩, .slice none 0 0, .slice none 0 0, .int .i64 0] 30) := ⟨_, rfl⟩
  have br : Blk W1 w.heap.size zH.v := by rw [hW1]; exact Blk.new w zH.v 30
  have w1 : Below w.heap.size w W1 := by rw [hW1]; exact (Below.refl _ _).alloc (Nat.le_refl _) _
  have hz : zH.v.length = 48 := rfl
  have hr1 : W1.rangeAt b (off + j * 48) h.v := rng_up w1 hb hr
  have hl := h.len
  have g1 : ¬ ((j : Int) + 1 < 1) := by omega
  have g2 : ¬ ((n : Int) < (j : Int) + 1) := by omega
  have g3 : ¬ ((16 : Int) < (j : Int) + 1) := by omega
  have g4 : (j : Int) < n := by omega
  have g5 : ¬ ((j : Int) < 0) := by omega
  have g6 : (j : Int) ≤ 16 := by omega
  have gm : ¬ (min (n : Int) 16 < (j : Int) + 1) := by omega
  have hC := copiedHook_any m h W1 ⟨hx.1.up w1, hx.2.1.up w1, hx.2.2.1.up w1, hx.2.2.2.up w1⟩
  have fin : ∀ (V : World) (h' : Hk), Below W1.heap.size W1 V → Blk V w.heap.size zH.v ∧ Blk (V.setCells w.heap.size 0 h'.v) w.heap.size h'.v ∧ Below w.heap.size w (V.setCells w.heap.size 0 h'.v) := fun V h' q => ⟨br.up q, (br.up q).all _ rfl, xbelow_sc (w1.trans (q.mono w1.size)) (Nat.le_refl _) _ _⟩
  clear hx hr
  generalize zH.v = ZV at *
  generalize h.v = H at *
  go_enter Tryd.func14, Tryd.ntmps14
  go_upto_region 1 with fail
  rw [← hW1]
  clear hW1
  go_wp2_with (first
    | (refine wpl_ld row_Hook rfl (.tmp 19) rfl (B := b) (o := off + j * 48) (vs := H) rfl hr1 hl ?_)
    | (go_at_call 32; refine hC.mono ?_; rintro e W2 ⟨⟨h', rfl, kq⟩, q2⟩; obtain ⟨b2, f1, f2⟩ := fin W2 h' q2; have h1' := h'.one; have hl' := h'.len)
    | (refine wpl_st row_Hook rfl (.tmp 4) (.tmp 21) rfl (us := h'.v) rfl rfl b2 hz hl' h1' ?_; generalize W2.setCells w.heap.size 0 h'.v = Wf at *))
  exact bodyPost_ret (res_row2 row_Hook Tryd.results14 rfl rfl f1 hl') rfl ⟨⟨h', rfl, kq⟩, f2⟩
set_option maxRecDepth 1000000 in
set_option maxHeartbeats 8000000 in
theorem jget_in (b off n c j : Nat) (h : Hk) (w : World) (hj : j < n) (h16 : j < 16) (hn : n ≤ 40) (hb : b < w.heap.size) (hr : w.rangeAt b (off + j * 48) h.v) : Calls Tryd.prog 15 #[.slice (some ⟨b, off, none⟩) n c, .int .i64 ((j : Int) + 1)] w fun e w' => e = .returned (.tuple #[.agg h.v.toArray, .bool true]) ∧ Below w.heap.size w w' := by
  obtain ⟨W1, hW1⟩ : ∃ W1, W1 = w.alloc (.cells #[.int .i64 0, .string ⟨#[]⟩, .string ⟨#[]⟩, .slice none 0 0, .int .i64 0, .string ⟨#[]⟩, .int .u64 0, .int .u64 0, .string ⟨#[]⟩, .slice none 0 0, .slice none 0 0, .int .i64 0, .int .i64 0, .string ⟨#[]⟩, .string ⟨#[]⟩, .slice none 0 0, .int .i64 0, .string ⟨#[]⟩, .int .u64 0, .int .u64 0, .string ⟨#[]⟩, .slice none 0 0, .slice none 0 0, .int .i64 0, .int .i64 0, .string ⟨#[]⟩, .string ⟨#[]⟩, .slice none 0 0, .int .i64 0, .string ⟨#[]⟩, .int .u64 0, .int .u64 0, .string ⟨#[]⟩, .slice none 0 0, .slice none 0 0, .int .i64 0, .int .i64 0, .string ⟨#[]⟩, .string ⟨#[]⟩, .slice none 0 0, .int .i64 0, .string ⟨#[]⟩, .int .u64 0, .int .u64 0, .string ⟨#[]⟩, .slice none 0 0, .slice none 0 0, .int .i64 0] 30) := ⟨_, rfl⟩
  have br : Blk W1 w.heap.size zH.v := by rw [hW1]; exact Blk.new w zH.v 30
  have w1 : Below w.heap.size w W1 := by rw [hW1]; exact (Below.refl _ _).alloc (Nat.le_refl _) _
  have hz : zH.v.length = 48 := rfl
  have hr1 : W1.rangeAt b (off + j * 48) h.v := rng_up w1 hb hr
  have hl := h.len
  have g1 : ¬ ((j : Int) + 1 < 1) := by omega
  have g2 : ¬ ((n : Int) < (j : Int) + 1) := by omega
  have g3 : ¬ ((16 : Int) < (j : Int) + 1) := by omega
  have g4 : (j : Int) < n := by omega
  have g5 : ¬ ((j : Int) < 0) := by omega
  have g6 : (j : Int) ≤ 16 := by omega
  have ho := h.one
  have f1 : Blk (W1.setCells w.heap.size 0 h.v) w.heap.size h.v := br.all _ rfl
  have f2 : Below w.heap.size w (W1.setCells w.heap.size 0 h.v) := xbelow_sc w1 (Nat.le_refl _) _ _
  clear hr
  generalize zH.v = ZV at *
  generalize h.v = H at *
  go_enter Tryd.func15, Tryd.ntmps15
  go_upto_region 1 with fail
  rw [← hW1]
  clear hW1
  go_wp2_with (first
    | (refine wpl_ld row_Hook rfl (.tmp 22) rfl (B := b) (o := off + j * 48) (vs := H) rfl hr1 hl ?_)
    | (refine wpl_st row_Hook rfl (.tmp 4) (.tmp 23) rfl (us := H) rfl rfl br hz hl ho ?_; generalize W1.setCells w.heap.size 0 H = Wf at *))
  exact bodyPost_ret (res_row2 row_Hook Tryd.results15 rfl rfl f1 hl) rfl ⟨rfl, f2⟩
end Go.Proofs.YtbfaapbbhgegiaaDoor
