/- DGet, DRow, YComm: these texts in one. -/
import Derived.Test.YtdlnmnipnkeabaaGreatDoorPt17
import Derived.Test.YtdlnmnipnkeabaaGreatDoorPt9
import Derived.Deep.AppendLies
import Derived.Test.YtdlnmnipnkeabaaGreatDoorPt16
import Derived.Test.YtdlnmnipnkeabaaGreatDoorChecked
import Derived.WalkKit
import Derived.WalkSpells
import Derived.Conc.LoneSelect
namespace Go.Proofs.YtdlnmnipnkeabaaGreatDoor
open Go.RowKit
set_option linter.unusedVariables false
set_option linter.unusedSimpArgs false
def Ro (d : Ds) (B : Nat) (l : Sl) (W : World) : Prop := l.n = 1 ∧ 1 ≤ l.c ∧ l.c ≤ maxLen ∧ ∃ b, l.a = some ⟨b, 0, none⟩ ∧ B ≤ b ∧ b < W.heap.size ∧ W.rangeAt b 0 d.v
theorem Ro.kx {d : Ds} {B : Nat} {l : Sl} {W W' : World} {P : Nat → Prop} (h : Ro d B l W) (k : Kx P W W') (hp : ∀ b, B ≤ b → ¬ P b) : Ro d B l W' := by
 obtain ⟨h1, h2, h3, b, h4, h5, h6, h7⟩ := h
 exact ⟨h1, h2, h3, b, h4, h5, Nat.lt_of_lt_of_le h6 k.size, fun j v hv => k.cell (h7 j v hv) (hp b h5)⟩
theorem Ro.mono {d : Ds} {B B' : Nat} {l : Sl} {W : World} (h : Ro d B l W) (hb : B' ≤ B) : Ro d B' l W := by
 obtain ⟨h1, h2, h3, b, h4, h5, h6, h7⟩ := h
 exact ⟨h1, h2, h3, b, h4, Nat.le_trans hb h5, h6, h7⟩
theorem nbld_hk4 (h : Hk) (w : World) : (Instr.build 34 #[(0, .agg h.a.v.toArray), (1, .agg h.b.v.toArray), (2, .agg h.c.v.toArray), (3, .agg h.d.v.toArray)]).run Tryz.prog w = .ok (.agg h.v.toArray) w := by
 obtain ⟨⟨k, t, f, ⟨la, ln, lc⟩, ⟨a0, a1, a2, a3, a4, ⟨na, nn, nc⟩, ⟨pa, pn, pc⟩, a7⟩⟩, ⟨k', t', f', ⟨la', ln', lc'⟩, ⟨a0', a1', a2', a3', a4', ⟨na', nn', nc'⟩, ⟨pa', pn', pc'⟩, a7'⟩⟩, ⟨k2, t2, f2, ⟨la2, ln2, lc2⟩, ⟨a02, a12, a22, a32, a42, ⟨na2, nn2, nc2⟩, ⟨pa2, pn2, pc2⟩, a72⟩⟩, ⟨k3, t3, f3, ⟨la3, ln3, lc3⟩, ⟨a03, a13, a23, a33, a43, ⟨na3, nn3, nc3⟩, ⟨pa3, pn3, pc3⟩, a73⟩⟩⟩ := h
 kernel_rfl
theorem yieldsIf_bld {ops : Array Oper} {S : World → Prop} {op : Oper} {a : Act} (hw : Region.wanted op (yielded ops a.tmps) = true) (t : TypeId) (parts : Array (Nat × Operand)) (ho : op.op = .build t parts) (ps : List (Nat × Value)) {V : Value} (hx : parts.toList.map (fun x => (x.1, a.eval x.2)) = ps) (hb : ∀ w, (Instr.build t ps.toArray).run Tryz.prog w = .ok V w) : YieldsIf Tryz.prog ops S op V a :=
 .inl ⟨hw, fun w _ => by
  have hx' : (parts.map fun (i, x) => (i, a.eval x)) = ps.toArray := by
   rw [← hx]
   apply Array.ext'
   simp
  unfold execOp
  simp only [ho, hx', hb, Sem.run_bind, Sem.run_pure, Result.andThen_ok]⟩
set_option maxRecDepth 1000000 in
set_option maxHeartbeats 8000000 in
theorem copiedHook_q (h : Hk) (w : World) (QL : Sl → World → Prop) (hQ : ∀ l W W', QL l W → Kx (fun k => k = w.heap.size ∨ k = w.heap.size + 1) W W' → QL l W')
  (hA0 : ∀ V, Calls Tryz.prog 228 #[.agg h.a.v.toArray] V fun e W' => (∃ x' : Ac, e = .returned (.agg x'.v.toArray) ∧ Hid (x' = h.a)) ∧ Below V.heap.size V W')
  (hB0 : ∀ V, Calls Tryz.prog 228 #[.agg h.b.v.toArray] V fun e W' => (∃ x' : Ac, e = .returned (.agg x'.v.toArray) ∧ Hid (x' = h.b)) ∧ Below V.heap.size V W')
  (hC0 : ∀ V, Calls Tryz.prog 228 #[.agg h.c.v.toArray] V fun e W' => (∃ x' : Ac, e = .returned (.agg x'.v.toArray) ∧ Hid (x' = h.c)) ∧ Below V.heap.size V W')
  (hD0 : ∀ V, Below w.heap.size w V → w.heap.size + 2 ≤ V.heap.size → Calls Tryz.prog 228 #[.agg h.d.v.toArray] V fun e W' => (∃ x' : Ac, e = .returned (.agg x'.v.toArray) ∧ Hid (∃ l', x' = ⟨h.d.k, h.d.t, h.d.f, l', h.d.p⟩ ∧ QL l' W')) ∧ Below V.heap.size V W') :
  Calls Tryz.prog 180 #[.agg h.v.toArray] w fun e w' => (∃ h' : Hk, e = .returned (.agg h'.v.toArray) ∧ Hid (∃ l', h' = ⟨h.a, h.b, h.c, ⟨h.d.k, h.d.t, h.d.f, l', h.d.p⟩⟩ ∧ QL l' w')) ∧ Below w.heap.size w w' := by
 obtain ⟨W1, hW1⟩ : ∃ W1, W1 = (w.alloc (.cells h.v.toArray 34)).alloc (.cells #[.int .i64 0, .string ⟨#[]⟩, .string ⟨#[]⟩, .slice none 0 0, .int .i64 0, .string ⟨#[]⟩, .int .u64 0, .int .u64 0, .string ⟨#[]⟩, .slice none 0 0, .slice none 0 0, .int .i64 0, .int .i64 0, .string ⟨#[]⟩, .string ⟨#[]⟩, .slice none 0 0, .int .i64 0, .string ⟨#[]⟩, .int .u64 0, .int .u64 0, .string ⟨#[]⟩, .slice none 0 0, .slice none 0 0, .int .i64 0, .int .i64 0, .string ⟨#[]⟩, .string ⟨#[]⟩, .slice none 0 0, .int .i64 0, .string ⟨#[]⟩, .int .u64 0, .int .u64 0, .string ⟨#[]⟩, .slice none 0 0, .slice none 0 0, .int .i64 0, .int .i64 0, .string ⟨#[]⟩, .string ⟨#[]⟩, .slice none 0 0, .int .i64 0, .string ⟨#[]⟩, .int .u64 0, .int .u64 0, .string ⟨#[]⟩, .slice none 0 0, .slice none 0 0, .int .i64 0] 34) := ⟨_, rfl⟩
 have bd : Blk W1 w.heap.size h.v := by rw [hW1]; exact (Blk.new _ _ _).alloc _
 have br : Blk W1 (w.heap.size + 1) hk0.v := by
  rw [hW1]
  have := Blk.new (w.alloc (.cells h.v.toArray 34)) hk0.v 34
  rwa [show (w.alloc (.cells h.v.toArray 34)).heap.size = w.heap.size + 1 by simp] at this
 have w1 : Below w.heap.size w W1 := by rw [hW1]; exact ((Below.refl _ _).alloc (Nat.le_refl _) _).alloc (by simp) _
 have f0 : ∀ V, Below W1.heap.size W1 V → (fun w' : World => w'.rangeAt w.heap.size 0 h.a.v ∧ w'.rangeAt w.heap.size 12 h.b.v ∧ w'.rangeAt w.heap.size 24 h.c.v ∧ w'.rangeAt w.heap.size 36 h.d.v) V := fun V q => ⟨hk_a (bd.up q), hk_b (bd.up q), hk_c (bd.up q), hk_d (bd.up q)⟩
 have hs1 : w.heap.size + 2 ≤ W1.heap.size := by rw [hW1]; simp
 have hA := fun (V : World) (q : Below W1.heap.size W1 V) => hA0 V
 have hB := fun (V : World) (q : Below W1.heap.size W1 V) => hB0 V
 have hC := fun (V : World) (q : Below W1.heap.size W1 V) => hC0 V
 have hD := fun (V : World) (q : Below W1.heap.size W1 V) => hD0 V (w1.trans (q.mono w1.size)) (Nat.le_trans hs1 q.size)
 have la := h.a.len
 have lb := h.b.len
 have lc := h.c.len
 have ld := h.d.len
 have bD : Below W1.heap.size W1 W1.drew := (Below.refl W1.heap.size W1).drew
 have hz : hk0.v.length = 48 := rfl
 have hbl : ∀ (V : World) (h' : Hk), Below W1.heap.size W1 V → Blk (V.setCells (w.heap.size + 1) 0 h'.v) (w.heap.size + 1) h'.v ∧ Below w.heap.size w (V.setCells (w.heap.size + 1) 0 h'.v) ∧ V.there (w.heap.size + 1) 0 48 ∧ (V.setCells (w.heap.size + 1) 0 h'.v).rangeAt w.heap.size 0 h.a.v ∧ (V.setCells (w.heap.size + 1) 0 h'.v).rangeAt w.heap.size 12 h.b.v ∧ (V.setCells (w.heap.size + 1) 0 h'.v).rangeAt w.heap.size 24 h.c.v ∧ (V.setCells (w.heap.size + 1) 0 h'.v).rangeAt w.heap.size 36 h.d.v := fun V h' q => by
  have bo := (bd.up q).oth (B' := w.heap.size + 1) (by omega) 0 h'.v
  have bt := (br.up q).there
  rw [hz] at bt
  exact ⟨(br.up q).all _ rfl, xbelow_sc (w1.trans (q.mono w1.size)) (by omega) _ _, bt, hk_a bo, hk_b bo, hk_c bo, hk_d bo⟩
 clear hA0 hB0 hC0 hD0 bd br
 generalize h.a.v = La at *
 generalize h.b.v = Lb at *
 generalize h.c.v = Lc at *
 generalize h.d.v = Ld at *
 generalize hHH : h.v = H at *
 clear hHH
 go_enter Tryz.func180, Tryz.ntmps180
 go_upto_region 1 with fail
 rw [← hW1]
 clear hW1
 refine wp_region_held_drew (S := fun w' => w'.rangeAt w.heap.size 0 La ∧ w'.rangeAt w.heap.size 12 Lb ∧ w'.rangeAt w.heap.size 24 Lc ∧ w'.rangeAt w.heap.size 36 Ld) (by kernel_rfl) (f0 _ bD) ?_
 intro hS
 refine tk 0 (.pointer (some ⟨w.heap.size, 0, none⟩)) rfl (by kernel_rfl) (fun _ _ _ h => h) (by rfl) (by assumption) ?_ ?_
 ·intro w5 hSw
  go_simp
 try simp only [Act.put, List.getElem_toArray, List.getElem_cons_zero, List.getElem_cons_succ, List.setIfInBounds_toArray, List.set_cons_zero, List.set_cons_succ, List.length_cons]
 refine wpAnyH_take (i := 1) (v := .agg La.toArray) rfl (by kernel_rfl) (by kernel_rfl) (by kernel_rfl) (fun _ _ _ h => h) ?_ (by assumption) ?_
 ·obtain ⟨⟨dd, r1, r2⟩, r3⟩ := row_Act
  exact yieldsIf_load_mid rfl 31 (.tmp 3) rfl w.heap.size 0 rfl La dd (fun _ h => h.1) r1 r2 (by rw [la]; exact r3)
 try simp only [Act.put, List.getElem_toArray, List.getElem_cons_zero, List.getElem_cons_succ, List.setIfInBounds_toArray, List.set_cons_zero, List.set_cons_succ, List.length_cons]
 refine tk 3 (.pointer (some ⟨w.heap.size, 12, none⟩)) rfl (by kernel_rfl) (fun _ _ _ h => h) (by rfl) (by assumption) ?_ ?_
 ·intro w5 hSw
  go_simp
 try simp only [Act.put, List.getElem_toArray, List.getElem_cons_zero, List.getElem_cons_succ, List.setIfInBounds_toArray, List.set_cons_zero, List.set_cons_succ, List.length_cons]
 refine wpAnyH_take (i := 4) (v := .agg Lb.toArray) rfl (by kernel_rfl) (by kernel_rfl) (by kernel_rfl) (fun _ _ _ h => h) ?_ (by assumption) ?_
 ·obtain ⟨⟨dd, r1, r2⟩, r3⟩ := row_Act
  exact yieldsIf_load_mid rfl 31 (.tmp 6) rfl w.heap.size 12 rfl Lb dd (fun _ h => h.2.1) r1 r2 (by rw [lb]; exact r3)
 try simp only [Act.put, List.getElem_toArray, List.getElem_cons_zero, List.getElem_cons_succ, List.setIfInBounds_toArray, List.set_cons_zero, List.set_cons_succ, List.length_cons]
 refine tk 6 (.pointer (some ⟨w.heap.size, 24, none⟩)) rfl (by kernel_rfl) (fun _ _ _ h => h) (by rfl) (by assumption) ?_ ?_
 ·intro w5 hSw
  go_simp
 try simp only [Act.put, List.getElem_toArray, List.getElem_cons_zero, List.getElem_cons_succ, List.setIfInBounds_toArray, List.set_cons_zero, List.set_cons_succ, List.length_cons]
 refine wpAnyH_take (i := 7) (v := .agg Lc.toArray) rfl (by kernel_rfl) (by kernel_rfl) (by kernel_rfl) (fun _ _ _ h => h) ?_ (by assumption) ?_
 ·obtain ⟨⟨dd, r1, r2⟩, r3⟩ := row_Act
  exact yieldsIf_load_mid rfl 31 (.tmp 9) rfl w.heap.size 24 rfl Lc dd (fun _ h => h.2.2.1) r1 r2 (by rw [lc]; exact r3)
 try simp only [Act.put, List.getElem_toArray, List.getElem_cons_zero, List.getElem_cons_succ, List.setIfInBounds_toArray, List.set_cons_zero, List.set_cons_succ, List.length_cons]
 refine tk 9 (.pointer (some ⟨w.heap.size, 36, none⟩)) rfl (by kernel_rfl) (fun _ _ _ h => h) (by rfl) (by assumption) ?_ ?_
 ·intro w5 hSw
  go_simp
 try simp only [Act.put, List.getElem_toArray, List.getElem_cons_zero, List.getElem_cons_succ, List.setIfInBounds_toArray, List.set_cons_zero, List.set_cons_succ, List.length_cons]
 refine wpAnyH_take (i := 10) (v := .agg Ld.toArray) rfl (by kernel_rfl) (by kernel_rfl) (by kernel_rfl) (fun _ _ _ h => h) ?_ (by assumption) ?_
 ·obtain ⟨⟨dd, r1, r2⟩, r3⟩ := row_Act
  exact yieldsIf_load_mid rfl 31 (.tmp 12) rfl w.heap.size 36 rfl Ld dd (fun _ h => h.2.2.2) r1 r2 (by rw [ld]; exact r3)
 try simp only [Act.put, List.getElem_toArray, List.getElem_cons_zero, List.getElem_cons_succ, List.setIfInBounds_toArray, List.set_cons_zero, List.set_cons_succ, List.length_cons]
 refine rd1 2 (by kernel_rfl) rfl fun K0 hK0 => ?_
 go_simp
 refine (hA _ bD).mono ?_
 rintro e Z0 ⟨⟨ya, rfl, ka⟩, q0⟩
 have b0 : Below W1.heap.size W1 Z0 := bD.trans (q0.mono bD.size)
 refine hK0.out _ _ (f0 _ b0) (fun hH0 => ?_)
 try simp only [Act.put, List.getElem_toArray, List.getElem_cons_zero, List.getElem_cons_succ, List.setIfInBounds_toArray, List.set_cons_zero, List.set_cons_succ, List.length_cons]
 refine rd1 5 (by kernel_rfl) rfl fun K1 hK1 => ?_
 go_simp
 refine (hB _ b0).mono ?_
 rintro e Z1 ⟨⟨yb, rfl, kb⟩, q1⟩
 have b1 : Below W1.heap.size W1 Z1 := b0.trans (q1.mono b0.size)
 refine hK1.out _ _ (f0 _ b1) (fun hH1 => ?_)
 try simp only [Act.put, List.getElem_toArray, List.getElem_cons_zero, List.getElem_cons_succ, List.setIfInBounds_toArray, List.set_cons_zero, List.set_cons_succ, List.length_cons]
 refine rd1 8 (by kernel_rfl) rfl fun K2 hK2 => ?_
 go_simp
 refine (hC _ b1).mono ?_
 rintro e Z2 ⟨⟨yc, rfl, kc⟩, q2⟩
 have b2 : Below W1.heap.size W1 Z2 := b1.trans (q2.mono b1.size)
 refine hK2.out _ _ (f0 _ b2) (fun hH2 => ?_)
 try simp only [Act.put, List.getElem_toArray, List.getElem_cons_zero, List.getElem_cons_succ, List.setIfInBounds_toArray, List.set_cons_zero, List.set_cons_succ, List.length_cons]
 refine rd1 11 (by kernel_rfl) rfl fun K3 hK3 => ?_
 go_simp
 refine (hD _ b2).mono ?_
 rintro e Z3 ⟨⟨yd, rfl, kd⟩, q3⟩
 have b3 : Below W1.heap.size W1 Z3 := b2.trans (q3.mono b2.size)
 refine hK3.out _ _ (f0 _ b3) (fun hH3 => ?_)
 try simp only [Act.put, List.getElem_toArray, List.getElem_cons_zero, List.getElem_cons_succ, List.setIfInBounds_toArray, List.set_cons_zero, List.set_cons_succ, List.length_cons]
 refine wpAnyH_take (i := 12) (v := .agg (Hk.v ⟨ya, yb, yc, yd⟩).toArray) rfl (by kernel_rfl) (by kernel_rfl) (by kernel_rfl) (fun _ _ _ h => h) (yieldsIf_bld rfl _ _ rfl [(0, .agg ya.v.toArray), (1, .agg yb.v.toArray), (2, .agg yc.v.toArray), (3, .agg yd.v.toArray)] rfl (fun w => nbld_hk4 ⟨ya, yb, yc, yd⟩ w)) (by assumption) ?_
 try simp only [Act.put, List.getElem_toArray, List.getElem_cons_zero, List.getElem_cons_succ, List.setIfInBounds_toArray, List.set_cons_zero, List.set_cons_succ, List.length_cons]
 have hk : Hid (∃ l', (⟨ya, yb, yc, yd⟩ : Hk) = ⟨h.a, h.b, h.c, ⟨h.d.k, h.d.t, h.d.f, l', h.d.p⟩⟩ ∧ QL l' Z3) := by
  obtain ⟨l', e1, e2⟩ := kd.out
  exact ⟨l', by rw [ka.out, kb.out, kc.out, e1], e2⟩
 clear hA hB hC hD ka kb kc kd hK0 hK1 hK2 hK3
 generalize hy : (⟨ya, yb, yc, yd⟩ : Hk) = h' at *
 clear hy
 obtain ⟨g1, g2, g3, g4⟩ := hbl Z3 h' b3
 clear hbl f0
 refine rd1 13 (by kernel_rfl) rfl fun K9 hK9 => ?_
 rw [if_pos (by rfl)]
 refine wp_store_mid 34 (.tmp 2) (.tmp 15) rfl (w.heap.size + 1) 0 h'.v.toArray rfl rfl (by simpa [h'.len] using g3) (by simp [h'.len, row_Hook.2]) (all_oneCell_toArray h'.one) ?_
 rw [show h'.v.toArray.toList = h'.v from rfl]
 have hk2 : Hid (∃ l', h' = ⟨h.a, h.b, h.c, ⟨h.d.k, h.d.t, h.d.f, l', h.d.p⟩⟩ ∧ QL l' (Z3.setCells (w.heap.size + 1) 0 h'.v)) := by
  obtain ⟨l', e1, e2⟩ := hk.out
  exact ⟨l', e1, hQ _ _ _ e2 (Kx.setCells _ (Or.inl (Or.inr rfl)) _ _ _ (Kx.refl _ _))⟩
 clear hk
 generalize Z3.setCells (w.heap.size + 1) 0 h'.v = Wf at *
 refine hK9.out _ _ g4 (fun _ => ?_)
 clear hK9
 refine wpAnyH_done (by kernel_rfl) ?_ _
 try simp only [Act.put, List.getElem_toArray, List.getElem_cons_zero, List.getElem_cons_succ, List.setIfInBounds_toArray, List.set_cons_zero, List.set_cons_succ, List.length_cons]
 go_wp2
 exact bodyPost_ret (res_row row_Hook Tryz.results180 rfl g1 h'.len) rfl ⟨⟨h', rfl, hk2⟩, g2⟩
end Go.Proofs.YtdlnmnipnkeabaaGreatDoor
namespace Go.Proofs.YtdlnmnipnkeabaaGreatDoor
open Go.RowKit
set_option linter.unusedVariables false
set_option linter.unusedSimpArgs false
theorem Hid.mk' {p : Prop} (h : p) : Hid p := h
abbrev hkP (f : ByteArray) (l : Sl) : Hk := ⟨.no, .no, .no, ⟨3, ⟨#[]⟩, f, l, .no⟩⟩
set_option maxRecDepth 1000000 in
set_option maxHeartbeats 8000000 in
theorem get_q (h : Hk) (TB : Nat) {c : Nat} (w : World) (QH : Hk → World → Prop) (hQ : ∀ h' W W', QH h' W → Kx (fun k => k = w.heap.size) W W' → QH h' W') (hB : Blk w TB h.v)
  (hH0 : ∀ V, Below w.heap.size w V → w.heap.size < V.heap.size → Calls Tryz.prog 180 #[.agg h.v.toArray] V fun e w' => (∃ h' : Hk, e = .returned (.agg h'.v.toArray) ∧ Hid (QH h' w')) ∧ Below V.heap.size V w') :
  Calls Tryz.prog 140 #[.slice (some ⟨TB, 0, none⟩) 1 c, .int .i64 1] w fun e w' => (∃ h' : Hk, e = .returned (.tuple #[.agg h'.v.toArray, .bool true]) ∧ Hid (QH h' w')) ∧ Below w.heap.size w w' := by
 have hz : hk0.v.length = 48 := rfl
 have ha0 := fun w => zero_hk w
 have hoz := hk0.one
 have hlh := h.len
 obtain ⟨W1, hW1⟩ : ∃ W1, W1 = w.alloc (.cells hk0.v.toArray 34) := ⟨_, rfl⟩
 have b1 : Below w.heap.size w W1 := by rw [hW1]; exact (Below.refl _ _).alloc (Nat.le_refl _) _
 have k1 : Blk W1 w.heap.size hk0.v := by rw [hW1]; exact Blk.new w hk0.v 34
 have hs : w.heap.size < W1.heap.size := k1.b
 have hH := hH0 W1 b1 hs
 have rH := (hB.up b1).range
 generalize h.v = H at *
 generalize hk0.v = ZV at *
 clear hB hH0
 go_enter Tryz.func140, Tryz.ntmps140
 go_upto_region 1 with (refine wpl_allocz ha0 rfl rfl ?_)
 rw [← hW1]
 clear hW1
 go_upto_region 3 with fail
 go_wp2_with (first
  | (refine wpl_ld row_Hook rfl (.tmp 19) rfl rfl rH hlh ?_)
  | (go_at_call 180; refine hH.mono ?_; rintro e W2 ⟨⟨h', rfl, hq⟩, b2⟩; have k2 := k1.up b2; have l2 := h'.len; have o2 := h'.one; have f1 : Blk (W2.setCells w.heap.size 0 h'.v) w.heap.size h'.v := k2.all _ (by rw [l2, hz]); have f2 : Below w.heap.size w (W2.setCells w.heap.size 0 h'.v) := xbelow_sc (b1.trans (b2.mono b1.size)) (Nat.le_refl _) _ _; have hq2 : Hid (QH h' (W2.setCells w.heap.size 0 h'.v)) := hQ _ _ _ hq.out (Kx.setCells (P := fun k => k = w.heap.size) _ (Or.inl rfl) _ _ _ (Kx.refl _ _)); clear hq b2)
  | (refine wpl_st row_Hook rfl (.tmp 4) (.tmp 21) rfl (us := h'.v) rfl rfl k2 hz l2 o2 ?_; generalize W2.setCells w.heap.size 0 h'.v = Wf at *))
 exact bodyPost_ret (res_row2 row_Hook Tryz.results140 rfl rfl f1 l2) rfl ⟨⟨h', rfl, hq2⟩, f2⟩
abbrev oneE (hv : Value) : Array MapEntry := #[{ key := .int .i64 1, val := hv, born := 0 }]
theorem look_one (w : World) (M : Nat) (hv : Value) (hM : w.heap[M]? = some (.map (oneE hv) 1)) : (Instr.lookup 95 (.map (some M)) (.int .i64 1) true).run Tryz.prog w = .ok (.tuple #[hv, .bool true]) w := by
 have h1 := MapKept.run_findKey (P := Tryz.prog) (w := w) (kt := 3) (k := .int .i64 1) (l := [{ key := .int .i64 1, val := hv, born := 0 }]) (a := some (0, hv)) Tryz.underlying3 rfl
 have h2 := fun e n => MapKept.run_checkKey (P := Tryz.prog) (w := w) (kt := 3) (k := .int .i64 1) Tryz.underlying3 (by exact rfl) e n
 simp [Instr.lookup, run_underlying Tryz.underlying95, MapKept.run_getObj_map hM, h1, h2, Result.andThen]
theorem upd_first (w : World) (M : Nat) (hv : Value) (hM : w.heap[M]? = some (.map #[] 0)) : (Instr.mapUpdate 95 (.map (some M)) (.int .i64 1) hv).run Tryz.prog w = .ok () { w with heap := w.heap.setIfInBounds M (.map (oneE hv) 1) } := by
 have h1 := MapKept.run_findKey (P := Tryz.prog) (w := w) (kt := 3) (k := .int .i64 1) (l := []) (a := none) Tryz.underlying3 rfl
 have h2 := fun e n => MapKept.run_checkKey (P := Tryz.prog) (w := w) (kt := 3) (k := .int .i64 1) Tryz.underlying3 (by exact rfl) e n
 simp [Instr.mapUpdate, run_underlying Tryz.underlying95, MapKept.run_getObj_map hM, h1, h2, MapKept.run_setObj_map _ hM, Result.andThen]
end Go.Proofs.YtdlnmnipnkeabaaGreatDoor
namespace Go.Proofs.YtdlnmnipnkeabaaGreatDoor
open Go.RowKit Go.Conc
set_option linter.unusedVariables false
def CN (P : Program) (c : Code) (Q : Exit → Act → World → Prop) (a : Act) (w : World) : Prop :=
 ∀ (b : Frame) (k : List Item) (cs : List Frame), b.kind ≠ .early → ∃ e a' w', Q e a' w' ∧ Arrives P (lone (b.at a (.code c :: k)) cs w) b k cs e a' w'
theorem CN.of_wp {P : Program} {c : Code} {Q : Exit → Act → World → Prop} {a : Act} {w : World} (h : c.wp P Q a w) : CN P c Q a w := fun b k cs _ => h b k cs
theorem CN.seq {P : Program} {x y : Code} {Q : Exit → Act → World → Prop} {a : Act} {w : World} (h : CN P x (Exit.then (CN P y Q) Q) a w) : CN P (.seq x y) Q a w := by
 intro b k cs hb
 obtain ⟨e, a', w', hq, hr⟩ := h b (.code y :: k) cs hb
 have hs : Steps P (lone (b.at a (.code (.seq x y) :: k)) cs w) (lone (b.at a (.code x :: .code y :: k)) cs w) := .one step_seq
 cases e with
 | normal =>
   obtain ⟨e2, a2, w2, hq2, hr2⟩ := hq b k cs hb
   exact ⟨e2, a2, w2, hq2, .of_steps (hs.trans hr) hr2⟩
 | exit id => exact ⟨_, a', w', hq, .of_steps hs (Arrives.pass rfl (fun _ _ => .inl (by simp)) hr)⟩
 | goto l => exact (by
   refine ⟨.goto l, a', w', hq, fun k' hk => ?_⟩
   by_cases hg : gotoIn l (Item.code y :: k) = some k'
   ·exact hs.trans (hr k' hg)
   ·exact absurd (by simpa [gotoIn] using hk) hg)
 | ret => exact ⟨_, a', w', hq, .of_steps hs hr⟩
 | panic chain => exact ⟨_, a', w', hq, .of_steps hs hr⟩
 | outgrown => exact ⟨_, a', w', hq, .of_steps hs hr⟩
theorem calls_of_CN {P : Program} {f : FuncId} {fn : Func} {c : Code} {args : Array Value} {w : World} {R : Ending → World → Prop} (hf : P.funcs[f]? = some fn) (hb : fn.body = some c)
  (h : CN P c (bodyPost P fn R) { tmps := args ++ Array.replicate (fn.ntmps - args.size) undef, defers := [] } w) : Calls P f args w R := by
 intro cs
 obtain ⟨e, a', w', hq, harr⟩ := h { (default : Frame) with fn := f, kind := .normal } [] cs (by simp)
 have henter : Frame.enter P f args .normal = Frame.at { (default : Frame) with fn := f, kind := .normal } { tmps := args ++ Array.replicate (fn.ntmps - args.size) undef, defers := [] } [.code c] := by
  simp [Frame.enter, Frame.at, hf, hb]
 rw [← henter] at harr
 cases e with
 | normal =>
   obtain ⟨hd, v, hr, hR⟩ := hq
   exact ⟨.returned v, w', _, hR, Steps.trans harr (.one step_end), rfl, rfl, hd, rfl, fn, hf, hr⟩
 | ret =>
   obtain ⟨hd, v, hr, hR⟩ := hq
   obtain ⟨todo, hs⟩ := harr
   exact ⟨.returned v, w', _, hR, hs, rfl, rfl, hd, rfl, fn, hf, hr⟩
 | panic chain =>
   obtain ⟨hd, hR⟩ := hq
   obtain ⟨todo, hs⟩ := harr
   exact ⟨.panicked chain, w', _, hR, hs, rfl, rfl, hd, fn, hf⟩
 | exit id => exact hq.elim
 | goto l => exact hq.elim
 | outgrown => exact ⟨.outgrown, w', { (default : Frame) with fn := f, kind := .normal }, hq, harr.resolve_left (by simp), rfl, trivial⟩
theorem CN.region {P : Program} {id : Nat} {o : Oper} {rest : List Oper} {Q : Exit → Act → World → Prop} {a a1 : Act} {w w1 : World}
  (hstep : ∀ (b : Frame) (k : List Item) (cs : List Frame) (is : List Nat), b.kind ≠ .early →
   step P (lone (b.at a (.inRegion (o :: rest).toArray (0 :: is) :: k)) cs w) = .next (lone (b.at a1 (.inRegion (o :: rest).toArray is :: k)) cs w1))
  (h : wpList P (o :: rest).toArray Q rest a1 w1) : CN P (.region id (o :: rest).toArray false) Q a w := by
 intro b k cs hb
 have h' : wpOps P (o :: rest).toArray Q (List.range' 1 rest.length) a1 w1 := by
  rw [wpOps_eq_wpList rest 1 (fun j => by rw [Nat.add_comm]; simp)]
  exact h
 obtain ⟨e, a', w', hq, hr⟩ := wp_ops _ a1 w1 h' b k cs
 refine ⟨e, a', w', hq, .of_steps (.one step_region) ?_⟩
 have hrange : List.range (o :: rest).toArray.size = 0 :: List.range' 1 rest.length := by
  simp [List.range_eq_range', List.range'_succ]
 rw [hrange]
 exact .of_steps (.one (hstep b k cs _ hb)) hr
section
variable {P : Program} {id : Nat} {o : Oper} {rest : List Oper} {Q : Exit → Act → World → Prop} {a : Act} {w : World} {c cap s r : Nat} {buf : Array Value} {z v : Value}
theorem CN.recv_none (hgd : o.guard = none) (hr : (execOp a.eval o).run P w = .ok (.comm #[rcase c z] false .select) w) (hc : w.heap[c]? = some (.chan cap #[] false s r false))
  (h : wpList P (o :: rest).toArray Q rest (a.put o.dst (.tuple #[goInt (-1), .bool false, z])) w) : CN P (.region id (o :: rest).toArray false) Q a w := by
 refine CN.region (fun b k cs is hk => ?_) h
 have hs := step_lone_select_default (stepG_comm (P := P) (main := true) (b := b) (a := a) (k := k) (cs := cs) (w := w) (ops := (o :: rest).toArray) (i := 0) (rest := is) (o := o) rfl (by simp [Region.wanted, hgd]) hk hr) hc
 rw [Frame.finish_at] at hs
 exact hs
theorem CN.send_room (hgd : o.guard = none) (hr : (execOp a.eval o).run P w = .ok (.comm #[scase c v z] false .select) w) (hc : w.heap[c]? = some (.chan cap buf false s r false)) (hb : buf.size < cap)
  (h : wpList P (o :: rest).toArray Q rest (a.put o.dst (.tuple #[goInt 0, .bool false])) (w.setChan c cap (buf.push v) false (s + 1) r false)) : CN P (.region id (o :: rest).toArray false) Q a w := by
 refine CN.region (fun b k cs is hk => ?_) h
 have hs := step_lone_select_send_room (stepG_comm (P := P) (main := true) (b := b) (a := a) (k := k) (cs := cs) (w := w) (ops := (o :: rest).toArray) (i := 0) (rest := is) (o := o) rfl (by simp [Region.wanted, hgd]) hk hr) hc hb
 rw [Frame.finish_at] at hs
 exact hs
end
end Go.Proofs.YtdlnmnipnkeabaaGreatDoor
