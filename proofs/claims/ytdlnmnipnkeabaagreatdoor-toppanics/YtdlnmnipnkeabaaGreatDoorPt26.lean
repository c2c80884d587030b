/- JDeep, JDeepB: these texts in one. -/
import Derived.Test.YtdlnmnipnkeabaaGreatDoorJThr
import Derived.Test.YtdlnmnipnkeabaaGreatDoorPt25
namespace Go.Proofs.YtdlnmnipnkeabaaGreatDoor
open Go.RowKit
set_option linter.unusedVariables false
set_option linter.unusedSimpArgs false
structure JT (h : Hk) (b k C M : Nat) (one : Bool) (N : Nat) (W : World) : Prop where
 c0 : W.cell? ⟨C, 0, none⟩ = some (.slice (some ⟨b, 0, none⟩) 1 k)
 c1 : W.cell? ⟨C, 1, none⟩ = some (.map (some M))
 c2 : ∃ n : Nat, n ≤ N ∧ W.cell? ⟨C, 2, none⟩ = some (.int .i64 n)
 z : W.frozen? ⟨C, 2, none⟩ = false
 m : W.heap[M]? = some (.map (if one then oneE (.agg h.v.toArray) else #[]) (if one then 1 else 0))
 r : Blk W b h.v
 e : EK W
 d : C ≠ M ∧ b ≠ M ∧ b ≠ C ∧ 2 ≠ M ∧ 1 ≠ M ∧ 2 ≠ C ∧ 1 ≠ C
section
variable {h : Hk} {b k C M N : Nat} {one : Bool} {W W' : World}
theorem JT.kx {g : Nat} (hC : C < g) (hM : M < g) (hb : b < g) (hE : 2 < g) (hK : 1 < g) (j : JT h b k C M one N W) (x : Kx (fun k => g ≤ k) W W') : JT h b k C M one N W' := by
 obtain ⟨n, hn, c2⟩ := j.c2
 exact ⟨x.cell j.c0 (by dsimp only; omega), x.cell j.c1 (by dsimp only; omega), ⟨n, hn, x.cell c2 (by dsimp only; omega)⟩, (World.frozen?_of_block (w := W) (a := ⟨C, 2, none⟩) (x.block C (lt_of_cell j.c1) (by omega))).trans j.z, (x.block M (Array.getElem?_eq_some_iff.1 j.m).1 (by omega)).trans j.m, j.r.kx x (by omega), j.e.ky x (by omega) (by omega), j.d⟩
theorem JT.up (j : JT h b k C M one N W) (x : Below W.heap.size W W') : JT h b k C M one N W' := by
 obtain ⟨n, hn, c2⟩ := j.c2
 exact ⟨up_cell x j.c0, up_cell x j.c1, ⟨n, hn, up_cell x c2⟩, (World.frozen?_of_block (w := W) (a := ⟨C, 2, none⟩) (x.block C (lt_of_cell j.c1))).trans j.z, (x.block M (Array.getElem?_eq_some_iff.1 j.m).1).trans j.m, j.r.up x, j.e.up x, j.d⟩
theorem JT.lt (j : JT h b k C M one N W) : C < W.heap.size ∧ M < W.heap.size ∧ b < W.heap.size ∧ 2 < W.heap.size ∧ 1 < W.heap.size := ⟨lt_of_cell j.c1, (Array.getElem?_eq_some_iff.1 j.m).1, j.r.b, j.e.lt.1, j.e.lt.2⟩
theorem JT.mono {N' : Nat} (j : JT h b k C M one N W) (hN : N ≤ N') : JT h b k C M one N' W := by
 obtain ⟨n, hn, c2⟩ := j.c2
 exact ⟨j.c0, j.c1, ⟨n, Nat.le_trans hn hN, c2⟩, j.z, j.m, j.r, j.e, j.d⟩
theorem JT.more {n : Nat} (j : JT h b k C M one N W) (hn : n ≤ N) (c2 : W.cell? ⟨C, 2, none⟩ = some (.int .i64 n)) : JT h b k C M one (N + 1) (W.setCell ⟨C, 2, none⟩ (.int .i64 ((n : Int) + 1))) := by
 obtain ⟨d1, d2, d3, d4, d5, d6, d7⟩ := j.d
 have x : Kx (fun k => k = C) W (W.setCell ⟨C, 2, none⟩ (.int .i64 ((n : Int) + 1))) := (Kx.refl (fun k => k = C) _).setCell _ _ (Or.inl rfl) _
 exact ⟨(World.cell?_setCell_other W ⟨C, 2, none⟩ ⟨C, 0, none⟩ _ (by simp)).trans j.c0, (World.cell?_setCell_other W ⟨C, 2, none⟩ ⟨C, 1, none⟩ _ (by simp)).trans j.c1, ⟨n + 1, by omega, by rw [World.cell?_setCell_same W ⟨C, 2, none⟩ _ c2]; simp⟩, by rw [World.frozen?_setCell]; exact j.z, (x.block M (Array.getElem?_eq_some_iff.1 j.m).1 (fun e => d1 e.symm)).trans j.m, j.r.kx x d3, j.e.ky x d6 d7, j.d⟩
end
theorem look_0 (w : World) (M : Nat) (hv : Value) (one : Bool) (hM : w.heap[M]? = some (.map (if one then oneE hv else #[]) (if one then 1 else 0))) : (Instr.lookup 95 (.map (some M)) (.int .i64 0) true).run Tryz.prog w = .ok (.tuple #[.agg hk0.v.toArray, .bool false]) w := by
 cases one with
 | false => exact look_none w M 0 hM
 | true =>
   have hM2 : w.heap[M]? = some (.map (oneE hv) 1) := hM
   have h1 := MapKept.run_findKey (P := Tryz.prog) (w := w) (kt := 3) (k := .int .i64 0) (l := [{ key := .int .i64 1, val := hv, born := 0 }]) (a := none) Tryz.underlying3 rfl
   have h2 := fun e n => MapKept.run_checkKey (P := Tryz.prog) (w := w) (kt := 3) (k := .int .i64 0) Tryz.underlying3 (by exact rfl) e n
   simp [Instr.lookup, run_underlying Tryz.underlying95, MapKept.run_getObj_map hM2, h1, h2, zero_hk, Result.andThen]
   rfl
set_option maxRecDepth 1000000 in
set_option maxHeartbeats 4000000 in
theorem get_z (a : Option Addr) (m c : Nat) (w : World) : Calls Tryz.prog 140 #[.slice a m c, .int .i64 0] w fun e w' => e = .returned (.tuple #[.agg hk0.v.toArray, .bool false]) ∧ Below w.heap.size w w' := by
 have hz : hk0.v.length = 48 := rfl
 have hb0 := fun w => bld_hk0 w
 have ha0 := fun w => zero_hk w
 have hoz := hk0.one
 generalize hk0.v = ZV at *
 obtain ⟨W1, hW1⟩ : ∃ W1, W1 = w.alloc (.cells ZV.toArray 34) := ⟨_, rfl⟩
 have br : Blk W1 w.heap.size ZV := by rw [hW1]; exact Blk.new w ZV 34
 have w1 : Below w.heap.size w W1 := by rw [hW1]; exact (Below.refl _ _).alloc (Nat.le_refl _) _
 have f1 : Blk (W1.setCells w.heap.size 0 ZV) w.heap.size ZV := br.all _ rfl
 have f2 : Below w.heap.size w (W1.setCells w.heap.size 0 ZV) := xbelow_sc w1 (Nat.le_refl _) _ _
 go_enter Tryz.func140, Tryz.ntmps140
 go_upto_region 1 with (refine wpl_allocz ha0 rfl rfl ?_)
 rw [← hW1]
 clear hW1
 go_wp2_with (first
  | (refine wpl_bld rfl _ _ rfl [] rfl (hb0 _) ?_)
  | (refine wpl_st row_Hook rfl (.tmp 4) (.tmp 15) rfl (us := ZV) rfl rfl br hz hz hoz ?_; generalize W1.setCells w.heap.size 0 ZV = Wf at *))
 exact bodyPost_ret (res_row2 row_Hook Tryz.results140 rfl rfl f1 hz) rfl ⟨rfl, f2⟩
theorem ask_z {h : Hk} {b k C M N : Nat} {one : Bool} {g : Nat} {l : List UInt8} {dp : Int} {av : Value} {nx : Int} (v : Value) (k0 : Int) (ty : ByteArray) (f : Sq) (w : World) (hN : N ≤ 1000) (hp : IsPr w g l (prT C dp av nx)) (hJ : JT h b k C M one N w) (hm : MkC v k0 ty 0) :
  Calls Tryz.prog 86 #[.pointer (some ⟨g, 0, none⟩), v, SV f] w fun e w' => e = .returned (.tuple #[.string ⟨#[]⟩, .bool false]) ∧ Below w.heap.size w w' := by
 obtain ⟨n, hn, c2⟩ := hJ.c2
 refine ask_x (I := fun W => JT h b k C M one N W ∧ W.cell? ⟨C, 2, none⟩ = some (.int .i64 n)) (fun W W' j x => ⟨j.1.up x, up_cell x j.2⟩) g C l dp n av nx v k0 ty f w hp ⟨hJ, c2⟩ (fun _ j => j.2) (by omega) hm (fun W j => ?_)
 exact row_x 0 _ ⟨_, _, _, rfl⟩ _ C M W j.1.c0 j.1.c1 j.1.m (fun W2 h2 => look_0 W2 M _ one h2) (fun W2 _ => get_z _ _ _ W2)
theorem shown_z {h : Hk} {b k C M N : Nat} {one : Bool} {v x0 x1 x2 x3 x4 x7 : Value} {k0 : Nat} {st : TypeId} {sx : Value} (hF : Flat v x0 x1 x2 x3 x4 x7 k0 0 st sx) (ty : ByteArray) (hty : kindN[k0]? = some ty) (f : Sq) (hv : ¬ f.verb = 84) (T : ByteArray) {w : World} {g : Nat} {l : List UInt8} {dp : Int} {av : Value} {nx : Int} (hN : N ≤ 1000) (hp : IsPr w g l (prT C dp av nx)) (hJ : JT h b k C M one N w)
  (hSh : ∀ W, Esc W → Calls Tryz.prog 138 #[WV f (FA g), .iface st sx, .string ty, .int .i64 0] W fun e W' => e = .returned (.tuple #[.string T, .bool true]) ∧ Below W.heap.size W W') :
  Calls Tryz.prog 69 #[.pointer (some ⟨g, 0, none⟩), v, SV f] w fun e w' => e = .returned (.string T) ∧ Below w.heap.size w w' :=
 shown_of f hv v g T w fun W hW => written_by f (FA g) v 0 W ty T (fun t x V => t = st ∧ x = sx ∧ Below W.heap.size W V) (fun V hV => asked_no f _ g V fun V2 hV2 => ask_z _ k0 ⟨#[]⟩ f V2 hN (((hp.below hW).below hV).below hV2) (((hJ.up hW).up hV).up hV2) hF.mr)
  (fun V hV => (hF.sh V).mono fun e V' ⟨h1, h2⟩ => ⟨h2, _, _, h1, rfl, rfl, hV.trans (h2.mono hV.size)⟩) (fun V hV => type_own _ k0 0 V _ hty ((hJ.up hW).up hV).e.2 hF.mr) (fun t x W1 W2 ⟨h1, h2, b1⟩ b2 => by subst h1 h2; exact hSh W2 (((hJ.up hW).up b1).up b2).e.1)
set_option maxRecDepth 1000000 in
set_option maxHeartbeats 4000000 in
theorem lprint_J {C g : Nat} {lg : List UInt8} {dp : Int} (hd0 : 0 ≤ dp) (hd3 : dp ≤ 3) {av : Value} {nx : Int} (W : World) (hP : IsPr W g lg (prT C dp av nx)) {n : Nat} (hn : n ≤ 1000) (c2 : W.cell? ⟨C, 2, none⟩ = some (.int .i64 n)) (zC : W.frozen? ⟨C, 2, none⟩ = false) (hgC : g ≠ C) (f : ByteArray) (a : Option Addr) (m c : Nat) {T : ByteArray} {J' : World → Prop} {P : Nat → Prop} (hPg : ¬ P g)
  (hA : Calls Tryz.prog 44 #[.pointer (some ⟨C, 0, none⟩), .int .i64 (dp + 1), .string f, .slice a m c] (W.setCell ⟨C, 2, none⟩ (.int .i64 ((n : Int) + 1))).drew fun e W' => e = .returned (.string T) ∧ J' W' ∧ Kx P (W.setCell ⟨C, 2, none⟩ (.int .i64 ((n : Int) + 1))).drew W') :
  Calls Tryz.prog 116 #[.pointer (some ⟨g, 0, none⟩), .string f, .slice a m c] W fun e W' => e = .returned (.string T) ∧ J' W' ∧ Kx (fun k => k = C ∨ P k) W W' := by
 obtain ⟨W2, hW2⟩ : ∃ W2, W2 = W.setCell ⟨C, 2, none⟩ (.int .i64 ((n : Int) + 1)) := ⟨_, rfl⟩
 have k2 : Kx (fun k => k = C) W W2 := by rw [hW2]; exact (Kx.refl (fun k => k = C) _).setCell _ _ (Or.inl rfl) _
 have p2 := hP.kept k2 hgC
 have q0 : W.cell? ⟨g, 4097, none⟩ = some (.pointer (some ⟨C, 0, none⟩)) := hP.tl (i := 0) rfl
 have r0 : W2.cell? ⟨g, 4097, none⟩ = some (.pointer (some ⟨C, 0, none⟩)) := p2.tl (i := 0) rfl
 have r1 : W2.cell? ⟨g, 4098, none⟩ = some (.int .i64 dp) := p2.tl (i := 1) rfl
 have hnI : (n : Int) ≤ 1000 := by omega
 rw [← hW2] at hA
 clear hP p2
 go_enter Tryz.func116, Tryz.ntmps116
 go_upto_region 2 with fail
 rw [← hW2]
 clear hW2 q0 c2 zC
 obtain ⟨Yd, hYd⟩ : ∃ Yd, Yd = W2.drew := ⟨_, rfl⟩
 refine wp_region_held_drew (S := fun w' : World => w'.cell? ⟨g, 4097, none⟩ = some (.pointer (some ⟨C, 0, none⟩)) ∧ w'.cell? ⟨g, 4098, none⟩ = some (.int .i64 dp)) (by kernel_rfl) (by exact ⟨r0, r1⟩) ?_
 have sY : Yd.cell? ⟨g, 4097, none⟩ = some (.pointer (some ⟨C, 0, none⟩)) ∧ Yd.cell? ⟨g, 4098, none⟩ = some (.int .i64 dp) := by rw [hYd]; exact ⟨r0, r1⟩
 have kY : Kx (fun k => k = C) W Yd := k2.trans (by rw [hYd]; exact .of_below (Below.refl _ _).drew)
 rw [← hYd] at hA ⊢
 clear hYd r0 r1
 intro hS
 refine tk 0 (.pointer (some ⟨g, 0, none⟩)) rfl (by kernel_rfl) (fun _ _ _ h => h) (by rfl) (by assumption) ?_ ?_
 ·intro w5 s0
  obtain ⟨s1, s2⟩ := s0
  go_simp
 try simp only [Act.put, List.getElem_toArray, List.getElem_cons_zero, List.getElem_cons_succ, List.setIfInBounds_toArray, List.set_cons_zero, List.set_cons_succ, List.length_cons]
 refine tk 1 (.pointer (some ⟨g, 0, none⟩)) rfl (by kernel_rfl) (fun _ _ _ h => h) (by rfl) (by assumption) ?_ ?_
 ·intro w5 s0
  obtain ⟨s1, s2⟩ := s0
  go_simp
 try simp only [Act.put, List.getElem_toArray, List.getElem_cons_zero, List.getElem_cons_succ, List.setIfInBounds_toArray, List.set_cons_zero, List.set_cons_succ, List.length_cons]
 refine tk 2 (.pointer (some ⟨g, 4097, none⟩)) rfl (by kernel_rfl) (fun _ _ _ h => h) (by rfl) (by assumption) ?_ ?_
 ·intro w5 s0
  obtain ⟨s1, s2⟩ := s0
  go_simp
 try simp only [Act.put, List.getElem_toArray, List.getElem_cons_zero, List.getElem_cons_succ, List.setIfInBounds_toArray, List.set_cons_zero, List.set_cons_succ, List.length_cons]
 refine tk 3 (.pointer (some ⟨C, 0, none⟩)) rfl (by kernel_rfl) (fun _ _ _ h => h) (by rfl) (by assumption) ?_ ?_
 ·intro w5 s0
  obtain ⟨s1, s2⟩ := s0
  go_simp
 try simp only [Act.put, List.getElem_toArray, List.getElem_cons_zero, List.getElem_cons_succ, List.setIfInBounds_toArray, List.set_cons_zero, List.set_cons_succ, List.length_cons]
 refine tk 4 (.pointer (some ⟨g, 0, none⟩)) rfl (by kernel_rfl) (fun _ _ _ h => h) (by rfl) (by assumption) ?_ ?_
 ·intro w5 s0
  obtain ⟨s1, s2⟩ := s0
  go_simp
 try simp only [Act.put, List.getElem_toArray, List.getElem_cons_zero, List.getElem_cons_succ, List.setIfInBounds_toArray, List.set_cons_zero, List.set_cons_succ, List.length_cons]
 refine tk 5 (.pointer (some ⟨g, 0, none⟩)) rfl (by kernel_rfl) (fun _ _ _ h => h) (by rfl) (by assumption) ?_ ?_
 ·intro w5 s0
  obtain ⟨s1, s2⟩ := s0
  go_simp
 try simp only [Act.put, List.getElem_toArray, List.getElem_cons_zero, List.getElem_cons_succ, List.setIfInBounds_toArray, List.set_cons_zero, List.set_cons_succ, List.length_cons]
 refine tk 6 (.pointer (some ⟨g, 4098, none⟩)) rfl (by kernel_rfl) (fun _ _ _ h => h) (by rfl) (by assumption) ?_ ?_
 ·intro w5 s0
  obtain ⟨s1, s2⟩ := s0
  go_simp
 try simp only [Act.put, List.getElem_toArray, List.getElem_cons_zero, List.getElem_cons_succ, List.setIfInBounds_toArray, List.set_cons_zero, List.set_cons_succ, List.length_cons]
 refine tk 7 (.int .i64 dp) rfl (by kernel_rfl) (fun _ _ _ h => h) (by rfl) (by assumption) ?_ ?_
 ·intro w5 s0
  obtain ⟨s1, s2⟩ := s0
  go_simp
 try simp only [Act.put, List.getElem_toArray, List.getElem_cons_zero, List.getElem_cons_succ, List.setIfInBounds_toArray, List.set_cons_zero, List.set_cons_succ, List.length_cons]
 refine tk 8 (.int .i64 (dp + 1)) rfl (by kernel_rfl) (fun _ _ _ h => h) (by rfl) (by assumption) ?_ ?_
 ·intro w5 s0
  obtain ⟨s1, s2⟩ := s0
  go_simp
  exact wrapD _ (by omega) (by omega)
 try simp only [Act.put, List.getElem_toArray, List.getElem_cons_zero, List.getElem_cons_succ, List.setIfInBounds_toArray, List.set_cons_zero, List.set_cons_succ, List.length_cons]
 refine tk 9 (.string f) rfl (by kernel_rfl) (fun _ _ _ h => h) (by rfl) (by assumption) ?_ ?_
 ·intro w5 s0
  obtain ⟨s1, s2⟩ := s0
  go_simp
 try simp only [Act.put, List.getElem_toArray, List.getElem_cons_zero, List.getElem_cons_succ, List.setIfInBounds_toArray, List.set_cons_zero, List.set_cons_succ, List.length_cons]
 refine tk 10 (.slice a m c) rfl (by kernel_rfl) (fun _ _ _ h => h) (by rfl) (by assumption) ?_ ?_
 ·intro w5 s0
  obtain ⟨s1, s2⟩ := s0
  go_simp
 try simp only [Act.put, List.getElem_toArray, List.getElem_cons_zero, List.getElem_cons_succ, List.setIfInBounds_toArray, List.set_cons_zero, List.set_cons_succ, List.length_cons]
 refine rd1 11 (by kernel_rfl) rfl fun K hK => ?_
 go_simp
 refine hA.mono ?_
 rintro e Z ⟨rfl, cZ, xZ⟩
 refine hK.out _ _ ⟨xZ.cell sY.1 hPg, xZ.cell sY.2 hPg⟩ (fun _ => ?_)
 clear hK hA
 try simp only [Act.put, List.getElem_toArray, List.getElem_cons_zero, List.getElem_cons_succ, List.setIfInBounds_toArray, List.set_cons_zero, List.set_cons_succ, List.length_cons]
 refine tk 12 (.string T) rfl (by kernel_rfl) (fun _ _ _ h => h) (by rfl) (by assumption) ?_ ?_
 ·intro w5 s0
  obtain ⟨s1, s2⟩ := s0
  go_simp
 try simp only [Act.put, List.getElem_toArray, List.getElem_cons_zero, List.getElem_cons_succ, List.setIfInBounds_toArray, List.set_cons_zero, List.set_cons_succ, List.length_cons]
 refine wpAnyH_done (by kernel_rfl) ?_ _
 go_wp2
 go_ret
 exact ⟨rfl, cZ, (kY.mono fun _ _ h => Or.inl h).trans (xZ.mono fun _ _ h => Or.inr h)⟩
theorem bsl_D (d : Ds) (w : World) : (Instr.buildSlice 25 1 #[(0, .agg d.v.toArray)]).run Tryz.prog w = .ok (.slice (some ⟨w.heap.size, 0, none⟩) 1 1) (w.alloc (.cells d.v.toArray 29)) := by
 obtain ⟨a0, a1, a2, a3, a4, ⟨na, nn, nc⟩, ⟨pa, pn, pc⟩, a7⟩ := d
 kernel_rfl
theorem wpl_bsD {t e : TypeId} {vs : List Value} (hr : ∀ w, (Instr.buildSlice t 1 #[(0, .agg vs.toArray)]).run Tryz.prog w = .ok (.slice (some ⟨w.heap.size, 0, none⟩) 1 1) (w.alloc (.cells vs.toArray e))) {ops : Array Oper} {rest : List Oper} {o : Oper} {a : Act} {w : World} {Q : Exit → Act → World → Prop} (hg : o.guard = none) (p : Operand) (ho : o.op = .buildSlice t 1 #[(0, p)]) (hx : a.eval p = .agg vs.toArray)
  (h : wpList Tryz.prog ops Q rest (a.put o.dst (.slice (some ⟨w.heap.size, 0, none⟩) 1 1)) (w.alloc (.cells vs.toArray e))) : wpList Tryz.prog ops Q (o :: rest) a w := by
 refine wpList_plain hg fun K hK => ?_
 unfold Oper.wp execOp
 simp only [ho, List.map_toArray, List.map_cons, List.map_nil, hx, Sem.run_bind, Sem.run_pure, hr, Result.andThen_ok]
 exact hK _ _ h
set_option maxRecDepth 1000000 in
set_option maxHeartbeats 4000000 in
theorem lshow_J {g : Nat} (d : Ds) {T : ByteArray} {J' : World → Prop} {P : Nat → Prop} (W : World) (hL : ∀ V, Below W.heap.size W V → ∀ D, W.heap.size ≤ D → Blk V D d.v → Calls Tryz.prog 116 #[.pointer (some ⟨g, 0, none⟩), .string ⟨#[37, 118]⟩, .slice (some ⟨D, 0, none⟩) 1 1] V fun e W' => e = .returned (.string T) ∧ J' W' ∧ Kx P V W') :
  Calls Tryz.prog 117 #[.pointer (some ⟨g, 0, none⟩), .agg d.v.toArray] W fun e W' => e = .returned (.string T) ∧ J' W' ∧ Kx P W W' := by
 obtain ⟨W1, hW1⟩ : ∃ W1, W1 = W.alloc (.cells d.v.toArray 29) := ⟨_, rfl⟩
 have b1 : Below W.heap.size W W1 := by rw [hW1]; exact (Below.refl _ _).alloc (Nat.le_refl _) _
 have k1 : Blk W1 W.heap.size d.v := by rw [hW1]; exact Blk.new W d.v 29
 obtain ⟨W2, hW2⟩ : ∃ W2, W2 = W1.alloc (.cells d.v.toArray 29) := ⟨_, rfl⟩
 have b2 : Below W1.heap.size W1 W2 := by rw [hW2]; exact (Below.refl _ _).alloc (Nat.le_refl _) _
 have k2 : Blk W2 W1.heap.size d.v := by rw [hW2]; exact Blk.new W1 d.v 29
 have b12 : Below W.heap.size W W2 := b1.trans (b2.mono b1.size)
 have hC := hL W2 b12 W1.heap.size b1.size k2
 have hbs := fun w => bsl_D d w
 have hl := d.len
 clear hL k2
 generalize d.v = D at *
 go_enter Tryz.func117, Tryz.ntmps117
 go_upto_region 1 with fail
 rw [← hW1]
 clear hW1
 go_wp2_with (first
  | (refine wpl_ld row_Desc rfl (.tmp 3) rfl (vs := D) rfl k1.range hl ?_)
  | (refine wpl_bsD hbs rfl _ rfl rfl ?_)
  | (go_at_call 116; rw [← hW2]; refine hC.mono ?_; rintro e W3 ⟨rfl, j3, x3⟩))
 go_ret
 exact ⟨rfl, j3, (Kx.of_below b12).trans x3⟩
structure ThH (h : Hk) : Prop where
 pl : PlH h
 k : h.d.k = 2
 d : h.d.p = dH
 a : thB h.a = false
 c : thB h.c = false
def AtT (h : Hk) (b k C M : Nat) (r : Nat) (T : ByteArray) : Prop := ∀ (W : World) (N D : Nat), JT h b k C M true N W → N + r ≤ 1000 → Blk W D dH.v →
 Calls Tryz.prog 44 #[.pointer (some ⟨C, 0, none⟩), .int .i64 (4 - (r : Int)), .string ⟨#[37, 118]⟩, .slice (some ⟨D, 0, none⟩) 1 1] W fun e W' => e = .returned (.string T) ∧ JT h b k C M true (N + r) W' ∧ Kx (fun k => k = C) W W'
theorem show_T1 {h : Hk} {b k C M r : Nat} (hr : r ≤ 3) {T : ByteArray} (hAt : AtT h b k C M r T) {N : Nat} (hN : N + 1 + r ≤ 1000) {g : Nat} {l : List UInt8} {dp : Int} (hdp : dp = 3 - (r : Int)) {av : Value} {nx : Int} (R : Nat) (hgC : g ≠ C) :
  ShQ (fun W => JT h b k C M true N W ∧ IsPr W g l (prT C dp av nx)) (fun W => JT h b k C M true (N + 1 + r) W) (fun k => k = C) R g dH T := fun W _ ⟨hJ, hP⟩ => by
 refine (lshow_J dH (J' := fun W => JT h b k C M true (N + 1 + r) W) (P := fun k => k = C ∨ k = C) W (fun V bV D hD kD => ?_)).mono fun e W' ⟨h1, h2, h3⟩ => ⟨h1, h2, h3.mono fun _ _ h => h.elim id id⟩
 have jV := hJ.up bV
 obtain ⟨n, hn, c2⟩ := jV.c2
 have hDC : C ≠ D := by have := hJ.lt.1; omega
 refine lprint_J (by omega) (by omega) V (hP.below bV) (by omega) c2 jV.z hgC _ _ _ _ (J' := fun W => JT h b k C M true (N + 1 + r) W) (P := fun k => k = C) hgC ?_
 have jM := (jV.more hn c2).up (Below.refl _ _).drew
 have := hAt _ (N + 1) D jM hN ((kD.other hDC _).up (Below.refl _ _).drew)
 rw [show (4 - (r : Int)) = dp + 1 by omega] at this
 exact this
end Go.Proofs.YtdlnmnipnkeabaaGreatDoor
namespace Go.Proofs.YtdlnmnipnkeabaaGreatDoor
open Go.RowKit
set_option linter.unusedVariables false
set_option linter.unusedSimpArgs false
abbrev mS4 : ByteArray := mT 4
theorem th_which {h : Hk} (hh : ThH h) {f : Sq} (hnm : hnmB f.verb = true) (hsh : f.sh = false) : whN h f.verb f.sh = 4 := by
 unfold whN fst34
 have hd : thB h.d = true := by unfold thB; rw [hh.k]; rfl
 rw [if_neg (by rw [hh.a]; decide), if_neg (by rw [hsh]; simp), if_pos hnm, if_neg (by rw [hh.c]; decide), if_pos hd]
theorem ask_T {h : Hk} (hh : ThH h) {b k C M r : Nat} (hr : r ≤ 3) {T : ByteArray} (hz : T.size ≤ 9000) (hAt : AtT h b k C M r T) {one : Bool} {N : Nat} (hN : N + 1 + r ≤ 1000) {g : Nat} {l : List UInt8} {dp : Int} (hdp : dp = 3 - (r : Int)) {av : Value} {nx : Int} {f : Sq} (hnm : hnmB f.verb = true) (hsh : f.sh = false) (w : World) (hJ : JT h b k C M one N w) (hP : IsPr w g l (prT C dp av nx)) (hC : C < g) (hM : M < g) :
  Calls Tryz.prog 86 #[.pointer (some ⟨g, 0, none⟩), VI 1 0, SV f] w fun e w' => e = .returned (.tuple #[.string (pnJ f.verb mS4 T), .bool true]) ∧ JT h b k C M true (N + 1 + r) w' ∧ Kx (fun q => q = C ∨ (one = false ∧ q = M)) w w' := by
 obtain ⟨n, hn, c2⟩ := hJ.c2
 obtain ⟨lC, lM, lb, lE, lK⟩ := hJ.lt
 obtain ⟨d1, d2, d3, d4, d5, d6, d7⟩ := hJ.d
 have hgl := hP.lt
 have hwh := th_which hh hnm hsh
 have hT : Tn (fun W => JT h b k C M true N W ∧ IsPr W g l (prT C dp av nx)) (fun W => JT h b k C M true (N + 1 + r) W) (fun k => k = C) w.heap.size :=
  ⟨fun W W' j x => ⟨j.1.up x, j.2.below x⟩, fun W W' j x => j.kx lC lM lb lE lK x, fun q hq => by rw [hq]; exact lC⟩
 refine (ask_g f (VI 1 0) 6 ⟨#[]⟩ (mk_I 1 0) false true (fun W => nilp_I 1 0 W) g C l dp av nx w hP n (by omega) c2 (T := pnJ f.verb mS4 T) (B := fun W => JT h b k C M true (N + 1 + r) W) (P := fun k => k = C) (PM := fun q => one = false ∧ q = M) (fun h' lo hi W => h' = h ∧ JT h b k C M true N W ∧ IsPr W g l (prT C dp av nx))
  (fun q hq => ⟨by rw [hq.2]; exact lM, by rw [hq.2]; omega⟩) (fun q hq => ⟨by rw [hq]; exact lC, by rw [hq]; omega⟩) (fun V hV => ?_) (fun h' lo hi W W' h1 h2 ⟨e1, e2, e3⟩ x => ⟨e1, ?_, e3.kept x (by omega)⟩) (fun h' lo hi W ⟨e1, e2, e3⟩ h1 h2 h3 => ?_)).mono ?_
 ·have jV := hJ.up hV
  have pV := hP.below hV
  have hVs := hV.size
  cases one with
  | false =>
    refine (row_miss C M _ ⟨_, _, _, rfl⟩ V (fun h' lo hi W => h' = h) (fun h' lo hi W W' e x => e) jV.c0 jV.c1 jV.m d1 (fun V' hV' => (get_pl h hh.pl b k V' (jV.r.up hV')).mono ?_)).mono ?_
    ·rintro e w' ⟨⟨h', h1, h2⟩, h3⟩
     exact ⟨⟨h', h1, h2⟩, h3⟩
    ·rintro e w' ⟨h', h1, h2, h3, h4⟩
     obtain ⟨lo, hi, a1, a2, a3, a4⟩ := h2.out
     subst a4
     obtain ⟨n', hn', c2'⟩ := jV.c2
     exact ⟨h', h1, Hid.mk' ⟨rfl, ⟨h4.cell jV.c0 (by dsimp only; omega), h4.cell jV.c1 (by dsimp only; omega), ⟨n', hn', h4.cell c2' (by dsimp only; omega)⟩, (World.frozen?_of_block (w := V) (a := ⟨C, 2, none⟩) (h4.block C (lt_of_cell jV.c1) (by omega))).trans jV.z, h3, jV.r.kx h4 (by omega), jV.e.ky h4 (by omega) (by omega), jV.d⟩, pV.kept h4 (by omega)⟩, h4.mono fun _ _ hq => ⟨rfl, hq⟩⟩
  | true =>
    refine (row_hit C M h V jV.c1 jV.m).mono ?_
    rintro e w' ⟨h1, h2⟩
    exact ⟨h, h1, Hid.mk' ⟨rfl, jV.up h2, pV.below h2⟩, .of_below h2⟩
 ·obtain ⟨n', hn', c2'⟩ := e2.c2
  exact ⟨x.cell e2.c0 (by dsimp only; omega), x.cell e2.c1 (by dsimp only; omega), ⟨n', hn', x.cell c2' (by dsimp only; omega)⟩, (World.frozen?_of_block (w := W) (a := ⟨C, 2, none⟩) (x.block C (lt_of_cell e2.c1) (by omega))).trans e2.z, (x.block M (Array.getElem?_eq_some_iff.1 e2.m).1 (by omega)).trans e2.m, e2.r.kx x (by omega), e2.e.ky x (by omega) (by omega), e2.d⟩
 ·subst e1
  have hQ := show_T1 (h := h') (b := b) (k := k) (C := C) (M := M) hr hAt hN (g := g) (l := l) hdp (av := av) (nx := nx) w.heap.size (by omega)
  rw [← hh.d] at hQ
  exact sayF_4 hT (x := h'.d) rfl hwh (do_thrJ hT g h'.d hh.k hh.pl.d.n hh.pl.d.p hz (Nat.le_trans (mT_size 4) (by decide)) hQ) W (Nat.le_trans h1 (Nat.le_trans h2 h3)) ⟨e2, e3⟩
 ·rintro e w' ⟨h1, h2, h3⟩
  exact ⟨h1, h2, h3.mono fun q _ hq => hq.elim Or.inr Or.inl⟩
theorem shown_T {h : Hk} (hh : ThH h) {b k C M r : Nat} (hr : r ≤ 3) {T : ByteArray} (hz : T.size ≤ 9000) (hAt : AtT h b k C M r T) {one : Bool} {N : Nat} (hN : N + 1 + r ≤ 1000) {g : Nat} {l : List UInt8} {dp : Int} (hdp : dp = 3 - (r : Int)) {av : Value} {nx : Int} {f : Sq} (hnm : hnmB f.verb = true) (hsh : f.sh = false) (w : World) (hJ : JT h b k C M one N w) (hP : IsPr w g l (prT C dp av nx)) (hC : C < g) (hM : M < g) :
  Calls Tryz.prog 69 #[.pointer (some ⟨g, 0, none⟩), VI 1 0, SV f] w fun e w' => e = .returned (.string (pnJ f.verb mS4 T)) ∧ JT h b k C M true (N + 1 + r) w' ∧ Kx (fun q => q = C ∨ (one = false ∧ q = M)) w w' := by
 have hv : ¬ f.verb = 84 := fun e => by rw [e] at hnm; exact absurd hnm (by decide)
 refine shown_q f hv (VI 1 0) g _ w fun V hV => written_q f (FA g) (VI 1 0) 0 V _ (fun V2 hV2 => ?_) (fun V2 hV2 => (shape_I 1 0 V2 (by decide) (by decide)).mono fun e V' ⟨h1, h2⟩ => ⟨⟨_, _, h1⟩, h2⟩)
 have j2 := (hJ.up hV).up hV2
 have l2 := j2.lt
 exact asked_g f (VI 1 0) g _ V2 (fun q hq => by rcases hq with rfl | ⟨-, rfl⟩ <;> omega) (fun _ _ j x => j.kx l2.1 l2.2.1 l2.2.2.1 l2.2.2.2.1 l2.2.2.2.2 x) (fun V3 hV3 => ask_T hh hr hz hAt hN hdp hnm hsh V3 (j2.up hV3) (((hP.below hV).below hV2).below hV3) hC hM)
theorem atT_0 (h : Hk) (b k C M : Nat) : AtT h b k C M 0 ⟨#[37, 33, 40, 68, 69, 80, 84, 72, 41]⟩ := fun W N D hJ _ _ => by
 refine (depth_lat C 4 (by decide) _ _ W).mono ?_
 rintro e W' ⟨h1, h2⟩
 exact ⟨h1, hJ.up h2, .of_below h2⟩
theorem pnJ_size (v : Int) (T : ByteArray) : (pnJ v mS4 T).size ≤ T.size + 40 := by
 have h1 : (pnJ v mS4 T).size = (vB v).length + ([80, 65, 78, 73, 67, 61] ++ mS4.data.toList ++ [32, 109, 101, 116, 104, 111, 100, 58, 32] ++ T.data.toList).length + 4 := bT_size _ _
 have h2 := vB_size v
 have h3 := list_len (Utf8.encode v)
 have h4 := list_len T
 have h5 : (vB v).length = (Utf8.encode v).data.toList.length := rfl
 have h6 : mS4.data.toList.length = 6 := rfl
 rw [h1, h5]
 simp only [List.length_append, List.length_cons, List.length_nil, h6]
 omega
theorem txtJ {T : ByteArray} (h : T.size ≤ 4096) : txt T.data.toList = T := by
 rw [txt_short (by rw [list_len]; exact h)]
theorem atT_succ {h : Hk} (hh : ThH h) {b k C M r : Nat} (hr : r ≤ 3) {T : ByteArray} (hz : T.size ≤ 2000) (hAt : AtT h b k C M r T) : AtT h b k C M (r + 1) (pnJ 118 mS4 T) := fun W N D hJ hN hD => by
 have hzs := pnJ_size 118 T
 have hzl : (pnJ 118 mS4 T).data.toList.length ≤ 4096 := by rw [list_len]; omega
 have lJ := hJ.lt
 have hat := at_J ⟨#[37, 118]⟩ (.slice (some ⟨D, 0, none⟩) 1 1) [VI 1 0] (pnJ 118 mS4 T).data.toList C (3 - (r : Int)) (by omega) (by omega) (J' := fun W => JT h b k C M true (N + 1 + r) W) (P := fun q => q = C) W (by omega) (fun _ _ j x => j.up x) (beg_H C (3 - (r : Int)) D 1 W hD.range hD.b (Nat.le_refl _) (by unfold maxLen; omega)) (fun g V hg bV hR => ?_)
 ·rw [txtJ (by omega)] at hat
  rw [show (4 - ((r + 1 : Nat) : Int)) = 3 - (r : Int) by omega, show N + (r + 1) = N + 1 + r by omega]
  exact hat
 ·obtain ⟨ao, cc, hp, hc1, hc2, ha⟩ := hR
  have hE : EnJ (fun W => JT h b k C M true N W) V g C [] (3 - (r : Int)) (.slice ao [VI 1 0].length cc) [VI 1 0] 1 := ⟨hp, hJ.up bV, fun w w' j x => j.kx (g := g) (by omega) (by omega) (by omega) (by omega) (by omega) x, by omega, ao, cc, rfl, hc1, hc2, ha⟩
  refine (format_J ⟨#[37, 118]⟩ (by decide) [pV] rfl (by
   intro p hp
   simp only [List.mem_cons, List.not_mem_nil, or_false] at hp
   subst hp
   exact ⟨rfl, rfl, rfl⟩) (pnJ 118 mS4 T).data.toList [] (J' := fun W => JT h b k C M true (N + 1 + r) W) (P := fun q => q = g ∨ q = C) (Or.inl rfl) (fun q hq => by omega) hE (nx' := 2) ⟨(pnJ 118 mS4 T).data.toList, [], 2, fun W => JT h b k C M true (N + 1 + r) W, dirJ_pc (Or.inl rfl) (fun q hq => by omega) _ _ (pnJ 118 mS4 T) _ _ (fun V2 l2 E2 => ?_), ⟨rfl, rfl, rfl⟩, by simp⟩ (Or.inl (by show 1 ≤ 1; decide)) (by omega) (fun V2 E2 => extra_J E2 (by decide))).mono ?_
  ·refine (shown_T hh hr (by omega) hAt (by omega) rfl (f := bareQ 118) (by decide) rfl V2 E2.j E2.p (by omega) (by omega)).mono ?_
   rintro e w' ⟨h1, h2, h3⟩
   have h4 : Kx (fun q => q = C) V2 w' := h3.mono fun _ _ hq => hq.elim id fun hq => by cases hq.1
   exact ⟨h1, E2.turn h4 (fun q hq => by omega) h2 (fun _ _ j x => j.kx (g := g) (by omega) (by omega) (by omega) (by omega) (by omega) x), h4.mono fun _ _ hq => Or.inr hq⟩
  ·rintro e w' ⟨h1, h2, h3⟩
   rw [List.append_nil] at h2
   exact ⟨h1, ⟨_, h2.p⟩, h2.j, h3⟩
def thT : Nat → ByteArray
 | 0 => ⟨#[37, 33, 40, 68, 69, 80, 84, 72, 41]⟩
 | r + 1 => pnJ 118 mS4 (thT r)
theorem thT_size : ∀ r, (thT r).size ≤ 9 + 40 * r
 | 0 => Nat.le_refl _
 | r + 1 => by
   have := pnJ_size 118 (thT r)
   have := thT_size r
   show (pnJ 118 mS4 (thT r)).size ≤ _
   omega
theorem atT_all {h : Hk} (hh : ThH h) (b k C M : Nat) : ∀ r, r ≤ 4 → AtT h b k C M r (thT r)
 | 0, _ => atT_0 h b k C M
 | r + 1, hr => atT_succ hh (by omega) (by have := thT_size r; omega) (atT_all hh b k C M r (by omega))
end Go.Proofs.YtdlnmnipnkeabaaGreatDoor
