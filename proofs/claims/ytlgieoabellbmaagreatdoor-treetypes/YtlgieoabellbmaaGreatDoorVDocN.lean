/- The document's In, at the kinds with parts. -/
import Derived.Test.YtlgieoabellbmaaGreatDoorVDocO
namespace Go.Proofs.YtlgieoabellbmaaGreatDoor
open Go.RowKit
set_option linter.unusedVariables false
set_option linter.unusedSimpArgs false
theorem run_append_noneW {P : Program} {w : World} (t ty e : TypeId) (i : TypeInfo) (ht : P.underlying t = some (.slice e)) (hi : P.info? e = some i) (g c : Nat) :
  (Builtin.append_ #[t, t] ty #[.slice (some ⟨g, 0, none⟩) 0 0, .slice none 0 c]).run P w = .ok (.slice (some ⟨g, 0, none⟩) 0 0) w := by
 simp [Builtin.append_, run_underlying ht, sizeOf, typeInfo, hi, Builtin.lenOf, Builtin.firstCells, loadCells, loadCellsFrom, storeCells]
theorem wpl_appNames2 {ops : Array Oper} {rest : List Oper} {o : Oper} {a : Act} {w W0 : World} {Q : Exit → Act → World → Prop} (hgd : o.guard = none) (s x : Operand)
  (ho : o.op = .call { callee := .builtin .append, args := #[s, x], argTypes := #[23, 23] }) (names : List ByteArray) (na : Option Addr) (nc : Nat) {S : Nat → Prop} (hn : StrsS S W0 na names) (hl : names.length ≤ 1000)
  (hw : w = W0.alloc (.cells #[] 9)) (hs : a.eval s = .slice (some ⟨W0.heap.size, 0, none⟩) 0 0) (hx : a.eval x = .slice na names.length nc)
  (hk : ∀ nv' w', (∃ ao c, nv' = .slice ao names.length c) → Nm w' (fun b => W0.heap.size ≤ b) nv' names → Below W0.heap.size W0 w' → wpList Tryz.prog ops Q rest (a.put o.dst nv') w') : wpList Tryz.prog ops Q (o :: rest) a w := by
 obtain ⟨i0, hi, hz0, hz1, hz2⟩ := info_str
 subst hw
 have b0 : Below W0.heap.size W0 (W0.alloc (.cells #[] 9)) := (Below.refl _ _).alloc (Nat.le_refl _) _
 have hown : (W0.alloc (.cells #[] 9)).ownsRow W0.heap.size 9 1 (.slice (some ⟨W0.heap.size, 0, none⟩) 0 0) 0 [] := World.ownsRow_lit W0 #[] 0 (Nat.le_refl _) (Nat.zero_le _) rfl
 cases na with
 | none =>
   have he : names = [] := by
    cases names with
    | nil => rfl
    | cons s t =>
      obtain ⟨b, off, e, -⟩ := hn 0 s rfl
      cases e
   subst he
   refine wpList_plain hgd fun K hK => ?_
   have hr := run_append_noneW (P := Tryz.prog) (w := W0.alloc (.cells #[] 9)) 23 o.type 9 i0 Tryz.underlying23 hi W0.heap.size nc
   unfold Oper.wp execOp
   simp only [ho, resolve, invoke, builtin, Sem.run_bind, Sem.run_pure, Result.andThen_ok, List.map_toArray, List.map_cons, List.map_nil, hs, hx, List.length_nil, hr]
   exact hK _ _ (hk _ _ ⟨_, 0, rfl⟩ ⟨_, 0, rfl, Nat.le_refl _, Nat.zero_le _, fun i s h => by simp at h⟩ b0)
 | some ad =>
   refine wpList_append_own_at _ hgd s x 23 ho W0.heap.size 9 i0 _ 1 16 Tryz.underlying23 hi hz0 hz1 hz2 rfl (by decide) _ 0 [] hs hown ad names.length nc (names.map Value.string) hx (by simp) ?_ ?_ ?_ ?_ (by simp) ?_
   ·intro j u hj
    rw [List.getElem?_map, Option.map_eq_some_iff] at hj
    obtain ⟨s, hs, rfl⟩ := hj
    obtain ⟨b, off, e, -, hc⟩ := hn j s hs
    obtain rfl := Option.some.inj e
    rw [Addr.add_mid]
    exact up_cell b0 hc
   ·intro u hu
    obtain ⟨s, -, rfl⟩ := List.mem_map.1 hu
    rfl
   ·unfold maxLen; omega
   ·omega
   ·intro v' w' ho' hg' _ _
    rw [List.nil_append, Nat.zero_add] at ho'
    obtain ⟨a', c', rfl, k1, k2, k3⟩ := own_strs ho' rfl
    refine hk _ _ ⟨a', c', rfl⟩ ⟨a', c', rfl, k1, k2, k3⟩ ?_
    exact b0.grown hg' (by simp) (fun k hk => by have : W0.heap.size = k := Option.some.inj hk; omega)
abbrev InR (n : Nat) (x : D) : Prop := ∀ (V : World) (nv pv : Value), RdC n V nv pv x → Calls Tryz.prog 35 #[DV x nv pv] V fun e W' => Below V.heap.size V W' ∧ ∃ nv' pv', e = .returned (DV (inF x) nv' pv') ∧ RdS n (fun b => V.heap.size ≤ b) W' nv' pv' (inF x)
theorem Strs.S {W : World} {a : Option Addr} {n c : Nat} {l : List ByteArray} (h : Strs W (.slice a n c) l) : StrsS (fun _ => True) W a l := by
 obtain ⟨a', c', e, -, -, hc⟩ := h
 obtain ⟨rfl, -, -⟩ := Value.slice.inj e
 intro i s hs
 obtain ⟨-, b, off, e1, e2⟩ := hc i s hs
 exact ⟨b, off, e1, trivial, e2⟩
set_option maxRecDepth 1000000 in
set_option maxHeartbeats 4000000 in
theorem oing_18 (n : Nat) (ty : ByteArray) (bits imag : Int) (text : ByteArray) (names : List ByteArray) (parts : List D) (hook : Int) (na pa0 : Option Addr) (nc pc0 : Nat) (w : World) (hl : parts.length ≤ 1000) (hna : StrsS (fun _ => True) w na names) (hnl : names.length ≤ 1000) (ih : ∀ x ∈ parts, InR n x)
  (hcell : ∀ (i : Nat) (x : D), parts[i]? = some x → ∃ b off nv' pv', pa0 = some ⟨b, off, none⟩ ∧ At8 w b (off + i * 8) x nv' pv' ∧ RdC n w nv' pv' x) :
  Calls Tryz.prog 35 #[.agg #[.int .i64 18, .string ty, .int .u64 bits, .int .u64 imag, .string text, .slice na names.length nc, .slice pa0 parts.length pc0, .int .i64 hook]] w fun e w' => Below w.heap.size w w' ∧ ∃ nv pv, e = .returned (.agg #[.int .i64 18, .string ty, .int .u64 0, .int .u64 0, .string ⟨#[]⟩, nv, pv, .int .i64 hook]) ∧ Nm w' (fun b => w.heap.size ≤ b) nv names ∧ Pt n (fun b => w.heap.size ≤ b) w' pv (parts.map inF) := by
 have hwh : ∀ W, Calls Tryz.prog 66 #[.int .i64 18] W fun e w' => e = .returned (.bool false) ∧ w' = W := fun W => owhole_any 18 W
 have hgr : ∀ W, Calls Tryz.prog 68 #[.int .i64 18] W fun e w' => e = .returned (.bool true) ∧ w' = W := fun W => ogreat_any 18 W
 obtain ⟨W5, hW5⟩ : ∃ W5, W5 = ((w.alloc (.cells #[.int .i64 18, .string ty, .int .u64 bits, .int .u64 imag, .string text, .slice na names.length nc, .slice pa0 parts.length pc0, .int .i64 hook] 26)).alloc (.cells #[.int .i64 0, .string ⟨#[]⟩, .int .u64 0, .int .u64 0, .string ⟨#[]⟩, .slice none 0 0, .slice none 0 0, .int .i64 0] 26)).alloc (.cells #[.int .i64 18, .string ty, .int .u64 0, .int .u64 0, .string ⟨#[]⟩, .slice none 0 0, .slice none 0 0, .int .i64 hook] 26) := ⟨_, rfl⟩
 have b5 : Below w.heap.size w W5 := by rw [hW5]; exact bel3 _ _ _ _
 have a5 : At8 W5 (w.heap.size + 2) 0 ⟨18, ty, 0, 0, ⟨#[]⟩, [], [], hook⟩ (.slice none 0 0) (.slice none 0 0) := by
  rw [hW5]
  refine ⟨?_, ?_, ?_, ?_, ?_, ?_, ?_, ?_⟩
  all_goals simp [go_sem]
 have e2 : ((w.alloc (.cells #[.int .i64 18, .string ty, .int .u64 bits, .int .u64 imag, .string text, .slice na names.length nc, .slice pa0 parts.length pc0, .int .i64 hook] 26)).alloc (.cells #[.int .i64 0, .string ⟨#[]⟩, .int .u64 0, .int .u64 0, .string ⟨#[]⟩, .slice none 0 0, .slice none 0 0, .int .i64 0] 26)).heap.size = w.heap.size + 2 := by simp
 have e1 : (w.alloc (.cells #[.int .i64 18, .string ty, .int .u64 bits, .int .u64 imag, .string text, .slice na names.length nc, .slice pa0 parts.length pc0, .int .i64 hook] 26)).heap.size = w.heap.size + 1 := by simp
 have z5 : ∀ i, W5.frozen? ⟨w.heap.size + 2, i, none⟩ = false := fun i => by
  rw [hW5, frozen?_alloc_cells, ← e2]
  exact frozen_none _ _ (Nat.le_refl _)
 have zz5 : Zero8 W5 (w.heap.size + 1) := by
  refine ⟨by rw [hW5]; refine ⟨?_, ?_, ?_, ?_, ?_, ?_, ?_, ?_⟩ <;> simp [go_sem], fun i => ?_⟩
  rw [hW5, frozen?_alloc_cells, frozen?_alloc_cells, ← e1]
  exact frozen_none _ _ (Nat.le_refl _)
 have k0 : W5.cell? ⟨w.heap.size, 0, none⟩ = some (.int .i64 18) := by rw [hW5]; simp [go_sem]
 have k5 : W5.cell? ⟨w.heap.size, 5, none⟩ = some (.slice na names.length nc) := by rw [hW5]; simp [go_sem]
 have k6 : W5.cell? ⟨w.heap.size, 6, none⟩ = some (.slice pa0 parts.length pc0) := by rw [hW5]; simp [go_sem]
 have s5 : w.heap.size + 3 ≤ W5.heap.size := by rw [hW5]; simp
 clear e1 e2
 go_enter Tryz.func35, Tryz.ntmps35
 go_upto_region 15 with (first | (go_at_call 66; refine (hwh _).mono ?_; rintro e w1 ⟨rfl, hw⟩; rw [hw]; clear hw) | (go_at_call 68; refine (hgr _).mono ?_; rintro e w1 ⟨rfl, hw⟩; rw [hw]; clear hw))
 rw [← hW5]
 clear hW5
 have hna5 := hna.turn (Kept.below b5 fun b hb _ => hb)
 have k55 := a5.2.2.2.2.2.1
 simp only [Nat.zero_add] at k55
 have hlt0 : w.heap.size < W5.heap.size := by omega
 go_upto_region 16 with (at_builtin; refine wpl_appNames2 (W0 := W5) rfl _ _ rfl names na nc hna5 hnl rfl rfl rfl ?_; rintro nv' w6 ⟨nao, ncc, rfl⟩ N6 b6; have a6 := a5.up b6; have k56 := a6.2.2.2.2.2.1; simp only [Nat.zero_add] at k56; have k57 : w6.cell? ⟨w.heap.size + 1 + 1, 5, none⟩ = some (.slice none 0 0) := k56; have z6 : ∀ i, w6.frozen? ⟨w.heap.size + 2, i, none⟩ = false := fun i => (b6.frozen (p := ⟨w.heap.size + 2, i, none⟩) (by dsimp only; omega)).trans (z5 i))
 have s6 := b6.size
 have a7 : At8 (w6.setCell ⟨w.heap.size + 2, 5, none⟩ (.slice nao names.length ncc)) (w.heap.size + 2) 0 ⟨18, ty, 0, 0, ⟨#[]⟩, [], [], hook⟩ (.slice nao names.length ncc) (.slice none 0 0) := by
  obtain ⟨q0, q1, q2, q3, q4, q5, q6, q7⟩ := a6
  simp only [Nat.zero_add] at q0 q1 q2 q3 q4 q5 q6 q7
  refine ⟨?_, ?_, ?_, ?_, ?_, ?_, ?_, ?_⟩
  all_goals simp [go_sem, q0, q1, q2, q3, q4, q5, q6, q7]
 have z7 : ∀ i, (w6.setCell ⟨w.heap.size + 2, 5, none⟩ (.slice nao names.length ncc)).frozen? ⟨w.heap.size + 2, i, none⟩ = false := fun i => by rw [World.frozen?_setCell]; exact z6 i
 have N7 : Nm (w6.setCell ⟨w.heap.size + 2, 5, none⟩ (.slice nao names.length ncc)) (fun b => w.heap.size + 1 < b ∧ b ≠ w.heap.size + 2) (.slice nao names.length ncc) names := N6.turn fun b hb _ => ⟨⟨by omega, by omega⟩, fun o => World.cell?_of_block (w := w6) (a := ⟨b, o, none⟩) (Below.heap_setCell _ _ _ _ (by dsimp only; omega))⟩
 have g7 : W5.grownBy (w6.setCell ⟨w.heap.size + 2, 5, none⟩ (.slice nao names.length ncc)) (some (w.heap.size + 2)) := gr_putV (gr_belowV b6 _) _
 have b7 : Below w.heap.size w (w6.setCell ⟨w.heap.size + 2, 5, none⟩ (.slice nao names.length ncc)) := (b5.trans (b6.mono b5.size)).setCell (by dsimp only; omega) _
 have zz7 := zz5.gr g7 (by omega)
 have m0 := g7.cell k0 (fun e => by have := Option.some.inj e; dsimp only at this; omega)
 have m6 := g7.cell k6 (fun e => by have := Option.some.inj e; dsimp only at this; omega)
 have s7 : w.heap.size + 3 ≤ (w6.setCell ⟨w.heap.size + 2, 5, none⟩ (.slice nao names.length ncc)).heap.size := Nat.le_trans s5 g7.size
 generalize w6.setCell ⟨w.heap.size + 2, 5, none⟩ (.slice nao names.length ncc) = W6 at *
 generalize Value.slice nao names.length ncc = nv at *
 clear g7 a6 k56 k57 hlt0 z6 N6 b6 s6 a5 z5 zz5 b5 k0 k5 k6 k55 s5 hna hna5
 go_upto_region 22 with (first | (go_at_call 66; refine (hwh _).mono ?_; rintro e w1 ⟨rfl, hw⟩; rw [hw]; clear hw) | (go_at_call 68; refine (hgr _).mono ?_; rintro e w1 ⟨rfl, hw⟩; rw [hw]; clear hw))
 obtain ⟨X, hX⟩ : ∃ X, w.heap.size + 2 = X := ⟨_, rfl⟩
 have p7 : PBx W6 (w.heap.size + 2) n ⟨18, ty, 0, 0, ⟨#[]⟩, [], [], hook⟩ nv (.slice none 0 0) [] W6 := ⟨World.grownBy.refl _ _, a7, z7, Row8.nil _ _ _, by omega⟩
 have hw6 := b7.size
 have hX6 : X < W6.heap.size := by omega
 have hXw : w.heap.size + 1 < X := by omega
 have hXe : X ≤ w.heap.size + 2 := by omega
 rw [hX] at p7 N7
 simp only [hX]
 clear hX a7 z7
 have hlI : (parts.length : Int) ≤ 1000 := by omega
 go_wp2_with fail
 go_loopg [5, 108] parts.length (fun g z iv wr => ∃ (j : Nat) (pv : Value), iv = .int .i64 (j : Nat) ∧ j + g = parts.length ∧ PBx W6 X n ⟨18, ty, 0, 0, ⟨#[]⟩, [], [], hook⟩ nv pv ((parts.take j).map inF) wr)
 case atStart => exact ⟨0, _, rfl, by omega, by simpa using p7⟩
 case round =>
  obtain ⟨j, pv, rfl, hjg, hP⟩ := hrel
  clear p7
  by_cases hlt : j < parts.length
  ·have hltI : (j : Int) < parts.length := by omega
   obtain ⟨x, hx⟩ : ∃ x, parts[j]? = some x := ⟨_, List.getElem?_eq_getElem hlt⟩
   obtain ⟨b, off, nvx, pvx, rfl, ax, hrx⟩ := hcell j x hx
   obtain ⟨nax, ncx, pax, pcx, hn1, hp1⟩ := hrx.slices
   have hbw : b < w.heap.size := lt_of_cell ax.1
   have bwr : Below w.heap.size w wr := below_gr b7 hP.g (by omega) hw6
   obtain ⟨c0, c1, c2, c3, c4, c5, c6', c7'⟩ := ax.up bwr
   obtain ⟨Y2, hY2⟩ : ∃ Y2, Y2 = wr.alloc (.cells #[.int .i64 x.kind, .string x.ty, .int .u64 x.bits, .int .u64 x.imag, .string x.text, .slice nax x.names.length ncx, .slice pax x.parts.length pcx, .int .i64 x.hook] 26) := ⟨_, rfl⟩
   have hbY : Below wr.heap.size wr Y2 := by rw [hY2]; exact (Below.refl _ _).alloc (Nat.le_refl _) _
   subst hn1 hp1
   have sY : At8 Y2 wr.heap.size 0 x (.slice nax x.names.length ncx) (.slice pax x.parts.length pcx) := by
    rw [hY2]
    refine ⟨?_, ?_, ?_, ?_, ?_, ?_, ?_, ?_⟩
    all_goals simp [go_sem]
   have hxb : (Value.ownBlock pv) ≠ some wr.heap.size := fun e => by have := (hP.r.lt _ e).2; omega
   have hxX : wr.heap.size ≠ X := by have := hP.g.size; omega
   have hPy := hP.up hbY
   have hrY : RdC n Y2 (.slice nax x.names.length ncx) (.slice pax x.parts.length pcx) x := hrx.up (bwr.trans (hbY.mono bwr.size))
   have HL : Hid (((parts.take j).map inF) ++ [inF x] = (parts.take (j + 1)).map inF) := by
    show _ = _
    rw [List.take_add_one, hx, List.map_append]; rfl
   have hll : ((parts.take j).map inF).length ≤ 100000 := by rw [List.length_map, List.length_take]; omega
   have hix := ih x (List.mem_of_getElem? hx)
   obtain ⟨xb, hxbe⟩ : ∃ xb, wr.heap.size = xb := ⟨_, rfl⟩
   go_upto_region 25 with fail
   rw [← hY2]
   rw [hxbe] at sY hxb hxX
   try simp only [hxbe]
   clear hY2 hx ax hrx hbw c0 c1 c2 c3 c4 c5 c6' c7' hP hbY bwr hxbe
   obtain ⟨Yd, hYd⟩ : ∃ Yd, Yd = Y2.drew := ⟨_, rfl⟩
   have hPd : PBx W6 X n ⟨18, ty, 0, 0, ⟨#[]⟩, [], [], hook⟩ nv pv ((parts.take j).map inF) Yd := by rw [hYd]; exact hPy.up (Below.refl _ _).drew
   have sx : At8 Yd xb 0 x (.slice nax x.names.length ncx) (.slice pax x.parts.length pcx) := by rw [hYd]; exact sY
   have hrec := hix Yd _ _ (by rw [hYd]; exact hrY.up (Below.refl _ _).drew)
   generalize (parts.take j).map inF = lj at *
   obtain ⟨pa, pc, rfl, -, -⟩ := hPd.r.slice
   have c6 := hPd.a.2.2.2.2.2.2.1
   simp only [Nat.zero_add] at c6
   refine wp_region_held_drew (S := fun w' : World => At8 w' xb 0 x (.slice nax x.names.length ncx) (.slice pax x.parts.length pcx)) (by kernel_rfl) (by rw [← hYd]; exact sx) ?_
   rw [← hYd]
   clear hYd sY hPy hrY hix ih hcell
   obtain ⟨nvx, hnvx⟩ : ∃ v, v = Value.slice nax x.names.length ncx := ⟨_, rfl⟩
   obtain ⟨pvx, hpvx⟩ : ∃ v, v = Value.slice pax x.parts.length pcx := ⟨_, rfl⟩
   intro hS
   refine tk 0 (.pointer (some ⟨X, 6, none⟩)) rfl (by kernel_rfl) (fun _ _ _ h => h) (by rfl) (by assumption) ?_ ?_
   ·intro w5 s0
    go_simp
   try simp only [Act.put, lyt]
   refine tk 2 (.agg #[.int .i64 x.kind, .string x.ty, .int .u64 x.bits, .int .u64 x.imag, .string x.text, .slice nax x.names.length ncx, .slice pax x.parts.length pcx, .int .i64 x.hook]) rfl (by kernel_rfl) (fun _ _ _ h => h) (by rfl) (by assumption) ?_ ?_
   ·intro w5 s0
    obtain ⟨q0, q1, q2, q3, q4, q5, q6, q7⟩ := s0
    simp only [Nat.zero_add] at q0 q1 q2 q3 q4 q5 q6 q7
    go_simp
   try simp only [Act.put, lyt]
   rw [← hnvx, ← hpvx] at sx
   subst hnvx hpvx
   refine wpAnyH_ready (rs := [1, 3]) (by kernel_rfl) (by simp) ?_
   refine AllReadyH.cons rfl (fun K0 hK0 => ?_) (AllReadyH.cons rfl (fun K0 hK0 => ?_) AllReadyH.nil)
   ·skip
    have cL := c6
    go_simp
    refine hK0.out _ _ sx (fun _ => ?_)
    clear hK0 cL
    try simp only [Act.put, lyt]
    refine rd1 3 (by kernel_rfl) rfl fun K1 hK1 => ?_
    go_simp
    refine hrec.mono ?_
    rintro e Z ⟨hbZ, nv', pv', rfl, hrd⟩
    obtain ⟨na', nc', pa', pc', rfl, rfl⟩ := hrd.slices
    have hPZ := hPd.up hbZ
    have sxZ := sx.up hbZ
    refine hK1.out _ _ sxZ (fun _ => ?_)
    clear hK1
    try simp only [Act.put, lyt]
    refine rd1 4 (by kernel_rfl) rfl fun K2 hK2 => ?_
    go_simp
    refine hK2.out _ _ (sxZ.up ((Below.refl Z.heap.size Z).alloc (Nat.le_refl _) (.cells #[.int .i64 (inF x).kind, .string (inF x).ty, .int .u64 (inF x).bits, .int .u64 (inF x).imag, .string (inF x).text, .slice na' (inF x).names.length nc', .slice pa' (inF x).parts.length pc', .int .i64 (inF x).hook] 26))) (fun _ => ?_)
    clear hK2
    try simp only [Act.put, lyt]
    refine rd1 5 (by kernel_rfl) rfl fun K3 hK3 => ?_
    rw [if_pos (by rfl)]
    have hZl : Yd.heap.size ≤ Z.heap.size := hbZ.size
    have hW6l : W6.heap.size ≤ Yd.heap.size := hPd.g.size
    have hy : RdS n (fun b => W6.heap.size ≤ b ∧ (Value.slice pa lj.length pc).ownBlock ≠ some b) Z (.slice na' (inF x).names.length nc') (.slice pa' (inF x).parts.length pc') (inF x) := hrd.turn fun b hb _ => ⟨⟨Nat.le_trans hW6l hb, fun e => by have h1 := (hPd.r.lt b e).2; have h2 : Yd.heap.size ≤ b := hb; omega⟩, fun _ => rfl⟩
    refine wp_app8 _ _ rfl hPZ.r (inF x) _ _ hy rfl rfl rfl hll (Nat.le_trans hW6l hZl) ?_
    rintro v7 w7 ⟨ao7, c7, rfl⟩ R7 g7
    have sx7 : At8 w7 xb 0 x (.slice nax x.names.length ncx) (.slice pax x.parts.length pcx) := by
     have hne : some xb ≠ (Value.slice pa lj.length pc).ownBlock := fun e => hxb e.symm
     have hlt : xb < Z.heap.size := lt_of_cell sxZ.1
     have hc : ∀ o, w7.cell? ⟨xb, o, none⟩ = Z.cell? ⟨xb, o, none⟩ := fun o => g7.cell_far ⟨xb, o, none⟩ hlt hne
     obtain ⟨q0, q1, q2, q3, q4, q5, q6, q7⟩ := sxZ
     exact ⟨(hc _).trans q0, (hc _).trans q1, (hc _).trans q2, (hc _).trans q3, (hc _).trans q4, (hc _).trans q5, (hc _).trans q6, (hc _).trans q7⟩
    refine hK3.out _ _ sx7 (fun _ => ?_)
    clear hK3
    try simp only [Act.put, lyt]
    have P7 := hPZ.app R7 g7
    have f7 : w7.frozen? ⟨X, 6, none⟩ = false := by have := P7.z 6; rwa [World.frozen?_setCell] at this
    have c67 : w7.cell? ⟨X, 6, none⟩ = some (.slice pa lj.length pc) := by
     have c6Z := hPZ.a.2.2.2.2.2.2.1
     simp only [Nat.zero_add] at c6Z
     exact g7.cell c6Z (fun e => by have h1 := (hPZ.r.lt X e.symm).1; omega)
    refine rd1 6 (by kernel_rfl) rfl fun K4 hK4 => ?_
    go_simp
    refine hK4.out _ _ sx7 (fun _ => ?_)
    clear hK4
    try simp only [Act.put, lyt]
    have sx8 : At8 (w7.setCell ⟨X, 6, none⟩ (.slice ao7 (lj.length + 1) c7)) xb 0 x (.slice nax x.names.length ncx) (.slice pax x.parts.length pcx) := by
     have hc : ∀ o, (w7.setCell ⟨X, 6, none⟩ (.slice ao7 (lj.length + 1) c7)).cell? ⟨xb, o, none⟩ = w7.cell? ⟨xb, o, none⟩ := fun o => World.cell?_of_block (w := w7) (a := ⟨xb, o, none⟩) (Below.heap_setCell _ _ _ _ hxX)
     obtain ⟨q0, q1, q2, q3, q4, q5, q6, q7⟩ := sx7
     exact ⟨(hc _).trans q0, (hc _).trans q1, (hc _).trans q2, (hc _).trans q3, (hc _).trans q4, (hc _).trans q5, (hc _).trans q6, (hc _).trans q7⟩
    refine rd1 7 (by kernel_rfl) rfl fun K5 hK5 => ?_
    go_simp
    refine hK5.out _ _ sx8 (fun _ => ?_)
    clear hK5
    try simp only [Act.put, lyt]
    refine wpAnyH_done (by kernel_rfl) ?_ _
    rw [HL.out] at P7
    clear hS hrec hPd hPZ hrd hy R7 g7 f7 c67 c6 sx7 sx8 sxZ sx
    generalize w7.setCell ⟨X, 6, none⟩ (.slice ao7 (lj.length + 1) c7) = W8 at *
    go_wp2
    go_roundg (gk - 1)
    case measure => omega
    case rel => exact ⟨j + 1, _, by go_num, by omega, P7⟩
   ·skip
    go_simp
    refine hrec.mono ?_
    rintro e Z ⟨hbZ, nv', pv', rfl, hrd⟩
    obtain ⟨na', nc', pa', pc', rfl, rfl⟩ := hrd.slices
    have hPZ := hPd.up hbZ
    have sxZ := sx.up hbZ
    refine hK0.out _ _ sxZ (fun _ => ?_)
    clear hK0
    try simp only [Act.put, lyt]
    have c6Z := hPZ.a.2.2.2.2.2.2.1
    simp only [Nat.zero_add] at c6Z
    refine wpAnyH_ready (rs := [1, 4]) (by kernel_rfl) (by simp) ?_
    refine AllReadyH.cons rfl (fun K0 hK0 => ?_) (AllReadyH.cons rfl (fun K0 hK0 => ?_) AllReadyH.nil)
    ·skip
     have cL := c6Z
     go_simp
     refine hK0.out _ _ sxZ (fun _ => ?_)
     clear hK0 cL
     try simp only [Act.put, lyt]
     refine rd1 4 (by kernel_rfl) rfl fun K6 hK6 => ?_
     go_simp
     refine hK6.out _ _ (sxZ.up ((Below.refl Z.heap.size Z).alloc (Nat.le_refl _) (.cells #[.int .i64 (inF x).kind, .string (inF x).ty, .int .u64 (inF x).bits, .int .u64 (inF x).imag, .string (inF x).text, .slice na' (inF x).names.length nc', .slice pa' (inF x).parts.length pc', .int .i64 (inF x).hook] 26))) (fun _ => ?_)
     clear hK6
     try simp only [Act.put, lyt]
     refine rd1 5 (by kernel_rfl) rfl fun K7 hK7 => ?_
     rw [if_pos (by rfl)]
     have hZl : Yd.heap.size ≤ Z.heap.size := hbZ.size
     have hW6l : W6.heap.size ≤ Yd.heap.size := hPd.g.size
     have hy : RdS n (fun b => W6.heap.size ≤ b ∧ (Value.slice pa lj.length pc).ownBlock ≠ some b) Z (.slice na' (inF x).names.length nc') (.slice pa' (inF x).parts.length pc') (inF x) := hrd.turn fun b hb _ => ⟨⟨Nat.le_trans hW6l hb, fun e => by have h1 := (hPd.r.lt b e).2; have h2 : Yd.heap.size ≤ b := hb; omega⟩, fun _ => rfl⟩
     refine wp_app8 _ _ rfl hPZ.r (inF x) _ _ hy rfl rfl rfl hll (Nat.le_trans hW6l hZl) ?_
     rintro v7 w7 ⟨ao7, c7, rfl⟩ R7 g7
     have sx7 : At8 w7 xb 0 x (.slice nax x.names.length ncx) (.slice pax x.parts.length pcx) := by
      have hne : some xb ≠ (Value.slice pa lj.length pc).ownBlock := fun e => hxb e.symm
      have hlt : xb < Z.heap.size := lt_of_cell sxZ.1
      have hc : ∀ o, w7.cell? ⟨xb, o, none⟩ = Z.cell? ⟨xb, o, none⟩ := fun o => g7.cell_far ⟨xb, o, none⟩ hlt hne
      obtain ⟨q0, q1, q2, q3, q4, q5, q6, q7⟩ := sxZ
      exact ⟨(hc _).trans q0, (hc _).trans q1, (hc _).trans q2, (hc _).trans q3, (hc _).trans q4, (hc _).trans q5, (hc _).trans q6, (hc _).trans q7⟩
     refine hK7.out _ _ sx7 (fun _ => ?_)
     clear hK7
     try simp only [Act.put, lyt]
     have P7 := hPZ.app R7 g7
     have f7 : w7.frozen? ⟨X, 6, none⟩ = false := by have := P7.z 6; rwa [World.frozen?_setCell] at this
     have c67 : w7.cell? ⟨X, 6, none⟩ = some (.slice pa lj.length pc) := by
      have c6Z := hPZ.a.2.2.2.2.2.2.1
      simp only [Nat.zero_add] at c6Z
      exact g7.cell c6Z (fun e => by have h1 := (hPZ.r.lt X e.symm).1; omega)
     refine rd1 6 (by kernel_rfl) rfl fun K8 hK8 => ?_
     go_simp
     refine hK8.out _ _ sx7 (fun _ => ?_)
     clear hK8
     try simp only [Act.put, lyt]
     have sx8 : At8 (w7.setCell ⟨X, 6, none⟩ (.slice ao7 (lj.length + 1) c7)) xb 0 x (.slice nax x.names.length ncx) (.slice pax x.parts.length pcx) := by
      have hc : ∀ o, (w7.setCell ⟨X, 6, none⟩ (.slice ao7 (lj.length + 1) c7)).cell? ⟨xb, o, none⟩ = w7.cell? ⟨xb, o, none⟩ := fun o => World.cell?_of_block (w := w7) (a := ⟨xb, o, none⟩) (Below.heap_setCell _ _ _ _ hxX)
      obtain ⟨q0, q1, q2, q3, q4, q5, q6, q7⟩ := sx7
      exact ⟨(hc _).trans q0, (hc _).trans q1, (hc _).trans q2, (hc _).trans q3, (hc _).trans q4, (hc _).trans q5, (hc _).trans q6, (hc _).trans q7⟩
     refine rd1 7 (by kernel_rfl) rfl fun K9 hK9 => ?_
     go_simp
     refine hK9.out _ _ sx8 (fun _ => ?_)
     clear hK9
     try simp only [Act.put, lyt]
     refine wpAnyH_done (by kernel_rfl) ?_ _
     rw [HL.out] at P7
     clear hS hrec hPd hPZ hrd hy R7 g7 f7 c67 c6 sx7 sx8 sxZ sx
     generalize w7.setCell ⟨X, 6, none⟩ (.slice ao7 (lj.length + 1) c7) = W8 at *
     go_wp2
     go_roundg (gk - 1)
     case measure => omega
     case rel => exact ⟨j + 1, _, by go_num, by omega, P7⟩
    ·skip
     go_simp
     refine hK0.out _ _ (sxZ.up ((Below.refl Z.heap.size Z).alloc (Nat.le_refl _) (.cells #[.int .i64 (inF x).kind, .string (inF x).ty, .int .u64 (inF x).bits, .int .u64 (inF x).imag, .string (inF x).text, .slice na' (inF x).names.length nc', .slice pa' (inF x).parts.length pc', .int .i64 (inF x).hook] 26))) (fun _ => ?_)
     clear hK0
     try simp only [Act.put, lyt]
     have c6Y := up_cell ((Below.refl Z.heap.size Z).alloc (Nat.le_refl _) (.cells #[.int .i64 (inF x).kind, .string (inF x).ty, .int .u64 (inF x).bits, .int .u64 (inF x).imag, .string (inF x).text, .slice na' (inF x).names.length nc', .slice pa' (inF x).parts.length pc', .int .i64 (inF x).hook] 26)) c6Z
     refine rd1 1 (by kernel_rfl) rfl fun K10 hK10 => ?_
     have cL := c6Y
     go_simp
     refine hK10.out _ _ (sxZ.up ((Below.refl Z.heap.size Z).alloc (Nat.le_refl _) (.cells #[.int .i64 (inF x).kind, .string (inF x).ty, .int .u64 (inF x).bits, .int .u64 (inF x).imag, .string (inF x).text, .slice na' (inF x).names.length nc', .slice pa' (inF x).parts.length pc', .int .i64 (inF x).hook] 26))) (fun _ => ?_)
     clear hK10 cL
     try simp only [Act.put, lyt]
     refine rd1 5 (by kernel_rfl) rfl fun K11 hK11 => ?_
     rw [if_pos (by rfl)]
     have hZl : Yd.heap.size ≤ Z.heap.size := hbZ.size
     have hW6l : W6.heap.size ≤ Yd.heap.size := hPd.g.size
     have hy : RdS n (fun b => W6.heap.size ≤ b ∧ (Value.slice pa lj.length pc).ownBlock ≠ some b) Z (.slice na' (inF x).names.length nc') (.slice pa' (inF x).parts.length pc') (inF x) := hrd.turn fun b hb _ => ⟨⟨Nat.le_trans hW6l hb, fun e => by have h1 := (hPd.r.lt b e).2; have h2 : Yd.heap.size ≤ b := hb; omega⟩, fun _ => rfl⟩
     refine wp_app8 _ _ rfl hPZ.r (inF x) _ _ hy rfl rfl rfl hll (Nat.le_trans hW6l hZl) ?_
     rintro v7 w7 ⟨ao7, c7, rfl⟩ R7 g7
     have sx7 : At8 w7 xb 0 x (.slice nax x.names.length ncx) (.slice pax x.parts.length pcx) := by
      have hne : some xb ≠ (Value.slice pa lj.length pc).ownBlock := fun e => hxb e.symm
      have hlt : xb < Z.heap.size := lt_of_cell sxZ.1
      have hc : ∀ o, w7.cell? ⟨xb, o, none⟩ = Z.cell? ⟨xb, o, none⟩ := fun o => g7.cell_far ⟨xb, o, none⟩ hlt hne
      obtain ⟨q0, q1, q2, q3, q4, q5, q6, q7⟩ := sxZ
      exact ⟨(hc _).trans q0, (hc _).trans q1, (hc _).trans q2, (hc _).trans q3, (hc _).trans q4, (hc _).trans q5, (hc _).trans q6, (hc _).trans q7⟩
     refine hK11.out _ _ sx7 (fun _ => ?_)
     clear hK11
     try simp only [Act.put, lyt]
     have P7 := hPZ.app R7 g7
     have f7 : w7.frozen? ⟨X, 6, none⟩ = false := by have := P7.z 6; rwa [World.frozen?_setCell] at this
     have c67 : w7.cell? ⟨X, 6, none⟩ = some (.slice pa lj.length pc) := by
      have c6Z := hPZ.a.2.2.2.2.2.2.1
      simp only [Nat.zero_add] at c6Z
      exact g7.cell c6Z (fun e => by have h1 := (hPZ.r.lt X e.symm).1; omega)
     refine rd1 6 (by kernel_rfl) rfl fun K12 hK12 => ?_
     go_simp
     refine hK12.out _ _ sx7 (fun _ => ?_)
     clear hK12
     try simp only [Act.put, lyt]
     have sx8 : At8 (w7.setCell ⟨X, 6, none⟩ (.slice ao7 (lj.length + 1) c7)) xb 0 x (.slice nax x.names.length ncx) (.slice pax x.parts.length pcx) := by
      have hc : ∀ o, (w7.setCell ⟨X, 6, none⟩ (.slice ao7 (lj.length + 1) c7)).cell? ⟨xb, o, none⟩ = w7.cell? ⟨xb, o, none⟩ := fun o => World.cell?_of_block (w := w7) (a := ⟨xb, o, none⟩) (Below.heap_setCell _ _ _ _ hxX)
      obtain ⟨q0, q1, q2, q3, q4, q5, q6, q7⟩ := sx7
      exact ⟨(hc _).trans q0, (hc _).trans q1, (hc _).trans q2, (hc _).trans q3, (hc _).trans q4, (hc _).trans q5, (hc _).trans q6, (hc _).trans q7⟩
     refine rd1 7 (by kernel_rfl) rfl fun K13 hK13 => ?_
     go_simp
     refine hK13.out _ _ sx8 (fun _ => ?_)
     clear hK13
     try simp only [Act.put, lyt]
     refine wpAnyH_done (by kernel_rfl) ?_ _
     rw [HL.out] at P7
     clear hS hrec hPd hPZ hrd hy R7 g7 f7 c67 c6 sx7 sx8 sxZ sx
     generalize w7.setCell ⟨X, 6, none⟩ (.slice ao7 (lj.length + 1) c7) = W8 at *
     go_wp2
     go_roundg (gk - 1)
     case measure => omega
     case rel => exact ⟨j + 1, _, by go_num, by omega, P7⟩
  ·have hltI : ¬ (j : Int) < parts.length := by omega
   have hje : j = parts.length := by omega
   subst hje
   rw [List.take_length] at hP
   obtain ⟨pa, pc, hpv, -, -⟩ := hP.r.slice
   obtain ⟨⟨z0, z1, z2, z3, z4, z5, z6, z7⟩, zf⟩ := zz7.gr hP.g (by omega)
   have hbx := below_gr b7 hP.g (by omega) hw6
   have Nx := N7.turn (kept_gr hP.g fun b hb => by omega)
   have Rx := hP.r
   obtain ⟨a0, a1, a2, a3, a4, a5, a6, a7⟩ := hP.a
   simp only [Nat.zero_add] at a0 a1 a2 a3 a4 a5 a6 a7
   have m0' := hP.g.cell m0 (fun e => by have := Option.some.inj e; dsimp only at this; omega)
   have y0 := zf 0
   have y1 := zf 1
   have y2 := zf 2
   have y3 := zf 3
   have y4 := zf 4
   have y5 := zf 5
   have y6 := zf 6
   have y7 := zf 7
   have xf6 := hP.z 6
   have hW6r := hP.g.size
   obtain ⟨nao, ncc, hnv2, -, -, -⟩ := id Nx
   rw [List.length_map] at hpv
   subst hpv hnv2
   clear hP ih hcell
   go_wp2
   obtain ⟨r0, r1, r2, r3, r4, r5, r6, r7⟩ := set8 z0 z1 z2 z3 z4 z5 z6 z7 (.int .i64 18) (.string ty) (.int .u64 0) (.int .u64 0) (.string ⟨#[]⟩) (.slice nao names.length ncc) (.slice pa parts.length pc) (.int .i64 hook)
   refine bodyPost_ret (v := .agg #[.int .i64 18, .string ty, .int .u64 0, .int .u64 0, .string ⟨#[]⟩, .slice nao names.length ncc, .slice pa parts.length pc, .int .i64 hook]) (by simp [results, Tryz.results35, go_sem, r0, r1, r2, r3, r4, r5, r6, r7]) rfl ?_
   refine ⟨set8_below hbx (by omega), _, _, rfl, ?_, ?_⟩
   ·exact Nx.turn fun b hb hlt => ⟨by omega, fun o => set8_other (by omega) o⟩
   ·refine Row8.pt (B := W6.heap.size) ?_ _ fun b hb => by omega
    exact (((((((Rx.set (by omega) _ _).set (by omega) _ _).set (by omega) _ _).set (by omega) _ _).set (by omega) _ _).set (by omega) _ _).set (by omega) _ _).set (by omega) _ _
set_option maxRecDepth 1000000 in
set_option maxHeartbeats 4000000 in
theorem oing_19 (n : Nat) (ty : ByteArray) (bits imag : Int) (text : ByteArray) (names : List ByteArray) (parts : List D) (hook : Int) (na pa0 : Option Addr) (nc pc0 : Nat) (w : World) (hl : parts.length ≤ 1000) (ih : ∀ x ∈ parts, InR n x)
  (hcell : ∀ (i : Nat) (x : D), parts[i]? = some x → ∃ b off nv' pv', pa0 = some ⟨b, off, none⟩ ∧ At8 w b (off + i * 8) x nv' pv' ∧ RdC n w nv' pv' x) :
  Calls Tryz.prog 35 #[.agg #[.int .i64 19, .string ty, .int .u64 bits, .int .u64 imag, .string text, .slice na names.length nc, .slice pa0 parts.length pc0, .int .i64 hook]] w fun e w' => Below w.heap.size w w' ∧ ∃ nv pv, e = .returned (.agg #[.int .i64 19, .string ty, .int .u64 0, .int .u64 0, .string ⟨#[]⟩, nv, pv, .int .i64 hook]) ∧ Nm w' (fun b => w.heap.size ≤ b) nv ([] : List ByteArray) ∧ Pt n (fun b => w.heap.size ≤ b) w' pv (parts.map inF) := by
 have hwh : ∀ W, Calls Tryz.prog 66 #[.int .i64 19] W fun e w' => e = .returned (.bool false) ∧ w' = W := fun W => owhole_any 19 W
 have hgr : ∀ W, Calls Tryz.prog 68 #[.int .i64 19] W fun e w' => e = .returned (.bool true) ∧ w' = W := fun W => ogreat_any 19 W
 obtain ⟨W5, hW5⟩ : ∃ W5, W5 = ((w.alloc (.cells #[.int .i64 19, .string ty, .int .u64 bits, .int .u64 imag, .string text, .slice na names.length nc, .slice pa0 parts.length pc0, .int .i64 hook] 26)).alloc (.cells #[.int .i64 0, .string ⟨#[]⟩, .int .u64 0, .int .u64 0, .string ⟨#[]⟩, .slice none 0 0, .slice none 0 0, .int .i64 0] 26)).alloc (.cells #[.int .i64 19, .string ty, .int .u64 0, .int .u64 0, .string ⟨#[]⟩, .slice none 0 0, .slice none 0 0, .int .i64 hook] 26) := ⟨_, rfl⟩
 have b5 : Below w.heap.size w W5 := by rw [hW5]; exact bel3 _ _ _ _
 have a5 : At8 W5 (w.heap.size + 2) 0 ⟨19, ty, 0, 0, ⟨#[]⟩, [], [], hook⟩ (.slice none 0 0) (.slice none 0 0) := by
  rw [hW5]
  refine ⟨?_, ?_, ?_, ?_, ?_, ?_, ?_, ?_⟩
  all_goals simp [go_sem]
 have e2 : ((w.alloc (.cells #[.int .i64 19, .string ty, .int .u64 bits, .int .u64 imag, .string text, .slice na names.length nc, .slice pa0 parts.length pc0, .int .i64 hook] 26)).alloc (.cells #[.int .i64 0, .string ⟨#[]⟩, .int .u64 0, .int .u64 0, .string ⟨#[]⟩, .slice none 0 0, .slice none 0 0, .int .i64 0] 26)).heap.size = w.heap.size + 2 := by simp
 have e1 : (w.alloc (.cells #[.int .i64 19, .string ty, .int .u64 bits, .int .u64 imag, .string text, .slice na names.length nc, .slice pa0 parts.length pc0, .int .i64 hook] 26)).heap.size = w.heap.size + 1 := by simp
 have z5 : ∀ i, W5.frozen? ⟨w.heap.size + 2, i, none⟩ = false := fun i => by
  rw [hW5, frozen?_alloc_cells, ← e2]
  exact frozen_none _ _ (Nat.le_refl _)
 have zz5 : Zero8 W5 (w.heap.size + 1) := by
  refine ⟨by rw [hW5]; refine ⟨?_, ?_, ?_, ?_, ?_, ?_, ?_, ?_⟩ <;> simp [go_sem], fun i => ?_⟩
  rw [hW5, frozen?_alloc_cells, frozen?_alloc_cells, ← e1]
  exact frozen_none _ _ (Nat.le_refl _)
 have k0 : W5.cell? ⟨w.heap.size, 0, none⟩ = some (.int .i64 19) := by rw [hW5]; simp [go_sem]
 have k5 : W5.cell? ⟨w.heap.size, 5, none⟩ = some (.slice na names.length nc) := by rw [hW5]; simp [go_sem]
 have k6 : W5.cell? ⟨w.heap.size, 6, none⟩ = some (.slice pa0 parts.length pc0) := by rw [hW5]; simp [go_sem]
 have s5 : w.heap.size + 3 ≤ W5.heap.size := by rw [hW5]; simp
 clear e1 e2
 go_enter Tryz.func35, Tryz.ntmps35
 go_upto_region 22 with (first | (go_at_call 66; refine (hwh _).mono ?_; rintro e w1 ⟨rfl, hw⟩; rw [hw]; clear hw) | (go_at_call 68; refine (hgr _).mono ?_; rintro e w1 ⟨rfl, hw⟩; rw [hw]; clear hw))
 rw [← hW5]
 clear hW5
 obtain ⟨nv, hnv⟩ : ∃ nv, nv = Value.slice none 0 0 := ⟨_, rfl⟩
 have a7 : At8 W5 (w.heap.size + 2) 0 ⟨19, ty, 0, 0, ⟨#[]⟩, [], [], hook⟩ nv (.slice none 0 0) := by rw [hnv]; exact a5
 have N7 : Nm W5 (fun b => w.heap.size + 1 < b ∧ b ≠ w.heap.size + 2) nv [] := by rw [hnv]; exact Nm.nil _ _
 obtain ⟨W6, hW6⟩ : ∃ W6, W6 = W5 := ⟨_, rfl⟩
 subst hW6
 have z7 := z5
 have zz7 := zz5
 have b7 := b5
 have m0 := k0
 have m6 := k6
 have s7 := s5
 clear a5 z5 zz5 b5 k0 k5 k6 s5 hnv
 obtain ⟨X, hX⟩ : ∃ X, w.heap.size + 2 = X := ⟨_, rfl⟩
 have p7 : PBx W6 (w.heap.size + 2) n ⟨19, ty, 0, 0, ⟨#[]⟩, [], [], hook⟩ nv (.slice none 0 0) [] W6 := ⟨World.grownBy.refl _ _, a7, z7, Row8.nil _ _ _, by omega⟩
 have hw6 := b7.size
 have hX6 : X < W6.heap.size := by omega
 have hXw : w.heap.size + 1 < X := by omega
 have hXe : X ≤ w.heap.size + 2 := by omega
 rw [hX] at p7 N7
 simp only [hX]
 clear hX a7 z7
 have hlI : (parts.length : Int) ≤ 1000 := by omega
 go_wp2_with fail
 go_loopg [5, 108] parts.length (fun g z iv wr => ∃ (j : Nat) (pv : Value), iv = .int .i64 (j : Nat) ∧ j + g = parts.length ∧ PBx W6 X n ⟨19, ty, 0, 0, ⟨#[]⟩, [], [], hook⟩ nv pv ((parts.take j).map inF) wr)
 case atStart => exact ⟨0, _, rfl, by omega, by simpa using p7⟩
 case round =>
  obtain ⟨j, pv, rfl, hjg, hP⟩ := hrel
  clear p7
  by_cases hlt : j < parts.length
  ·have hltI : (j : Int) < parts.length := by omega
   obtain ⟨x, hx⟩ : ∃ x, parts[j]? = some x := ⟨_, List.getElem?_eq_getElem hlt⟩
   obtain ⟨b, off, nvx, pvx, rfl, ax, hrx⟩ := hcell j x hx
   obtain ⟨nax, ncx, pax, pcx, hn1, hp1⟩ := hrx.slices
   have hbw : b < w.heap.size := lt_of_cell ax.1
   have bwr : Below w.heap.size w wr := below_gr b7 hP.g (by omega) hw6
   obtain ⟨c0, c1, c2, c3, c4, c5, c6', c7'⟩ := ax.up bwr
   obtain ⟨Y2, hY2⟩ : ∃ Y2, Y2 = wr.alloc (.cells #[.int .i64 x.kind, .string x.ty, .int .u64 x.bits, .int .u64 x.imag, .string x.text, .slice nax x.names.length ncx, .slice pax x.parts.length pcx, .int .i64 x.hook] 26) := ⟨_, rfl⟩
   have hbY : Below wr.heap.size wr Y2 := by rw [hY2]; exact (Below.refl _ _).alloc (Nat.le_refl _) _
   subst hn1 hp1
   have sY : At8 Y2 wr.heap.size 0 x (.slice nax x.names.length ncx) (.slice pax x.parts.length pcx) := by
    rw [hY2]
    refine ⟨?_, ?_, ?_, ?_, ?_, ?_, ?_, ?_⟩
    all_goals simp [go_sem]
   have hxb : (Value.ownBlock pv) ≠ some wr.heap.size := fun e => by have := (hP.r.lt _ e).2; omega
   have hxX : wr.heap.size ≠ X := by have := hP.g.size; omega
   have hPy := hP.up hbY
   have hrY : RdC n Y2 (.slice nax x.names.length ncx) (.slice pax x.parts.length pcx) x := hrx.up (bwr.trans (hbY.mono bwr.size))
   have HL : Hid (((parts.take j).map inF) ++ [inF x] = (parts.take (j + 1)).map inF) := by
    show _ = _
    rw [List.take_add_one, hx, List.map_append]; rfl
   have hll : ((parts.take j).map inF).length ≤ 100000 := by rw [List.length_map, List.length_take]; omega
   have hix := ih x (List.mem_of_getElem? hx)
   obtain ⟨xb, hxbe⟩ : ∃ xb, wr.heap.size = xb := ⟨_, rfl⟩
   go_upto_region 25 with fail
   rw [← hY2]
   rw [hxbe] at sY hxb hxX
   try simp only [hxbe]
   clear hY2 hx ax hrx hbw c0 c1 c2 c3 c4 c5 c6' c7' hP hbY bwr hxbe
   obtain ⟨Yd, hYd⟩ : ∃ Yd, Yd = Y2.drew := ⟨_, rfl⟩
   have hPd : PBx W6 X n ⟨19, ty, 0, 0, ⟨#[]⟩, [], [], hook⟩ nv pv ((parts.take j).map inF) Yd := by rw [hYd]; exact hPy.up (Below.refl _ _).drew
   have sx : At8 Yd xb 0 x (.slice nax x.names.length ncx) (.slice pax x.parts.length pcx) := by rw [hYd]; exact sY
   have hrec := hix Yd _ _ (by rw [hYd]; exact hrY.up (Below.refl _ _).drew)
   generalize (parts.take j).map inF = lj at *
   obtain ⟨pa, pc, rfl, -, -⟩ := hPd.r.slice
   have c6 := hPd.a.2.2.2.2.2.2.1
   simp only [Nat.zero_add] at c6
   refine wp_region_held_drew (S := fun w' : World => At8 w' xb 0 x (.slice nax x.names.length ncx) (.slice pax x.parts.length pcx)) (by kernel_rfl) (by rw [← hYd]; exact sx) ?_
   rw [← hYd]
   clear hYd sY hPy hrY hix ih hcell
   obtain ⟨nvx, hnvx⟩ : ∃ v, v = Value.slice nax x.names.length ncx := ⟨_, rfl⟩
   obtain ⟨pvx, hpvx⟩ : ∃ v, v = Value.slice pax x.parts.length pcx := ⟨_, rfl⟩
   intro hS
   refine tk 0 (.pointer (some ⟨X, 6, none⟩)) rfl (by kernel_rfl) (fun _ _ _ h => h) (by rfl) (by assumption) ?_ ?_
   ·intro w5 s0
    go_simp
   try simp only [Act.put, lyt]
   refine tk 2 (.agg #[.int .i64 x.kind, .string x.ty, .int .u64 x.bits, .int .u64 x.imag, .string x.text, .slice nax x.names.length ncx, .slice pax x.parts.length pcx, .int .i64 x.hook]) rfl (by kernel_rfl) (fun _ _ _ h => h) (by rfl) (by assumption) ?_ ?_
   ·intro w5 s0
    obtain ⟨q0, q1, q2, q3, q4, q5, q6, q7⟩ := s0
    simp only [Nat.zero_add] at q0 q1 q2 q3 q4 q5 q6 q7
    go_simp
   try simp only [Act.put, lyt]
   rw [← hnvx, ← hpvx] at sx
   subst hnvx hpvx
   refine wpAnyH_ready (rs := [1, 3]) (by kernel_rfl) (by simp) ?_
   refine AllReadyH.cons rfl (fun K0 hK0 => ?_) (AllReadyH.cons rfl (fun K0 hK0 => ?_) AllReadyH.nil)
   ·skip
    have cL := c6
    go_simp
    refine hK0.out _ _ sx (fun _ => ?_)
    clear hK0 cL
    try simp only [Act.put, lyt]
    refine rd1 3 (by kernel_rfl) rfl fun K14 hK14 => ?_
    go_simp
    refine hrec.mono ?_
    rintro e Z ⟨hbZ, nv', pv', rfl, hrd⟩
    obtain ⟨na', nc', pa', pc', rfl, rfl⟩ := hrd.slices
    have hPZ := hPd.up hbZ
    have sxZ := sx.up hbZ
    refine hK14.out _ _ sxZ (fun _ => ?_)
    clear hK14
    try simp only [Act.put, lyt]
    refine rd1 4 (by kernel_rfl) rfl fun K15 hK15 => ?_
    go_simp
    refine hK15.out _ _ (sxZ.up ((Below.refl Z.heap.size Z).alloc (Nat.le_refl _) (.cells #[.int .i64 (inF x).kind, .string (inF x).ty, .int .u64 (inF x).bits, .int .u64 (inF x).imag, .string (inF x).text, .slice na' (inF x).names.length nc', .slice pa' (inF x).parts.length pc', .int .i64 (inF x).hook] 26))) (fun _ => ?_)
    clear hK15
    try simp only [Act.put, lyt]
    refine rd1 5 (by kernel_rfl) rfl fun K16 hK16 => ?_
    rw [if_pos (by rfl)]
    have hZl : Yd.heap.size ≤ Z.heap.size := hbZ.size
    have hW6l : W6.heap.size ≤ Yd.heap.size := hPd.g.size
    have hy : RdS n (fun b => W6.heap.size ≤ b ∧ (Value.slice pa lj.length pc).ownBlock ≠ some b) Z (.slice na' (inF x).names.length nc') (.slice pa' (inF x).parts.length pc') (inF x) := hrd.turn fun b hb _ => ⟨⟨Nat.le_trans hW6l hb, fun e => by have h1 := (hPd.r.lt b e).2; have h2 : Yd.heap.size ≤ b := hb; omega⟩, fun _ => rfl⟩
    refine wp_app8 _ _ rfl hPZ.r (inF x) _ _ hy rfl rfl rfl hll (Nat.le_trans hW6l hZl) ?_
    rintro v7 w7 ⟨ao7, c7, rfl⟩ R7 g7
    have sx7 : At8 w7 xb 0 x (.slice nax x.names.length ncx) (.slice pax x.parts.length pcx) := by
     have hne : some xb ≠ (Value.slice pa lj.length pc).ownBlock := fun e => hxb e.symm
     have hlt : xb < Z.heap.size := lt_of_cell sxZ.1
     have hc : ∀ o, w7.cell? ⟨xb, o, none⟩ = Z.cell? ⟨xb, o, none⟩ := fun o => g7.cell_far ⟨xb, o, none⟩ hlt hne
     obtain ⟨q0, q1, q2, q3, q4, q5, q6, q7⟩ := sxZ
     exact ⟨(hc _).trans q0, (hc _).trans q1, (hc _).trans q2, (hc _).trans q3, (hc _).trans q4, (hc _).trans q5, (hc _).trans q6, (hc _).trans q7⟩
    refine hK16.out _ _ sx7 (fun _ => ?_)
    clear hK16
    try simp only [Act.put, lyt]
    have P7 := hPZ.app R7 g7
    have f7 : w7.frozen? ⟨X, 6, none⟩ = false := by have := P7.z 6; rwa [World.frozen?_setCell] at this
    have c67 : w7.cell? ⟨X, 6, none⟩ = some (.slice pa lj.length pc) := by
     have c6Z := hPZ.a.2.2.2.2.2.2.1
     simp only [Nat.zero_add] at c6Z
     exact g7.cell c6Z (fun e => by have h1 := (hPZ.r.lt X e.symm).1; omega)
    refine rd1 6 (by kernel_rfl) rfl fun K17 hK17 => ?_
    go_simp
    refine hK17.out _ _ sx7 (fun _ => ?_)
    clear hK17
    try simp only [Act.put, lyt]
    have sx8 : At8 (w7.setCell ⟨X, 6, none⟩ (.slice ao7 (lj.length + 1) c7)) xb 0 x (.slice nax x.names.length ncx) (.slice pax x.parts.length pcx) := by
     have hc : ∀ o, (w7.setCell ⟨X, 6, none⟩ (.slice ao7 (lj.length + 1) c7)).cell? ⟨xb, o, none⟩ = w7.cell? ⟨xb, o, none⟩ := fun o => World.cell?_of_block (w := w7) (a := ⟨xb, o, none⟩) (Below.heap_setCell _ _ _ _ hxX)
     obtain ⟨q0, q1, q2, q3, q4, q5, q6, q7⟩ := sx7
     exact ⟨(hc _).trans q0, (hc _).trans q1, (hc _).trans q2, (hc _).trans q3, (hc _).trans q4, (hc _).trans q5, (hc _).trans q6, (hc _).trans q7⟩
    refine rd1 7 (by kernel_rfl) rfl fun K18 hK18 => ?_
    go_simp
    refine hK18.out _ _ sx8 (fun _ => ?_)
    clear hK18
    try simp only [Act.put, lyt]
    refine wpAnyH_done (by kernel_rfl) ?_ _
    rw [HL.out] at P7
    clear hS hrec hPd hPZ hrd hy R7 g7 f7 c67 c6 sx7 sx8 sxZ sx
    generalize w7.setCell ⟨X, 6, none⟩ (.slice ao7 (lj.length + 1) c7) = W8 at *
    go_wp2
    go_roundg (gk - 1)
    case measure => omega
    case rel => exact ⟨j + 1, _, by go_num, by omega, P7⟩
   ·skip
    go_simp
    refine hrec.mono ?_
    rintro e Z ⟨hbZ, nv', pv', rfl, hrd⟩
    obtain ⟨na', nc', pa', pc', rfl, rfl⟩ := hrd.slices
    have hPZ := hPd.up hbZ
    have sxZ := sx.up hbZ
    refine hK0.out _ _ sxZ (fun _ => ?_)
    clear hK0
    try simp only [Act.put, lyt]
    have c6Z := hPZ.a.2.2.2.2.2.2.1
    simp only [Nat.zero_add] at c6Z
    refine wpAnyH_ready (rs := [1, 4]) (by kernel_rfl) (by simp) ?_
    refine AllReadyH.cons rfl (fun K0 hK0 => ?_) (AllReadyH.cons rfl (fun K0 hK0 => ?_) AllReadyH.nil)
    ·skip
     have cL := c6Z
     go_simp
     refine hK0.out _ _ sxZ (fun _ => ?_)
     clear hK0 cL
     try simp only [Act.put, lyt]
     refine rd1 4 (by kernel_rfl) rfl fun K19 hK19 => ?_
     go_simp
     refine hK19.out _ _ (sxZ.up ((Below.refl Z.heap.size Z).alloc (Nat.le_refl _) (.cells #[.int .i64 (inF x).kind, .string (inF x).ty, .int .u64 (inF x).bits, .int .u64 (inF x).imag, .string (inF x).text, .slice na' (inF x).names.length nc', .slice pa' (inF x).parts.length pc', .int .i64 (inF x).hook] 26))) (fun _ => ?_)
     clear hK19
     try simp only [Act.put, lyt]
     refine rd1 5 (by kernel_rfl) rfl fun K20 hK20 => ?_
     rw [if_pos (by rfl)]
     have hZl : Yd.heap.size ≤ Z.heap.size := hbZ.size
     have hW6l : W6.heap.size ≤ Yd.heap.size := hPd.g.size
     have hy : RdS n (fun b => W6.heap.size ≤ b ∧ (Value.slice pa lj.length pc).ownBlock ≠ some b) Z (.slice na' (inF x).names.length nc') (.slice pa' (inF x).parts.length pc') (inF x) := hrd.turn fun b hb _ => ⟨⟨Nat.le_trans hW6l hb, fun e => by have h1 := (hPd.r.lt b e).2; have h2 : Yd.heap.size ≤ b := hb; omega⟩, fun _ => rfl⟩
     refine wp_app8 _ _ rfl hPZ.r (inF x) _ _ hy rfl rfl rfl hll (Nat.le_trans hW6l hZl) ?_
     rintro v7 w7 ⟨ao7, c7, rfl⟩ R7 g7
     have sx7 : At8 w7 xb 0 x (.slice nax x.names.length ncx) (.slice pax x.parts.length pcx) := by
      have hne : some xb ≠ (Value.slice pa lj.length pc).ownBlock := fun e => hxb e.symm
      have hlt : xb < Z.heap.size := lt_of_cell sxZ.1
      have hc : ∀ o, w7.cell? ⟨xb, o, none⟩ = Z.cell? ⟨xb, o, none⟩ := fun o => g7.cell_far ⟨xb, o, none⟩ hlt hne
      obtain ⟨q0, q1, q2, q3, q4, q5, q6, q7⟩ := sxZ
      exact ⟨(hc _).trans q0, (hc _).trans q1, (hc _).trans q2, (hc _).trans q3, (hc _).trans q4, (hc _).trans q5, (hc _).trans q6, (hc _).trans q7⟩
     refine hK20.out _ _ sx7 (fun _ => ?_)
     clear hK20
     try simp only [Act.put, lyt]
     have P7 := hPZ.app R7 g7
     have f7 : w7.frozen? ⟨X, 6, none⟩ = false := by have := P7.z 6; rwa [World.frozen?_setCell] at this
     have c67 : w7.cell? ⟨X, 6, none⟩ = some (.slice pa lj.length pc) := by
      have c6Z := hPZ.a.2.2.2.2.2.2.1
      simp only [Nat.zero_add] at c6Z
      exact g7.cell c6Z (fun e => by have h1 := (hPZ.r.lt X e.symm).1; omega)
     refine rd1 6 (by kernel_rfl) rfl fun K21 hK21 => ?_
     go_simp
     refine hK21.out _ _ sx7 (fun _ => ?_)
     clear hK21
     try simp only [Act.put, lyt]
     have sx8 : At8 (w7.setCell ⟨X, 6, none⟩ (.slice ao7 (lj.length + 1) c7)) xb 0 x (.slice nax x.names.length ncx) (.slice pax x.parts.length pcx) := by
      have hc : ∀ o, (w7.setCell ⟨X, 6, none⟩ (.slice ao7 (lj.length + 1) c7)).cell? ⟨xb, o, none⟩ = w7.cell? ⟨xb, o, none⟩ := fun o => World.cell?_of_block (w := w7) (a := ⟨xb, o, none⟩) (Below.heap_setCell _ _ _ _ hxX)
      obtain ⟨q0, q1, q2, q3, q4, q5, q6, q7⟩ := sx7
      exact ⟨(hc _).trans q0, (hc _).trans q1, (hc _).trans q2, (hc _).trans q3, (hc _).trans q4, (hc _).trans q5, (hc _).trans q6, (hc _).trans q7⟩
     refine rd1 7 (by kernel_rfl) rfl fun K22 hK22 => ?_
     go_simp
     refine hK22.out _ _ sx8 (fun _ => ?_)
     clear hK22
     try simp only [Act.put, lyt]
     refine wpAnyH_done (by kernel_rfl) ?_ _
     rw [HL.out] at P7
     clear hS hrec hPd hPZ hrd hy R7 g7 f7 c67 c6 sx7 sx8 sxZ sx
     generalize w7.setCell ⟨X, 6, none⟩ (.slice ao7 (lj.length + 1) c7) = W8 at *
     go_wp2
     go_roundg (gk - 1)
     case measure => omega
     case rel => exact ⟨j + 1, _, by go_num, by omega, P7⟩
    ·skip
     go_simp
     refine hK0.out _ _ (sxZ.up ((Below.refl Z.heap.size Z).alloc (Nat.le_refl _) (.cells #[.int .i64 (inF x).kind, .string (inF x).ty, .int .u64 (inF x).bits, .int .u64 (inF x).imag, .string (inF x).text, .slice na' (inF x).names.length nc', .slice pa' (inF x).parts.length pc', .int .i64 (inF x).hook] 26))) (fun _ => ?_)
     clear hK0
     try simp only [Act.put, lyt]
     have c6Y := up_cell ((Below.refl Z.heap.size Z).alloc (Nat.le_refl _) (.cells #[.int .i64 (inF x).kind, .string (inF x).ty, .int .u64 (inF x).bits, .int .u64 (inF x).imag, .string (inF x).text, .slice na' (inF x).names.length nc', .slice pa' (inF x).parts.length pc', .int .i64 (inF x).hook] 26)) c6Z
     refine rd1 1 (by kernel_rfl) rfl fun K23 hK23 => ?_
     have cL := c6Y
     go_simp
     refine hK23.out _ _ (sxZ.up ((Below.refl Z.heap.size Z).alloc (Nat.le_refl _) (.cells #[.int .i64 (inF x).kind, .string (inF x).ty, .int .u64 (inF x).bits, .int .u64 (inF x).imag, .string (inF x).text, .slice na' (inF x).names.length nc', .slice pa' (inF x).parts.length pc', .int .i64 (inF x).hook] 26))) (fun _ => ?_)
     clear hK23 cL
     try simp only [Act.put, lyt]
     refine rd1 5 (by kernel_rfl) rfl fun K24 hK24 => ?_
     rw [if_pos (by rfl)]
     have hZl : Yd.heap.size ≤ Z.heap.size := hbZ.size
     have hW6l : W6.heap.size ≤ Yd.heap.size := hPd.g.size
     have hy : RdS n (fun b => W6.heap.size ≤ b ∧ (Value.slice pa lj.length pc).ownBlock ≠ some b) Z (.slice na' (inF x).names.length nc') (.slice pa' (inF x).parts.length pc') (inF x) := hrd.turn fun b hb _ => ⟨⟨Nat.le_trans hW6l hb, fun e => by have h1 := (hPd.r.lt b e).2; have h2 : Yd.heap.size ≤ b := hb; omega⟩, fun _ => rfl⟩
     refine wp_app8 _ _ rfl hPZ.r (inF x) _ _ hy rfl rfl rfl hll (Nat.le_trans hW6l hZl) ?_
     rintro v7 w7 ⟨ao7, c7, rfl⟩ R7 g7
     have sx7 : At8 w7 xb 0 x (.slice nax x.names.length ncx) (.slice pax x.parts.length pcx) := by
      have hne : some xb ≠ (Value.slice pa lj.length pc).ownBlock := fun e => hxb e.symm
      have hlt : xb < Z.heap.size := lt_of_cell sxZ.1
      have hc : ∀ o, w7.cell? ⟨xb, o, none⟩ = Z.cell? ⟨xb, o, none⟩ := fun o => g7.cell_far ⟨xb, o, none⟩ hlt hne
      obtain ⟨q0, q1, q2, q3, q4, q5, q6, q7⟩ := sxZ
      exact ⟨(hc _).trans q0, (hc _).trans q1, (hc _).trans q2, (hc _).trans q3, (hc _).trans q4, (hc _).trans q5, (hc _).trans q6, (hc _).trans q7⟩
     refine hK24.out _ _ sx7 (fun _ => ?_)
     clear hK24
     try simp only [Act.put, lyt]
     have P7 := hPZ.app R7 g7
     have f7 : w7.frozen? ⟨X, 6, none⟩ = false := by have := P7.z 6; rwa [World.frozen?_setCell] at this
     have c67 : w7.cell? ⟨X, 6, none⟩ = some (.slice pa lj.length pc) := by
      have c6Z := hPZ.a.2.2.2.2.2.2.1
      simp only [Nat.zero_add] at c6Z
      exact g7.cell c6Z (fun e => by have h1 := (hPZ.r.lt X e.symm).1; omega)
     refine rd1 6 (by kernel_rfl) rfl fun K25 hK25 => ?_
     go_simp
     refine hK25.out _ _ sx7 (fun _ => ?_)
     clear hK25
     try simp only [Act.put, lyt]
     have sx8 : At8 (w7.setCell ⟨X, 6, none⟩ (.slice ao7 (lj.length + 1) c7)) xb 0 x (.slice nax x.names.length ncx) (.slice pax x.parts.length pcx) := by
      have hc : ∀ o, (w7.setCell ⟨X, 6, none⟩ (.slice ao7 (lj.length + 1) c7)).cell? ⟨xb, o, none⟩ = w7.cell? ⟨xb, o, none⟩ := fun o => World.cell?_of_block (w := w7) (a := ⟨xb, o, none⟩) (Below.heap_setCell _ _ _ _ hxX)
      obtain ⟨q0, q1, q2, q3, q4, q5, q6, q7⟩ := sx7
      exact ⟨(hc _).trans q0, (hc _).trans q1, (hc _).trans q2, (hc _).trans q3, (hc _).trans q4, (hc _).trans q5, (hc _).trans q6, (hc _).trans q7⟩
     refine rd1 7 (by kernel_rfl) rfl fun K26 hK26 => ?_
     go_simp
     refine hK26.out _ _ sx8 (fun _ => ?_)
     clear hK26
     try simp only [Act.put, lyt]
     refine wpAnyH_done (by kernel_rfl) ?_ _
     rw [HL.out] at P7
     clear hS hrec hPd hPZ hrd hy R7 g7 f7 c67 c6 sx7 sx8 sxZ sx
     generalize w7.setCell ⟨X, 6, none⟩ (.slice ao7 (lj.length + 1) c7) = W8 at *
     go_wp2
     go_roundg (gk - 1)
     case measure => omega
     case rel => exact ⟨j + 1, _, by go_num, by omega, P7⟩
  ·have hltI : ¬ (j : Int) < parts.length := by omega
   have hje : j = parts.length := by omega
   subst hje
   rw [List.take_length] at hP
   obtain ⟨pa, pc, hpv, -, -⟩ := hP.r.slice
   obtain ⟨⟨z0, z1, z2, z3, z4, z5, z6, z7⟩, zf⟩ := zz7.gr hP.g (by omega)
   have hbx := below_gr b7 hP.g (by omega) hw6
   have Nx := N7.turn (kept_gr hP.g fun b hb => by omega)
   have Rx := hP.r
   obtain ⟨a0, a1, a2, a3, a4, a5, a6, a7⟩ := hP.a
   simp only [Nat.zero_add] at a0 a1 a2 a3 a4 a5 a6 a7
   have m0' := hP.g.cell m0 (fun e => by have := Option.some.inj e; dsimp only at this; omega)
   have y0 := zf 0
   have y1 := zf 1
   have y2 := zf 2
   have y3 := zf 3
   have y4 := zf 4
   have y5 := zf 5
   have y6 := zf 6
   have y7 := zf 7
   have xf6 := hP.z 6
   have hW6r := hP.g.size
   obtain ⟨nao, ncc, hnv2, -, -, -⟩ := id Nx
   rw [List.length_map] at hpv
   rw [List.length_nil] at hnv2
   subst hpv hnv2
   clear hP ih hcell
   go_wp2
   obtain ⟨r0, r1, r2, r3, r4, r5, r6, r7⟩ := set8 z0 z1 z2 z3 z4 z5 z6 z7 (.int .i64 19) (.string ty) (.int .u64 0) (.int .u64 0) (.string ⟨#[]⟩) (.slice nao 0 ncc) (.slice pa parts.length pc) (.int .i64 hook)
   refine bodyPost_ret (v := .agg #[.int .i64 19, .string ty, .int .u64 0, .int .u64 0, .string ⟨#[]⟩, .slice nao 0 ncc, .slice pa parts.length pc, .int .i64 hook]) (by simp [results, Tryz.results35, go_sem, r0, r1, r2, r3, r4, r5, r6, r7]) rfl ?_
   refine ⟨set8_below hbx (by omega), _, _, rfl, ?_, ?_⟩
   ·exact Nx.turn fun b hb hlt => ⟨by omega, fun o => set8_other (by omega) o⟩
   ·refine Row8.pt (B := W6.heap.size) ?_ _ fun b hb => by omega
    exact (((((((Rx.set (by omega) _ _).set (by omega) _ _).set (by omega) _ _).set (by omega) _ _).set (by omega) _ _).set (by omega) _ _).set (by omega) _ _).set (by omega) _ _
set_option maxRecDepth 1000000 in
set_option maxHeartbeats 4000000 in
theorem oing_20 (n : Nat) (ty : ByteArray) (bits imag : Int) (text : ByteArray) (names : List ByteArray) (parts : List D) (hook : Int) (na pa0 : Option Addr) (nc pc0 : Nat) (w : World) (hl : parts.length ≤ 1000) (ih : ∀ x ∈ parts, InR n x)
  (hcell : ∀ (i : Nat) (x : D), parts[i]? = some x → ∃ b off nv' pv', pa0 = some ⟨b, off, none⟩ ∧ At8 w b (off + i * 8) x nv' pv' ∧ RdC n w nv' pv' x) :
  Calls Tryz.prog 35 #[.agg #[.int .i64 20, .string ty, .int .u64 bits, .int .u64 imag, .string text, .slice na names.length nc, .slice pa0 parts.length pc0, .int .i64 hook]] w fun e w' => Below w.heap.size w w' ∧ ∃ nv pv, e = .returned (.agg #[.int .i64 20, .string ty, .int .u64 0, .int .u64 0, .string ⟨#[]⟩, nv, pv, .int .i64 hook]) ∧ Nm w' (fun b => w.heap.size ≤ b) nv ([] : List ByteArray) ∧ Pt n (fun b => w.heap.size ≤ b) w' pv (parts.map inF) := by
 have hwh : ∀ W, Calls Tryz.prog 66 #[.int .i64 20] W fun e w' => e = .returned (.bool false) ∧ w' = W := fun W => owhole_any 20 W
 have hgr : ∀ W, Calls Tryz.prog 68 #[.int .i64 20] W fun e w' => e = .returned (.bool true) ∧ w' = W := fun W => ogreat_any 20 W
 obtain ⟨W5, hW5⟩ : ∃ W5, W5 = ((w.alloc (.cells #[.int .i64 20, .string ty, .int .u64 bits, .int .u64 imag, .string text, .slice na names.length nc, .slice pa0 parts.length pc0, .int .i64 hook] 26)).alloc (.cells #[.int .i64 0, .string ⟨#[]⟩, .int .u64 0, .int .u64 0, .string ⟨#[]⟩, .slice none 0 0, .slice none 0 0, .int .i64 0] 26)).alloc (.cells #[.int .i64 20, .string ty, .int .u64 0, .int .u64 0, .string ⟨#[]⟩, .slice none 0 0, .slice none 0 0, .int .i64 hook] 26) := ⟨_, rfl⟩
 have b5 : Below w.heap.size w W5 := by rw [hW5]; exact bel3 _ _ _ _
 have a5 : At8 W5 (w.heap.size + 2) 0 ⟨20, ty, 0, 0, ⟨#[]⟩, [], [], hook⟩ (.slice none 0 0) (.slice none 0 0) := by
  rw [hW5]
  refine ⟨?_, ?_, ?_, ?_, ?_, ?_, ?_, ?_⟩
  all_goals simp [go_sem]
 have e2 : ((w.alloc (.cells #[.int .i64 20, .string ty, .int .u64 bits, .int .u64 imag, .string text, .slice na names.length nc, .slice pa0 parts.length pc0, .int .i64 hook] 26)).alloc (.cells #[.int .i64 0, .string ⟨#[]⟩, .int .u64 0, .int .u64 0, .string ⟨#[]⟩, .slice none 0 0, .slice none 0 0, .int .i64 0] 26)).heap.size = w.heap.size + 2 := by simp
 have e1 : (w.alloc (.cells #[.int .i64 20, .string ty, .int .u64 bits, .int .u64 imag, .string text, .slice na names.length nc, .slice pa0 parts.length pc0, .int .i64 hook] 26)).heap.size = w.heap.size + 1 := by simp
 have z5 : ∀ i, W5.frozen? ⟨w.heap.size + 2, i, none⟩ = false := fun i => by
  rw [hW5, frozen?_alloc_cells, ← e2]
  exact frozen_none _ _ (Nat.le_refl _)
 have zz5 : Zero8 W5 (w.heap.size + 1) := by
  refine ⟨by rw [hW5]; refine ⟨?_, ?_, ?_, ?_, ?_, ?_, ?_, ?_⟩ <;> simp [go_sem], fun i => ?_⟩
  rw [hW5, frozen?_alloc_cells, frozen?_alloc_cells, ← e1]
  exact frozen_none _ _ (Nat.le_refl _)
 have k0 : W5.cell? ⟨w.heap.size, 0, none⟩ = some (.int .i64 20) := by rw [hW5]; simp [go_sem]
 have k5 : W5.cell? ⟨w.heap.size, 5, none⟩ = some (.slice na names.length nc) := by rw [hW5]; simp [go_sem]
 have k6 : W5.cell? ⟨w.heap.size, 6, none⟩ = some (.slice pa0 parts.length pc0) := by rw [hW5]; simp [go_sem]
 have s5 : w.heap.size + 3 ≤ W5.heap.size := by rw [hW5]; simp
 clear e1 e2
 go_enter Tryz.func35, Tryz.ntmps35
 go_upto_region 22 with (first | (go_at_call 66; refine (hwh _).mono ?_; rintro e w1 ⟨rfl, hw⟩; rw [hw]; clear hw) | (go_at_call 68; refine (hgr _).mono ?_; rintro e w1 ⟨rfl, hw⟩; rw [hw]; clear hw))
 rw [← hW5]
 clear hW5
 obtain ⟨nv, hnv⟩ : ∃ nv, nv = Value.slice none 0 0 := ⟨_, rfl⟩
 have a7 : At8 W5 (w.heap.size + 2) 0 ⟨20, ty, 0, 0, ⟨#[]⟩, [], [], hook⟩ nv (.slice none 0 0) := by rw [hnv]; exact a5
 have N7 : Nm W5 (fun b => w.heap.size + 1 < b ∧ b ≠ w.heap.size + 2) nv [] := by rw [hnv]; exact Nm.nil _ _
 obtain ⟨W6, hW6⟩ : ∃ W6, W6 = W5 := ⟨_, rfl⟩
 subst hW6
 have z7 := z5
 have zz7 := zz5
 have b7 := b5
 have m0 := k0
 have m6 := k6
 have s7 := s5
 clear a5 z5 zz5 b5 k0 k5 k6 s5 hnv
 obtain ⟨X, hX⟩ : ∃ X, w.heap.size + 2 = X := ⟨_, rfl⟩
 have p7 : PBx W6 (w.heap.size + 2) n ⟨20, ty, 0, 0, ⟨#[]⟩, [], [], hook⟩ nv (.slice none 0 0) [] W6 := ⟨World.grownBy.refl _ _, a7, z7, Row8.nil _ _ _, by omega⟩
 have hw6 := b7.size
 have hX6 : X < W6.heap.size := by omega
 have hXw : w.heap.size + 1 < X := by omega
 have hXe : X ≤ w.heap.size + 2 := by omega
 rw [hX] at p7 N7
 simp only [hX]
 clear hX a7 z7
 have hlI : (parts.length : Int) ≤ 1000 := by omega
 go_wp2_with fail
 go_loopg [5, 108] parts.length (fun g z iv wr => ∃ (j : Nat) (pv : Value), iv = .int .i64 (j : Nat) ∧ j + g = parts.length ∧ PBx W6 X n ⟨20, ty, 0, 0, ⟨#[]⟩, [], [], hook⟩ nv pv ((parts.take j).map inF) wr)
 case atStart => exact ⟨0, _, rfl, by omega, by simpa using p7⟩
 case round =>
  obtain ⟨j, pv, rfl, hjg, hP⟩ := hrel
  clear p7
  by_cases hlt : j < parts.length
  ·have hltI : (j : Int) < parts.length := by omega
   obtain ⟨x, hx⟩ : ∃ x, parts[j]? = some x := ⟨_, List.getElem?_eq_getElem hlt⟩
   obtain ⟨b, off, nvx, pvx, rfl, ax, hrx⟩ := hcell j x hx
   obtain ⟨nax, ncx, pax, pcx, hn1, hp1⟩ := hrx.slices
   have hbw : b < w.heap.size := lt_of_cell ax.1
   have bwr : Below w.heap.size w wr := below_gr b7 hP.g (by omega) hw6
   obtain ⟨c0, c1, c2, c3, c4, c5, c6', c7'⟩ := ax.up bwr
   obtain ⟨Y2, hY2⟩ : ∃ Y2, Y2 = wr.alloc (.cells #[.int .i64 x.kind, .string x.ty, .int .u64 x.bits, .int .u64 x.imag, .string x.text, .slice nax x.names.length ncx, .slice pax x.parts.length pcx, .int .i64 x.hook] 26) := ⟨_, rfl⟩
   have hbY : Below wr.heap.size wr Y2 := by rw [hY2]; exact (Below.refl _ _).alloc (Nat.le_refl _) _
   subst hn1 hp1
   have sY : At8 Y2 wr.heap.size 0 x (.slice nax x.names.length ncx) (.slice pax x.parts.length pcx) := by
    rw [hY2]
    refine ⟨?_, ?_, ?_, ?_, ?_, ?_, ?_, ?_⟩
    all_goals simp [go_sem]
   have hxb : (Value.ownBlock pv) ≠ some wr.heap.size := fun e => by have := (hP.r.lt _ e).2; omega
   have hxX : wr.heap.size ≠ X := by have := hP.g.size; omega
   have hPy := hP.up hbY
   have hrY : RdC n Y2 (.slice nax x.names.length ncx) (.slice pax x.parts.length pcx) x := hrx.up (bwr.trans (hbY.mono bwr.size))
   have HL : Hid (((parts.take j).map inF) ++ [inF x] = (parts.take (j + 1)).map inF) := by
    show _ = _
    rw [List.take_add_one, hx, List.map_append]; rfl
   have hll : ((parts.take j).map inF).length ≤ 100000 := by rw [List.length_map, List.length_take]; omega
   have hix := ih x (List.mem_of_getElem? hx)
   obtain ⟨xb, hxbe⟩ : ∃ xb, wr.heap.size = xb := ⟨_, rfl⟩
   go_upto_region 25 with fail
   rw [← hY2]
   rw [hxbe] at sY hxb hxX
   try simp only [hxbe]
   clear hY2 hx ax hrx hbw c0 c1 c2 c3 c4 c5 c6' c7' hP hbY bwr hxbe
   obtain ⟨Yd, hYd⟩ : ∃ Yd, Yd = Y2.drew := ⟨_, rfl⟩
   have hPd : PBx W6 X n ⟨20, ty, 0, 0, ⟨#[]⟩, [], [], hook⟩ nv pv ((parts.take j).map inF) Yd := by rw [hYd]; exact hPy.up (Below.refl _ _).drew
   have sx : At8 Yd xb 0 x (.slice nax x.names.length ncx) (.slice pax x.parts.length pcx) := by rw [hYd]; exact sY
   have hrec := hix Yd _ _ (by rw [hYd]; exact hrY.up (Below.refl _ _).drew)
   generalize (parts.take j).map inF = lj at *
   obtain ⟨pa, pc, rfl, -, -⟩ := hPd.r.slice
   have c6 := hPd.a.2.2.2.2.2.2.1
   simp only [Nat.zero_add] at c6
   refine wp_region_held_drew (S := fun w' : World => At8 w' xb 0 x (.slice nax x.names.length ncx) (.slice pax x.parts.length pcx)) (by kernel_rfl) (by rw [← hYd]; exact sx) ?_
   rw [← hYd]
   clear hYd sY hPy hrY hix ih hcell
   obtain ⟨nvx, hnvx⟩ : ∃ v, v = Value.slice nax x.names.length ncx := ⟨_, rfl⟩
   obtain ⟨pvx, hpvx⟩ : ∃ v, v = Value.slice pax x.parts.length pcx := ⟨_, rfl⟩
   intro hS
   refine tk 0 (.pointer (some ⟨X, 6, none⟩)) rfl (by kernel_rfl) (fun _ _ _ h => h) (by rfl) (by assumption) ?_ ?_
   ·intro w5 s0
    go_simp
   try simp only [Act.put, lyt]
   refine tk 2 (.agg #[.int .i64 x.kind, .string x.ty, .int .u64 x.bits, .int .u64 x.imag, .string x.text, .slice nax x.names.length ncx, .slice pax x.parts.length pcx, .int .i64 x.hook]) rfl (by kernel_rfl) (fun _ _ _ h => h) (by rfl) (by assumption) ?_ ?_
   ·intro w5 s0
    obtain ⟨q0, q1, q2, q3, q4, q5, q6, q7⟩ := s0
    simp only [Nat.zero_add] at q0 q1 q2 q3 q4 q5 q6 q7
    go_simp
   try simp only [Act.put, lyt]
   rw [← hnvx, ← hpvx] at sx
   subst hnvx hpvx
   refine wpAnyH_ready (rs := [1, 3]) (by kernel_rfl) (by simp) ?_
   refine AllReadyH.cons rfl (fun K0 hK0 => ?_) (AllReadyH.cons rfl (fun K0 hK0 => ?_) AllReadyH.nil)
   ·skip
    have cL := c6
    go_simp
    refine hK0.out _ _ sx (fun _ => ?_)
    clear hK0 cL
    try simp only [Act.put, lyt]
    refine rd1 3 (by kernel_rfl) rfl fun K27 hK27 => ?_
    go_simp
    refine hrec.mono ?_
    rintro e Z ⟨hbZ, nv', pv', rfl, hrd⟩
    obtain ⟨na', nc', pa', pc', rfl, rfl⟩ := hrd.slices
    have hPZ := hPd.up hbZ
    have sxZ := sx.up hbZ
    refine hK27.out _ _ sxZ (fun _ => ?_)
    clear hK27
    try simp only [Act.put, lyt]
    refine rd1 4 (by kernel_rfl) rfl fun K28 hK28 => ?_
    go_simp
    refine hK28.out _ _ (sxZ.up ((Below.refl Z.heap.size Z).alloc (Nat.le_refl _) (.cells #[.int .i64 (inF x).kind, .string (inF x).ty, .int .u64 (inF x).bits, .int .u64 (inF x).imag, .string (inF x).text, .slice na' (inF x).names.length nc', .slice pa' (inF x).parts.length pc', .int .i64 (inF x).hook] 26))) (fun _ => ?_)
    clear hK28
    try simp only [Act.put, lyt]
    refine rd1 5 (by kernel_rfl) rfl fun K29 hK29 => ?_
    rw [if_pos (by rfl)]
    have hZl : Yd.heap.size ≤ Z.heap.size := hbZ.size
    have hW6l : W6.heap.size ≤ Yd.heap.size := hPd.g.size
    have hy : RdS n (fun b => W6.heap.size ≤ b ∧ (Value.slice pa lj.length pc).ownBlock ≠ some b) Z (.slice na' (inF x).names.length nc') (.slice pa' (inF x).parts.length pc') (inF x) := hrd.turn fun b hb _ => ⟨⟨Nat.le_trans hW6l hb, fun e => by have h1 := (hPd.r.lt b e).2; have h2 : Yd.heap.size ≤ b := hb; omega⟩, fun _ => rfl⟩
    refine wp_app8 _ _ rfl hPZ.r (inF x) _ _ hy rfl rfl rfl hll (Nat.le_trans hW6l hZl) ?_
    rintro v7 w7 ⟨ao7, c7, rfl⟩ R7 g7
    have sx7 : At8 w7 xb 0 x (.slice nax x.names.length ncx) (.slice pax x.parts.length pcx) := by
     have hne : some xb ≠ (Value.slice pa lj.length pc).ownBlock := fun e => hxb e.symm
     have hlt : xb < Z.heap.size := lt_of_cell sxZ.1
     have hc : ∀ o, w7.cell? ⟨xb, o, none⟩ = Z.cell? ⟨xb, o, none⟩ := fun o => g7.cell_far ⟨xb, o, none⟩ hlt hne
     obtain ⟨q0, q1, q2, q3, q4, q5, q6, q7⟩ := sxZ
     exact ⟨(hc _).trans q0, (hc _).trans q1, (hc _).trans q2, (hc _).trans q3, (hc _).trans q4, (hc _).trans q5, (hc _).trans q6, (hc _).trans q7⟩
    refine hK29.out _ _ sx7 (fun _ => ?_)
    clear hK29
    try simp only [Act.put, lyt]
    have P7 := hPZ.app R7 g7
    have f7 : w7.frozen? ⟨X, 6, none⟩ = false := by have := P7.z 6; rwa [World.frozen?_setCell] at this
    have c67 : w7.cell? ⟨X, 6, none⟩ = some (.slice pa lj.length pc) := by
     have c6Z := hPZ.a.2.2.2.2.2.2.1
     simp only [Nat.zero_add] at c6Z
     exact g7.cell c6Z (fun e => by have h1 := (hPZ.r.lt X e.symm).1; omega)
    refine rd1 6 (by kernel_rfl) rfl fun K30 hK30 => ?_
    go_simp
    refine hK30.out _ _ sx7 (fun _ => ?_)
    clear hK30
    try simp only [Act.put, lyt]
    have sx8 : At8 (w7.setCell ⟨X, 6, none⟩ (.slice ao7 (lj.length + 1) c7)) xb 0 x (.slice nax x.names.length ncx) (.slice pax x.parts.length pcx) := by
     have hc : ∀ o, (w7.setCell ⟨X, 6, none⟩ (.slice ao7 (lj.length + 1) c7)).cell? ⟨xb, o, none⟩ = w7.cell? ⟨xb, o, none⟩ := fun o => World.cell?_of_block (w := w7) (a := ⟨xb, o, none⟩) (Below.heap_setCell _ _ _ _ hxX)
     obtain ⟨q0, q1, q2, q3, q4, q5, q6, q7⟩ := sx7
     exact ⟨(hc _).trans q0, (hc _).trans q1, (hc _).trans q2, (hc _).trans q3, (hc _).trans q4, (hc _).trans q5, (hc _).trans q6, (hc _).trans q7⟩
    refine rd1 7 (by kernel_rfl) rfl fun K31 hK31 => ?_
    go_simp
    refine hK31.out _ _ sx8 (fun _ => ?_)
    clear hK31
    try simp only [Act.put, lyt]
    refine wpAnyH_done (by kernel_rfl) ?_ _
    rw [HL.out] at P7
    clear hS hrec hPd hPZ hrd hy R7 g7 f7 c67 c6 sx7 sx8 sxZ sx
    generalize w7.setCell ⟨X, 6, none⟩ (.slice ao7 (lj.length + 1) c7) = W8 at *
    go_wp2
    go_roundg (gk - 1)
    case measure => omega
    case rel => exact ⟨j + 1, _, by go_num, by omega, P7⟩
   ·skip
    go_simp
    refine hrec.mono ?_
    rintro e Z ⟨hbZ, nv', pv', rfl, hrd⟩
    obtain ⟨na', nc', pa', pc', rfl, rfl⟩ := hrd.slices
    have hPZ := hPd.up hbZ
    have sxZ := sx.up hbZ
    refine hK0.out _ _ sxZ (fun _ => ?_)
    clear hK0
    try simp only [Act.put, lyt]
    have c6Z := hPZ.a.2.2.2.2.2.2.1
    simp only [Nat.zero_add] at c6Z
    refine wpAnyH_ready (rs := [1, 4]) (by kernel_rfl) (by simp) ?_
    refine AllReadyH.cons rfl (fun K0 hK0 => ?_) (AllReadyH.cons rfl (fun K0 hK0 => ?_) AllReadyH.nil)
    ·skip
     have cL := c6Z
     go_simp
     refine hK0.out _ _ sxZ (fun _ => ?_)
     clear hK0 cL
     try simp only [Act.put, lyt]
     refine rd1 4 (by kernel_rfl) rfl fun K32 hK32 => ?_
     go_simp
     refine hK32.out _ _ (sxZ.up ((Below.refl Z.heap.size Z).alloc (Nat.le_refl _) (.cells #[.int .i64 (inF x).kind, .string (inF x).ty, .int .u64 (inF x).bits, .int .u64 (inF x).imag, .string (inF x).text, .slice na' (inF x).names.length nc', .slice pa' (inF x).parts.length pc', .int .i64 (inF x).hook] 26))) (fun _ => ?_)
     clear hK32
     try simp only [Act.put, lyt]
     refine rd1 5 (by kernel_rfl) rfl fun K33 hK33 => ?_
     rw [if_pos (by rfl)]
     have hZl : Yd.heap.size ≤ Z.heap.size := hbZ.size
     have hW6l : W6.heap.size ≤ Yd.heap.size := hPd.g.size
     have hy : RdS n (fun b => W6.heap.size ≤ b ∧ (Value.slice pa lj.length pc).ownBlock ≠ some b) Z (.slice na' (inF x).names.length nc') (.slice pa' (inF x).parts.length pc') (inF x) := hrd.turn fun b hb _ => ⟨⟨Nat.le_trans hW6l hb, fun e => by have h1 := (hPd.r.lt b e).2; have h2 : Yd.heap.size ≤ b := hb; omega⟩, fun _ => rfl⟩
     refine wp_app8 _ _ rfl hPZ.r (inF x) _ _ hy rfl rfl rfl hll (Nat.le_trans hW6l hZl) ?_
     rintro v7 w7 ⟨ao7, c7, rfl⟩ R7 g7
     have sx7 : At8 w7 xb 0 x (.slice nax x.names.length ncx) (.slice pax x.parts.length pcx) := by
      have hne : some xb ≠ (Value.slice pa lj.length pc).ownBlock := fun e => hxb e.symm
      have hlt : xb < Z.heap.size := lt_of_cell sxZ.1
      have hc : ∀ o, w7.cell? ⟨xb, o, none⟩ = Z.cell? ⟨xb, o, none⟩ := fun o => g7.cell_far ⟨xb, o, none⟩ hlt hne
      obtain ⟨q0, q1, q2, q3, q4, q5, q6, q7⟩ := sxZ
      exact ⟨(hc _).trans q0, (hc _).trans q1, (hc _).trans q2, (hc _).trans q3, (hc _).trans q4, (hc _).trans q5, (hc _).trans q6, (hc _).trans q7⟩
     refine hK33.out _ _ sx7 (fun _ => ?_)
     clear hK33
     try simp only [Act.put, lyt]
     have P7 := hPZ.app R7 g7
     have f7 : w7.frozen? ⟨X, 6, none⟩ = false := by have := P7.z 6; rwa [World.frozen?_setCell] at this
     have c67 : w7.cell? ⟨X, 6, none⟩ = some (.slice pa lj.length pc) := by
      have c6Z := hPZ.a.2.2.2.2.2.2.1
      simp only [Nat.zero_add] at c6Z
      exact g7.cell c6Z (fun e => by have h1 := (hPZ.r.lt X e.symm).1; omega)
     refine rd1 6 (by kernel_rfl) rfl fun K34 hK34 => ?_
     go_simp
     refine hK34.out _ _ sx7 (fun _ => ?_)
     clear hK34
     try simp only [Act.put, lyt]
     have sx8 : At8 (w7.setCell ⟨X, 6, none⟩ (.slice ao7 (lj.length + 1) c7)) xb 0 x (.slice nax x.names.length ncx) (.slice pax x.parts.length pcx) := by
      have hc : ∀ o, (w7.setCell ⟨X, 6, none⟩ (.slice ao7 (lj.length + 1) c7)).cell? ⟨xb, o, none⟩ = w7.cell? ⟨xb, o, none⟩ := fun o => World.cell?_of_block (w := w7) (a := ⟨xb, o, none⟩) (Below.heap_setCell _ _ _ _ hxX)
      obtain ⟨q0, q1, q2, q3, q4, q5, q6, q7⟩ := sx7
      exact ⟨(hc _).trans q0, (hc _).trans q1, (hc _).trans q2, (hc _).trans q3, (hc _).trans q4, (hc _).trans q5, (hc _).trans q6, (hc _).trans q7⟩
     refine rd1 7 (by kernel_rfl) rfl fun K35 hK35 => ?_
     go_simp
     refine hK35.out _ _ sx8 (fun _ => ?_)
     clear hK35
     try simp only [Act.put, lyt]
     refine wpAnyH_done (by kernel_rfl) ?_ _
     rw [HL.out] at P7
     clear hS hrec hPd hPZ hrd hy R7 g7 f7 c67 c6 sx7 sx8 sxZ sx
     generalize w7.setCell ⟨X, 6, none⟩ (.slice ao7 (lj.length + 1) c7) = W8 at *
     go_wp2
     go_roundg (gk - 1)
     case measure => omega
     case rel => exact ⟨j + 1, _, by go_num, by omega, P7⟩
    ·skip
     go_simp
     refine hK0.out _ _ (sxZ.up ((Below.refl Z.heap.size Z).alloc (Nat.le_refl _) (.cells #[.int .i64 (inF x).kind, .string (inF x).ty, .int .u64 (inF x).bits, .int .u64 (inF x).imag, .string (inF x).text, .slice na' (inF x).names.length nc', .slice pa' (inF x).parts.length pc', .int .i64 (inF x).hook] 26))) (fun _ => ?_)
     clear hK0
     try simp only [Act.put, lyt]
     have c6Y := up_cell ((Below.refl Z.heap.size Z).alloc (Nat.le_refl _) (.cells #[.int .i64 (inF x).kind, .string (inF x).ty, .int .u64 (inF x).bits, .int .u64 (inF x).imag, .string (inF x).text, .slice na' (inF x).names.length nc', .slice pa' (inF x).parts.length pc', .int .i64 (inF x).hook] 26)) c6Z
     refine rd1 1 (by kernel_rfl) rfl fun K36 hK36 => ?_
     have cL := c6Y
     go_simp
     refine hK36.out _ _ (sxZ.up ((Below.refl Z.heap.size Z).alloc (Nat.le_refl _) (.cells #[.int .i64 (inF x).kind, .string (inF x).ty, .int .u64 (inF x).bits, .int .u64 (inF x).imag, .string (inF x).text, .slice na' (inF x).names.length nc', .slice pa' (inF x).parts.length pc', .int .i64 (inF x).hook] 26))) (fun _ => ?_)
     clear hK36 cL
     try simp only [Act.put, lyt]
     refine rd1 5 (by kernel_rfl) rfl fun K37 hK37 => ?_
     rw [if_pos (by rfl)]
     have hZl : Yd.heap.size ≤ Z.heap.size := hbZ.size
     have hW6l : W6.heap.size ≤ Yd.heap.size := hPd.g.size
     have hy : RdS n (fun b => W6.heap.size ≤ b ∧ (Value.slice pa lj.length pc).ownBlock ≠ some b) Z (.slice na' (inF x).names.length nc') (.slice pa' (inF x).parts.length pc') (inF x) := hrd.turn fun b hb _ => ⟨⟨Nat.le_trans hW6l hb, fun e => by have h1 := (hPd.r.lt b e).2; have h2 : Yd.heap.size ≤ b := hb; omega⟩, fun _ => rfl⟩
     refine wp_app8 _ _ rfl hPZ.r (inF x) _ _ hy rfl rfl rfl hll (Nat.le_trans hW6l hZl) ?_
     rintro v7 w7 ⟨ao7, c7, rfl⟩ R7 g7
     have sx7 : At8 w7 xb 0 x (.slice nax x.names.length ncx) (.slice pax x.parts.length pcx) := by
      have hne : some xb ≠ (Value.slice pa lj.length pc).ownBlock := fun e => hxb e.symm
      have hlt : xb < Z.heap.size := lt_of_cell sxZ.1
      have hc : ∀ o, w7.cell? ⟨xb, o, none⟩ = Z.cell? ⟨xb, o, none⟩ := fun o => g7.cell_far ⟨xb, o, none⟩ hlt hne
      obtain ⟨q0, q1, q2, q3, q4, q5, q6, q7⟩ := sxZ
      exact ⟨(hc _).trans q0, (hc _).trans q1, (hc _).trans q2, (hc _).trans q3, (hc _).trans q4, (hc _).trans q5, (hc _).trans q6, (hc _).trans q7⟩
     refine hK37.out _ _ sx7 (fun _ => ?_)
     clear hK37
     try simp only [Act.put, lyt]
     have P7 := hPZ.app R7 g7
     have f7 : w7.frozen? ⟨X, 6, none⟩ = false := by have := P7.z 6; rwa [World.frozen?_setCell] at this
     have c67 : w7.cell? ⟨X, 6, none⟩ = some (.slice pa lj.length pc) := by
      have c6Z := hPZ.a.2.2.2.2.2.2.1
      simp only [Nat.zero_add] at c6Z
      exact g7.cell c6Z (fun e => by have h1 := (hPZ.r.lt X e.symm).1; omega)
     refine rd1 6 (by kernel_rfl) rfl fun K38 hK38 => ?_
     go_simp
     refine hK38.out _ _ sx7 (fun _ => ?_)
     clear hK38
     try simp only [Act.put, lyt]
     have sx8 : At8 (w7.setCell ⟨X, 6, none⟩ (.slice ao7 (lj.length + 1) c7)) xb 0 x (.slice nax x.names.length ncx) (.slice pax x.parts.length pcx) := by
      have hc : ∀ o, (w7.setCell ⟨X, 6, none⟩ (.slice ao7 (lj.length + 1) c7)).cell? ⟨xb, o, none⟩ = w7.cell? ⟨xb, o, none⟩ := fun o => World.cell?_of_block (w := w7) (a := ⟨xb, o, none⟩) (Below.heap_setCell _ _ _ _ hxX)
      obtain ⟨q0, q1, q2, q3, q4, q5, q6, q7⟩ := sx7
      exact ⟨(hc _).trans q0, (hc _).trans q1, (hc _).trans q2, (hc _).trans q3, (hc _).trans q4, (hc _).trans q5, (hc _).trans q6, (hc _).trans q7⟩
     refine rd1 7 (by kernel_rfl) rfl fun K39 hK39 => ?_
     go_simp
     refine hK39.out _ _ sx8 (fun _ => ?_)
     clear hK39
     try simp only [Act.put, lyt]
     refine wpAnyH_done (by kernel_rfl) ?_ _
     rw [HL.out] at P7
     clear hS hrec hPd hPZ hrd hy R7 g7 f7 c67 c6 sx7 sx8 sxZ sx
     generalize w7.setCell ⟨X, 6, none⟩ (.slice ao7 (lj.length + 1) c7) = W8 at *
     go_wp2
     go_roundg (gk - 1)
     case measure => omega
     case rel => exact ⟨j + 1, _, by go_num, by omega, P7⟩
  ·have hltI : ¬ (j : Int) < parts.length := by omega
   have hje : j = parts.length := by omega
   subst hje
   rw [List.take_length] at hP
   obtain ⟨pa, pc, hpv, -, -⟩ := hP.r.slice
   obtain ⟨⟨z0, z1, z2, z3, z4, z5, z6, z7⟩, zf⟩ := zz7.gr hP.g (by omega)
   have hbx := below_gr b7 hP.g (by omega) hw6
   have Nx := N7.turn (kept_gr hP.g fun b hb => by omega)
   have Rx := hP.r
   obtain ⟨a0, a1, a2, a3, a4, a5, a6, a7⟩ := hP.a
   simp only [Nat.zero_add] at a0 a1 a2 a3 a4 a5 a6 a7
   have m0' := hP.g.cell m0 (fun e => by have := Option.some.inj e; dsimp only at this; omega)
   have y0 := zf 0
   have y1 := zf 1
   have y2 := zf 2
   have y3 := zf 3
   have y4 := zf 4
   have y5 := zf 5
   have y6 := zf 6
   have y7 := zf 7
   have xf6 := hP.z 6
   have hW6r := hP.g.size
   obtain ⟨nao, ncc, hnv2, -, -, -⟩ := id Nx
   rw [List.length_map] at hpv
   rw [List.length_nil] at hnv2
   subst hpv hnv2
   clear hP ih hcell
   go_wp2
   obtain ⟨r0, r1, r2, r3, r4, r5, r6, r7⟩ := set8 z0 z1 z2 z3 z4 z5 z6 z7 (.int .i64 20) (.string ty) (.int .u64 0) (.int .u64 0) (.string ⟨#[]⟩) (.slice nao 0 ncc) (.slice pa parts.length pc) (.int .i64 hook)
   refine bodyPost_ret (v := .agg #[.int .i64 20, .string ty, .int .u64 0, .int .u64 0, .string ⟨#[]⟩, .slice nao 0 ncc, .slice pa parts.length pc, .int .i64 hook]) (by simp [results, Tryz.results35, go_sem, r0, r1, r2, r3, r4, r5, r6, r7]) rfl ?_
   refine ⟨set8_below hbx (by omega), _, _, rfl, ?_, ?_⟩
   ·exact Nx.turn fun b hb hlt => ⟨by omega, fun o => set8_other (by omega) o⟩
   ·refine Row8.pt (B := W6.heap.size) ?_ _ fun b hb => by omega
    exact (((((((Rx.set (by omega) _ _).set (by omega) _ _).set (by omega) _ _).set (by omega) _ _).set (by omega) _ _).set (by omega) _ _).set (by omega) _ _).set (by omega) _ _
set_option maxRecDepth 1000000 in
set_option maxHeartbeats 4000000 in
theorem oing_21 (n : Nat) (ty : ByteArray) (bits imag : Int) (text : ByteArray) (names : List ByteArray) (parts : List D) (hook : Int) (na pa0 : Option Addr) (nc pc0 : Nat) (w : World) (hl : parts.length ≤ 1000) (hev : parts.length % 2 = 0) (hcmp : ∀ p ∈ prs2 (parts.map inF), ∀ q ∈ prs2 (parts.map inF), dcmp p.1 q.1 = cmpP p q) (ih : ∀ x ∈ parts, InR n x)
  (hcell : ∀ (i : Nat) (x : D), parts[i]? = some x → ∃ b off nv' pv', pa0 = some ⟨b, off, none⟩ ∧ At8 w b (off + i * 8) x nv' pv' ∧ RdC n w nv' pv' x) :
  Calls Tryz.prog 35 #[.agg #[.int .i64 21, .string ty, .int .u64 bits, .int .u64 imag, .string text, .slice na names.length nc, .slice pa0 parts.length pc0, .int .i64 hook]] w fun e w' => Below w.heap.size w w' ∧ ∃ nv pv, e = .returned (.agg #[.int .i64 21, .string ty, .int .u64 0, .int .u64 0, .string ⟨#[]⟩, nv, pv, .int .i64 hook]) ∧ Nm w' (fun b => w.heap.size ≤ b) nv ([] : List ByteArray) ∧ Pt n (fun b => w.heap.size ≤ b) w' pv (flat2 (isrt (prs2 (parts.map inF)))) := by
 have hwh : ∀ W, Calls Tryz.prog 66 #[.int .i64 21] W fun e w' => e = .returned (.bool false) ∧ w' = W := fun W => owhole_any 21 W
 have hgr : ∀ W, Calls Tryz.prog 68 #[.int .i64 21] W fun e w' => e = .returned (.bool true) ∧ w' = W := fun W => ogreat_any 21 W
 obtain ⟨W5, hW5⟩ : ∃ W5, W5 = ((w.alloc (.cells #[.int .i64 21, .string ty, .int .u64 bits, .int .u64 imag, .string text, .slice na names.length nc, .slice pa0 parts.length pc0, .int .i64 hook] 26)).alloc (.cells #[.int .i64 0, .string ⟨#[]⟩, .int .u64 0, .int .u64 0, .string ⟨#[]⟩, .slice none 0 0, .slice none 0 0, .int .i64 0] 26)).alloc (.cells #[.int .i64 21, .string ty, .int .u64 0, .int .u64 0, .string ⟨#[]⟩, .slice none 0 0, .slice none 0 0, .int .i64 hook] 26) := ⟨_, rfl⟩
 have b5 : Below w.heap.size w W5 := by rw [hW5]; exact bel3 _ _ _ _
 have a5 : At8 W5 (w.heap.size + 2) 0 ⟨21, ty, 0, 0, ⟨#[]⟩, [], [], hook⟩ (.slice none 0 0) (.slice none 0 0) := by
  rw [hW5]
  refine ⟨?_, ?_, ?_, ?_, ?_, ?_, ?_, ?_⟩
  all_goals simp [go_sem]
 have e2 : ((w.alloc (.cells #[.int .i64 21, .string ty, .int .u64 bits, .int .u64 imag, .string text, .slice na names.length nc, .slice pa0 parts.length pc0, .int .i64 hook] 26)).alloc (.cells #[.int .i64 0, .string ⟨#[]⟩, .int .u64 0, .int .u64 0, .string ⟨#[]⟩, .slice none 0 0, .slice none 0 0, .int .i64 0] 26)).heap.size = w.heap.size + 2 := by simp
 have e1 : (w.alloc (.cells #[.int .i64 21, .string ty, .int .u64 bits, .int .u64 imag, .string text, .slice na names.length nc, .slice pa0 parts.length pc0, .int .i64 hook] 26)).heap.size = w.heap.size + 1 := by simp
 have z5 : ∀ i, W5.frozen? ⟨w.heap.size + 2, i, none⟩ = false := fun i => by
  rw [hW5, frozen?_alloc_cells, ← e2]
  exact frozen_none _ _ (Nat.le_refl _)
 have zz5 : Zero8 W5 (w.heap.size + 1) := by
  refine ⟨by rw [hW5]; refine ⟨?_, ?_, ?_, ?_, ?_, ?_, ?_, ?_⟩ <;> simp [go_sem], fun i => ?_⟩
  rw [hW5, frozen?_alloc_cells, frozen?_alloc_cells, ← e1]
  exact frozen_none _ _ (Nat.le_refl _)
 have k0 : W5.cell? ⟨w.heap.size, 0, none⟩ = some (.int .i64 21) := by rw [hW5]; simp [go_sem]
 have k5 : W5.cell? ⟨w.heap.size, 5, none⟩ = some (.slice na names.length nc) := by rw [hW5]; simp [go_sem]
 have k6 : W5.cell? ⟨w.heap.size, 6, none⟩ = some (.slice pa0 parts.length pc0) := by rw [hW5]; simp [go_sem]
 have s5 : w.heap.size + 3 ≤ W5.heap.size := by rw [hW5]; simp
 clear e1 e2
 go_enter Tryz.func35, Tryz.ntmps35
 go_upto_region 22 with (first | (go_at_call 66; refine (hwh _).mono ?_; rintro e w1 ⟨rfl, hw⟩; rw [hw]; clear hw) | (go_at_call 68; refine (hgr _).mono ?_; rintro e w1 ⟨rfl, hw⟩; rw [hw]; clear hw))
 rw [← hW5]
 clear hW5
 obtain ⟨nv, hnv⟩ : ∃ nv, nv = Value.slice none 0 0 := ⟨_, rfl⟩
 have a7 : At8 W5 (w.heap.size + 2) 0 ⟨21, ty, 0, 0, ⟨#[]⟩, [], [], hook⟩ nv (.slice none 0 0) := by rw [hnv]; exact a5
 have N7 : Nm W5 (fun b => w.heap.size + 1 < b ∧ b ≠ w.heap.size + 2) nv [] := by rw [hnv]; exact Nm.nil _ _
 obtain ⟨W6, hW6⟩ : ∃ W6, W6 = W5 := ⟨_, rfl⟩
 subst hW6
 have z7 := z5
 have zz7 := zz5
 have b7 := b5
 have m0 := k0
 have m6 := k6
 have s7 := s5
 clear a5 z5 zz5 b5 k0 k5 k6 s5 hnv
 obtain ⟨X, hX⟩ : ∃ X, w.heap.size + 2 = X := ⟨_, rfl⟩
 have p7 : PBx W6 (w.heap.size + 2) n ⟨21, ty, 0, 0, ⟨#[]⟩, [], [], hook⟩ nv (.slice none 0 0) [] W6 := ⟨World.grownBy.refl _ _, a7, z7, Row8.nil _ _ _, by omega⟩
 have hw6 := b7.size
 have hX6 : X < W6.heap.size := by omega
 have hXw : w.heap.size + 1 < X := by omega
 have hXe : X ≤ w.heap.size + 2 := by omega
 rw [hX] at p7 N7
 simp only [hX]
 clear hX a7 z7
 have hlI : (parts.length : Int) ≤ 1000 := by omega
 go_wp2_with fail
 go_loopg [5, 108] parts.length (fun g z iv wr => ∃ (j : Nat) (pv : Value), iv = .int .i64 (j : Nat) ∧ j + g = parts.length ∧ PBx W6 X n ⟨21, ty, 0, 0, ⟨#[]⟩, [], [], hook⟩ nv pv ((parts.take j).map inF) wr)
 case atStart => exact ⟨0, _, rfl, by omega, by simpa using p7⟩
 case round =>
  obtain ⟨j, pv, rfl, hjg, hP⟩ := hrel
  clear p7
  by_cases hlt : j < parts.length
  ·have hltI : (j : Int) < parts.length := by omega
   obtain ⟨x, hx⟩ : ∃ x, parts[j]? = some x := ⟨_, List.getElem?_eq_getElem hlt⟩
   obtain ⟨b, off, nvx, pvx, rfl, ax, hrx⟩ := hcell j x hx
   obtain ⟨nax, ncx, pax, pcx, hn1, hp1⟩ := hrx.slices
   have hbw : b < w.heap.size := lt_of_cell ax.1
   have bwr : Below w.heap.size w wr := below_gr b7 hP.g (by omega) hw6
   obtain ⟨c0, c1, c2, c3, c4, c5, c6', c7'⟩ := ax.up bwr
   obtain ⟨Y2, hY2⟩ : ∃ Y2, Y2 = wr.alloc (.cells #[.int .i64 x.kind, .string x.ty, .int .u64 x.bits, .int .u64 x.imag, .string x.text, .slice nax x.names.length ncx, .slice pax x.parts.length pcx, .int .i64 x.hook] 26) := ⟨_, rfl⟩
   have hbY : Below wr.heap.size wr Y2 := by rw [hY2]; exact (Below.refl _ _).alloc (Nat.le_refl _) _
   subst hn1 hp1
   have sY : At8 Y2 wr.heap.size 0 x (.slice nax x.names.length ncx) (.slice pax x.parts.length pcx) := by
    rw [hY2]
    refine ⟨?_, ?_, ?_, ?_, ?_, ?_, ?_, ?_⟩
    all_goals simp [go_sem]
   have hxb : (Value.ownBlock pv) ≠ some wr.heap.size := fun e => by have := (hP.r.lt _ e).2; omega
   have hxX : wr.heap.size ≠ X := by have := hP.g.size; omega
   have hPy := hP.up hbY
   have hrY : RdC n Y2 (.slice nax x.names.length ncx) (.slice pax x.parts.length pcx) x := hrx.up (bwr.trans (hbY.mono bwr.size))
   have HL : Hid (((parts.take j).map inF) ++ [inF x] = (parts.take (j + 1)).map inF) := by
    show _ = _
    rw [List.take_add_one, hx, List.map_append]; rfl
   have hll : ((parts.take j).map inF).length ≤ 100000 := by rw [List.length_map, List.length_take]; omega
   have hix := ih x (List.mem_of_getElem? hx)
   obtain ⟨xb, hxbe⟩ : ∃ xb, wr.heap.size = xb := ⟨_, rfl⟩
   go_upto_region 25 with fail
   rw [← hY2]
   rw [hxbe] at sY hxb hxX
   try simp only [hxbe]
   clear hY2 hx ax hrx hbw c0 c1 c2 c3 c4 c5 c6' c7' hP hbY bwr hxbe
   obtain ⟨Yd, hYd⟩ : ∃ Yd, Yd = Y2.drew := ⟨_, rfl⟩
   have hPd : PBx W6 X n ⟨21, ty, 0, 0, ⟨#[]⟩, [], [], hook⟩ nv pv ((parts.take j).map inF) Yd := by rw [hYd]; exact hPy.up (Below.refl _ _).drew
   have sx : At8 Yd xb 0 x (.slice nax x.names.length ncx) (.slice pax x.parts.length pcx) := by rw [hYd]; exact sY
   have hrec := hix Yd _ _ (by rw [hYd]; exact hrY.up (Below.refl _ _).drew)
   generalize (parts.take j).map inF = lj at *
   obtain ⟨pa, pc, rfl, -, -⟩ := hPd.r.slice
   have c6 := hPd.a.2.2.2.2.2.2.1
   simp only [Nat.zero_add] at c6
   refine wp_region_held_drew (S := fun w' : World => At8 w' xb 0 x (.slice nax x.names.length ncx) (.slice pax x.parts.length pcx)) (by kernel_rfl) (by rw [← hYd]; exact sx) ?_
   rw [← hYd]
   clear hYd sY hPy hrY hix ih hcell
   obtain ⟨nvx, hnvx⟩ : ∃ v, v = Value.slice nax x.names.length ncx := ⟨_, rfl⟩
   obtain ⟨pvx, hpvx⟩ : ∃ v, v = Value.slice pax x.parts.length pcx := ⟨_, rfl⟩
   intro hS
   refine tk 0 (.pointer (some ⟨X, 6, none⟩)) rfl (by kernel_rfl) (fun _ _ _ h => h) (by rfl) (by assumption) ?_ ?_
   ·intro w5 s0
    go_simp
   try simp only [Act.put, lyt]
   refine tk 2 (.agg #[.int .i64 x.kind, .string x.ty, .int .u64 x.bits, .int .u64 x.imag, .string x.text, .slice nax x.names.length ncx, .slice pax x.parts.length pcx, .int .i64 x.hook]) rfl (by kernel_rfl) (fun _ _ _ h => h) (by rfl) (by assumption) ?_ ?_
   ·intro w5 s0
    obtain ⟨q0, q1, q2, q3, q4, q5, q6, q7⟩ := s0
    simp only [Nat.zero_add] at q0 q1 q2 q3 q4 q5 q6 q7
    go_simp
   try simp only [Act.put, lyt]
   rw [← hnvx, ← hpvx] at sx
   subst hnvx hpvx
   refine wpAnyH_ready (rs := [1, 3]) (by kernel_rfl) (by simp) ?_
   refine AllReadyH.cons rfl (fun K0 hK0 => ?_) (AllReadyH.cons rfl (fun K0 hK0 => ?_) AllReadyH.nil)
   ·skip
    have cL := c6
    go_simp
    refine hK0.out _ _ sx (fun _ => ?_)
    clear hK0 cL
    try simp only [Act.put, lyt]
    refine rd1 3 (by kernel_rfl) rfl fun K40 hK40 => ?_
    go_simp
    refine hrec.mono ?_
    rintro e Z ⟨hbZ, nv', pv', rfl, hrd⟩
    obtain ⟨na', nc', pa', pc', rfl, rfl⟩ := hrd.slices
    have hPZ := hPd.up hbZ
    have sxZ := sx.up hbZ
    refine hK40.out _ _ sxZ (fun _ => ?_)
    clear hK40
    try simp only [Act.put, lyt]
    refine rd1 4 (by kernel_rfl) rfl fun K41 hK41 => ?_
    go_simp
    refine hK41.out _ _ (sxZ.up ((Below.refl Z.heap.size Z).alloc (Nat.le_refl _) (.cells #[.int .i64 (inF x).kind, .string (inF x).ty, .int .u64 (inF x).bits, .int .u64 (inF x).imag, .string (inF x).text, .slice na' (inF x).names.length nc', .slice pa' (inF x).parts.length pc', .int .i64 (inF x).hook] 26))) (fun _ => ?_)
    clear hK41
    try simp only [Act.put, lyt]
    refine rd1 5 (by kernel_rfl) rfl fun K42 hK42 => ?_
    rw [if_pos (by rfl)]
    have hZl : Yd.heap.size ≤ Z.heap.size := hbZ.size
    have hW6l : W6.heap.size ≤ Yd.heap.size := hPd.g.size
    have hy : RdS n (fun b => W6.heap.size ≤ b ∧ (Value.slice pa lj.length pc).ownBlock ≠ some b) Z (.slice na' (inF x).names.length nc') (.slice pa' (inF x).parts.length pc') (inF x) := hrd.turn fun b hb _ => ⟨⟨Nat.le_trans hW6l hb, fun e => by have h1 := (hPd.r.lt b e).2; have h2 : Yd.heap.size ≤ b := hb; omega⟩, fun _ => rfl⟩
    refine wp_app8 _ _ rfl hPZ.r (inF x) _ _ hy rfl rfl rfl hll (Nat.le_trans hW6l hZl) ?_
    rintro v7 w7 ⟨ao7, c7, rfl⟩ R7 g7
    have sx7 : At8 w7 xb 0 x (.slice nax x.names.length ncx) (.slice pax x.parts.length pcx) := by
     have hne : some xb ≠ (Value.slice pa lj.length pc).ownBlock := fun e => hxb e.symm
     have hlt : xb < Z.heap.size := lt_of_cell sxZ.1
     have hc : ∀ o, w7.cell? ⟨xb, o, none⟩ = Z.cell? ⟨xb, o, none⟩ := fun o => g7.cell_far ⟨xb, o, none⟩ hlt hne
     obtain ⟨q0, q1, q2, q3, q4, q5, q6, q7⟩ := sxZ
     exact ⟨(hc _).trans q0, (hc _).trans q1, (hc _).trans q2, (hc _).trans q3, (hc _).trans q4, (hc _).trans q5, (hc _).trans q6, (hc _).trans q7⟩
    refine hK42.out _ _ sx7 (fun _ => ?_)
    clear hK42
    try simp only [Act.put, lyt]
    have P7 := hPZ.app R7 g7
    have f7 : w7.frozen? ⟨X, 6, none⟩ = false := by have := P7.z 6; rwa [World.frozen?_setCell] at this
    have c67 : w7.cell? ⟨X, 6, none⟩ = some (.slice pa lj.length pc) := by
     have c6Z := hPZ.a.2.2.2.2.2.2.1
     simp only [Nat.zero_add] at c6Z
     exact g7.cell c6Z (fun e => by have h1 := (hPZ.r.lt X e.symm).1; omega)
    refine rd1 6 (by kernel_rfl) rfl fun K43 hK43 => ?_
    go_simp
    refine hK43.out _ _ sx7 (fun _ => ?_)
    clear hK43
    try simp only [Act.put, lyt]
    have sx8 : At8 (w7.setCell ⟨X, 6, none⟩ (.slice ao7 (lj.length + 1) c7)) xb 0 x (.slice nax x.names.length ncx) (.slice pax x.parts.length pcx) := by
     have hc : ∀ o, (w7.setCell ⟨X, 6, none⟩ (.slice ao7 (lj.length + 1) c7)).cell? ⟨xb, o, none⟩ = w7.cell? ⟨xb, o, none⟩ := fun o => World.cell?_of_block (w := w7) (a := ⟨xb, o, none⟩) (Below.heap_setCell _ _ _ _ hxX)
     obtain ⟨q0, q1, q2, q3, q4, q5, q6, q7⟩ := sx7
     exact ⟨(hc _).trans q0, (hc _).trans q1, (hc _).trans q2, (hc _).trans q3, (hc _).trans q4, (hc _).trans q5, (hc _).trans q6, (hc _).trans q7⟩
    refine rd1 7 (by kernel_rfl) rfl fun K44 hK44 => ?_
    go_simp
    refine hK44.out _ _ sx8 (fun _ => ?_)
    clear hK44
    try simp only [Act.put, lyt]
    refine wpAnyH_done (by kernel_rfl) ?_ _
    rw [HL.out] at P7
    clear hS hrec hPd hPZ hrd hy R7 g7 f7 c67 c6 sx7 sx8 sxZ sx
    generalize w7.setCell ⟨X, 6, none⟩ (.slice ao7 (lj.length + 1) c7) = W8 at *
    go_wp2
    go_roundg (gk - 1)
    case measure => omega
    case rel => exact ⟨j + 1, _, by go_num, by omega, P7⟩
   ·skip
    go_simp
    refine hrec.mono ?_
    rintro e Z ⟨hbZ, nv', pv', rfl, hrd⟩
    obtain ⟨na', nc', pa', pc', rfl, rfl⟩ := hrd.slices
    have hPZ := hPd.up hbZ
    have sxZ := sx.up hbZ
    refine hK0.out _ _ sxZ (fun _ => ?_)
    clear hK0
    try simp only [Act.put, lyt]
    have c6Z := hPZ.a.2.2.2.2.2.2.1
    simp only [Nat.zero_add] at c6Z
    refine wpAnyH_ready (rs := [1, 4]) (by kernel_rfl) (by simp) ?_
    refine AllReadyH.cons rfl (fun K0 hK0 => ?_) (AllReadyH.cons rfl (fun K0 hK0 => ?_) AllReadyH.nil)
    ·skip
     have cL := c6Z
     go_simp
     refine hK0.out _ _ sxZ (fun _ => ?_)
     clear hK0 cL
     try simp only [Act.put, lyt]
     refine rd1 4 (by kernel_rfl) rfl fun K45 hK45 => ?_
     go_simp
     refine hK45.out _ _ (sxZ.up ((Below.refl Z.heap.size Z).alloc (Nat.le_refl _) (.cells #[.int .i64 (inF x).kind, .string (inF x).ty, .int .u64 (inF x).bits, .int .u64 (inF x).imag, .string (inF x).text, .slice na' (inF x).names.length nc', .slice pa' (inF x).parts.length pc', .int .i64 (inF x).hook] 26))) (fun _ => ?_)
     clear hK45
     try simp only [Act.put, lyt]
     refine rd1 5 (by kernel_rfl) rfl fun K46 hK46 => ?_
     rw [if_pos (by rfl)]
     have hZl : Yd.heap.size ≤ Z.heap.size := hbZ.size
     have hW6l : W6.heap.size ≤ Yd.heap.size := hPd.g.size
     have hy : RdS n (fun b => W6.heap.size ≤ b ∧ (Value.slice pa lj.length pc).ownBlock ≠ some b) Z (.slice na' (inF x).names.length nc') (.slice pa' (inF x).parts.length pc') (inF x) := hrd.turn fun b hb _ => ⟨⟨Nat.le_trans hW6l hb, fun e => by have h1 := (hPd.r.lt b e).2; have h2 : Yd.heap.size ≤ b := hb; omega⟩, fun _ => rfl⟩
     refine wp_app8 _ _ rfl hPZ.r (inF x) _ _ hy rfl rfl rfl hll (Nat.le_trans hW6l hZl) ?_
     rintro v7 w7 ⟨ao7, c7, rfl⟩ R7 g7
     have sx7 : At8 w7 xb 0 x (.slice nax x.names.length ncx) (.slice pax x.parts.length pcx) := by
      have hne : some xb ≠ (Value.slice pa lj.length pc).ownBlock := fun e => hxb e.symm
      have hlt : xb < Z.heap.size := lt_of_cell sxZ.1
      have hc : ∀ o, w7.cell? ⟨xb, o, none⟩ = Z.cell? ⟨xb, o, none⟩ := fun o => g7.cell_far ⟨xb, o, none⟩ hlt hne
      obtain ⟨q0, q1, q2, q3, q4, q5, q6, q7⟩ := sxZ
      exact ⟨(hc _).trans q0, (hc _).trans q1, (hc _).trans q2, (hc _).trans q3, (hc _).trans q4, (hc _).trans q5, (hc _).trans q6, (hc _).trans q7⟩
     refine hK46.out _ _ sx7 (fun _ => ?_)
     clear hK46
     try simp only [Act.put, lyt]
     have P7 := hPZ.app R7 g7
     have f7 : w7.frozen? ⟨X, 6, none⟩ = false := by have := P7.z 6; rwa [World.frozen?_setCell] at this
     have c67 : w7.cell? ⟨X, 6, none⟩ = some (.slice pa lj.length pc) := by
      have c6Z := hPZ.a.2.2.2.2.2.2.1
      simp only [Nat.zero_add] at c6Z
      exact g7.cell c6Z (fun e => by have h1 := (hPZ.r.lt X e.symm).1; omega)
     refine rd1 6 (by kernel_rfl) rfl fun K47 hK47 => ?_
     go_simp
     refine hK47.out _ _ sx7 (fun _ => ?_)
     clear hK47
     try simp only [Act.put, lyt]
     have sx8 : At8 (w7.setCell ⟨X, 6, none⟩ (.slice ao7 (lj.length + 1) c7)) xb 0 x (.slice nax x.names.length ncx) (.slice pax x.parts.length pcx) := by
      have hc : ∀ o, (w7.setCell ⟨X, 6, none⟩ (.slice ao7 (lj.length + 1) c7)).cell? ⟨xb, o, none⟩ = w7.cell? ⟨xb, o, none⟩ := fun o => World.cell?_of_block (w := w7) (a := ⟨xb, o, none⟩) (Below.heap_setCell _ _ _ _ hxX)
      obtain ⟨q0, q1, q2, q3, q4, q5, q6, q7⟩ := sx7
      exact ⟨(hc _).trans q0, (hc _).trans q1, (hc _).trans q2, (hc _).trans q3, (hc _).trans q4, (hc _).trans q5, (hc _).trans q6, (hc _).trans q7⟩
     refine rd1 7 (by kernel_rfl) rfl fun K48 hK48 => ?_
     go_simp
     refine hK48.out _ _ sx8 (fun _ => ?_)
     clear hK48
     try simp only [Act.put, lyt]
     refine wpAnyH_done (by kernel_rfl) ?_ _
     rw [HL.out] at P7
     clear hS hrec hPd hPZ hrd hy R7 g7 f7 c67 c6 sx7 sx8 sxZ sx
     generalize w7.setCell ⟨X, 6, none⟩ (.slice ao7 (lj.length + 1) c7) = W8 at *
     go_wp2
     go_roundg (gk - 1)
     case measure => omega
     case rel => exact ⟨j + 1, _, by go_num, by omega, P7⟩
    ·skip
     go_simp
     refine hK0.out _ _ (sxZ.up ((Below.refl Z.heap.size Z).alloc (Nat.le_refl _) (.cells #[.int .i64 (inF x).kind, .string (inF x).ty, .int .u64 (inF x).bits, .int .u64 (inF x).imag, .string (inF x).text, .slice na' (inF x).names.length nc', .slice pa' (inF x).parts.length pc', .int .i64 (inF x).hook] 26))) (fun _ => ?_)
     clear hK0
     try simp only [Act.put, lyt]
     have c6Y := up_cell ((Below.refl Z.heap.size Z).alloc (Nat.le_refl _) (.cells #[.int .i64 (inF x).kind, .string (inF x).ty, .int .u64 (inF x).bits, .int .u64 (inF x).imag, .string (inF x).text, .slice na' (inF x).names.length nc', .slice pa' (inF x).parts.length pc', .int .i64 (inF x).hook] 26)) c6Z
     refine rd1 1 (by kernel_rfl) rfl fun K49 hK49 => ?_
     have cL := c6Y
     go_simp
     refine hK49.out _ _ (sxZ.up ((Below.refl Z.heap.size Z).alloc (Nat.le_refl _) (.cells #[.int .i64 (inF x).kind, .string (inF x).ty, .int .u64 (inF x).bits, .int .u64 (inF x).imag, .string (inF x).text, .slice na' (inF x).names.length nc', .slice pa' (inF x).parts.length pc', .int .i64 (inF x).hook] 26))) (fun _ => ?_)
     clear hK49 cL
     try simp only [Act.put, lyt]
     refine rd1 5 (by kernel_rfl) rfl fun K50 hK50 => ?_
     rw [if_pos (by rfl)]
     have hZl : Yd.heap.size ≤ Z.heap.size := hbZ.size
     have hW6l : W6.heap.size ≤ Yd.heap.size := hPd.g.size
     have hy : RdS n (fun b => W6.heap.size ≤ b ∧ (Value.slice pa lj.length pc).ownBlock ≠ some b) Z (.slice na' (inF x).names.length nc') (.slice pa' (inF x).parts.length pc') (inF x) := hrd.turn fun b hb _ => ⟨⟨Nat.le_trans hW6l hb, fun e => by have h1 := (hPd.r.lt b e).2; have h2 : Yd.heap.size ≤ b := hb; omega⟩, fun _ => rfl⟩
     refine wp_app8 _ _ rfl hPZ.r (inF x) _ _ hy rfl rfl rfl hll (Nat.le_trans hW6l hZl) ?_
     rintro v7 w7 ⟨ao7, c7, rfl⟩ R7 g7
     have sx7 : At8 w7 xb 0 x (.slice nax x.names.length ncx) (.slice pax x.parts.length pcx) := by
      have hne : some xb ≠ (Value.slice pa lj.length pc).ownBlock := fun e => hxb e.symm
      have hlt : xb < Z.heap.size := lt_of_cell sxZ.1
      have hc : ∀ o, w7.cell? ⟨xb, o, none⟩ = Z.cell? ⟨xb, o, none⟩ := fun o => g7.cell_far ⟨xb, o, none⟩ hlt hne
      obtain ⟨q0, q1, q2, q3, q4, q5, q6, q7⟩ := sxZ
      exact ⟨(hc _).trans q0, (hc _).trans q1, (hc _).trans q2, (hc _).trans q3, (hc _).trans q4, (hc _).trans q5, (hc _).trans q6, (hc _).trans q7⟩
     refine hK50.out _ _ sx7 (fun _ => ?_)
     clear hK50
     try simp only [Act.put, lyt]
     have P7 := hPZ.app R7 g7
     have f7 : w7.frozen? ⟨X, 6, none⟩ = false := by have := P7.z 6; rwa [World.frozen?_setCell] at this
     have c67 : w7.cell? ⟨X, 6, none⟩ = some (.slice pa lj.length pc) := by
      have c6Z := hPZ.a.2.2.2.2.2.2.1
      simp only [Nat.zero_add] at c6Z
      exact g7.cell c6Z (fun e => by have h1 := (hPZ.r.lt X e.symm).1; omega)
     refine rd1 6 (by kernel_rfl) rfl fun K51 hK51 => ?_
     go_simp
     refine hK51.out _ _ sx7 (fun _ => ?_)
     clear hK51
     try simp only [Act.put, lyt]
     have sx8 : At8 (w7.setCell ⟨X, 6, none⟩ (.slice ao7 (lj.length + 1) c7)) xb 0 x (.slice nax x.names.length ncx) (.slice pax x.parts.length pcx) := by
      have hc : ∀ o, (w7.setCell ⟨X, 6, none⟩ (.slice ao7 (lj.length + 1) c7)).cell? ⟨xb, o, none⟩ = w7.cell? ⟨xb, o, none⟩ := fun o => World.cell?_of_block (w := w7) (a := ⟨xb, o, none⟩) (Below.heap_setCell _ _ _ _ hxX)
      obtain ⟨q0, q1, q2, q3, q4, q5, q6, q7⟩ := sx7
      exact ⟨(hc _).trans q0, (hc _).trans q1, (hc _).trans q2, (hc _).trans q3, (hc _).trans q4, (hc _).trans q5, (hc _).trans q6, (hc _).trans q7⟩
     refine rd1 7 (by kernel_rfl) rfl fun K52 hK52 => ?_
     go_simp
     refine hK52.out _ _ sx8 (fun _ => ?_)
     clear hK52
     try simp only [Act.put, lyt]
     refine wpAnyH_done (by kernel_rfl) ?_ _
     rw [HL.out] at P7
     clear hS hrec hPd hPZ hrd hy R7 g7 f7 c67 c6 sx7 sx8 sxZ sx
     generalize w7.setCell ⟨X, 6, none⟩ (.slice ao7 (lj.length + 1) c7) = W8 at *
     go_wp2
     go_roundg (gk - 1)
     case measure => omega
     case rel => exact ⟨j + 1, _, by go_num, by omega, P7⟩
  ·have hltI : ¬ (j : Int) < parts.length := by omega
   have hje : j = parts.length := by omega
   subst hje
   rw [List.take_length] at hP
   obtain ⟨pa, pc, hpv, -, -⟩ := hP.r.slice
   obtain ⟨⟨z0, z1, z2, z3, z4, z5, z6, z7⟩, zf⟩ := zz7.gr hP.g (by omega)
   have hbx := below_gr b7 hP.g (by omega) hw6
   have Nx := N7.turn (kept_gr hP.g fun b hb => by omega)
   have Rx := hP.r
   obtain ⟨a0, a1, a2, a3, a4, a5, a6, a7⟩ := hP.a
   simp only [Nat.zero_add] at a0 a1 a2 a3 a4 a5 a6 a7
   have m0' := hP.g.cell m0 (fun e => by have := Option.some.inj e; dsimp only at this; omega)
   have y0 := zf 0
   have y1 := zf 1
   have y2 := zf 2
   have y3 := zf 3
   have y4 := zf 4
   have y5 := zf 5
   have y6 := zf 6
   have y7 := zf 7
   have xf6 := hP.z 6
   have hW6r := hP.g.size
   obtain ⟨nao, ncc, hnv2, -, -, -⟩ := id Nx
   rw [List.length_map] at hpv
   rw [List.length_nil] at hnv2
   subst hpv hnv2
   obtain ⟨Wc, hWc⟩ : ∃ Wc, Wc = wr := ⟨_, rfl⟩
   subst hWc
   obtain ⟨pa', pc', ep, -, -, hrd⟩ := Rx.reads
   rw [List.length_map] at ep
   obtain ⟨rfl, -, rfl⟩ := Value.slice.inj ep
   have hso := osorted_any (fun nv pv d => RdS n (fun b => W6.heap.size ≤ b) Wc nv pv d) (fun nv pv d h => h.slices) (parts.map inF) pa pc Wc (by rw [List.length_map]; exact hl) (by rw [List.length_map]; exact hev) (fun i x hx => by
    obtain ⟨b, off, nv', pv', q1, q2, q3, q4⟩ := hrd i x hx
    exact ⟨b, off, nv', pv', q1, q3, q4⟩) hcmp
   rw [List.length_map] at hso
   clear hP ih hcell ep hrd
   go_upto_region 29 with (go_at_call 69; refine hso.mono ?_; rintro e W8 ⟨b8, v8, rfl, R8⟩; have a68 := up_cell b8 a6; have xf68 := (b8.frozen (p := ⟨X, 6, none⟩) (by dsimp only; omega)).trans xf6; obtain ⟨sa, sc, hv8, -, -⟩ := R8.slice; subst hv8)
   have g8 : Wc.grownBy (W8.setCell ⟨X, 6, none⟩ (.slice sa (flat2 (isrt (prs2 (parts.map inF)))).length sc)) (some X) := gr_putV (gr_belowV b8 _) _
   have hcc : ∀ o, o ≠ 6 → (W8.setCell ⟨X, 6, none⟩ (.slice sa (flat2 (isrt (prs2 (parts.map inF)))).length sc)).cell? ⟨X, o, none⟩ = W8.cell? ⟨X, o, none⟩ := fun o ho => by simp [go_sem, ho, Ne.symm ho]
   have n0 := (hcc 0 (by decide)).trans (up_cell b8 a0)
   have n1 := (hcc 1 (by decide)).trans (up_cell b8 a1)
   have n2 := (hcc 2 (by decide)).trans (up_cell b8 a2)
   have n3 := (hcc 3 (by decide)).trans (up_cell b8 a3)
   have n4 := (hcc 4 (by decide)).trans (up_cell b8 a4)
   have n5 := (hcc 5 (by decide)).trans (up_cell b8 a5)
   have n7 := (hcc 7 (by decide)).trans (up_cell b8 a7)
   have n6 : (W8.setCell ⟨X, 6, none⟩ (.slice sa (flat2 (isrt (prs2 (parts.map inF)))).length sc)).cell? ⟨X, 6, none⟩ = some (.slice sa (flat2 (isrt (prs2 (parts.map inF)))).length sc) := by simp [go_sem, a68]
   have zz9 : Zero8 (W8.setCell ⟨X, 6, none⟩ (.slice sa (flat2 (isrt (prs2 (parts.map inF)))).length sc)) (w.heap.size + 1) := Zero8.gr (W := Wc) ⟨⟨z0, z1, z2, z3, z4, z5, z6, z7⟩, zf⟩ g8 (by omega)
   have b9 : Below w.heap.size w (W8.setCell ⟨X, 6, none⟩ (.slice sa (flat2 (isrt (prs2 (parts.map inF)))).length sc)) := below_gr hbx g8 (by omega) (by have := hbx.size; omega)
   have N9 := Nx.turn (kept_gr g8 fun b hb => by omega)
   have R9 : ∀ (i : Nat) (x : D), (flat2 (isrt (prs2 (parts.map inF))))[i]? = some x → ∃ b nv' pv', sa = some ⟨b, 0, none⟩ ∧ Wc.heap.size ≤ b ∧ At8 (W8.setCell ⟨X, 6, none⟩ (.slice sa (flat2 (isrt (prs2 (parts.map inF)))).length sc)) b (i * 8) x nv' pv' ∧ RdS n (fun b => W6.heap.size ≤ b) (W8.setCell ⟨X, 6, none⟩ (.slice sa (flat2 (isrt (prs2 (parts.map inF)))).length sc)) nv' pv' x := by
    obtain ⟨sa', sc', es, -, -, hrr⟩ := R8.reads
    obtain ⟨rfl, -, -⟩ := Value.slice.inj es
    intro i x hx
    obtain ⟨b, nv', pv', q1, q2, q3, q4, q5⟩ := hrr i x hx
    have hk8 : Kept (fun c => Wc.heap.size ≤ c) (fun c => Wc.heap.size ≤ c) W8 (W8.setCell ⟨X, 6, none⟩ (.slice sa (flat2 (isrt (prs2 (parts.map inF)))).length sc)) := fun c hc _ => ⟨hc, fun o => World.cell?_of_block (w := W8) (a := ⟨c, o, none⟩) (Below.heap_setCell _ _ _ _ (by dsimp only; omega))⟩
    exact ⟨b, nv', pv', q1, q2, q4.turn hk8 q2, q5.turn (kept_gr g8 fun c hc => by omega)⟩
   obtain ⟨-, -, -, hs1, hs2, -⟩ := R8.reads
   have hs := R8.slice
   clear R8 hso g8 hcc b8 a68 xf68 z0 z1 z2 z3 z4 z5 z6 z7 zf y0 y1 y2 y3 y4 y5 y6 y7 a0 a1 a2 a3 a4 a5 a6 a7 hbx Nx Rx m0'
   generalize W8.setCell ⟨X, 6, none⟩ (.slice sa (flat2 (isrt (prs2 (parts.map inF)))).length sc) = W9 at *
   obtain ⟨⟨z0, z1, z2, z3, z4, z5, z6, z7⟩, zf⟩ := zz9
   have y0 := zf 0
   have y1 := zf 1
   have y2 := zf 2
   have y3 := zf 3
   have y4 := zf 4
   have y5 := zf 5
   have y6 := zf 6
   have y7 := zf 7
   generalize hfl : flat2 (isrt (prs2 (parts.map inF))) = fl at *
   have HFL : Hid (flat2 (isrt (prs2 (parts.map inF))) = fl) := hfl
   clear hfl
   go_wp2
   obtain ⟨r0, r1, r2, r3, r4, r5, r6, r7⟩ := set8 z0 z1 z2 z3 z4 z5 z6 z7 (.int .i64 21) (.string ty) (.int .u64 0) (.int .u64 0) (.string ⟨#[]⟩) (.slice nao 0 ncc) (.slice sa fl.length sc) (.int .i64 hook)
   refine bodyPost_ret (v := .agg #[.int .i64 21, .string ty, .int .u64 0, .int .u64 0, .string ⟨#[]⟩, .slice nao 0 ncc, .slice sa fl.length sc, .int .i64 hook]) (by simp [results, Tryz.results35, go_sem, r0, r1, r2, r3, r4, r5, r6, r7]) rfl ?_
   refine ⟨set8_below b9 (by omega), _, _, rfl, ?_, ?_⟩
   ·exact N9.turn fun b hb hlt => ⟨by omega, fun o => set8_other (by omega) o⟩
   ·obtain ⟨sa', sc', es, t1, t2⟩ := hs
    obtain ⟨rfl, -, rfl⟩ := Value.slice.inj es
    rw [HFL.out]
    refine ⟨sa, sc, rfl, t1, t2, fun i x hx => ?_⟩
    obtain ⟨b, nv', pv', q1, q2, q3, q4⟩ := R9 i x hx
    have hk9 : ∀ {Q : Nat → Prop}, (∀ c, Q c → W6.heap.size ≤ c) → Kept Q (fun c => w.heap.size ≤ c) W9 _ := fun {Q} hQ c hc _ => ⟨by have := hQ c hc; omega, fun o => set8_other (V := W9) (b := w.heap.size + 1) (y0 := .int .i64 21) (y1 := .string ty) (y2 := .int .u64 0) (y3 := .int .u64 0) (y4 := .string ⟨#[]⟩) (y5 := .slice nao 0 ncc) (y6 := .slice sa fl.length sc) (y7 := .int .i64 hook) (by have := hQ c hc; omega) o⟩
    refine ⟨b, 0, nv', pv', q1, by omega, ?_, q4.turn (hk9 fun c hc => hc)⟩
    rw [Nat.zero_add]
    exact q3.turn (hk9 (Q := fun c => Wc.heap.size ≤ c) fun c hc => by omega) q2
set_option maxRecDepth 1000000 in
set_option maxHeartbeats 4000000 in
theorem oing_22 (n : Nat) (ty : ByteArray) (bits imag : Int) (text : ByteArray) (names : List ByteArray) (parts : List D) (hook : Int) (na pa0 : Option Addr) (nc pc0 : Nat) (w : World) (hl : parts.length ≤ 1000) (ih : ∀ x ∈ parts, InR n x)
  (hcell : ∀ (i : Nat) (x : D), parts[i]? = some x → ∃ b off nv' pv', pa0 = some ⟨b, off, none⟩ ∧ At8 w b (off + i * 8) x nv' pv' ∧ RdC n w nv' pv' x) :
  Calls Tryz.prog 35 #[.agg #[.int .i64 22, .string ty, .int .u64 bits, .int .u64 imag, .string text, .slice na names.length nc, .slice pa0 parts.length pc0, .int .i64 hook]] w fun e w' => Below w.heap.size w w' ∧ ∃ nv pv, e = .returned (.agg #[.int .i64 22, .string ty, .int .u64 bits, .int .u64 0, .string ⟨#[]⟩, nv, pv, .int .i64 hook]) ∧ Nm w' (fun b => w.heap.size ≤ b) nv ([] : List ByteArray) ∧ Pt n (fun b => w.heap.size ≤ b) w' pv (parts.map inF) := by
 have hwh : ∀ W, Calls Tryz.prog 66 #[.int .i64 22] W fun e w' => e = .returned (.bool false) ∧ w' = W := fun W => owhole_any 22 W
 have hgr : ∀ W, Calls Tryz.prog 68 #[.int .i64 22] W fun e w' => e = .returned (.bool true) ∧ w' = W := fun W => ogreat_any 22 W
 obtain ⟨W5, hW5⟩ : ∃ W5, W5 = ((w.alloc (.cells #[.int .i64 22, .string ty, .int .u64 bits, .int .u64 imag, .string text, .slice na names.length nc, .slice pa0 parts.length pc0, .int .i64 hook] 26)).alloc (.cells #[.int .i64 0, .string ⟨#[]⟩, .int .u64 0, .int .u64 0, .string ⟨#[]⟩, .slice none 0 0, .slice none 0 0, .int .i64 0] 26)).alloc (.cells #[.int .i64 22, .string ty, .int .u64 bits, .int .u64 0, .string ⟨#[]⟩, .slice none 0 0, .slice none 0 0, .int .i64 hook] 26) := ⟨_, rfl⟩
 have b5 : Below w.heap.size w W5 := by rw [hW5]; exact bel3 _ _ _ _
 have a5 : At8 W5 (w.heap.size + 2) 0 ⟨22, ty, bits, 0, ⟨#[]⟩, [], [], hook⟩ (.slice none 0 0) (.slice none 0 0) := by
  rw [hW5]
  refine ⟨?_, ?_, ?_, ?_, ?_, ?_, ?_, ?_⟩
  all_goals simp [go_sem]
 have e2 : ((w.alloc (.cells #[.int .i64 22, .string ty, .int .u64 bits, .int .u64 imag, .string text, .slice na names.length nc, .slice pa0 parts.length pc0, .int .i64 hook] 26)).alloc (.cells #[.int .i64 0, .string ⟨#[]⟩, .int .u64 0, .int .u64 0, .string ⟨#[]⟩, .slice none 0 0, .slice none 0 0, .int .i64 0] 26)).heap.size = w.heap.size + 2 := by simp
 have e1 : (w.alloc (.cells #[.int .i64 22, .string ty, .int .u64 bits, .int .u64 imag, .string text, .slice na names.length nc, .slice pa0 parts.length pc0, .int .i64 hook] 26)).heap.size = w.heap.size + 1 := by simp
 have z5 : ∀ i, W5.frozen? ⟨w.heap.size + 2, i, none⟩ = false := fun i => by
  rw [hW5, frozen?_alloc_cells, ← e2]
  exact frozen_none _ _ (Nat.le_refl _)
 have zz5 : Zero8 W5 (w.heap.size + 1) := by
  refine ⟨by rw [hW5]; refine ⟨?_, ?_, ?_, ?_, ?_, ?_, ?_, ?_⟩ <;> simp [go_sem], fun i => ?_⟩
  rw [hW5, frozen?_alloc_cells, frozen?_alloc_cells, ← e1]
  exact frozen_none _ _ (Nat.le_refl _)
 have k0 : W5.cell? ⟨w.heap.size, 0, none⟩ = some (.int .i64 22) := by rw [hW5]; simp [go_sem]
 have k5 : W5.cell? ⟨w.heap.size, 5, none⟩ = some (.slice na names.length nc) := by rw [hW5]; simp [go_sem]
 have k6 : W5.cell? ⟨w.heap.size, 6, none⟩ = some (.slice pa0 parts.length pc0) := by rw [hW5]; simp [go_sem]
 have s5 : w.heap.size + 3 ≤ W5.heap.size := by rw [hW5]; simp
 clear e1 e2
 go_enter Tryz.func35, Tryz.ntmps35
 go_upto_region 22 with (first | (go_at_call 66; refine (hwh _).mono ?_; rintro e w1 ⟨rfl, hw⟩; rw [hw]; clear hw) | (go_at_call 68; refine (hgr _).mono ?_; rintro e w1 ⟨rfl, hw⟩; rw [hw]; clear hw))
 rw [← hW5]
 clear hW5
 obtain ⟨nv, hnv⟩ : ∃ nv, nv = Value.slice none 0 0 := ⟨_, rfl⟩
 have a7 : At8 W5 (w.heap.size + 2) 0 ⟨22, ty, bits, 0, ⟨#[]⟩, [], [], hook⟩ nv (.slice none 0 0) := by rw [hnv]; exact a5
 have N7 : Nm W5 (fun b => w.heap.size + 1 < b ∧ b ≠ w.heap.size + 2) nv [] := by rw [hnv]; exact Nm.nil _ _
 obtain ⟨W6, hW6⟩ : ∃ W6, W6 = W5 := ⟨_, rfl⟩
 subst hW6
 have z7 := z5
 have zz7 := zz5
 have b7 := b5
 have m0 := k0
 have m6 := k6
 have s7 := s5
 clear a5 z5 zz5 b5 k0 k5 k6 s5 hnv
 obtain ⟨X, hX⟩ : ∃ X, w.heap.size + 2 = X := ⟨_, rfl⟩
 have p7 : PBx W6 (w.heap.size + 2) n ⟨22, ty, bits, 0, ⟨#[]⟩, [], [], hook⟩ nv (.slice none 0 0) [] W6 := ⟨World.grownBy.refl _ _, a7, z7, Row8.nil _ _ _, by omega⟩
 have hw6 := b7.size
 have hX6 : X < W6.heap.size := by omega
 have hXw : w.heap.size + 1 < X := by omega
 have hXe : X ≤ w.heap.size + 2 := by omega
 rw [hX] at p7 N7
 simp only [hX]
 clear hX a7 z7
 have hlI : (parts.length : Int) ≤ 1000 := by omega
 go_wp2_with fail
 go_loopg [5, 108] parts.length (fun g z iv wr => ∃ (j : Nat) (pv : Value), iv = .int .i64 (j : Nat) ∧ j + g = parts.length ∧ PBx W6 X n ⟨22, ty, bits, 0, ⟨#[]⟩, [], [], hook⟩ nv pv ((parts.take j).map inF) wr)
 case atStart => exact ⟨0, _, rfl, by omega, by simpa using p7⟩
 case round =>
  obtain ⟨j, pv, rfl, hjg, hP⟩ := hrel
  clear p7
  by_cases hlt : j < parts.length
  ·have hltI : (j : Int) < parts.length := by omega
   obtain ⟨x, hx⟩ : ∃ x, parts[j]? = some x := ⟨_, List.getElem?_eq_getElem hlt⟩
   obtain ⟨b, off, nvx, pvx, rfl, ax, hrx⟩ := hcell j x hx
   obtain ⟨nax, ncx, pax, pcx, hn1, hp1⟩ := hrx.slices
   have hbw : b < w.heap.size := lt_of_cell ax.1
   have bwr : Below w.heap.size w wr := below_gr b7 hP.g (by omega) hw6
   obtain ⟨c0, c1, c2, c3, c4, c5, c6', c7'⟩ := ax.up bwr
   obtain ⟨Y2, hY2⟩ : ∃ Y2, Y2 = wr.alloc (.cells #[.int .i64 x.kind, .string x.ty, .int .u64 x.bits, .int .u64 x.imag, .string x.text, .slice nax x.names.length ncx, .slice pax x.parts.length pcx, .int .i64 x.hook] 26) := ⟨_, rfl⟩
   have hbY : Below wr.heap.size wr Y2 := by rw [hY2]; exact (Below.refl _ _).alloc (Nat.le_refl _) _
   subst hn1 hp1
   have sY : At8 Y2 wr.heap.size 0 x (.slice nax x.names.length ncx) (.slice pax x.parts.length pcx) := by
    rw [hY2]
    refine ⟨?_, ?_, ?_, ?_, ?_, ?_, ?_, ?_⟩
    all_goals simp [go_sem]
   have hxb : (Value.ownBlock pv) ≠ some wr.heap.size := fun e => by have := (hP.r.lt _ e).2; omega
   have hxX : wr.heap.size ≠ X := by have := hP.g.size; omega
   have hPy := hP.up hbY
   have hrY : RdC n Y2 (.slice nax x.names.length ncx) (.slice pax x.parts.length pcx) x := hrx.up (bwr.trans (hbY.mono bwr.size))
   have HL : Hid (((parts.take j).map inF) ++ [inF x] = (parts.take (j + 1)).map inF) := by
    show _ = _
    rw [List.take_add_one, hx, List.map_append]; rfl
   have hll : ((parts.take j).map inF).length ≤ 100000 := by rw [List.length_map, List.length_take]; omega
   have hix := ih x (List.mem_of_getElem? hx)
   obtain ⟨xb, hxbe⟩ : ∃ xb, wr.heap.size = xb := ⟨_, rfl⟩
   go_upto_region 25 with fail
   rw [← hY2]
   rw [hxbe] at sY hxb hxX
   try simp only [hxbe]
   clear hY2 hx ax hrx hbw c0 c1 c2 c3 c4 c5 c6' c7' hP hbY bwr hxbe
   obtain ⟨Yd, hYd⟩ : ∃ Yd, Yd = Y2.drew := ⟨_, rfl⟩
   have hPd : PBx W6 X n ⟨22, ty, bits, 0, ⟨#[]⟩, [], [], hook⟩ nv pv ((parts.take j).map inF) Yd := by rw [hYd]; exact hPy.up (Below.refl _ _).drew
   have sx : At8 Yd xb 0 x (.slice nax x.names.length ncx) (.slice pax x.parts.length pcx) := by rw [hYd]; exact sY
   have hrec := hix Yd _ _ (by rw [hYd]; exact hrY.up (Below.refl _ _).drew)
   generalize (parts.take j).map inF = lj at *
   obtain ⟨pa, pc, rfl, -, -⟩ := hPd.r.slice
   have c6 := hPd.a.2.2.2.2.2.2.1
   simp only [Nat.zero_add] at c6
   refine wp_region_held_drew (S := fun w' : World => At8 w' xb 0 x (.slice nax x.names.length ncx) (.slice pax x.parts.length pcx)) (by kernel_rfl) (by rw [← hYd]; exact sx) ?_
   rw [← hYd]
   clear hYd sY hPy hrY hix ih hcell
   obtain ⟨nvx, hnvx⟩ : ∃ v, v = Value.slice nax x.names.length ncx := ⟨_, rfl⟩
   obtain ⟨pvx, hpvx⟩ : ∃ v, v = Value.slice pax x.parts.length pcx := ⟨_, rfl⟩
   intro hS
   refine tk 0 (.pointer (some ⟨X, 6, none⟩)) rfl (by kernel_rfl) (fun _ _ _ h => h) (by rfl) (by assumption) ?_ ?_
   ·intro w5 s0
    go_simp
   try simp only [Act.put, lyt]
   refine tk 2 (.agg #[.int .i64 x.kind, .string x.ty, .int .u64 x.bits, .int .u64 x.imag, .string x.text, .slice nax x.names.length ncx, .slice pax x.parts.length pcx, .int .i64 x.hook]) rfl (by kernel_rfl) (fun _ _ _ h => h) (by rfl) (by assumption) ?_ ?_
   ·intro w5 s0
    obtain ⟨q0, q1, q2, q3, q4, q5, q6, q7⟩ := s0
    simp only [Nat.zero_add] at q0 q1 q2 q3 q4 q5 q6 q7
    go_simp
   try simp only [Act.put, lyt]
   rw [← hnvx, ← hpvx] at sx
   subst hnvx hpvx
   refine wpAnyH_ready (rs := [1, 3]) (by kernel_rfl) (by simp) ?_
   refine AllReadyH.cons rfl (fun K0 hK0 => ?_) (AllReadyH.cons rfl (fun K0 hK0 => ?_) AllReadyH.nil)
   ·skip
    have cL := c6
    go_simp
    refine hK0.out _ _ sx (fun _ => ?_)
    clear hK0 cL
    try simp only [Act.put, lyt]
    refine rd1 3 (by kernel_rfl) rfl fun K53 hK53 => ?_
    go_simp
    refine hrec.mono ?_
    rintro e Z ⟨hbZ, nv', pv', rfl, hrd⟩
    obtain ⟨na', nc', pa', pc', rfl, rfl⟩ := hrd.slices
    have hPZ := hPd.up hbZ
    have sxZ := sx.up hbZ
    refine hK53.out _ _ sxZ (fun _ => ?_)
    clear hK53
    try simp only [Act.put, lyt]
    refine rd1 4 (by kernel_rfl) rfl fun K54 hK54 => ?_
    go_simp
    refine hK54.out _ _ (sxZ.up ((Below.refl Z.heap.size Z).alloc (Nat.le_refl _) (.cells #[.int .i64 (inF x).kind, .string (inF x).ty, .int .u64 (inF x).bits, .int .u64 (inF x).imag, .string (inF x).text, .slice na' (inF x).names.length nc', .slice pa' (inF x).parts.length pc', .int .i64 (inF x).hook] 26))) (fun _ => ?_)
    clear hK54
    try simp only [Act.put, lyt]
    refine rd1 5 (by kernel_rfl) rfl fun K55 hK55 => ?_
    rw [if_pos (by rfl)]
    have hZl : Yd.heap.size ≤ Z.heap.size := hbZ.size
    have hW6l : W6.heap.size ≤ Yd.heap.size := hPd.g.size
    have hy : RdS n (fun b => W6.heap.size ≤ b ∧ (Value.slice pa lj.length pc).ownBlock ≠ some b) Z (.slice na' (inF x).names.length nc') (.slice pa' (inF x).parts.length pc') (inF x) := hrd.turn fun b hb _ => ⟨⟨Nat.le_trans hW6l hb, fun e => by have h1 := (hPd.r.lt b e).2; have h2 : Yd.heap.size ≤ b := hb; omega⟩, fun _ => rfl⟩
    refine wp_app8 _ _ rfl hPZ.r (inF x) _ _ hy rfl rfl rfl hll (Nat.le_trans hW6l hZl) ?_
    rintro v7 w7 ⟨ao7, c7, rfl⟩ R7 g7
    have sx7 : At8 w7 xb 0 x (.slice nax x.names.length ncx) (.slice pax x.parts.length pcx) := by
     have hne : some xb ≠ (Value.slice pa lj.length pc).ownBlock := fun e => hxb e.symm
     have hlt : xb < Z.heap.size := lt_of_cell sxZ.1
     have hc : ∀ o, w7.cell? ⟨xb, o, none⟩ = Z.cell? ⟨xb, o, none⟩ := fun o => g7.cell_far ⟨xb, o, none⟩ hlt hne
     obtain ⟨q0, q1, q2, q3, q4, q5, q6, q7⟩ := sxZ
     exact ⟨(hc _).trans q0, (hc _).trans q1, (hc _).trans q2, (hc _).trans q3, (hc _).trans q4, (hc _).trans q5, (hc _).trans q6, (hc _).trans q7⟩
    refine hK55.out _ _ sx7 (fun _ => ?_)
    clear hK55
    try simp only [Act.put, lyt]
    have P7 := hPZ.app R7 g7
    have f7 : w7.frozen? ⟨X, 6, none⟩ = false := by have := P7.z 6; rwa [World.frozen?_setCell] at this
    have c67 : w7.cell? ⟨X, 6, none⟩ = some (.slice pa lj.length pc) := by
     have c6Z := hPZ.a.2.2.2.2.2.2.1
     simp only [Nat.zero_add] at c6Z
     exact g7.cell c6Z (fun e => by have h1 := (hPZ.r.lt X e.symm).1; omega)
    refine rd1 6 (by kernel_rfl) rfl fun K56 hK56 => ?_
    go_simp
    refine hK56.out _ _ sx7 (fun _ => ?_)
    clear hK56
    try simp only [Act.put, lyt]
    have sx8 : At8 (w7.setCell ⟨X, 6, none⟩ (.slice ao7 (lj.length + 1) c7)) xb 0 x (.slice nax x.names.length ncx) (.slice pax x.parts.length pcx) := by
     have hc : ∀ o, (w7.setCell ⟨X, 6, none⟩ (.slice ao7 (lj.length + 1) c7)).cell? ⟨xb, o, none⟩ = w7.cell? ⟨xb, o, none⟩ := fun o => World.cell?_of_block (w := w7) (a := ⟨xb, o, none⟩) (Below.heap_setCell _ _ _ _ hxX)
     obtain ⟨q0, q1, q2, q3, q4, q5, q6, q7⟩ := sx7
     exact ⟨(hc _).trans q0, (hc _).trans q1, (hc _).trans q2, (hc _).trans q3, (hc _).trans q4, (hc _).trans q5, (hc _).trans q6, (hc _).trans q7⟩
    refine rd1 7 (by kernel_rfl) rfl fun K57 hK57 => ?_
    go_simp
    refine hK57.out _ _ sx8 (fun _ => ?_)
    clear hK57
    try simp only [Act.put, lyt]
    refine wpAnyH_done (by kernel_rfl) ?_ _
    rw [HL.out] at P7
    clear hS hrec hPd hPZ hrd hy R7 g7 f7 c67 c6 sx7 sx8 sxZ sx
    generalize w7.setCell ⟨X, 6, none⟩ (.slice ao7 (lj.length + 1) c7) = W8 at *
    go_wp2
    go_roundg (gk - 1)
    case measure => omega
    case rel => exact ⟨j + 1, _, by go_num, by omega, P7⟩
   ·skip
    go_simp
    refine hrec.mono ?_
    rintro e Z ⟨hbZ, nv', pv', rfl, hrd⟩
    obtain ⟨na', nc', pa', pc', rfl, rfl⟩ := hrd.slices
    have hPZ := hPd.up hbZ
    have sxZ := sx.up hbZ
    refine hK0.out _ _ sxZ (fun _ => ?_)
    clear hK0
    try simp only [Act.put, lyt]
    have c6Z := hPZ.a.2.2.2.2.2.2.1
    simp only [Nat.zero_add] at c6Z
    refine wpAnyH_ready (rs := [1, 4]) (by kernel_rfl) (by simp) ?_
    refine AllReadyH.cons rfl (fun K0 hK0 => ?_) (AllReadyH.cons rfl (fun K0 hK0 => ?_) AllReadyH.nil)
    ·skip
     have cL := c6Z
     go_simp
     refine hK0.out _ _ sxZ (fun _ => ?_)
     clear hK0 cL
     try simp only [Act.put, lyt]
     refine rd1 4 (by kernel_rfl) rfl fun K58 hK58 => ?_
     go_simp
     refine hK58.out _ _ (sxZ.up ((Below.refl Z.heap.size Z).alloc (Nat.le_refl _) (.cells #[.int .i64 (inF x).kind, .string (inF x).ty, .int .u64 (inF x).bits, .int .u64 (inF x).imag, .string (inF x).text, .slice na' (inF x).names.length nc', .slice pa' (inF x).parts.length pc', .int .i64 (inF x).hook] 26))) (fun _ => ?_)
     clear hK58
     try simp only [Act.put, lyt]
     refine rd1 5 (by kernel_rfl) rfl fun K59 hK59 => ?_
     rw [if_pos (by rfl)]
     have hZl : Yd.heap.size ≤ Z.heap.size := hbZ.size
     have hW6l : W6.heap.size ≤ Yd.heap.size := hPd.g.size
     have hy : RdS n (fun b => W6.heap.size ≤ b ∧ (Value.slice pa lj.length pc).ownBlock ≠ some b) Z (.slice na' (inF x).names.length nc') (.slice pa' (inF x).parts.length pc') (inF x) := hrd.turn fun b hb _ => ⟨⟨Nat.le_trans hW6l hb, fun e => by have h1 := (hPd.r.lt b e).2; have h2 : Yd.heap.size ≤ b := hb; omega⟩, fun _ => rfl⟩
     refine wp_app8 _ _ rfl hPZ.r (inF x) _ _ hy rfl rfl rfl hll (Nat.le_trans hW6l hZl) ?_
     rintro v7 w7 ⟨ao7, c7, rfl⟩ R7 g7
     have sx7 : At8 w7 xb 0 x (.slice nax x.names.length ncx) (.slice pax x.parts.length pcx) := by
      have hne : some xb ≠ (Value.slice pa lj.length pc).ownBlock := fun e => hxb e.symm
      have hlt : xb < Z.heap.size := lt_of_cell sxZ.1
      have hc : ∀ o, w7.cell? ⟨xb, o, none⟩ = Z.cell? ⟨xb, o, none⟩ := fun o => g7.cell_far ⟨xb, o, none⟩ hlt hne
      obtain ⟨q0, q1, q2, q3, q4, q5, q6, q7⟩ := sxZ
      exact ⟨(hc _).trans q0, (hc _).trans q1, (hc _).trans q2, (hc _).trans q3, (hc _).trans q4, (hc _).trans q5, (hc _).trans q6, (hc _).trans q7⟩
     refine hK59.out _ _ sx7 (fun _ => ?_)
     clear hK59
     try simp only [Act.put, lyt]
     have P7 := hPZ.app R7 g7
     have f7 : w7.frozen? ⟨X, 6, none⟩ = false := by have := P7.z 6; rwa [World.frozen?_setCell] at this
     have c67 : w7.cell? ⟨X, 6, none⟩ = some (.slice pa lj.length pc) := by
      have c6Z := hPZ.a.2.2.2.2.2.2.1
      simp only [Nat.zero_add] at c6Z
      exact g7.cell c6Z (fun e => by have h1 := (hPZ.r.lt X e.symm).1; omega)
     refine rd1 6 (by kernel_rfl) rfl fun K60 hK60 => ?_
     go_simp
     refine hK60.out _ _ sx7 (fun _ => ?_)
     clear hK60
     try simp only [Act.put, lyt]
     have sx8 : At8 (w7.setCell ⟨X, 6, none⟩ (.slice ao7 (lj.length + 1) c7)) xb 0 x (.slice nax x.names.length ncx) (.slice pax x.parts.length pcx) := by
      have hc : ∀ o, (w7.setCell ⟨X, 6, none⟩ (.slice ao7 (lj.length + 1) c7)).cell? ⟨xb, o, none⟩ = w7.cell? ⟨xb, o, none⟩ := fun o => World.cell?_of_block (w := w7) (a := ⟨xb, o, none⟩) (Below.heap_setCell _ _ _ _ hxX)
      obtain ⟨q0, q1, q2, q3, q4, q5, q6, q7⟩ := sx7
      exact ⟨(hc _).trans q0, (hc _).trans q1, (hc _).trans q2, (hc _).trans q3, (hc _).trans q4, (hc _).trans q5, (hc _).trans q6, (hc _).trans q7⟩
     refine rd1 7 (by kernel_rfl) rfl fun K61 hK61 => ?_
     go_simp
     refine hK61.out _ _ sx8 (fun _ => ?_)
     clear hK61
     try simp only [Act.put, lyt]
     refine wpAnyH_done (by kernel_rfl) ?_ _
     rw [HL.out] at P7
     clear hS hrec hPd hPZ hrd hy R7 g7 f7 c67 c6 sx7 sx8 sxZ sx
     generalize w7.setCell ⟨X, 6, none⟩ (.slice ao7 (lj.length + 1) c7) = W8 at *
     go_wp2
     go_roundg (gk - 1)
     case measure => omega
     case rel => exact ⟨j + 1, _, by go_num, by omega, P7⟩
    ·skip
     go_simp
     refine hK0.out _ _ (sxZ.up ((Below.refl Z.heap.size Z).alloc (Nat.le_refl _) (.cells #[.int .i64 (inF x).kind, .string (inF x).ty, .int .u64 (inF x).bits, .int .u64 (inF x).imag, .string (inF x).text, .slice na' (inF x).names.length nc', .slice pa' (inF x).parts.length pc', .int .i64 (inF x).hook] 26))) (fun _ => ?_)
     clear hK0
     try simp only [Act.put, lyt]
     have c6Y := up_cell ((Below.refl Z.heap.size Z).alloc (Nat.le_refl _) (.cells #[.int .i64 (inF x).kind, .string (inF x).ty, .int .u64 (inF x).bits, .int .u64 (inF x).imag, .string (inF x).text, .slice na' (inF x).names.length nc', .slice pa' (inF x).parts.length pc', .int .i64 (inF x).hook] 26)) c6Z
     refine rd1 1 (by kernel_rfl) rfl fun K62 hK62 => ?_
     have cL := c6Y
     go_simp
     refine hK62.out _ _ (sxZ.up ((Below.refl Z.heap.size Z).alloc (Nat.le_refl _) (.cells #[.int .i64 (inF x).kind, .string (inF x).ty, .int .u64 (inF x).bits, .int .u64 (inF x).imag, .string (inF x).text, .slice na' (inF x).names.length nc', .slice pa' (inF x).parts.length pc', .int .i64 (inF x).hook] 26))) (fun _ => ?_)
     clear hK62 cL
     try simp only [Act.put, lyt]
     refine rd1 5 (by kernel_rfl) rfl fun K63 hK63 => ?_
     rw [if_pos (by rfl)]
     have hZl : Yd.heap.size ≤ Z.heap.size := hbZ.size
     have hW6l : W6.heap.size ≤ Yd.heap.size := hPd.g.size
     have hy : RdS n (fun b => W6.heap.size ≤ b ∧ (Value.slice pa lj.length pc).ownBlock ≠ some b) Z (.slice na' (inF x).names.length nc') (.slice pa' (inF x).parts.length pc') (inF x) := hrd.turn fun b hb _ => ⟨⟨Nat.le_trans hW6l hb, fun e => by have h1 := (hPd.r.lt b e).2; have h2 : Yd.heap.size ≤ b := hb; omega⟩, fun _ => rfl⟩
     refine wp_app8 _ _ rfl hPZ.r (inF x) _ _ hy rfl rfl rfl hll (Nat.le_trans hW6l hZl) ?_
     rintro v7 w7 ⟨ao7, c7, rfl⟩ R7 g7
     have sx7 : At8 w7 xb 0 x (.slice nax x.names.length ncx) (.slice pax x.parts.length pcx) := by
      have hne : some xb ≠ (Value.slice pa lj.length pc).ownBlock := fun e => hxb e.symm
      have hlt : xb < Z.heap.size := lt_of_cell sxZ.1
      have hc : ∀ o, w7.cell? ⟨xb, o, none⟩ = Z.cell? ⟨xb, o, none⟩ := fun o => g7.cell_far ⟨xb, o, none⟩ hlt hne
      obtain ⟨q0, q1, q2, q3, q4, q5, q6, q7⟩ := sxZ
      exact ⟨(hc _).trans q0, (hc _).trans q1, (hc _).trans q2, (hc _).trans q3, (hc _).trans q4, (hc _).trans q5, (hc _).trans q6, (hc _).trans q7⟩
     refine hK63.out _ _ sx7 (fun _ => ?_)
     clear hK63
     try simp only [Act.put, lyt]
     have P7 := hPZ.app R7 g7
     have f7 : w7.frozen? ⟨X, 6, none⟩ = false := by have := P7.z 6; rwa [World.frozen?_setCell] at this
     have c67 : w7.cell? ⟨X, 6, none⟩ = some (.slice pa lj.length pc) := by
      have c6Z := hPZ.a.2.2.2.2.2.2.1
      simp only [Nat.zero_add] at c6Z
      exact g7.cell c6Z (fun e => by have h1 := (hPZ.r.lt X e.symm).1; omega)
     refine rd1 6 (by kernel_rfl) rfl fun K64 hK64 => ?_
     go_simp
     refine hK64.out _ _ sx7 (fun _ => ?_)
     clear hK64
     try simp only [Act.put, lyt]
     have sx8 : At8 (w7.setCell ⟨X, 6, none⟩ (.slice ao7 (lj.length + 1) c7)) xb 0 x (.slice nax x.names.length ncx) (.slice pax x.parts.length pcx) := by
      have hc : ∀ o, (w7.setCell ⟨X, 6, none⟩ (.slice ao7 (lj.length + 1) c7)).cell? ⟨xb, o, none⟩ = w7.cell? ⟨xb, o, none⟩ := fun o => World.cell?_of_block (w := w7) (a := ⟨xb, o, none⟩) (Below.heap_setCell _ _ _ _ hxX)
      obtain ⟨q0, q1, q2, q3, q4, q5, q6, q7⟩ := sx7
      exact ⟨(hc _).trans q0, (hc _).trans q1, (hc _).trans q2, (hc _).trans q3, (hc _).trans q4, (hc _).trans q5, (hc _).trans q6, (hc _).trans q7⟩
     refine rd1 7 (by kernel_rfl) rfl fun K65 hK65 => ?_
     go_simp
     refine hK65.out _ _ sx8 (fun _ => ?_)
     clear hK65
     try simp only [Act.put, lyt]
     refine wpAnyH_done (by kernel_rfl) ?_ _
     rw [HL.out] at P7
     clear hS hrec hPd hPZ hrd hy R7 g7 f7 c67 c6 sx7 sx8 sxZ sx
     generalize w7.setCell ⟨X, 6, none⟩ (.slice ao7 (lj.length + 1) c7) = W8 at *
     go_wp2
     go_roundg (gk - 1)
     case measure => omega
     case rel => exact ⟨j + 1, _, by go_num, by omega, P7⟩
  ·have hltI : ¬ (j : Int) < parts.length := by omega
   have hje : j = parts.length := by omega
   subst hje
   rw [List.take_length] at hP
   obtain ⟨pa, pc, hpv, -, -⟩ := hP.r.slice
   obtain ⟨⟨z0, z1, z2, z3, z4, z5, z6, z7⟩, zf⟩ := zz7.gr hP.g (by omega)
   have hbx := below_gr b7 hP.g (by omega) hw6
   have Nx := N7.turn (kept_gr hP.g fun b hb => by omega)
   have Rx := hP.r
   obtain ⟨a0, a1, a2, a3, a4, a5, a6, a7⟩ := hP.a
   simp only [Nat.zero_add] at a0 a1 a2 a3 a4 a5 a6 a7
   have m0' := hP.g.cell m0 (fun e => by have := Option.some.inj e; dsimp only at this; omega)
   have y0 := zf 0
   have y1 := zf 1
   have y2 := zf 2
   have y3 := zf 3
   have y4 := zf 4
   have y5 := zf 5
   have y6 := zf 6
   have y7 := zf 7
   have xf6 := hP.z 6
   have hW6r := hP.g.size
   obtain ⟨nao, ncc, hnv2, -, -, -⟩ := id Nx
   rw [List.length_map] at hpv
   rw [List.length_nil] at hnv2
   subst hpv hnv2
   clear hP ih hcell
   go_wp2
   obtain ⟨r0, r1, r2, r3, r4, r5, r6, r7⟩ := set8 z0 z1 z2 z3 z4 z5 z6 z7 (.int .i64 22) (.string ty) (.int .u64 bits) (.int .u64 0) (.string ⟨#[]⟩) (.slice nao 0 ncc) (.slice pa parts.length pc) (.int .i64 hook)
   refine bodyPost_ret (v := .agg #[.int .i64 22, .string ty, .int .u64 bits, .int .u64 0, .string ⟨#[]⟩, .slice nao 0 ncc, .slice pa parts.length pc, .int .i64 hook]) (by simp [results, Tryz.results35, go_sem, r0, r1, r2, r3, r4, r5, r6, r7]) rfl ?_
   refine ⟨set8_below hbx (by omega), _, _, rfl, ?_, ?_⟩
   ·exact Nx.turn fun b hb hlt => ⟨by omega, fun o => set8_other (by omega) o⟩
   ·refine Row8.pt (B := W6.heap.size) ?_ _ fun b hb => by omega
    exact (((((((Rx.set (by omega) _ _).set (by omega) _ _).set (by omega) _ _).set (by omega) _ _).set (by omega) _ _).set (by omega) _ _).set (by omega) _ _).set (by omega) _ _
end Go.Proofs.YtlgieoabellbmaaGreatDoor
