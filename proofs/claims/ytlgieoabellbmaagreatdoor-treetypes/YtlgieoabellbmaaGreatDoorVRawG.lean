/- rawOf at the values with parts. -/
import Derived.Test.YtlgieoabellbmaaGreatDoorPt12
import Derived.Deep.RegionHeld
import Derived.Deep.LoopGhost
import Derived.Deep.DeepCutAuto
import Derived.Deep.CutBlock
import Derived.Deep.RegionWith
import Derived.BigQuiet
namespace Go.Proofs.YtlgieoabellbmaaGreatDoor
open Go.RowKit
set_option linter.unusedVariables false
set_option linter.unusedSimpArgs false
def Nm (W : World) (Q : Nat → Prop) (nv : Value) (l : List ByteArray) : Prop := ∃ a cap, nv = .slice a l.length cap ∧ l.length ≤ cap ∧ cap ≤ maxLen ∧ StrsS Q W a l
theorem Nm.nil (W : World) (Q : Nat → Prop) : Nm W Q (.slice none 0 0) [] := ⟨none, 0, rfl, Nat.le_refl _, Nat.zero_le _, fun i s h => by simp at h⟩
theorem Nm.turn {W W' : World} {Q Q' : Nat → Prop} {nv : Value} {l : List ByteArray} (h : Nm W Q nv l) (hk : Kept Q Q' W W') : Nm W' Q' nv l := by
 obtain ⟨a, c, e, h1, h2, h3⟩ := h
 exact ⟨a, c, e, h1, h2, h3.turn hk⟩
def Pt (n : Nat) (Q : Nat → Prop) (W : World) (pv : Value) (l : List D) : Prop := ∃ a cap, pv = .slice a l.length cap ∧ l.length ≤ cap ∧ cap ≤ maxLen ∧
 ∀ (i : Nat) (x : D), l[i]? = some x → ∃ b off nv' pv', a = some ⟨b, off, none⟩ ∧ Q b ∧ At8 W b (off + i * 8) x nv' pv' ∧ RdS n Q W nv' pv' x
theorem Row8.pt {n B : Nat} {W : World} {v : Value} {l : List D} (h : Row8 n B W v l) (Q : Nat → Prop) (hQ : ∀ b, B ≤ b → Q b) : Pt n Q W v l := by
 obtain ⟨a, c, e, h1, h2, h3⟩ := h.reads
 refine ⟨a, c, e, h1, h2, fun i x hx => ?_⟩
 obtain ⟨b, off, nv, pv, q1, q2, q3, q4⟩ := h3 i x hx
 exact ⟨b, off, nv, pv, q1, hQ b q2, q3, q4.turn fun b hb _ => ⟨hQ b hb, fun _ => rfl⟩⟩
theorem RdS.mk {n : Nat} {Q : Nat → Prop} {W : World} {nv pv : Value} {d : D} (hf : Fit d) (hs : ∀ s ∈ d.names, s.size ≤ maxLen) (h1 : Nm W Q nv d.names) (h2 : Pt n Q W pv d.parts) : RdS (n + 1) Q W nv pv d := by
 obtain ⟨a, c, e, q1, q2, q3⟩ := h1
 exact ⟨hf, ⟨a, c, e, q1, q2, fun i s hi => ⟨hs s (List.mem_of_getElem? hi), q3 i s hi⟩⟩, h2⟩
theorem Zero8.gr {W W' : World} {b X : Nat} (h : Zero8 W b) (hg : W.grownBy W' (some X)) (hne : b ≠ X) : Zero8 W' b := by
 obtain ⟨⟨h0, h1, h2, h3, h4, h5, h6, h7⟩, hf⟩ := h
 have hb : b < W.heap.size := lt_of_cell h0
 have hn : ∀ o : Nat, some (⟨b, o, none⟩ : Addr).block ≠ some X := fun _ e => hne (Option.some.inj e)
 exact ⟨⟨hg.cell h0 (hn 0), hg.cell h1 (hn 1), hg.cell h2 (hn 2), hg.cell h3 (hn 3), hg.cell h4 (hn 4), hg.cell h5 (hn 5), hg.cell h6 (hn 6), hg.cell h7 (hn 7)⟩, fun i => (hg.frozen_far ⟨b, i, none⟩ hb (hn i)).trans (hf i)⟩
theorem kept_gr {Q : Nat → Prop} {W W' : World} {X : Nat} (hg : W.grownBy W' (some X)) (hQ : ∀ b, Q b → b ≠ X) : Kept Q Q W W' := fun b hb hl => ⟨hb, fun o => hg.cell_far ⟨b, o, none⟩ hl (fun e => hQ b hb (Option.some.inj e))⟩
theorem below_gr {N X : Nat} {w W W' : World} (hb : Below N w W) (hg : W.grownBy W' (some X)) (hX : N ≤ X) (hN : N ≤ W.heap.size) : Below N w W' :=
 ⟨hg.os.trans hb.os, hg.tape.trans hb.tape, hg.output.trans hb.output, Nat.le_trans hb.size hg.size, fun k hk => (hg.block k (by omega) (fun e => by have := Option.some.inj e; omega)).trans (hb.block k hk)⟩
theorem set8_other {V : World} {b c : Nat} {y0 y1 y2 y3 y4 y5 y6 y7 : Value} (h : c ≠ b) (o : Nat) : ((((((((V.setCell ⟨b, 0, none⟩ y0).setCell ⟨b, 1, none⟩ y1).setCell ⟨b, 2, none⟩ y2).setCell ⟨b, 3, none⟩ y3).setCell ⟨b, 4, none⟩ y4).setCell ⟨b, 5, none⟩ y5).setCell ⟨b, 6, none⟩ y6).setCell ⟨b, 7, none⟩ y7).cell? ⟨c, o, none⟩ = V.cell? ⟨c, o, none⟩ := by
 refine World.cell?_of_block ?_
 show _ = _
 iterate 8 rw [Below.heap_setCell _ _ _ _ h]
theorem run_append_noneV {P : Program} {w : World} (t ty e : TypeId) (i : TypeInfo) (ht : P.underlying t = some (.slice e)) (hi : P.info? e = some i) (c : Nat) :
  (Builtin.append_ #[t, t] ty #[.slice none 0 0, .slice none 0 c]).run P w = .ok (.slice none 0 0) w := by
 simp [Builtin.append_, run_underlying ht, sizeOf, typeInfo, hi, Builtin.lenOf, Builtin.firstCells, loadCells, loadCellsFrom, storeCells]
theorem wpl_append_noneV {P : Program} {w : World} {ops : Array Oper} {rest : List Oper} {o : Oper} {a : Act} {Q : Exit → Act → World → Prop} (hgd : o.guard = none) (s x : Operand) (t : TypeId)
  (ho : o.op = .call { callee := .builtin .append, args := #[s, x], argTypes := #[t, t] }) (e : TypeId) (i : TypeInfo) (ht : P.underlying t = some (.slice e)) (hi : P.info? e = some i)
  (c : Nat) (hs : a.eval s = .slice none 0 0) (hx : a.eval x = .slice none 0 c) (h : wpList P ops Q rest (a.put o.dst (.slice none 0 0)) w) : wpList P ops Q (o :: rest) a w := by
 refine wpList_plain hgd fun K hK => ?_
 have hr := run_append_noneV (P := P) (w := w) t o.type e i ht hi c
 unfold Oper.wp execOp
 simp only [ho, resolve, invoke, builtin, Sem.run_bind, Sem.run_pure, Result.andThen_ok, List.map_toArray, List.map_cons, List.map_nil, hs, hx, hr]
 exact hK _ _ h
theorem wpl_appNames {ops : Array Oper} {rest : List Oper} {o : Oper} {a : Act} {w : World} {Q : Exit → Act → World → Prop} (hgd : o.guard = none) (s x : Operand)
  (ho : o.op = .call { callee := .builtin .append, args := #[s, x], argTypes := #[23, 23] }) (names : List ByteArray) (na : Option Addr) (nc : Nat) {S : Nat → Prop} (hn : StrsS S w na names) (hl : names.length ≤ 1000)
  (hs : a.eval s = .slice none 0 0) (hx : a.eval x = .slice na names.length nc)
  (hk : ∀ nv' w', (∃ ao c, nv' = .slice ao names.length c) → Nm w' (fun b => w.heap.size ≤ b) nv' names → Below w.heap.size w w' → wpList Tryz.prog ops Q rest (a.put o.dst nv') w') : wpList Tryz.prog ops Q (o :: rest) a w := by
 obtain ⟨i0, hi, hz0, hz1, hz2⟩ := info_str
 cases na with
 | none =>
   have he : names = [] := by
    cases names with
    | nil => rfl
    | cons s t =>
      obtain ⟨b, off, e, -⟩ := hn 0 s rfl
      cases e
   subst he
   refine wpl_append_noneV hgd s x 23 ho 9 i0 Tryz.underlying23 hi nc hs hx ?_
   exact hk _ _ ⟨none, 0, rfl⟩ (Nm.nil _ _) (Below.refl _ _)
 | some ad =>
   refine wpList_append_own_at _ hgd s x 23 ho w.heap.size 9 i0 _ 1 16 Tryz.underlying23 hi hz0 hz1 hz2 rfl (by decide) (.slice none 0 0) 0 [] hs (World.ownsRow_nil _ _ _ _) ad names.length nc (names.map Value.string) hx (by simp) ?_ ?_ ?_ ?_ (Nat.le_refl _) ?_
   ·intro j u hj
    rw [List.getElem?_map, Option.map_eq_some_iff] at hj
    obtain ⟨s, hs, rfl⟩ := hj
    obtain ⟨b, off, e, -, hc⟩ := hn j s hs
    obtain rfl := Option.some.inj e
    rw [Addr.add_mid]
    exact hc
   ·intro u hu
    obtain ⟨s, -, rfl⟩ := List.mem_map.1 hu
    rfl
   ·unfold maxLen; omega
   ·omega
   ·intro v' w' ho' hg' _ _
    rw [List.nil_append, Nat.zero_add] at ho'
    obtain ⟨a', c', rfl, k1, k2, k3⟩ := own_strs ho' rfl
    refine hk _ _ ⟨a', c', rfl⟩ ⟨a', c', rfl, k1, k2, k3⟩ ?_
    exact (Below.refl _ _).grown hg' (Nat.le_refl _) (fun k hk => by cases hk)
abbrev RawR (n : Nat) (x : D) : Prop := ∀ (S : Nat → Prop) (V : World) (y : Value), VlC srt n S V y x → Calls Tryz.prog 115 #[y] V fun e W' => Below V.heap.size V W' ∧ ∃ nv pv, e = .returned (DV (inF x) nv pv) ∧ RdS n (fun b => V.heap.size ≤ b) W' nv pv (inF x)
theorem RdS.slices {n : Nat} {S : Nat → Prop} {W : World} {nv pv : Value} {d : D} (h : RdS n S W nv pv d) : ∃ na nc pa pc, nv = .slice na d.names.length nc ∧ pv = .slice pa d.parts.length pc := h.plain.slices
set_option maxRecDepth 1000000 in
set_option maxHeartbeats 4000000 in
theorem rawg_list (n : Nat) (k h : Int) (ty : ByteArray) (fa : Option Addr) (fl fc : Nat) (vl : List D) (w : World) (hl : vl.length ≤ 1000) (ih : ∀ x ∈ vl, RawR n x)
  (hp : ∀ V, Below w.heap.size w V → w.heap.size ≤ V.heap.size → Calls Tryz.prog 28 #[.iface 88 (.agg #[.int .i64 k, .string ty, .int .i64 h, .slice fa fl fc])] V fun e W' => Below V.heap.size V W' ∧ ∃ (ga : Option Addr) (gc : Nat) (S : Nat → Prop), e = .returned (.slice ga vl.length gc) ∧ (∀ b, S b → b < w.heap.size) ∧ Vals (VlC srt n S V) (fun b => S b ∨ V.heap.size ≤ b) W' ga vl) :
  Calls Tryz.prog 115 #[.iface 88 (.agg #[.int .i64 k, .string ty, .int .i64 h, .slice fa fl fc])] w fun e w' => Below w.heap.size w w' ∧ ∃ nv pv, e = .returned (.agg #[.int .i64 k, .string ty, .int .u64 0, .int .u64 0, .string ⟨#[]⟩, nv, pv, .int .i64 h]) ∧ Nm w' (fun b => w.heap.size ≤ b) nv [] ∧ Pt n (fun b => w.heap.size ≤ b) w' pv (vl.map inF) := by
 have h0 := ta_list_truth
 have h1 := ta_list_signed
 have h2 := ta_list_unsigned
 have h3 := ta_list_float
 have h4 := ta_list_pair
 have h5 := ta_list_text
 have h6 := ta_list_octets
 have h7 := ta_list_structure
 have h8 := ta_list_pointer
 have hm := fun W => markof_list k h ty fa fl fc W
 obtain ⟨W1, hW1⟩ : ∃ W1, W1 = w.alloc (.cells #[.int .i64 0, .string ⟨#[]⟩, .int .u64 0, .int .u64 0, .string ⟨#[]⟩, .slice none 0 0, .slice none 0 0, .int .i64 0] 26) := ⟨_, rfl⟩
 have hb1 : Below w.heap.size w W1 := by rw [hW1]; exact (Below.refl _ _).alloc (Nat.le_refl _) _
 have c0 : W1.cell? ⟨w.heap.size, 0, none⟩ = some (.int .i64 0) ∧ W1.cell? ⟨w.heap.size, 1, none⟩ = some (.string ⟨#[]⟩) ∧ W1.cell? ⟨w.heap.size, 2, none⟩ = some (.int .u64 0) ∧ W1.cell? ⟨w.heap.size, 3, none⟩ = some (.int .u64 0) ∧ W1.cell? ⟨w.heap.size, 4, none⟩ = some (.string ⟨#[]⟩) ∧ W1.cell? ⟨w.heap.size, 5, none⟩ = some (.slice none 0 0) ∧ W1.cell? ⟨w.heap.size, 6, none⟩ = some (.slice none 0 0) ∧ W1.cell? ⟨w.heap.size, 7, none⟩ = some (.int .i64 0) := by rw [hW1]; simp
 have fz : ∀ i, W1.frozen? ⟨w.heap.size, i, none⟩ = false := fun i => by rw [hW1, frozen?_alloc_cells]; exact frozen_none _ _ (Nat.le_refl _)
 have zW1 : Zero8 W1 w.heap.size := ⟨c0, fz⟩
 go_enter Tryz.func115, Tryz.ntmps115
 go_wp2_with fail
 rw [← hW1]
 refine (hm _).mono ?_
 rintro e V ⟨rfl, hV⟩
 have zV : Zero8 V w.heap.size := zW1.up hV
 have hzV : w.heap.size < V.heap.size := lt_of_cell zV.1.1
 have hbV : Below w.heap.size w V := hb1.trans (hV.mono hb1.size)
 clear hm c0 fz zW1 hW1 hb1 hV
 obtain ⟨W5, hW5⟩ : ∃ W5, W5 = ((V.alloc (.cells #[.int .i64 k, .string ty, .int .i64 h] 60)).alloc (.cells #[.int .i64 k, .string ty, .int .u64 0, .int .u64 0, .string ⟨#[]⟩, .slice none 0 0, .slice none 0 0, .int .i64 h] 26)) := ⟨_, rfl⟩
 have b5 : Below V.heap.size V W5 := by rw [hW5]; exact ((Below.refl _ _).alloc (Nat.le_refl _) _).alloc (by simp) _
 have a5 : At8 W5 (V.heap.size + 1) 0 ⟨k, ty, 0, 0, ⟨#[]⟩, [], [], h⟩ (.slice none 0 0) (.slice none 0 0) := by
  rw [hW5]
  refine ⟨?_, ?_, ?_, ?_, ?_, ?_, ?_, ?_⟩
  all_goals simp [go_sem]
 have z5 : ∀ i, W5.frozen? ⟨V.heap.size + 1, i, none⟩ = false := fun i => by
  have e1 : (V.alloc (.cells #[.int .i64 k, .string ty, .int .i64 h] 60)).heap.size = V.heap.size + 1 := by simp
  rw [hW5, frozen?_alloc_cells, ← e1]
  exact frozen_none _ _ (Nat.le_refl _)
 have s5 : V.heap.size + 2 ≤ W5.heap.size := by rw [hW5]; simp
 have bw5 : Below w.heap.size w W5 := hbV.trans (b5.mono hbV.size)
 have zz5 : Zero8 W5 w.heap.size := zV.up b5
 obtain ⟨nv, hnv⟩ : ∃ nv, nv = Value.slice none 0 0 := ⟨_, rfl⟩
 have a5' : At8 W5 (V.heap.size + 1) 0 ⟨k, ty, 0, 0, ⟨#[]⟩, [], [], h⟩ nv (.slice none 0 0) := by rw [hnv]; exact a5
 go_upto_region 31 with fail
 rw [← hW5]
 clear hW5 zV a5
 go_upto_block 1 with (go_at_call 28; refine (hp _ bw5 (Nat.le_trans hbV.size b5.size)).mono ?_; rintro e W6 ⟨b6, ga, gc, S, rfl, hS, hvl⟩)
 have a6 := a5'.up b6
 have z6 : ∀ i, W6.frozen? ⟨V.heap.size + 1, i, none⟩ = false := fun i => (b6.frozen (p := ⟨V.heap.size + 1, i, none⟩) (by dsimp only; omega)).trans (z5 i)
 have zz6 := zz5.up b6
 have N6 : Nm W6 (fun b => w.heap.size < b ∧ b ≠ V.heap.size + 1) nv [] := by rw [hnv]; exact Nm.nil _ _
 have bw6 : Below w.heap.size w W6 := bw5.trans (b6.mono bw5.size)
 have hx6 : V.heap.size + 1 < W6.heap.size := Nat.lt_of_lt_of_le (by omega) b6.size
 have hvl6 : Vals (VlC srt n S W6) (fun b => b ≠ V.heap.size + 1) W6 ga vl := hvl.turn (fun b hb _ => ⟨hb.elim (fun h => by have := hS b h; omega) (fun h => by omega), fun _ => rfl⟩) fun v y hy => hy.turn (Kept.below b6 fun b hb _ => hb)
 clear a5' z5 zz5 b5 bw5 s5 hvl hp hbV hnv
 have p6 : PBx W6 (V.heap.size + 1) n ⟨k, ty, 0, 0, ⟨#[]⟩, [], [], h⟩ nv (.slice none 0 0) [] W6 := ⟨World.grownBy.refl _ _, a6, z6, Row8.nil _ _ _, hx6⟩
 have hw6 := bw6.size
 clear a6 z6 b6
 obtain ⟨X, hX⟩ : ∃ X, V.heap.size + 1 = X := ⟨_, rfl⟩
 rw [hX] at p6 hx6 hvl6 N6
 have hXw : w.heap.size < X := by omega
 have hSX : ∀ b, S b → b ≠ X := fun b hb => by have := hS b hb; omega
 simp only [hX]
 clear hX hzV hS
 go_cut [15, 91] (fun z i wx => ∃ pv, PBx W6 X n ⟨k, ty, 0, 0, ⟨#[]⟩, [], [], h⟩ nv pv (vl.map inF) wx)
 case first =>
  have hlI : (vl.length : Int) ≤ 1000 := by omega
  go_wp2_with fail
  go_loopg [15, 91] vl.length (fun g z iv wr => ∃ (j : Nat) (pv : Value), iv = .int .i64 (j : Nat) ∧ j + g = vl.length ∧ PBx W6 X n ⟨k, ty, 0, 0, ⟨#[]⟩, [], [], h⟩ nv pv ((vl.take j).map inF) wr)
  case atStart => exact ⟨0, _, rfl, by omega, by simpa using p6⟩
  case round =>
   obtain ⟨j, pv, rfl, hjg, hP⟩ := hrel
   clear p6
   by_cases hlt : j < vl.length
   ·have hltI : (j : Int) < vl.length := by omega
    obtain ⟨x, hx⟩ : ∃ x, vl[j]? = some x := ⟨_, List.getElem?_eq_getElem hlt⟩
    obtain ⟨B, off, t, u, rfl, hBX, cv, hR⟩ := hvl6 j x hx
    have hBl : B < W6.heap.size := lt_of_cell cv
    have q0 : wr.cell? ⟨B, off + j, none⟩ = some (.iface t u) := (hP.g.cell_far ⟨B, off + j, none⟩ hBl (fun e => hBX (Option.some.inj e))).trans cv
    have hPd := hP.up (Below.refl wr.heap.size wr).drew
    have hRd : VlC srt n S wr.drew (.iface t u) x := hR.turn (kept_gr hPd.g hSX)
    have hrec := ih x (List.mem_of_getElem? hx) S wr.drew (.iface t u) hRd
    have HL : Hid (((vl.take j).map inF) ++ [inF x] = (vl.take (j + 1)).map inF) := by
     show _ = _
     rw [List.take_add_one, hx, List.map_append]; rfl
    have hll : ((vl.take j).map inF).length ≤ 100000 := by rw [List.length_map, List.length_take]; omega
    generalize (vl.take j).map inF = lj at *
    obtain ⟨pa, pc, rfl, -, -⟩ := hP.r.slice
    have c6 := hPd.a.2.2.2.2.2.2.1
    simp only [Nat.zero_add] at c6
    clear hR hx hvl6 hP hRd
    go_upto_region 34 with fail
    refine wp_region_held_drew (S := fun _ => True) (by kernel_rfl) trivial ?_
    intro hS
    refine tk 0 (.pointer (some ⟨X, 6, none⟩)) rfl (by kernel_rfl) (fun _ _ _ h => h) (by rfl) (by assumption) ?_ ?_
    ·intro w5 s0
     go_simp
    try simp only [Act.put, lys]
    refine tk 2 (.iface t u) rfl (by kernel_rfl) (fun _ _ _ h => h) (by rfl) (by assumption) ?_ ?_
    ·intro w5 s0
     go_simp
    try simp only [Act.put, lys]
    refine wpAnyH_ready (rs := [1, 3]) (by kernel_rfl) (by simp) ?_
    refine AllReadyH.cons rfl (fun K0 hK0 => ?_) (AllReadyH.cons rfl (fun K0 hK0 => ?_) AllReadyH.nil)
    ·skip
     have cL := c6
     go_simp
     refine hK0.out _ _ trivial (fun _ => ?_)
     clear hK0 cL
     try simp only [Act.put, lys]
     refine rd1 3 (by kernel_rfl) rfl fun K1 hK1 => ?_
     go_simp
     refine hrec.mono ?_
     rintro e Z ⟨hbZ, nv', pv', rfl, hrd⟩
     obtain ⟨na', nc', pa', pc', rfl, rfl⟩ := hrd.slices
     have hPZ := hPd.up hbZ
     refine hK1.out _ _ trivial (fun _ => ?_)
     clear hK1
     try simp only [Act.put, lys]
     refine rd1 4 (by kernel_rfl) rfl fun K2 hK2 => ?_
     go_simp
     refine hK2.out _ _ trivial (fun _ => ?_)
     clear hK2
     try simp only [Act.put, lys]
     refine rd1 5 (by kernel_rfl) rfl fun K3 hK3 => ?_
     rw [if_pos (by rfl)]
     have hZl : wr.heap.size ≤ Z.heap.size := hbZ.size
     have hW6l : W6.heap.size ≤ wr.heap.size := hPd.g.size
     have hy : RdS n (fun b => W6.heap.size ≤ b ∧ (Value.slice pa lj.length pc).ownBlock ≠ some b) Z (.slice na' (inF x).names.length nc') (.slice pa' (inF x).parts.length pc') (inF x) := hrd.turn fun b hb _ => ⟨⟨Nat.le_trans hW6l hb, fun e => by have h1 := (hPd.r.lt b e).2; have h2 : wr.drew.heap.size ≤ b := hb; omega⟩, fun _ => rfl⟩
     refine wp_app8 _ _ rfl hPZ.r (inF x) _ _ hy rfl rfl rfl hll (Nat.le_trans hW6l hZl) ?_
     rintro v7 w7 ⟨ao7, c7, rfl⟩ R7 g7
     refine hK3.out _ _ trivial (fun _ => ?_)
     clear hK3
     try simp only [Act.put, lys]
     have P7 := hPZ.app R7 g7
     have f7 : w7.frozen? ⟨X, 6, none⟩ = false := by have := P7.z 6; rwa [World.frozen?_setCell] at this
     have c67 : w7.cell? ⟨X, 6, none⟩ = some (.slice pa lj.length pc) := by
      have c6Z := hPZ.a.2.2.2.2.2.2.1
      simp only [Nat.zero_add] at c6Z
      exact g7.cell c6Z (fun e => by have h1 := (hPZ.r.lt X e.symm).1; omega)
     refine rd1 6 (by kernel_rfl) rfl fun K4 hK4 => ?_
     go_simp
     refine hK4.out _ _ trivial (fun _ => ?_)
     clear hK4
     try simp only [Act.put, lys]
     refine rd1 7 (by kernel_rfl) rfl fun K5 hK5 => ?_
     go_simp
     refine hK5.out _ _ trivial (fun _ => ?_)
     clear hK5
     try simp only [Act.put, lys]
     refine wpAnyH_done (by kernel_rfl) ?_ _
     rw [HL.out] at P7
     clear hS hrec hPd hPZ hrd hy R7 g7 f7 c67 c6
     generalize w7.setCell ⟨X, 6, none⟩ (.slice ao7 (lj.length + 1) c7) = W8 at *
     go_wp2
     go_roundg (gk - 1)
     case measure => omega
     case rel => exact ⟨j + 1, _, by go_num, by omega, P7⟩
    ·skip
     go_simp
     refine hrec.mono ?_
     rintro e Z ⟨hbZ, nv', pv', rfl, hrd⟩
     obtain ⟨na', nc', pa', pc', rfl, rfl⟩ := hrd.slices
     have hPZ := hPd.up hbZ
     refine hK0.out _ _ trivial (fun _ => ?_)
     clear hK0
     try simp only [Act.put, lys]
     have c6Z := hPZ.a.2.2.2.2.2.2.1
     simp only [Nat.zero_add] at c6Z
     refine wpAnyH_ready (rs := [1, 4]) (by kernel_rfl) (by simp) ?_
     refine AllReadyH.cons rfl (fun K0 hK0 => ?_) (AllReadyH.cons rfl (fun K0 hK0 => ?_) AllReadyH.nil)
     ·skip
      have cL := c6Z
      go_simp
      refine hK0.out _ _ trivial (fun _ => ?_)
      clear hK0 cL
      try simp only [Act.put, lys]
      refine rd1 4 (by kernel_rfl) rfl fun K6 hK6 => ?_
      go_simp
      refine hK6.out _ _ trivial (fun _ => ?_)
      clear hK6
      try simp only [Act.put, lys]
      refine rd1 5 (by kernel_rfl) rfl fun K7 hK7 => ?_
      rw [if_pos (by rfl)]
      have hZl : wr.heap.size ≤ Z.heap.size := hbZ.size
      have hW6l : W6.heap.size ≤ wr.heap.size := hPd.g.size
      have hy : RdS n (fun b => W6.heap.size ≤ b ∧ (Value.slice pa lj.length pc).ownBlock ≠ some b) Z (.slice na' (inF x).names.length nc') (.slice pa' (inF x).parts.length pc') (inF x) := hrd.turn fun b hb _ => ⟨⟨Nat.le_trans hW6l hb, fun e => by have h1 := (hPd.r.lt b e).2; have h2 : wr.drew.heap.size ≤ b := hb; omega⟩, fun _ => rfl⟩
      refine wp_app8 _ _ rfl hPZ.r (inF x) _ _ hy rfl rfl rfl hll (Nat.le_trans hW6l hZl) ?_
      rintro v7 w7 ⟨ao7, c7, rfl⟩ R7 g7
      refine hK7.out _ _ trivial (fun _ => ?_)
      clear hK7
      try simp only [Act.put, lys]
      have P7 := hPZ.app R7 g7
      have f7 : w7.frozen? ⟨X, 6, none⟩ = false := by have := P7.z 6; rwa [World.frozen?_setCell] at this
      have c67 : w7.cell? ⟨X, 6, none⟩ = some (.slice pa lj.length pc) := by
       have c6Z := hPZ.a.2.2.2.2.2.2.1
       simp only [Nat.zero_add] at c6Z
       exact g7.cell c6Z (fun e => by have h1 := (hPZ.r.lt X e.symm).1; omega)
      refine rd1 6 (by kernel_rfl) rfl fun K8 hK8 => ?_
      go_simp
      refine hK8.out _ _ trivial (fun _ => ?_)
      clear hK8
      try simp only [Act.put, lys]
      refine rd1 7 (by kernel_rfl) rfl fun K9 hK9 => ?_
      go_simp
      refine hK9.out _ _ trivial (fun _ => ?_)
      clear hK9
      try simp only [Act.put, lys]
      refine wpAnyH_done (by kernel_rfl) ?_ _
      rw [HL.out] at P7
      clear hS hrec hPd hPZ hrd hy R7 g7 f7 c67 c6
      generalize w7.setCell ⟨X, 6, none⟩ (.slice ao7 (lj.length + 1) c7) = W8 at *
      go_wp2
      go_roundg (gk - 1)
      case measure => omega
      case rel => exact ⟨j + 1, _, by go_num, by omega, P7⟩
     ·skip
      go_simp
      refine hK0.out _ _ trivial (fun _ => ?_)
      clear hK0
      try simp only [Act.put, lys]
      have c6Y := up_cell ((Below.refl Z.heap.size Z).alloc (Nat.le_refl _) (.cells #[.int .i64 (inF x).kind, .string (inF x).ty, .int .u64 (inF x).bits, .int .u64 (inF x).imag, .string (inF x).text, .slice na' (inF x).names.length nc', .slice pa' (inF x).parts.length pc', .int .i64 (inF x).hook] 26)) c6Z
      refine rd1 1 (by kernel_rfl) rfl fun K10 hK10 => ?_
      have cL := c6Y
      go_simp
      refine hK10.out _ _ trivial (fun _ => ?_)
      clear hK10 cL
      try simp only [Act.put, lys]
      refine rd1 5 (by kernel_rfl) rfl fun K11 hK11 => ?_
      rw [if_pos (by rfl)]
      have hZl : wr.heap.size ≤ Z.heap.size := hbZ.size
      have hW6l : W6.heap.size ≤ wr.heap.size := hPd.g.size
      have hy : RdS n (fun b => W6.heap.size ≤ b ∧ (Value.slice pa lj.length pc).ownBlock ≠ some b) Z (.slice na' (inF x).names.length nc') (.slice pa' (inF x).parts.length pc') (inF x) := hrd.turn fun b hb _ => ⟨⟨Nat.le_trans hW6l hb, fun e => by have h1 := (hPd.r.lt b e).2; have h2 : wr.drew.heap.size ≤ b := hb; omega⟩, fun _ => rfl⟩
      refine wp_app8 _ _ rfl hPZ.r (inF x) _ _ hy rfl rfl rfl hll (Nat.le_trans hW6l hZl) ?_
      rintro v7 w7 ⟨ao7, c7, rfl⟩ R7 g7
      refine hK11.out _ _ trivial (fun _ => ?_)
      clear hK11
      try simp only [Act.put, lys]
      have P7 := hPZ.app R7 g7
      have f7 : w7.frozen? ⟨X, 6, none⟩ = false := by have := P7.z 6; rwa [World.frozen?_setCell] at this
      have c67 : w7.cell? ⟨X, 6, none⟩ = some (.slice pa lj.length pc) := by
       have c6Z := hPZ.a.2.2.2.2.2.2.1
       simp only [Nat.zero_add] at c6Z
       exact g7.cell c6Z (fun e => by have h1 := (hPZ.r.lt X e.symm).1; omega)
      refine rd1 6 (by kernel_rfl) rfl fun K12 hK12 => ?_
      go_simp
      refine hK12.out _ _ trivial (fun _ => ?_)
      clear hK12
      try simp only [Act.put, lys]
      refine rd1 7 (by kernel_rfl) rfl fun K13 hK13 => ?_
      go_simp
      refine hK13.out _ _ trivial (fun _ => ?_)
      clear hK13
      try simp only [Act.put, lys]
      refine wpAnyH_done (by kernel_rfl) ?_ _
      rw [HL.out] at P7
      clear hS hrec hPd hPZ hrd hy R7 g7 f7 c67 c6
      generalize w7.setCell ⟨X, 6, none⟩ (.slice ao7 (lj.length + 1) c7) = W8 at *
      go_wp2
      go_roundg (gk - 1)
      case measure => omega
      case rel => exact ⟨j + 1, _, by go_num, by omega, P7⟩
   ·have hltI : ¬ (j : Int) < vl.length := by omega
    have hje : j = vl.length := by omega
    subst hje
    rw [List.take_length] at hP
    go_wp2
    go_meet
    exact ⟨pv, hP⟩
 case rest =>
  obtain ⟨pv, hP⟩ := hcut
  obtain ⟨pa, pc, hpv, -, -⟩ := hP.r.slice
  obtain ⟨⟨z0, z1, z2, z3, z4, z5, z6, z7⟩, zf⟩ := zz6.gr hP.g (by omega)
  have hbx := below_gr bw6 hP.g (by omega) hw6
  have Nx := N6.turn (kept_gr hP.g fun b hb => hb.2)
  have Rx := hP.r
  obtain ⟨a0, a1, a2, a3, a4, a5, a6, a7⟩ := hP.a
  simp only [Nat.zero_add] at a0 a1 a2 a3 a4 a5 a6 a7
  have y0 := zf 0
  have y1 := zf 1
  have y2 := zf 2
  have y3 := zf 3
  have y4 := zf 4
  have y5 := zf 5
  have y6 := zf 6
  have y7 := zf 7
  obtain ⟨nao, ncc, hnv, -, -, -⟩ := id Nx
  rw [List.length_map] at hpv
  rw [List.length_nil] at hnv
  subst hpv hnv
  clear hP ih hvl6 p6
  go_wp2
  obtain ⟨r0, r1, r2, r3, r4, r5, r6, r7⟩ := set8 z0 z1 z2 z3 z4 z5 z6 z7 (.int .i64 k) (.string ty) (.int .u64 0) (.int .u64 0) (.string ⟨#[]⟩) (.slice nao 0 ncc) (.slice pa vl.length pc) (.int .i64 h)
  refine bodyPost_ret (v := .agg #[.int .i64 k, .string ty, .int .u64 0, .int .u64 0, .string ⟨#[]⟩, .slice nao 0 ncc, .slice pa vl.length pc, .int .i64 h]) (by simp [results, Tryz.results115, go_sem, r0, r1, r2, r3, r4, r5, r6, r7]) rfl ?_
  refine ⟨set8_below hbx (Nat.le_refl _), _, _, rfl, ?_, ?_⟩
  ·exact Nx.turn fun b hb hlt => ⟨Nat.le_of_lt hb.1, fun o => set8_other (by omega) o⟩
  ·refine Row8.pt (B := W6.heap.size) ?_ _ fun b hb => by omega
   exact (((((((Rx.set (by omega) _ _).set (by omega) _ _).set (by omega) _ _).set (by omega) _ _).set (by omega) _ _).set (by omega) _ _).set (by omega) _ _).set (by omega) _ _
set_option maxRecDepth 1000000 in
set_option maxHeartbeats 4000000 in
theorem rawg_dictionary (n : Nat) (k h : Int) (ty : ByteArray) (fa : Option Addr) (fl fc : Nat) (vl : List D) (w : World) (hl : vl.length ≤ 1000) (ih : ∀ x ∈ vl, RawR n x)
  (hp : ∀ V, Below w.heap.size w V → w.heap.size ≤ V.heap.size → Calls Tryz.prog 28 #[.iface 91 (.agg #[.int .i64 k, .string ty, .int .i64 h, .slice fa fl fc])] V fun e W' => Below V.heap.size V W' ∧ ∃ (ga : Option Addr) (gc : Nat) (S : Nat → Prop), e = .returned (.slice ga vl.length gc) ∧ (∀ b, S b → b < w.heap.size) ∧ Vals (VlC srt n S V) (fun b => S b ∨ V.heap.size ≤ b) W' ga vl) :
  Calls Tryz.prog 115 #[.iface 91 (.agg #[.int .i64 k, .string ty, .int .i64 h, .slice fa fl fc])] w fun e w' => Below w.heap.size w w' ∧ ∃ nv pv, e = .returned (.agg #[.int .i64 k, .string ty, .int .u64 0, .int .u64 0, .string ⟨#[]⟩, nv, pv, .int .i64 h]) ∧ Nm w' (fun b => w.heap.size ≤ b) nv [] ∧ Pt n (fun b => w.heap.size ≤ b) w' pv (vl.map inF) := by
 have h0 := ta_dictionary_truth
 have h1 := ta_dictionary_signed
 have h2 := ta_dictionary_unsigned
 have h3 := ta_dictionary_float
 have h4 := ta_dictionary_pair
 have h5 := ta_dictionary_text
 have h6 := ta_dictionary_octets
 have h7 := ta_dictionary_structure
 have h8 := ta_dictionary_pointer
 have hm := fun W => markof_dictionary k h ty fa fl fc W
 obtain ⟨W1, hW1⟩ : ∃ W1, W1 = w.alloc (.cells #[.int .i64 0, .string ⟨#[]⟩, .int .u64 0, .int .u64 0, .string ⟨#[]⟩, .slice none 0 0, .slice none 0 0, .int .i64 0] 26) := ⟨_, rfl⟩
 have hb1 : Below w.heap.size w W1 := by rw [hW1]; exact (Below.refl _ _).alloc (Nat.le_refl _) _
 have c0 : W1.cell? ⟨w.heap.size, 0, none⟩ = some (.int .i64 0) ∧ W1.cell? ⟨w.heap.size, 1, none⟩ = some (.string ⟨#[]⟩) ∧ W1.cell? ⟨w.heap.size, 2, none⟩ = some (.int .u64 0) ∧ W1.cell? ⟨w.heap.size, 3, none⟩ = some (.int .u64 0) ∧ W1.cell? ⟨w.heap.size, 4, none⟩ = some (.string ⟨#[]⟩) ∧ W1.cell? ⟨w.heap.size, 5, none⟩ = some (.slice none 0 0) ∧ W1.cell? ⟨w.heap.size, 6, none⟩ = some (.slice none 0 0) ∧ W1.cell? ⟨w.heap.size, 7, none⟩ = some (.int .i64 0) := by rw [hW1]; simp
 have fz : ∀ i, W1.frozen? ⟨w.heap.size, i, none⟩ = false := fun i => by rw [hW1, frozen?_alloc_cells]; exact frozen_none _ _ (Nat.le_refl _)
 have zW1 : Zero8 W1 w.heap.size := ⟨c0, fz⟩
 go_enter Tryz.func115, Tryz.ntmps115
 go_wp2_with fail
 rw [← hW1]
 refine (hm _).mono ?_
 rintro e V ⟨rfl, hV⟩
 have zV : Zero8 V w.heap.size := zW1.up hV
 have hzV : w.heap.size < V.heap.size := lt_of_cell zV.1.1
 have hbV : Below w.heap.size w V := hb1.trans (hV.mono hb1.size)
 clear hm c0 fz zW1 hW1 hb1 hV
 obtain ⟨W5, hW5⟩ : ∃ W5, W5 = ((V.alloc (.cells #[.int .i64 k, .string ty, .int .i64 h] 60)).alloc (.cells #[.int .i64 k, .string ty, .int .u64 0, .int .u64 0, .string ⟨#[]⟩, .slice none 0 0, .slice none 0 0, .int .i64 h] 26)) := ⟨_, rfl⟩
 have b5 : Below V.heap.size V W5 := by rw [hW5]; exact ((Below.refl _ _).alloc (Nat.le_refl _) _).alloc (by simp) _
 have a5 : At8 W5 (V.heap.size + 1) 0 ⟨k, ty, 0, 0, ⟨#[]⟩, [], [], h⟩ (.slice none 0 0) (.slice none 0 0) := by
  rw [hW5]
  refine ⟨?_, ?_, ?_, ?_, ?_, ?_, ?_, ?_⟩
  all_goals simp [go_sem]
 have z5 : ∀ i, W5.frozen? ⟨V.heap.size + 1, i, none⟩ = false := fun i => by
  have e1 : (V.alloc (.cells #[.int .i64 k, .string ty, .int .i64 h] 60)).heap.size = V.heap.size + 1 := by simp
  rw [hW5, frozen?_alloc_cells, ← e1]
  exact frozen_none _ _ (Nat.le_refl _)
 have s5 : V.heap.size + 2 ≤ W5.heap.size := by rw [hW5]; simp
 have bw5 : Below w.heap.size w W5 := hbV.trans (b5.mono hbV.size)
 have zz5 : Zero8 W5 w.heap.size := zV.up b5
 obtain ⟨nv, hnv⟩ : ∃ nv, nv = Value.slice none 0 0 := ⟨_, rfl⟩
 have a5' : At8 W5 (V.heap.size + 1) 0 ⟨k, ty, 0, 0, ⟨#[]⟩, [], [], h⟩ nv (.slice none 0 0) := by rw [hnv]; exact a5
 go_upto_region 31 with fail
 rw [← hW5]
 clear hW5 zV a5
 go_upto_block 1 with (go_at_call 28; refine (hp _ bw5 (Nat.le_trans hbV.size b5.size)).mono ?_; rintro e W6 ⟨b6, ga, gc, S, rfl, hS, hvl⟩)
 have a6 := a5'.up b6
 have z6 : ∀ i, W6.frozen? ⟨V.heap.size + 1, i, none⟩ = false := fun i => (b6.frozen (p := ⟨V.heap.size + 1, i, none⟩) (by dsimp only; omega)).trans (z5 i)
 have zz6 := zz5.up b6
 have N6 : Nm W6 (fun b => w.heap.size < b ∧ b ≠ V.heap.size + 1) nv [] := by rw [hnv]; exact Nm.nil _ _
 have bw6 : Below w.heap.size w W6 := bw5.trans (b6.mono bw5.size)
 have hx6 : V.heap.size + 1 < W6.heap.size := Nat.lt_of_lt_of_le (by omega) b6.size
 have hvl6 : Vals (VlC srt n S W6) (fun b => b ≠ V.heap.size + 1) W6 ga vl := hvl.turn (fun b hb _ => ⟨hb.elim (fun h => by have := hS b h; omega) (fun h => by omega), fun _ => rfl⟩) fun v y hy => hy.turn (Kept.below b6 fun b hb _ => hb)
 clear a5' z5 zz5 b5 bw5 s5 hvl hp hbV hnv
 have p6 : PBx W6 (V.heap.size + 1) n ⟨k, ty, 0, 0, ⟨#[]⟩, [], [], h⟩ nv (.slice none 0 0) [] W6 := ⟨World.grownBy.refl _ _, a6, z6, Row8.nil _ _ _, hx6⟩
 have hw6 := bw6.size
 clear a6 z6 b6
 obtain ⟨X, hX⟩ : ∃ X, V.heap.size + 1 = X := ⟨_, rfl⟩
 rw [hX] at p6 hx6 hvl6 N6
 have hXw : w.heap.size < X := by omega
 have hSX : ∀ b, S b → b ≠ X := fun b hb => by have := hS b hb; omega
 simp only [hX]
 clear hX hzV hS
 go_cut [15, 91] (fun z i wx => ∃ pv, PBx W6 X n ⟨k, ty, 0, 0, ⟨#[]⟩, [], [], h⟩ nv pv (vl.map inF) wx)
 case first =>
  have hlI : (vl.length : Int) ≤ 1000 := by omega
  go_wp2_with fail
  go_loopg [15, 91] vl.length (fun g z iv wr => ∃ (j : Nat) (pv : Value), iv = .int .i64 (j : Nat) ∧ j + g = vl.length ∧ PBx W6 X n ⟨k, ty, 0, 0, ⟨#[]⟩, [], [], h⟩ nv pv ((vl.take j).map inF) wr)
  case atStart => exact ⟨0, _, rfl, by omega, by simpa using p6⟩
  case round =>
   obtain ⟨j, pv, rfl, hjg, hP⟩ := hrel
   clear p6
   by_cases hlt : j < vl.length
   ·have hltI : (j : Int) < vl.length := by omega
    obtain ⟨x, hx⟩ : ∃ x, vl[j]? = some x := ⟨_, List.getElem?_eq_getElem hlt⟩
    obtain ⟨B, off, t, u, rfl, hBX, cv, hR⟩ := hvl6 j x hx
    have hBl : B < W6.heap.size := lt_of_cell cv
    have q0 : wr.cell? ⟨B, off + j, none⟩ = some (.iface t u) := (hP.g.cell_far ⟨B, off + j, none⟩ hBl (fun e => hBX (Option.some.inj e))).trans cv
    have hPd := hP.up (Below.refl wr.heap.size wr).drew
    have hRd : VlC srt n S wr.drew (.iface t u) x := hR.turn (kept_gr hPd.g hSX)
    have hrec := ih x (List.mem_of_getElem? hx) S wr.drew (.iface t u) hRd
    have HL : Hid (((vl.take j).map inF) ++ [inF x] = (vl.take (j + 1)).map inF) := by
     show _ = _
     rw [List.take_add_one, hx, List.map_append]; rfl
    have hll : ((vl.take j).map inF).length ≤ 100000 := by rw [List.length_map, List.length_take]; omega
    generalize (vl.take j).map inF = lj at *
    obtain ⟨pa, pc, rfl, -, -⟩ := hP.r.slice
    have c6 := hPd.a.2.2.2.2.2.2.1
    simp only [Nat.zero_add] at c6
    clear hR hx hvl6 hP hRd
    go_upto_region 34 with fail
    refine wp_region_held_drew (S := fun _ => True) (by kernel_rfl) trivial ?_
    intro hS
    refine tk 0 (.pointer (some ⟨X, 6, none⟩)) rfl (by kernel_rfl) (fun _ _ _ h => h) (by rfl) (by assumption) ?_ ?_
    ·intro w5 s0
     go_simp
    try simp only [Act.put, lys]
    refine tk 2 (.iface t u) rfl (by kernel_rfl) (fun _ _ _ h => h) (by rfl) (by assumption) ?_ ?_
    ·intro w5 s0
     go_simp
    try simp only [Act.put, lys]
    refine wpAnyH_ready (rs := [1, 3]) (by kernel_rfl) (by simp) ?_
    refine AllReadyH.cons rfl (fun K0 hK0 => ?_) (AllReadyH.cons rfl (fun K0 hK0 => ?_) AllReadyH.nil)
    ·skip
     have cL := c6
     go_simp
     refine hK0.out _ _ trivial (fun _ => ?_)
     clear hK0 cL
     try simp only [Act.put, lys]
     refine rd1 3 (by kernel_rfl) rfl fun K1 hK1 => ?_
     go_simp
     refine hrec.mono ?_
     rintro e Z ⟨hbZ, nv', pv', rfl, hrd⟩
     obtain ⟨na', nc', pa', pc', rfl, rfl⟩ := hrd.slices
     have hPZ := hPd.up hbZ
     refine hK1.out _ _ trivial (fun _ => ?_)
     clear hK1
     try simp only [Act.put, lys]
     refine rd1 4 (by kernel_rfl) rfl fun K2 hK2 => ?_
     go_simp
     refine hK2.out _ _ trivial (fun _ => ?_)
     clear hK2
     try simp only [Act.put, lys]
     refine rd1 5 (by kernel_rfl) rfl fun K3 hK3 => ?_
     rw [if_pos (by rfl)]
     have hZl : wr.heap.size ≤ Z.heap.size := hbZ.size
     have hW6l : W6.heap.size ≤ wr.heap.size := hPd.g.size
     have hy : RdS n (fun b => W6.heap.size ≤ b ∧ (Value.slice pa lj.length pc).ownBlock ≠ some b) Z (.slice na' (inF x).names.length nc') (.slice pa' (inF x).parts.length pc') (inF x) := hrd.turn fun b hb _ => ⟨⟨Nat.le_trans hW6l hb, fun e => by have h1 := (hPd.r.lt b e).2; have h2 : wr.drew.heap.size ≤ b := hb; omega⟩, fun _ => rfl⟩
     refine wp_app8 _ _ rfl hPZ.r (inF x) _ _ hy rfl rfl rfl hll (Nat.le_trans hW6l hZl) ?_
     rintro v7 w7 ⟨ao7, c7, rfl⟩ R7 g7
     refine hK3.out _ _ trivial (fun _ => ?_)
     clear hK3
     try simp only [Act.put, lys]
     have P7 := hPZ.app R7 g7
     have f7 : w7.frozen? ⟨X, 6, none⟩ = false := by have := P7.z 6; rwa [World.frozen?_setCell] at this
     have c67 : w7.cell? ⟨X, 6, none⟩ = some (.slice pa lj.length pc) := by
      have c6Z := hPZ.a.2.2.2.2.2.2.1
      simp only [Nat.zero_add] at c6Z
      exact g7.cell c6Z (fun e => by have h1 := (hPZ.r.lt X e.symm).1; omega)
     refine rd1 6 (by kernel_rfl) rfl fun K4 hK4 => ?_
     go_simp
     refine hK4.out _ _ trivial (fun _ => ?_)
     clear hK4
     try simp only [Act.put, lys]
     refine rd1 7 (by kernel_rfl) rfl fun K5 hK5 => ?_
     go_simp
     refine hK5.out _ _ trivial (fun _ => ?_)
     clear hK5
     try simp only [Act.put, lys]
     refine wpAnyH_done (by kernel_rfl) ?_ _
     rw [HL.out] at P7
     clear hS hrec hPd hPZ hrd hy R7 g7 f7 c67 c6
     generalize w7.setCell ⟨X, 6, none⟩ (.slice ao7 (lj.length + 1) c7) = W8 at *
     go_wp2
     go_roundg (gk - 1)
     case measure => omega
     case rel => exact ⟨j + 1, _, by go_num, by omega, P7⟩
    ·skip
     go_simp
     refine hrec.mono ?_
     rintro e Z ⟨hbZ, nv', pv', rfl, hrd⟩
     obtain ⟨na', nc', pa', pc', rfl, rfl⟩ := hrd.slices
     have hPZ := hPd.up hbZ
     refine hK0.out _ _ trivial (fun _ => ?_)
     clear hK0
     try simp only [Act.put, lys]
     have c6Z := hPZ.a.2.2.2.2.2.2.1
     simp only [Nat.zero_add] at c6Z
     refine wpAnyH_ready (rs := [1, 4]) (by kernel_rfl) (by simp) ?_
     refine AllReadyH.cons rfl (fun K0 hK0 => ?_) (AllReadyH.cons rfl (fun K0 hK0 => ?_) AllReadyH.nil)
     ·skip
      have cL := c6Z
      go_simp
      refine hK0.out _ _ trivial (fun _ => ?_)
      clear hK0 cL
      try simp only [Act.put, lys]
      refine rd1 4 (by kernel_rfl) rfl fun K6 hK6 => ?_
      go_simp
      refine hK6.out _ _ trivial (fun _ => ?_)
      clear hK6
      try simp only [Act.put, lys]
      refine rd1 5 (by kernel_rfl) rfl fun K7 hK7 => ?_
      rw [if_pos (by rfl)]
      have hZl : wr.heap.size ≤ Z.heap.size := hbZ.size
      have hW6l : W6.heap.size ≤ wr.heap.size := hPd.g.size
      have hy : RdS n (fun b => W6.heap.size ≤ b ∧ (Value.slice pa lj.length pc).ownBlock ≠ some b) Z (.slice na' (inF x).names.length nc') (.slice pa' (inF x).parts.length pc') (inF x) := hrd.turn fun b hb _ => ⟨⟨Nat.le_trans hW6l hb, fun e => by have h1 := (hPd.r.lt b e).2; have h2 : wr.drew.heap.size ≤ b := hb; omega⟩, fun _ => rfl⟩
      refine wp_app8 _ _ rfl hPZ.r (inF x) _ _ hy rfl rfl rfl hll (Nat.le_trans hW6l hZl) ?_
      rintro v7 w7 ⟨ao7, c7, rfl⟩ R7 g7
      refine hK7.out _ _ trivial (fun _ => ?_)
      clear hK7
      try simp only [Act.put, lys]
      have P7 := hPZ.app R7 g7
      have f7 : w7.frozen? ⟨X, 6, none⟩ = false := by have := P7.z 6; rwa [World.frozen?_setCell] at this
      have c67 : w7.cell? ⟨X, 6, none⟩ = some (.slice pa lj.length pc) := by
       have c6Z := hPZ.a.2.2.2.2.2.2.1
       simp only [Nat.zero_add] at c6Z
       exact g7.cell c6Z (fun e => by have h1 := (hPZ.r.lt X e.symm).1; omega)
      refine rd1 6 (by kernel_rfl) rfl fun K8 hK8 => ?_
      go_simp
      refine hK8.out _ _ trivial (fun _ => ?_)
      clear hK8
      try simp only [Act.put, lys]
      refine rd1 7 (by kernel_rfl) rfl fun K9 hK9 => ?_
      go_simp
      refine hK9.out _ _ trivial (fun _ => ?_)
      clear hK9
      try simp only [Act.put, lys]
      refine wpAnyH_done (by kernel_rfl) ?_ _
      rw [HL.out] at P7
      clear hS hrec hPd hPZ hrd hy R7 g7 f7 c67 c6
      generalize w7.setCell ⟨X, 6, none⟩ (.slice ao7 (lj.length + 1) c7) = W8 at *
      go_wp2
      go_roundg (gk - 1)
      case measure => omega
      case rel => exact ⟨j + 1, _, by go_num, by omega, P7⟩
     ·skip
      go_simp
      refine hK0.out _ _ trivial (fun _ => ?_)
      clear hK0
      try simp only [Act.put, lys]
      have c6Y := up_cell ((Below.refl Z.heap.size Z).alloc (Nat.le_refl _) (.cells #[.int .i64 (inF x).kind, .string (inF x).ty, .int .u64 (inF x).bits, .int .u64 (inF x).imag, .string (inF x).text, .slice na' (inF x).names.length nc', .slice pa' (inF x).parts.length pc', .int .i64 (inF x).hook] 26)) c6Z
      refine rd1 1 (by kernel_rfl) rfl fun K10 hK10 => ?_
      have cL := c6Y
      go_simp
      refine hK10.out _ _ trivial (fun _ => ?_)
      clear hK10 cL
      try simp only [Act.put, lys]
      refine rd1 5 (by kernel_rfl) rfl fun K11 hK11 => ?_
      rw [if_pos (by rfl)]
      have hZl : wr.heap.size ≤ Z.heap.size := hbZ.size
      have hW6l : W6.heap.size ≤ wr.heap.size := hPd.g.size
      have hy : RdS n (fun b => W6.heap.size ≤ b ∧ (Value.slice pa lj.length pc).ownBlock ≠ some b) Z (.slice na' (inF x).names.length nc') (.slice pa' (inF x).parts.length pc') (inF x) := hrd.turn fun b hb _ => ⟨⟨Nat.le_trans hW6l hb, fun e => by have h1 := (hPd.r.lt b e).2; have h2 : wr.drew.heap.size ≤ b := hb; omega⟩, fun _ => rfl⟩
      refine wp_app8 _ _ rfl hPZ.r (inF x) _ _ hy rfl rfl rfl hll (Nat.le_trans hW6l hZl) ?_
      rintro v7 w7 ⟨ao7, c7, rfl⟩ R7 g7
      refine hK11.out _ _ trivial (fun _ => ?_)
      clear hK11
      try simp only [Act.put, lys]
      have P7 := hPZ.app R7 g7
      have f7 : w7.frozen? ⟨X, 6, none⟩ = false := by have := P7.z 6; rwa [World.frozen?_setCell] at this
      have c67 : w7.cell? ⟨X, 6, none⟩ = some (.slice pa lj.length pc) := by
       have c6Z := hPZ.a.2.2.2.2.2.2.1
       simp only [Nat.zero_add] at c6Z
       exact g7.cell c6Z (fun e => by have h1 := (hPZ.r.lt X e.symm).1; omega)
      refine rd1 6 (by kernel_rfl) rfl fun K12 hK12 => ?_
      go_simp
      refine hK12.out _ _ trivial (fun _ => ?_)
      clear hK12
      try simp only [Act.put, lys]
      refine rd1 7 (by kernel_rfl) rfl fun K13 hK13 => ?_
      go_simp
      refine hK13.out _ _ trivial (fun _ => ?_)
      clear hK13
      try simp only [Act.put, lys]
      refine wpAnyH_done (by kernel_rfl) ?_ _
      rw [HL.out] at P7
      clear hS hrec hPd hPZ hrd hy R7 g7 f7 c67 c6
      generalize w7.setCell ⟨X, 6, none⟩ (.slice ao7 (lj.length + 1) c7) = W8 at *
      go_wp2
      go_roundg (gk - 1)
      case measure => omega
      case rel => exact ⟨j + 1, _, by go_num, by omega, P7⟩
   ·have hltI : ¬ (j : Int) < vl.length := by omega
    have hje : j = vl.length := by omega
    subst hje
    rw [List.take_length] at hP
    go_wp2
    go_meet
    exact ⟨pv, hP⟩
 case rest =>
  obtain ⟨pv, hP⟩ := hcut
  obtain ⟨pa, pc, hpv, -, -⟩ := hP.r.slice
  obtain ⟨⟨z0, z1, z2, z3, z4, z5, z6, z7⟩, zf⟩ := zz6.gr hP.g (by omega)
  have hbx := below_gr bw6 hP.g (by omega) hw6
  have Nx := N6.turn (kept_gr hP.g fun b hb => hb.2)
  have Rx := hP.r
  obtain ⟨a0, a1, a2, a3, a4, a5, a6, a7⟩ := hP.a
  simp only [Nat.zero_add] at a0 a1 a2 a3 a4 a5 a6 a7
  have y0 := zf 0
  have y1 := zf 1
  have y2 := zf 2
  have y3 := zf 3
  have y4 := zf 4
  have y5 := zf 5
  have y6 := zf 6
  have y7 := zf 7
  obtain ⟨nao, ncc, hnv, -, -, -⟩ := id Nx
  rw [List.length_map] at hpv
  rw [List.length_nil] at hnv
  subst hpv hnv
  clear hP ih hvl6 p6
  go_wp2
  obtain ⟨r0, r1, r2, r3, r4, r5, r6, r7⟩ := set8 z0 z1 z2 z3 z4 z5 z6 z7 (.int .i64 k) (.string ty) (.int .u64 0) (.int .u64 0) (.string ⟨#[]⟩) (.slice nao 0 ncc) (.slice pa vl.length pc) (.int .i64 h)
  refine bodyPost_ret (v := .agg #[.int .i64 k, .string ty, .int .u64 0, .int .u64 0, .string ⟨#[]⟩, .slice nao 0 ncc, .slice pa vl.length pc, .int .i64 h]) (by simp [results, Tryz.results115, go_sem, r0, r1, r2, r3, r4, r5, r6, r7]) rfl ?_
  refine ⟨set8_below hbx (Nat.le_refl _), _, _, rfl, ?_, ?_⟩
  ·exact Nx.turn fun b hb hlt => ⟨Nat.le_of_lt hb.1, fun o => set8_other (by omega) o⟩
  ·refine Row8.pt (B := W6.heap.size) ?_ _ fun b hb => by omega
   exact (((((((Rx.set (by omega) _ _).set (by omega) _ _).set (by omega) _ _).set (by omega) _ _).set (by omega) _ _).set (by omega) _ _).set (by omega) _ _).set (by omega) _ _
set_option maxRecDepth 1000000 in
set_option maxHeartbeats 4000000 in
theorem rawg_pointer (n : Nat) (k h : Int) (ty : ByteArray) (nb : Int) (fa : Option Addr) (fl fc : Nat) (vl : List D) (w : World) (hl : vl.length ≤ 1000) (ih : ∀ x ∈ vl, RawR n x)
  (hp : ∀ V, Below w.heap.size w V → w.heap.size ≤ V.heap.size → Calls Tryz.prog 28 #[.iface 95 (.agg #[.int .i64 k, .string ty, .int .i64 h, .int .u64 nb, .slice fa fl fc])] V fun e W' => Below V.heap.size V W' ∧ ∃ (ga : Option Addr) (gc : Nat) (S : Nat → Prop), e = .returned (.slice ga vl.length gc) ∧ (∀ b, S b → b < w.heap.size) ∧ Vals (VlC srt n S V) (fun b => S b ∨ V.heap.size ≤ b) W' ga vl) :
  Calls Tryz.prog 115 #[.iface 95 (.agg #[.int .i64 k, .string ty, .int .i64 h, .int .u64 nb, .slice fa fl fc])] w fun e w' => Below w.heap.size w w' ∧ ∃ nv pv, e = .returned (.agg #[.int .i64 k, .string ty, .int .u64 nb, .int .u64 0, .string ⟨#[]⟩, nv, pv, .int .i64 h]) ∧ Nm w' (fun b => w.heap.size ≤ b) nv [] ∧ Pt n (fun b => w.heap.size ≤ b) w' pv (vl.map inF) := by
 have h0 := ta_pointer_truth
 have h1 := ta_pointer_signed
 have h2 := ta_pointer_unsigned
 have h3 := ta_pointer_float
 have h4 := ta_pointer_pair
 have h5 := ta_pointer_text
 have h6 := ta_pointer_octets
 have h7 := ta_pointer_structure
 have h8 := ta_pointer_pointer
 have hm := fun W => markof_pointer k h ty nb fa fl fc W
 obtain ⟨W1, hW1⟩ : ∃ W1, W1 = w.alloc (.cells #[.int .i64 0, .string ⟨#[]⟩, .int .u64 0, .int .u64 0, .string ⟨#[]⟩, .slice none 0 0, .slice none 0 0, .int .i64 0] 26) := ⟨_, rfl⟩
 have hb1 : Below w.heap.size w W1 := by rw [hW1]; exact (Below.refl _ _).alloc (Nat.le_refl _) _
 have c0 : W1.cell? ⟨w.heap.size, 0, none⟩ = some (.int .i64 0) ∧ W1.cell? ⟨w.heap.size, 1, none⟩ = some (.string ⟨#[]⟩) ∧ W1.cell? ⟨w.heap.size, 2, none⟩ = some (.int .u64 0) ∧ W1.cell? ⟨w.heap.size, 3, none⟩ = some (.int .u64 0) ∧ W1.cell? ⟨w.heap.size, 4, none⟩ = some (.string ⟨#[]⟩) ∧ W1.cell? ⟨w.heap.size, 5, none⟩ = some (.slice none 0 0) ∧ W1.cell? ⟨w.heap.size, 6, none⟩ = some (.slice none 0 0) ∧ W1.cell? ⟨w.heap.size, 7, none⟩ = some (.int .i64 0) := by rw [hW1]; simp
 have fz : ∀ i, W1.frozen? ⟨w.heap.size, i, none⟩ = false := fun i => by rw [hW1, frozen?_alloc_cells]; exact frozen_none _ _ (Nat.le_refl _)
 have zW1 : Zero8 W1 w.heap.size := ⟨c0, fz⟩
 go_enter Tryz.func115, Tryz.ntmps115
 go_wp2_with fail
 rw [← hW1]
 refine (hm _).mono ?_
 rintro e V ⟨rfl, hV⟩
 have zV : Zero8 V w.heap.size := zW1.up hV
 have hzV : w.heap.size < V.heap.size := lt_of_cell zV.1.1
 have hbV : Below w.heap.size w V := hb1.trans (hV.mono hb1.size)
 clear hm c0 fz zW1 hW1 hb1 hV
 obtain ⟨W5, hW5⟩ : ∃ W5, W5 = (((V.alloc (.cells #[.int .i64 k, .string ty, .int .i64 h] 60)).alloc (.cells #[.int .i64 k, .string ty, .int .u64 nb, .int .u64 0, .string ⟨#[]⟩, .slice none 0 0, .slice none 0 0, .int .i64 h] 26)).alloc (.cells #[.int .i64 k, .string ty, .int .i64 h, .int .u64 nb, .slice fa fl fc] 95)) := ⟨_, rfl⟩
 have b5 : Below V.heap.size V W5 := by rw [hW5]; exact (((Below.refl _ _).alloc (Nat.le_refl _) _).alloc (by simp) _).alloc (by simp; omega) _
 have a5 : At8 W5 (V.heap.size + 1) 0 ⟨k, ty, nb, 0, ⟨#[]⟩, [], [], h⟩ (.slice none 0 0) (.slice none 0 0) := by
  rw [hW5]
  refine ⟨?_, ?_, ?_, ?_, ?_, ?_, ?_, ?_⟩
  all_goals simp [go_sem]
 have z5 : ∀ i, W5.frozen? ⟨V.heap.size + 1, i, none⟩ = false := fun i => by
  have e1 : (V.alloc (.cells #[.int .i64 k, .string ty, .int .i64 h] 60)).heap.size = V.heap.size + 1 := by simp
  rw [hW5, frozen?_alloc_cells, frozen?_alloc_cells, ← e1]
  exact frozen_none _ _ (Nat.le_refl _)
 have s5 : V.heap.size + 2 ≤ W5.heap.size := by rw [hW5]; simp
 have bw5 : Below w.heap.size w W5 := hbV.trans (b5.mono hbV.size)
 have zz5 : Zero8 W5 w.heap.size := zV.up b5
 obtain ⟨nv, hnv⟩ : ∃ nv, nv = Value.slice none 0 0 := ⟨_, rfl⟩
 have a5' : At8 W5 (V.heap.size + 1) 0 ⟨k, ty, nb, 0, ⟨#[]⟩, [], [], h⟩ nv (.slice none 0 0) := by rw [hnv]; exact a5
 go_upto_region 31 with fail
 rw [← hW5]
 clear hW5 zV a5
 go_upto_block 1 with (go_at_call 28; refine (hp _ bw5 (Nat.le_trans hbV.size b5.size)).mono ?_; rintro e W6 ⟨b6, ga, gc, S, rfl, hS, hvl⟩)
 have a6 := a5'.up b6
 have z6 : ∀ i, W6.frozen? ⟨V.heap.size + 1, i, none⟩ = false := fun i => (b6.frozen (p := ⟨V.heap.size + 1, i, none⟩) (by dsimp only; omega)).trans (z5 i)
 have zz6 := zz5.up b6
 have N6 : Nm W6 (fun b => w.heap.size < b ∧ b ≠ V.heap.size + 1) nv [] := by rw [hnv]; exact Nm.nil _ _
 have bw6 : Below w.heap.size w W6 := bw5.trans (b6.mono bw5.size)
 have hx6 : V.heap.size + 1 < W6.heap.size := Nat.lt_of_lt_of_le (by omega) b6.size
 have hvl6 : Vals (VlC srt n S W6) (fun b => b ≠ V.heap.size + 1) W6 ga vl := hvl.turn (fun b hb _ => ⟨hb.elim (fun h => by have := hS b h; omega) (fun h => by omega), fun _ => rfl⟩) fun v y hy => hy.turn (Kept.below b6 fun b hb _ => hb)
 clear a5' z5 zz5 b5 bw5 s5 hvl hp hbV hnv
 have p6 : PBx W6 (V.heap.size + 1) n ⟨k, ty, nb, 0, ⟨#[]⟩, [], [], h⟩ nv (.slice none 0 0) [] W6 := ⟨World.grownBy.refl _ _, a6, z6, Row8.nil _ _ _, hx6⟩
 have hw6 := bw6.size
 clear a6 z6 b6
 obtain ⟨X, hX⟩ : ∃ X, V.heap.size + 1 = X := ⟨_, rfl⟩
 rw [hX] at p6 hx6 hvl6 N6
 have hXw : w.heap.size < X := by omega
 have hSX : ∀ b, S b → b ≠ X := fun b hb => by have := hS b hb; omega
 simp only [hX]
 clear hX hzV hS
 go_cut [15, 91] (fun z i wx => ∃ pv, PBx W6 X n ⟨k, ty, nb, 0, ⟨#[]⟩, [], [], h⟩ nv pv (vl.map inF) wx)
 case first =>
  have hlI : (vl.length : Int) ≤ 1000 := by omega
  go_wp2_with fail
  go_loopg [15, 91] vl.length (fun g z iv wr => ∃ (j : Nat) (pv : Value), iv = .int .i64 (j : Nat) ∧ j + g = vl.length ∧ PBx W6 X n ⟨k, ty, nb, 0, ⟨#[]⟩, [], [], h⟩ nv pv ((vl.take j).map inF) wr)
  case atStart => exact ⟨0, _, rfl, by omega, by simpa using p6⟩
  case round =>
   obtain ⟨j, pv, rfl, hjg, hP⟩ := hrel
   clear p6
   by_cases hlt : j < vl.length
   ·have hltI : (j : Int) < vl.length := by omega
    obtain ⟨x, hx⟩ : ∃ x, vl[j]? = some x := ⟨_, List.getElem?_eq_getElem hlt⟩
    obtain ⟨B, off, t, u, rfl, hBX, cv, hR⟩ := hvl6 j x hx
    have hBl : B < W6.heap.size := lt_of_cell cv
    have q0 : wr.cell? ⟨B, off + j, none⟩ = some (.iface t u) := (hP.g.cell_far ⟨B, off + j, none⟩ hBl (fun e => hBX (Option.some.inj e))).trans cv
    have hPd := hP.up (Below.refl wr.heap.size wr).drew
    have hRd : VlC srt n S wr.drew (.iface t u) x := hR.turn (kept_gr hPd.g hSX)
    have hrec := ih x (List.mem_of_getElem? hx) S wr.drew (.iface t u) hRd
    have HL : Hid (((vl.take j).map inF) ++ [inF x] = (vl.take (j + 1)).map inF) := by
     show _ = _
     rw [List.take_add_one, hx, List.map_append]; rfl
    have hll : ((vl.take j).map inF).length ≤ 100000 := by rw [List.length_map, List.length_take]; omega
    generalize (vl.take j).map inF = lj at *
    obtain ⟨pa, pc, rfl, -, -⟩ := hP.r.slice
    have c6 := hPd.a.2.2.2.2.2.2.1
    simp only [Nat.zero_add] at c6
    clear hR hx hvl6 hP hRd
    go_upto_region 34 with fail
    refine wp_region_held_drew (S := fun _ => True) (by kernel_rfl) trivial ?_
    intro hS
    refine tk 0 (.pointer (some ⟨X, 6, none⟩)) rfl (by kernel_rfl) (fun _ _ _ h => h) (by rfl) (by assumption) ?_ ?_
    ·intro w5 s0
     go_simp
    try simp only [Act.put, lys]
    refine tk 2 (.iface t u) rfl (by kernel_rfl) (fun _ _ _ h => h) (by rfl) (by assumption) ?_ ?_
    ·intro w5 s0
     go_simp
    try simp only [Act.put, lys]
    refine wpAnyH_ready (rs := [1, 3]) (by kernel_rfl) (by simp) ?_
    refine AllReadyH.cons rfl (fun K0 hK0 => ?_) (AllReadyH.cons rfl (fun K0 hK0 => ?_) AllReadyH.nil)
    ·skip
     have cL := c6
     go_simp
     refine hK0.out _ _ trivial (fun _ => ?_)
     clear hK0 cL
     try simp only [Act.put, lys]
     refine rd1 3 (by kernel_rfl) rfl fun K1 hK1 => ?_
     go_simp
     refine hrec.mono ?_
     rintro e Z ⟨hbZ, nv', pv', rfl, hrd⟩
     obtain ⟨na', nc', pa', pc', rfl, rfl⟩ := hrd.slices
     have hPZ := hPd.up hbZ
     refine hK1.out _ _ trivial (fun _ => ?_)
     clear hK1
     try simp only [Act.put, lys]
     refine rd1 4 (by kernel_rfl) rfl fun K2 hK2 => ?_
     go_simp
     refine hK2.out _ _ trivial (fun _ => ?_)
     clear hK2
     try simp only [Act.put, lys]
     refine rd1 5 (by kernel_rfl) rfl fun K3 hK3 => ?_
     rw [if_pos (by rfl)]
     have hZl : wr.heap.size ≤ Z.heap.size := hbZ.size
     have hW6l : W6.heap.size ≤ wr.heap.size := hPd.g.size
     have hy : RdS n (fun b => W6.heap.size ≤ b ∧ (Value.slice pa lj.length pc).ownBlock ≠ some b) Z (.slice na' (inF x).names.length nc') (.slice pa' (inF x).parts.length pc') (inF x) := hrd.turn fun b hb _ => ⟨⟨Nat.le_trans hW6l hb, fun e => by have h1 := (hPd.r.lt b e).2; have h2 : wr.drew.heap.size ≤ b := hb; omega⟩, fun _ => rfl⟩
     refine wp_app8 _ _ rfl hPZ.r (inF x) _ _ hy rfl rfl rfl hll (Nat.le_trans hW6l hZl) ?_
     rintro v7 w7 ⟨ao7, c7, rfl⟩ R7 g7
     refine hK3.out _ _ trivial (fun _ => ?_)
     clear hK3
     try simp only [Act.put, lys]
     have P7 := hPZ.app R7 g7
     have f7 : w7.frozen? ⟨X, 6, none⟩ = false := by have := P7.z 6; rwa [World.frozen?_setCell] at this
     have c67 : w7.cell? ⟨X, 6, none⟩ = some (.slice pa lj.length pc) := by
      have c6Z := hPZ.a.2.2.2.2.2.2.1
      simp only [Nat.zero_add] at c6Z
      exact g7.cell c6Z (fun e => by have h1 := (hPZ.r.lt X e.symm).1; omega)
     refine rd1 6 (by kernel_rfl) rfl fun K4 hK4 => ?_
     go_simp
     refine hK4.out _ _ trivial (fun _ => ?_)
     clear hK4
     try simp only [Act.put, lys]
     refine rd1 7 (by kernel_rfl) rfl fun K5 hK5 => ?_
     go_simp
     refine hK5.out _ _ trivial (fun _ => ?_)
     clear hK5
     try simp only [Act.put, lys]
     refine wpAnyH_done (by kernel_rfl) ?_ _
     rw [HL.out] at P7
     clear hS hrec hPd hPZ hrd hy R7 g7 f7 c67 c6
     generalize w7.setCell ⟨X, 6, none⟩ (.slice ao7 (lj.length + 1) c7) = W8 at *
     go_wp2
     go_roundg (gk - 1)
     case measure => omega
     case rel => exact ⟨j + 1, _, by go_num, by omega, P7⟩
    ·skip
     go_simp
     refine hrec.mono ?_
     rintro e Z ⟨hbZ, nv', pv', rfl, hrd⟩
     obtain ⟨na', nc', pa', pc', rfl, rfl⟩ := hrd.slices
     have hPZ := hPd.up hbZ
     refine hK0.out _ _ trivial (fun _ => ?_)
     clear hK0
     try simp only [Act.put, lys]
     have c6Z := hPZ.a.2.2.2.2.2.2.1
     simp only [Nat.zero_add] at c6Z
     refine wpAnyH_ready (rs := [1, 4]) (by kernel_rfl) (by simp) ?_
     refine AllReadyH.cons rfl (fun K0 hK0 => ?_) (AllReadyH.cons rfl (fun K0 hK0 => ?_) AllReadyH.nil)
     ·skip
      have cL := c6Z
      go_simp
      refine hK0.out _ _ trivial (fun _ => ?_)
      clear hK0 cL
      try simp only [Act.put, lys]
      refine rd1 4 (by kernel_rfl) rfl fun K6 hK6 => ?_
      go_simp
      refine hK6.out _ _ trivial (fun _ => ?_)
      clear hK6
      try simp only [Act.put, lys]
      refine rd1 5 (by kernel_rfl) rfl fun K7 hK7 => ?_
      rw [if_pos (by rfl)]
      have hZl : wr.heap.size ≤ Z.heap.size := hbZ.size
      have hW6l : W6.heap.size ≤ wr.heap.size := hPd.g.size
      have hy : RdS n (fun b => W6.heap.size ≤ b ∧ (Value.slice pa lj.length pc).ownBlock ≠ some b) Z (.slice na' (inF x).names.length nc') (.slice pa' (inF x).parts.length pc') (inF x) := hrd.turn fun b hb _ => ⟨⟨Nat.le_trans hW6l hb, fun e => by have h1 := (hPd.r.lt b e).2; have h2 : wr.drew.heap.size ≤ b := hb; omega⟩, fun _ => rfl⟩
      refine wp_app8 _ _ rfl hPZ.r (inF x) _ _ hy rfl rfl rfl hll (Nat.le_trans hW6l hZl) ?_
      rintro v7 w7 ⟨ao7, c7, rfl⟩ R7 g7
      refine hK7.out _ _ trivial (fun _ => ?_)
      clear hK7
      try simp only [Act.put, lys]
      have P7 := hPZ.app R7 g7
      have f7 : w7.frozen? ⟨X, 6, none⟩ = false := by have := P7.z 6; rwa [World.frozen?_setCell] at this
      have c67 : w7.cell? ⟨X, 6, none⟩ = some (.slice pa lj.length pc) := by
       have c6Z := hPZ.a.2.2.2.2.2.2.1
       simp only [Nat.zero_add] at c6Z
       exact g7.cell c6Z (fun e => by have h1 := (hPZ.r.lt X e.symm).1; omega)
      refine rd1 6 (by kernel_rfl) rfl fun K8 hK8 => ?_
      go_simp
      refine hK8.out _ _ trivial (fun _ => ?_)
      clear hK8
      try simp only [Act.put, lys]
      refine rd1 7 (by kernel_rfl) rfl fun K9 hK9 => ?_
      go_simp
      refine hK9.out _ _ trivial (fun _ => ?_)
      clear hK9
      try simp only [Act.put, lys]
      refine wpAnyH_done (by kernel_rfl) ?_ _
      rw [HL.out] at P7
      clear hS hrec hPd hPZ hrd hy R7 g7 f7 c67 c6
      generalize w7.setCell ⟨X, 6, none⟩ (.slice ao7 (lj.length + 1) c7) = W8 at *
      go_wp2
      go_roundg (gk - 1)
      case measure => omega
      case rel => exact ⟨j + 1, _, by go_num, by omega, P7⟩
     ·skip
      go_simp
      refine hK0.out _ _ trivial (fun _ => ?_)
      clear hK0
      try simp only [Act.put, lys]
      have c6Y := up_cell ((Below.refl Z.heap.size Z).alloc (Nat.le_refl _) (.cells #[.int .i64 (inF x).kind, .string (inF x).ty, .int .u64 (inF x).bits, .int .u64 (inF x).imag, .string (inF x).text, .slice na' (inF x).names.length nc', .slice pa' (inF x).parts.length pc', .int .i64 (inF x).hook] 26)) c6Z
      refine rd1 1 (by kernel_rfl) rfl fun K10 hK10 => ?_
      have cL := c6Y
      go_simp
      refine hK10.out _ _ trivial (fun _ => ?_)
      clear hK10 cL
      try simp only [Act.put, lys]
      refine rd1 5 (by kernel_rfl) rfl fun K11 hK11 => ?_
      rw [if_pos (by rfl)]
      have hZl : wr.heap.size ≤ Z.heap.size := hbZ.size
      have hW6l : W6.heap.size ≤ wr.heap.size := hPd.g.size
      have hy : RdS n (fun b => W6.heap.size ≤ b ∧ (Value.slice pa lj.length pc).ownBlock ≠ some b) Z (.slice na' (inF x).names.length nc') (.slice pa' (inF x).parts.length pc') (inF x) := hrd.turn fun b hb _ => ⟨⟨Nat.le_trans hW6l hb, fun e => by have h1 := (hPd.r.lt b e).2; have h2 : wr.drew.heap.size ≤ b := hb; omega⟩, fun _ => rfl⟩
      refine wp_app8 _ _ rfl hPZ.r (inF x) _ _ hy rfl rfl rfl hll (Nat.le_trans hW6l hZl) ?_
      rintro v7 w7 ⟨ao7, c7, rfl⟩ R7 g7
      refine hK11.out _ _ trivial (fun _ => ?_)
      clear hK11
      try simp only [Act.put, lys]
      have P7 := hPZ.app R7 g7
      have f7 : w7.frozen? ⟨X, 6, none⟩ = false := by have := P7.z 6; rwa [World.frozen?_setCell] at this
      have c67 : w7.cell? ⟨X, 6, none⟩ = some (.slice pa lj.length pc) := by
       have c6Z := hPZ.a.2.2.2.2.2.2.1
       simp only [Nat.zero_add] at c6Z
       exact g7.cell c6Z (fun e => by have h1 := (hPZ.r.lt X e.symm).1; omega)
      refine rd1 6 (by kernel_rfl) rfl fun K12 hK12 => ?_
      go_simp
      refine hK12.out _ _ trivial (fun _ => ?_)
      clear hK12
      try simp only [Act.put, lys]
      refine rd1 7 (by kernel_rfl) rfl fun K13 hK13 => ?_
      go_simp
      refine hK13.out _ _ trivial (fun _ => ?_)
      clear hK13
      try simp only [Act.put, lys]
      refine wpAnyH_done (by kernel_rfl) ?_ _
      rw [HL.out] at P7
      clear hS hrec hPd hPZ hrd hy R7 g7 f7 c67 c6
      generalize w7.setCell ⟨X, 6, none⟩ (.slice ao7 (lj.length + 1) c7) = W8 at *
      go_wp2
      go_roundg (gk - 1)
      case measure => omega
      case rel => exact ⟨j + 1, _, by go_num, by omega, P7⟩
   ·have hltI : ¬ (j : Int) < vl.length := by omega
    have hje : j = vl.length := by omega
    subst hje
    rw [List.take_length] at hP
    go_wp2
    go_meet
    exact ⟨pv, hP⟩
 case rest =>
  obtain ⟨pv, hP⟩ := hcut
  obtain ⟨pa, pc, hpv, -, -⟩ := hP.r.slice
  obtain ⟨⟨z0, z1, z2, z3, z4, z5, z6, z7⟩, zf⟩ := zz6.gr hP.g (by omega)
  have hbx := below_gr bw6 hP.g (by omega) hw6
  have Nx := N6.turn (kept_gr hP.g fun b hb => hb.2)
  have Rx := hP.r
  obtain ⟨a0, a1, a2, a3, a4, a5, a6, a7⟩ := hP.a
  simp only [Nat.zero_add] at a0 a1 a2 a3 a4 a5 a6 a7
  have y0 := zf 0
  have y1 := zf 1
  have y2 := zf 2
  have y3 := zf 3
  have y4 := zf 4
  have y5 := zf 5
  have y6 := zf 6
  have y7 := zf 7
  obtain ⟨nao, ncc, hnv, -, -, -⟩ := id Nx
  rw [List.length_map] at hpv
  rw [List.length_nil] at hnv
  subst hpv hnv
  clear hP ih hvl6 p6
  go_wp2
  obtain ⟨r0, r1, r2, r3, r4, r5, r6, r7⟩ := set8 z0 z1 z2 z3 z4 z5 z6 z7 (.int .i64 k) (.string ty) (.int .u64 nb) (.int .u64 0) (.string ⟨#[]⟩) (.slice nao 0 ncc) (.slice pa vl.length pc) (.int .i64 h)
  refine bodyPost_ret (v := .agg #[.int .i64 k, .string ty, .int .u64 nb, .int .u64 0, .string ⟨#[]⟩, .slice nao 0 ncc, .slice pa vl.length pc, .int .i64 h]) (by simp [results, Tryz.results115, go_sem, r0, r1, r2, r3, r4, r5, r6, r7]) rfl ?_
  refine ⟨set8_below hbx (Nat.le_refl _), _, _, rfl, ?_, ?_⟩
  ·exact Nx.turn fun b hb hlt => ⟨Nat.le_of_lt hb.1, fun o => set8_other (by omega) o⟩
  ·refine Row8.pt (B := W6.heap.size) ?_ _ fun b hb => by omega
   exact (((((((Rx.set (by omega) _ _).set (by omega) _ _).set (by omega) _ _).set (by omega) _ _).set (by omega) _ _).set (by omega) _ _).set (by omega) _ _).set (by omega) _ _
set_option maxRecDepth 1000000 in
set_option maxHeartbeats 4000000 in
theorem rawg_structure (n : Nat) (k h : Int) (ty : ByteArray) (names : List ByteArray) (na : Option Addr) (nc : Nat) (fa : Option Addr) (fl fc : Nat) (vl : List D) (w : World) {SN : Nat → Prop} (hna : StrsS SN w na names) (hn1 : names.length ≤ 1000) (hl : vl.length ≤ 1000) (ih : ∀ x ∈ vl, RawR n x)
  (hp : ∀ V, Below w.heap.size w V → w.heap.size ≤ V.heap.size → Calls Tryz.prog 28 #[.iface 86 (.agg #[.int .i64 k, .string ty, .int .i64 h, .slice na names.length nc, .slice fa fl fc])] V fun e W' => Below V.heap.size V W' ∧ ∃ (ga : Option Addr) (gc : Nat) (S : Nat → Prop), e = .returned (.slice ga vl.length gc) ∧ (∀ b, S b → b < w.heap.size) ∧ Vals (VlC srt n S V) (fun b => S b ∨ V.heap.size ≤ b) W' ga vl) :
  Calls Tryz.prog 115 #[.iface 86 (.agg #[.int .i64 k, .string ty, .int .i64 h, .slice na names.length nc, .slice fa fl fc])] w fun e w' => Below w.heap.size w w' ∧ ∃ nv pv, e = .returned (.agg #[.int .i64 k, .string ty, .int .u64 0, .int .u64 0, .string ⟨#[]⟩, nv, pv, .int .i64 h]) ∧ Nm w' (fun b => w.heap.size ≤ b) nv names ∧ Pt n (fun b => w.heap.size ≤ b) w' pv (vl.map inF) := by
 have h0 := ta_structure_truth
 have h1 := ta_structure_signed
 have h2 := ta_structure_unsigned
 have h3 := ta_structure_float
 have h4 := ta_structure_pair
 have h5 := ta_structure_text
 have h6 := ta_structure_octets
 have h7 := ta_structure_structure
 have h8 := ta_structure_pointer
 have hm := fun W => markof_structure k h ty na fa names.length fl nc fc W
 obtain ⟨W1, hW1⟩ : ∃ W1, W1 = w.alloc (.cells #[.int .i64 0, .string ⟨#[]⟩, .int .u64 0, .int .u64 0, .string ⟨#[]⟩, .slice none 0 0, .slice none 0 0, .int .i64 0] 26) := ⟨_, rfl⟩
 have hb1 : Below w.heap.size w W1 := by rw [hW1]; exact (Below.refl _ _).alloc (Nat.le_refl _) _
 have c0 : W1.cell? ⟨w.heap.size, 0, none⟩ = some (.int .i64 0) ∧ W1.cell? ⟨w.heap.size, 1, none⟩ = some (.string ⟨#[]⟩) ∧ W1.cell? ⟨w.heap.size, 2, none⟩ = some (.int .u64 0) ∧ W1.cell? ⟨w.heap.size, 3, none⟩ = some (.int .u64 0) ∧ W1.cell? ⟨w.heap.size, 4, none⟩ = some (.string ⟨#[]⟩) ∧ W1.cell? ⟨w.heap.size, 5, none⟩ = some (.slice none 0 0) ∧ W1.cell? ⟨w.heap.size, 6, none⟩ = some (.slice none 0 0) ∧ W1.cell? ⟨w.heap.size, 7, none⟩ = some (.int .i64 0) := by rw [hW1]; simp
 have fz : ∀ i, W1.frozen? ⟨w.heap.size, i, none⟩ = false := fun i => by rw [hW1, frozen?_alloc_cells]; exact frozen_none _ _ (Nat.le_refl _)
 have zW1 : Zero8 W1 w.heap.size := ⟨c0, fz⟩
 go_enter Tryz.func115, Tryz.ntmps115
 go_wp2_with fail
 rw [← hW1]
 refine (hm _).mono ?_
 rintro e V ⟨rfl, hV⟩
 have zV : Zero8 V w.heap.size := zW1.up hV
 have hzV : w.heap.size < V.heap.size := lt_of_cell zV.1.1
 have hbV : Below w.heap.size w V := hb1.trans (hV.mono hb1.size)
 clear hm c0 fz zW1 hW1 hb1 hV
 have hnaV := hna.turn (Kept.below hbV fun b hb _ => hb)
 obtain ⟨W4, hW4⟩ : ∃ W4, W4 = ((V.alloc (.cells #[.int .i64 k, .string ty, .int .i64 h] 60)).alloc (.cells #[.int .i64 k, .string ty, .int .u64 0, .int .u64 0, .string ⟨#[]⟩, .slice none 0 0, .slice none 0 0, .int .i64 h] 26)).alloc (.cells #[.int .i64 k, .string ty, .int .i64 h, .slice na names.length nc, .slice fa fl fc] 86) := ⟨_, rfl⟩
 have b4 : Below V.heap.size V W4 := by rw [hW4]; exact (((Below.refl _ _).alloc (Nat.le_refl _) _).alloc (by simp) _).alloc (by simp; omega) _
 have hna4 := hnaV.turn (Kept.below b4 fun b hb _ => hb)
 have a4 : At8 W4 (V.heap.size + 1) 0 ⟨k, ty, 0, 0, ⟨#[]⟩, [], [], h⟩ (.slice none 0 0) (.slice none 0 0) := by
  rw [hW4]
  refine ⟨?_, ?_, ?_, ?_, ?_, ?_, ?_, ?_⟩
  all_goals simp [go_sem]
 have z4 : ∀ i, W4.frozen? ⟨V.heap.size + 1, i, none⟩ = false := fun i => by
  have e1 : (V.alloc (.cells #[.int .i64 k, .string ty, .int .i64 h] 60)).heap.size = V.heap.size + 1 := by simp
  rw [hW4, frozen?_alloc_cells, frozen?_alloc_cells, ← e1]
  exact frozen_none _ _ (Nat.le_refl _)
 have x40 := up_cell (Below.refl _ _) (show W4.cell? ⟨V.heap.size + 2, 3, none⟩ = some (.slice na names.length nc) by rw [hW4]; simp [go_sem])
 have s4 : V.heap.size + 3 ≤ W4.heap.size := by rw [hW4]; simp
 have k5 := a4.2.2.2.2.2.1
 simp only [Nat.zero_add] at k5
 have bw4 : Below w.heap.size w W4 := hbV.trans (b4.mono hbV.size)
 go_upto_region 27 with fail
 rw [← hW4]
 clear hW4 hna hnaV
 go_upto_region 31 with (at_builtin; refine wpl_appNames rfl _ _ rfl names na nc hna4 hn1 rfl rfl ?_; rintro nv' w6 ⟨nao, ncc, rfl⟩ N6 b6; have a6 := a4.up b6; have k56 := a6.2.2.2.2.2.1; simp only [Nat.zero_add] at k56; have z6 : ∀ i, w6.frozen? ⟨V.heap.size + 1, i, none⟩ = false := fun i => (b6.frozen (p := ⟨V.heap.size + 1, i, none⟩) (by dsimp only; omega)).trans (z4 i))
 have s6 := b6.size
 have a5 : At8 (w6.setCell ⟨V.heap.size + 1, 5, none⟩ (.slice nao names.length ncc)) (V.heap.size + 1) 0 ⟨k, ty, 0, 0, ⟨#[]⟩, [], [], h⟩ (.slice nao names.length ncc) (.slice none 0 0) := by
  obtain ⟨q0, q1, q2, q3, q4, q5, q6, q7⟩ := a6
  simp only [Nat.zero_add] at q0 q1 q2 q3 q4 q5 q6 q7
  refine ⟨?_, ?_, ?_, ?_, ?_, ?_, ?_, ?_⟩
  all_goals simp [go_sem, q0, q1, q2, q3, q4, q5, q6, q7]
 have z5 : ∀ i, (w6.setCell ⟨V.heap.size + 1, 5, none⟩ (.slice nao names.length ncc)).frozen? ⟨V.heap.size + 1, i, none⟩ = false := fun i => by rw [World.frozen?_setCell]; exact z6 i
 have s5 : V.heap.size + 3 ≤ (w6.setCell ⟨V.heap.size + 1, 5, none⟩ (.slice nao names.length ncc)).heap.size := by simp [World.setCell]; omega
 have N5 : Nm (w6.setCell ⟨V.heap.size + 1, 5, none⟩ (.slice nao names.length ncc)) (fun b => W4.heap.size ≤ b) (.slice nao names.length ncc) names := N6.turn fun b hb _ => ⟨hb, fun o => World.cell?_of_block (w := w6) (a := ⟨b, o, none⟩) (Below.heap_setCell _ _ _ _ (by dsimp only; omega))⟩
 have b5 : Below V.heap.size V (w6.setCell ⟨V.heap.size + 1, 5, none⟩ (.slice nao names.length ncc)) := (b4.trans (b6.mono b4.size)).setCell (by dsimp only; omega) _
 generalize w6.setCell ⟨V.heap.size + 1, 5, none⟩ (.slice nao names.length ncc) = W5 at *
 clear a6 k56 z6 N6 b6 s6
 have bw5 : Below w.heap.size w W5 := hbV.trans (b5.mono hbV.size)
 have zz5 : Zero8 W5 w.heap.size := zV.up b5
 have N5' : Nm W5 (fun b => w.heap.size < b ∧ b ≠ V.heap.size + 1) (.slice nao names.length ncc) names := N5.turn fun b hb _ => ⟨⟨by omega, by omega⟩, fun _ => rfl⟩
 clear a4 z4 b4 hna4 x40 s4 k5 bw4 N5 zV
 go_upto_block 1 with (go_at_call 28; refine (hp _ bw5 (Nat.le_trans hbV.size b5.size)).mono ?_; rintro e W6 ⟨b6, ga, gc, S, rfl, hS, hvl⟩)
 have a6 := a5.up b6
 have z6 : ∀ i, W6.frozen? ⟨V.heap.size + 1, i, none⟩ = false := fun i => (b6.frozen (p := ⟨V.heap.size + 1, i, none⟩) (by dsimp only; omega)).trans (z5 i)
 have zz6 := zz5.up b6
 have N6 := N5'.turn (Kept.below b6 fun b hb _ => hb)
 have bw6 : Below w.heap.size w W6 := bw5.trans (b6.mono bw5.size)
 have hx6 : V.heap.size + 1 < W6.heap.size := Nat.lt_of_lt_of_le (by omega) b6.size
 have hvl6 : Vals (VlC srt n S W6) (fun b => b ≠ V.heap.size + 1) W6 ga vl := hvl.turn (fun b hb _ => ⟨hb.elim (fun h => by have := hS b h; omega) (fun h => by omega), fun _ => rfl⟩) fun v y hy => hy.turn (Kept.below b6 fun b hb _ => hb)
 clear a5 z5 zz5 N5' b5 bw5 s5 hvl hp hbV
 generalize Value.slice nao names.length ncc = nv at *
 have p6 : PBx W6 (V.heap.size + 1) n ⟨k, ty, 0, 0, ⟨#[]⟩, [], [], h⟩ nv (.slice none 0 0) [] W6 := ⟨World.grownBy.refl _ _, a6, z6, Row8.nil _ _ _, hx6⟩
 have hw6 := bw6.size
 clear a6 z6 b6
 obtain ⟨X, hX⟩ : ∃ X, V.heap.size + 1 = X := ⟨_, rfl⟩
 rw [hX] at p6 hx6 hvl6 N6
 have hXw : w.heap.size < X := by omega
 have hSX : ∀ b, S b → b ≠ X := fun b hb => by have := hS b hb; omega
 simp only [hX]
 clear hX hzV hS
 go_cut [15, 91] (fun z i wx => ∃ pv, PBx W6 X n ⟨k, ty, 0, 0, ⟨#[]⟩, [], [], h⟩ nv pv (vl.map inF) wx)
 case first =>
  have hlI : (vl.length : Int) ≤ 1000 := by omega
  go_wp2_with fail
  go_loopg [15, 91] vl.length (fun g z iv wr => ∃ (j : Nat) (pv : Value), iv = .int .i64 (j : Nat) ∧ j + g = vl.length ∧ PBx W6 X n ⟨k, ty, 0, 0, ⟨#[]⟩, [], [], h⟩ nv pv ((vl.take j).map inF) wr)
  case atStart => exact ⟨0, _, rfl, by omega, by simpa using p6⟩
  case round =>
   obtain ⟨j, pv, rfl, hjg, hP⟩ := hrel
   clear p6
   by_cases hlt : j < vl.length
   ·have hltI : (j : Int) < vl.length := by omega
    obtain ⟨x, hx⟩ : ∃ x, vl[j]? = some x := ⟨_, List.getElem?_eq_getElem hlt⟩
    obtain ⟨B, off, t, u, rfl, hBX, cv, hR⟩ := hvl6 j x hx
    have hBl : B < W6.heap.size := lt_of_cell cv
    have q0 : wr.cell? ⟨B, off + j, none⟩ = some (.iface t u) := (hP.g.cell_far ⟨B, off + j, none⟩ hBl (fun e => hBX (Option.some.inj e))).trans cv
    have hPd := hP.up (Below.refl wr.heap.size wr).drew
    have hRd : VlC srt n S wr.drew (.iface t u) x := hR.turn (kept_gr hPd.g hSX)
    have hrec := ih x (List.mem_of_getElem? hx) S wr.drew (.iface t u) hRd
    have HL : Hid (((vl.take j).map inF) ++ [inF x] = (vl.take (j + 1)).map inF) := by
     show _ = _
     rw [List.take_add_one, hx, List.map_append]; rfl
    have hll : ((vl.take j).map inF).length ≤ 100000 := by rw [List.length_map, List.length_take]; omega
    generalize (vl.take j).map inF = lj at *
    obtain ⟨pa, pc, rfl, -, -⟩ := hP.r.slice
    have c6 := hPd.a.2.2.2.2.2.2.1
    simp only [Nat.zero_add] at c6
    clear hR hx hvl6 hP hRd
    go_upto_region 34 with fail
    refine wp_region_held_drew (S := fun _ => True) (by kernel_rfl) trivial ?_
    intro hS
    refine tk 0 (.pointer (some ⟨X, 6, none⟩)) rfl (by kernel_rfl) (fun _ _ _ h => h) (by rfl) (by assumption) ?_ ?_
    ·intro w5 s0
     go_simp
    try simp only [Act.put, lys]
    refine tk 2 (.iface t u) rfl (by kernel_rfl) (fun _ _ _ h => h) (by rfl) (by assumption) ?_ ?_
    ·intro w5 s0
     go_simp
    try simp only [Act.put, lys]
    refine wpAnyH_ready (rs := [1, 3]) (by kernel_rfl) (by simp) ?_
    refine AllReadyH.cons rfl (fun K0 hK0 => ?_) (AllReadyH.cons rfl (fun K0 hK0 => ?_) AllReadyH.nil)
    ·skip
     have cL := c6
     go_simp
     refine hK0.out _ _ trivial (fun _ => ?_)
     clear hK0 cL
     try simp only [Act.put, lys]
     refine rd1 3 (by kernel_rfl) rfl fun K1 hK1 => ?_
     go_simp
     refine hrec.mono ?_
     rintro e Z ⟨hbZ, nv', pv', rfl, hrd⟩
     obtain ⟨na', nc', pa', pc', rfl, rfl⟩ := hrd.slices
     have hPZ := hPd.up hbZ
     refine hK1.out _ _ trivial (fun _ => ?_)
     clear hK1
     try simp only [Act.put, lys]
     refine rd1 4 (by kernel_rfl) rfl fun K2 hK2 => ?_
     go_simp
     refine hK2.out _ _ trivial (fun _ => ?_)
     clear hK2
     try simp only [Act.put, lys]
     refine rd1 5 (by kernel_rfl) rfl fun K3 hK3 => ?_
     rw [if_pos (by rfl)]
     have hZl : wr.heap.size ≤ Z.heap.size := hbZ.size
     have hW6l : W6.heap.size ≤ wr.heap.size := hPd.g.size
     have hy : RdS n (fun b => W6.heap.size ≤ b ∧ (Value.slice pa lj.length pc).ownBlock ≠ some b) Z (.slice na' (inF x).names.length nc') (.slice pa' (inF x).parts.length pc') (inF x) := hrd.turn fun b hb _ => ⟨⟨Nat.le_trans hW6l hb, fun e => by have h1 := (hPd.r.lt b e).2; have h2 : wr.drew.heap.size ≤ b := hb; omega⟩, fun _ => rfl⟩
     refine wp_app8 _ _ rfl hPZ.r (inF x) _ _ hy rfl rfl rfl hll (Nat.le_trans hW6l hZl) ?_
     rintro v7 w7 ⟨ao7, c7, rfl⟩ R7 g7
     refine hK3.out _ _ trivial (fun _ => ?_)
     clear hK3
     try simp only [Act.put, lys]
     have P7 := hPZ.app R7 g7
     have f7 : w7.frozen? ⟨X, 6, none⟩ = false := by have := P7.z 6; rwa [World.frozen?_setCell] at this
     have c67 : w7.cell? ⟨X, 6, none⟩ = some (.slice pa lj.length pc) := by
      have c6Z := hPZ.a.2.2.2.2.2.2.1
      simp only [Nat.zero_add] at c6Z
      exact g7.cell c6Z (fun e => by have h1 := (hPZ.r.lt X e.symm).1; omega)
     refine rd1 6 (by kernel_rfl) rfl fun K4 hK4 => ?_
     go_simp
     refine hK4.out _ _ trivial (fun _ => ?_)
     clear hK4
     try simp only [Act.put, lys]
     refine rd1 7 (by kernel_rfl) rfl fun K5 hK5 => ?_
     go_simp
     refine hK5.out _ _ trivial (fun _ => ?_)
     clear hK5
     try simp only [Act.put, lys]
     refine wpAnyH_done (by kernel_rfl) ?_ _
     rw [HL.out] at P7
     clear hS hrec hPd hPZ hrd hy R7 g7 f7 c67 c6
     generalize w7.setCell ⟨X, 6, none⟩ (.slice ao7 (lj.length + 1) c7) = W8 at *
     go_wp2
     go_roundg (gk - 1)
     case measure => omega
     case rel => exact ⟨j + 1, _, by go_num, by omega, P7⟩
    ·skip
     go_simp
     refine hrec.mono ?_
     rintro e Z ⟨hbZ, nv', pv', rfl, hrd⟩
     obtain ⟨na', nc', pa', pc', rfl, rfl⟩ := hrd.slices
     have hPZ := hPd.up hbZ
     refine hK0.out _ _ trivial (fun _ => ?_)
     clear hK0
     try simp only [Act.put, lys]
     have c6Z := hPZ.a.2.2.2.2.2.2.1
     simp only [Nat.zero_add] at c6Z
     refine wpAnyH_ready (rs := [1, 4]) (by kernel_rfl) (by simp) ?_
     refine AllReadyH.cons rfl (fun K0 hK0 => ?_) (AllReadyH.cons rfl (fun K0 hK0 => ?_) AllReadyH.nil)
     ·skip
      have cL := c6Z
      go_simp
      refine hK0.out _ _ trivial (fun _ => ?_)
      clear hK0 cL
      try simp only [Act.put, lys]
      refine rd1 4 (by kernel_rfl) rfl fun K6 hK6 => ?_
      go_simp
      refine hK6.out _ _ trivial (fun _ => ?_)
      clear hK6
      try simp only [Act.put, lys]
      refine rd1 5 (by kernel_rfl) rfl fun K7 hK7 => ?_
      rw [if_pos (by rfl)]
      have hZl : wr.heap.size ≤ Z.heap.size := hbZ.size
      have hW6l : W6.heap.size ≤ wr.heap.size := hPd.g.size
      have hy : RdS n (fun b => W6.heap.size ≤ b ∧ (Value.slice pa lj.length pc).ownBlock ≠ some b) Z (.slice na' (inF x).names.length nc') (.slice pa' (inF x).parts.length pc') (inF x) := hrd.turn fun b hb _ => ⟨⟨Nat.le_trans hW6l hb, fun e => by have h1 := (hPd.r.lt b e).2; have h2 : wr.drew.heap.size ≤ b := hb; omega⟩, fun _ => rfl⟩
      refine wp_app8 _ _ rfl hPZ.r (inF x) _ _ hy rfl rfl rfl hll (Nat.le_trans hW6l hZl) ?_
      rintro v7 w7 ⟨ao7, c7, rfl⟩ R7 g7
      refine hK7.out _ _ trivial (fun _ => ?_)
      clear hK7
      try simp only [Act.put, lys]
      have P7 := hPZ.app R7 g7
      have f7 : w7.frozen? ⟨X, 6, none⟩ = false := by have := P7.z 6; rwa [World.frozen?_setCell] at this
      have c67 : w7.cell? ⟨X, 6, none⟩ = some (.slice pa lj.length pc) := by
       have c6Z := hPZ.a.2.2.2.2.2.2.1
       simp only [Nat.zero_add] at c6Z
       exact g7.cell c6Z (fun e => by have h1 := (hPZ.r.lt X e.symm).1; omega)
      refine rd1 6 (by kernel_rfl) rfl fun K8 hK8 => ?_
      go_simp
      refine hK8.out _ _ trivial (fun _ => ?_)
      clear hK8
      try simp only [Act.put, lys]
      refine rd1 7 (by kernel_rfl) rfl fun K9 hK9 => ?_
      go_simp
      refine hK9.out _ _ trivial (fun _ => ?_)
      clear hK9
      try simp only [Act.put, lys]
      refine wpAnyH_done (by kernel_rfl) ?_ _
      rw [HL.out] at P7
      clear hS hrec hPd hPZ hrd hy R7 g7 f7 c67 c6
      generalize w7.setCell ⟨X, 6, none⟩ (.slice ao7 (lj.length + 1) c7) = W8 at *
      go_wp2
      go_roundg (gk - 1)
      case measure => omega
      case rel => exact ⟨j + 1, _, by go_num, by omega, P7⟩
     ·skip
      go_simp
      refine hK0.out _ _ trivial (fun _ => ?_)
      clear hK0
      try simp only [Act.put, lys]
      have c6Y := up_cell ((Below.refl Z.heap.size Z).alloc (Nat.le_refl _) (.cells #[.int .i64 (inF x).kind, .string (inF x).ty, .int .u64 (inF x).bits, .int .u64 (inF x).imag, .string (inF x).text, .slice na' (inF x).names.length nc', .slice pa' (inF x).parts.length pc', .int .i64 (inF x).hook] 26)) c6Z
      refine rd1 1 (by kernel_rfl) rfl fun K10 hK10 => ?_
      have cL := c6Y
      go_simp
      refine hK10.out _ _ trivial (fun _ => ?_)
      clear hK10 cL
      try simp only [Act.put, lys]
      refine rd1 5 (by kernel_rfl) rfl fun K11 hK11 => ?_
      rw [if_pos (by rfl)]
      have hZl : wr.heap.size ≤ Z.heap.size := hbZ.size
      have hW6l : W6.heap.size ≤ wr.heap.size := hPd.g.size
      have hy : RdS n (fun b => W6.heap.size ≤ b ∧ (Value.slice pa lj.length pc).ownBlock ≠ some b) Z (.slice na' (inF x).names.length nc') (.slice pa' (inF x).parts.length pc') (inF x) := hrd.turn fun b hb _ => ⟨⟨Nat.le_trans hW6l hb, fun e => by have h1 := (hPd.r.lt b e).2; have h2 : wr.drew.heap.size ≤ b := hb; omega⟩, fun _ => rfl⟩
      refine wp_app8 _ _ rfl hPZ.r (inF x) _ _ hy rfl rfl rfl hll (Nat.le_trans hW6l hZl) ?_
      rintro v7 w7 ⟨ao7, c7, rfl⟩ R7 g7
      refine hK11.out _ _ trivial (fun _ => ?_)
      clear hK11
      try simp only [Act.put, lys]
      have P7 := hPZ.app R7 g7
      have f7 : w7.frozen? ⟨X, 6, none⟩ = false := by have := P7.z 6; rwa [World.frozen?_setCell] at this
      have c67 : w7.cell? ⟨X, 6, none⟩ = some (.slice pa lj.length pc) := by
       have c6Z := hPZ.a.2.2.2.2.2.2.1
       simp only [Nat.zero_add] at c6Z
       exact g7.cell c6Z (fun e => by have h1 := (hPZ.r.lt X e.symm).1; omega)
      refine rd1 6 (by kernel_rfl) rfl fun K12 hK12 => ?_
      go_simp
      refine hK12.out _ _ trivial (fun _ => ?_)
      clear hK12
      try simp only [Act.put, lys]
      refine rd1 7 (by kernel_rfl) rfl fun K13 hK13 => ?_
      go_simp
      refine hK13.out _ _ trivial (fun _ => ?_)
      clear hK13
      try simp only [Act.put, lys]
      refine wpAnyH_done (by kernel_rfl) ?_ _
      rw [HL.out] at P7
      clear hS hrec hPd hPZ hrd hy R7 g7 f7 c67 c6
      generalize w7.setCell ⟨X, 6, none⟩ (.slice ao7 (lj.length + 1) c7) = W8 at *
      go_wp2
      go_roundg (gk - 1)
      case measure => omega
      case rel => exact ⟨j + 1, _, by go_num, by omega, P7⟩
   ·have hltI : ¬ (j : Int) < vl.length := by omega
    have hje : j = vl.length := by omega
    subst hje
    rw [List.take_length] at hP
    go_wp2
    go_meet
    exact ⟨pv, hP⟩
 case rest =>
  obtain ⟨pv, hP⟩ := hcut
  obtain ⟨pa, pc, hpv, -, -⟩ := hP.r.slice
  obtain ⟨⟨z0, z1, z2, z3, z4, z5, z6, z7⟩, zf⟩ := zz6.gr hP.g (by omega)
  have hbx := below_gr bw6 hP.g (by omega) hw6
  have Nx := N6.turn (kept_gr hP.g fun b hb => hb.2)
  have Rx := hP.r
  obtain ⟨a0, a1, a2, a3, a4, a5, a6, a7⟩ := hP.a
  simp only [Nat.zero_add] at a0 a1 a2 a3 a4 a5 a6 a7
  have y0 := zf 0
  have y1 := zf 1
  have y2 := zf 2
  have y3 := zf 3
  have y4 := zf 4
  have y5 := zf 5
  have y6 := zf 6
  have y7 := zf 7
  obtain ⟨nao, ncc, hnv, -, -, -⟩ := id Nx
  rw [List.length_map] at hpv
  subst hpv hnv
  clear hP ih hvl6 p6
  go_wp2
  obtain ⟨r0, r1, r2, r3, r4, r5, r6, r7⟩ := set8 z0 z1 z2 z3 z4 z5 z6 z7 (.int .i64 k) (.string ty) (.int .u64 0) (.int .u64 0) (.string ⟨#[]⟩) (.slice nao names.length ncc) (.slice pa vl.length pc) (.int .i64 h)
  refine bodyPost_ret (v := .agg #[.int .i64 k, .string ty, .int .u64 0, .int .u64 0, .string ⟨#[]⟩, .slice nao names.length ncc, .slice pa vl.length pc, .int .i64 h]) (by simp [results, Tryz.results115, go_sem, r0, r1, r2, r3, r4, r5, r6, r7]) rfl ?_
  refine ⟨set8_below hbx (Nat.le_refl _), _, _, rfl, ?_, ?_⟩
  ·exact Nx.turn fun b hb hlt => ⟨Nat.le_of_lt hb.1, fun o => set8_other (by omega) o⟩
  ·refine Row8.pt (B := W6.heap.size) ?_ _ fun b hb => by omega
   exact (((((((Rx.set (by omega) _ _).set (by omega) _ _).set (by omega) _ _).set (by omega) _ _).set (by omega) _ _).set (by omega) _ _).set (by omega) _ _).set (by omega) _ _
end Go.Proofs.YtlgieoabellbmaaGreatDoor
