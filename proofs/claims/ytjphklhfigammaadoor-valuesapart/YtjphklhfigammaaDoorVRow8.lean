/- A row of descriptors that grows; a box of a descriptor whose parts grow. -/
import Derived.Test.YtjphklhfigammaaDoorVMadeM
import Derived.Deep.AppendLies
namespace Go.Proofs.YtjphklhfigammaaDoor
open Go.RowKit
set_option linter.unusedVariables false
set_option linter.unusedSimpArgs false

abbrev c8 (t : D × Value × Value) : List Value := [.int .i64 t.1.kind, .string t.1.ty, .int .u64 t.1.bits, .int .u64 t.1.imag, .string t.1.text, t.2.1, t.2.2, .int .i64 t.1.hook]
theorem info_Desc : ∃ i, Tryd.prog.info? 26 = some i ∧ i.zero = some (.agg #[.int .i64 0, .string ⟨#[]⟩, .int .u64 0, .int .u64 0, .string ⟨#[]⟩, .slice none 0 0, .slice none 0 0, .int .i64 0]) ∧ i.size = 8 ∧ i.bytes = 112 := by
  have h : (Tryd.prog.info? 26).map (fun i => (i.zero, i.size, i.bytes)) = some (some (.agg #[.int .i64 0, .string ⟨#[]⟩, .int .u64 0, .int .u64 0, .string ⟨#[]⟩, .slice none 0 0, .slice none 0 0, .int .i64 0]), 8, 112) := by kernel_rfl
  obtain ⟨i, hi, hb⟩ := Option.map_eq_some_iff.1 h
  simp only [Prod.mk.injEq] at hb
  exact ⟨i, hi, hb⟩
/-- A row of descriptors in blocks from B on, none of whose parts lies in the row's own block. -/
def Row8 (n B : Nat) (W : World) (v : Value) (l : List D) : Prop :=
  ∃ ds : List (D × Value × Value), ds.map (·.1) = l ∧ W.ownsRow B 26 8 v l.length (ds.flatMap c8) ∧ ∀ t ∈ ds, RdS n (fun b => B ≤ b ∧ v.ownBlock ≠ some b) W t.2.1 t.2.2 t.1
theorem Row8.nil (n B : Nat) (W : World) : Row8 n B W (.slice none 0 0) [] := ⟨[], rfl, World.ownsRow_nil _ _ _ _, fun t ht => by cases ht⟩
theorem Row8.up {n B : Nat} {W W' : World} {v : Value} {l : List D} (h : Row8 n B W v l) (hb : Below W.heap.size W W') : Row8 n B W' v l := by
  obtain ⟨ds, e, h1, h2⟩ := h
  exact ⟨ds, e, own_upZ h1 hb, fun t ht => (h2 t ht).turn (KeptU.below hb fun b hb _ => hb)⟩
theorem Row8.slice {n B : Nat} {W : World} {v : Value} {l : List D} (h : Row8 n B W v l) : ∃ a c, v = .slice a l.length c ∧ l.length ≤ c ∧ c ≤ maxLen := by
  obtain ⟨ds, e, h1, h2⟩ := h
  exact own_sliceZ h1
theorem Row8.lt {n B : Nat} {W : World} {v : Value} {l : List D} (h : Row8 n B W v l) : ∀ k, v.ownBlock = some k → B ≤ k ∧ k < W.heap.size := by
  obtain ⟨ds, e, h1, h2⟩ := h
  exact h1.lt
theorem Row8.set {n B X : Nat} {W : World} {v : Value} {l : List D} (h : Row8 n B W v l) (hX : X < B) (o : Nat) (u : Value) : Row8 n B (W.setCell ⟨X, o, none⟩ u) v l := by
  obtain ⟨ds, e, h1, h2⟩ := h
  refine ⟨ds, e, ownsRow_setCell_below h1 hX u, fun t ht => (h2 t ht).turn fun b hb _ => ⟨hb, fun o' => ?_⟩⟩
  exact cu_of_block (Below.heap_setCell _ _ _ _ (by have := hb.1; dsimp only; omega)) o'
theorem flat8_at : ∀ (ds : List (D × Value × Value)) (i : Nat) (t : D × Value × Value), ds[i]? = some t → ∀ (k : Nat) (u : Value), (c8 t)[k]? = some u → (ds.flatMap c8)[i * 8 + k]? = some u
  | [], i, t, h, _, _, _ => by simp at h
  | x :: r, 0, t, h, k, u, hu => by
    simp at h
    subst h
    have hk : k < (c8 x).length := (List.getElem?_eq_some_iff.1 hu).1
    rw [List.flatMap_cons, Nat.zero_mul, Nat.zero_add, List.getElem?_append_left hk]
    exact hu
  | x :: r, i + 1, t, h, k, u, hu => by
    have := flat8_at r i t (by simpa using h) k u hu
    have hl : (c8 x).length = 8 := rfl
    rw [List.flatMap_cons, List.getElem?_append_right (by rw [hl]; omega), hl, show (i + 1) * 8 + k - 8 = i * 8 + k by omega]
    exact this
/-- What is read of it. -/
theorem Row8.reads {n B : Nat} {W : World} {v : Value} {l : List D} (h : Row8 n B W v l) : ∃ a cap, v = .slice a l.length cap ∧ l.length ≤ cap ∧ cap ≤ maxLen ∧
    ∀ (i : Nat) (x : D), l[i]? = some x → ∃ b off nv' pv', a = some ⟨b, off, none⟩ ∧ (B ≤ b ∧ Uf W b) ∧ At8 W b (off + i * 8) x nv' pv' ∧ RdS n (fun b => B ≤ b) W nv' pv' x := by
  obtain ⟨a, c, rfl, h1, h2⟩ := h.slice
  obtain ⟨ds, e, ho, hd⟩ := h
  refine ⟨a, c, rfl, h1, h2, fun i x hx => ?_⟩
  rw [← e, List.getElem?_map, Option.map_eq_some_iff] at hx
  obtain ⟨t, ht, rfl⟩ := hx
  have hil : i < l.length := by rw [← e, List.length_map]; exact (List.getElem?_eq_some_iff.1 ht).1
  rcases ho.2 with ⟨h3, h4⟩ | ⟨g, cap, cur, hv, hB, hg, -⟩
  · omega
  · obtain ⟨rfl, -, -⟩ := Value.slice.inj hv
    have hc : ∀ k u, (c8 t)[k]? = some u → W.cell? ⟨g, i * 8 + k, none⟩ = some u := fun k u hu => by
      have hk : k < 8 := (List.getElem?_eq_some_iff.1 hu).1
      rw [ho.cellAt _ (by omega)]
      exact flat8_at ds i t ht k u hu
    refine ⟨g, 0, t.2.1, t.2.2, rfl, ⟨hB, uf_of_heap hg⟩, ?_, (hd t (List.mem_of_getElem? ht)).turn fun b hb _ => ⟨hb.1, fun _ => rfl⟩⟩
    rw [Nat.zero_add]
    exact ⟨hc 0 _ rfl, hc 1 _ rfl, hc 2 _ rfl, hc 3 _ rfl, hc 4 _ rfl, hc 5 _ rfl, hc 6 _ rfl, hc 7 _ rfl⟩
theorem RdS.one {n : Nat} {S : Nat → Prop} {W : World} {nv pv : Value} {d : D} (h : RdS n S W nv pv d) : nv.oneCell' = true ∧ pv.oneCell' = true := by
  cases n with
  | zero => exact h.elim
  | succ n =>
    obtain ⟨-, ⟨a, c, rfl, -⟩, a', c', rfl, -⟩ := h
    exact ⟨rfl, rfl⟩
/-- append of one descriptor. -/
theorem row8_app {n B : Nat} {W0 w' : World} {v v' : Value} {l : List D} (h : Row8 n B W0 v l) {y : D} {nv pv : Value} (hy : RdS n (fun b => B ≤ b ∧ v.ownBlock ≠ some b) W0 nv pv y) (cs : Obj)
    (ho : ∀ ds : List (D × Value × Value), W0.ownsRow B 26 8 v l.length (ds.flatMap c8) → w'.ownsRow B 26 8 v' (l.length + 1) (ds.flatMap c8 ++ c8 (y, nv, pv))) (hg : (W0.alloc cs).grownBy w' v.ownBlock) (hat : v'.ownBlock = v.ownBlock ∨ v'.ownBlock = some (W0.alloc cs).heap.size) : Row8 n B w' v' (l ++ [y]) := by
  obtain ⟨ds, e, h1, h2⟩ := h
  have hk : KeptU (fun b => B ≤ b ∧ v.ownBlock ≠ some b) (fun b => B ≤ b ∧ v'.ownBlock ≠ some b) W0 w' := by
    intro b hb hl
    refine ⟨⟨hb.1, ?_⟩, fun o => ?_⟩
    · rcases hat with hat | hat
      · rw [hat]; exact hb.2
      · rw [hat]
        intro h
        have := Option.some.inj h
        simp at this
        omega
    · exact (cu_of_block (W := W0.alloc cs) (hg.block b (by simp; omega) (Ne.symm hb.2)) o).trans (cu_of_block (W := W0) (Below.heap_alloc _ _ _ hl) o)
  refine ⟨ds ++ [(y, nv, pv)], by rw [List.map_append, e]; rfl, ?_, fun t ht => ?_⟩
  · rw [List.length_append, List.flatMap_append]
    exact ho ds h1
  · rcases List.mem_append.1 ht with ht | ht
    · exact (h2 t ht).turn hk
    · rw [List.mem_singleton.1 ht]
      exact hy.turn hk
theorem wp_app8 {o : Oper} {a : Act} {K : Act → World → Prop} {Q : Exit → Act → World → Prop} (s x : Operand) (ho : o.op = .call { callee := .builtin .append, args := #[s, x], argTypes := #[24, 24] })
    {n B : Nat} {W0 W : World} {v : Value} {l : List D} (h : Row8 n B W0 v l) (y : D) (nv pv : Value) (hy : RdS n (fun b => B ≤ b ∧ v.ownBlock ≠ some b) W0 nv pv y)
    (hs : a.eval s = v) (hx : a.eval x = .slice (some ⟨W0.heap.size, 0, none⟩) 1 1) (hw : W = W0.alloc (.cells #[.int .i64 y.kind, .string y.ty, .int .u64 y.bits, .int .u64 y.imag, .string y.text, nv, pv, .int .i64 y.hook] 26)) (hl : l.length ≤ 100000) (hB : B ≤ W0.heap.size)
    (hk : ∀ v' w', (∃ ao c, v' = .slice ao (l.length + 1) c) → Row8 n B w' v' (l ++ [y]) → W0.grownBy w' v.ownBlock → K (a.put o.dst v') w') : o.wp Tryd.prog a W K Q := by
  obtain ⟨i0, hi, hz0, hz1, hz2⟩ := info_Desc
  obtain ⟨ds, e, h1, h2⟩ := id h
  obtain ⟨n1, n2⟩ := hy.one
  subst hw
  have al : ∀ j u, (c8 (y, nv, pv))[j]? = some u → (W0.alloc (.cells (c8 (y, nv, pv)).toArray 26)).cell? ((⟨W0.heap.size, 0, none⟩ : Addr).add j) = some u := by
    intro j u hj
    rw [show ((⟨W0.heap.size, 0, none⟩ : Addr).add j) = ⟨W0.heap.size, j, none⟩ by unfold Addr.add; split <;> simp_all]
    exact (cell_of_row (W0.alloc (.cells (c8 (y, nv, pv)).toArray 26)) W0.heap.size j (c8 (y, nv, pv)).toArray 26 (0, 0) (heap_alloc_new W0 _)).trans (by simpa using hj)
  have one : ∀ u ∈ c8 (y, nv, pv), u.oneCell' = true := by
    intro u hu
    simp at hu
    rcases hu with rfl | rfl | rfl | rfl | rfl | rfl | rfl | rfl
    all_goals first | rfl | assumption
  have key : ∀ ds : List (D × Value × Value), W0.ownsRow B 26 8 v l.length (ds.flatMap c8) → ∃ v' w', (Builtin.append_ #[24, 24] o.type #[v, .slice (some ⟨W0.heap.size, 0, none⟩) 1 1]).run Tryd.prog (W0.alloc (.cells (c8 (y, nv, pv)).toArray 26)) = .ok v' w' ∧ w'.ownsRow B 26 8 v' (l.length + 1) (ds.flatMap c8 ++ c8 (y, nv, pv)) ∧ (W0.alloc (.cells (c8 (y, nv, pv)).toArray 26)).grownBy w' v.ownBlock ∧ (v'.ownBlock = v.ownBlock ∨ v'.ownBlock = some (W0.alloc (.cells (c8 (y, nv, pv)).toArray 26)).heap.size) := by
    intro ds h1
    obtain ⟨v', w', hr, q2, q3, -, q5⟩ := run_append_own_at (P := Tryd.prog) (W0.alloc (.cells (c8 (y, nv, pv)).toArray 26)) B 24 o.type 26 i0 _ 8 112 Tryd.underlying24 hi hz0 hz1 hz2 rfl (by decide) v l.length (ds.flatMap c8) (h1.alloc _) ⟨W0.heap.size, 0, none⟩ 1 1 (c8 (y, nv, pv)) rfl al one (by unfold maxLen; omega) (by omega) (by simp; omega)
    exact ⟨v', w', hr, q2, q3, q5⟩
  obtain ⟨v', w', hr, q2, q3, q5⟩ := key ds h1
  obtain ⟨ao, c, e2, -, -⟩ := own_sliceZ q2
  have hR : Row8 n B w' v' (l ++ [y]) := by
    refine row8_app h hy _ (fun ds' h' => ?_) q3 q5
    obtain ⟨v2, w2, hr2, p2, -, -⟩ := key ds' h'
    rw [hr] at hr2
    cases hr2
    exact p2
  unfold Oper.wp execOp
  simp only [ho, resolve, invoke, builtin, Sem.run_bind, Sem.run_pure, Result.andThen_ok, List.map_toArray, List.map_cons, List.map_nil, hs, hx, hr]
  refine hk v' w' ⟨ao, c, e2⟩ hR ?_
  exact (World.grownBy_alloc W0 _ _).trans q3
theorem gr_belowV {w w' : World} (hb : Below w.heap.size w w') (row : Option Nat) : w.grownBy w' row := ⟨hb.os, hb.tape, hb.output, hb.size, fun k hk _ => hb.block k hk⟩
theorem gr_putV {w w' : World} {R o : Nat} (h : w.grownBy w' (some R)) (v : Value) : w.grownBy (w'.setCell ⟨R, o, none⟩ v) (some R) :=
  ⟨h.os, h.tape, h.output, by simpa [World.setCell] using h.size, fun k hk hne => by rw [Below.heap_setCell _ _ _ _ (fun e => hne (by rw [e]))]; exact h.block k hk hne⟩
/-- A descriptor's box X whose parts grow; all else is as it was in W5. -/
structure PBx (W5 : World) (X n : Nat) (d : D) (nv pv : Value) (l : List D) (wr : World) : Prop where
  g : W5.grownBy wr (some X)
  a : At8 wr X 0 d nv pv
  z : ∀ i, wr.frozen? ⟨X, i, none⟩ = false
  r : Row8 n W5.heap.size wr pv l
  x : X < W5.heap.size
theorem PBx.up {W5 : World} {X n : Nat} {d : D} {nv pv : Value} {l : List D} {wr wr' : World} (h : PBx W5 X n d nv pv l wr) (hb : Below wr.heap.size wr wr') : PBx W5 X n d nv pv l wr' :=
  ⟨h.g.trans (gr_belowV hb _), h.a.up hb, fun i => (hb.frozen (p := ⟨X, i, none⟩) (Nat.lt_of_lt_of_le h.x h.g.size)).trans (h.z i), h.r.up hb, h.x⟩
theorem PBx.app {W5 : World} {X n : Nat} {d : D} {nv pv v' : Value} {l l' : List D} {wr w' : World} (h : PBx W5 X n d nv pv l wr) (hr : Row8 n W5.heap.size w' v' l') (hg : wr.grownBy w' pv.ownBlock) : PBx W5 X n d nv v' l' (w'.setCell ⟨X, 6, none⟩ v') := by
  have hx := h.x
  have hne : some X ≠ pv.ownBlock := fun e => by have := (h.r.lt X e.symm).1; omega
  have hXw : X < wr.heap.size := Nat.lt_of_lt_of_le h.x h.g.size
  have hc : ∀ o, w'.cell? ⟨X, o, none⟩ = wr.cell? ⟨X, o, none⟩ := fun o => hg.cell_far ⟨X, o, none⟩ hXw hne
  have hz : ∀ o, w'.frozen? ⟨X, o, none⟩ = wr.frozen? ⟨X, o, none⟩ := fun o => hg.frozen_far ⟨X, o, none⟩ hXw hne
  obtain ⟨a0, a1, a2, a3, a4, a5, a6, a7⟩ := h.a
  simp only [Nat.zero_add] at a0 a1 a2 a3 a4 a5 a6 a7
  rw [← hc] at a0 a1 a2 a3 a4 a5 a6 a7
  have hg5 : W5.grownBy w' (some X) := by
    refine ⟨hg.os.trans h.g.os, hg.tape.trans h.g.tape, hg.output.trans h.g.output, Nat.le_trans h.g.size hg.size, fun k hk hne2 => ?_⟩
    refine (hg.block k (Nat.lt_of_lt_of_le hk h.g.size) fun e => ?_).trans (h.g.block k hk hne2)
    have := (h.r.lt k e.symm).1
    omega
  refine ⟨gr_putV hg5 _, ?_, fun i => ?_, hr.set hx 6 v', hx⟩
  · refine ⟨?_, ?_, ?_, ?_, ?_, ?_, ?_, ?_⟩
    all_goals simp [go_sem, a0, a1, a2, a3, a4, a5, a6, a7]
  · rw [show (w'.setCell ⟨X, 6, none⟩ v').frozen? ⟨X, i, none⟩ = w'.frozen? ⟨X, i, none⟩ from World.frozen?_setCell _ _ _ _, hz]
    exact h.z i
end Go.Proofs.YtjphklhfigammaaDoor
