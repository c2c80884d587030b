/- The walk of the law ValuesMaps. -/
import Derived.Test.YtjphklhfigammaaDoorVBuilt
import Derived.Test.YtjphklhfigammaaDoorVRankB
import Derived.Deep.AppendLies
import Derived.Test.YtjphklhfigammaaDoorOpenDesc
namespace Go.Proofs.YtjphklhfigammaaDoor
open Go.RowKit
set_option linter.unusedVariables false
set_option linter.unusedSimpArgs false


abbrev cf (d : D) : List Value := [.int .i64 d.kind, .string d.ty, .int .u64 d.bits, .int .u64 d.imag, .string d.text, .slice none 0 0, .slice none 0 0, .int .i64 d.hook]
theorem info_DescF : ∃ i, Tryd.prog.info? 26 = some i ∧ i.zero = some (.agg #[.int .i64 0, .string ⟨#[]⟩, .int .u64 0, .int .u64 0, .string ⟨#[]⟩, .slice none 0 0, .slice none 0 0, .int .i64 0]) ∧ i.size = 8 ∧ i.bytes = 112 := by
  have h : (Tryd.prog.info? 26).map (fun i => (i.zero, i.size, i.bytes)) = some (some (.agg #[.int .i64 0, .string ⟨#[]⟩, .int .u64 0, .int .u64 0, .string ⟨#[]⟩, .slice none 0 0, .slice none 0 0, .int .i64 0]), 8, 112) := by kernel_rfl
  obtain ⟨i, hi, hb⟩ := Option.map_eq_some_iff.1 h
  simp only [Prod.mk.injEq] at hb
  exact ⟨i, hi, hb⟩
/-- A row of plain descriptors in a block from B on. -/
def RowF (B : Nat) (W : World) (v : Value) (l : List D) : Prop := W.ownsRow B 26 8 v l.length (l.flatMap cf)
theorem RowF.nil (B : Nat) (W : World) : RowF B W (.slice none 0 0) [] := World.ownsRow_nil _ _ _ _
theorem flatF_len : ∀ l : List D, (l.flatMap cf).length = l.length * 8
  | [] => rfl
  | x :: t => by
    rw [List.flatMap_cons, List.length_append, flatF_len t]
    show 8 + t.length * 8 = (t.length + 1) * 8
    omega
theorem flatF_at : ∀ (l : List D) (i : Nat) (x : D), l[i]? = some x → ∀ (k : Nat) (u : Value), (cf x)[k]? = some u → (l.flatMap cf)[i * 8 + k]? = some u
  | [], i, x, h, _, _, _ => by simp at h
  | y :: r, 0, x, h, k, u, hu => by
    simp at h
    subst h
    have hk : k < (cf y).length := (List.getElem?_eq_some_iff.1 hu).1
    rw [List.flatMap_cons, Nat.zero_mul, Nat.zero_add, List.getElem?_append_left hk]
    exact hu
  | y :: r, i + 1, x, h, k, u, hu => by
    have := flatF_at r i x (by simpa using h) k u hu
    have hl : (cf y).length = 8 := rfl
    rw [List.flatMap_cons, List.getElem?_append_right (by rw [hl]; omega), hl, show (i + 1) * 8 + k - 8 = i * 8 + k by omega]
    exact this
theorem oneF (l : List D) : ∀ u ∈ l.flatMap cf, u.oneCell' = true := by
  intro u hu
  obtain ⟨x, -, hx⟩ := List.mem_flatMap.1 hu
  simp at hx
  rcases hx with rfl | rfl | rfl | rfl | rfl | rfl | rfl | rfl
  all_goals rfl
theorem RowF.slice {B : Nat} {W : World} {v : Value} {l : List D} (h : RowF B W v l) : ∃ a c, v = .slice a l.length c ∧ l.length ≤ c ∧ c ≤ maxLen := by
  rcases h.2 with ⟨rfl, h0⟩ | ⟨g, cap, cur, rfl, -, -, h1, h2, -⟩
  · exact ⟨none, 0, by rw [h0], by omega, by decide⟩
  · exact ⟨_, cap, rfl, h1, h2⟩
theorem RowF.kept {B : Nat} {W W' : World} {v : Value} {l : List D} (h : RowF B W v l) {row : Option Nat} (hg : W.grownBy W' row) (hn : ∀ g, v.ownBlock = some g → row ≠ some g) : RowF B W' v l := by
  refine ⟨h.1, ?_⟩
  rcases h.2 with h0 | ⟨g, cap, cur, rfl, h1, h2, h3⟩
  · exact .inl h0
  · refine .inr ⟨g, cap, cur, rfl, h1, ?_, h3⟩
    rw [hg.block g (by rcases Nat.lt_or_ge g W.heap.size with h | h; exact h; rw [Array.getElem?_eq_none h] at h2; cases h2) (fun e => hn g rfl e.symm)]
    exact h2
theorem RowF.block {B : Nat} {W : World} {v : Value} {l : List D} (h : RowF B W v l) : ∀ g, v.ownBlock = some g → B ≤ g ∧ g < W.heap.size := by
  intro g hg
  rcases h.2 with ⟨rfl, -⟩ | ⟨g', cap, cur, rfl, h1, h2, -⟩
  · cases hg
  · obtain rfl : g' = g := Option.some.inj hg
    refine ⟨h1, ?_⟩
    rcases Nat.lt_or_ge g' W.heap.size with h | h
    · exact h
    · rw [Array.getElem?_eq_none h] at h2; cases h2
/-- What is read of it. -/
theorem RowF.reads {B : Nat} {W : World} {v : Value} {l : List D} (h : RowF B W v l) (i : Nat) (x : D) (hx : l[i]? = some x) : ∃ a cap b off, v = .slice a l.length cap ∧ a = some ⟨b, off, none⟩ ∧ At8 W b (off + i * 8) x (.slice none 0 0) (.slice none 0 0) := by
  have hil : i < l.length := (List.getElem?_eq_some_iff.1 hx).1
  rcases h.2 with ⟨-, h4⟩ | ⟨g, cap, cur, rfl, hB, hg, -⟩
  · omega
  · have hc : ∀ k u, (cf x)[k]? = some u → W.cell? ⟨g, i * 8 + k, none⟩ = some u := fun k u hu => by
      have hk : k < 8 := (List.getElem?_eq_some_iff.1 hu).1
      rw [World.ownsRow.cellAt h _ (by omega)]
      exact flatF_at l i x hx k u hu
    refine ⟨_, cap, g, 0, rfl, rfl, ?_⟩
    rw [Nat.zero_add]
    exact ⟨hc 0 _ rfl, hc 1 _ rfl, hc 2 _ rfl, hc 3 _ rfl, hc 4 _ rfl, hc 5 _ rfl, hc 6 _ rfl, hc 7 _ rfl⟩
theorem two_flat (k u : D) : [k, u].flatMap cf = cf k ++ cf u := by simp [List.flatMap_cons]
theorem addr_add (b j : Nat) : (⟨b, 0, none⟩ : Addr).add j = ⟨b, j, none⟩ := by unfold Addr.add; split <;> simp_all
theorem lit_cells (W0 : World) (k u : D) : ∀ j x, ([k, u].flatMap cf)[j]? = some x → (W0.alloc (.cells (cf k ++ cf u).toArray 26)).cell? ((⟨W0.heap.size, 0, none⟩ : Addr).add j) = some x := by
  intro j x hj
  rw [addr_add]
  refine (cell_of_row (W0.alloc (.cells (cf k ++ cf u).toArray 26)) W0.heap.size j (cf k ++ cf u).toArray 26 (0, 0) (heap_alloc_new W0 _)).trans ?_
  rw [two_flat] at hj
  simpa using hj
/-- append of two. -/
theorem wpl_appF {ops : Array Oper} {rest : List Oper} {o : Oper} {a : Act} {W0 W : World} {Q : Exit → Act → World → Prop} (hgd : o.guard = none) (s x : Operand)
    (ho : o.op = .call { callee := .builtin .append, args := #[s, x], argTypes := #[24, 24] }) {B : Nat} {v : Value} {l : List D} (h : RowF B W0 v l) (k u : D)
    (hs : a.eval s = v) (hx : a.eval x = .slice (some ⟨W0.heap.size, 0, none⟩) 2 2) (hw : W = W0.alloc (.cells (cf k ++ cf u).toArray 26)) (hl : l.length ≤ 100000) (hB : B ≤ W0.heap.size)
    (hk : ∀ v' w', (∃ ao c, v' = .slice ao (l.length + 2) c) → RowF B w' v' (l ++ [k, u]) → W0.grownBy w' v.ownBlock → (v'.ownBlock = v.ownBlock ∨ v'.ownBlock = some (W0.heap.size + 1)) → wpList Tryd.prog ops Q rest (a.put o.dst v') w') : wpList Tryd.prog ops Q (o :: rest) a W := by
  obtain ⟨i0, hi, hz0, hz1, hz2⟩ := info_DescF
  subst hw
  refine wpList_append_own_at _ hgd s x 24 ho B 26 i0 _ 8 112 Tryd.underlying24 hi hz0 hz1 hz2 rfl (by decide) v l.length (l.flatMap cf) hs (World.ownsRow.alloc h _) ⟨W0.heap.size, 0, none⟩ 2 2 ([k, u].flatMap cf) hx (by rw [flatF_len]; rfl) (lit_cells W0 k u) (oneF _) (by unfold maxLen; omega) (by omega) (by simp; omega) ?_
  intro v' w' h2 h3 h4 h5
  have hR : RowF B w' v' (l ++ [k, u]) := by
    unfold RowF
    rw [List.length_append, List.flatMap_append]
    exact h2
  obtain ⟨ao, c, e, -⟩ := hR.slice
  refine hk v' w' ⟨ao, c, by rw [e, List.length_append]; rfl⟩ hR ((World.grownBy_alloc W0 _ _).trans h3) ?_
  rcases h5 with h5 | h5
  · exact .inl h5
  · exact .inr (by rw [h5]; simp)
theorem run_append_none2 {P : Program} {w : World} (t ty e : TypeId) (i : TypeInfo) (ht : P.underlying t = some (.slice e)) (hi : P.info? e = some i) (g c : Nat) :
    (Builtin.append_ #[t, t] ty #[.slice (some ⟨g, 0, none⟩) 2 2, .slice none 0 c]).run P w = .ok (.slice (some ⟨g, 0, none⟩) 2 2) w := by
  simp [Builtin.append_, run_underlying ht, sizeOf, typeInfo, hi, Builtin.lenOf, Builtin.firstCells, loadCells, loadCellsFrom, storeCells]
/-- append of a row to two. -/
theorem wpl_appR {ops : Array Oper} {rest : List Oper} {o : Oper} {a : Act} {W0 W : World} {Q : Exit → Act → World → Prop} (hgd : o.guard = none) (s x : Operand)
    (ho : o.op = .call { callee := .builtin .append, args := #[s, x], argTypes := #[24, 24] }) {B : Nat} {v : Value} {l : List D} (h : RowF B W0 v l) (k u : D)
    (hx : a.eval x = v) (hs : a.eval s = .slice (some ⟨W0.heap.size, 0, none⟩) 2 2) (hw : W = W0.alloc (.cells (cf k ++ cf u).toArray 26)) (hl : l.length ≤ 100000) (hB : B ≤ W0.heap.size)
    (hk : ∀ v' w', (∃ ao c, v' = .slice ao (l.length + 2) c) → RowF B w' v' ([k, u] ++ l) → W0.grownBy w' none → (∀ g, v'.ownBlock = some g → W0.heap.size ≤ g) → wpList Tryd.prog ops Q rest (a.put o.dst v') w') : wpList Tryd.prog ops Q (o :: rest) a W := by
  obtain ⟨i0, hi, hz0, hz1, hz2⟩ := info_DescF
  subst hw
  have hown : RowF B (W0.alloc (.cells (cf k ++ cf u).toArray 26)) (.slice (some ⟨W0.heap.size, 0, none⟩) 2 2) [k, u] := by
    have := World.ownsRow_lit (size := 8) (e := 26) W0 (cf k ++ cf u).toArray 2 hB (by decide) rfl
    unfold RowF
    rw [two_flat]
    exact this
  have hgr : W0.grownBy (W0.alloc (.cells (cf k ++ cf u).toArray 26)) none := World.grownBy_alloc W0 _ _
  rcases id h.2 with ⟨rfl, h0⟩ | ⟨g, cap, cur, rfl, h1, h2, h3⟩
  · have hl0 : l = [] := List.eq_nil_of_length_eq_zero h0
    subst hl0
    refine wpList_plain hgd fun K hK => ?_
    have hr := run_append_none2 (P := Tryd.prog) (w := W0.alloc (.cells (cf k ++ cf u).toArray 26)) 24 o.type 26 i0 Tryd.underlying24 hi W0.heap.size 0
    unfold Oper.wp execOp
    simp only [ho, resolve, invoke, builtin, Sem.run_bind, Sem.run_pure, Result.andThen_ok, List.map_toArray, List.map_cons, List.map_nil, hs, hx, hr]
    exact hK _ _ (hk _ _ ⟨_, 2, rfl⟩ (by rw [List.append_nil]; exact hown) hgr (fun g hg => by obtain rfl := Option.some.inj hg; exact Nat.le_refl _))
  · have hlt : g < W0.heap.size := (h.block g rfl).2
    refine wpList_append_own_at _ hgd s x 24 ho B 26 i0 _ 8 112 Tryd.underlying24 hi hz0 hz1 hz2 rfl (by decide) _ 2 ([k, u].flatMap cf) hs hown ⟨g, 0, none⟩ l.length cap (l.flatMap cf) hx (flatF_len l) ?_ (oneF _) (by unfold maxLen; omega) (by omega) (by simp; omega) ?_
    · intro j y hj
      rw [addr_add]
      have hjl : j < l.length * 8 := by have := (List.getElem?_eq_some_iff.1 hj).1; rw [flatF_len] at this; exact this
      rw [hgr.cell_far ⟨g, j, none⟩ hlt (fun e => by cases e), World.ownsRow.cellAt h j hjl]
      exact hj
    · intro v' w' q2 q3 q4 q5
      have hR : RowF B w' v' ([k, u] ++ l) := by
        unfold RowF
        rw [List.length_append, List.flatMap_append]
        exact q2
      obtain ⟨ao, c, e, -⟩ := hR.slice
      refine hk v' w' ⟨ao, c, by rw [e, List.length_append, Nat.add_comm]; rfl⟩ hR ?_ ?_
      · refine ⟨q3.os.trans hgr.os, q3.tape.trans hgr.tape, q3.output.trans hgr.output, Nat.le_trans hgr.size q3.size, fun n hn _ => ?_⟩
        rw [q3.block n (Nat.lt_of_lt_of_le hn hgr.size) (fun e => by have : n = W0.heap.size := Option.some.inj e; omega)]
        exact hgr.block n hn (fun e => by cases e)
      · intro g' hg'
        rcases q5 with q5 | q5
        · rw [q5] at hg'; obtain rfl := Option.some.inj hg'; exact Nat.le_refl _
        · rw [q5] at hg'; obtain rfl := Option.some.inj hg'; simp
/-- A descriptor without a name, a hook and parts, of a kind below 17. -/
structure FlatD (d : D) : Prop where
  ty : d.ty = ⟨#[]⟩
  names : d.names = []
  parts : d.parts = []
  fit : Fit d
  lo : 1 ≤ d.kind
  hi : d.kind ≤ 16
structure EOk (p : D × D) : Prop where
  k : FlatD p.1
  u : FlatD p.2
  key : keyB p.1.kind = true
  num : p.2.kind = 11
theorem fit_flat (k b i h : Int) (t x : ByteArray) (h1 : -9223372036854775808 ≤ k ∧ k ≤ 9223372036854775807) (h2 : 0 ≤ b ∧ b ≤ 18446744073709551615) (h3 : 0 ≤ i ∧ i ≤ 18446744073709551615) (h4 : -9223372036854775808 ≤ h ∧ h ≤ 9223372036854775807) (h5 : t.size ≤ maxLen) (h6 : x.size ≤ maxLen) : Fit ⟨k, t, b, i, x, [], [], h⟩ := ⟨h1, h2, h3, h4, h5, h6⟩
theorem flat_num (k b : Int) (hk : 1 ≤ k ∧ k ≤ 16) (hb : 0 ≤ b ∧ b ≤ 18446744073709551615) : FlatD ⟨k, ⟨#[]⟩, b, 0, ⟨#[]⟩, [], [], 0⟩ := ⟨rfl, rfl, rfl, fit_flat _ _ _ _ _ _ (by omega) hb (by omega) (by omega) (by decide) (by decide), hk.1, hk.2⟩
theorem eok_b (b j : Int) (hb : 0 ≤ b ∧ b ≤ 18446744073709551615) (hj : 0 ≤ j ∧ j ≤ 100) : EOk (⟨6, ⟨#[]⟩, b, 0, ⟨#[]⟩, [], [], 0⟩, ⟨11, ⟨#[]⟩, j, 0, ⟨#[]⟩, [], [], 0⟩) :=
  ⟨flat_num 6 b (by omega) hb, flat_num 11 j (by omega) (by omega), by show keyB 6 = true; decide, rfl⟩
theorem eok_t (t : ByteArray) (j : Int) (ht : t.size ≤ maxLen) (hj : 0 ≤ j ∧ j ≤ 100) : EOk (⟨16, ⟨#[]⟩, 0, 0, t, [], [], 0⟩, ⟨11, ⟨#[]⟩, j, 0, ⟨#[]⟩, [], [], 0⟩) :=
  ⟨⟨rfl, rfl, rfl, fit_flat _ _ _ _ _ _ (by omega) (by omega) (by omega) (by omega) (by decide) ht, by show (1 : Int) ≤ 16; decide, by show (16 : Int) ≤ 16; decide⟩, flat_num 11 j (by omega) (by omega), by show keyB 16 = true; decide, rfl⟩
def mapD (l : List D) : D := ⟨21, ⟨#[]⟩, 0, 0, ⟨#[]⟩, [], l, 0⟩
theorem setCell_frozen (w : World) (p q : Addr) (v : Value) : (w.setCell p v).frozen? q = w.frozen? q := World.frozen?_setCell ..
/-- Two boxes whose parts grow. -/
structure MP (w : World) (X Y : Nat) (l1 l2 : List D) (p1 p2 : Value) (wr : World) : Prop where
  b : Below w.heap.size w wr
  x : At8 wr X 0 (mapD []) (.slice none 0 0) p1
  y : At8 wr Y 0 (mapD []) (.slice none 0 0) p2
  zx : ∀ i, wr.frozen? ⟨X, i, none⟩ = false
  zy : ∀ i, wr.frozen? ⟨Y, i, none⟩ = false
  r1 : RowF (w.heap.size + 2) wr p1 l1
  r2 : RowF (w.heap.size + 2) wr p2 l2
  ap : ∀ g, p1.ownBlock = some g → p2.ownBlock ≠ some g
  ex : X = w.heap.size
  ey : Y = w.heap.size + 1
theorem MP.lt {w : World} {X Y : Nat} {l1 l2 : List D} {p1 p2 : Value} {wr : World} (h : MP w X Y l1 l2 p1 p2 wr) : w.heap.size + 2 ≤ wr.heap.size := by
  have : Y < wr.heap.size := lt_of_cell h.y.1
  have := h.ey
  omega
theorem MP.up {w : World} {X Y : Nat} {l1 l2 : List D} {p1 p2 : Value} {wr wr' : World} (h : MP w X Y l1 l2 p1 p2 wr) (hb : Below wr.heap.size wr wr') : MP w X Y l1 l2 p1 p2 wr' := by
  have hl := h.lt
  have := h.ex
  have := h.ey
  have hg : wr.grownBy wr' none := ⟨hb.os, hb.tape, hb.output, hb.size, fun k hk _ => hb.block k hk⟩
  exact ⟨h.b.trans (hb.mono h.b.size), h.x.up hb, h.y.up hb, fun i => (hb.frozen (p := ⟨X, i, none⟩) (show X < _ by omega)).trans (h.zx i), fun i => (hb.frozen (p := ⟨Y, i, none⟩) (show Y < _ by omega)).trans (h.zy i), h.r1.kept hg (fun g _ e => by cases e), h.r2.kept hg (fun g _ e => by cases e), h.ap, h.ex, h.ey⟩
theorem At8.put6 {W : World} {X : Nat} {d : D} {nv pv v : Value} (h : At8 W X 0 d nv pv) : At8 (W.setCell ⟨X, 6, none⟩ v) X 0 d nv v := by
  obtain ⟨a0, a1, a2, a3, a4, a5, a6, a7⟩ := h
  simp only [Nat.zero_add] at a0 a1 a2 a3 a4 a5 a6 a7
  refine ⟨?_, ?_, ?_, ?_, ?_, ?_, ?_, ?_⟩
  all_goals simp [go_sem, a0, a1, a2, a3, a4, a5, a6, a7]
theorem At8.far {W W' : World} {X : Nat} {d : D} {nv pv : Value} (h : At8 W X 0 d nv pv) {row : Option Nat} (hg : W.grownBy W' row) (hn : some X ≠ row) : At8 W' X 0 d nv pv := by
  have hc : ∀ o v, W.cell? ⟨X, o, none⟩ = some v → W'.cell? ⟨X, o, none⟩ = some v := fun o v hv => (hg.cell_far ⟨X, o, none⟩ (lt_of_cell hv) hn).trans hv
  exact ⟨hc _ _ h.1, hc _ _ h.2.1, hc _ _ h.2.2.1, hc _ _ h.2.2.2.1, hc _ _ h.2.2.2.2.1, hc _ _ h.2.2.2.2.2.1, hc _ _ h.2.2.2.2.2.2.1, hc _ _ h.2.2.2.2.2.2.2⟩
theorem gr_cell6 (W : World) (X : Nat) (v : Value) : W.grownBy (W.setCell ⟨X, 6, none⟩ v) (some X) :=
  ⟨rfl, rfl, rfl, by simp [World.setCell], fun k _ hk => Below.heap_setCell _ _ _ k (fun e => hk (by rw [e]))⟩
theorem MP.app1 {w : World} {X Y : Nat} {l1 l2 l : List D} {p1 p2 v' : Value} {W0 w' : World} (h : MP w X Y l1 l2 p1 p2 W0) (hr : RowF (w.heap.size + 2) w' v' l) (hg : W0.grownBy w' p1.ownBlock)
    (hat : v'.ownBlock = p1.ownBlock ∨ v'.ownBlock = some (W0.heap.size + 1)) : MP w X Y l l2 v' p2 (w'.setCell ⟨X, 6, none⟩ v') := by
  have hl := h.lt
  have ex := h.ex
  have ey := h.ey
  have nX : some X ≠ p1.ownBlock := fun e => by have := (h.r1.block X e.symm).1; omega
  have nY : some Y ≠ p1.ownBlock := fun e => by have := (h.r1.block Y e.symm).1; omega
  have hb : Below w.heap.size w w' := h.b.grown hg (by omega) (fun k hk => by have := (h.r1.block k hk).1; omega)
  have hc6 := gr_cell6 w' X v'
  refine ⟨hb.grown hc6 (by have := hg.size; omega) (fun k hk => by obtain rfl := Option.some.inj hk; omega), (h.x.far hg nX).put6, (h.y.far hg nY).far hc6 (fun e => by have := Option.some.inj e; omega), fun i => ?_, fun i => ?_, ?_, ?_, ?_, ex, ey⟩
  · rw [World.frozen?_setCell, hg.frozen_far ⟨X, i, none⟩ (show X < _ by omega) nX]; exact h.zx i
  · rw [World.frozen?_setCell, hg.frozen_far ⟨Y, i, none⟩ (show Y < _ by omega) nY]; exact h.zy i
  · exact hr.kept hc6 fun g hg' e => by have := (hr.block g hg').1; have := Option.some.inj e; omega
  · refine (h.r2.kept hg fun g hg' e => h.ap g e hg').kept hc6 fun g hg' e => ?_
    have := (h.r2.block g hg').1
    have := Option.some.inj e
    omega
  · intro g hg' e
    rcases hat with hat | hat
    · rw [hat] at hg'; exact h.ap g hg' e
    · rw [hat] at hg'
      have := (h.r2.block g e).2
      have := Option.some.inj hg'
      omega
theorem MP.app2 {w : World} {X Y : Nat} {l1 l2 l : List D} {p1 p2 v' : Value} {W0 w' : World} (h : MP w X Y l1 l2 p1 p2 W0) (hr : RowF (w.heap.size + 2) w' v' l) (hg : W0.grownBy w' none)
    (hat : ∀ g, v'.ownBlock = some g → W0.heap.size ≤ g) : MP w X Y l1 l p1 v' (w'.setCell ⟨Y, 6, none⟩ v') := by
  have hl := h.lt
  have ex := h.ex
  have ey := h.ey
  have nn : ∀ k : Nat, some k ≠ none := fun k e => by cases e
  have hb : Below w.heap.size w w' := h.b.grown hg (by omega) (fun k hk => by cases hk)
  have hc6 := gr_cell6 w' Y v'
  refine ⟨hb.grown hc6 (by have := hg.size; omega) (fun k hk => by obtain rfl := Option.some.inj hk; omega), (h.x.far hg (nn _)).far hc6 (fun e => by have := Option.some.inj e; omega), (h.y.far hg (nn _)).put6, fun i => ?_, fun i => ?_, ?_, ?_, ?_, ex, ey⟩
  · rw [World.frozen?_setCell, hg.frozen_far ⟨X, i, none⟩ (show X < _ by omega) (nn _)]; exact h.zx i
  · rw [World.frozen?_setCell, hg.frozen_far ⟨Y, i, none⟩ (show Y < _ by omega) (nn _)]; exact h.zy i
  · refine (h.r1.kept hg fun g hg' e => by cases e).kept hc6 fun g hg' e => ?_
    have := (h.r1.block g hg').1
    have := Option.some.inj e
    omega
  · exact hr.kept hc6 fun g hg' e => by have := (hr.block g hg').1; have := Option.some.inj e; omega
  · intro g hg' e
    have := (h.r1.block g hg').2
    have := hat g e
    omega
theorem inBits_in (k b : Int) : inBits k (inBits k b) = inBits k b := by
  by_cases h1 : k = 1
  · subst h1
    have e : ∀ b : Int, inBits 1 b = b % 2 := fun b => by unfold inBits; rw [if_pos rfl]
    rw [e, e]; omega
  by_cases h2 : 2 ≤ k ∧ k ≤ 6
  · have e : ∀ b : Int, inBits k b = sgN k b % 18446744073709551616 := fun b => by
      unfold inBits numF
      rw [if_neg (by omega), if_pos (by omega), if_pos (by simp [sgnB]; omega)]
    rw [e (inBits k b), sgN_in k b h2, ← e]
  by_cases h3 : 7 ≤ k ∧ k ≤ 11
  · have e : ∀ b : Int, inBits k b = unN k b := fun b => by
      unfold inBits numF
      rw [if_neg (by omega), if_pos (by omega), if_neg (by simp [sgnB]; omega)]
    rw [e (inBits k b), unN_in k b h3, ← e]
  have n2 : ¬ (2 ≤ k ∧ k ≤ 11) := by omega
  by_cases h4 : k = 12 ∨ k = 14
  · have e : ∀ b : Int, inBits k b = b % 4294967296 := fun b => by
      unfold inBits
      rw [if_neg h1, if_neg n2, if_pos h4]
    rw [e, e]; omega
  by_cases h5 : k = 13 ∨ k = 15 ∨ k = 22
  · have e : ∀ b : Int, inBits k b = b := fun b => by
      unfold inBits
      rw [if_neg h1, if_neg n2, if_neg h4, if_pos h5]
    rw [e, e]
  · have e : ∀ b : Int, inBits k b = 0 := fun b => by
      unfold inBits
      rw [if_neg h1, if_neg n2, if_neg h4, if_neg h5]
    rw [e, e]
theorem inImag_in (k b : Int) : inImag k (inImag k b) = inImag k b := by
  unfold inImag
  repeat' split
  all_goals first | rfl | omega
theorem inText_in (k : Int) (s : ByteArray) : inText k (inText k s) = inText k s := by
  unfold inText
  repeat' split
  all_goals rfl
theorem srt_flat2 (l : List D) : srt (flat2 (srt l)) = srt l := by
  conv => lhs; unfold srt
  rw [prs2_flat2]
  refine List.mergeSort_of_pairwise ?_
  exact (srt_sorted l).imp fun h => by unfold leP; exact decide_eq_true h
theorem inF_again : ∀ (n : Nat) (d : D), nAll d ≤ n → Good8 d → inF (inF d) = inF d
  | 0, d, h, _ => by have := nAll_pos d; omega
  | n + 1, d, h, hg => by
    have hs := hg.self
    by_cases k0 : d.kind = 0
    · rw [inF_eq d, if_pos k0, inF_eq, if_pos (show d00.kind = 0 from rfl)]
    have hv : ∀ x ∈ vp d, inF (inF x) = inF x := fun x hx => by
      obtain ⟨h1, h2⟩ := vp_mem hx
      refine inF_again n x ?_ (hg.part h1 h2)
      obtain ⟨j, hj⟩ := List.mem_iff_getElem?.1 h2
      have := nAll_part hj
      omega
    have hpr := inF_parts d (key_of hs.form)
    have hpp : (inF d).parts.map inF = (vp d).map inF := by
      rw [hpr, List.map_map]
      exact List.map_congr_left fun x hx => hv x hx
    have hkey : d.kind = 21 → ∀ p ∈ prs2 (vp d), rkF (inF p.1) = rkF p.1 := fun h21 p hp => by
      have hvp : vp d = flat2 (srt d.parts) := by unfold vp; rw [if_pos h21]
      rw [hvp, prs2_flat2] at hp
      exact rkF_in _ (prs2_key (key_of hs.form h21) ((srt_perm d.parts).mem_iff.1 hp))
    have e1 : inF d = ⟨d.kind, d.ty, inBits d.kind d.bits, inImag d.kind d.imag, inText d.kind d.text, if d.kind = 18 then d.names else [], if d.kind = 21 then flat2 (srt (d.parts.map inF)) else if great d.kind then d.parts.map inF else [], d.hook⟩ := by rw [inF_eq, if_neg k0]
    have e2 := inF_eq (inF d)
    rw [inF_kind, if_neg k0, hpp] at e2
    rw [e2]
    have hparts : (if d.kind = 21 then flat2 (srt ((vp d).map inF)) else if great d.kind then (vp d).map inF else []) = (inF d).parts := by
      rw [hpr]
      by_cases h21 : d.kind = 21
      · have hvp : vp d = flat2 (srt d.parts) := by unfold vp; rw [if_pos h21]
        rw [if_pos h21, srt_map inF (vp d) (hkey h21), flat2_map]
        conv => lhs; rw [hvp, srt_flat2, ← hvp]
      · rw [if_neg h21]
        by_cases hgr : great d.kind = true
        · rw [if_pos hgr]
        · rw [if_neg hgr]
          have : vp d = [] := by unfold vp; rw [if_neg h21, if_neg hgr]
          rw [this]; rfl
    rw [hparts]
    have f1 : (inF d).ty = d.ty := by rw [e1]
    have f2 : (inF d).bits = inBits d.kind d.bits := by rw [e1]
    have f3 : (inF d).imag = inImag d.kind d.imag := by rw [e1]
    have f4 : (inF d).text = inText d.kind d.text := by rw [e1]
    have f5 : (inF d).names = if d.kind = 18 then d.names else [] := by rw [e1]
    have f6 : (inF d).hook = d.hook := by rw [e1]
    have f7 : (if d.kind = 18 then (inF d).names else []) = (inF d).names := by
      rw [f5]
      by_cases h18 : d.kind = 18
      · simp only [if_pos h18]
      · simp only [if_neg h18]
    rw [f1, f2, f3, f4, f6, f7, inBits_in, inImag_in, inText_in]
    have hk := inF_kind d
    generalize inF d = x at *
    obtain ⟨a1, a2, a3, a4, a5, a6, a7, a8⟩ := x
    simp only at hk f1 f2 f3 f4 f6
    subst hk f1 f6
    rw [← f2, ← f3, ← f4]
theorem inF_idem {d : D} (hg : Good8 d) : inF (inF d) = inF d := inF_again _ d (Nat.le_refl _) hg

theorem nAll_mem0 {d x : D} (h : x ∈ d.parts) : nAll x < nAll d := by
  obtain ⟨j, hj⟩ := List.mem_iff_getElem?.1 h
  have := nAll_part hj
  omega
theorem flatMap_perm_map {α β γ : Type} (f : α → List β) (g : α → List γ) (h : γ → β) : ∀ l : List α, (∀ x ∈ l, (f x).Perm ((g x).map h)) → (l.flatMap f).Perm ((l.flatMap g).map h)
  | [], _ => List.Perm.nil
  | x :: t, hx => by
    rw [List.flatMap_cons, List.flatMap_cons, List.map_append]
    exact (hx x (List.mem_cons_self ..)).append (flatMap_perm_map f g h t fun y hy => hx y (List.mem_cons_of_mem _ hy))
theorem ev_of {d : D} (h : frmB d = true) (h21 : d.kind = 21) : d.parts.length % 2 = 0 := by
  unfold frmB at h
  rw [if_neg (by omega), if_neg (by omega), if_pos h21] at h
  have h2 := (Bool.and_eq_true_iff.1 h).2
  unfold entB at h2
  exact of_decide_eq_true (Bool.and_eq_true_iff.1 h2).2
theorem vp_perm {d : D} (hs : GoodN d) (hg : great d.kind = true) : (vp d).Perm d.parts := by
  unfold vp
  by_cases h21 : d.kind = 21
  · rw [if_pos h21]
    have h1 : (flat2 (srt d.parts)).Perm (flat2 (prs2 d.parts)) := (srt_perm d.parts).flatMap_right _
    rw [flat2_prs2 d.parts (ev_of hs.form h21)] at h1
    exact h1
  · rw [if_neg h21, if_pos hg]
theorem pre_in : ∀ (n : Nat) (d : D) (k : Int), nAll d ≤ n → Good8 d → (pre (inF d) k).Perm ((pre d k).map fun p => (inF p.1, p.2))
  | 0, d, k, h, _ => by have := nAll_pos d; omega
  | n + 1, d, k, h, hg => by
    rw [pre_eq (inF d), pre_eq d, inF_kind, List.map_cons]
    refine List.Perm.cons _ ?_
    by_cases hgr : great d.kind = true
    · rw [if_pos hgr, if_pos hgr, inF_parts d (key_of hg.self.form)]
      unfold preAll
      rw [List.flatMap_map]
      refine ((vp_perm hg.self hgr).flatMap_right _).trans ?_
      refine flatMap_perm_map _ _ _ d.parts fun x hx => ?_
      refine pre_in n x (k + 1) ?_ (hg.part hgr hx)
      have := nAll_mem0 hx
      omega
    · rw [if_neg hgr, if_neg hgr]
      exact List.Perm.nil
theorem nodes_inP {d : D} (hg : Good8 d) : (nodes (inF d)).Perm ((nodes d).map inF) := by
  have h := (pre_in _ d 0 (Nat.le_refl _) hg).map (·.1)
  rw [pre_nodes, List.map_map] at h
  rw [← pre_nodes d 0, List.map_map]
  exact h
theorem evB_of {l : List D} (h : ∀ (i : Nat) (a : D), l[2 * i]? = some a → keyB a.kind = true) : evB l l.length = true := by
  unfold evB
  rw [List.all_eq_true]
  intro i hi
  split
  · rename_i x hx
    by_cases h2 : i % 2 = 1
    · simp [h2]
    · rw [h (i / 2) x (by rw [show 2 * (i / 2) = i by omega]; exact hx)]
      simp
  · rfl
theorem frm_in {x : D} (hs : GoodN x) : frmB (inF x) = true := by
  have hf := hs.form
  by_cases k0 : x.kind = 0
  · rw [inF_eq, if_pos k0]
    rfl
  have hp := inF_parts x (key_of hf)
  have e1 : (inF x).ty = x.ty := by rw [inF_eq, if_neg k0]
  have e2 : (inF x).names = if x.kind = 18 then x.names else [] := by rw [inF_eq, if_neg k0]
  unfold frmB at hf ⊢
  rw [inF_kind, if_neg k0, e1]
  rw [if_neg k0] at hf
  obtain ⟨h1, h2⟩ := Bool.and_eq_true_iff.1 hf
  rw [h1, Bool.true_and]
  by_cases h18 : x.kind = 18
  · rw [if_pos h18] at h2 e2 ⊢
    have hv : vp x = x.parts := by unfold vp; rw [if_neg (by omega), if_pos (by simp [great]; omega)]
    unfold fldB at h2 ⊢
    rw [e2, hp, hv, List.length_map]
    exact h2
  rw [if_neg h18] at h2 ⊢
  by_cases h21 : x.kind = 21
  · rw [if_pos h21] at h2 ⊢
    have hv : vp x = flat2 (srt x.parts) := by unfold vp; rw [if_pos h21]
    unfold entB
    rw [hp, hv]
    rw [Bool.and_eq_true_iff]
    constructor
    · refine evB_of fun i a ha => ?_
      rw [List.getElem?_map] at ha
      obtain ⟨b, hb, rfl⟩ := Option.map_eq_some_iff.1 ha
      rw [inF_kind]
      have hl : i < (srt x.parts).length := by
        have := (List.getElem?_eq_some_iff.1 hb).1
        rw [flat2_len] at this
        omega
      have hq : (srt x.parts)[i]? = some (srt x.parts)[i] := List.getElem?_eq_getElem hl
      have := (flat2_get _ i _ hq).1
      rw [hb] at this
      obtain rfl := Option.some.inj this
      exact prs2_key (key_of hs.form h21) ((srt_perm x.parts).subset (List.getElem_mem hl))
    · rw [List.length_map, flat2_len]
      exact decide_eq_true (by omega)
  rw [if_neg h21] at h2 ⊢
  by_cases h22 : x.kind = 22
  · rw [if_pos h22] at h2 ⊢
    have hv : vp x = x.parts := by unfold vp; rw [if_neg (by omega), if_pos (by simp [great]; omega)]
    rw [hp, hv, List.length_map]
    exact h2
  · rw [if_neg h22]
theorem dupL_in : ∀ l : List (D × D), (∀ p ∈ l, rkF (inF p.1) = rkF p.1) → dupL (l.map (Prod.map inF inF)) = dupL l
  | [], _ => rfl
  | p :: t, h => by
    rw [List.map_cons, dupL, dupL, dupL_in t fun q hq => h q (List.mem_cons_of_mem _ hq), List.any_map]
    congr 1
    have hp := h p (List.mem_cons_self ..)
    have : ∀ q ∈ t, ((fun q => decide (cmpP (Prod.map inF inF p) q = 0)) ∘ Prod.map inF inF) q = (fun q => decide (cmpP p q = 0)) q := fun q hq => by
      show decide (cmpR (rkF (inF p.1)) (rkF (inF q.1)) = 0) = decide (cmpR (rkF p.1) (rkF q.1) = 0)
      rw [hp, h q (List.mem_cons_of_mem _ hq)]
    rw [Bool.eq_iff_iff, List.any_eq_true, List.any_eq_true]
    constructor
    · rintro ⟨q, hq, e⟩
      exact ⟨q, hq, (this q hq).symm.trans e⟩
    · rintro ⟨q, hq, e⟩
      exact ⟨q, hq, (this q hq).trans e⟩
theorem dup1_in {x : D} (hs : GoodN x) : dup1 (inF x) = dup1 x := by
  unfold dup1
  rw [inF_kind]
  by_cases h18 : x.kind = 18
  · have e2 : (inF x).names = x.names := by rw [inF_eq, if_neg (by omega)]; exact if_pos h18
    rw [e2, decide_eq_false (show ¬ x.kind = 21 by omega)]
    simp
  rw [decide_eq_false h18]
  by_cases h21 : x.kind = 21
  · have e3 : (inF x).parts = flat2 (srt (x.parts.map inF)) := by rw [inF_eq, if_neg (by omega)]; exact if_pos h21
    have : dupM (inF x).parts = dupM x.parts := by
      unfold dupM
      rw [e3, prs2_flat2, dupL_perm (srt_perm _), prs2_map]
      exact dupL_in _ fun p hp => rkF_in _ (prs2_key (key_of hs.form h21) hp)
    rw [this]
    simp
  · rw [decide_eq_false h21]
    simp
/-- What is in form is built. -/
theorem berr_in {d : D} (hg : Good8 d) (h0 : bErr d = 0) : bErr (inF d) = 0 := by
  obtain ⟨h1, h2⟩ := (bErr_zero d).1 h0
  have hok := ok_of h1
  have hp := pre_in _ d 0 (Nat.le_refl _) hg
  have hn := nodes_inP hg
  have mem : ∀ y ∈ nodes (inF d), ∃ x ∈ nodes d, inF x = y := fun y hy => List.mem_map.1 (hn.subset hy)
  refine (bErr_zero _).2 ⟨OkD.zero ⟨?_, ?_, ?_, ?_, ?_⟩, ?_⟩
  · rw [hn.length_eq, List.length_map]; exact hok.few
  · intro y hy
    obtain ⟨x, hx, rfl⟩ := mem y hy
    have hf := hok.fits x hx
    unfold fitsB at hf ⊢
    rw [inF_kind]
    by_cases k : x.kind ≠ 16 ∧ x.kind ≠ 17
    · simp [k.1, k.2]
    · have e : (inF x).text = x.text := by
        rw [inF_eq, if_neg (by omega)]
        show inText x.kind x.text = x.text
        unfold inText
        rw [if_pos (by omega)]
      rw [e]; exact hf
  · intro p hp1
    obtain ⟨q, hq, rfl⟩ := List.mem_map.1 (hp.subset hp1)
    exact hok.deep q hq
  · intro y hy
    obtain ⟨x, hx, rfl⟩ := mem y hy
    rw [inF_kind]; exact hok.kind x hx
  · intro y hy
    obtain ⟨x, hx, rfl⟩ := mem y hy
    exact frm_in (hg x hx)
  · unfold dupA at h2 ⊢
    rw [List.any_eq_false] at h2 ⊢
    intro y hy
    obtain ⟨x, hx, rfl⟩ := mem y hy
    rw [dup1_in (hg x hx)]
    exact h2 x hx

theorem FlatD.great {d : D} (h : FlatD d) : great d.kind = false := by
  have := h.hi
  simp [Go.Proofs.YtjphklhfigammaaDoor.great]; omega
theorem FlatD.pre {d : D} (h : FlatD d) (k : Int) : pre d k = [(d, k)] := by
  rw [pre_eq, h.great]; rfl
theorem FlatD.nodes {d : D} (h : FlatD d) : nodes d = [d] := by
  rw [nodes_eq, h.great]; rfl
theorem typed_nil : typedB ⟨#[]⟩ = true := by kernel_rfl
theorem FlatD.form {d : D} (h : FlatD d) : frmB d = true := by
  have h1 := h.lo
  have h2 := h.hi
  unfold frmB
  rw [if_neg (by omega), h.ty, typed_nil, if_neg (by omega), if_neg (by omega), if_neg (by omega)]
  rfl
theorem FlatD.good {d : D} (h : FlatD d) : Good8 d := by
  intro y hy
  rw [h.nodes] at hy
  obtain rfl := List.mem_singleton.1 hy
  have h1 := h.lo
  have h2 := h.hi
  exact ⟨h.fit, by omega, by omega, h.form, fun hg => by rw [h.great] at hg; cases hg⟩
theorem FlatD.err {d : D} (h : FlatD d) (hf : fitsB d = true) : bErr d = 0 := by
  have h1 := h.lo
  have h2 := h.hi
  refine (bErr_zero d).2 ⟨OkD.zero ⟨?_, ?_, ?_, ?_, ?_⟩, ?_⟩
  · rw [h.nodes]; simp
  · intro y hy; rw [h.nodes] at hy; obtain rfl := List.mem_singleton.1 hy; exact hf
  · intro p hp; rw [h.pre] at hp; obtain rfl := List.mem_singleton.1 hp; show (0 : Int) ≤ 7; decide
  · intro y hy; rw [h.nodes] at hy; obtain rfl := List.mem_singleton.1 hy; omega
  · intro y hy; rw [h.nodes] at hy; obtain rfl := List.mem_singleton.1 hy; exact h.form
  · unfold dupA
    rw [h.nodes]
    simp [dup1]
    omega
theorem flatAll {es : List (D × D)} (h : ∀ p ∈ es, EOk p) : ∀ x ∈ flat2 es, FlatD x := fun x hx => by
  obtain ⟨p, hp, rfl | rfl⟩ := flat2_mem hx
  · exact (h p hp).k
  · exact (h p hp).u
theorem pre_flats : ∀ (l : List D), (∀ x ∈ l, FlatD x) → ∀ k, preAll l k = l.map fun x => (x, k)
  | [], _, _ => rfl
  | x :: t, h, k => by
    have e := pre_flats t (fun y hy => h y (List.mem_cons_of_mem _ hy)) k
    unfold preAll at e ⊢
    rw [List.flatMap_cons, (h x (List.mem_cons_self ..)).pre, e]
    rfl
theorem nodes_flats : ∀ (l : List D), (∀ x ∈ l, FlatD x) → l.flatMap nodes = l
  | [], _ => rfl
  | x :: t, h => by
    rw [List.flatMap_cons, (h x (List.mem_cons_self ..)).nodes, nodes_flats t fun y hy => h y (List.mem_cons_of_mem _ hy)]
    rfl
theorem key_flat {es : List (D × D)} (h : ∀ p ∈ es, EOk p) (i : Nat) (a : D) (ha : (flat2 es)[2 * i]? = some a) : keyB a.kind = true := by
  have hl : i < es.length := by
    have := (List.getElem?_eq_some_iff.1 ha).1
    rw [flat2_len] at this
    omega
  have := (flat2_get es i _ (List.getElem?_eq_getElem hl)).1
  rw [ha] at this
  obtain rfl := Option.some.inj this
  exact (h _ (List.getElem_mem hl)).key
theorem map_form {es : List (D × D)} (h : ∀ p ∈ es, EOk p) : frmB (mapD (flat2 es)) = true := by
  show (typedB ⟨#[]⟩ && entB (mapD (flat2 es))) = true
  rw [typed_nil, Bool.true_and]
  unfold entB
  rw [Bool.and_eq_true_iff]
  exact ⟨evB_of fun i a ha => key_flat h i a ha, by show decide ((flat2 es).length % 2 = 0) = true; rw [flat2_len]; exact decide_eq_true (by omega)⟩
theorem map_pre {es : List (D × D)} (h : ∀ p ∈ es, EOk p) : pre (mapD (flat2 es)) 0 = (mapD (flat2 es), 0) :: (flat2 es).map fun x => (x, 1) := by
  rw [pre_eq, if_pos (show great (mapD (flat2 es)).kind = true from rfl)]
  show _ :: preAll (flat2 es) (0 + 1) = _
  rw [pre_flats _ (flatAll h)]
  rfl
theorem map_nodes {es : List (D × D)} (h : ∀ p ∈ es, EOk p) : nodes (mapD (flat2 es)) = mapD (flat2 es) :: flat2 es := by
  rw [nodes_eq, if_pos (show great (mapD (flat2 es)).kind = true from rfl)]
  show _ :: (flat2 es).flatMap nodes = _
  rw [nodes_flats _ (flatAll h)]
theorem map_chk {es : List (D × D)} (h : ∀ p ∈ es, EOk p) (hl : es.length ≤ 12) : chk0 (mapD (flat2 es)) = if ∃ p ∈ es, fitsB p.1 = false then 2 else 0 := by
  rw [chk0_eq, map_pre h]
  have hlen : ¬ 64 < ((mapD (flat2 es), (0 : Int)) :: (flat2 es).map fun x => (x, (1 : Int))).length := by
    rw [List.length_cons, List.length_map, flat2_len]; omega
  have mem : ∀ p ∈ ((mapD (flat2 es), (0 : Int)) :: (flat2 es).map fun x => (x, (1 : Int))), (p.1 = mapD (flat2 es) ∨ FlatD p.1) ∧ 0 ≤ p.2 ∧ p.2 ≤ 1 := by
    intro p hp
    rcases List.mem_cons.1 hp with rfl | hp
    · exact ⟨.inl rfl, Int.le_refl 0, (by decide : (0 : Int) ≤ 1)⟩
    · obtain ⟨x, hx, rfl⟩ := List.mem_map.1 hp
      exact ⟨.inr (flatAll h x hx), (by decide : (0 : Int) ≤ 1), Int.le_refl 1⟩
  have e1 : (∃ p ∈ ((mapD (flat2 es), (0 : Int)) :: (flat2 es).map fun x => (x, (1 : Int))), fitsB p.1 = false) ↔ ∃ p ∈ es, fitsB p.1 = false := by
    constructor
    · rintro ⟨p, hp, hf⟩
      rcases List.mem_cons.1 hp with rfl | hp
      · cases hf
      · obtain ⟨x, hx, rfl⟩ := List.mem_map.1 hp
        obtain ⟨q, hq, rfl | rfl⟩ := flat2_mem hx
        · exact ⟨q, hq, hf⟩
        · have := (h q hq).num
          unfold fitsB at hf
          rw [this] at hf
          cases hf
    · rintro ⟨p, hp, hf⟩
      exact ⟨(p.1, 1), List.mem_cons_of_mem _ (List.mem_map.2 ⟨p.1, List.mem_flatMap.2 ⟨p, hp, by simp⟩, rfl⟩), hf⟩
  by_cases hb : ∃ p ∈ es, fitsB p.1 = false
  · rw [if_pos (.inr (e1.2 hb)), if_pos hb]
  · rw [if_neg (fun hh => hh.elim hlen fun q => hb (e1.1 q)), if_neg hb, if_neg, if_neg, if_neg]
    · rintro ⟨p, hp, hf⟩
      rcases (mem p hp).1 with e | e
      · rw [e, map_form h] at hf; cases hf
      · rw [e.form] at hf; cases hf
    · rintro ⟨p, hp, hf⟩
      rcases (mem p hp).1 with e | e
      · exact hf (by rw [e]; exact ⟨(by decide : (0 : Int) ≤ 21), (by decide : (21 : Int) ≤ 22)⟩)
      · have := e.lo; have := e.hi; omega
    · rintro ⟨p, hp, hf⟩
      have := (mem p hp).2; omega
theorem map_dup {es : List (D × D)} (h : ∀ p ∈ es, EOk p) : dupA (mapD (flat2 es)) = dupL es := by
  unfold dupA
  rw [map_nodes h, List.any_cons]
  have e1 : dup1 (mapD (flat2 es)) = dupL es := by
    show (false || (true && dupL (prs2 (flat2 es)))) = dupL es
    rw [prs2_flat2]; simp
  have e2 : (flat2 es).any dup1 = false := by
    rw [List.any_eq_false]
    intro x hx
    have hf := flatAll h x hx
    have := hf.lo
    have := hf.hi
    unfold dup1
    rw [decide_eq_false (by omega), decide_eq_false (by omega)]
    simp
  rw [e1, e2, Bool.or_false]
theorem map_err {es : List (D × D)} (h : ∀ p ∈ es, EOk p) (hl : es.length ≤ 12) : bErr (mapD (flat2 es)) = if ∃ p ∈ es, fitsB p.1 = false then 2 else if dupL es = true then 5 else 0 := by
  unfold bErr
  rw [map_chk h hl, map_dup h]
  by_cases hb : ∃ p ∈ es, fitsB p.1 = false
  · rw [if_pos hb, if_neg (by decide), if_pos hb]
  · rw [if_neg hb, if_pos rfl, if_neg hb]
theorem rev_ok {es : List (D × D)} (h : ∀ p ∈ es, EOk p) : ∀ p ∈ es.reverse, EOk p := fun p hp => h p (List.mem_reverse.1 hp)
theorem map_err_rev {es : List (D × D)} (h : ∀ p ∈ es, EOk p) (hl : es.length ≤ 12) : bErr (mapD (flat2 es.reverse)) = bErr (mapD (flat2 es)) := by
  rw [map_err h hl, map_err (rev_ok h) (by rw [List.length_reverse]; exact hl), dupL_perm (List.reverse_perm es)]
  simp only [List.mem_reverse]
theorem map_err_of {es : List (D × D)} (h : ∀ p ∈ es, EOk p) (hl : es.length ≤ 12) (h0 : bErr (mapD (flat2 es)) ≠ 0) : bErr (mapD (flat2 es)) = 5 ∨ bErr (mapD (flat2 es)) = 2 := by
  rw [map_err h hl] at h0 ⊢
  split
  · exact .inr rfl
  · split
    · exact .inl rfl
    · rename_i h1 h2
      rw [if_neg h1, if_neg h2] at h0
      exact absurd rfl h0
theorem map_zero {es : List (D × D)} (h : ∀ p ∈ es, EOk p) (hl : es.length ≤ 12) (h0 : bErr (mapD (flat2 es)) = 0) : (∀ p ∈ es, fitsB p.1 = true) ∧ dupL es = false := by
  rw [map_err h hl] at h0
  split at h0
  · omega
  · rename_i h1
    split at h0
    · omega
    · rename_i h2
      refine ⟨fun p hp => ?_, by simpa using h2⟩
      cases hf : fitsB p.1 with
      | true => rfl
      | false => exact absurd ⟨p, hp, hf⟩ h1
theorem map_good {es : List (D × D)} (h : ∀ p ∈ es, EOk p) (hl : es.length ≤ 12) : Good8 (mapD (flat2 es)) := by
  intro y hy
  rw [map_nodes h] at hy
  rcases List.mem_cons.1 hy with rfl | hy
  · refine ⟨⟨⟨(by decide : (-9223372036854775808 : Int) ≤ 21), (by decide : (21 : Int) ≤ 9223372036854775807)⟩, ⟨Int.le_refl 0, (by decide : (0 : Int) ≤ 18446744073709551615)⟩, ⟨Int.le_refl 0, (by decide : (0 : Int) ≤ 18446744073709551615)⟩, ⟨(by decide : (-9223372036854775808 : Int) ≤ 0), (by decide : (0 : Int) ≤ 9223372036854775807)⟩, Nat.zero_le _, Nat.zero_le _⟩, (by decide : (0 : Int) ≤ 21), (by decide : (21 : Int) ≤ 22), map_form h, fun _ => ?_⟩
    show (flat2 es).length ≤ 1000
    rw [flat2_len]; omega
  · exact (flatAll h y hy).good y (nodes_self y)
theorem map_srt {es : List (D × D)} (hd : dupL es = false) : srt (flat2 es.reverse) = srt (flat2 es) := by
  refine (srt_one ?_ (srt_sorted _) ?_).symm
  · rw [prs2_flat2]
    exact ((srt_perm (flat2 es)).trans (by rw [prs2_flat2])).trans (List.reverse_perm es).symm
  · unfold dupM
    rw [prs2_flat2, dupL_perm (List.reverse_perm es)]
    exact hd
theorem map_inF {es : List (D × D)} (h : ∀ p ∈ es, EOk p) (hd : dupL es = false) : inF (mapD (flat2 es.reverse)) = inF (mapD (flat2 es)) := by
  have k1 : KeyD (mapD (flat2 es)) := fun _ => key_flat h
  have k2 : KeyD (mapD (flat2 es.reverse)) := fun _ => key_flat (rev_ok h)
  have p1 := inF_parts _ k1
  have p2 := inF_parts _ k2
  have e : vp (mapD (flat2 es.reverse)) = vp (mapD (flat2 es)) := by
    unfold vp
    rw [if_pos (show (mapD (flat2 es.reverse)).kind = 21 from rfl), if_pos (show (mapD (flat2 es)).kind = 21 from rfl)]
    show flat2 (srt (flat2 es.reverse)) = flat2 (srt (flat2 es))
    rw [map_srt hd]
  rw [e, ← p1] at p2
  rw [inF_eq (mapD (flat2 es.reverse)), inF_eq (mapD (flat2 es))] at p2 ⊢
  rw [if_neg (show ¬ (mapD (flat2 es.reverse)).kind = 0 from (by decide : ¬ (21 : Int) = 0)), if_neg (show ¬ (mapD (flat2 es)).kind = 0 from (by decide : ¬ (21 : Int) = 0))] at p2 ⊢
  simp only at p2
  simp only [p2]
  rfl
/-- What is told of the entries in form: as many, by rising keys. -/
theorem map_rise {es : List (D × D)} (h : ∀ p ∈ es, EOk p) (hl : es.length ≤ 12) (h0 : bErr (mapD (flat2 es)) = 0) :
    (inF (mapD (flat2 es))).parts.length = 2 * es.length ∧ ∀ (j : Nat) (a b : D), (inF (mapD (flat2 es))).parts[2 * j]? = some a → (inF (mapD (flat2 es))).parts[2 * j + 2]? = some b →
      ∃ k l, FlatD k ∧ FlatD l ∧ a = inF k ∧ b = inF l ∧ bErr k = 0 ∧ bErr l = 0 ∧ keyB k.kind = true ∧ keyB l.kind = true ∧ cmpR (rkF k) (rkF l) < 0 := by
  obtain ⟨hf, hd⟩ := map_zero h hl h0
  have p1 := inF_parts (mapD (flat2 es)) fun _ => key_flat h
  have e : vp (mapD (flat2 es)) = flat2 (srt (flat2 es)) := by
    unfold vp
    rw [if_pos (show (mapD (flat2 es)).kind = 21 from rfl)]
    rfl
  rw [e] at p1
  have hperm : (srt (flat2 es)).Perm es := (srt_perm (flat2 es)).trans (by rw [prs2_flat2])
  have hstr := strict_of (srt_sorted (flat2 es)) (by rw [dupL_perm hperm]; exact hd)
  rw [p1, List.length_map, flat2_len, hperm.length_eq]
  refine ⟨rfl, fun j a b ha hb => ?_⟩
  rw [List.getElem?_map, Option.map_eq_some_iff] at ha hb
  obtain ⟨k, hk, rfl⟩ := ha
  obtain ⟨l, hl2, rfl⟩ := hb
  have hj : j + 1 < (srt (flat2 es)).length := by
    have := (List.getElem?_eq_some_iff.1 hl2).1
    rw [flat2_len] at this
    omega
  have q1 := (flat2_get _ j _ (List.getElem?_eq_getElem (show j < (srt (flat2 es)).length by omega))).1
  have q2 := (flat2_get _ (j + 1) _ (List.getElem?_eq_getElem hj)).1
  rw [hk] at q1
  rw [show 2 * (j + 1) = 2 * j + 2 by omega, hl2] at q2
  obtain rfl := Option.some.inj q1
  obtain rfl := Option.some.inj q2
  have m1 : (srt (flat2 es))[j] ∈ es := hperm.subset (List.getElem_mem _)
  have m2 : (srt (flat2 es))[j + 1] ∈ es := hperm.subset (List.getElem_mem _)
  exact ⟨_, _, (h _ m1).k, (h _ m2).k, rfl, rfl, (h _ m1).k.err (hf _ m1), (h _ m2).k.err (hf _ m2), (h _ m1).key, (h _ m2).key, List.pairwise_iff_getElem.1 hstr j (j + 1) (by omega) hj (by omega)⟩

def rkA (d : D) : Rk := if keyB d.kind = true then rkF d else ⟨d.kind, 0, ⟨#[]⟩, ⟨#[]⟩⟩
theorem keyB_le {k : Int} (h : keyB k = true) : 1 ≤ k ∧ k ≤ 16 := by
  simp [keyB] at h
  omega
theorem cmpR_k (x y : Rk) (h : x.k ≠ y.k) : cmpR x y = if x.k < y.k then -1 else 1 := by
  unfold cmpR or4 cmpI
  by_cases h1 : x.k < y.k
  · simp [h1]
  · have h2 : y.k < x.k := by omega
    simp [h1, h2]
theorem cmpR_same (x : Rk) : cmpR x x = 0 := by
  unfold cmpR or4
  simp [cmpI_same, cmpS_same]
theorem rkA_k (d : D) : (rkA d).k = d.kind := by
  unfold rkA
  split
  · exact rkF_k d
  · rfl
theorem rkA_cmp (a b : D) : dcmp (inF a) (inF b) = cmpR (rkA a) (rkA b) := by
  by_cases hk : a.kind = b.kind
  · by_cases ha : keyB a.kind = true
    · have hb : keyB b.kind = true := hk ▸ ha
      have h1 := keyB_le ha
      have h2 := keyB_le hb
      rw [inF_flat a (by omega), inF_flat b (by omega), rkF_cmp a b ha hb]
      unfold rkA
      rw [if_pos ha, if_pos hb]
    · have hb : ¬ keyB b.kind = true := hk ▸ ha
      unfold rkA dcmp
      rw [if_neg ha, if_neg hb, inF_kind, inF_kind, if_neg (by simpa using hk), if_neg ha, hk, cmpR_same]
  · rw [cmpR_k _ _ (by rw [rkA_k, rkA_k]; exact hk), rkA_k, rkA_k]
    unfold dcmp
    rw [inF_kind, inF_kind, if_pos hk]
theorem rank_any (n : Nat) (S : Nat → Prop) (W : World) (v : Value) (d : D) (hl : 0 ≤ d.kind) (hv : VlC srt n S W v d) : RkC v (rkA d) := by
  match n, hv with
  | n + 1, hv =>
    unfold VlC at hv
    unfold rkA
    by_cases k17 : d.kind ≤ 17
    · rw [if_pos k17] at hv
      rw [hv]
      by_cases ha : keyB d.kind = true
      · rw [if_pos ha]
        exact fun W => (rkF_ok d ha W).mono fun e w' h => ⟨h.1, h.2.1⟩
      · rw [if_neg ha]
        have hn : ¬ d.kind = 1 ∧ ¬ (2 ≤ d.kind ∧ d.kind ≤ 6) ∧ ¬ (7 ≤ d.kind ∧ d.kind ≤ 11) ∧ ¬ d.kind = 16 := by
          simp [keyB] at ha
          omega
        obtain ⟨n1, n2, n3, n4⟩ := hn
        unfold mdV
        rw [if_neg n1, if_neg n2, if_neg n3]
        by_cases k12 : d.kind = 12
        · rw [if_pos k12]; exact rankof_float _ _ _ _
        rw [if_neg k12]
        by_cases k13 : d.kind = 13
        · rw [if_pos k13]; exact rankof_float _ _ _ _
        rw [if_neg k13]
        by_cases k14 : d.kind = 14
        · rw [if_pos k14]; exact rankof_pair _ _ _ _ _
        rw [if_neg k14]
        by_cases k15 : d.kind = 15
        · rw [if_pos k15]; exact rankof_pair _ _ _ _ _
        rw [if_neg k15, if_neg n4]
        by_cases k17 : d.kind = 17
        · rw [if_pos k17]; exact rankof_octets _ _ _ _
        rw [if_neg k17]
        have k0 : d.kind = 0 := by omega
        rw [k0]
        exact rankof_nothing _ _ _
    · have ha : ¬ keyB d.kind = true := fun h => by have := keyB_le h; omega
      rw [if_neg k17] at hv
      rw [if_neg ha]
      by_cases k18 : d.kind = 18
      · rw [if_pos k18] at hv
        obtain ⟨na, nc, fa, fc, rfl, _⟩ := hv
        exact rankof_structure _ _ _ _ _ _ _ _ _
      rw [if_neg k18] at hv
      by_cases k21 : d.kind = 21
      · rw [if_pos k21] at hv
        obtain ⟨fa, fc, rfl, _⟩ := hv
        exact rankof_dictionary _ _ _ _ _ _
      rw [if_neg k21] at hv
      by_cases k22 : d.kind = 22
      · rw [if_pos k22] at hv
        obtain ⟨fa, fc, rfl, _⟩ := hv
        exact rankof_pointer _ _ _ _ _ _ _
      rw [if_neg k22] at hv
      obtain ⟨fa, fc, rfl, _⟩ := hv
      exact rankof_list _ _ _ _ _ _

theorem two_len (es : List (D × D)) : (es.flatMap fun p => [p.1, p.2]).length = 2 * es.length := by
  induction es with
  | nil => rfl
  | cons p t ih => rw [List.flatMap_cons, List.length_append, ih, List.length_cons]; simp; omega
theorem rd_flat {W : World} {d : D} (h : FlatD d) : RdC 1 W (.slice none 0 0) (.slice none 0 0) d := by
  refine ⟨h.fit, ⟨none, 0, by rw [h.names]; rfl, by rw [h.names]; exact Nat.le_refl _, by decide, fun i s hs => ?_⟩, none, 0, by rw [h.parts]; rfl, by rw [h.parts]; exact Nat.le_refl _, by decide, fun i x hx => ?_⟩
  · rw [h.names] at hs; simp at hs
  · rw [h.parts] at hx; simp at hx
theorem rd_map {B : Nat} {W : World} {v : Value} {l : List D} (h : RowF B W v l) (hf : ∀ x ∈ l, FlatD x) : RdC 2 W (.slice none 0 0) v (mapD l) := by
  obtain ⟨a, c, e, h1, h2⟩ := h.slice
  subst e
  refine ⟨⟨⟨by show (-9223372036854775808 : Int) ≤ 21; decide, by show (21 : Int) ≤ 9223372036854775807; decide⟩, ⟨by show (0 : Int) ≤ 0; decide, by show (0 : Int) ≤ 18446744073709551615; decide⟩, ⟨by show (0 : Int) ≤ 0; decide, by show (0 : Int) ≤ 18446744073709551615; decide⟩, ⟨by show (-9223372036854775808 : Int) ≤ 0; decide, by show (0 : Int) ≤ 9223372036854775807; decide⟩, Nat.zero_le _, Nat.zero_le _⟩, ⟨none, 0, rfl, Nat.le_refl _, by decide, fun i s hs => by simp [mapD] at hs⟩, a, c, rfl, h1, h2, fun i x hx => ?_⟩
  obtain ⟨a', c', b, off, e1, e2, hA⟩ := h.reads i x hx
  obtain ⟨rfl, -, -⟩ := Value.slice.inj e1
  exact ⟨b, off, _, _, e2, hA, rd_flat (hf x (List.mem_of_getElem? hx))⟩
theorem build_key {k : D} (hf : FlatD k) (h0 : bErr k = 0) (hk : keyB k.kind = true) {n : Nat} {W : World} {nv pv : Value} (hr : RdC n W nv pv (inF k)) (hn : n ≤ 1000) :
    Calls Tryd.prog 10 #[DV (inF k) nv pv] W fun e w' => Below W.heap.size W w' ∧ ∃ t x, e = .returned (.tuple #[.iface t x, .int .i64 0]) ∧ RkC (.iface t x) (rkF k) := by
  have hb := berr_in hf.good h0
  refine (buildA n (inF k) nv pv W hr hn).mono ?_
  rintro e w' ⟨h1, (⟨-, t, x, rfl, hv⟩ | ⟨h2, -⟩)⟩
  · refine ⟨h1, t, x, rfl, ?_⟩
    have := rank_any _ _ _ _ _ (by rw [inF_kind]; have := hf.lo; omega) hv
    rwa [show rkA (inF k) = rkF k by unfold rkA; rw [inF_kind, if_pos hk, rkF_in k hk]] at this
  · exact absurd hb h2
theorem cmpR_neg {x y : Rk} (h : cmpR x y < 0) : cmpR x y = -1 := by
  have h1 : ∀ a b, cmpI a b = -1 ∨ cmpI a b = 0 ∨ cmpI a b = 1 := fun a b => by unfold cmpI; (repeat' split) <;> simp
  have h2 : ∀ a b, cmpS a b = -1 ∨ cmpS a b = 0 ∨ cmpS a b = 1 := fun a b => by unfold cmpS; (repeat' split) <;> simp
  have h3 : cmpR x y = -1 ∨ cmpR x y = 0 ∨ cmpR x y = 1 := by
    unfold cmpR or4
    (repeat' split)
    · exact h1 _ _
    · exact h1 _ _
    · exact h2 _ _
    · exact h2 _ _
  omega
set_option maxRecDepth 1000000 in
set_option maxHeartbeats 16000000 in
theorem maps_walk0 (ls : List D) (la : Option Addr) (lc : Nat) (w : World) (hK : KN w) (hll : ls.length ≤ maxLen)
    (hcell : ∀ (i : Nat) (x : D), ls[i]? = some x → ∃ b off nv pv, la = some ⟨b, off, none⟩ ∧ At8 w b (off + i * 8) x nv pv ∧ Fit x) :
    Calls Tryd.prog 5 #[.slice la ls.length lc] w fun e w' => e = .returned (.bool true) ∧ Below w.heap.size w w' := by
  obtain ⟨W1, hW1⟩ : ∃ W1, W1 = (w.alloc (.cells #[.int .i64 21, .string ⟨#[]⟩, .int .u64 0, .int .u64 0, .string ⟨#[]⟩, .slice none 0 0, .slice none 0 0, .int .i64 0] 26)).alloc (.cells #[.int .i64 21, .string ⟨#[]⟩, .int .u64 0, .int .u64 0, .string ⟨#[]⟩, .slice none 0 0, .slice none 0 0, .int .i64 0] 26) := ⟨_, rfl⟩
  unfold maxLen at hll
  go_enter Tryd.func5, Tryd.ntmps5
  go_upto_region 3 with fail
  rw [← hW1]
  have m1 : MP w w.heap.size (w.heap.size + 1) [] [] (.slice none 0 0) (.slice none 0 0) W1 := by
    have e1 : (w.alloc (.cells #[.int .i64 21, .string ⟨#[]⟩, .int .u64 0, .int .u64 0, .string ⟨#[]⟩, .slice none 0 0, .slice none 0 0, .int .i64 0] 26)).heap.size = w.heap.size + 1 := by simp
    refine ⟨?_, ?_, ?_, fun i => ?_, fun i => ?_, RowF.nil _ _, RowF.nil _ _, fun g hg => (by cases hg), rfl, rfl⟩
    · rw [hW1]; exact ((Below.refl _ _).alloc (Nat.le_refl _) _).alloc (by simp) _
    · rw [hW1]
      refine ⟨?_, ?_, ?_, ?_, ?_, ?_, ?_, ?_⟩
      all_goals simp [go_sem, mapD]
    · rw [hW1]
      refine ⟨?_, ?_, ?_, ?_, ?_, ?_, ?_, ?_⟩
      all_goals simp [go_sem, mapD]
    · rw [hW1, frozen?_alloc_cells, frozen?_alloc_cells]; exact frozen_none _ _ (Nat.le_refl _)
    · rw [hW1, frozen?_alloc_cells, ← e1]; exact frozen_none _ _ (Nat.le_refl _)
  clear hW1
  obtain ⟨X, hX⟩ : ∃ X, w.heap.size = X := ⟨_, rfl⟩
  obtain ⟨Y, hY⟩ : ∃ Y, w.heap.size + 1 = Y := ⟨_, rfl⟩
  rw [hY] at m1
  simp only [hY]
  have m1' : MP w X Y [] [] (.slice none 0 0) (.slice none 0 0) W1 := by rw [← hX]; exact m1
  simp only [hX]
  clear hX hY m1
  go_loopg [5, 6, 7] 12 (fun g iv z6 z7 wr => ∃ (j : Nat) (es : List (D × D)) (p1 p2 : Value), iv = .int .i64 (j : Nat) ∧ j + g = 12 ∧ Hid (es.length = j) ∧ Hid (∀ p ∈ es, EOk p) ∧ MP w X Y (es.flatMap fun p => [p.1, p.2]) (es.reverse.flatMap fun p => [p.1, p.2]) p1 p2 wr)
  case atStart => exact ⟨0, [], _, _, rfl, rfl, rfl, (fun p hp => by cases hp), m1'⟩
  case round =>
    obtain ⟨j, es, p1, p2, rfl, hjg, hlen, hes, hM⟩ := hrel
    clear m1'
    by_cases hlt : j < ls.length ∧ j < 12
    · have h1 : (j : Int) < ls.length := by omega
      have h2 : (j : Int) < 12 := by omega
      obtain ⟨x, hx⟩ : ∃ x, ls[j]? = some x := ⟨_, List.getElem?_eq_getElem hlt.1⟩
      obtain ⟨b, off, nvx, pvx, rfl, ax, hfx⟩ := hcell j x hx
      obtain ⟨-, c1, c2, -⟩ := ax.up hM.b
      have hbw : b < wr.heap.size := lt_of_cell c1
      clear hcell hx ax hK
      obtain ⟨kx, tx, bx, ix, sx, nx, px, ox⟩ := x
      simp only at c1 c2 hfx
      have hpar : j % 2 = 1 ∨ j % 2 = 0 := by omega
      rcases hpar with hpar | hpar
      · skip
        have hp1 : ((j : Int) % 2) = 1 := by omega
        have hE : EOk ((⟨6, ⟨#[]⟩, bx, 0, ⟨#[]⟩, [], [], 0⟩ : D), (⟨11, ⟨#[]⟩, (j : Int), 0, ⟨#[]⟩, [], [], 0⟩ : D)) := eok_b bx j hfx.2.1 ⟨by omega, by omega⟩
        obtain ⟨W2, hW2⟩ : ∃ W2, W2 = (wr.alloc (.cells #[.int .i64 6, .string ⟨#[]⟩, .int .u64 bx, .int .u64 0, .string ⟨#[]⟩, .slice none 0 0, .slice none 0 0, .int .i64 0] 26)).alloc (.cells #[.int .i64 11, .string ⟨#[]⟩, .int .u64 (j : Int), .int .u64 0, .string ⟨#[]⟩, .slice none 0 0, .slice none 0 0, .int .i64 0] 26) := ⟨_, rfl⟩
        have b2 : Below wr.heap.size wr W2 := by rw [hW2]; exact ((Below.refl _ _).alloc (Nat.le_refl _) _).alloc (by simp) _
        have ak : At8 W2 wr.heap.size 0 (⟨6, ⟨#[]⟩, bx, 0, ⟨#[]⟩, [], [], 0⟩ : D) (.slice none 0 0) (.slice none 0 0) := by
          rw [hW2]
          refine ⟨?_, ?_, ?_, ?_, ?_, ?_, ?_, ?_⟩
          all_goals simp [go_sem]
        have au : At8 W2 (wr.heap.size + 1) 0 (⟨11, ⟨#[]⟩, (j : Int), 0, ⟨#[]⟩, [], [], 0⟩ : D) (.slice none 0 0) (.slice none 0 0) := by
          rw [hW2]
          refine ⟨?_, ?_, ?_, ?_, ?_, ?_, ?_, ?_⟩
          all_goals simp [go_sem]
        go_upto_region 9 with fail
        rw [← hW2]
        clear hW2 c1 c2 hfx hp1
        have hM2 := hM.up b2
        obtain ⟨K, hKK⟩ : ∃ K, wr.heap.size = K := ⟨_, rfl⟩
        have hK1 : K < W2.heap.size := by rw [← hKK]; exact lt_of_cell ak.1
        have hK2 : K + 1 < W2.heap.size := by rw [← hKK]; exact lt_of_cell au.1
        have hfar : ∀ g, p1.ownBlock = some g → g < K := fun g hg => by rw [← hKK]; exact (hM.r1.block g hg).2
        have hbig : w.heap.size + 2 ≤ K := by rw [← hKK]; exact hM.lt
        rw [hKK] at ak au
        try simp only [hKK]
        clear hKK b2 hM hbw
        generalize hk : (⟨6, ⟨#[]⟩, bx, 0, ⟨#[]⟩, [], [], 0⟩ : D) = k at ak hE
        generalize hu : (⟨11, ⟨#[]⟩, (j : Int), 0, ⟨#[]⟩, [], [], 0⟩ : D) = u at au hE
        clear hk hu
        obtain ⟨a1, q1, e1, -⟩ := hM2.r1.slice
        obtain ⟨a2, q2, e2, -⟩ := hM2.r2.slice
        subst e1 e2
        have hlA : (es.flatMap fun p => [p.1, p.2]).length ≤ 24 := by rw [two_len, hlen.out]; omega
        have hlB : (es.reverse.flatMap fun p => [p.1, p.2]).length ≤ 24 := by rw [two_len, List.length_reverse, hlen.out]; omega
        generalize hL1 : (es.flatMap fun p => [p.1, p.2]) = L1 at *
        generalize hL2 : (es.reverse.flatMap fun p => [p.1, p.2]) = L2 at *
        have HL1 : Hid ((es.flatMap fun p => [p.1, p.2]) = L1) := hL1
        have HL2 : Hid ((es.reverse.flatMap fun p => [p.1, p.2]) = L2) := hL2
        clear hL1 hL2
        obtain ⟨k0, k1, k2, k3, k4, k5, k6, k7⟩ := id ak
        obtain ⟨u0, u1, u2, u3, u4, u5, u6, u7⟩ := id au
        have x6 := hM2.x.2.2.2.2.2.2.1
        simp only [Nat.zero_add] at k0 k1 k2 k3 k4 k5 k6 k7 u0 u1 u2 u3 u4 u5 u6 u7 x6
        go_upto_region 10 with (at_builtin; refine wpl_appF (W0 := W2) rfl _ _ rfl hM2.r1 k u rfl rfl rfl (by omega) (by omega) ?_; rintro v' w6 ⟨ao, c', rfl⟩ hR hg hat; have hM3 := hM2.app1 hR hg hat; have y6 := (hM2.x.far hg (fun e => by have := (hM2.r1.block X e.symm).1; have := hM2.ex; omega)).2.2.2.2.2.2.1; simp only [Nat.zero_add] at y6; have z6 : w6.frozen? ⟨X, 6, none⟩ = false := (hg.frozen_far ⟨X, 6, none⟩ (lt_of_cell x6) (fun e => by have := (hM2.r1.block X e.symm).1; have := hM2.ex; omega)).trans (hM2.zx 6))
        have hc6 := gr_cell6 w6 X (.slice ao (L1.length + 2) c')
        have nK : K ≠ X := by have := hM2.ex; omega
        have nK1 : K + 1 ≠ X := by have := hM2.ex; omega
        have ak3 := (ak.far hg (fun e => by have := hfar K e.symm; omega)).far hc6 (fun e => nK (Option.some.inj e))
        have au3 := (au.far hg (fun e => by have := hfar (K + 1) e.symm; omega)).far hc6 (fun e => nK1 (Option.some.inj e))
        generalize w6.setCell ⟨X, 6, none⟩ (.slice ao (L1.length + 2) c') = W3 at *
        clear hc6 k0 k1 k2 k3 k4 k5 k6 k7 u0 u1 u2 u3 u4 u5 u6 u7 x6 y6 z6 hg hat hR ak au hM2 hK1 hK2 hfar nK nK1
        obtain ⟨k0, k1, k2, k3, k4, k5, k6, k7⟩ := ak3
        obtain ⟨u0, u1, u2, u3, u4, u5, u6, u7⟩ := au3
        have x6 := hM3.y.2.2.2.2.2.2.1
        have hY3 : Y < W3.heap.size := lt_of_cell x6
        simp only [Nat.zero_add] at k0 k1 k2 k3 k4 k5 k6 k7 u0 u1 u2 u3 u4 u5 u6 u7 x6
        go_upto_region 4 with (at_builtin; refine wpl_appR (W0 := W3) rfl _ _ rfl hM3.r2 k u rfl rfl rfl (by omega) (by have := hM3.lt; omega) ?_; rintro v' w7 ⟨ao2, c2', rfl⟩ hR hg hat; have hM4 := hM3.app2 hR hg hat; have y6 := (hM3.y.far hg (fun e => by cases e)).2.2.2.2.2.2.1; simp only [Nat.zero_add] at y6; have z6 : w7.frozen? ⟨Y, 6, none⟩ = false := (hg.frozen_far ⟨Y, 6, none⟩ hY3 (fun e => by cases e)).trans (hM3.zy 6))
        generalize w7.setCell ⟨Y, 6, none⟩ (.slice ao2 (L2.length + 2) c2') = W4 at *
        clear k0 k1 k2 k3 k4 k5 k6 k7 u0 u1 u2 u3 u4 u5 u6 u7 x6 y6 z6 hg hat hR hM3 hY3
        go_wp2_with fail
        go_roundg (gk - 1)
        case measure => omega
        case rel =>
          refine ⟨j + 1, es ++ [(k, u)], .slice ao (L1.length + 2) c', .slice ao2 (L2.length + 2) c2', by go_num, by omega, (show (es ++ [(k, u)]).length = j + 1 by rw [List.length_append, hlen.out]; rfl), (fun p hp => ?_), ?_⟩
          · rcases List.mem_append.1 hp with hp | hp
            · exact hes.out p hp
            · rw [List.mem_singleton.1 hp]; exact hE
          · rw [List.flatMap_append, List.reverse_append, List.flatMap_append, HL1.out, HL2.out]
            exact hM4
      · skip
        have hp1 : ((j : Int) % 2) = 0 := by omega
        have hE : EOk ((⟨16, ⟨#[]⟩, 0, 0, tx, [], [], 0⟩ : D), (⟨11, ⟨#[]⟩, (j : Int), 0, ⟨#[]⟩, [], [], 0⟩ : D)) := eok_t tx j hfx.2.2.2.2.1 ⟨by omega, by omega⟩
        obtain ⟨W2, hW2⟩ : ∃ W2, W2 = (wr.alloc (.cells #[.int .i64 16, .string ⟨#[]⟩, .int .u64 0, .int .u64 0, .string tx, .slice none 0 0, .slice none 0 0, .int .i64 0] 26)).alloc (.cells #[.int .i64 11, .string ⟨#[]⟩, .int .u64 (j : Int), .int .u64 0, .string ⟨#[]⟩, .slice none 0 0, .slice none 0 0, .int .i64 0] 26) := ⟨_, rfl⟩
        have b2 : Below wr.heap.size wr W2 := by rw [hW2]; exact ((Below.refl _ _).alloc (Nat.le_refl _) _).alloc (by simp) _
        have ak : At8 W2 wr.heap.size 0 (⟨16, ⟨#[]⟩, 0, 0, tx, [], [], 0⟩ : D) (.slice none 0 0) (.slice none 0 0) := by
          rw [hW2]
          refine ⟨?_, ?_, ?_, ?_, ?_, ?_, ?_, ?_⟩
          all_goals simp [go_sem]
        have au : At8 W2 (wr.heap.size + 1) 0 (⟨11, ⟨#[]⟩, (j : Int), 0, ⟨#[]⟩, [], [], 0⟩ : D) (.slice none 0 0) (.slice none 0 0) := by
          rw [hW2]
          refine ⟨?_, ?_, ?_, ?_, ?_, ?_, ?_, ?_⟩
          all_goals simp [go_sem]
        go_upto_region 9 with fail
        rw [← hW2]
        clear hW2 c1 c2 hfx hp1
        have hM2 := hM.up b2
        obtain ⟨K, hKK⟩ : ∃ K, wr.heap.size = K := ⟨_, rfl⟩
        have hK1 : K < W2.heap.size := by rw [← hKK]; exact lt_of_cell ak.1
        have hK2 : K + 1 < W2.heap.size := by rw [← hKK]; exact lt_of_cell au.1
        have hfar : ∀ g, p1.ownBlock = some g → g < K := fun g hg => by rw [← hKK]; exact (hM.r1.block g hg).2
        have hbig : w.heap.size + 2 ≤ K := by rw [← hKK]; exact hM.lt
        rw [hKK] at ak au
        try simp only [hKK]
        clear hKK b2 hM hbw
        generalize hk : (⟨16, ⟨#[]⟩, 0, 0, tx, [], [], 0⟩ : D) = k at ak hE
        generalize hu : (⟨11, ⟨#[]⟩, (j : Int), 0, ⟨#[]⟩, [], [], 0⟩ : D) = u at au hE
        clear hk hu
        obtain ⟨a1, q1, e1, -⟩ := hM2.r1.slice
        obtain ⟨a2, q2, e2, -⟩ := hM2.r2.slice
        subst e1 e2
        have hlA : (es.flatMap fun p => [p.1, p.2]).length ≤ 24 := by rw [two_len, hlen.out]; omega
        have hlB : (es.reverse.flatMap fun p => [p.1, p.2]).length ≤ 24 := by rw [two_len, List.length_reverse, hlen.out]; omega
        generalize hL1 : (es.flatMap fun p => [p.1, p.2]) = L1 at *
        generalize hL2 : (es.reverse.flatMap fun p => [p.1, p.2]) = L2 at *
        have HL1 : Hid ((es.flatMap fun p => [p.1, p.2]) = L1) := hL1
        have HL2 : Hid ((es.reverse.flatMap fun p => [p.1, p.2]) = L2) := hL2
        clear hL1 hL2
        obtain ⟨k0, k1, k2, k3, k4, k5, k6, k7⟩ := id ak
        obtain ⟨u0, u1, u2, u3, u4, u5, u6, u7⟩ := id au
        have x6 := hM2.x.2.2.2.2.2.2.1
        simp only [Nat.zero_add] at k0 k1 k2 k3 k4 k5 k6 k7 u0 u1 u2 u3 u4 u5 u6 u7 x6
        go_upto_region 10 with (at_builtin; refine wpl_appF (W0 := W2) rfl _ _ rfl hM2.r1 k u rfl rfl rfl (by omega) (by omega) ?_; rintro v' w6 ⟨ao, c', rfl⟩ hR hg hat; have hM3 := hM2.app1 hR hg hat; have y6 := (hM2.x.far hg (fun e => by have := (hM2.r1.block X e.symm).1; have := hM2.ex; omega)).2.2.2.2.2.2.1; simp only [Nat.zero_add] at y6; have z6 : w6.frozen? ⟨X, 6, none⟩ = false := (hg.frozen_far ⟨X, 6, none⟩ (lt_of_cell x6) (fun e => by have := (hM2.r1.block X e.symm).1; have := hM2.ex; omega)).trans (hM2.zx 6))
        have hc6 := gr_cell6 w6 X (.slice ao (L1.length + 2) c')
        have nK : K ≠ X := by have := hM2.ex; omega
        have nK1 : K + 1 ≠ X := by have := hM2.ex; omega
        have ak3 := (ak.far hg (fun e => by have := hfar K e.symm; omega)).far hc6 (fun e => nK (Option.some.inj e))
        have au3 := (au.far hg (fun e => by have := hfar (K + 1) e.symm; omega)).far hc6 (fun e => nK1 (Option.some.inj e))
        generalize w6.setCell ⟨X, 6, none⟩ (.slice ao (L1.length + 2) c') = W3 at *
        clear hc6 k0 k1 k2 k3 k4 k5 k6 k7 u0 u1 u2 u3 u4 u5 u6 u7 x6 y6 z6 hg hat hR ak au hM2 hK1 hK2 hfar nK nK1
        obtain ⟨k0, k1, k2, k3, k4, k5, k6, k7⟩ := ak3
        obtain ⟨u0, u1, u2, u3, u4, u5, u6, u7⟩ := au3
        have x6 := hM3.y.2.2.2.2.2.2.1
        have hY3 : Y < W3.heap.size := lt_of_cell x6
        simp only [Nat.zero_add] at k0 k1 k2 k3 k4 k5 k6 k7 u0 u1 u2 u3 u4 u5 u6 u7 x6
        go_upto_region 4 with (at_builtin; refine wpl_appR (W0 := W3) rfl _ _ rfl hM3.r2 k u rfl rfl rfl (by omega) (by have := hM3.lt; omega) ?_; rintro v' w7 ⟨ao2, c2', rfl⟩ hR hg hat; have hM4 := hM3.app2 hR hg hat; have y6 := (hM3.y.far hg (fun e => by cases e)).2.2.2.2.2.2.1; simp only [Nat.zero_add] at y6; have z6 : w7.frozen? ⟨Y, 6, none⟩ = false := (hg.frozen_far ⟨Y, 6, none⟩ hY3 (fun e => by cases e)).trans (hM3.zy 6))
        generalize w7.setCell ⟨Y, 6, none⟩ (.slice ao2 (L2.length + 2) c2') = W4 at *
        clear k0 k1 k2 k3 k4 k5 k6 k7 u0 u1 u2 u3 u4 u5 u6 u7 x6 y6 z6 hg hat hR hM3 hY3
        go_wp2_with fail
        go_roundg (gk - 1)
        case measure => omega
        case rel =>
          refine ⟨j + 1, es ++ [(k, u)], .slice ao (L1.length + 2) c', .slice ao2 (L2.length + 2) c2', by go_num, by omega, (show (es ++ [(k, u)]).length = j + 1 by rw [List.length_append, hlen.out]; rfl), (fun p hp => ?_), ?_⟩
          · rcases List.mem_append.1 hp with hp | hp
            · exact hes.out p hp
            · rw [List.mem_singleton.1 hp]; exact hE
          · rw [List.flatMap_append, List.reverse_append, List.flatMap_append, HL1.out, HL2.out]
            exact hM4
    · have hc : ((j : Int) < ls.length ∧ ¬ (j : Int) < 12) ∨ ¬ (j : Int) < ls.length := by omega
      clear hcell
      rcases hc with ⟨g1, g2⟩ | g1
      · go_upto_region 11 with fail
        have hl24 : (es.flatMap fun p => [p.1, p.2]).length = 2 * es.length := two_len es
        have hl25 : (es.reverse.flatMap fun p => [p.1, p.2]).length = 2 * es.length := by rw [two_len, List.length_reverse]
        have hj12 : es.length ≤ 12 := by rw [hlen.out]; omega
        have hes' := hes.out
        obtain ⟨a1, q1, e1, -⟩ := hM.r1.slice
        obtain ⟨a2, q2, e2, -⟩ := hM.r2.slice
        have x0 := hM.x
        have r1 : RdC 2 wr (.slice none 0 0) p1 (mapD (flat2 es)) := rd_map hM.r1 (flatAll hes')
        have r2 : RdC 2 wr (.slice none 0 0) p2 (mapD (flat2 es.reverse)) := rd_map hM.r2 (flatAll (rev_ok hes'))
        have hB1 := buildA 2 (mapD (flat2 es)) _ _ wr r1 (by omega)
        subst e1 e2
        obtain ⟨c0, c1, c2, c3, c4, c5, c6, c7⟩ := id hM.x
        simp only [Nat.zero_add, mapD] at c0 c1 c2 c3 c4 c5 c6 c7
        have hrev := map_err_rev hes' hj12
        have bwr := hM.b
        by_cases h0 : bErr (mapD (flat2 es)) = 0
        · obtain ⟨hfit, hdup⟩ := map_zero hes' hj12 h0
          obtain ⟨hPL0, hrise⟩ := map_rise hes' hj12 h0
          have hPL : Hid ((inF (mapD (flat2 es))).parts.length = 2 * es.length) := hPL0
          clear hPL0
          have hg1 := map_good hes' hj12
          have hg2 := map_good (rev_ok hes') (by rw [List.length_reverse]; exact hj12)
          have hin : Hid (inF (mapD (flat2 es.reverse)) = inF (mapD (flat2 es))) := map_inF hes' hdup
          replace hB1 := hB1.mono fun e w' h => (⟨h.1, h.2.elim (fun q => q.2) (fun q => absurd h0 q.1)⟩ : _ ∧ _)
          have hB2 := fun (W : World) (hW : Below wr.heap.size wr W) => (buildA 2 (mapD (flat2 es.reverse)) _ _ W (r2.up hW) (by omega)).mono fun e w' h => (⟨h.1, h.2.elim (fun q => q.2) (fun q => absurd (hrev.trans h0) q.1)⟩ : _ ∧ _)
          clear hrev h0 hfit hdup r1 r2
          generalize hdm : mapD (flat2 es) = dm at *
          generalize hbm : mapD (flat2 es.reverse) = bm at *
          have ev1 : DV dm (.slice none 0 0) (.slice a1 (es.flatMap fun p => [p.1, p.2]).length q1) = .agg #[.int .i64 21, .string ⟨#[]⟩, .int .u64 0, .int .u64 0, .string ⟨#[]⟩, .slice none 0 0, .slice a1 (es.flatMap fun p => [p.1, p.2]).length q1, .int .i64 0] := by rw [← hdm]; rfl
          have ev2 : DV bm (.slice none 0 0) (.slice a2 (es.reverse.flatMap fun p => [p.1, p.2]).length q2) = .agg #[.int .i64 21, .string ⟨#[]⟩, .int .u64 0, .int .u64 0, .string ⟨#[]⟩, .slice none 0 0, .slice a2 (es.reverse.flatMap fun p => [p.1, p.2]).length q2, .int .i64 0] := by rw [← hbm]; rfl
          rw [ev1] at hB1
          simp only [ev2] at hB2
          rw [hl24] at hB1 c6 x0
          simp only [hl25] at hB2
          have hMy := hM.y
          rw [hl25] at hMy
          clear ev1 ev2 hdm hbm hl24 hl25 hM hes
          go_upto_region 12 with (go_at_call 10; refine hB1.mono ?_; rintro e V1 ⟨v1, t1, y1, rfl, hv1⟩)
          obtain ⟨d0, d1, d2, d3, d4, d5, d6, d7⟩ := hMy.up v1
          simp only [Nat.zero_add, mapD] at d0 d1 d2 d3 d4 d5 d6 d7
          go_upto_region 13 with (go_at_call 10; refine (hB2 _ v1).mono ?_; rintro e V2 ⟨v2, t2, y2, rfl, hv2⟩)
          clear hB1 hB2 c0 c1 c2 c3 c4 c5 c6 c7 d0 d1 d2 d3 d4 d5 d6 d7
          have hraw1 := vraw_any 2 dm hg1 (fun _ => True) V2 _ (hv1.turn (Kept.below v2 fun _ _ _ => trivial))
          go_upto_region 18 with (go_at_call 9; refine hraw1.mono ?_; rintro e V3 ⟨v3, nv3, pv3, rfl, hd3⟩; obtain ⟨na3, nc3, pa3, pc3, rfl, rfl⟩ := hd3.slices; obtain ⟨V4, hV4⟩ : ∃ V4, V4 = V3.alloc (.cells #[.int .i64 (inF dm).kind, .string (inF dm).ty, .int .u64 (inF dm).bits, .int .u64 (inF dm).imag, .string (inF dm).text, .slice na3 (inF dm).names.length nc3, .slice pa3 (inF dm).parts.length pc3, .int .i64 (inF dm).hook] 26) := ⟨_, rfl⟩)
          rw [← hV4]
          have v4 : Below V3.heap.size V3 V4 := by rw [hV4]; exact (Below.refl _ _).alloc (Nat.le_refl _) _
          have z4 : At8 V4 V3.heap.size 0 (inF dm) (.slice na3 (inF dm).names.length nc3) (.slice pa3 (inF dm).parts.length pc3) := by
            rw [hV4]
            refine ⟨?_, ?_, ?_, ?_, ?_, ?_, ?_, ?_⟩
            all_goals simp [go_sem]
          have hd4 := hd3.plain.up v4
          obtain ⟨Z, hZ⟩ : ∃ Z, V3.heap.size = Z := ⟨_, rfl⟩
          rw [hZ] at z4
          try simp only [hZ]
          clear hV4 hZ hraw1 hv1
          have v24 : Below V2.heap.size V2 V4 := v3.trans (v4.mono v3.size)
          have v14 : Below wr.heap.size wr V4 := (v1.trans (v2.mono v1.size)).trans (v24.mono (Nat.le_trans v1.size v2.size))
          have x4 := x0.up v14
          have bV4 : Below w.heap.size w V4 := bwr.trans (v14.mono bwr.size)
          obtain ⟨Yd, hYd⟩ : ∃ Yd, Yd = V4.drew := ⟨_, rfl⟩
          have bY : Below w.heap.size w Yd := by rw [hYd]; exact bV4.drew
          have v4Y : Below V4.heap.size V4 Yd := by rw [hYd]; exact (Below.refl _ _).drew
          have hraw := (vraw_any 2 bm hg2 (fun _ => True) Yd _ (hv2.turn (Kept.below (v24.trans (v4Y.mono v24.size)) fun _ _ _ => trivial))).mono fun e w' h => (⟨h.1, let ⟨nv, pv, h1, h2⟩ := h.2; ⟨nv, pv, h1, h2.plain⟩⟩ : Below Yd.heap.size Yd w' ∧ ∃ nv pv, e = .returned (DV (inF bm) nv pv) ∧ RdC 2 w' nv pv (inF bm))
          rw [hin.out] at hraw
          replace hd4 := hd4.up v4Y
          rw [hPL.out] at hd4 z4
          have HPL : Hid ((inF dm).parts.length = 2 * es.length) := hPL.out
          have HR : Hid (∀ (j : Nat) (a b : D), (inF dm).parts[2 * j]? = some a → (inF dm).parts[2 * j + 2]? = some b → ∃ k l, FlatD k ∧ FlatD l ∧ a = inF k ∧ b = inF l ∧ bErr k = 0 ∧ bErr l = 0 ∧ keyB k.kind = true ∧ keyB l.kind = true ∧ cmpR (rkF k) (rkF l) < 0) := hrise
          try simp only [hPL.out]
          clear hPL hrise hin hg1 hg2 hv2 v24 v14 v4Y v1 v2 v3 v4 hd3 x0 hMy bwr
          generalize inF dm = fd at *
          refine wp_region_held_drew (S := fun w' : World => At8 w' Z 0 fd (.slice na3 fd.names.length nc3) (.slice pa3 (2 * es.length) pc3) ∧ At8 w' X 0 (mapD []) (.slice none 0 0) (.slice a1 (2 * es.length) q1)) (by kernel_rfl) (by exact ⟨z4, x4⟩) ?_
          rw [← hYd]
          have s5 : (fun w' : World => At8 w' Z 0 fd (.slice na3 fd.names.length nc3) (.slice pa3 (2 * es.length) pc3) ∧ At8 w' X 0 (mapD []) (.slice none 0 0) (.slice a1 (2 * es.length) q1)) Yd := by rw [hYd]; exact ⟨z4, x4⟩
          have hup : ∀ {w1 w2 : World}, (fun w' : World => At8 w' Z 0 fd (.slice na3 fd.names.length nc3) (.slice pa3 (2 * es.length) pc3) ∧ At8 w' X 0 (mapD []) (.slice none 0 0) (.slice a1 (2 * es.length) q1)) w1 → Below w1.heap.size w1 w2 → (fun w' : World => At8 w' Z 0 fd (.slice na3 fd.names.length nc3) (.slice pa3 (2 * es.length) pc3) ∧ At8 w' X 0 (mapD []) (.slice none 0 0) (.slice a1 (2 * es.length) q1)) w2 := fun h h' => ⟨h.1.up h', h.2.up h'⟩
          clear hYd z4 x4
          intro hS
          refine wpAnyH_take (i := 0) (v := .agg #[.int .i64 fd.kind, .string fd.ty, .int .u64 fd.bits, .int .u64 fd.imag, .string fd.text, .slice na3 fd.names.length nc3, .slice pa3 (2 * es.length) pc3, .int .i64 fd.hook]) rfl (by kernel_rfl) (by kernel_rfl) (by kernel_rfl) (fun _ _ _ h => h) (Or.inl ⟨by rfl, ?_⟩) (by assumption) ?_
          · intro w5 s0
            obtain ⟨q0, q1, q2, q3, q4, q5, q6, q7⟩ := s0.1
            simp only [Nat.zero_add] at q0 q1 q2 q3 q4 q5 q6 q7
            clear s0
            go_simp
          try simp only [Act.put, List.getElem_toArray, List.getElem_cons_zero, List.getElem_cons_succ, List.setIfInBounds_toArray, List.set_cons_zero, List.set_cons_succ]
          refine wpAnyH_take (i := 1) (v := .iface t2 y2) rfl (by kernel_rfl) (by kernel_rfl) (by kernel_rfl) (fun _ _ _ h => h) (Or.inl ⟨by rfl, ?_⟩) (by assumption) ?_
          · intro w5 s0
            go_simp
          try simp only [Act.put, List.getElem_toArray, List.getElem_cons_zero, List.getElem_cons_succ, List.setIfInBounds_toArray, List.set_cons_zero, List.set_cons_succ]
          refine wpAnyH_ready (rs := [2]) (by kernel_rfl) (by simp) ?_
          refine AllReadyH.cons rfl (fun K1 hK1 => ?_) AllReadyH.nil
          go_simp
          refine hraw.mono ?_
          rintro e Z1 ⟨z1, nv5, pv5, rfl, hd5⟩
          obtain ⟨na5, nc5, pa5, pc5, rfl, rfl⟩ := hd5.slices
          have sZ1 := (hup s5) z1
          refine hK1.out _ _ sZ1 (fun _ => ?_)
          clear hK1
          try simp only [Act.put, List.getElem_toArray, List.getElem_cons_zero, List.getElem_cons_succ, List.setIfInBounds_toArray, List.set_cons_zero, List.set_cons_succ]
          refine wpAnyH_ready (rs := [3]) (by kernel_rfl) (by simp) ?_
          refine AllReadyH.cons rfl (fun K2 hK2 => ?_) AllReadyH.nil
          go_simp
          refine (osame_true _ _ fd _ _ _ _ _ (hd4.up z1) hd5).mono ?_
          rintro e Z2 ⟨rfl, z2⟩
          have sZ2 := (hup sZ1) z2
          refine hK2.out _ _ sZ2 (fun _ => ?_)
          clear hK2
          try simp only [Act.put, List.getElem_toArray, List.getElem_cons_zero, List.getElem_cons_succ, List.setIfInBounds_toArray, List.set_cons_zero, List.set_cons_succ]
          refine wpAnyH_ready (rs := [4]) (by kernel_rfl) (by simp) ?_
          refine AllReadyH.cons rfl (fun K3 hK3 => ?_) AllReadyH.nil
          go_simp
          refine hK3.out _ _ sZ2 (fun _ => ?_)
          clear hK3
          try simp only [Act.put, List.getElem_toArray, List.getElem_cons_zero, List.getElem_cons_succ, List.setIfInBounds_toArray, List.set_cons_zero, List.set_cons_succ]
          refine wpAnyH_ready (rs := [5]) (by kernel_rfl) (by simp) ?_
          refine AllReadyH.cons rfl (fun K4 hK4 => ?_) AllReadyH.nil
          go_simp
          refine hK4.out _ _ sZ2 (fun _ => ?_)
          clear hK4
          try simp only [Act.put, List.getElem_toArray, List.getElem_cons_zero, List.getElem_cons_succ, List.setIfInBounds_toArray, List.set_cons_zero, List.set_cons_succ]
          refine wpAnyH_take (i := 6) (v := .pointer (some ⟨Z, 6, none⟩)) rfl (by kernel_rfl) (by kernel_rfl) (by kernel_rfl) (fun _ _ _ h => h) (Or.inl ⟨by rfl, ?_⟩) (by assumption) ?_
          · intro w5 s0
            go_simp
          try simp only [Act.put, List.getElem_toArray, List.getElem_cons_zero, List.getElem_cons_succ, List.setIfInBounds_toArray, List.set_cons_zero, List.set_cons_succ]
          refine wpAnyH_take (i := 7) (v := .slice pa3 (2 * es.length) pc3) rfl (by kernel_rfl) (by kernel_rfl) (by kernel_rfl) (fun _ _ _ h => h) (Or.inl ⟨by rfl, ?_⟩) (by assumption) ?_
          · intro w5 s0
            obtain ⟨q0, q1, q2, q3, q4, q5, q6, q7⟩ := s0.1
            simp only [Nat.zero_add] at q0 q1 q2 q3 q4 q5 q6 q7
            clear s0
            go_simp
          try simp only [Act.put, List.getElem_toArray, List.getElem_cons_zero, List.getElem_cons_succ, List.setIfInBounds_toArray, List.set_cons_zero, List.set_cons_succ]
          refine wpAnyH_take (i := 8) (v := .int .i64 ((2 * es.length : Nat) : Int)) rfl (by kernel_rfl) (by kernel_rfl) (by kernel_rfl) (fun _ _ _ h => h) (Or.inl ⟨by rfl, ?_⟩) (by assumption) ?_
          · intro w5 s0
            go_simp
          try simp only [Act.put, List.getElem_toArray, List.getElem_cons_zero, List.getElem_cons_succ, List.setIfInBounds_toArray, List.set_cons_zero, List.set_cons_succ]
          refine wpAnyH_take (i := 9) (v := .pointer (some ⟨X, 6, none⟩)) rfl (by kernel_rfl) (by kernel_rfl) (by kernel_rfl) (fun _ _ _ h => h) (Or.inl ⟨by rfl, ?_⟩) (by assumption) ?_
          · intro w5 s0
            go_simp
          try simp only [Act.put, List.getElem_toArray, List.getElem_cons_zero, List.getElem_cons_succ, List.setIfInBounds_toArray, List.set_cons_zero, List.set_cons_succ]
          refine wpAnyH_take (i := 10) (v := .slice a1 (2 * es.length) q1) rfl (by kernel_rfl) (by kernel_rfl) (by kernel_rfl) (fun _ _ _ h => h) (Or.inl ⟨by rfl, ?_⟩) (by assumption) ?_
          · intro w5 s0
            obtain ⟨q0, q1, q2, q3, q4, q5, q6, q7⟩ := s0.2
            simp only [Nat.zero_add] at q0 q1 q2 q3 q4 q5 q6 q7
            clear s0
            go_simp
          try simp only [Act.put, List.getElem_toArray, List.getElem_cons_zero, List.getElem_cons_succ, List.setIfInBounds_toArray, List.set_cons_zero, List.set_cons_succ]
          refine wpAnyH_take (i := 11) (v := .int .i64 ((2 * es.length : Nat) : Int)) rfl (by kernel_rfl) (by kernel_rfl) (by kernel_rfl) (fun _ _ _ h => h) (Or.inl ⟨by rfl, ?_⟩) (by assumption) ?_
          · intro w5 s0
            go_simp
          try simp only [Act.put, List.getElem_toArray, List.getElem_cons_zero, List.getElem_cons_succ, List.setIfInBounds_toArray, List.set_cons_zero, List.set_cons_succ]
          refine wpAnyH_take (i := 12) (v := .bool false) rfl (by kernel_rfl) (by kernel_rfl) (by kernel_rfl) (fun _ _ _ h => h) (Or.inl ⟨by rfl, ?_⟩) (by assumption) ?_
          · intro w5 s0
            go_simp
          try simp only [Act.put, List.getElem_toArray, List.getElem_cons_zero, List.getElem_cons_succ, List.setIfInBounds_toArray, List.set_cons_zero, List.set_cons_succ]
          refine wpAnyH_take (i := 13) (v := .bool false) rfl (by kernel_rfl) (by kernel_rfl) (by kernel_rfl) (fun _ _ _ h => h) (Or.inl ⟨by rfl, ?_⟩) (by assumption) ?_
          · intro w5 s0
            go_simp
          try simp only [Act.put, List.getElem_toArray, List.getElem_cons_zero, List.getElem_cons_succ, List.setIfInBounds_toArray, List.set_cons_zero, List.set_cons_succ]
          refine wpAnyH_done (by kernel_rfl) ?_ _
          clear hS
          have bZ2 : Below w.heap.size w Z2 := (bY.trans (z1.mono bY.size)).trans (z2.mono (Nat.le_trans bY.size z1.size))
          replace hd4 := hd4.up (z1.trans (z2.mono z1.size))
          have zz := sZ2.1
          clear sZ1 sZ2 s5 hup z1 z2 hd5 hraw bY bV4
          obtain ⟨hn4, hs4, pa6, pc6, e6, -, -, hpc⟩ := hd4
          rw [HPL.out] at e6
          obtain ⟨rfl, -, rfl⟩ := Value.slice.inj e6
          generalize hN : 2 * es.length = N at *
          have HN : Hid (2 * es.length = N) := hN
          have hN24 : N ≤ 24 := by omega
          have hNI : (N : Int) ≤ 24 := by omega
          clear hN e6 hn4 hs4
          go_upto_region 21 with fail
          go_loopg [13, 14, 15, 16, 17] 13 (fun g iv z14 z15 z16 z17 wr => ∃ m : Nat, iv = .int .i64 ((2 * m + 2 : Nat) : Int) ∧ m + g = 13 ∧ Below Z2.heap.size Z2 wr)
          case atStart => exact ⟨0, rfl, rfl, Below.refl _ _⟩
          case round =>
            obtain ⟨m, rfl, hmg, hbl⟩ := hrel
            have bwr : Below w.heap.size w wr := bZ2.trans (hbl.mono bZ2.size)
            have hz6 := (zz.up hbl).2.2.2.2.2.2.1
            simp only [Nat.zero_add] at hz6
            generalize hI : 2 * m + 2 = I at *
            have HI : Hid (2 * m + 2 = I) := hI
            have hI2 : 2 ≤ I := by omega
            have hI2' : (2 : Int) ≤ I := by omega
            clear hI
            by_cases hlt : I < N
            · have hltI : (I : Int) < N := by omega
              obtain ⟨A, hA⟩ : ∃ A, fd.parts[2 * m]? = some A := ⟨_, List.getElem?_eq_getElem (by rw [HPL.out]; have := HI.out; omega)⟩
              obtain ⟨B, hB⟩ : ∃ B, fd.parts[2 * m + 2]? = some B := ⟨_, List.getElem?_eq_getElem (by rw [HPL.out]; have := HI.out; omega)⟩
              obtain ⟨k, l, fk, fl, eA, eB, ek, el, kk, kl, hcm⟩ := HR.out m A B hA hB
              obtain ⟨bA, oA, nvA, pvA, rA, atA, rdA⟩ := hpc _ A hA
              obtain ⟨bB, oB, nvB, pvB, rB, atB, rdB⟩ := hpc _ B hB
              subst rA
              obtain ⟨rfl, rfl⟩ : bA = bB ∧ oA = oB := by have := Option.some.inj rB; exact ⟨congrArg Addr.block this, congrArg Addr.off this⟩
              obtain ⟨nA, ncA, ppA, pcA, eA1, eA2⟩ := rdA.slices
              obtain ⟨nB, ncB, ppB, pcB, eB1, eB2⟩ := rdB.slices
              have hbA := fun (W : World) (hW : Below Z2.heap.size Z2 W) => build_key fk ek kk (eA ▸ rdA.up hW) (by omega)
              have hbB := fun (W : World) (hW : Below Z2.heap.size Z2 W) => build_key fl el kl (eB ▸ rdB.up hW) (by omega)
              rw [← eA] at hbA
              rw [← eB] at hbB
              have hcr := cmpR_neg hcm
              rw [eA1, eA2] at hbA atA
              rw [eB1, eB2] at hbB atB
              obtain ⟨A0, A1, A2, A3, A4, A5, A6, A7⟩ := atA.up hbl
              have hiA : 2 * m = I - 2 := by have := HI.out; omega
              rw [hiA] at A0 A1 A2 A3 A4 A5 A6 A7
              rw [HI.out] at atB
              clear hA hB eA eB hcm rdA rdB hpc eA1 eA2 eB1 eB2 rB hiA HR atA ek el fk fl
              go_upto_region 24 with (go_at_call 10; refine (hbA _ hbl).mono ?_; rintro e U1 ⟨u1, ta, ya, rfl, rka⟩)
              have hbl1 : Below Z2.heap.size Z2 U1 := hbl.trans (u1.mono hbl.size)
              obtain ⟨B0, B1, B2, B3, B4, B5, B6, B7⟩ := atB.up hbl1
              have hz7 := (zz.up hbl1).2.2.2.2.2.2.1
              simp only [Nat.zero_add] at hz7
              clear A0 A1 A2 A3 A4 A5 A6 A7 hz6
              go_upto_region 25 with (go_at_call 10; refine (hbB _ hbl1).mono ?_; rintro e U2 ⟨u2, tb, yb, rfl, rkb⟩)
              have hbl2 : Below Z2.heap.size Z2 U2 := hbl1.trans (u2.mono hbl1.size)
              have hcmp := fun W => cmp_any _ _ _ _ rka rkb W
              rw [hcr] at hcmp
              clear rka rkb hcr hbA hbB B0 B1 B2 B3 B4 B5 B6 B7 hz7 atB
              go_wp2_with (go_at_call 15; refine (hcmp _).mono ?_; rintro e U3 ⟨rfl, u3⟩)
              go_roundg (gk - 1)
              case measure => have := HI.out; have := HN.out; omega
              case rel => exact ⟨m + 1, by rw [← HI.out]; go_num, by have := HI.out; omega, hbl2.trans (u3.mono hbl2.size)⟩
            · have hltI : ¬ (I : Int) < N := by omega
              clear hpc HR
              go_wp2_with (go_at_call 8; refine (lives8_any _ (hK.up bwr)).mono ?_; rintro e U1 ⟨rfl, u1⟩)
              go_ret
              exact ⟨rfl, bwr.trans (u1.mono bwr.size)⟩
        · replace hB1 := hB1.mono fun e w' h => (⟨h.1, h.2.elim (fun q => absurd q.1 h0) (fun q => q.2)⟩ : _ ∧ _)
          have hB2 := fun (W : World) (hW : Below wr.heap.size wr W) => (buildA 2 (mapD (flat2 es.reverse)) _ _ W (r2.up hW) (by omega)).mono fun e w' h => (⟨h.1, h.2.elim (fun q => absurd (hrev.symm.trans q.1) h0) (fun q => q.2)⟩ : _ ∧ _)
          have h52 := map_err_of hes' hj12 h0
          simp only [hrev] at hB2
          have ev1 : DV (mapD (flat2 es)) (.slice none 0 0) (.slice a1 (es.flatMap fun p => [p.1, p.2]).length q1) = .agg #[.int .i64 21, .string ⟨#[]⟩, .int .u64 0, .int .u64 0, .string ⟨#[]⟩, .slice none 0 0, .slice a1 (es.flatMap fun p => [p.1, p.2]).length q1, .int .i64 0] := rfl
          have ev2 : DV (mapD (flat2 es.reverse)) (.slice none 0 0) (.slice a2 (es.reverse.flatMap fun p => [p.1, p.2]).length q2) = .agg #[.int .i64 21, .string ⟨#[]⟩, .int .u64 0, .int .u64 0, .string ⟨#[]⟩, .slice none 0 0, .slice a2 (es.reverse.flatMap fun p => [p.1, p.2]).length q2, .int .i64 0] := rfl
          rw [ev1] at hB1
          simp only [ev2] at hB2
          rw [hl24] at hB1 c6
          simp only [hl25] at hB2
          have hMy := hM.y
          rw [hl25] at hMy
          clear ev1 ev2 hl24 hl25 hM hes h0 hrev r1 r2 x0
          generalize bErr (mapD (flat2 es)) = er at *
          go_upto_region 12 with (go_at_call 10; refine hB1.mono ?_; rintro e V1 ⟨v1, rfl⟩)
          obtain ⟨d0, d1, d2, d3, d4, d5, d6, d7⟩ := hMy.up v1
          simp only [Nat.zero_add, mapD] at d0 d1 d2 d3 d4 d5 d6 d7
          go_upto_region 13 with (go_at_call 10; refine (hB2 _ v1).mono ?_; rintro e V2 ⟨v2, rfl⟩)
          clear hB1 hB2 c0 c1 c2 c3 c4 c5 c6 c7 d0 d1 d2 d3 d4 d5 d6 d7 hMy
          have bV2 : Below w.heap.size w V2 := (bwr.trans (v1.mono bwr.size)).trans (v2.mono (Nat.le_trans bwr.size v1.size))
          rcases h52 with rfl | rfl
          · go_wp2_with (go_at_call 8; refine (lives8_any _ (hK.up bV2)).mono ?_; rintro e U1 ⟨rfl, u1⟩)
            go_ret
            exact ⟨rfl, bV2.trans (u1.mono bV2.size)⟩
          · go_wp2_with (go_at_call 8; refine (lives8_any _ (hK.up bV2)).mono ?_; rintro e U1 ⟨rfl, u1⟩)
            go_ret
            exact ⟨rfl, bV2.trans (u1.mono bV2.size)⟩
      · go_upto_region 11 with fail
        have hl24 : (es.flatMap fun p => [p.1, p.2]).length = 2 * es.length := two_len es
        have hl25 : (es.reverse.flatMap fun p => [p.1, p.2]).length = 2 * es.length := by rw [two_len, List.length_reverse]
        have hj12 : es.length ≤ 12 := by rw [hlen.out]; omega
        have hes' := hes.out
        obtain ⟨a1, q1, e1, -⟩ := hM.r1.slice
        obtain ⟨a2, q2, e2, -⟩ := hM.r2.slice
        have x0 := hM.x
        have r1 : RdC 2 wr (.slice none 0 0) p1 (mapD (flat2 es)) := rd_map hM.r1 (flatAll hes')
        have r2 : RdC 2 wr (.slice none 0 0) p2 (mapD (flat2 es.reverse)) := rd_map hM.r2 (flatAll (rev_ok hes'))
        have hB1 := buildA 2 (mapD (flat2 es)) _ _ wr r1 (by omega)
        subst e1 e2
        obtain ⟨c0, c1, c2, c3, c4, c5, c6, c7⟩ := id hM.x
        simp only [Nat.zero_add, mapD] at c0 c1 c2 c3 c4 c5 c6 c7
        have hrev := map_err_rev hes' hj12
        have bwr := hM.b
        by_cases h0 : bErr (mapD (flat2 es)) = 0
        · obtain ⟨hfit, hdup⟩ := map_zero hes' hj12 h0
          obtain ⟨hPL0, hrise⟩ := map_rise hes' hj12 h0
          have hPL : Hid ((inF (mapD (flat2 es))).parts.length = 2 * es.length) := hPL0
          clear hPL0
          have hg1 := map_good hes' hj12
          have hg2 := map_good (rev_ok hes') (by rw [List.length_reverse]; exact hj12)
          have hin : Hid (inF (mapD (flat2 es.reverse)) = inF (mapD (flat2 es))) := map_inF hes' hdup
          replace hB1 := hB1.mono fun e w' h => (⟨h.1, h.2.elim (fun q => q.2) (fun q => absurd h0 q.1)⟩ : _ ∧ _)
          have hB2 := fun (W : World) (hW : Below wr.heap.size wr W) => (buildA 2 (mapD (flat2 es.reverse)) _ _ W (r2.up hW) (by omega)).mono fun e w' h => (⟨h.1, h.2.elim (fun q => q.2) (fun q => absurd (hrev.trans h0) q.1)⟩ : _ ∧ _)
          clear hrev h0 hfit hdup r1 r2
          generalize hdm : mapD (flat2 es) = dm at *
          generalize hbm : mapD (flat2 es.reverse) = bm at *
          have ev1 : DV dm (.slice none 0 0) (.slice a1 (es.flatMap fun p => [p.1, p.2]).length q1) = .agg #[.int .i64 21, .string ⟨#[]⟩, .int .u64 0, .int .u64 0, .string ⟨#[]⟩, .slice none 0 0, .slice a1 (es.flatMap fun p => [p.1, p.2]).length q1, .int .i64 0] := by rw [← hdm]; rfl
          have ev2 : DV bm (.slice none 0 0) (.slice a2 (es.reverse.flatMap fun p => [p.1, p.2]).length q2) = .agg #[.int .i64 21, .string ⟨#[]⟩, .int .u64 0, .int .u64 0, .string ⟨#[]⟩, .slice none 0 0, .slice a2 (es.reverse.flatMap fun p => [p.1, p.2]).length q2, .int .i64 0] := by rw [← hbm]; rfl
          rw [ev1] at hB1
          simp only [ev2] at hB2
          rw [hl24] at hB1 c6 x0
          simp only [hl25] at hB2
          have hMy := hM.y
          rw [hl25] at hMy
          clear ev1 ev2 hdm hbm hl24 hl25 hM hes
          go_upto_region 12 with (go_at_call 10; refine hB1.mono ?_; rintro e V1 ⟨v1, t1, y1, rfl, hv1⟩)
          obtain ⟨d0, d1, d2, d3, d4, d5, d6, d7⟩ := hMy.up v1
          simp only [Nat.zero_add, mapD] at d0 d1 d2 d3 d4 d5 d6 d7
          go_upto_region 13 with (go_at_call 10; refine (hB2 _ v1).mono ?_; rintro e V2 ⟨v2, t2, y2, rfl, hv2⟩)
          clear hB1 hB2 c0 c1 c2 c3 c4 c5 c6 c7 d0 d1 d2 d3 d4 d5 d6 d7
          have hraw1 := vraw_any 2 dm hg1 (fun _ => True) V2 _ (hv1.turn (Kept.below v2 fun _ _ _ => trivial))
          go_upto_region 18 with (go_at_call 9; refine hraw1.mono ?_; rintro e V3 ⟨v3, nv3, pv3, rfl, hd3⟩; obtain ⟨na3, nc3, pa3, pc3, rfl, rfl⟩ := hd3.slices; obtain ⟨V4, hV4⟩ : ∃ V4, V4 = V3.alloc (.cells #[.int .i64 (inF dm).kind, .string (inF dm).ty, .int .u64 (inF dm).bits, .int .u64 (inF dm).imag, .string (inF dm).text, .slice na3 (inF dm).names.length nc3, .slice pa3 (inF dm).parts.length pc3, .int .i64 (inF dm).hook] 26) := ⟨_, rfl⟩)
          rw [← hV4]
          have v4 : Below V3.heap.size V3 V4 := by rw [hV4]; exact (Below.refl _ _).alloc (Nat.le_refl _) _
          have z4 : At8 V4 V3.heap.size 0 (inF dm) (.slice na3 (inF dm).names.length nc3) (.slice pa3 (inF dm).parts.length pc3) := by
            rw [hV4]
            refine ⟨?_, ?_, ?_, ?_, ?_, ?_, ?_, ?_⟩
            all_goals simp [go_sem]
          have hd4 := hd3.plain.up v4
          obtain ⟨Z, hZ⟩ : ∃ Z, V3.heap.size = Z := ⟨_, rfl⟩
          rw [hZ] at z4
          try simp only [hZ]
          clear hV4 hZ hraw1 hv1
          have v24 : Below V2.heap.size V2 V4 := v3.trans (v4.mono v3.size)
          have v14 : Below wr.heap.size wr V4 := (v1.trans (v2.mono v1.size)).trans (v24.mono (Nat.le_trans v1.size v2.size))
          have x4 := x0.up v14
          have bV4 : Below w.heap.size w V4 := bwr.trans (v14.mono bwr.size)
          obtain ⟨Yd, hYd⟩ : ∃ Yd, Yd = V4.drew := ⟨_, rfl⟩
          have bY : Below w.heap.size w Yd := by rw [hYd]; exact bV4.drew
          have v4Y : Below V4.heap.size V4 Yd := by rw [hYd]; exact (Below.refl _ _).drew
          have hraw := (vraw_any 2 bm hg2 (fun _ => True) Yd _ (hv2.turn (Kept.below (v24.trans (v4Y.mono v24.size)) fun _ _ _ => trivial))).mono fun e w' h => (⟨h.1, let ⟨nv, pv, h1, h2⟩ := h.2; ⟨nv, pv, h1, h2.plain⟩⟩ : Below Yd.heap.size Yd w' ∧ ∃ nv pv, e = .returned (DV (inF bm) nv pv) ∧ RdC 2 w' nv pv (inF bm))
          rw [hin.out] at hraw
          replace hd4 := hd4.up v4Y
          rw [hPL.out] at hd4 z4
          have HPL : Hid ((inF dm).parts.length = 2 * es.length) := hPL.out
          have HR : Hid (∀ (j : Nat) (a b : D), (inF dm).parts[2 * j]? = some a → (inF dm).parts[2 * j + 2]? = some b → ∃ k l, FlatD k ∧ FlatD l ∧ a = inF k ∧ b = inF l ∧ bErr k = 0 ∧ bErr l = 0 ∧ keyB k.kind = true ∧ keyB l.kind = true ∧ cmpR (rkF k) (rkF l) < 0) := hrise
          try simp only [hPL.out]
          clear hPL hrise hin hg1 hg2 hv2 v24 v14 v4Y v1 v2 v3 v4 hd3 x0 hMy bwr
          generalize inF dm = fd at *
          refine wp_region_held_drew (S := fun w' : World => At8 w' Z 0 fd (.slice na3 fd.names.length nc3) (.slice pa3 (2 * es.length) pc3) ∧ At8 w' X 0 (mapD []) (.slice none 0 0) (.slice a1 (2 * es.length) q1)) (by kernel_rfl) (by exact ⟨z4, x4⟩) ?_
          rw [← hYd]
          have s5 : (fun w' : World => At8 w' Z 0 fd (.slice na3 fd.names.length nc3) (.slice pa3 (2 * es.length) pc3) ∧ At8 w' X 0 (mapD []) (.slice none 0 0) (.slice a1 (2 * es.length) q1)) Yd := by rw [hYd]; exact ⟨z4, x4⟩
          have hup : ∀ {w1 w2 : World}, (fun w' : World => At8 w' Z 0 fd (.slice na3 fd.names.length nc3) (.slice pa3 (2 * es.length) pc3) ∧ At8 w' X 0 (mapD []) (.slice none 0 0) (.slice a1 (2 * es.length) q1)) w1 → Below w1.heap.size w1 w2 → (fun w' : World => At8 w' Z 0 fd (.slice na3 fd.names.length nc3) (.slice pa3 (2 * es.length) pc3) ∧ At8 w' X 0 (mapD []) (.slice none 0 0) (.slice a1 (2 * es.length) q1)) w2 := fun h h' => ⟨h.1.up h', h.2.up h'⟩
          clear hYd z4 x4
          intro hS
          refine wpAnyH_take (i := 0) (v := .agg #[.int .i64 fd.kind, .string fd.ty, .int .u64 fd.bits, .int .u64 fd.imag, .string fd.text, .slice na3 fd.names.length nc3, .slice pa3 (2 * es.length) pc3, .int .i64 fd.hook]) rfl (by kernel_rfl) (by kernel_rfl) (by kernel_rfl) (fun _ _ _ h => h) (Or.inl ⟨by rfl, ?_⟩) (by assumption) ?_
          · intro w5 s0
            obtain ⟨q0, q1, q2, q3, q4, q5, q6, q7⟩ := s0.1
            simp only [Nat.zero_add] at q0 q1 q2 q3 q4 q5 q6 q7
            clear s0
            go_simp
          try simp only [Act.put, List.getElem_toArray, List.getElem_cons_zero, List.getElem_cons_succ, List.setIfInBounds_toArray, List.set_cons_zero, List.set_cons_succ]
          refine wpAnyH_take (i := 1) (v := .iface t2 y2) rfl (by kernel_rfl) (by kernel_rfl) (by kernel_rfl) (fun _ _ _ h => h) (Or.inl ⟨by rfl, ?_⟩) (by assumption) ?_
          · intro w5 s0
            go_simp
          try simp only [Act.put, List.getElem_toArray, List.getElem_cons_zero, List.getElem_cons_succ, List.setIfInBounds_toArray, List.set_cons_zero, List.set_cons_succ]
          refine wpAnyH_ready (rs := [2]) (by kernel_rfl) (by simp) ?_
          refine AllReadyH.cons rfl (fun K1 hK1 => ?_) AllReadyH.nil
          go_simp
          refine hraw.mono ?_
          rintro e Z1 ⟨z1, nv5, pv5, rfl, hd5⟩
          obtain ⟨na5, nc5, pa5, pc5, rfl, rfl⟩ := hd5.slices
          have sZ1 := (hup s5) z1
          refine hK1.out _ _ sZ1 (fun _ => ?_)
          clear hK1
          try simp only [Act.put, List.getElem_toArray, List.getElem_cons_zero, List.getElem_cons_succ, List.setIfInBounds_toArray, List.set_cons_zero, List.set_cons_succ]
          refine wpAnyH_ready (rs := [3]) (by kernel_rfl) (by simp) ?_
          refine AllReadyH.cons rfl (fun K2 hK2 => ?_) AllReadyH.nil
          go_simp
          refine (osame_true _ _ fd _ _ _ _ _ (hd4.up z1) hd5).mono ?_
          rintro e Z2 ⟨rfl, z2⟩
          have sZ2 := (hup sZ1) z2
          refine hK2.out _ _ sZ2 (fun _ => ?_)
          clear hK2
          try simp only [Act.put, List.getElem_toArray, List.getElem_cons_zero, List.getElem_cons_succ, List.setIfInBounds_toArray, List.set_cons_zero, List.set_cons_succ]
          refine wpAnyH_ready (rs := [4]) (by kernel_rfl) (by simp) ?_
          refine AllReadyH.cons rfl (fun K3 hK3 => ?_) AllReadyH.nil
          go_simp
          refine hK3.out _ _ sZ2 (fun _ => ?_)
          clear hK3
          try simp only [Act.put, List.getElem_toArray, List.getElem_cons_zero, List.getElem_cons_succ, List.setIfInBounds_toArray, List.set_cons_zero, List.set_cons_succ]
          refine wpAnyH_ready (rs := [5]) (by kernel_rfl) (by simp) ?_
          refine AllReadyH.cons rfl (fun K4 hK4 => ?_) AllReadyH.nil
          go_simp
          refine hK4.out _ _ sZ2 (fun _ => ?_)
          clear hK4
          try simp only [Act.put, List.getElem_toArray, List.getElem_cons_zero, List.getElem_cons_succ, List.setIfInBounds_toArray, List.set_cons_zero, List.set_cons_succ]
          refine wpAnyH_take (i := 6) (v := .pointer (some ⟨Z, 6, none⟩)) rfl (by kernel_rfl) (by kernel_rfl) (by kernel_rfl) (fun _ _ _ h => h) (Or.inl ⟨by rfl, ?_⟩) (by assumption) ?_
          · intro w5 s0
            go_simp
          try simp only [Act.put, List.getElem_toArray, List.getElem_cons_zero, List.getElem_cons_succ, List.setIfInBounds_toArray, List.set_cons_zero, List.set_cons_succ]
          refine wpAnyH_take (i := 7) (v := .slice pa3 (2 * es.length) pc3) rfl (by kernel_rfl) (by kernel_rfl) (by kernel_rfl) (fun _ _ _ h => h) (Or.inl ⟨by rfl, ?_⟩) (by assumption) ?_
          · intro w5 s0
            obtain ⟨q0, q1, q2, q3, q4, q5, q6, q7⟩ := s0.1
            simp only [Nat.zero_add] at q0 q1 q2 q3 q4 q5 q6 q7
            clear s0
            go_simp
          try simp only [Act.put, List.getElem_toArray, List.getElem_cons_zero, List.getElem_cons_succ, List.setIfInBounds_toArray, List.set_cons_zero, List.set_cons_succ]
          refine wpAnyH_take (i := 8) (v := .int .i64 ((2 * es.length : Nat) : Int)) rfl (by kernel_rfl) (by kernel_rfl) (by kernel_rfl) (fun _ _ _ h => h) (Or.inl ⟨by rfl, ?_⟩) (by assumption) ?_
          · intro w5 s0
            go_simp
          try simp only [Act.put, List.getElem_toArray, List.getElem_cons_zero, List.getElem_cons_succ, List.setIfInBounds_toArray, List.set_cons_zero, List.set_cons_succ]
          refine wpAnyH_take (i := 9) (v := .pointer (some ⟨X, 6, none⟩)) rfl (by kernel_rfl) (by kernel_rfl) (by kernel_rfl) (fun _ _ _ h => h) (Or.inl ⟨by rfl, ?_⟩) (by assumption) ?_
          · intro w5 s0
            go_simp
          try simp only [Act.put, List.getElem_toArray, List.getElem_cons_zero, List.getElem_cons_succ, List.setIfInBounds_toArray, List.set_cons_zero, List.set_cons_succ]
          refine wpAnyH_take (i := 10) (v := .slice a1 (2 * es.length) q1) rfl (by kernel_rfl) (by kernel_rfl) (by kernel_rfl) (fun _ _ _ h => h) (Or.inl ⟨by rfl, ?_⟩) (by assumption) ?_
          · intro w5 s0
            obtain ⟨q0, q1, q2, q3, q4, q5, q6, q7⟩ := s0.2
            simp only [Nat.zero_add] at q0 q1 q2 q3 q4 q5 q6 q7
            clear s0
            go_simp
          try simp only [Act.put, List.getElem_toArray, List.getElem_cons_zero, List.getElem_cons_succ, List.setIfInBounds_toArray, List.set_cons_zero, List.set_cons_succ]
          refine wpAnyH_take (i := 11) (v := .int .i64 ((2 * es.length : Nat) : Int)) rfl (by kernel_rfl) (by kernel_rfl) (by kernel_rfl) (fun _ _ _ h => h) (Or.inl ⟨by rfl, ?_⟩) (by assumption) ?_
          · intro w5 s0
            go_simp
          try simp only [Act.put, List.getElem_toArray, List.getElem_cons_zero, List.getElem_cons_succ, List.setIfInBounds_toArray, List.set_cons_zero, List.set_cons_succ]
          refine wpAnyH_take (i := 12) (v := .bool false) rfl (by kernel_rfl) (by kernel_rfl) (by kernel_rfl) (fun _ _ _ h => h) (Or.inl ⟨by rfl, ?_⟩) (by assumption) ?_
          · intro w5 s0
            go_simp
          try simp only [Act.put, List.getElem_toArray, List.getElem_cons_zero, List.getElem_cons_succ, List.setIfInBounds_toArray, List.set_cons_zero, List.set_cons_succ]
          refine wpAnyH_take (i := 13) (v := .bool false) rfl (by kernel_rfl) (by kernel_rfl) (by kernel_rfl) (fun _ _ _ h => h) (Or.inl ⟨by rfl, ?_⟩) (by assumption) ?_
          · intro w5 s0
            go_simp
          try simp only [Act.put, List.getElem_toArray, List.getElem_cons_zero, List.getElem_cons_succ, List.setIfInBounds_toArray, List.set_cons_zero, List.set_cons_succ]
          refine wpAnyH_done (by kernel_rfl) ?_ _
          clear hS
          have bZ2 : Below w.heap.size w Z2 := (bY.trans (z1.mono bY.size)).trans (z2.mono (Nat.le_trans bY.size z1.size))
          replace hd4 := hd4.up (z1.trans (z2.mono z1.size))
          have zz := sZ2.1
          clear sZ1 sZ2 s5 hup z1 z2 hd5 hraw bY bV4
          obtain ⟨hn4, hs4, pa6, pc6, e6, -, -, hpc⟩ := hd4
          rw [HPL.out] at e6
          obtain ⟨rfl, -, rfl⟩ := Value.slice.inj e6
          generalize hN : 2 * es.length = N at *
          have HN : Hid (2 * es.length = N) := hN
          have hN24 : N ≤ 24 := by omega
          have hNI : (N : Int) ≤ 24 := by omega
          clear hN e6 hn4 hs4
          go_upto_region 21 with fail
          go_loopg [13, 14, 15, 16, 17] 13 (fun g iv z14 z15 z16 z17 wr => ∃ m : Nat, iv = .int .i64 ((2 * m + 2 : Nat) : Int) ∧ m + g = 13 ∧ Below Z2.heap.size Z2 wr)
          case atStart => exact ⟨0, rfl, rfl, Below.refl _ _⟩
          case round =>
            obtain ⟨m, rfl, hmg, hbl⟩ := hrel
            have bwr : Below w.heap.size w wr := bZ2.trans (hbl.mono bZ2.size)
            have hz6 := (zz.up hbl).2.2.2.2.2.2.1
            simp only [Nat.zero_add] at hz6
            generalize hI : 2 * m + 2 = I at *
            have HI : Hid (2 * m + 2 = I) := hI
            have hI2 : 2 ≤ I := by omega
            have hI2' : (2 : Int) ≤ I := by omega
            clear hI
            by_cases hlt : I < N
            · have hltI : (I : Int) < N := by omega
              obtain ⟨A, hA⟩ : ∃ A, fd.parts[2 * m]? = some A := ⟨_, List.getElem?_eq_getElem (by rw [HPL.out]; have := HI.out; omega)⟩
              obtain ⟨B, hB⟩ : ∃ B, fd.parts[2 * m + 2]? = some B := ⟨_, List.getElem?_eq_getElem (by rw [HPL.out]; have := HI.out; omega)⟩
              obtain ⟨k, l, fk, fl, eA, eB, ek, el, kk, kl, hcm⟩ := HR.out m A B hA hB
              obtain ⟨bA, oA, nvA, pvA, rA, atA, rdA⟩ := hpc _ A hA
              obtain ⟨bB, oB, nvB, pvB, rB, atB, rdB⟩ := hpc _ B hB
              subst rA
              obtain ⟨rfl, rfl⟩ : bA = bB ∧ oA = oB := by have := Option.some.inj rB; exact ⟨congrArg Addr.block this, congrArg Addr.off this⟩
              obtain ⟨nA, ncA, ppA, pcA, eA1, eA2⟩ := rdA.slices
              obtain ⟨nB, ncB, ppB, pcB, eB1, eB2⟩ := rdB.slices
              have hbA := fun (W : World) (hW : Below Z2.heap.size Z2 W) => build_key fk ek kk (eA ▸ rdA.up hW) (by omega)
              have hbB := fun (W : World) (hW : Below Z2.heap.size Z2 W) => build_key fl el kl (eB ▸ rdB.up hW) (by omega)
              rw [← eA] at hbA
              rw [← eB] at hbB
              have hcr := cmpR_neg hcm
              rw [eA1, eA2] at hbA atA
              rw [eB1, eB2] at hbB atB
              obtain ⟨A0, A1, A2, A3, A4, A5, A6, A7⟩ := atA.up hbl
              have hiA : 2 * m = I - 2 := by have := HI.out; omega
              rw [hiA] at A0 A1 A2 A3 A4 A5 A6 A7
              rw [HI.out] at atB
              clear hA hB eA eB hcm rdA rdB hpc eA1 eA2 eB1 eB2 rB hiA HR atA ek el fk fl
              go_upto_region 24 with (go_at_call 10; refine (hbA _ hbl).mono ?_; rintro e U1 ⟨u1, ta, ya, rfl, rka⟩)
              have hbl1 : Below Z2.heap.size Z2 U1 := hbl.trans (u1.mono hbl.size)
              obtain ⟨B0, B1, B2, B3, B4, B5, B6, B7⟩ := atB.up hbl1
              have hz7 := (zz.up hbl1).2.2.2.2.2.2.1
              simp only [Nat.zero_add] at hz7
              clear A0 A1 A2 A3 A4 A5 A6 A7 hz6
              go_upto_region 25 with (go_at_call 10; refine (hbB _ hbl1).mono ?_; rintro e U2 ⟨u2, tb, yb, rfl, rkb⟩)
              have hbl2 : Below Z2.heap.size Z2 U2 := hbl1.trans (u2.mono hbl1.size)
              have hcmp := fun W => cmp_any _ _ _ _ rka rkb W
              rw [hcr] at hcmp
              clear rka rkb hcr hbA hbB B0 B1 B2 B3 B4 B5 B6 B7 hz7 atB
              go_wp2_with (go_at_call 15; refine (hcmp _).mono ?_; rintro e U3 ⟨rfl, u3⟩)
              go_roundg (gk - 1)
              case measure => have := HI.out; have := HN.out; omega
              case rel => exact ⟨m + 1, by rw [← HI.out]; go_num, by have := HI.out; omega, hbl2.trans (u3.mono hbl2.size)⟩
            · have hltI : ¬ (I : Int) < N := by omega
              clear hpc HR
              go_wp2_with (go_at_call 8; refine (lives8_any _ (hK.up bwr)).mono ?_; rintro e U1 ⟨rfl, u1⟩)
              go_ret
              exact ⟨rfl, bwr.trans (u1.mono bwr.size)⟩
        · replace hB1 := hB1.mono fun e w' h => (⟨h.1, h.2.elim (fun q => absurd q.1 h0) (fun q => q.2)⟩ : _ ∧ _)
          have hB2 := fun (W : World) (hW : Below wr.heap.size wr W) => (buildA 2 (mapD (flat2 es.reverse)) _ _ W (r2.up hW) (by omega)).mono fun e w' h => (⟨h.1, h.2.elim (fun q => absurd (hrev.symm.trans q.1) h0) (fun q => q.2)⟩ : _ ∧ _)
          have h52 := map_err_of hes' hj12 h0
          simp only [hrev] at hB2
          have ev1 : DV (mapD (flat2 es)) (.slice none 0 0) (.slice a1 (es.flatMap fun p => [p.1, p.2]).length q1) = .agg #[.int .i64 21, .string ⟨#[]⟩, .int .u64 0, .int .u64 0, .string ⟨#[]⟩, .slice none 0 0, .slice a1 (es.flatMap fun p => [p.1, p.2]).length q1, .int .i64 0] := rfl
          have ev2 : DV (mapD (flat2 es.reverse)) (.slice none 0 0) (.slice a2 (es.reverse.flatMap fun p => [p.1, p.2]).length q2) = .agg #[.int .i64 21, .string ⟨#[]⟩, .int .u64 0, .int .u64 0, .string ⟨#[]⟩, .slice none 0 0, .slice a2 (es.reverse.flatMap fun p => [p.1, p.2]).length q2, .int .i64 0] := rfl
          rw [ev1] at hB1
          simp only [ev2] at hB2
          rw [hl24] at hB1 c6
          simp only [hl25] at hB2
          have hMy := hM.y
          rw [hl25] at hMy
          clear ev1 ev2 hl24 hl25 hM hes h0 hrev r1 r2 x0
          generalize bErr (mapD (flat2 es)) = er at *
          go_upto_region 12 with (go_at_call 10; refine hB1.mono ?_; rintro e V1 ⟨v1, rfl⟩)
          obtain ⟨d0, d1, d2, d3, d4, d5, d6, d7⟩ := hMy.up v1
          simp only [Nat.zero_add, mapD] at d0 d1 d2 d3 d4 d5 d6 d7
          go_upto_region 13 with (go_at_call 10; refine (hB2 _ v1).mono ?_; rintro e V2 ⟨v2, rfl⟩)
          clear hB1 hB2 c0 c1 c2 c3 c4 c5 c6 c7 d0 d1 d2 d3 d4 d5 d6 d7 hMy
          have bV2 : Below w.heap.size w V2 := (bwr.trans (v1.mono bwr.size)).trans (v2.mono (Nat.le_trans bwr.size v1.size))
          rcases h52 with rfl | rfl
          · go_wp2_with (go_at_call 8; refine (lives8_any _ (hK.up bV2)).mono ?_; rintro e U1 ⟨rfl, u1⟩)
            go_ret
            exact ⟨rfl, bV2.trans (u1.mono bV2.size)⟩
          · go_wp2_with (go_at_call 8; refine (lives8_any _ (hK.up bV2)).mono ?_; rintro e U1 ⟨rfl, u1⟩)
            go_ret
            exact ⟨rfl, bV2.trans (u1.mono bV2.size)⟩

theorem valuesMaps_walk (l : List D) (n : Nat) (v : Value) (w : World) (hK : KN w) (hp : PsD n w v l) :
    Calls Tryd.prog 5 #[v] w fun e w' => e = .returned (.bool true) ∧ Below w.heap.size w w' := by
  obtain ⟨a, c, rfl, h1, h2, h3⟩ := hp
  refine maps_walk0 l a c w hK (Nat.le_trans h1 h2) fun i x hx => ?_
  obtain ⟨b, off, nv, pv, e, hA, hr⟩ := h3 i x hx
  refine ⟨b, off, nv, pv, e, hA, ?_⟩
  cases n with
  | zero => exact hr.elim
  | succ n => exact hr.1
end Go.Proofs.YtjphklhfigammaaDoor
