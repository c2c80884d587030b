/- VRow8, VInF, VParts: these texts in one. -/
import Derived.Test.YtlgieoabellbmaaGreatDoorPt11
import Derived.Deep.AppendLies
import Derived.Test.YtlgieoabellbmaaGreatDoorVRaw
import Derived.OwnWalk
import Derived.Maps.AppendAt
namespace Go.Proofs.YtlgieoabellbmaaGreatDoor
open Go.RowKit
set_option linter.unusedVariables false
set_option linter.unusedSimpArgs false
abbrev c8 (t : D × Value × Value) : List Value := [.int .i64 t.1.kind, .string t.1.ty, .int .u64 t.1.bits, .int .u64 t.1.imag, .string t.1.text, t.2.1, t.2.2, .int .i64 t.1.hook]
theorem info_Desc : ∃ i, Tryz.prog.info? 26 = some i ∧ i.zero = some (.agg #[.int .i64 0, .string ⟨#[]⟩, .int .u64 0, .int .u64 0, .string ⟨#[]⟩, .slice none 0 0, .slice none 0 0, .int .i64 0]) ∧ i.size = 8 ∧ i.bytes = 112 := by
 have h : (Tryz.prog.info? 26).map (fun i => (i.zero, i.size, i.bytes)) = some (some (.agg #[.int .i64 0, .string ⟨#[]⟩, .int .u64 0, .int .u64 0, .string ⟨#[]⟩, .slice none 0 0, .slice none 0 0, .int .i64 0]), 8, 112) := by kernel_rfl
 obtain ⟨i, hi, hb⟩ := Option.map_eq_some_iff.1 h
 simp only [Prod.mk.injEq] at hb
 exact ⟨i, hi, hb⟩
def Row8 (n B : Nat) (W : World) (v : Value) (l : List D) : Prop :=
 ∃ ds : List (D × Value × Value), ds.map (·.1) = l ∧ W.ownsRow B 26 8 v l.length (ds.flatMap c8) ∧ ∀ t ∈ ds, RdS n (fun b => B ≤ b ∧ v.ownBlock ≠ some b) W t.2.1 t.2.2 t.1
theorem Row8.nil (n B : Nat) (W : World) : Row8 n B W (.slice none 0 0) [] := ⟨[], rfl, World.ownsRow_nil _ _ _ _, fun t ht => by cases ht⟩
theorem Row8.up {n B : Nat} {W W' : World} {v : Value} {l : List D} (h : Row8 n B W v l) (hb : Below W.heap.size W W') : Row8 n B W' v l := by
 obtain ⟨ds, e, h1, h2⟩ := h
 exact ⟨ds, e, own_upZ h1 hb, fun t ht => (h2 t ht).turn (Kept.below hb fun b hb _ => hb)⟩
theorem Row8.slice {n B : Nat} {W : World} {v : Value} {l : List D} (h : Row8 n B W v l) : ∃ a c, v = .slice a l.length c ∧ l.length ≤ c ∧ c ≤ maxLen := by
 obtain ⟨ds, e, h1, h2⟩ := h
 exact own_sliceZ h1
theorem Row8.lt {n B : Nat} {W : World} {v : Value} {l : List D} (h : Row8 n B W v l) : ∀ k, v.ownBlock = some k → B ≤ k ∧ k < W.heap.size := by
 obtain ⟨ds, e, h1, h2⟩ := h
 exact h1.lt
theorem Row8.set {n B X : Nat} {W : World} {v : Value} {l : List D} (h : Row8 n B W v l) (hX : X < B) (o : Nat) (u : Value) : Row8 n B (W.setCell ⟨X, o, none⟩ u) v l := by
 obtain ⟨ds, e, h1, h2⟩ := h
 refine ⟨ds, e, ownsRow_setCell_below h1 hX u, fun t ht => (h2 t ht).turn fun b hb _ => ⟨hb, fun o' => ?_⟩⟩
 exact World.cell?_of_block (w := W) (a := ⟨b, o', none⟩) (Below.heap_setCell _ _ _ _ (by have := hb.1; dsimp only; omega))
theorem flat8_at : ∀ (ds : List (D × Value × Value)) (i : Nat) (t : D × Value × Value), ds[i]? = some t → ∀ (k : Nat) (u : Value), (c8 t)[k]? = some u → (ds.flatMap c8)[i * 8 + k]? = some u
 | [], i, t, h, _, _, _ => by simp at h
 | x :: r, 0, t, h, k, u, hu => by
   simp at h
   subst h
   have hk : k < (c8 x).length := (List.getElem?_eq_some_iff.1 hu).1
   rw [List.flatMap_cons, Nat.zero_mul, Nat.zero_add, List.getElem?_append_left hk]
   exact hu
 | x :: r, i + 1, t, h, k, u, hu => by
   have := flat8_at r i t (by simpa using h) k u hu
   have hl : (c8 x).length = 8 := rfl
   rw [List.flatMap_cons, List.getElem?_append_right (by rw [hl]; omega), hl, show (i + 1) * 8 + k - 8 = i * 8 + k by omega]
   exact this
theorem Row8.reads {n B : Nat} {W : World} {v : Value} {l : List D} (h : Row8 n B W v l) : ∃ a cap, v = .slice a l.length cap ∧ l.length ≤ cap ∧ cap ≤ maxLen ∧
  ∀ (i : Nat) (x : D), l[i]? = some x → ∃ b off nv' pv', a = some ⟨b, off, none⟩ ∧ B ≤ b ∧ At8 W b (off + i * 8) x nv' pv' ∧ RdS n (fun b => B ≤ b) W nv' pv' x := by
 obtain ⟨a, c, rfl, h1, h2⟩ := h.slice
 obtain ⟨ds, e, ho, hd⟩ := h
 refine ⟨a, c, rfl, h1, h2, fun i x hx => ?_⟩
 rw [← e, List.getElem?_map, Option.map_eq_some_iff] at hx
 obtain ⟨t, ht, rfl⟩ := hx
 have hil : i < l.length := by rw [← e, List.length_map]; exact (List.getElem?_eq_some_iff.1 ht).1
 rcases ho.2 with ⟨h3, h4⟩ | ⟨g, cap, cur, hv, hB, hg, -⟩
 ·omega
 ·obtain ⟨rfl, -, -⟩ := Value.slice.inj hv
  have hc : ∀ k u, (c8 t)[k]? = some u → W.cell? ⟨g, i * 8 + k, none⟩ = some u := fun k u hu => by
   have hk : k < 8 := (List.getElem?_eq_some_iff.1 hu).1
   rw [ho.cellAt _ (by omega)]
   exact flat8_at ds i t ht k u hu
  refine ⟨g, 0, t.2.1, t.2.2, rfl, hB, ?_, (hd t (List.mem_of_getElem? ht)).turn fun b hb _ => ⟨hb.1, fun _ => rfl⟩⟩
  rw [Nat.zero_add]
  exact ⟨hc 0 _ rfl, hc 1 _ rfl, hc 2 _ rfl, hc 3 _ rfl, hc 4 _ rfl, hc 5 _ rfl, hc 6 _ rfl, hc 7 _ rfl⟩
theorem RdS.one {n : Nat} {S : Nat → Prop} {W : World} {nv pv : Value} {d : D} (h : RdS n S W nv pv d) : nv.oneCell' = true ∧ pv.oneCell' = true := by
 cases n with
 | zero => exact h.elim
 | succ n =>
   obtain ⟨-, ⟨a, c, rfl, -⟩, a', c', rfl, -⟩ := h
   exact ⟨rfl, rfl⟩
theorem row8_app {n B : Nat} {W0 w' : World} {v v' : Value} {l : List D} (h : Row8 n B W0 v l) {y : D} {nv pv : Value} (hy : RdS n (fun b => B ≤ b ∧ v.ownBlock ≠ some b) W0 nv pv y) (cs : Obj)
  (ho : ∀ ds : List (D × Value × Value), W0.ownsRow B 26 8 v l.length (ds.flatMap c8) → w'.ownsRow B 26 8 v' (l.length + 1) (ds.flatMap c8 ++ c8 (y, nv, pv))) (hg : (W0.alloc cs).grownBy w' v.ownBlock) (hat : v'.ownBlock = v.ownBlock ∨ v'.ownBlock = some (W0.alloc cs).heap.size) : Row8 n B w' v' (l ++ [y]) := by
 obtain ⟨ds, e, h1, h2⟩ := h
 have hk : Kept (fun b => B ≤ b ∧ v.ownBlock ≠ some b) (fun b => B ≤ b ∧ v'.ownBlock ≠ some b) W0 w' := by
  intro b hb hl
  refine ⟨⟨hb.1, ?_⟩, fun o => ?_⟩
  ·rcases hat with hat | hat
   ·rw [hat]; exact hb.2
   ·rw [hat]
    intro h
    have := Option.some.inj h
    simp at this
    omega
  ·exact (World.cell?_of_block (w := W0.alloc cs) (a := ⟨b, o, none⟩) (hg.block b (by simp; omega) (Ne.symm hb.2))).trans (World.cell?_of_block (w := W0) (a := ⟨b, o, none⟩) (Below.heap_alloc _ _ _ hl))
 refine ⟨ds ++ [(y, nv, pv)], by rw [List.map_append, e]; rfl, ?_, fun t ht => ?_⟩
 ·rw [List.length_append, List.flatMap_append]
  exact ho ds h1
 ·rcases List.mem_append.1 ht with ht | ht
  ·exact (h2 t ht).turn hk
  ·rw [List.mem_singleton.1 ht]
   exact hy.turn hk
theorem wp_app8 {o : Oper} {a : Act} {K : Act → World → Prop} {Q : Exit → Act → World → Prop} (s x : Operand) (ho : o.op = .call { callee := .builtin .append, args := #[s, x], argTypes := #[24, 24] })
  {n B : Nat} {W0 W : World} {v : Value} {l : List D} (h : Row8 n B W0 v l) (y : D) (nv pv : Value) (hy : RdS n (fun b => B ≤ b ∧ v.ownBlock ≠ some b) W0 nv pv y)
  (hs : a.eval s = v) (hx : a.eval x = .slice (some ⟨W0.heap.size, 0, none⟩) 1 1) (hw : W = W0.alloc (.cells #[.int .i64 y.kind, .string y.ty, .int .u64 y.bits, .int .u64 y.imag, .string y.text, nv, pv, .int .i64 y.hook] 26)) (hl : l.length ≤ 100000) (hB : B ≤ W0.heap.size)
  (hk : ∀ v' w', (∃ ao c, v' = .slice ao (l.length + 1) c) → Row8 n B w' v' (l ++ [y]) → W0.grownBy w' v.ownBlock → K (a.put o.dst v') w') : o.wp Tryz.prog a W K Q := by
 obtain ⟨i0, hi, hz0, hz1, hz2⟩ := info_Desc
 obtain ⟨ds, e, h1, h2⟩ := id h
 obtain ⟨n1, n2⟩ := hy.one
 subst hw
 have al : ∀ j u, (c8 (y, nv, pv))[j]? = some u → (W0.alloc (.cells (c8 (y, nv, pv)).toArray 26)).cell? ((⟨W0.heap.size, 0, none⟩ : Addr).add j) = some u := by
  intro j u hj
  rw [show ((⟨W0.heap.size, 0, none⟩ : Addr).add j) = ⟨W0.heap.size, j, none⟩ by unfold Addr.add; split <;> simp_all]
  exact (cell_of_row (W0.alloc (.cells (c8 (y, nv, pv)).toArray 26)) W0.heap.size j (c8 (y, nv, pv)).toArray 26 (0, 0) (heap_alloc_new W0 _)).trans (by simpa using hj)
 have one : ∀ u ∈ c8 (y, nv, pv), u.oneCell' = true := by
  intro u hu
  simp at hu
  rcases hu with rfl | rfl | rfl | rfl | rfl | rfl | rfl | rfl
  all_goals first | rfl | assumption
 have key : ∀ ds : List (D × Value × Value), W0.ownsRow B 26 8 v l.length (ds.flatMap c8) → ∃ v' w', (Builtin.append_ #[24, 24] o.type #[v, .slice (some ⟨W0.heap.size, 0, none⟩) 1 1]).run Tryz.prog (W0.alloc (.cells (c8 (y, nv, pv)).toArray 26)) = .ok v' w' ∧ w'.ownsRow B 26 8 v' (l.length + 1) (ds.flatMap c8 ++ c8 (y, nv, pv)) ∧ (W0.alloc (.cells (c8 (y, nv, pv)).toArray 26)).grownBy w' v.ownBlock ∧ (v'.ownBlock = v.ownBlock ∨ v'.ownBlock = some (W0.alloc (.cells (c8 (y, nv, pv)).toArray 26)).heap.size) := by
  intro ds h1
  obtain ⟨v', w', hr, q2, q3, -, q5⟩ := run_append_own_at (P := Tryz.prog) (W0.alloc (.cells (c8 (y, nv, pv)).toArray 26)) B 24 o.type 26 i0 _ 8 112 Tryz.underlying24 hi hz0 hz1 hz2 rfl (by decide) v l.length (ds.flatMap c8) (h1.alloc _) ⟨W0.heap.size, 0, none⟩ 1 1 (c8 (y, nv, pv)) rfl al one (by unfold maxLen; omega) (by omega) (by simp; omega)
  exact ⟨v', w', hr, q2, q3, q5⟩
 obtain ⟨v', w', hr, q2, q3, q5⟩ := key ds h1
 obtain ⟨ao, c, e2, -, -⟩ := own_sliceZ q2
 have hR : Row8 n B w' v' (l ++ [y]) := by
  refine row8_app h hy _ (fun ds' h' => ?_) q3 q5
  obtain ⟨v2, w2, hr2, p2, -, -⟩ := key ds' h'
  rw [hr] at hr2
  cases hr2
  exact p2
 unfold Oper.wp execOp
 simp only [ho, resolve, invoke, builtin, Sem.run_bind, Sem.run_pure, Result.andThen_ok, List.map_toArray, List.map_cons, List.map_nil, hs, hx, hr]
 refine hk v' w' ⟨ao, c, e2⟩ hR ?_
 exact (World.grownBy_alloc W0 _ _).trans q3
theorem gr_belowV {w w' : World} (hb : Below w.heap.size w w') (row : Option Nat) : w.grownBy w' row := ⟨hb.os, hb.tape, hb.output, hb.size, fun k hk _ => hb.block k hk⟩
theorem gr_putV {w w' : World} {R o : Nat} (h : w.grownBy w' (some R)) (v : Value) : w.grownBy (w'.setCell ⟨R, o, none⟩ v) (some R) :=
 ⟨h.os, h.tape, h.output, by simpa [World.setCell] using h.size, fun k hk hne => by rw [Below.heap_setCell _ _ _ _ (fun e => hne (by rw [e]))]; exact h.block k hk hne⟩
structure PBx (W5 : World) (X n : Nat) (d : D) (nv pv : Value) (l : List D) (wr : World) : Prop where
 g : W5.grownBy wr (some X)
 a : At8 wr X 0 d nv pv
 z : ∀ i, wr.frozen? ⟨X, i, none⟩ = false
 r : Row8 n W5.heap.size wr pv l
 x : X < W5.heap.size
theorem PBx.up {W5 : World} {X n : Nat} {d : D} {nv pv : Value} {l : List D} {wr wr' : World} (h : PBx W5 X n d nv pv l wr) (hb : Below wr.heap.size wr wr') : PBx W5 X n d nv pv l wr' :=
 ⟨h.g.trans (gr_belowV hb _), h.a.up hb, fun i => (hb.frozen (p := ⟨X, i, none⟩) (Nat.lt_of_lt_of_le h.x h.g.size)).trans (h.z i), h.r.up hb, h.x⟩
theorem PBx.app {W5 : World} {X n : Nat} {d : D} {nv pv v' : Value} {l l' : List D} {wr w' : World} (h : PBx W5 X n d nv pv l wr) (hr : Row8 n W5.heap.size w' v' l') (hg : wr.grownBy w' pv.ownBlock) : PBx W5 X n d nv v' l' (w'.setCell ⟨X, 6, none⟩ v') := by
 have hx := h.x
 have hne : some X ≠ pv.ownBlock := fun e => by have := (h.r.lt X e.symm).1; omega
 have hXw : X < wr.heap.size := Nat.lt_of_lt_of_le h.x h.g.size
 have hc : ∀ o, w'.cell? ⟨X, o, none⟩ = wr.cell? ⟨X, o, none⟩ := fun o => hg.cell_far ⟨X, o, none⟩ hXw hne
 have hz : ∀ o, w'.frozen? ⟨X, o, none⟩ = wr.frozen? ⟨X, o, none⟩ := fun o => hg.frozen_far ⟨X, o, none⟩ hXw hne
 obtain ⟨a0, a1, a2, a3, a4, a5, a6, a7⟩ := h.a
 simp only [Nat.zero_add] at a0 a1 a2 a3 a4 a5 a6 a7
 rw [← hc] at a0 a1 a2 a3 a4 a5 a6 a7
 have hg5 : W5.grownBy w' (some X) := by
  refine ⟨hg.os.trans h.g.os, hg.tape.trans h.g.tape, hg.output.trans h.g.output, Nat.le_trans h.g.size hg.size, fun k hk hne2 => ?_⟩
  refine (hg.block k (Nat.lt_of_lt_of_le hk h.g.size) fun e => ?_).trans (h.g.block k hk hne2)
  have := (h.r.lt k e.symm).1
  omega
 refine ⟨gr_putV hg5 _, ?_, fun i => ?_, hr.set hx 6 v', hx⟩
 ·refine ⟨?_, ?_, ?_, ?_, ?_, ?_, ?_, ?_⟩
  all_goals simp [go_sem, a0, a1, a2, a3, a4, a5, a6, a7]
 ·rw [show (w'.setCell ⟨X, 6, none⟩ v').frozen? ⟨X, i, none⟩ = w'.frozen? ⟨X, i, none⟩ from World.frozen?_setCell _ _ _ _, hz]
  exact h.z i
end Go.Proofs.YtlgieoabellbmaaGreatDoor
namespace Go.Proofs.YtlgieoabellbmaaGreatDoor
open Go.RowKit
set_option linter.unusedVariables false
set_option linter.unusedSimpArgs false
def flat2 (l : List (D × D)) : List D := l.flatMap fun p => [p.1, p.2]
theorem flat2_len : ∀ l : List (D × D), (flat2 l).length = 2 * l.length
 | [] => rfl
 | p :: t => by
   have := flat2_len t
   unfold flat2 at *
   rw [List.flatMap_cons, List.length_append, this, List.length_cons]
   simp
   omega
theorem flat2_get : ∀ (l : List (D × D)) (i : Nat) (p : D × D), l[i]? = some p → (flat2 l)[2 * i]? = some p.1 ∧ (flat2 l)[2 * i + 1]? = some p.2
 | [], i, p, h => by simp at h
 | q :: t, 0, p, h => by
   simp at h
   subst h
   exact ⟨rfl, rfl⟩
 | q :: t, i + 1, p, h => by
   have := flat2_get t i p (by simpa using h)
   rw [show 2 * (i + 1) = 2 * i + 2 by omega]
   exact this
theorem flat2_map (f : D → D) : ∀ l : List (D × D), flat2 (l.map (Prod.map f f)) = (flat2 l).map f
 | [] => rfl
 | p :: t => by
   have := flat2_map f t
   unfold flat2 at *
   rw [List.map_cons, List.flatMap_cons, this, List.flatMap_cons, List.map_append]
   rfl
theorem prs2_flat2 : ∀ l : List (D × D), prs2 (flat2 l) = l
 | [] => rfl
 | p :: t => by
   have := prs2_flat2 t
   unfold flat2 at *
   rw [List.flatMap_cons]
   show (p.1, p.2) :: prs2 (t.flatMap fun p => [p.1, p.2]) = _
   rw [this]
theorem flat2_prs2 : ∀ l : List D, l.length % 2 = 0 → flat2 (prs2 l) = l
 | [], _ => rfl
 | [_], h => by simp at h
 | a :: b :: t, h => by
   have := flat2_prs2 t (by simp at h; omega)
   unfold flat2 at *
   rw [prs2, List.flatMap_cons, this]
   rfl
theorem flat2_mem {l : List (D × D)} {x : D} (h : x ∈ flat2 l) : ∃ p ∈ l, x = p.1 ∨ x = p.2 := by
 obtain ⟨p, hp, hx⟩ := List.mem_flatMap.1 h
 refine ⟨p, hp, ?_⟩
 simpa using hx
theorem prs2_map (f : D → D) : ∀ l : List D, prs2 (l.map f) = (prs2 l).map (Prod.map f f)
 | [] => rfl
 | [_] => rfl
 | a :: b :: t => by
   rw [List.map_cons, List.map_cons, prs2, prs2, prs2_map f t, List.map_cons]
   rfl
theorem srt_map (f : D → D) (l : List D) (h : ∀ p ∈ prs2 l, rkF (f p.1) = rkF p.1) : srt (l.map f) = (srt l).map (Prod.map f f) := by
 unfold srt
 rw [prs2_map]
 symm
 refine List.map_mergeSort (fun a ha b hb => ?_)
 unfold leP cmpP
 show decide (cmpR (rkF a.1) (rkF b.1) ≤ 0) = decide (cmpR (rkF (f a.1)) (rkF (f b.1)) ≤ 0)
 rw [h a ha, h b hb]
def vp (d : D) : List D := if d.kind = 21 then flat2 (srt d.parts) else if great d.kind then d.parts else []
theorem vp_mem {d x : D} (h : x ∈ vp d) : great d.kind = true ∧ x ∈ d.parts := by
 unfold vp at h
 split at h
 ·rename_i hk
  obtain ⟨p, hp, hx⟩ := flat2_mem h
  have := prs2_mem ((srt_perm d.parts).subset hp)
  refine ⟨by simp [great]; omega, ?_⟩
  rcases hx with rfl | rfl
  ·exact this.1
  ·exact this.2
 ·split at h
  ·exact ⟨by assumption, h⟩
  ·cases h
def inF : D → D
 | ⟨kind, ty, bits, imag, text, names, parts, hook⟩ => if kind = 0 then ⟨0, ⟨#[]⟩, 0, 0, ⟨#[]⟩, [], [], 0⟩ else ⟨kind, ty, inBits kind bits, inImag kind imag, inText kind text, if kind = 18 then names else [], if kind = 21 then flat2 (srt (parts.map fun x => inF x)) else if great kind then parts.map (fun x => inF x) else [], hook⟩
theorem inF_eq (d : D) : inF d = if d.kind = 0 then d00 else ⟨d.kind, d.ty, inBits d.kind d.bits, inImag d.kind d.imag, inText d.kind d.text, if d.kind = 18 then d.names else [], if d.kind = 21 then flat2 (srt (d.parts.map inF)) else if great d.kind then d.parts.map inF else [], d.hook⟩ := by
 obtain ⟨kind, ty, bits, imag, text, names, parts, hook⟩ := d
 rw [inF]
 rfl
theorem inF_kind (d : D) : (inF d).kind = d.kind := by
 rw [inF_eq]
 split
 ·rename_i h; exact h.symm
 ·rfl
theorem inF_flat (d : D) (h1 : d.kind ≤ 17) : inF d = inFlat d := by
 rw [inF_eq]
 unfold inFlat
 have hg : great d.kind = false := by simp [great]; omega
 split
 ·rfl
 ·rw [if_neg (by omega), if_neg (by omega), hg]
  rfl
theorem sgN_in (k b : Int) (h : 2 ≤ k ∧ k ≤ 6) : sgN k (inBits k b) = sgN k b := by
 have h2 : sgnB k = true := by simp [sgnB]; omega
 unfold inBits numF
 rw [if_neg (by omega), if_pos (by omega), if_pos h2]
 unfold sgN swr
 (repeat' split) <;> omega
theorem unN_in (k b : Int) (h : 7 ≤ k ∧ k ≤ 11) : unN k (inBits k b) = unN k b := by
 have h2 : sgnB k = false := by simp [sgnB]; omega
 unfold inBits numF
 rw [if_neg (by omega), if_pos (by omega), h2]
 unfold unN
 (repeat' split) <;> first | omega | simp_all
theorem rkF_in (a : D) (hk : keyB a.kind = true) : rkF (inF a) = rkF a := by
 have h : a.kind = 1 ∨ (2 ≤ a.kind ∧ a.kind ≤ 6) ∨ (7 ≤ a.kind ∧ a.kind ≤ 11) ∨ a.kind = 16 := by simp [keyB] at hk; omega
 rw [inF_flat a (key_le hk)]
 unfold rkF
 rw [inFlat_kind]
 have hf : inFlat a = ⟨a.kind, a.ty, inBits a.kind a.bits, inImag a.kind a.imag, inText a.kind a.text, [], [], a.hook⟩ := by unfold inFlat; rw [if_neg (by omega)]
 rw [hf]
 dsimp only
 rcases h with h | h | h | h
 ·rw [if_pos h, if_pos h]
  have : inBits a.kind a.bits % 2 = a.bits % 2 := by unfold inBits; rw [if_pos h]; omega
  rw [this]
 ·rw [if_neg (by omega), if_pos h, if_neg (by omega), if_pos h, sgN_in _ _ h]
 ·rw [if_neg (by omega), if_neg (by omega), if_pos h, if_neg (by omega), if_neg (by omega), if_pos h, unN_in _ _ h]
 ·rw [if_neg (by omega), if_neg (by omega), if_neg (by omega), if_neg (by omega), if_neg (by omega), if_neg (by omega)]
  unfold inText
  rw [if_pos (.inl h)]
theorem prs2_key {l : List D} (h : ∀ (i : Nat) (a : D), l[2 * i]? = some a → keyB a.kind = true) {p : D × D} (hp : p ∈ prs2 l) : keyB p.1.kind = true := by
 obtain ⟨i, hi⟩ := List.mem_iff_getElem?.1 hp
 exact h i p.1 (prs2_get l i p hi).1
def KeyD (d : D) : Prop := d.kind = 21 → ∀ (i : Nat) (a : D), d.parts[2 * i]? = some a → keyB a.kind = true
theorem inF_parts (d : D) (h : KeyD d) : (inF d).parts = (vp d).map inF := by
 rw [inF_eq]
 unfold vp
 by_cases h0 : d.kind = 0
 ·have hg : great d.kind = false := by simp [great]; omega
  rw [if_pos h0, if_neg (by omega), hg]
  rfl
 ·rw [if_neg h0]
  dsimp only
  by_cases h21 : d.kind = 21
  ·rw [if_pos h21, if_pos h21, srt_map inF d.parts (fun p hp => rkF_in p.1 (prs2_key (h h21) hp)), flat2_map]
  ·rw [if_neg h21, if_neg h21]
   split
   ·rfl
   ·rfl
theorem key_of {d : D} (h : frmB d = true) : KeyD d := by
 intro h21 i a ha
 unfold frmB at h
 rw [if_neg (by omega), if_neg (by omega), if_pos h21] at h
 simp at h
 have := h.2
 unfold entB at this
 exact evB_key (Bool.and_eq_true_iff.1 this).1 ha
end Go.Proofs.YtlgieoabellbmaaGreatDoor
namespace Go.Proofs.YtlgieoabellbmaaGreatDoor
open Go.RowKit
set_option linter.unusedVariables false
set_option linter.unusedSimpArgs false
set_option maxRecDepth 1000000 in
set_option maxHeartbeats 1000000 in
theorem partsof_pair (v : Value) (w : World) : Calls Tryz.prog 28 #[.iface 112 v] w fun e w' => e = .returned (.slice none 0 0) ∧ w' = w := by
 have h1 := ta_pair_structure
 have h2 := ta_pair_list
 have h3 := ta_pair_dictionary
 have h4 := ta_pair_pointer
 go_enter Tryz.func28, Tryz.ntmps28
 go_wp2
 go_ret
 exact ⟨rfl, rfl⟩
set_option maxRecDepth 1000000 in
set_option maxHeartbeats 1000000 in
theorem partsof_structure (k h : Int) (ty : ByteArray) (a1 : Option Addr) (n1 c1 : Nat) (a2 : Option Addr) (n2 c2 : Nat) (w : World) : Calls Tryz.prog 28 #[.iface 86 (.agg #[.int .i64 k, .string ty, .int .i64 h, .slice a1 n1 c1, .slice a2 n2 c2])] w fun e w' => e = .returned (.slice a2 n2 c2) ∧ Below w.heap.size w w' := by
 have h0 := ta_structure_structure
 go_enter Tryz.func28, Tryz.ntmps28
 go_wp2
 go_ret
 exact ⟨rfl, (Below.refl _ _).alloc (Nat.le_refl _) _⟩
set_option maxRecDepth 1000000 in
set_option maxHeartbeats 1000000 in
theorem partsof_list (k h : Int) (ty : ByteArray) (a2 : Option Addr) (n2 c2 : Nat) (w : World) : Calls Tryz.prog 28 #[.iface 88 (.agg #[.int .i64 k, .string ty, .int .i64 h, .slice a2 n2 c2])] w fun e w' => e = .returned (.slice a2 n2 c2) ∧ Below w.heap.size w w' := by
 have h0 := ta_list_structure
 have h1 := ta_list_list
 go_enter Tryz.func28, Tryz.ntmps28
 go_wp2
 go_ret
 exact ⟨rfl, (Below.refl _ _).alloc (Nat.le_refl _) _⟩
set_option maxRecDepth 1000000 in
set_option maxHeartbeats 1000000 in
theorem partsof_pointer (k h : Int) (ty : ByteArray) (n : Int) (a2 : Option Addr) (n2 c2 : Nat) (w : World) : Calls Tryz.prog 28 #[.iface 95 (.agg #[.int .i64 k, .string ty, .int .i64 h, .int .u64 n, .slice a2 n2 c2])] w fun e w' => e = .returned (.slice a2 n2 c2) ∧ Below w.heap.size w w' := by
 have h0 := ta_pointer_structure
 have h1 := ta_pointer_list
 have h2 := ta_pointer_dictionary
 have h3 := ta_pointer_pointer
 go_enter Tryz.func28, Tryz.ntmps28
 go_wp2
 go_ret
 exact ⟨rfl, (Below.refl _ _).alloc (Nat.le_refl _) _⟩
theorem info_Value : ∃ i, Tryz.prog.info? 28 = some i ∧ i.zero = some .nilIface ∧ i.size = 1 ∧ i.bytes = 16 := by
 have h : (Tryz.prog.info? 28).map (fun i => (i.zero, i.size, i.bytes)) = some (some .nilIface, 1, 16) := by kernel_rfl
 obtain ⟨i, hi, hb⟩ := Option.map_eq_some_iff.1 h
 simp only [Prod.mk.injEq] at hb
 exact ⟨i, hi, hb⟩
set_option maxRecDepth 1000000 in
set_option maxHeartbeats 4000000 in
theorem partsof_dictionary (R : Value → D → Prop) (S : Nat → Prop) (k h : Int) (ty : ByteArray) (m : List (D × D)) (fa : Option Addr) (fc : Nat) (w : World) (hm : m.length ≤ 1000) (hv : Ents R S w fa m) :
  Calls Tryz.prog 28 #[.iface 91 (.agg #[.int .i64 k, .string ty, .int .i64 h, .slice fa m.length fc])] w fun e w' => Below w.heap.size w w' ∧ ∃ ga gc, e = .returned (.slice ga (flat2 m).length gc) ∧ (flat2 m).length ≤ gc ∧ gc ≤ maxLen ∧ Vals R (fun b => w.heap.size ≤ b) w' ga (flat2 m) := by
 have h0 := ta_dictionary_structure
 have h1 := ta_dictionary_list
 have h2 := ta_dictionary_dictionary
 obtain ⟨i0, hi, hz0, hz1, hz2⟩ := info_Value
 obtain ⟨W1, hW1⟩ : ∃ W1, W1 = w.alloc (.cells #[.int .i64 k, .string ty, .int .i64 h, .slice fa m.length fc] 91) := ⟨_, rfl⟩
 have hb1 : Below w.heap.size w W1 := by rw [hW1]; exact (Below.refl _ _).alloc (Nat.le_refl _) _
 have hmI : (m.length : Int) ≤ 1000 := by omega
 rw [flat2_len]
 go_enter Tryz.func28, Tryz.ntmps28
 go_wp2
 rw [← hW1]
 clear hW1
 go_loopg [6, 8, 27] m.length (fun g sv _ iv wr => ∃ (j : Nat) (us : List Value), iv = .int .i64 (j : Nat) ∧ j + g = m.length ∧ us.length ≤ 2 * j ∧ 2 * j ≤ us.length ∧ wr.ownsRow w.heap.size 28 1 sv us.length us ∧ Below w.heap.size w wr ∧ Hid (∀ (q : Nat) (p : D × D), q < j → m[q]? = some p → ∃ t u t' u', us[2 * q]? = some (.iface t u) ∧ us[2 * q + 1]? = some (.iface t' u') ∧ R (.iface t u) p.1 ∧ R (.iface t' u') p.2))
 case atStart => exact ⟨0, [], rfl, by omega, Nat.le_refl _, Nat.le_refl _, World.ownsRow_nil _ _ _ _, hb1, fun q p hq => by omega⟩
 case round =>
  obtain ⟨j, us, rfl, hjg, hu1, hu2, hown, hbl, HV⟩ := hrel
  obtain ⟨ao, ca, rfl, hca, hcm⟩ := own_sliceZ hown
  by_cases hlt : j < m.length
  ·have hltI : (j : Int) < m.length := by omega
   obtain ⟨p, hp⟩ : ∃ p, m[j]? = some p := ⟨_, List.getElem?_eq_getElem hlt⟩
   obtain ⟨B, off, t, u, t', u', rfl, hSB, ca0, ca1, hR0, hR1⟩ := hv j p hp
   have hBw : B < w.heap.size := lt_of_cell ca0
   have q0 : wr.cell? ⟨B, off + j * 2, none⟩ = some (.iface t u) := (hbl.cell (p := ⟨B, off + j * 2, none⟩) hBw).trans ca0
   have q1 : wr.cell? ⟨B, off + j * 2 + 1, none⟩ = some (.iface t' u') := (hbl.cell (p := ⟨B, off + j * 2 + 1, none⟩) hBw).trans ca1
   have HV2 : Hid (∀ (q : Nat) (p : D × D), q < j + 1 → m[q]? = some p → ∃ t2 u2 t3 u3, (us ++ [.iface t u, .iface t' u'])[2 * q]? = some (.iface t2 u2) ∧ (us ++ [.iface t u, .iface t' u'])[2 * q + 1]? = some (.iface t3 u3) ∧ R (.iface t2 u2) p.1 ∧ R (.iface t3 u3) p.2) := by
    intro q p' hq hp'
    by_cases hqj : q < j
    ·obtain ⟨t2, u2, t3, u3, e1, e2, e3, e4⟩ := HV.out q p' hqj hp'
     exact ⟨t2, u2, t3, u3, by rw [List.getElem?_append_left (by omega)]; exact e1, by rw [List.getElem?_append_left (by omega)]; exact e2, e3, e4⟩
    ·obtain rfl : q = j := by omega
     rw [hp] at hp'
     obtain rfl := Option.some.inj hp'
     refine ⟨t, u, t', u', ?_, ?_, hR0, hR1⟩
     ·rw [List.getElem?_append_right (by omega), show 2 * q - us.length = 0 by omega]; rfl
     ·rw [List.getElem?_append_right (by omega), show 2 * q + 1 - us.length = 1 by omega]; rfl
   have hsz := hbl.size
   have hul : us.length ≤ 2000 := by omega
   have hulen : us.length + 2 ≤ 2 * (j + 1) ∧ 2 * (j + 1) ≤ us.length + 2 := by omega
   obtain ⟨hul1, hul2⟩ := hulen
   have hjI : (j : Int) ≤ 1000 := by omega
   have hownA := hown
   clear hv hp HV hR0 hR1 hb1 hown hu1 hu2
   go_wp2_with (at_builtin; refine wpList_append_own_at _ rfl _ _ 64 rfl w.heap.size 28 i0 .nilIface 1 16 Tryz.underlying64 hi hz0 hz1 hz2 rfl (by decide) _ _ _ rfl (((hownA.alloc _).alloc _)) ⟨_, 0, none⟩ 2 2 [.iface t u, .iface t' u'] rfl rfl ?c1 ?c2 ?c3 ?c4 ?c5 ?_)
   case c1 =>
    intro j2 u2 hj
    rw [show ((⟨wr.heap.size + 1, 0, none⟩ : Addr).add j2) = ⟨wr.heap.size + 1, j2, none⟩ by unfold Addr.add; split <;> simp_all]
    have hz9 : (wr.alloc (.cells #[.iface t u, .iface t' u'] 93)).heap.size = wr.heap.size + 1 := by simp
    rw [← hz9]
    exact (cell_of_row _ _ j2 #[.iface t u, .iface t' u'] 28 (0, 0) (heap_alloc_new (wr.alloc (.cells #[.iface t u, .iface t' u'] 93)) _)).trans (by simpa using hj)
   case c2 => intro u2 hu; simp at hu; rcases hu with rfl | rfl <;> rfl
   case c3 => unfold maxLen; omega
   case c4 => omega
   case c5 => simp; omega
   intro v' w7 o7 g7 _ _
   have b7 : Below w.heap.size w w7 := ((hbl.alloc hbl.size _).alloc (by simp; omega) _).grown g7 (by simp; omega) (fun kk hkk => (hownA.lt kk hkk).1)
   have hel : (us ++ [Value.iface t u, Value.iface t' u']).length = us.length + 2 := by simp
   rw [← hel] at o7
   rw [← hel] at hul1 hul2
   clear hownA g7 hel
   go_wp2
   go_roundg (gk - 1)
   case measure => omega
   case rel => exact ⟨j + 1, us ++ [.iface t u, .iface t' u'], by go_num, by omega, hul1, hul2, o7, b7, HV2⟩
  ·have hltI : ¬ (j : Int) < m.length := by omega
   have HR : Hid (Vals R (fun b => w.heap.size ≤ b) wr ao (flat2 m)) := by
    intro i y hy
    have hil : i < 2 * m.length := by rw [← flat2_len]; exact (List.getElem?_eq_some_iff.1 hy).1
    obtain ⟨p, hp⟩ : ∃ p, m[i / 2]? = some p := ⟨_, List.getElem?_eq_getElem (by omega)⟩
    obtain ⟨f1, f2⟩ := flat2_get m _ p hp
    obtain ⟨t, u, t', u', e1, e2, e3, e4⟩ := HV.out (i / 2) p (by omega) hp
    have hcell : ∀ x, us[i]? = some x → ∃ b off, ao = some ⟨b, off, none⟩ ∧ w.heap.size ≤ b ∧ wr.cell? ⟨b, off + i, none⟩ = some x := by
     intro x hx
     have hxl := (List.getElem?_eq_some_iff.1 hx).1
     rcases hown.2 with ⟨-, h0⟩ | ⟨g, cap, cur, hv, hB, hg, -⟩
     ·omega
     ·obtain ⟨rfl, -, -⟩ := Value.slice.inj hv
      refine ⟨g, 0, rfl, hB, ?_⟩
      rw [Nat.zero_add, hown.cellAt i (by omega)]
      exact hx
    rcases Nat.mod_two_eq_zero_or_one i with hmo | hmo
    ·rw [show 2 * (i / 2) = i by omega] at f1 e1
     rw [hy] at f1
     obtain rfl := Option.some.inj f1
     obtain ⟨b, off, q1, q2, q3⟩ := hcell _ e1
     exact ⟨b, off, t, u, q1, q2, q3, e3⟩
    ·rw [show 2 * (i / 2) + 1 = i by omega] at f2 e2
     rw [hy] at f2
     obtain rfl := Option.some.inj f2
     obtain ⟨b, off, q1, q2, q3⟩ := hcell _ e2
     exact ⟨b, off, t', u', q1, q2, q3, e4⟩
   have hue : us.length = 2 * m.length := by omega
   have HU : Hid (us.length = 2 * m.length) := hue
   clear HV hv hue hown
   go_wp2
   go_ret
   exact ⟨hbl, ao, ca, by rw [HU.out]; rfl, by rw [← HU.out]; exact hca, hcm, HR.out⟩
theorem partsof_any (n : Nat) (S : Nat → Prop) (d : D) (v : Value) (w : World) (h : VlC srt (n + 1) S w v d) (h0 : 0 ≤ d.kind) (h22 : d.kind ≤ 22) (hp : great d.kind = true → d.parts.length ≤ 1000) :
  Calls Tryz.prog 28 #[v] w fun e w' => Below w.heap.size w w' ∧ ∃ ga gc, e = .returned (.slice ga (vp d).length gc) ∧ Vals (VlC srt n S w) (fun b => S b ∨ w.heap.size ≤ b) w' ga (vp d) := by
 have hno : d.kind ≤ 17 → vp d = [] := fun hk => by
  unfold vp
  have hg : great d.kind = false := by simp [great]; omega
  rw [if_neg (by omega), hg]
  rfl
 have hgr : ¬ d.kind ≤ 17 → d.kind ≠ 21 → vp d = d.parts := fun hk h21 => by
  unfold vp
  have hg : great d.kind = true := by simp [great]; omega
  rw [if_neg h21, if_pos hg]
 unfold VlC at h
 split at h
 ·rename_i hk
  rw [hno hk]
  have key : ∀ t x, mdV d = .iface t x → (∀ w, Calls Tryz.prog 28 #[.iface t x] w fun e w' => e = .returned (.slice none 0 0) ∧ w' = w) → Calls Tryz.prog 28 #[v] w fun e w' => Below w.heap.size w w' ∧ ∃ ga gc, e = .returned (.slice ga ([] : List D).length gc) ∧ Vals (VlC srt n S w) (fun b => S b ∨ w.heap.size ≤ b) w' ga [] := by
   intro t x e hc
   rw [h, e]
   refine (hc w).mono ?_
   rintro e w' ⟨rfl, rfl⟩
   exact ⟨Below.refl _ _, none, 0, rfl, fun i y hy => by simp at hy⟩
  unfold mdV at key
  by_cases k1 : d.kind = 1
  ·exact key _ _ (by rw [if_pos k1]) fun w => partsof_truthT _ w
  by_cases k2 : 2 ≤ d.kind ∧ d.kind ≤ 6
  ·exact key _ _ (by rw [if_neg k1, if_pos k2]) fun w => partsof_signed _ w
  by_cases k3 : 7 ≤ d.kind ∧ d.kind ≤ 11
  ·exact key _ _ (by rw [if_neg k1, if_neg k2, if_pos k3]) fun w => partsof_unsigned _ w
  by_cases k4 : d.kind = 12
  ·exact key _ _ (by rw [if_neg k1, if_neg k2, if_neg k3, if_pos k4]) fun w => partsof_float _ w
  by_cases k5 : d.kind = 13
  ·exact key _ _ (by rw [if_neg k1, if_neg k2, if_neg k3, if_neg k4, if_pos k5]) fun w => partsof_float _ w
  by_cases k6 : d.kind = 14
  ·exact key _ _ (by rw [if_neg k1, if_neg k2, if_neg k3, if_neg k4, if_neg k5, if_pos k6]) fun w => partsof_pair _ w
  by_cases k7 : d.kind = 15
  ·exact key _ _ (by rw [if_neg k1, if_neg k2, if_neg k3, if_neg k4, if_neg k5, if_neg k6, if_pos k7]) fun w => partsof_pair _ w
  by_cases k8 : d.kind = 16
  ·exact key _ _ (by rw [if_neg k1, if_neg k2, if_neg k3, if_neg k4, if_neg k5, if_neg k6, if_neg k7, if_pos k8]) fun w => partsof_text _ w
  by_cases k9 : d.kind = 17
  ·exact key _ _ (by rw [if_neg k1, if_neg k2, if_neg k3, if_neg k4, if_neg k5, if_neg k6, if_neg k7, if_neg k8, if_pos k9]) fun w => partsof_octets _ w
  ·exact key _ _ (by rw [if_neg k1, if_neg k2, if_neg k3, if_neg k4, if_neg k5, if_neg k6, if_neg k7, if_neg k8, if_neg k9]) fun w => partsof_nothing _ w
 rename_i hk
 have tn : ∀ {ga : Option Addr} {W' : World}, Below w.heap.size w W' → Vals (VlC srt n S w) S w ga d.parts → Vals (VlC srt n S w) (fun b => S b ∨ w.heap.size ≤ b) W' ga d.parts := fun hb hv => hv.turn (Kept.below hb fun b hb _ => Or.inl hb) fun _ _ h => h
 split at h
 ·rename_i h18
  obtain ⟨na, nc, fa, fc, rfl, -, -, -, -, -, hv⟩ := h
  rw [hgr hk (by omega)]
  refine (partsof_structure _ _ _ na _ nc fa _ fc w).mono ?_
  rintro e w' ⟨rfl, hb⟩
  exact ⟨hb, fa, fc, rfl, tn hb hv⟩
 split at h
 ·rename_i h18 h21
  obtain ⟨fa, fc, rfl, -, -, hv⟩ := h
  have hvp : vp d = flat2 (srt d.parts) := by unfold vp; rw [if_pos h21]
  rw [hvp]
  refine (partsof_dictionary (VlC srt n S w) S _ _ _ (srt d.parts) fa fc w (by rw [srt_len]; have := hp (by simp [great]; omega); omega) hv).mono ?_
  rintro e w' ⟨hb, ga, gc, rfl, -, -, hv⟩
  exact ⟨hb, ga, gc, rfl, hv.turn (fun b hb _ => ⟨Or.inr hb, fun _ => rfl⟩) fun _ _ h => h⟩
 split at h
 ·rename_i h18 h21 h22'
  obtain ⟨fa, fc, rfl, -, -, hv⟩ := h
  rw [hgr hk (by omega)]
  refine (partsof_pointer _ _ _ _ fa _ fc w).mono ?_
  rintro e w' ⟨rfl, hb⟩
  exact ⟨hb, fa, fc, rfl, tn hb hv⟩
 ·obtain ⟨fa, fc, rfl, -, -, hv⟩ := h
  rw [hgr hk (by assumption)]
  refine (partsof_list _ _ _ fa _ fc w).mono ?_
  rintro e w' ⟨rfl, hb⟩
  exact ⟨hb, fa, fc, rfl, tn hb hv⟩
end Go.Proofs.YtlgieoabellbmaaGreatDoor
