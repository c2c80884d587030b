/- Laid12, OpenSpec, OpenDesc: these texts in one. -/
import Derived.Test.YtlgieoabellbmaaGreatDoorRows
import Derived.Test.YtlgieoabellbmaaGreatDoorPt10
import Derived.Test.YtlgieoabellbmaaGreatDoorPt3
import Derived.WalkKit
import Derived.ProofKit
import Derived.LaidMore
import Derived.Lay
import Derived.OpenShut
import Derived.Stop.Joined
import Derived.Test.YtlgieoabellbmaaGreatDoorPt4
import Derived.Deep.Slices
import Derived.Deep.MidRow
namespace Go.Proofs.YtlgieoabellbmaaGreatDoor
open Go.ChangeShapes Go.WideShapes Go.ChangeAt Go.RowKit
theorem laid.own : ownKnob Tryz.prog.godebug = none := by kernel_rfl
theorem laid.tEsc : (Tryz.prog.globals[1]?).map (·.type) = some 185 := by kernel_rfl
theorem laid.door_met (os : Os) (args : Array Value) : laidMetH Tryz.prog Rows.treeOuterRow.laid ((World.laidAll Tryz.prog os Rows.treeOuterRow.laid).forCall (fun _ _ => 0) ⟨#[], args, []⟩).memory := by
 rw [MakeChecks.laidMetH_plain _ _ _ (by kernel_rfl)]
 exact laidMet_laidAll _ (by kernel_rfl) (by kernel_rfl)
theorem kn_of {W : World} (h : laidMetH Tryz.prog Rows.treeOuterRow.laid W) : KN W := by
 rw [MakeChecks.laidMetH_plain _ _ _ (by kernel_rfl)] at h
 obtain ⟨ps, ⟨_, _, _, _, _, _, _, _, _, _, ⟨g', t', cs, fuel, p, q, hg', ht', hvar, hd, _, _⟩, _⟩, _, _⟩ := h
 have hg : Tryz.prog.globalNamed "platen/values.kindNames" = some 0 := by kernel_rfl
 have hty : (Tryz.prog.globals[0]?).map (·.type) = some 62 := by kernel_rfl
 obtain rfl := Option.some.inj (hg.symm.trans hg')
 obtain rfl := Option.some.inj (hty.symm.trans ht')
 obtain ⟨xs, m, -, hx, -, hxl, hf⟩ := DataW.trod_array Tryz.underlying62 hd
 have hce : Tryz.prog.cellsOf 9 = 1 := by kernel_rfl
 intro i s hs
 have hi : i < 23 := by
  have := (List.getElem?_eq_some_iff.1 hs).1
  simpa [kindN] using this
 have hfi := hf i hi
 obtain ⟨y, hy⟩ : ∃ y, xs[i]? = some y := ⟨xs[i]'(by omega), List.getElem?_eq_getElem (by omega)⟩
 rw [hy, hce, Nat.mul_one] at hfi
 obtain ⟨s', hc, hy1, -⟩ := DataW.trod_string Tryz.underlying9 hfi
 have hlist : xs.map (·.1) = kindN.map fun s => (DataW.lit (.string s.data.toList) : DataW Unit) := by
  have h1 : (DataW.agg (kindN.map fun s => (DataW.lit (.string s.data.toList) : DataW Unit)) : DataW Unit) = .agg (xs.map (·.1)) := congrArg Prod.fst hx
  exact (DataW.agg.inj h1).symm
 have h2 : (xs.map (·.1))[i]? = some y.1 := by rw [List.getElem?_map, hy]; rfl
 rw [hlist, List.getElem?_map, hs] at h2
 have h3 : (DataW.lit (.string s.data.toList) : DataW Unit) = y.1 := Option.some.inj h2
 rw [hy1] at h3
 have h4 : s.data.toList = s'.data.toList := Lit.string.inj (DataW.lit.inj h3)
 have h5 : s = s' := by
  obtain ⟨⟨a⟩⟩ := s
  obtain ⟨⟨b⟩⟩ := s'
  simp only at h4
  rw [h4]
 have h6 : cs[i]? = some (.string s') := by
  have := congrArg (·[0]?) hc
  simpa [List.getElem?_take, List.getElem?_drop] using this
 rw [World.var?_cell hg hvar i, h6, h5]
theorem laid.room {W : World} {p : Addr} {v : Value} (h : W.cell? p = some v) : p.block < W.heap.size := by
 rcases Nat.lt_or_ge p.block W.heap.size with h1 | h1
 ·exact h1
 ·simp [World.cell?, Array.getElem?_eq_none h1] at h
theorem laid.get (l : List Value) (i : Nat) (v : Value) (h : (l.drop i).take 1 = [v]) : l[i]? = some v := by
 have h2 := congrArg (fun x => x[0]?) h
 simpa [List.getElem?_take, List.getElem?_drop] using h2
set_option maxRecDepth 1000000 in
theorem esc_of {W : World} (h : laidMetH Tryz.prog Rows.treeOuterRow.laid W) : Esc W := by
 rw [MakeChecks.laidMetH_plain _ _ _ (by kernel_rfl)] at h
 obtain ⟨ps, ⟨_, _, _, _, _, _, _, _, _, _, ⟨_, _, _, _, _, _, _, _, _, _, ⟨g0, t0, cs0, f0, p0, q0, hg0, ht0, hv0, hd0, _, _⟩, _⟩, _⟩, _, _⟩ := h
 obtain rfl : 1 = g0 := Option.some.inj (Eq.trans (Eq.symm (by kernel_rfl)) hg0)
 obtain rfl := Option.some.inj (laid.tEsc.symm.trans ht0)
 obtain ⟨xs, m1, rfl, hx1, hlen, hn, hel⟩ := DataW.trod_array Tryz.underlying185 hd0
 have c1 : Tryz.prog.cellsOf 21 = 1 := by kernel_rfl
 have c7 : Tryz.prog.cellsOf 185 = 7 := by kernel_rfl
 simp only [Prod.mk.injEq, Rows.laid_platen_quote_escapes, DataW.agg.injEq] at hx1
 have key : ∀ i, i < 7 → W.cell? ⟨1, i, none⟩ = some (.int .i32 (escT i : Nat)) := by
  intro i hi
  have hcell := World.var?_cell hg0 hv0 i
  have h0 := hel i hi
  have hx : ∃ x, xs[i]? = some x ∧ x.1 = .lit (.int .i32 (escT i : Nat)) := by
   match xs, hn, hx1 with
   | [x0, x1, x2, x3, x4, x5, x6], _, hx1 =>
     simp only [List.map_cons, List.map_nil, List.cons.injEq] at hx1
     obtain ⟨⟨e0, e1, e2, e3, e4, e5, e6, -⟩, -⟩ := hx1
     match i, hi with
     | 0, _ => exact ⟨x0, rfl, e0.symm⟩
     | 1, _ => exact ⟨x1, rfl, e1.symm⟩
     | 2, _ => exact ⟨x2, rfl, e2.symm⟩
     | 3, _ => exact ⟨x3, rfl, e3.symm⟩
     | 4, _ => exact ⟨x4, rfl, e4.symm⟩
     | 5, _ => exact ⟨x5, rfl, e5.symm⟩
     | 6, _ => exact ⟨x6, rfl, e6.symm⟩
     | n + 7, hi => omega
  obtain ⟨x, hxi, hxv⟩ := hx
  rw [hxi, c1, Nat.mul_one] at h0
  obtain ⟨k, f1, f2, _⟩ := DataW.trod_int Tryz.underlying21 h0
  rw [f2] at hxv
  have hk : k = (escT i : Nat) := by simpa using hxv
  rw [hk] at f1
  rw [hcell]
  have := laid.get _ _ _ f1
  simpa using this
 exact ⟨laid.room (key 0 (by omega)), key⟩
end Go.Proofs.YtlgieoabellbmaaGreatDoor
namespace Go.Proofs.YtlgieoabellbmaaGreatDoor
open Go.ChangeShapes Go.WideShapes Go.ChangeAt Go.RowKit
theorem array8 {α : Type} {cs : Array α} (h : cs.size = 8) : ∃ c0 c1 c2 c3 c4 c5 c6 c7, cs = #[c0, c1, c2, c3, c4, c5, c6, c7] := by
 obtain ⟨l⟩ := cs
 match l, h with
 | [c0, c1, c2, c3, c4, c5, c6, c7], _ => exact ⟨c0, c1, c2, c3, c4, c5, c6, c7, rfl⟩
theorem cellsBool : Tryz.prog.cellsOf 4 = 1 := by kernel_rfl
theorem cellsInt : Tryz.prog.cellsOf 3 = 1 := by kernel_rfl
theorem cellsI32 : Tryz.prog.cellsOf 21 = 1 := by kernel_rfl
theorem cellsSpec : Tryz.prog.cellsOf 33 = 8 := by kernel_rfl
set_option maxRecDepth 1000000 in
theorem open_spec {H : Type} {enc : TypeId × Value → H} {W : World} {base : Nat} {v : Value} {d : DataW H} {p : List MemPlace}
  (hv : Value.okWide Tryz.prog W .any base 33 v) (h : DataW.Trod enc Tryz.prog W 0 (fun _ => true) true 33 v d p) :
  ∃ (b0 b1 b2 b3 b4 : Bool) (x5 x6 x7 : Int), v = .agg #[.bool b0, .bool b1, .bool b2, .bool b3, .bool b4, .int .i64 x5, .int .i64 x6, .int .i32 x7] ∧
    (Lit.int .i64 x5).wf = true ∧ (Lit.int .i64 x6).wf = true ∧ (Lit.int .i32 x7).wf = true := by
 obtain ⟨cs, rfl, hsz⟩ := okWide_struct Tryz.underlying33 hv
 obtain ⟨c0, c1, c2, c3, c4, c5, c6, c7, rfl⟩ := array8 (hsz.trans cellsSpec)
 obtain ⟨fuel, hf0⟩ := h
 obtain ⟨xs, n, _, _, _, hlen, hf⟩ := DataW.trod_struct Tryz.underlying33 hf0
 match xs, hlen with
 | [y0, y1, y2, y3, y4, y5, y6, y7], _ =>
   have g0 : DataW.trod enc Tryz.prog W 0 (fun _ => true) true n 4 [c0] = some y0 := by simpa [Value.cells, cellsBool] using hf 0 _ rfl
   have g1 : DataW.trod enc Tryz.prog W 0 (fun _ => true) true n 4 [c1] = some y1 := by simpa [Value.cells, cellsBool] using hf 1 _ rfl
   have g2 : DataW.trod enc Tryz.prog W 0 (fun _ => true) true n 4 [c2] = some y2 := by simpa [Value.cells, cellsBool] using hf 2 _ rfl
   have g3 : DataW.trod enc Tryz.prog W 0 (fun _ => true) true n 4 [c3] = some y3 := by simpa [Value.cells, cellsBool] using hf 3 _ rfl
   have g4 : DataW.trod enc Tryz.prog W 0 (fun _ => true) true n 4 [c4] = some y4 := by simpa [Value.cells, cellsBool] using hf 4 _ rfl
   have g5 : DataW.trod enc Tryz.prog W 0 (fun _ => true) true n 3 [c5] = some y5 := by simpa [Value.cells, cellsInt] using hf 5 _ rfl
   have g6 : DataW.trod enc Tryz.prog W 0 (fun _ => true) true n 3 [c6] = some y6 := by simpa [Value.cells, cellsInt] using hf 6 _ rfl
   have g7 : DataW.trod enc Tryz.prog W 0 (fun _ => true) true n 21 [c7] = some y7 := by simpa [Value.cells, cellsI32] using hf 7 _ rfl
   obtain ⟨b0, e0, _⟩ := DataW.trod_bool Tryz.underlying4 g0
   obtain ⟨b1, e1, _⟩ := DataW.trod_bool Tryz.underlying4 g1
   obtain ⟨b2, e2, _⟩ := DataW.trod_bool Tryz.underlying4 g2
   obtain ⟨b3, e3, _⟩ := DataW.trod_bool Tryz.underlying4 g3
   obtain ⟨b4, e4, _⟩ := DataW.trod_bool Tryz.underlying4 g4
   obtain ⟨x5, e5, _, w5⟩ := DataW.trod_int Tryz.underlying3 g5
   obtain ⟨x6, e6, _, w6⟩ := DataW.trod_int Tryz.underlying3 g6
   obtain ⟨x7, e7, _, w7⟩ := DataW.trod_int Tryz.underlying21 g7
   simp only [List.cons.injEq, and_true] at e0 e1 e2 e3 e4 e5 e6 e7
   subst e0 e1 e2 e3 e4 e5 e6 e7
   exact ⟨b0, b1, b2, b3, b4, x5, x6, x7, rfl, w5, w6, w7⟩
end Go.Proofs.YtlgieoabellbmaaGreatDoor
namespace Go.Proofs.YtlgieoabellbmaaGreatDoor
open Go.ChangeShapes Go.WideShapes Go.ChangeAt Go.RowKit
set_option linter.unusedVariables false
theorem dcellsStr : Tryz.prog.cellsOf 9 = 1 := by kernel_rfl
theorem dcellsInt : Tryz.prog.cellsOf 3 = 1 := by kernel_rfl
theorem dcellsU : Tryz.prog.cellsOf 22 = 1 := by kernel_rfl
theorem dcellsStrs : Tryz.prog.cellsOf 23 = 1 := by kernel_rfl
theorem dcellsDescs : Tryz.prog.cellsOf 24 = 1 := by kernel_rfl
theorem dcellsDesc : Tryz.prog.cellsOf 26 = 8 := by kernel_rfl
abbrev DTrd {H : Type} (enc : TypeId × Value → H) (W : World) (n : Nat) (t : TypeId) (cs : List Value) (x : DataW H × List MemPlace) : Prop := DataW.trod enc Tryz.prog W 0 (fun _ => true) true n t cs = some x
theorem list_of {α : Type} {P : Nat → α → Prop} : ∀ n, (∀ i, i < n → ∃ x, P i x) → ∃ l : List α, l.length = n ∧ ∀ i x, l[i]? = some x → P i x
 | 0, _ => ⟨[], rfl, fun i x h => by simp at h⟩
 | n + 1, h => by
   obtain ⟨l, h1, h2⟩ := list_of n fun i hi => h i (by omega)
   obtain ⟨x, hx⟩ := h n (by omega)
   refine ⟨l ++ [x], by simp [h1], fun i y hy => ?_⟩
   by_cases hi : i < n
   ·rw [List.getElem?_append_left (by omega)] at hy
    exact h2 i y hy
   ·have hil := (List.getElem?_eq_some_iff.1 hy).1
    simp at hil
    obtain rfl : i = n := by omega
    rw [List.getElem?_append_right (by omega), h1] at hy
    simp at hy
    subst hy
    exact hx
theorem openD_names {H : Type} {enc : TypeId × Value → H} {W : World} {n : Nat} {v : Value} {x : DataW H × List MemPlace} (h : DTrd enc W n 23 [v] x) : ∃ l : List ByteArray, Strs W v l := by
 rcases DataW.trod_slice Tryz.underlying23 h with ⟨hcs, _⟩ | ⟨a, l, c, elems, rest, k, hk, hcs, hx0, _, hl, hm, hlen, hx, _, _⟩
 ·simp only [List.cons.injEq, and_true] at hcs
  exact ⟨[], none, 0, hcs, Nat.le_refl _, Nat.zero_le _, fun i s hs => by simp at hs⟩
 ·simp only [List.cons.injEq, and_true] at hcs
  have each : ∀ i, i < l → ∃ t : ByteArray, t.size ≤ maxLen ∧ W.cell? (a.add i) = some (.string t) := by
   intro i hi
   have h1 := hx i hi
   rw [dcellsStr, Nat.mul_one] at h1
   have h2 : i < elems.length := by omega
   rw [List.getElem?_eq_getElem h2] at h1
   obtain ⟨cs', e1, e2⟩ := Option.bind_eq_some_iff.1 h1
   obtain ⟨_, hlen', hcell⟩ := World.cells?_some e1
   obtain ⟨s, rfl, _, hs⟩ := DataW.trod_string Tryz.underlying9 e2
   have := hcell 0 (by omega)
   refine ⟨s, hs, ?_⟩
   have e3 : (a.add i).add 0 = a.add i := by unfold Addr.add; split <;> simp_all
   rw [e3] at this
   exact this
  obtain ⟨ts, ht1, ht2⟩ := list_of l each
  refine ⟨ts, some a, c, by rw [ht1]; exact hcs, by omega, hm, fun i s hs => ?_⟩
  have hil := (List.getElem?_eq_some_iff.1 hs).1
  obtain ⟨z, ci⟩ := ht2 i s hs
  obtain ⟨t0, hs0⟩ : ∃ t0, ts[0]? = some t0 := ⟨_, List.getElem?_eq_getElem (by omega)⟩
  obtain ⟨-, c0⟩ := ht2 0 t0 hs0
  obtain ⟨b, off, spot⟩ := a
  have hspot : spot = none := by simpa [Addr.add] using World.cell?_spot c0
  subst hspot
  rw [Addr.add_mid] at ci
  exact ⟨z, b, off, rfl, ci⟩
def PsD (n : Nat) (W : World) (v : Value) (l : List D) : Prop := ∃ a cap, v = .slice a l.length cap ∧ l.length ≤ cap ∧ cap ≤ maxLen ∧
 ∀ (i : Nat) (x : D), l[i]? = some x → ∃ b off nv' pv', a = some ⟨b, off, none⟩ ∧ At8 W b (off + i * 8) x nv' pv' ∧ RdC n W nv' pv' x
def OpD {H : Type} (enc : TypeId × Value → H) (W : World) (n : Nat) : Prop := ∀ cs x, DTrd enc W n 26 cs x → ∃ (d : D) (nv pv : Value), cs = [.int .i64 d.kind, .string d.ty, .int .u64 d.bits, .int .u64 d.imag, .string d.text, nv, pv, .int .i64 d.hook] ∧ RdC n W nv pv d
theorem openD_parts {H : Type} {enc : TypeId × Value → H} {W : World} {n : Nat} {v : Value} {x : DataW H × List MemPlace} (hD : OpD enc W n) (h : DTrd enc W (n + 1) 24 [v] x) : ∃ l : List D, PsD n W v l := by
 rcases DataW.trod_slice Tryz.underlying24 h with ⟨hcs, _⟩ | ⟨a, l, c, elems, rest, k, hk, hcs, hx0, _, hl, hm, hlen, hx, _, _⟩
 ·simp only [List.cons.injEq, and_true] at hcs
  exact ⟨[], none, 0, hcs, Nat.le_refl _, Nat.zero_le _, fun i s hs => by simp at hs⟩
 ·simp only [List.cons.injEq, and_true] at hcs
  obtain rfl : n = k := by omega
  have each : ∀ i, i < l → ∃ e : D, ∃ nv pv, (∀ j v, ([.int .i64 e.kind, .string e.ty, .int .u64 e.bits, .int .u64 e.imag, .string e.text, nv, pv, .int .i64 e.hook] : List Value)[j]? = some v → W.cell? ((a.add (i * 8)).add j) = some v) ∧ RdC n W nv pv e := by
   intro i hi
   have h1 := hx i hi
   rw [dcellsDesc] at h1
   have h2 : i < elems.length := by omega
   rw [List.getElem?_eq_getElem h2] at h1
   obtain ⟨cs', e1, e2⟩ := Option.bind_eq_some_iff.1 h1
   obtain ⟨_, hlen', hcell⟩ := World.cells?_some e1
   obtain ⟨d, nv, pv, rfl, hd⟩ := hD cs' _ e2
   refine ⟨d, nv, pv, fun j v hv => ?_, hd⟩
   have hj : j < 8 := by have := (List.getElem?_eq_some_iff.1 hv).1; simpa using this
   rw [← hv]
   exact hcell j (by omega)
  obtain ⟨es, he1, he2⟩ := list_of l each
  refine ⟨es, some a, c, by rw [he1]; exact hcs, by omega, hm, fun i e he => ?_⟩
  have hil := (List.getElem?_eq_some_iff.1 he).1
  obtain ⟨e0, hs0⟩ : ∃ t0, es[0]? = some t0 := ⟨_, List.getElem?_eq_getElem (by omega)⟩
  obtain ⟨nv0, pv0, c0, -⟩ := he2 0 e0 hs0
  have c00 := c0 0 _ rfl
  obtain ⟨b, off, spot⟩ := a
  have hspot : spot = none := by simpa [Addr.add] using World.cell?_spot c00
  subst hspot
  obtain ⟨nv, pv, ci, hr⟩ := he2 i e he
  have cj : ∀ j v, ([.int .i64 e.kind, .string e.ty, .int .u64 e.bits, .int .u64 e.imag, .string e.text, nv, pv, .int .i64 e.hook] : List Value)[j]? = some v → W.cell? ⟨b, off + i * 8 + j, none⟩ = some v := fun j v hv => by
   have := ci j v hv
   rwa [Addr.add_mid, Addr.add_mid] at this
  exact ⟨b, off, nv, pv, rfl, ⟨cj 0 _ rfl, cj 1 _ rfl, cj 2 _ rfl, cj 3 _ rfl, cj 4 _ rfl, cj 5 _ rfl, cj 6 _ rfl, cj 7 _ rfl⟩, hr⟩
set_option maxRecDepth 1000000 in
theorem openD_desc {H : Type} {enc : TypeId × Value → H} {W : World} : ∀ n, OpD enc W n := by
 intro n
 induction n using Nat.strongRecOn with
 | _ n ih =>
   intro cs x h
   obtain ⟨xs, k, hk, hx0, hlen0, hlen, hf⟩ := DataW.trod_struct Tryz.underlying26 h
   rw [dcellsDesc] at hlen0
   match xs, hlen, cs, hlen0 with
   | [y0, y1, y2, y3, y4, y5, y6, y7], _, [c0, c1, c2, c3, c4, c5, c6, c7], _ =>
     have g0 : DTrd enc W k 3 [c0] y0 := by simpa [dcellsInt] using hf 0 _ rfl
     have g1 : DTrd enc W k 9 [c1] y1 := by simpa [dcellsStr] using hf 1 _ rfl
     have g2 : DTrd enc W k 22 [c2] y2 := by simpa [dcellsU] using hf 2 _ rfl
     have g3 : DTrd enc W k 22 [c3] y3 := by simpa [dcellsU] using hf 3 _ rfl
     have g4 : DTrd enc W k 9 [c4] y4 := by simpa [dcellsStr] using hf 4 _ rfl
     have g5 : DTrd enc W k 23 [c5] y5 := by simpa [dcellsStrs] using hf 5 _ rfl
     have g6 : DTrd enc W k 24 [c6] y6 := by simpa [dcellsDescs] using hf 6 _ rfl
     have g7 : DTrd enc W k 3 [c7] y7 := by simpa [dcellsInt] using hf 7 _ rfl
     obtain ⟨x0, e0, _, w0⟩ := DataW.trod_int Tryz.underlying3 g0
     obtain ⟨x1, e1, _, w1⟩ := DataW.trod_string Tryz.underlying9 g1
     obtain ⟨x2, e2, _, w2⟩ := DataW.trod_int Tryz.underlying22 g2
     obtain ⟨x3, e3, _, w3⟩ := DataW.trod_int Tryz.underlying22 g3
     obtain ⟨x4, e4, _, w4⟩ := DataW.trod_string Tryz.underlying9 g4
     obtain ⟨x7, e7, _, w7⟩ := DataW.trod_int Tryz.underlying3 g7
     obtain ⟨ns, hns⟩ := openD_names g5
     obtain ⟨j, rfl⟩ : ∃ j, k = j + 1 := by
      cases k with
      | zero => simp [DTrd, DataW.trod] at g6
      | succ j => exact ⟨j, rfl⟩
     obtain ⟨ps, hps⟩ := openD_parts (n := j) (ih j (by omega)) g6
     simp only [List.cons.injEq, and_true] at e0 e1 e2 e3 e4 e7
     subst e0 e1 e2 e3 e4 e7
     refine ⟨⟨x0, x1, x2, x3, x4, ns, ps, x7⟩, c5, c6, rfl, ?_⟩
     subst hk
     obtain ⟨a, cap, p1, p2, p3, p4⟩ := hps
     refine ⟨⟨?_, ?_, ?_, ?_, w1, w4⟩, hns, a, cap, p1, p2, p3, fun i x hx => ?_⟩
     ·simpa [Lit.wf, IntKind.min, IntKind.max, IntKind.bits, IntKind.signed] using w0
     ·simpa [Lit.wf, IntKind.min, IntKind.max, IntKind.bits, IntKind.signed] using w2
     ·simpa [Lit.wf, IntKind.min, IntKind.max, IntKind.bits, IntKind.signed] using w3
     ·simpa [Lit.wf, IntKind.min, IntKind.max, IntKind.bits, IntKind.signed] using w7
     ·obtain ⟨b, off, nv', pv', q1, q2, q3⟩ := p4 i x hx
      exact ⟨b, off, nv', pv', q1, q2, q3.more (by omega)⟩
set_option maxRecDepth 1000000 in
theorem open_desc {H : Type} {enc : TypeId × Value → H} {W : World} {base : Nat} {v : Value} {d : DataW H} {p : List MemPlace}
  (hv : Value.okWide Tryz.prog W .any base 26 v) (h : DataW.Trod enc Tryz.prog W 0 (fun _ => true) true 26 v d p) : ∃ (x : D) (n : Nat) (nv pv : Value), v = DV x nv pv ∧ RdC n W nv pv x := by
 obtain ⟨cs, rfl, hsz⟩ := okWide_struct Tryz.underlying26 hv
 obtain ⟨fuel, hf0⟩ := h
 obtain ⟨a, nv, pv, ha, hok⟩ := openD_desc fuel _ _ hf0
 refine ⟨a, fuel, nv, pv, ?_, hok⟩
 unfold DV
 rw [← ha]
 simp [Value.cells]
theorem open_descs {H : Type} {enc : TypeId × Value → H} {W : World} {a : Option Addr} {len cap : Nat} {d : DataW H} {p : List MemPlace}
  (h : DataW.Trod enc Tryz.prog W 0 (fun _ => true) true 24 (.slice a len cap) d p) : ∃ (l : List D) (n : Nat), PsD n W (.slice a len cap) l := by
 obtain ⟨fuel, hf0⟩ := h
 have hf : DataW.trod enc Tryz.prog W 0 (fun _ => true) true fuel 24 [.slice a len cap] = some (d, p) := by simpa [Value.cells] using hf0
 cases fuel with
 | zero => simp [DataW.trod] at hf
 | succ n =>
   obtain ⟨l, hl⟩ := openD_parts (n := n) (openD_desc n) hf
   exact ⟨l, n, hl⟩
end Go.Proofs.YtlgieoabellbmaaGreatDoor
