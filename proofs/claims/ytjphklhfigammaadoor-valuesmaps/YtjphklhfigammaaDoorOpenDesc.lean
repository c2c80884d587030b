/- What a descriptor looks like that can be read: a tree. -/
import Derived.Test.YtjphklhfigammaaDoorRows
import Derived.Test.YtjphklhfigammaaDoorVD
import Derived.WalkKit
import Derived.ProofKit
import Derived.OpenShut
import Derived.Deep.Slices
import Derived.Deep.MidRow
namespace Go.Proofs.YtjphklhfigammaaDoor
open Go.ChangeShapes Go.WideShapes Go.ChangeAt Go.RowKit
set_option linter.unusedVariables false

theorem dcellsStr : Tryd.prog.cellsOf 9 = 1 := by kernel_rfl
theorem dcellsInt : Tryd.prog.cellsOf 3 = 1 := by kernel_rfl
theorem dcellsU : Tryd.prog.cellsOf 22 = 1 := by kernel_rfl
theorem dcellsStrs : Tryd.prog.cellsOf 23 = 1 := by kernel_rfl
theorem dcellsDescs : Tryd.prog.cellsOf 24 = 1 := by kernel_rfl
theorem dcellsDesc : Tryd.prog.cellsOf 26 = 8 := by kernel_rfl
abbrev DTrd {H : Type} (enc : TypeId × Value → H) (W : World) (n : Nat) (t : TypeId) (cs : List Value) (x : DataW H × List MemPlace) : Prop := DataW.trod enc Tryd.prog W 0 (fun _ => true) true n t cs = some x
theorem list_of {α : Type} {P : Nat → α → Prop} : ∀ n, (∀ i, i < n → ∃ x, P i x) → ∃ l : List α, l.length = n ∧ ∀ i x, l[i]? = some x → P i x
  | 0, _ => ⟨[], rfl, fun i x h => by simp at h⟩
  | n + 1, h => by
    obtain ⟨l, h1, h2⟩ := list_of n fun i hi => h i (by omega)
    obtain ⟨x, hx⟩ := h n (by omega)
    refine ⟨l ++ [x], by simp [h1], fun i y hy => ?_⟩
    by_cases hi : i < n
    · rw [List.getElem?_append_left (by omega)] at hy
      exact h2 i y hy
    · have hil := (List.getElem?_eq_some_iff.1 hy).1
      simp at hil
      obtain rfl : i = n := by omega
      rw [List.getElem?_append_right (by omega), h1] at hy
      simp at hy
      subst hy
      exact hx
theorem openD_names {H : Type} {enc : TypeId × Value → H} {W : World} {n : Nat} {v : Value} {x : DataW H × List MemPlace} (h : DTrd enc W n 23 [v] x) : ∃ l : List ByteArray, Strs W v l := by
  rcases DataW.trod_slice Tryd.underlying23 h with ⟨hcs, _⟩ | ⟨a, l, c, elems, rest, k, hk, hcs, hx0, _, hl, hm, hlen, hx, _, _⟩
  · simp only [List.cons.injEq, and_true] at hcs
    exact ⟨[], none, 0, hcs, Nat.le_refl _, Nat.zero_le _, fun i s hs => by simp at hs⟩
  · simp only [List.cons.injEq, and_true] at hcs
    have each : ∀ i, i < l → ∃ t : ByteArray, t.size ≤ maxLen ∧ W.cell? (a.add i) = some (.string t) := by
      intro i hi
      have h1 := hx i hi
      rw [dcellsStr, Nat.mul_one] at h1
      have h2 : i < elems.length := by omega
      rw [List.getElem?_eq_getElem h2] at h1
      obtain ⟨cs', e1, e2⟩ := Option.bind_eq_some_iff.1 h1
      obtain ⟨_, hlen', hcell⟩ := World.cells?_some e1
      obtain ⟨s, rfl, _, hs⟩ := DataW.trod_string Tryd.underlying9 e2
      have := hcell 0 (by omega)
      refine ⟨s, hs, ?_⟩
      have e3 : (a.add i).add 0 = a.add i := by unfold Addr.add; split <;> simp_all
      rw [e3] at this
      exact this
    obtain ⟨ts, ht1, ht2⟩ := list_of l each
    refine ⟨ts, some a, c, by rw [ht1]; exact hcs, by omega, hm, fun i s hs => ?_⟩
    have hil := (List.getElem?_eq_some_iff.1 hs).1
    obtain ⟨z, ci⟩ := ht2 i s hs
    obtain ⟨t0, hs0⟩ : ∃ t0, ts[0]? = some t0 := ⟨_, List.getElem?_eq_getElem (by omega)⟩
    obtain ⟨-, c0⟩ := ht2 0 t0 hs0
    obtain ⟨b, off, spot⟩ := a
    have hspot : spot = none := by simpa [Addr.add] using World.cell?_spot c0
    subst hspot
    rw [Addr.add_mid] at ci
    exact ⟨z, b, off, rfl, ci⟩
/-- A row of descriptors, read n deep. -/
def PsD (n : Nat) (W : World) (v : Value) (l : List D) : Prop := ∃ a cap, v = .slice a l.length cap ∧ l.length ≤ cap ∧ cap ≤ maxLen ∧
  ∀ (i : Nat) (x : D), l[i]? = some x → ∃ b off nv' pv', a = some ⟨b, off, none⟩ ∧ At8 W b (off + i * 8) x nv' pv' ∧ RdC n W nv' pv' x
def OpD {H : Type} (enc : TypeId × Value → H) (W : World) (n : Nat) : Prop := ∀ cs x, DTrd enc W n 26 cs x → ∃ (d : D) (nv pv : Value), cs = [.int .i64 d.kind, .string d.ty, .int .u64 d.bits, .int .u64 d.imag, .string d.text, nv, pv, .int .i64 d.hook] ∧ RdC n W nv pv d
theorem openD_parts {H : Type} {enc : TypeId × Value → H} {W : World} {n : Nat} {v : Value} {x : DataW H × List MemPlace} (hD : OpD enc W n) (h : DTrd enc W (n + 1) 24 [v] x) : ∃ l : List D, PsD n W v l := by
  rcases DataW.trod_slice Tryd.underlying24 h with ⟨hcs, _⟩ | ⟨a, l, c, elems, rest, k, hk, hcs, hx0, _, hl, hm, hlen, hx, _, _⟩
  · simp only [List.cons.injEq, and_true] at hcs
    exact ⟨[], none, 0, hcs, Nat.le_refl _, Nat.zero_le _, fun i s hs => by simp at hs⟩
  · simp only [List.cons.injEq, and_true] at hcs
    obtain rfl : n = k := by omega
    have each : ∀ i, i < l → ∃ e : D, ∃ nv pv, (∀ j v, ([.int .i64 e.kind, .string e.ty, .int .u64 e.bits, .int .u64 e.imag, .string e.text, nv, pv, .int .i64 e.hook] : List Value)[j]? = some v → W.cell? ((a.add (i * 8)).add j) = some v) ∧ RdC n W nv pv e := by
      intro i hi
      have h1 := hx i hi
      rw [dcellsDesc] at h1
      have h2 : i < elems.length := by omega
      rw [List.getElem?_eq_getElem h2] at h1
      obtain ⟨cs', e1, e2⟩ := Option.bind_eq_some_iff.1 h1
      obtain ⟨_, hlen', hcell⟩ := World.cells?_some e1
      obtain ⟨d, nv, pv, rfl, hd⟩ := hD cs' _ e2
      refine ⟨d, nv, pv, fun j v hv => ?_, hd⟩
      have hj : j < 8 := by have := (List.getElem?_eq_some_iff.1 hv).1; simpa using this
      rw [← hv]
      exact hcell j (by omega)
    obtain ⟨es, he1, he2⟩ := list_of l each
    refine ⟨es, some a, c, by rw [he1]; exact hcs, by omega, hm, fun i e he => ?_⟩
    have hil := (List.getElem?_eq_some_iff.1 he).1
    obtain ⟨e0, hs0⟩ : ∃ t0, es[0]? = some t0 := ⟨_, List.getElem?_eq_getElem (by omega)⟩
    obtain ⟨nv0, pv0, c0, -⟩ := he2 0 e0 hs0
    have c00 := c0 0 _ rfl
    obtain ⟨b, off, spot⟩ := a
    have hspot : spot = none := by simpa [Addr.add] using World.cell?_spot c00
    subst hspot
    obtain ⟨nv, pv, ci, hr⟩ := he2 i e he
    have cj : ∀ j v, ([.int .i64 e.kind, .string e.ty, .int .u64 e.bits, .int .u64 e.imag, .string e.text, nv, pv, .int .i64 e.hook] : List Value)[j]? = some v → W.cell? ⟨b, off + i * 8 + j, none⟩ = some v := fun j v hv => by
      have := ci j v hv
      rwa [Addr.add_mid, Addr.add_mid] at this
    exact ⟨b, off, nv, pv, rfl, ⟨cj 0 _ rfl, cj 1 _ rfl, cj 2 _ rfl, cj 3 _ rfl, cj 4 _ rfl, cj 5 _ rfl, cj 6 _ rfl, cj 7 _ rfl⟩, hr⟩
set_option maxRecDepth 1000000 in
theorem openD_desc {H : Type} {enc : TypeId × Value → H} {W : World} : ∀ n, OpD enc W n := by
  intro n
  induction n using Nat.strongRecOn with
  | _ n ih =>
    intro cs x h
    obtain ⟨xs, k, hk, hx0, hlen0, hlen, hf⟩ := DataW.trod_struct Tryd.underlying26 h
    rw [dcellsDesc] at hlen0
    match xs, hlen, cs, hlen0 with
    | [y0, y1, y2, y3, y4, y5, y6, y7], _, [c0, c1, c2, c3, c4, c5, c6, c7], _ =>
      have g0 : DTrd enc W k 3 [c0] y0 := by simpa [dcellsInt] using hf 0 _ rfl
      have g1 : DTrd enc W k 9 [c1] y1 := by simpa [dcellsStr] using hf 1 _ rfl
      have g2 : DTrd enc W k 22 [c2] y2 := by simpa [dcellsU] using hf 2 _ rfl
      have g3 : DTrd enc W k 22 [c3] y3 := by simpa [dcellsU] using hf 3 _ rfl
      have g4 : DTrd enc W k 9 [c4] y4 := by simpa [dcellsStr] using hf 4 _ rfl
      have g5 : DTrd enc W k 23 [c5] y5 := by simpa [dcellsStrs] using hf 5 _ rfl
      have g6 : DTrd enc W k 24 [c6] y6 := by simpa [dcellsDescs] using hf 6 _ rfl
      have g7 : DTrd enc W k 3 [c7] y7 := by simpa [dcellsInt] using hf 7 _ rfl
      obtain ⟨x0, e0, _, w0⟩ := DataW.trod_int Tryd.underlying3 g0
      obtain ⟨x1, e1, _, w1⟩ := DataW.trod_string Tryd.underlying9 g1
      obtain ⟨x2, e2, _, w2⟩ := DataW.trod_int Tryd.underlying22 g2
      obtain ⟨x3, e3, _, w3⟩ := DataW.trod_int Tryd.underlying22 g3
      obtain ⟨x4, e4, _, w4⟩ := DataW.trod_string Tryd.underlying9 g4
      obtain ⟨x7, e7, _, w7⟩ := DataW.trod_int Tryd.underlying3 g7
      obtain ⟨ns, hns⟩ := openD_names g5
      obtain ⟨j, rfl⟩ : ∃ j, k = j + 1 := by
        cases k with
        | zero => simp [DTrd, DataW.trod] at g6
        | succ j => exact ⟨j, rfl⟩
      obtain ⟨ps, hps⟩ := openD_parts (n := j) (ih j (by omega)) g6
      simp only [List.cons.injEq, and_true] at e0 e1 e2 e3 e4 e7
      subst e0 e1 e2 e3 e4 e7
      refine ⟨⟨x0, x1, x2, x3, x4, ns, ps, x7⟩, c5, c6, rfl, ?_⟩
      subst hk
      obtain ⟨a, cap, p1, p2, p3, p4⟩ := hps
      refine ⟨⟨?_, ?_, ?_, ?_, w1, w4⟩, hns, a, cap, p1, p2, p3, fun i x hx => ?_⟩
      · simpa [Lit.wf, IntKind.min, IntKind.max, IntKind.bits, IntKind.signed] using w0
      · simpa [Lit.wf, IntKind.min, IntKind.max, IntKind.bits, IntKind.signed] using w2
      · simpa [Lit.wf, IntKind.min, IntKind.max, IntKind.bits, IntKind.signed] using w3
      · simpa [Lit.wf, IntKind.min, IntKind.max, IntKind.bits, IntKind.signed] using w7
      · obtain ⟨b, off, nv', pv', q1, q2, q3⟩ := p4 i x hx
        exact ⟨b, off, nv', pv', q1, q2, q3.more (by omega)⟩
set_option maxRecDepth 1000000 in
/-- A descriptor that is handed in. -/
theorem open_desc {H : Type} {enc : TypeId × Value → H} {W : World} {base : Nat} {v : Value} {d : DataW H} {p : List MemPlace}
    (hv : Value.okWide Tryd.prog W .any base 26 v) (h : DataW.Trod enc Tryd.prog W 0 (fun _ => true) true 26 v d p) : ∃ (x : D) (n : Nat) (nv pv : Value), v = DV x nv pv ∧ RdC n W nv pv x := by
  obtain ⟨cs, rfl, hsz⟩ := okWide_struct Tryd.underlying26 hv
  obtain ⟨fuel, hf0⟩ := h
  obtain ⟨a, nv, pv, ha, hok⟩ := openD_desc fuel _ _ hf0
  refine ⟨a, fuel, nv, pv, ?_, hok⟩
  unfold DV
  rw [← ha]
  simp [Value.cells]
/-- A row of descriptors that is handed in. -/
theorem open_descs {H : Type} {enc : TypeId × Value → H} {W : World} {a : Option Addr} {len cap : Nat} {d : DataW H} {p : List MemPlace}
    (h : DataW.Trod enc Tryd.prog W 0 (fun _ => true) true 24 (.slice a len cap) d p) : ∃ (l : List D) (n : Nat), PsD n W (.slice a len cap) l := by
  obtain ⟨fuel, hf0⟩ := h
  have hf : DataW.trod enc Tryd.prog W 0 (fun _ => true) true fuel 24 [.slice a len cap] = some (d, p) := by simpa [Value.cells] using hf0
  cases fuel with
  | zero => simp [DataW.trod] at hf
  | succ n =>
    obtain ⟨l, hl⟩ := openD_parts (n := n) (openD_desc n) hf
    exact ⟨l, n, hl⟩
end Go.Proofs.YtjphklhfigammaaDoor
