/- What a descriptor looks like that can be read: a tree, with the sizes of its lists of names. -/
import Derived.Test.YtjphklhfigammaaDoorRows
import Derived.Test.YtjphklhfigammaaDoorVD
import Derived.WalkKit
import Derived.ProofKit
import Derived.OpenShut
import Derived.Deep.Slices
import Derived.SizedLaws
import Derived.Deep.MidRow
namespace Go.Proofs.YtjphklhfigammaaDoor
open Go.ChangeShapes Go.WideShapes Go.ChangeAt Go.RowKit
set_option linter.unusedVariables false

/-- No list of names is longer than memory reaches. -/
def nbs : D → List Nat
  | ⟨kind, ty, bits, imag, text, names, parts, hook⟩ => names.length :: parts.flatMap fun x => nbs x
def NB (d : D) : Prop := ∀ k ∈ nbs d, k * 16 ≤ 140737488355328
theorem nbs_eq (d : D) : nbs d = d.names.length :: d.parts.flatMap nbs := by
  obtain ⟨kind, ty, bits, imag, text, names, parts, hook⟩ := d
  rw [nbs]
theorem NB.mk {d : D} (h : d.names.length * 16 ≤ 140737488355328) (hp : ∀ x ∈ d.parts, NB x) : NB d := by
  intro k hk
  rw [nbs_eq, List.mem_cons, List.mem_flatMap] at hk
  rcases hk with rfl | ⟨x, hx, hk⟩
  · exact h
  · exact hp x hx k hk
theorem NB.names {d : D} (h : NB d) : d.names.length * 16 ≤ 140737488355328 := h _ (by rw [nbs_eq]; exact List.mem_cons_self ..)
theorem NB.part {d x : D} (h : NB d) (hx : x ∈ d.parts) : NB x := fun k hk => h k (by rw [nbs_eq]; exact List.mem_cons_of_mem _ (List.mem_flatMap.2 ⟨x, hx, hk⟩))
theorem kbytesStr : Tryd.prog.bytesOf 9 = 16 := by kernel_rfl
theorem kbytesDesc : Tryd.prog.bytesOf 26 = 112 := by kernel_rfl
theorem reach47 : reachBytes ≤ 140737488355328 := by decide
/-- No text and no list is longer than memory reaches. -/
def Wt {H : Type} (t : TypeId) (d : DataW H) : Prop := ∀ k ∈ d.weights Tryd.prog t, k ≤ reachBytes
theorem Wt.part {H : Type} {t : TypeId} {fs : Array Field} {xs : List (DataW H × List MemPlace)} (hu : Tryd.prog.underlying t = some (.struct fs)) (h : Wt t (.agg (xs.map (·.1)))) {i : Nat} {f : Field} {y : DataW H × List MemPlace} (hf : fs[i]? = some f) (hy : xs[i]? = some y) : Wt f.type y.1 := fun k hk => by
  refine h k ?_
  rw [DataW.weights, hu]
  refine DataW.weights_mem_each (j := i) (t := f.type) (d := y.1) ?_ ?_ k hk
  · rw [List.getElem?_map, Array.getElem?_toList, hf]; rfl
  · rw [List.getElem?_map, hy]; rfl
theorem mem_weightsAll {H : Type} {e : TypeId} : ∀ {l : List (DataW H)} {i : Nat} {d : DataW H}, l[i]? = some d → ∀ k ∈ d.weights Tryd.prog e, k ∈ DataW.weightsAll Tryd.prog e l
  | [], i, d, h, k, hk => by simp at h
  | c :: r, 0, d, h, k, hk => by
    simp only [List.getElem?_cons_zero, Option.some.injEq] at h
    subst h
    unfold DataW.weightsAll
    exact List.mem_append_left _ hk
  | c :: r, i + 1, d, h, k, hk => by
    unfold DataW.weightsAll
    exact List.mem_append_right _ (mem_weightsAll (by simpa using h) k hk)
theorem Wt.list {H : Type} {t e : TypeId} {elems rest : List (DataW H × List MemPlace)} (hu : Tryd.prog.underlying t = some (.slice e)) (h : Wt t (.slice (elems.map (·.1)) (rest.map (·.1)))) : elems.length * Tryd.prog.bytesOf e ≤ 140737488355328 ∧ ∀ (i : Nat) (y : DataW H × List MemPlace), elems[i]? = some y → Wt e y.1 := by
  have hw : ∀ k, k = ((elems.map (·.1)).length + (rest.map (·.1)).length) * Tryd.prog.bytesOf e ∨ k ∈ DataW.weightsAll Tryd.prog e (elems.map (·.1)) → k ≤ reachBytes := fun k hk => h k (by
    rw [DataW.weights, hu]
    dsimp only
    rcases hk with hk | hk
    · rw [← hk]; exact List.mem_cons_self ..
    · exact List.mem_cons_of_mem _ (List.mem_append_left _ hk))
  constructor
  · have h1 := hw _ (.inl rfl)
    have e1 := reach47
    simp only [List.length_map] at h1
    have : elems.length * Tryd.prog.bytesOf e ≤ (elems.length + rest.length) * Tryd.prog.bytesOf e := Nat.mul_le_mul_right _ (Nat.le_add_right _ _)
    omega
  · intro i y hy k hk
    exact hw k (.inr (mem_weightsAll (i := i) (by rw [List.getElem?_map, hy]; rfl) k hk))
theorem dcellsStr : Tryd.prog.cellsOf 9 = 1 := by kernel_rfl
theorem dcellsInt : Tryd.prog.cellsOf 3 = 1 := by kernel_rfl
theorem dcellsU : Tryd.prog.cellsOf 22 = 1 := by kernel_rfl
theorem dcellsStrs : Tryd.prog.cellsOf 23 = 1 := by kernel_rfl
theorem dcellsDescs : Tryd.prog.cellsOf 24 = 1 := by kernel_rfl
theorem dcellsDesc : Tryd.prog.cellsOf 26 = 8 := by kernel_rfl
abbrev DTrd {H : Type} (enc : TypeId × Value → H) (W : World) (n : Nat) (t : TypeId) (cs : List Value) (x : DataW H × List MemPlace) : Prop := DataW.trod enc Tryd.prog W 0 (fun _ => true) true n t cs = some x
theorem list_of {α : Type} {P : Nat → α → Prop} : ∀ n, (∀ i, i < n → ∃ x, P i x) → ∃ l : List α, l.length = n ∧ ∀ i x, l[i]? = some x → P i x
  | 0, _ => ⟨[], rfl, fun i x h => by simp at h⟩
  | n + 1, h => by
    obtain ⟨l, h1, h2⟩ := list_of n fun i hi => h i (by omega)
    obtain ⟨x, hx⟩ := h n (by omega)
    refine ⟨l ++ [x], by simp [h1], fun i y hy => ?_⟩
    by_cases hi : i < n
    · rw [List.getElem?_append_left (by omega)] at hy
      exact h2 i y hy
    · have hil := (List.getElem?_eq_some_iff.1 hy).1
      simp at hil
      obtain rfl : i = n := by omega
      rw [List.getElem?_append_right (by omega), h1] at hy
      simp at hy
      subst hy
      exact hx
theorem openD_names {H : Type} {enc : TypeId × Value → H} {W : World} {n : Nat} {v : Value} {x : DataW H × List MemPlace} (h : DTrd enc W n 23 [v] x) (hw : Wt 23 x.1) : ∃ l : List ByteArray, Strs W v l ∧ l.length * 16 ≤ 140737488355328 := by
  rcases DataW.trod_slice Tryd.underlying23 h with ⟨hcs, _⟩ | ⟨a, l, c, elems, rest, k, hk, hcs, hx0, _, hl, hm, hlen, hx, _, _⟩
  · simp only [List.cons.injEq, and_true] at hcs
    exact ⟨[], ⟨none, 0, hcs, Nat.le_refl _, Nat.zero_le _, fun i s hs => by simp at hs⟩, by simp⟩
  · simp only [List.cons.injEq, and_true] at hcs
    rw [hx0] at hw
    obtain ⟨hb1, _⟩ := Wt.list Tryd.underlying23 hw
    rw [kbytesStr, hlen] at hb1
    have each : ∀ i, i < l → ∃ t : ByteArray, t.size ≤ maxLen ∧ W.cell? (a.add i) = some (.string t) := by
      intro i hi
      have h1 := hx i hi
      rw [dcellsStr, Nat.mul_one] at h1
      have h2 : i < elems.length := by omega
      rw [List.getElem?_eq_getElem h2] at h1
      obtain ⟨cs', e1, e2⟩ := Option.bind_eq_some_iff.1 h1
      obtain ⟨_, hlen', hcell⟩ := World.cells?_some e1
      obtain ⟨s, rfl, _, hs⟩ := DataW.trod_string Tryd.underlying9 e2
      have := hcell 0 (by omega)
      refine ⟨s, hs, ?_⟩
      have e3 : (a.add i).add 0 = a.add i := by unfold Addr.add; split <;> simp_all
      rw [e3] at this
      exact this
    obtain ⟨ts, ht1, ht2⟩ := list_of l each
    refine ⟨ts, ⟨some a, c, by rw [ht1]; exact hcs, by omega, hm, fun i s hs => ?_⟩, by rw [ht1]; exact hb1⟩
    have hil := (List.getElem?_eq_some_iff.1 hs).1
    obtain ⟨z, ci⟩ := ht2 i s hs
    obtain ⟨t0, hs0⟩ : ∃ t0, ts[0]? = some t0 := ⟨_, List.getElem?_eq_getElem (by omega)⟩
    obtain ⟨-, c0⟩ := ht2 0 t0 hs0
    obtain ⟨b, off, spot⟩ := a
    have hspot : spot = none := by simpa [Addr.add] using World.cell?_spot c0
    subst hspot
    rw [Addr.add_mid] at ci
    exact ⟨z, b, off, rfl, ci⟩
/-- A row of descriptors, read n deep. -/
def PsD (n : Nat) (W : World) (v : Value) (l : List D) : Prop := ∃ a cap, v = .slice a l.length cap ∧ l.length ≤ cap ∧ cap ≤ maxLen ∧
  ∀ (i : Nat) (x : D), l[i]? = some x → ∃ b off nv' pv', a = some ⟨b, off, none⟩ ∧ At8 W b (off + i * 8) x nv' pv' ∧ RdC n W nv' pv' x
def OpD {H : Type} (enc : TypeId × Value → H) (W : World) (n : Nat) : Prop := ∀ cs x, DTrd enc W n 26 cs x → Wt 26 x.1 → ∃ (d : D) (nv pv : Value), cs = [.int .i64 d.kind, .string d.ty, .int .u64 d.bits, .int .u64 d.imag, .string d.text, nv, pv, .int .i64 d.hook] ∧ RdC n W nv pv d ∧ NB d
theorem openD_parts {H : Type} {enc : TypeId × Value → H} {W : World} {n : Nat} {v : Value} {x : DataW H × List MemPlace} (hD : OpD enc W n) (h : DTrd enc W (n + 1) 24 [v] x) (hw : Wt 24 x.1) : ∃ l : List D, PsD n W v l ∧ ∀ y ∈ l, NB y := by
  rcases DataW.trod_slice Tryd.underlying24 h with ⟨hcs, _⟩ | ⟨a, l, c, elems, rest, k, hk, hcs, hx0, _, hl, hm, hlen, hx, _, _⟩
  · simp only [List.cons.injEq, and_true] at hcs
    exact ⟨[], ⟨none, 0, hcs, Nat.le_refl _, Nat.zero_le _, fun i s hs => by simp at hs⟩, fun y hy => by cases hy⟩
  · simp only [List.cons.injEq, and_true] at hcs
    obtain rfl : n = k := by omega
    rw [hx0] at hw
    obtain ⟨-, hwe⟩ := Wt.list Tryd.underlying24 hw
    have each : ∀ i, i < l → ∃ e : D, ∃ nv pv, (∀ j v, ([.int .i64 e.kind, .string e.ty, .int .u64 e.bits, .int .u64 e.imag, .string e.text, nv, pv, .int .i64 e.hook] : List Value)[j]? = some v → W.cell? ((a.add (i * 8)).add j) = some v) ∧ RdC n W nv pv e ∧ NB e := by
      intro i hi
      have h1 := hx i hi
      rw [dcellsDesc] at h1
      have h2 : i < elems.length := by omega
      rw [List.getElem?_eq_getElem h2] at h1
      obtain ⟨cs', e1, e2⟩ := Option.bind_eq_some_iff.1 h1
      obtain ⟨_, hlen', hcell⟩ := World.cells?_some e1
      obtain ⟨d, nv, pv, rfl, hd⟩ := hD cs' _ e2 (hwe i _ (List.getElem?_eq_getElem h2))
      refine ⟨d, nv, pv, fun j v hv => ?_, hd⟩
      have hj : j < 8 := by have := (List.getElem?_eq_some_iff.1 hv).1; simpa using this
      rw [← hv]
      exact hcell j (by omega)
    obtain ⟨es, he1, he2⟩ := list_of l each
    refine ⟨es, ⟨some a, c, by rw [he1]; exact hcs, by omega, hm, fun i e he => ?_⟩, fun y hy => by obtain ⟨i, hi⟩ := List.mem_iff_getElem?.1 hy; obtain ⟨_, _, _, _, h⟩ := he2 i y hi; exact h⟩
    have hil := (List.getElem?_eq_some_iff.1 he).1
    obtain ⟨e0, hs0⟩ : ∃ t0, es[0]? = some t0 := ⟨_, List.getElem?_eq_getElem (by omega)⟩
    obtain ⟨nv0, pv0, c0, -⟩ := he2 0 e0 hs0
    have c00 := c0 0 _ rfl
    obtain ⟨b, off, spot⟩ := a
    have hspot : spot = none := by simpa [Addr.add] using World.cell?_spot c00
    subst hspot
    obtain ⟨nv, pv, ci, hr, -⟩ := he2 i e he
    have cj : ∀ j v, ([.int .i64 e.kind, .string e.ty, .int .u64 e.bits, .int .u64 e.imag, .string e.text, nv, pv, .int .i64 e.hook] : List Value)[j]? = some v → W.cell? ⟨b, off + i * 8 + j, none⟩ = some v := fun j v hv => by
      have := ci j v hv
      rwa [Addr.add_mid, Addr.add_mid] at this
    exact ⟨b, off, nv, pv, rfl, ⟨cj 0 _ rfl, cj 1 _ rfl, cj 2 _ rfl, cj 3 _ rfl, cj 4 _ rfl, cj 5 _ rfl, cj 6 _ rfl, cj 7 _ rfl⟩, hr⟩
set_option maxRecDepth 1000000 in
theorem openD_desc {H : Type} {enc : TypeId × Value → H} {W : World} : ∀ n, OpD enc W n := by
  intro n
  induction n using Nat.strongRecOn with
  | _ n ih =>
    intro cs x h hw
    obtain ⟨xs, k, hk, hx0, hlen0, hlen, hf⟩ := DataW.trod_struct Tryd.underlying26 h
    rw [dcellsDesc] at hlen0
    rw [hx0] at hw
    match xs, hlen, cs, hlen0 with
    | [y0, y1, y2, y3, y4, y5, y6, y7], _, [c0, c1, c2, c3, c4, c5, c6, c7], _ =>
      have g0 : DTrd enc W k 3 [c0] y0 := by simpa [dcellsInt] using hf 0 _ rfl
      have g1 : DTrd enc W k 9 [c1] y1 := by simpa [dcellsStr] using hf 1 _ rfl
      have g2 : DTrd enc W k 22 [c2] y2 := by simpa [dcellsU] using hf 2 _ rfl
      have g3 : DTrd enc W k 22 [c3] y3 := by simpa [dcellsU] using hf 3 _ rfl
      have g4 : DTrd enc W k 9 [c4] y4 := by simpa [dcellsStr] using hf 4 _ rfl
      have g5 : DTrd enc W k 23 [c5] y5 := by simpa [dcellsStrs] using hf 5 _ rfl
      have g6 : DTrd enc W k 24 [c6] y6 := by simpa [dcellsDescs] using hf 6 _ rfl
      have g7 : DTrd enc W k 3 [c7] y7 := by simpa [dcellsInt] using hf 7 _ rfl
      obtain ⟨x0, e0, _, w0⟩ := DataW.trod_int Tryd.underlying3 g0
      obtain ⟨x1, e1, _, w1⟩ := DataW.trod_string Tryd.underlying9 g1
      obtain ⟨x2, e2, _, w2⟩ := DataW.trod_int Tryd.underlying22 g2
      obtain ⟨x3, e3, _, w3⟩ := DataW.trod_int Tryd.underlying22 g3
      obtain ⟨x4, e4, _, w4⟩ := DataW.trod_string Tryd.underlying9 g4
      obtain ⟨x7, e7, _, w7⟩ := DataW.trod_int Tryd.underlying3 g7
      obtain ⟨ns, hns, hnb⟩ := openD_names g5 (Wt.part Tryd.underlying26 hw (i := 5) rfl rfl)
      obtain ⟨j, rfl⟩ : ∃ j, k = j + 1 := by
        cases k with
        | zero => simp [DTrd, DataW.trod] at g6
        | succ j => exact ⟨j, rfl⟩
      obtain ⟨ps, hps, hpb⟩ := openD_parts (n := j) (ih j (by omega)) g6 (Wt.part Tryd.underlying26 hw (i := 6) rfl rfl)
      simp only [List.cons.injEq, and_true] at e0 e1 e2 e3 e4 e7
      subst e0 e1 e2 e3 e4 e7
      subst hk
      refine ⟨⟨x0, x1, x2, x3, x4, ns, ps, x7⟩, c5, c6, rfl, ?_, ?_⟩
      rotate_left
      · exact NB.mk hnb fun y hy => hpb y hy
      obtain ⟨a, cap, p1, p2, p3, p4⟩ := hps
      refine ⟨⟨?_, ?_, ?_, ?_, w1, w4⟩, hns, a, cap, p1, p2, p3, fun i x hx => ?_⟩
      · simpa [Lit.wf, IntKind.min, IntKind.max, IntKind.bits, IntKind.signed] using w0
      · simpa [Lit.wf, IntKind.min, IntKind.max, IntKind.bits, IntKind.signed] using w2
      · simpa [Lit.wf, IntKind.min, IntKind.max, IntKind.bits, IntKind.signed] using w3
      · simpa [Lit.wf, IntKind.min, IntKind.max, IntKind.bits, IntKind.signed] using w7
      · obtain ⟨b, off, nv', pv', q1, q2, q3⟩ := p4 i x hx
        exact ⟨b, off, nv', pv', q1, q2, q3.more (by omega)⟩
set_option maxRecDepth 1000000 in
/-- A descriptor that is handed in. -/
theorem open_descK {H : Type} {enc : TypeId × Value → H} {W : World} {base : Nat} {v : Value} {d : DataW H} {p : List MemPlace}
    (hv : Value.okWide Tryd.prog W .any base 26 v) (h : DataW.Trod enc Tryd.prog W 0 (fun _ => true) true 26 v d p) (hw : Wt 26 d) : ∃ (x : D) (n : Nat) (nv pv : Value), v = DV x nv pv ∧ RdC n W nv pv x ∧ NB x := by
  obtain ⟨cs, rfl, hsz⟩ := okWide_struct Tryd.underlying26 hv
  obtain ⟨fuel, hf0⟩ := h
  obtain ⟨a, nv, pv, ha, hok⟩ := openD_desc fuel _ _ hf0 hw
  refine ⟨a, fuel, nv, pv, ?_, hok⟩
  unfold DV
  rw [← ha]
  simp [Value.cells]
end Go.Proofs.YtjphklhfigammaaDoor
