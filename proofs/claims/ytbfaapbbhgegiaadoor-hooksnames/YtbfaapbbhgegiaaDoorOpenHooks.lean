/- What a table of rows looks like when it can be read, with the sizes of its texts and lists. (OpenHookK and what follows from it in one text.) -/
import Derived.Test.YtbfaapbbhgegiaaDoorRows
import Derived.Test.YtbfaapbbhgegiaaDoorXGets
import Derived.WalkKit
import Derived.ProofKit
import Derived.OpenShut
import Derived.SizedLaws
import Derived.Deep.Slices
namespace Go.Proofs.YtbfaapbbhgegiaaDoor
open Go.ChangeShapes Go.WideShapes Go.ChangeAt Go.RowKit
set_option linter.unusedVariables false

theorem kcellsStr : Tryd.prog.cellsOf 9 = 1 := by kernel_rfl
theorem kcellsInt : Tryd.prog.cellsOf 3 = 1 := by kernel_rfl
theorem kcellsU : Tryd.prog.cellsOf 23 = 1 := by kernel_rfl
theorem kcellsStrs : Tryd.prog.cellsOf 24 = 1 := by kernel_rfl
theorem kcellsDescs : Tryd.prog.cellsOf 22 = 1 := by kernel_rfl
theorem kcellsDesc : Tryd.prog.cellsOf 26 = 8 := by kernel_rfl
theorem kcellsAct : Tryd.prog.cellsOf 28 = 12 := by kernel_rfl
theorem kcellsHook : Tryd.prog.cellsOf 30 = 48 := by kernel_rfl
theorem kbytesStr : Tryd.prog.bytesOf 9 = 16 := by kernel_rfl
theorem kbytesDesc : Tryd.prog.bytesOf 26 = 112 := by kernel_rfl
theorem reach47 : reachBytes ≤ 140737488355328 := by decide
abbrev KTrd {H : Type} (enc : TypeId × Value → H) (W : World) (n : Nat) (t : TypeId) (cs : List Value) (x : DataW H × List MemPlace) : Prop := DataW.trod enc Tryd.prog W 0 (fun _ => true) true n t cs = some x
/-- No text and no list is longer than memory reaches. -/
def Wt {H : Type} (t : TypeId) (d : DataW H) : Prop := ∀ k ∈ d.weights Tryd.prog t, k ≤ reachBytes
theorem Wt.part {H : Type} {t : TypeId} {fs : Array Field} {xs : List (DataW H × List MemPlace)} (hu : Tryd.prog.underlying t = some (.struct fs)) (h : Wt t (.agg (xs.map (·.1)))) {i : Nat} {f : Field} {y : DataW H × List MemPlace} (hf : fs[i]? = some f) (hy : xs[i]? = some y) : Wt f.type y.1 := fun k hk => by
  refine h k ?_
  rw [DataW.weights, hu]
  refine DataW.weights_mem_each (j := i) (t := f.type) (d := y.1) ?_ ?_ k hk
  · rw [List.getElem?_map, Array.getElem?_toList, hf]; rfl
  · rw [List.getElem?_map, hy]; rfl
theorem Wt.str {H : Type} {t : TypeId} {s : ByteArray} (h : Wt (H := H) t (.lit (.string s.data.toList))) : s.size ≤ 140737488355328 := by
  have := h s.data.toList.length (by rw [DataW.weights]; exact List.mem_cons_self ..)
  have e := reach47
  have e2 : s.data.toList.length = s.size := list_len s
  omega
theorem mem_weightsAll {H : Type} {e : TypeId} : ∀ {l : List (DataW H)} {i : Nat} {d : DataW H}, l[i]? = some d → ∀ k ∈ d.weights Tryd.prog e, k ∈ DataW.weightsAll Tryd.prog e l
  | [], i, d, h, k, hk => by simp at h
  | c :: r, 0, d, h, k, hk => by
    simp only [List.getElem?_cons_zero, Option.some.injEq] at h
    subst h
    unfold DataW.weightsAll
    exact List.mem_append_left _ hk
  | c :: r, i + 1, d, h, k, hk => by
    unfold DataW.weightsAll
    exact List.mem_append_right _ (mem_weightsAll (by simpa using h) k hk)
theorem Wt.list {H : Type} {t e : TypeId} {elems rest : List (DataW H × List MemPlace)} (hu : Tryd.prog.underlying t = some (.slice e)) (h : Wt t (.slice (elems.map (·.1)) (rest.map (·.1)))) : elems.length * Tryd.prog.bytesOf e ≤ 140737488355328 ∧ ∀ (i : Nat) (y : DataW H × List MemPlace), elems[i]? = some y → Wt e y.1 := by
  have hw : ∀ k, k = ((elems.map (·.1)).length + (rest.map (·.1)).length) * Tryd.prog.bytesOf e ∨ k ∈ DataW.weightsAll Tryd.prog e (elems.map (·.1)) → k ≤ reachBytes := fun k hk => h k (by
    rw [DataW.weights, hu]
    dsimp only
    rcases hk with hk | hk
    · rw [← hk]; exact List.mem_cons_self ..
    · exact List.mem_cons_of_mem _ (List.mem_append_left _ hk))
  constructor
  · have h1 := hw _ (.inl rfl)
    have e1 := reach47
    simp only [List.length_map] at h1
    have : elems.length * Tryd.prog.bytesOf e ≤ (elems.length + rest.length) * Tryd.prog.bytesOf e := Nat.mul_le_mul_right _ (Nat.le_add_right _ _)
    omega
  · intro i y hy k hk
    exact hw k (.inr (mem_weightsAll (i := i) (by rw [List.getElem?_map, hy]; rfl) k hk))
theorem openK_names {H : Type} {enc : TypeId × Value → H} {W : World} {n : Nat} {v : Value} {x : DataW H × List MemPlace} (h : KTrd enc W n 24 [v] x) (hw : Wt 24 x.1) : ∃ s : Sl, v = .slice s.a s.n s.c ∧ NsK W s := by
  rcases DataW.trod_slice Tryd.underlying24 h with ⟨hcs, _⟩ | ⟨a, l, c, elems, rest, k, hk, hcs, hx0, _, hl, hm, hlen, hx, _, _⟩
  · simp only [List.cons.injEq, and_true] at hcs
    exact ⟨⟨none, 0, 0⟩, hcs, (by show 0 * 16 ≤ 140737488355328; omega), .inl ⟨rfl, rfl, rfl⟩⟩
  · simp only [List.cons.injEq, and_true] at hcs
    rw [hx0] at hw
    obtain ⟨hb1, _⟩ := Wt.list Tryd.underlying24 hw
    rw [kbytesStr, hlen] at hb1
    refine ⟨⟨some a, l, c⟩, hcs, hb1, .inr ?_⟩
    rcases Nat.eq_zero_or_pos l with h0 | h0
    · exact .inl ⟨by simp, h0⟩
    · right
      refine ⟨h0, ?_⟩
      have each : ∀ i, i < l → ∃ t : ByteArray, W.cell? (a.add i) = some (.string t) := by
        intro i hi
        have h1 := hx i hi
        rw [kcellsStr, Nat.mul_one] at h1
        have h2 : i < elems.length := by omega
        rw [List.getElem?_eq_getElem h2] at h1
        obtain ⟨cs', e1, e2⟩ := Option.bind_eq_some_iff.1 h1
        obtain ⟨_, hlen', hcell⟩ := World.cells?_some e1
        obtain ⟨s, rfl, _⟩ := DataW.trod_string Tryd.underlying9 e2
        have := hcell 0 (by omega)
        refine ⟨s, ?_⟩
        have e3 : (a.add i).add 0 = a.add i := by unfold Addr.add; split <;> simp_all
        rw [e3] at this
        exact this
      obtain ⟨b, off, spot⟩ := a
      obtain ⟨t, c0⟩ := each 0 h0
      have hspot : spot = none := by simpa [Addr.add] using World.cell?_spot c0
      subst hspot
      have hb : b < W.heap.size := by
        have := World.block_lt_of_cell? W _ c0
        simpa [Addr.add] using this
      refine ⟨b, off, rfl, hb, fun i hi => ?_⟩
      obtain ⟨t, ht⟩ := each i hi
      rw [Addr.add_mid] at ht
      exact ⟨t, by rw [Nat.mul_one]; exact ht⟩
def KOpD {H : Type} (enc : TypeId × Value → H) (W : World) (n : Nat) : Prop := ∀ cs x, KTrd enc W n 26 cs x → Wt 26 x.1 → ∃ d : Ds, cs = d.v ∧ d.tx.size ≤ 140737488355328 ∧ DsK n W d
theorem openK_parts {H : Type} {enc : TypeId × Value → H} {W : World} {n : Nat} {v : Value} {x : DataW H × List MemPlace} (hD : KOpD enc W n) (h : KTrd enc W (n + 1) 22 [v] x) (hw : Wt 22 x.1) : ∃ s : Sl, v = .slice s.a s.n s.c ∧ PsK n W s := by
  rcases DataW.trod_slice Tryd.underlying22 h with ⟨hcs, _⟩ | ⟨a, l, c, elems, rest, k, hk, hcs, hx0, _, hl, hm, hlen, hx, _, _⟩
  · simp only [List.cons.injEq, and_true] at hcs
    exact ⟨⟨none, 0, 0⟩, hcs, (by show 0 * 112 ≤ 140737488355328; omega), .inl ⟨rfl, rfl, rfl⟩⟩
  · simp only [List.cons.injEq, and_true] at hcs
    obtain rfl : n = k := by omega
    rw [hx0] at hw
    obtain ⟨hb1, hwe⟩ := Wt.list Tryd.underlying22 hw
    rw [kbytesDesc, hlen] at hb1
    refine ⟨⟨some a, l, c⟩, hcs, hb1, .inr ?_⟩
    rcases Nat.eq_zero_or_pos l with h0 | h0
    · exact .inl ⟨by simp, h0⟩
    · right
      refine ⟨h0, ?_⟩
      have each : ∀ i, i < l → ∃ e : Ds, (∀ j v, e.v[j]? = some v → W.cell? ((a.add (i * 8)).add j) = some v) ∧ DsK n W e := by
        intro i hi
        have h1 := hx i hi
        rw [kcellsDesc] at h1
        have h2 : i < elems.length := by omega
        rw [List.getElem?_eq_getElem h2] at h1
        obtain ⟨cs', e1, e2⟩ := Option.bind_eq_some_iff.1 h1
        obtain ⟨_, hlen', hcell⟩ := World.cells?_some e1
        obtain ⟨d, rfl, _, hd⟩ := hD cs' _ e2 (hwe i _ (List.getElem?_eq_getElem h2))
        refine ⟨d, fun j v hv => ?_, hd⟩
        have hj : j < 8 := by have := (List.getElem?_eq_some_iff.1 hv).1; rw [d.len] at this; exact this
        rw [← hv]
        exact hcell j (by omega)
      obtain ⟨b, off, spot⟩ := a
      obtain ⟨e, c0, _⟩ := each 0 h0
      have c0' := c0 0 _ rfl
      have hspot : spot = none := by simpa [Addr.add] using World.cell?_spot c0'
      subst hspot
      have hb : b < W.heap.size := by
        have := World.block_lt_of_cell? W _ c0'
        simpa [Addr.add] using this
      refine ⟨b, off, rfl, hb, fun i hi => ?_⟩
      obtain ⟨e, c1, he⟩ := each i hi
      refine ⟨e, fun j v hv => ?_, he⟩
      have := c1 j v hv
      rwa [Addr.add_mid, Addr.add_mid] at this
theorem DsK.mono : ∀ {m k : Nat} {W : World} {d : Ds}, k ≤ m → DsK k W d → DsK m W d
  | 0, 0, _, _, _, h => h
  | 0, _ + 1, _, _, hk, _ => absurd hk (by omega)
  | _ + 1, 0, _, _, _, h => h.elim
  | m + 1, k + 1, W, d, hk, h => ⟨h.1, h.2.imp (Nat.le_refl _) (fun _ _ _ ⟨e, h1, h2⟩ => ⟨e, h1, DsK.mono (Nat.le_of_succ_le_succ hk) h2⟩)⟩
theorem PsK.mono {m k : Nat} {W : World} {l : Sl} (hk : k ≤ m) (h : PsK k W l) : PsK m W l := h.imp (Nat.le_refl _) (fun _ _ _ ⟨e, h1, h2⟩ => ⟨e, h1, h2.mono hk⟩)
def AcK (m : Nat) (W : World) (x : Ac) : Prop := PsK m W x.l ∧ DsK m W x.p ∧ x.t.size ≤ 140737488355328 ∧ x.f.size ≤ 140737488355328 ∧ x.p.tx.size ≤ 140737488355328
def HkK (m : Nat) (W : World) (h : Hk) : Prop := AcK m W h.a ∧ AcK m W h.b ∧ AcK m W h.c ∧ AcK m W h.d
set_option maxRecDepth 1000000 in
theorem openK_desc {H : Type} {enc : TypeId × Value → H} {W : World} : ∀ n, KOpD enc W n := by
  intro n
  induction n using Nat.strongRecOn with
  | _ n ih =>
    intro cs x h hw
    obtain ⟨xs, k, hk, hx0, hlen0, hlen, hf⟩ := DataW.trod_struct Tryd.underlying26 h
    rw [kcellsDesc] at hlen0
    rw [hx0] at hw
    match xs, hlen, cs, hlen0 with
    | [y0, y1, y2, y3, y4, y5, y6, y7], _, [c0, c1, c2, c3, c4, c5, c6, c7], _ =>
      have g0 : KTrd enc W k 3 [c0] y0 := by simpa [kcellsInt] using hf 0 _ rfl
      have g1 : KTrd enc W k 9 [c1] y1 := by simpa [kcellsStr] using hf 1 _ rfl
      have g2 : KTrd enc W k 23 [c2] y2 := by simpa [kcellsU] using hf 2 _ rfl
      have g3 : KTrd enc W k 23 [c3] y3 := by simpa [kcellsU] using hf 3 _ rfl
      have g4 : KTrd enc W k 9 [c4] y4 := by simpa [kcellsStr] using hf 4 _ rfl
      have g5 : KTrd enc W k 24 [c5] y5 := by simpa [kcellsStrs] using hf 5 _ rfl
      have g6 : KTrd enc W k 22 [c6] y6 := by simpa [kcellsDescs] using hf 6 _ rfl
      have g7 : KTrd enc W k 3 [c7] y7 := by simpa [kcellsInt] using hf 7 _ rfl
      obtain ⟨x0, e0, _, w0⟩ := DataW.trod_int Tryd.underlying3 g0
      obtain ⟨x1, e1, _⟩ := DataW.trod_string Tryd.underlying9 g1
      obtain ⟨x2, e2, _, w2⟩ := DataW.trod_int Tryd.underlying23 g2
      obtain ⟨x3, e3, _, w3⟩ := DataW.trod_int Tryd.underlying23 g3
      obtain ⟨x4, e4, v4, _⟩ := DataW.trod_string Tryd.underlying9 g4
      have u4 : Wt 9 y4.1 := Wt.part Tryd.underlying26 hw (i := 4) rfl rfl
      rw [v4] at u4
      have w4 := Wt.str u4
      have u5 : Wt 24 y5.1 := Wt.part Tryd.underlying26 hw (i := 5) rfl rfl
      have u6 : Wt 22 y6.1 := Wt.part Tryd.underlying26 hw (i := 6) rfl rfl
      obtain ⟨x7, e7, _, w7⟩ := DataW.trod_int Tryd.underlying3 g7
      obtain ⟨ns, e5, hns⟩ := openK_names g5 u5
      have hk0 : ∃ j, k = j + 1 := by
        cases k with
        | zero => simp [KTrd, DataW.trod] at g6
        | succ j => exact ⟨j, rfl⟩
      obtain ⟨j, rfl⟩ := hk0
      obtain ⟨ps, e6, hps⟩ := openK_parts (n := j) (ih j (by omega)) g6 u6
      simp only [List.cons.injEq, and_true] at e0 e1 e2 e3 e4 e7
      subst e0 e1 e2 e3 e4 e5 e6 e7
      refine ⟨⟨x0, x1, x2, x3, x4, ns, ps, x7⟩, rfl, w4, ?_⟩
      subst hk
      exact ⟨hns, PsK.mono (by omega) hps⟩
theorem ksplit12 (cs : List Value) (h : cs.length = 12) : ∃ c0 c1 c2 c3 r, cs = c0 :: c1 :: c2 :: c3 :: r ∧ r.length = 8 := by
  match cs, h with
  | c0 :: c1 :: c2 :: c3 :: r, h => exact ⟨c0, c1, c2, c3, r, rfl, by simpa using h⟩
set_option maxRecDepth 1000000 in
theorem openK_act {H : Type} {enc : TypeId × Value → H} {W : World} {n : Nat} {cs : List Value} {x : DataW H × List MemPlace} (h : KTrd enc W n 28 cs x) (hw : Wt 28 x.1) : ∃ a : Ac, cs = a.v ∧ AcK n W a := by
  obtain ⟨xs, k, hk, hx0, hlen0, hlen, hf⟩ := DataW.trod_struct Tryd.underlying28 h
  rw [kcellsAct] at hlen0
  rw [hx0] at hw
  obtain ⟨c0, c1, c2, c3, r, rfl, hr⟩ := ksplit12 cs hlen0
  match xs, hlen with
  | [y0, y1, y2, y3, y4], _ =>
    have g0 : KTrd enc W k 3 [c0] y0 := by simpa [kcellsInt] using hf 0 _ rfl
    have g1 : KTrd enc W k 9 [c1] y1 := by simpa [kcellsStr] using hf 1 _ rfl
    have g2 : KTrd enc W k 9 [c2] y2 := by simpa [kcellsStr] using hf 2 _ rfl
    have g3 : KTrd enc W k 22 [c3] y3 := by simpa [kcellsDescs] using hf 3 _ rfl
    have g4 : KTrd enc W k 26 r y4 := by simpa [kcellsDesc, hr, List.take_of_length_le] using hf 4 _ rfl
    obtain ⟨x0, e0, _, w0⟩ := DataW.trod_int Tryd.underlying3 g0
    obtain ⟨x1, e1, v1, _⟩ := DataW.trod_string Tryd.underlying9 g1
    obtain ⟨x2, e2, v2, _⟩ := DataW.trod_string Tryd.underlying9 g2
    have u1 : Wt 9 y1.1 := Wt.part Tryd.underlying28 hw (i := 1) rfl rfl
    have u2 : Wt 9 y2.1 := Wt.part Tryd.underlying28 hw (i := 2) rfl rfl
    have u3 : Wt 22 y3.1 := Wt.part Tryd.underlying28 hw (i := 3) rfl rfl
    have u4 : Wt 26 y4.1 := Wt.part Tryd.underlying28 hw (i := 4) rfl rfl
    rw [v1] at u1
    rw [v2] at u2
    have z1 := Wt.str u1
    have z2 := Wt.str u2
    obtain ⟨j, rfl⟩ : ∃ j, k = j + 1 := by
      cases k with
      | zero => simp [KTrd, DataW.trod] at g3
      | succ j => exact ⟨j, rfl⟩
    obtain ⟨l, e3, hl⟩ := openK_parts (n := j) (openK_desc j) g3 u3
    obtain ⟨p, rfl, z4, hp⟩ := openK_desc _ _ _ g4 u4
    simp only [List.cons.injEq, and_true] at e0 e1 e2
    subst e0 e1 e2 e3
    exact ⟨⟨x0, x1, x2, l, p⟩, rfl, PsK.mono (by omega) hl, hp.mono (by omega), z1, z2, z4⟩
set_option maxRecDepth 1000000 in
theorem openK_hook {H : Type} {enc : TypeId × Value → H} {W : World} {n : Nat} {cs : List Value} {x : DataW H × List MemPlace} (h : KTrd enc W n 30 cs x) (hw : Wt 30 x.1) : ∃ a : Hk, cs = a.v ∧ HkK n W a := by
  obtain ⟨xs, k, hk, hx0, hlen0, hlen, hf⟩ := DataW.trod_struct Tryd.underlying30 h
  rw [kcellsHook] at hlen0
  rw [hx0] at hw
  match xs, hlen with
  | [y0, y1, y2, y3], _ =>
    have g0 : KTrd enc W k 28 ((cs.drop 0).take 12) y0 := by simpa [kcellsAct] using hf 0 _ rfl
    have g1 : KTrd enc W k 28 ((cs.drop 12).take 12) y1 := by simpa [kcellsAct] using hf 1 _ rfl
    have g2 : KTrd enc W k 28 ((cs.drop 24).take 12) y2 := by simpa [kcellsAct] using hf 2 _ rfl
    have g3 : KTrd enc W k 28 ((cs.drop 36).take 12) y3 := by simpa [kcellsAct] using hf 3 _ rfl
    obtain ⟨a, ea, ha⟩ := openK_act g0 (Wt.part Tryd.underlying30 hw (i := 0) rfl rfl)
    obtain ⟨b, eb, hb⟩ := openK_act g1 (Wt.part Tryd.underlying30 hw (i := 1) rfl rfl)
    obtain ⟨c, ec, hc⟩ := openK_act g2 (Wt.part Tryd.underlying30 hw (i := 2) rfl rfl)
    obtain ⟨d, ed, hd⟩ := openK_act g3 (Wt.part Tryd.underlying30 hw (i := 3) rfl rfl)
    refine ⟨⟨a, b, c, d⟩, ?_, ?_⟩
    · show cs = a.v ++ (b.v ++ (c.v ++ d.v))
      rw [← ea, ← eb, ← ec, ← ed]
      have e1 : cs.drop 36 = (cs.drop 36).take 12 := (List.take_of_length_le (by simp; omega)).symm
      rw [← e1]
      have e2 : (cs.drop 24).take 12 ++ cs.drop 36 = cs.drop 24 := by rw [show 36 = 24 + 12 from rfl, ← List.drop_drop]; exact List.take_append_drop 12 (cs.drop 24)
      have e3 : (cs.drop 12).take 12 ++ cs.drop 24 = cs.drop 12 := by rw [show 24 = 12 + 12 from rfl, ← List.drop_drop]; exact List.take_append_drop 12 (cs.drop 12)
      have e4 : (cs.drop 0).take 12 ++ cs.drop 12 = cs := by rw [List.drop_zero]; exact List.take_append_drop 12 cs
      rw [e2, e3, e4]
    · have m1 : ∀ y : Ac, AcK k W y → AcK n W y := fun y hy => ⟨PsK.mono (by omega) hy.1, hy.2.1.mono (by omega), hy.2.2⟩
      exact ⟨m1 _ ha, m1 _ hb, m1 _ hc, m1 _ hd⟩
set_option maxRecDepth 1000000 in
theorem openK_hookV {H : Type} {enc : TypeId × Value → H} {W : World} {base : Nat} {v : Value} {d : DataW H} {p : List MemPlace}
    (hv : Value.okWide Tryd.prog W .any base 30 v) (h : DataW.Trod enc Tryd.prog W 0 (fun _ => true) true 30 v d p) (hw : Wt 30 d) : ∃ (h : Hk) (n : Nat), v = .agg h.v.toArray ∧ HkK n W h := by
  obtain ⟨cs, rfl, hsz⟩ := okWide_struct Tryd.underlying30 hv
  obtain ⟨fuel, hf0⟩ := h
  obtain ⟨a, ha, hok⟩ := openK_hook hf0 hw
  refine ⟨a, fuel, ?_, hok⟩
  rw [← ha]
  simp [Value.cells]

/-- A table: its rows lie in one block. -/
def TbK (m : Nat) (W : World) (l : Sl) : Prop := l.n ≤ l.c ∧ l.c ≤ maxLen ∧ (l.n = 0 ∨ ∃ b off, l.a = some ⟨b, off, none⟩ ∧ b < W.heap.size ∧ ∀ i, i < l.n → ∃ h : Hk, W.rangeAt b (off + i * 48) h.v ∧ HkR m W h)
set_option maxRecDepth 1000000 in
theorem open_hooks {H : Type} {enc : TypeId × Value → H} {W : World} {a : Option Addr} {len cap : Nat} {d : DataW H} {p : List MemPlace} (h : DataW.Trod enc Tryd.prog W 0 (fun _ => true) true 35 (.slice a len cap) d p) (hw : Wt 35 d) : ∃ m, TbK m W ⟨a, len, cap⟩ := by
  obtain ⟨fuel, hf0⟩ := h
  have hf : DataW.trod enc Tryd.prog W 0 (fun _ => true) true fuel 35 [.slice a len cap] = some (d, p) := by simpa [Value.cells] using hf0
  rcases DataW.trod_slice Tryd.underlying35 hf with ⟨hcs, _⟩ | ⟨ad, l, c, elems, rest, k, hk, hcs, hx0, _, hl, hm, hlen, hx, _, _⟩
  · simp only [List.cons.injEq, and_true, Value.slice.injEq] at hcs
    obtain ⟨rfl, rfl, rfl⟩ := hcs
    exact ⟨0, Nat.le_refl _, Nat.zero_le _, .inl rfl⟩
  · simp only [List.cons.injEq, and_true, Value.slice.injEq] at hcs
    obtain ⟨rfl, rfl, rfl⟩ := hcs
    have hd : d = .slice (elems.map (·.1)) (rest.map (·.1)) := congrArg Prod.fst hx0
    rw [hd] at hw
    obtain ⟨_, hwe⟩ := Wt.list Tryd.underlying35 hw
    refine ⟨k, hl, hm, ?_⟩
    rcases Nat.eq_zero_or_pos len with h0 | h0
    · exact .inl h0
    · right
      have each : ∀ i, i < len → ∃ e : Hk, (∀ j v, e.v[j]? = some v → W.cell? ((ad.add (i * 48)).add j) = some v) ∧ HkR k W e := by
        intro i hi
        have h1 := hx i hi
        rw [kcellsHook] at h1
        have h2 : i < elems.length := by omega
        rw [List.getElem?_eq_getElem h2] at h1
        obtain ⟨cs', e1, e2⟩ := Option.bind_eq_some_iff.1 h1
        obtain ⟨_, hlen', hcell⟩ := World.cells?_some e1
        obtain ⟨e, rfl, he⟩ := openK_hook e2 (hwe i _ (List.getElem?_eq_getElem h2))
        refine ⟨e, fun j v hv => ?_, ⟨he.1.1, he.1.2.1⟩, ⟨he.2.1.1, he.2.1.2.1⟩, ⟨he.2.2.1.1, he.2.2.1.2.1⟩, he.2.2.2.1, he.2.2.2.2.1⟩
        have hj : j < 48 := by have := (List.getElem?_eq_some_iff.1 hv).1; rw [e.len] at this; exact this
        rw [← hv]
        exact hcell j (by omega)
      obtain ⟨b, off, spot⟩ := ad
      obtain ⟨e, c0, _⟩ := each 0 h0
      have c0' := c0 0 _ rfl
      have hspot : spot = none := by simpa [Addr.add] using World.cell?_spot c0'
      subst hspot
      have hb : b < W.heap.size := by
        have := World.block_lt_of_cell? W _ c0'
        simpa [Addr.add] using this
      refine ⟨b, off, rfl, hb, fun i hi => ?_⟩
      obtain ⟨e, c1, he⟩ := each i hi
      refine ⟨e, fun j v hv => ?_, he⟩
      have := c1 j v hv
      rwa [Addr.add_mid, Addr.add_mid] at this
end Go.Proofs.YtbfaapbbhgegiaaDoor
