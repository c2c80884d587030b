/- What a value of the type api.Hook looks like when it can be read. -/
import Derived.Test.YtbfaapbbhgegiaaDoorRows
import Derived.Test.YtbfaapbbhgegiaaDoorXOk
import Derived.WalkKit
import Derived.ProofKit
import Derived.OpenShut
import Derived.Deep.Slices
import Derived.Deep.Strs
namespace Go.Proofs.YtbfaapbbhgegiaaDoor
open Go.ChangeShapes Go.WideShapes Go.ChangeAt Go.RowKit
set_option linter.unusedVariables false

theorem xcellsStr : Tryd.prog.cellsOf 9 = 1 := by kernel_rfl
theorem xcellsInt : Tryd.prog.cellsOf 3 = 1 := by kernel_rfl
theorem xcellsU : Tryd.prog.cellsOf 23 = 1 := by kernel_rfl
theorem xcellsStrs : Tryd.prog.cellsOf 24 = 1 := by kernel_rfl
theorem xcellsDescs : Tryd.prog.cellsOf 22 = 1 := by kernel_rfl
theorem xcellsDesc : Tryd.prog.cellsOf 26 = 8 := by kernel_rfl
theorem xcellsAct : Tryd.prog.cellsOf 28 = 12 := by kernel_rfl
theorem xcellsHook : Tryd.prog.cellsOf 30 = 48 := by kernel_rfl
abbrev Trd {H : Type} (enc : TypeId × Value → H) (W : World) (n : Nat) (t : TypeId) (cs : List Value) (x : DataW H × List MemPlace) : Prop := DataW.trod enc Tryd.prog W 0 (fun _ => true) true n t cs = some x
theorem open_names {H : Type} {enc : TypeId × Value → H} {W : World} {n : Nat} {v : Value} {x : DataW H × List MemPlace} (h : Trd enc W n 24 [v] x) : ∃ s : Sl, v = .slice s.a s.n s.c ∧ NsOk W s := by
  rcases Deep.open_strs Tryd.underlying24 Tryd.underlying9 (by kernel_rfl) h with ⟨hcs, _⟩ | ⟨a, l, c, m, Sx, hcs, _, hl, hm, hmm, _, hx⟩
  · simp only [List.cons.injEq, and_true] at hcs
    exact ⟨⟨none, 0, 0⟩, hcs, Nat.le_refl _, Nat.zero_le _, .inl ⟨rfl, rfl, rfl⟩⟩
  · simp only [List.cons.injEq, and_true] at hcs
    have hmc : m = c := by rw [hmm]; rfl
    refine ⟨⟨some a, l, c⟩, hcs, hl, hm, .inr ?_⟩
    rcases Nat.eq_zero_or_pos l with h0 | h0
    · exact .inl ⟨by simp, h0⟩
    · right
      refine ⟨h0, ?_⟩
      obtain ⟨b, off, spot⟩ := a
      have c0 := (hx 0 (by omega)).1
      have hspot : spot = none := by simpa [Addr.add] using World.cell?_spot c0
      subst hspot
      have hb : b < W.heap.size := by
        have := World.block_lt_of_cell? W _ c0
        simpa [Addr.add] using this
      refine ⟨b, off, rfl, hb, fun i hi => ?_⟩
      have := (hx i (by have : i < l := hi; omega)).1
      rw [Addr.add_mid] at this
      exact ⟨Sx i, by rw [Nat.mul_one]; exact this⟩
/-- A descriptor. -/
def OpD {H : Type} (enc : TypeId × Value → H) (W : World) (n : Nat) : Prop := ∀ cs x, Trd enc W n 26 cs x → ∃ d : Ds, cs = d.v ∧ d.tx.size ≤ maxLen ∧ DsOk n W d
theorem open_parts {H : Type} {enc : TypeId × Value → H} {W : World} {n : Nat} {v : Value} {x : DataW H × List MemPlace} (hD : ∀ k, k ≤ n → OpD enc W k) (hmono : ∀ k d, k ≤ n → DsOk k W d → DsOk n W d) (h : Trd enc W (n + 1) 22 [v] x) : ∃ s : Sl, v = .slice s.a s.n s.c ∧ PsOk n W s := by
  rcases DataW.trod_slice Tryd.underlying22 h with ⟨hcs, _⟩ | ⟨a, l, c, elems, rest, k, hk, hcs, _, _, hl, hm, hlen, hx, _, _⟩
  · simp only [List.cons.injEq, and_true] at hcs
    exact ⟨⟨none, 0, 0⟩, hcs, Nat.le_refl _, Nat.zero_le _, .inl ⟨rfl, rfl, rfl⟩⟩
  · simp only [List.cons.injEq, and_true] at hcs
    obtain rfl : n = k := by omega
    refine ⟨⟨some a, l, c⟩, hcs, hl, hm, .inr ?_⟩
    rcases Nat.eq_zero_or_pos l with h0 | h0
    · exact .inl ⟨by simp, h0⟩
    · right
      refine ⟨h0, ?_⟩
      have each : ∀ i, i < l → ∃ e : Ds, (∀ j v, e.v[j]? = some v → W.cell? ((a.add (i * 8)).add j) = some v) ∧ DsOk n W e := by
        intro i hi
        have h1 := hx i hi
        rw [xcellsDesc] at h1
        have h2 : i < elems.length := by omega
        rw [List.getElem?_eq_getElem h2] at h1
        obtain ⟨cs', e1, e2⟩ := Option.bind_eq_some_iff.1 h1
        obtain ⟨_, hlen', hcell⟩ := World.cells?_some e1
        obtain ⟨d, rfl, _, hd⟩ := hD n (Nat.le_refl _) cs' _ e2
        refine ⟨d, fun j v hv => ?_, hd⟩
        have hj : j < 8 := by have := (List.getElem?_eq_some_iff.1 hv).1; rw [d.len] at this; exact this
        rw [← hv]
        exact hcell j (by omega)
      obtain ⟨b, off, spot⟩ := a
      obtain ⟨e, c0, _⟩ := each 0 h0
      have c0' := c0 0 _ rfl
      have hspot : spot = none := by simpa [Addr.add] using World.cell?_spot c0'
      subst hspot
      have hb : b < W.heap.size := by
        have := World.block_lt_of_cell? W _ c0'
        simpa [Addr.add] using this
      refine ⟨b, off, rfl, hb, fun i hi => ?_⟩
      obtain ⟨e, c1, he⟩ := each i hi
      refine ⟨e, fun j v hv => ?_, he⟩
      have := c1 j v hv
      rwa [Addr.add_mid, Addr.add_mid] at this
theorem LsOk.imp {W : World} {s : Nat} {Q Q' : Nat → Nat → Prop} {l : Sl} (h : LsOk W s Q l) (hq : ∀ b o, Q b o → Q' b o) : LsOk W s Q' l :=
  ⟨h.1, h.2.1, h.2.2.imp id (fun x => x.imp id (fun ⟨a, b, off, c, d, e⟩ => ⟨a, b, off, c, d, fun i hi => hq _ _ (e i hi)⟩))⟩
theorem DsOk.mono : ∀ {m k : Nat} {W : World} {d : Ds}, k ≤ m → DsOk k W d → DsOk m W d
  | 0, 0, _, _, _, h => h
  | 0, _ + 1, _, _, hk, _ => absurd hk (by omega)
  | _ + 1, 0, _, _, _, h => h.elim
  | m + 1, k + 1, W, d, hk, h => ⟨h.1, h.2.imp (fun _ _ ⟨e, h1, h2⟩ => ⟨e, h1, DsOk.mono (Nat.le_of_succ_le_succ hk) h2⟩)⟩
set_option maxRecDepth 1000000 in
theorem open_desc {H : Type} {enc : TypeId × Value → H} {W : World} : ∀ n, OpD enc W n := by
  intro n
  induction n using Nat.strongRecOn with
  | _ n ih =>
    intro cs x h
    obtain ⟨xs, k, hk, _, hlen0, hlen, hf⟩ := DataW.trod_struct Tryd.underlying26 h
    rw [xcellsDesc] at hlen0
    match xs, hlen, cs, hlen0 with
    | [y0, y1, y2, y3, y4, y5, y6, y7], _, [c0, c1, c2, c3, c4, c5, c6, c7], _ =>
      have g0 : Trd enc W k 3 [c0] y0 := by simpa [xcellsInt] using hf 0 _ rfl
      have g1 : Trd enc W k 9 [c1] y1 := by simpa [xcellsStr] using hf 1 _ rfl
      have g2 : Trd enc W k 23 [c2] y2 := by simpa [xcellsU] using hf 2 _ rfl
      have g3 : Trd enc W k 23 [c3] y3 := by simpa [xcellsU] using hf 3 _ rfl
      have g4 : Trd enc W k 9 [c4] y4 := by simpa [xcellsStr] using hf 4 _ rfl
      have g5 : Trd enc W k 24 [c5] y5 := by simpa [xcellsStrs] using hf 5 _ rfl
      have g6 : Trd enc W k 22 [c6] y6 := by simpa [xcellsDescs] using hf 6 _ rfl
      have g7 : Trd enc W k 3 [c7] y7 := by simpa [xcellsInt] using hf 7 _ rfl
      obtain ⟨x0, e0, _, w0⟩ := DataW.trod_int Tryd.underlying3 g0
      obtain ⟨x1, e1, _⟩ := DataW.trod_string Tryd.underlying9 g1
      obtain ⟨x2, e2, _, w2⟩ := DataW.trod_int Tryd.underlying23 g2
      obtain ⟨x3, e3, _, w3⟩ := DataW.trod_int Tryd.underlying23 g3
      obtain ⟨x4, e4, _, w4⟩ := DataW.trod_string Tryd.underlying9 g4
      obtain ⟨x7, e7, _, w7⟩ := DataW.trod_int Tryd.underlying3 g7
      obtain ⟨ns, e5, hns⟩ := open_names g5
      have hk0 : ∃ j, k = j + 1 := by
        cases k with
        | zero => simp [Trd, DataW.trod] at g6
        | succ j => exact ⟨j, rfl⟩
      obtain ⟨j, rfl⟩ := hk0
      obtain ⟨ps, e6, hps⟩ := open_parts (n := j) (fun i hi => ih i (by omega)) (fun i d hi hd => hd.mono hi) g6
      simp only [List.cons.injEq, and_true] at e0 e1 e2 e3 e4 e7
      subst e0 e1 e2 e3 e4 e5 e6 e7
      refine ⟨⟨x0, x1, x2, x3, x4, ns, ps, x7⟩, rfl, w4, ?_⟩
      subst hk
      exact ⟨hns, hps.imp (fun _ _ ⟨e, h1, h2⟩ => ⟨e, h1, h2.mono (by omega)⟩)⟩
theorem split12 (cs : List Value) (h : cs.length = 12) : ∃ c0 c1 c2 c3 r, cs = c0 :: c1 :: c2 :: c3 :: r ∧ r.length = 8 := by
  match cs, h with
  | c0 :: c1 :: c2 :: c3 :: r, h => exact ⟨c0, c1, c2, c3, r, rfl, by simpa using h⟩
set_option maxRecDepth 1000000 in
theorem open_act {H : Type} {enc : TypeId × Value → H} {W : World} {n : Nat} {cs : List Value} {x : DataW H × List MemPlace} (h : Trd enc W n 28 cs x) : ∃ a : Ac, cs = a.v ∧ AcOk n W a := by
  obtain ⟨xs, k, hk, _, hlen0, hlen, hf⟩ := DataW.trod_struct Tryd.underlying28 h
  rw [xcellsAct] at hlen0
  obtain ⟨c0, c1, c2, c3, r, rfl, hr⟩ := split12 cs hlen0
  match xs, hlen with
  | [y0, y1, y2, y3, y4], _ =>
    have g0 : Trd enc W k 3 [c0] y0 := by simpa [xcellsInt] using hf 0 _ rfl
    have g1 : Trd enc W k 9 [c1] y1 := by simpa [xcellsStr] using hf 1 _ rfl
    have g2 : Trd enc W k 9 [c2] y2 := by simpa [xcellsStr] using hf 2 _ rfl
    have g3 : Trd enc W k 22 [c3] y3 := by simpa [xcellsDescs] using hf 3 _ rfl
    have g4 : Trd enc W k 26 r y4 := by simpa [xcellsDesc, hr, List.take_of_length_le] using hf 4 _ rfl
    obtain ⟨x0, e0, _, w0⟩ := DataW.trod_int Tryd.underlying3 g0
    obtain ⟨x1, e1, _, z1⟩ := DataW.trod_string Tryd.underlying9 g1
    obtain ⟨x2, e2, _, z2⟩ := DataW.trod_string Tryd.underlying9 g2
    obtain ⟨j, rfl⟩ : ∃ j, k = j + 1 := by
      cases k with
      | zero => simp [Trd, DataW.trod] at g3
      | succ j => exact ⟨j, rfl⟩
    obtain ⟨l, e3, hl⟩ := open_parts (n := j) (fun i hi => open_desc i) (fun i d hi hd => hd.mono hi) g3
    obtain ⟨p, rfl, z4, hp⟩ := open_desc _ _ _ g4
    simp only [List.cons.injEq, and_true] at e0 e1 e2
    subst e0 e1 e2 e3
    exact ⟨⟨x0, x1, x2, l, p⟩, rfl, hl.imp (fun _ _ ⟨e, h1, h2⟩ => ⟨e, h1, h2.mono (by omega)⟩), hp.mono (by omega), z1, z2, z4⟩
set_option maxRecDepth 1000000 in
theorem open_hook {H : Type} {enc : TypeId × Value → H} {W : World} {n : Nat} {cs : List Value} {x : DataW H × List MemPlace} (h : Trd enc W n 30 cs x) : ∃ a : Hk, cs = a.v ∧ HkOk n W a := by
  obtain ⟨xs, k, hk, _, hlen0, hlen, hf⟩ := DataW.trod_struct Tryd.underlying30 h
  rw [xcellsHook] at hlen0
  match xs, hlen with
  | [y0, y1, y2, y3], _ =>
    have g0 : Trd enc W k 28 ((cs.drop 0).take 12) y0 := by simpa [xcellsAct] using hf 0 _ rfl
    have g1 : Trd enc W k 28 ((cs.drop 12).take 12) y1 := by simpa [xcellsAct] using hf 1 _ rfl
    have g2 : Trd enc W k 28 ((cs.drop 24).take 12) y2 := by simpa [xcellsAct] using hf 2 _ rfl
    have g3 : Trd enc W k 28 ((cs.drop 36).take 12) y3 := by simpa [xcellsAct] using hf 3 _ rfl
    obtain ⟨a, ea, ha⟩ := open_act g0
    obtain ⟨b, eb, hb⟩ := open_act g1
    obtain ⟨c, ec, hc⟩ := open_act g2
    obtain ⟨d, ed, hd⟩ := open_act g3
    refine ⟨⟨a, b, c, d⟩, ?_, ?_⟩
    · show cs = a.v ++ (b.v ++ (c.v ++ d.v))
      rw [← ea, ← eb, ← ec, ← ed]
      have e1 : cs.drop 36 = (cs.drop 36).take 12 := (List.take_of_length_le (by simp; omega)).symm
      rw [← e1]
      have e2 : (cs.drop 24).take 12 ++ cs.drop 36 = cs.drop 24 := by rw [show 36 = 24 + 12 from rfl, ← List.drop_drop]; exact List.take_append_drop 12 (cs.drop 24)
      have e3 : (cs.drop 12).take 12 ++ cs.drop 24 = cs.drop 12 := by rw [show 24 = 12 + 12 from rfl, ← List.drop_drop]; exact List.take_append_drop 12 (cs.drop 12)
      have e4 : (cs.drop 0).take 12 ++ cs.drop 12 = cs := by rw [List.drop_zero]; exact List.take_append_drop 12 cs
      rw [e2, e3, e4]
    · have m1 : ∀ y : Ac, AcOk k W y → AcOk n W y := fun y hy => ⟨hy.1.imp (fun _ _ ⟨e, h1, h2⟩ => ⟨e, h1, h2.mono (by omega)⟩), hy.2.1.mono (by omega), hy.2.2⟩
      exact ⟨m1 _ ha, m1 _ hb, m1 _ hc, m1 _ hd⟩
set_option maxRecDepth 1000000 in
theorem open_hookV {H : Type} {enc : TypeId × Value → H} {W : World} {base : Nat} {v : Value} {d : DataW H} {p : List MemPlace}
    (hv : Value.okWide Tryd.prog W .any base 30 v) (h : DataW.Trod enc Tryd.prog W 0 (fun _ => true) true 30 v d p) : ∃ (h : Hk) (n : Nat), v = .agg h.v.toArray ∧ HkOk n W h := by
  obtain ⟨cs, rfl, hsz⟩ := okWide_struct Tryd.underlying30 hv
  obtain ⟨fuel, hf0⟩ := h
  obtain ⟨a, ha, hok⟩ := open_hook hf0
  refine ⟨a, fuel, ?_, hok⟩
  rw [← ha]
  simp [Value.cells]
end Go.Proofs.YtbfaapbbhgegiaaDoor
