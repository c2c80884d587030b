/- The walk of the law ValuesApart. -/
import Derived.Test.YtjphklhfigammaaDoorVBuilt
import Derived.Test.YtjphklhfigammaaDoorVRow8
import Derived.Test.YtjphklhfigammaaDoorVBig
import Derived.Test.YtjphklhfigammaaDoorVDocN
import Derived.Test.YtjphklhfigammaaDoorVDocS
import Derived.Test.YtjphklhfigammaaDoorOpenDescK
namespace Go.Proofs.YtjphklhfigammaaDoor
open Go.RowKit
set_option linter.unusedVariables false
set_option linter.unusedSimpArgs false

/-- What may stand in a cell's place. -/
def Lk (v v' : Value) : Prop := v' = v ∨ (∃ s s', v = .string s ∧ v' = .string s') ∨ (∃ k x y, v = .int k x ∧ v' = .int k y) ∨ (∃ a n c, v = .slice a n c ∧ v' = .slice none 0 0)
theorem Lk.refl (v : Value) : Lk v v := .inl rfl
theorem Lk.int {k : IntKind} {x : Int} {v : Value} (h : Lk (.int k x) v) : ∃ y, v = .int k y := by
  rcases h with rfl | ⟨_, _, h, _⟩ | ⟨k', x', y, h, rfl⟩ | ⟨_, _, _, h, _⟩
  · exact ⟨_, rfl⟩
  · cases h
  · cases h; exact ⟨_, rfl⟩
  · cases h
theorem Lk.str {s : ByteArray} {v : Value} (h : Lk (.string s) v) : ∃ t, v = .string t := by
  rcases h with rfl | ⟨_, t, _, rfl⟩ | ⟨k', x', y, h, _⟩ | ⟨_, _, _, h, _⟩
  · exact ⟨_, rfl⟩
  · exact ⟨_, rfl⟩
  · cases h
  · cases h
theorem Lk.sl {a : Option Addr} {n c : Nat} {v : Value} (h : Lk (.slice a n c) v) : v = .slice a n c ∨ v = .slice none 0 0 := by
  rcases h with rfl | ⟨_, t, h, _⟩ | ⟨k', x', y, h, _⟩ | ⟨_, _, _, _, rfl⟩
  · exact .inl rfl
  · cases h
  · cases h
  · exact .inr rfl
theorem Lk.trans {a b c : Value} (h : Lk a b) (k : Lk b c) : Lk a c := by
  rcases id h with rfl | ⟨s, t, rfl, rfl⟩ | ⟨q, x, y, rfl, rfl⟩ | ⟨p, n, d, rfl, rfl⟩
  · exact k
  · obtain ⟨u, rfl⟩ := k.str; exact .inr (.inl ⟨_, _, rfl, rfl⟩)
  · obtain ⟨u, rfl⟩ := k.int; exact .inr (.inr (.inl ⟨_, _, _, rfl, rfl⟩))
  · rcases k.sl with rfl | rfl <;> exact .inr (.inr (.inr ⟨_, _, _, rfl, rfl⟩))
/-- What spoil does with a world: in blocks of which S holds cells are turned to the like. -/
structure Spd (S : Nat → Prop) (W W' : World) : Prop where
  os : W'.os = W.os
  tape : W'.tape = W.tape
  output : W'.output = W.output
  size : W.heap.size ≤ W'.heap.size
  far : ∀ k, k < W.heap.size → ¬ S k → W'.heap[k]? = W.heap[k]?
  tm : ∀ b o v, W.cell? ⟨b, o, none⟩ = some v → (∃ v', W'.cell? ⟨b, o, none⟩ = some v' ∧ Lk v v') ∧ W'.frozen? ⟨b, o, none⟩ = W.frozen? ⟨b, o, none⟩
theorem Spd.refl (S : Nat → Prop) (W : World) : Spd S W W := ⟨rfl, rfl, rfl, Nat.le_refl _, fun _ _ _ => rfl, fun _ _ v h => ⟨⟨v, h, Lk.refl _⟩, rfl⟩⟩
theorem Spd.trans {S : Nat → Prop} {A B C : World} (h : Spd S A B) (k : Spd S B C) : Spd S A C :=
  ⟨k.os.trans h.os, k.tape.trans h.tape, k.output.trans h.output, Nat.le_trans h.size k.size, fun i hi hn => (k.far i (Nat.lt_of_lt_of_le hi h.size) hn).trans (h.far i hi hn), fun b o v hv => by
    obtain ⟨⟨v1, h1, l1⟩, f1⟩ := h.tm b o v hv
    obtain ⟨⟨v2, h2, l2⟩, f2⟩ := k.tm b o v1 h1
    exact ⟨⟨v2, h2, l1.trans l2⟩, f2.trans f1⟩⟩
theorem Spd.of_below {S : Nat → Prop} {A B : World} (h : Below A.heap.size A B) : Spd S A B :=
  ⟨h.os, h.tape, h.output, h.size, fun k hk _ => h.block k hk, fun b o v hv => ⟨⟨v, up_cell h hv, Lk.refl _⟩, h.frozen (p := ⟨b, o, none⟩) (lt_of_cell hv)⟩⟩
theorem Spd.set {S : Nat → Prop} {W : World} {b o : Nat} {v v' : Value} (hS : S b) (hc : W.cell? ⟨b, o, none⟩ = some v) (hl : Lk v v') : Spd S W (W.setCell ⟨b, o, none⟩ v') := by
  refine ⟨rfl, rfl, rfl, by simp [World.setCell], fun k hk hn => ?_, fun b2 o2 v2 h2 => ⟨?_, World.frozen?_setCell _ _ _ _⟩⟩
  · exact Below.heap_setCell _ _ _ _ (fun e => hn (by rw [e]; exact hS))
  · by_cases hb : b2 = b
    · subst hb
      by_cases ho : o2 = o
      · subst ho
        rw [h2] at hc
        cases hc
        exact ⟨v', by simp [go_sem, h2], hl⟩
      · exact ⟨v2, by simp [go_sem, ho, h2], Lk.refl _⟩
    · exact ⟨v2, by rw [← h2]; exact World.cell?_of_block (w := W) (a := ⟨b2, o2, none⟩) (Below.heap_setCell _ _ _ _ hb), Lk.refl _⟩
/-- A descriptor's memory, in blocks of which S holds, that can be written to. -/
def SP : Nat → (Nat → Prop) → World → Value → Value → Prop
  | 0, _, _, _, _ => False
  | n + 1, S, W, nv, pv => (∃ a l c, nv = .slice a l c ∧ l ≤ c ∧ c ≤ maxLen ∧ ∀ i, i < l → ∃ b off s, a = some ⟨b, off, none⟩ ∧ S b ∧ W.cell? ⟨b, off + i, none⟩ = some (.string s) ∧ W.frozen? ⟨b, off + i, none⟩ = false) ∧
      ∃ a l c, pv = .slice a l c ∧ l ≤ c ∧ c ≤ maxLen ∧ ∀ i, i < l → ∃ (b off : Nat) (d : D) (nv' pv' : Value), a = some ⟨b, off, none⟩ ∧ S b ∧ At8 W b (off + i * 8) d nv' pv' ∧ (∀ k, k < 8 → W.frozen? ⟨b, off + i * 8 + k, none⟩ = false) ∧ SP n S W nv' pv'
theorem SP.slices {n : Nat} {S : Nat → Prop} {W : World} {nv pv : Value} (h : SP n S W nv pv) : ∃ na nl nc pa pl pc, nv = .slice na nl nc ∧ pv = .slice pa pl pc := by
  cases n with
  | zero => exact h.elim
  | succ n =>
    obtain ⟨⟨a, l, c, h1, -⟩, a', l', c', h2, -⟩ := h
    exact ⟨a, l, c, a', l', c', h1, h2⟩
theorem SP.of : ∀ {n : Nat} {S : Nat → Prop} {W : World} {nv pv : Value} {d : D}, RdS n S W nv pv d → SP n S W nv pv
  | 0, _, _, _, _, _, h => h
  | n + 1, S, W, nv, pv, d, h => by
    obtain ⟨-, ⟨a, c, h1, h2, h3, h4⟩, a', c', k1, k2, k3, k4⟩ := h
    refine ⟨⟨a, _, c, h1, h2, h3, fun i hi => ?_⟩, a', _, c', k1, k2, k3, fun i hi => ?_⟩
    · obtain ⟨-, b, off, e1, e2, e3⟩ := h4 i _ (List.getElem?_eq_getElem hi)
      exact ⟨b, off, _, e1, e2.1, e3, e2.2 _⟩
    · obtain ⟨b, off, nv', pv', e1, e2, e3, e4⟩ := k4 i _ (List.getElem?_eq_getElem hi)
      exact ⟨b, off, _, nv', pv', e1, e2.1, e3, fun _ _ => e2.2 _, SP.of e4⟩
theorem SP.less {n : Nat} {S : Nat → Prop} {W : World} {nv pv nv' pv' : Value} (h : SP n S W nv pv) (h1 : nv' = nv ∨ nv' = .slice none 0 0) (h2 : pv' = pv ∨ pv' = .slice none 0 0) : SP n S W nv' pv' := by
  cases n with
  | zero => exact h.elim
  | succ n =>
    refine ⟨?_, ?_⟩
    · rcases h1 with rfl | rfl
      · exact h.1
      · exact ⟨none, 0, 0, rfl, Nat.le_refl _, Nat.zero_le _, fun i hi => absurd hi (Nat.not_lt_zero _)⟩
    · rcases h2 with rfl | rfl
      · exact h.2
      · exact ⟨none, 0, 0, rfl, Nat.le_refl _, Nat.zero_le _, fun i hi => absurd hi (Nat.not_lt_zero _)⟩
theorem SP.go {S : Nat → Prop} {W W' : World} (hk : Spd S W W') : ∀ {n : Nat} {nv pv : Value}, SP n S W nv pv → SP n S W' nv pv
  | 0, _, _, h => h
  | n + 1, nv, pv, h => by
    obtain ⟨⟨a, l, c, h1, h2, h3, h4⟩, a', l', c', k1, k2, k3, k4⟩ := h
    refine ⟨⟨a, _, c, h1, h2, h3, fun i hi => ?_⟩, a', _, c', k1, k2, k3, fun i hi => ?_⟩
    · obtain ⟨b, off, s, e1, e2, e3, e4⟩ := h4 i hi
      obtain ⟨⟨v, f1, f2⟩, f3⟩ := hk.tm _ _ _ e3
      obtain ⟨t, rfl⟩ := f2.str
      exact ⟨b, off, t, e1, e2, f1, f3.trans e4⟩
    · obtain ⟨b, off, d, nv', pv', e1, e2, ⟨c0, c1, c2, c3, c4, c5, c6, c7⟩, e4, e5⟩ := k4 i hi
      obtain ⟨na, nl, nc, pa, pl, pc, rfl, rfl⟩ := e5.slices
      obtain ⟨⟨v0, g0, q0⟩, f0⟩ := hk.tm _ _ _ c0
      obtain ⟨⟨v1, g1, q1⟩, f1⟩ := hk.tm _ _ _ c1
      obtain ⟨⟨v2, g2, q2⟩, f2⟩ := hk.tm _ _ _ c2
      obtain ⟨⟨v3, g3, q3⟩, f3⟩ := hk.tm _ _ _ c3
      obtain ⟨⟨v4, g4, q4⟩, f4⟩ := hk.tm _ _ _ c4
      obtain ⟨⟨v5, g5, q5⟩, f5⟩ := hk.tm _ _ _ c5
      obtain ⟨⟨v6, g6, q6⟩, f6⟩ := hk.tm _ _ _ c6
      obtain ⟨⟨v7, g7, q7⟩, f7⟩ := hk.tm _ _ _ c7
      obtain ⟨x0, rfl⟩ := q0.int
      obtain ⟨x1, rfl⟩ := q1.str
      obtain ⟨x2, rfl⟩ := q2.int
      obtain ⟨x3, rfl⟩ := q3.int
      obtain ⟨x4, rfl⟩ := q4.str
      obtain ⟨x7, rfl⟩ := q7.int
      refine ⟨b, off, ⟨x0, x1, x2, x3, x4, [], [], x7⟩, v5, v6, e1, e2, ⟨g0, g1, g2, g3, g4, g5, g6, g7⟩, fun k hk8 => ?_, (SP.go hk e5).less q5.sl q6.sl⟩
      match k, hk8 with
      | 0, _ => exact f0.trans (e4 0 (by omega))
      | 1, _ => exact f1.trans (e4 1 (by omega))
      | 2, _ => exact f2.trans (e4 2 (by omega))
      | 3, _ => exact f3.trans (e4 3 (by omega))
      | 4, _ => exact f4.trans (e4 4 (by omega))
      | 5, _ => exact f5.trans (e4 5 (by omega))
      | 6, _ => exact f6.trans (e4 6 (by omega))
      | 7, _ => exact f7.trans (e4 7 (by omega))

theorem Spd.set8 {S : Nat → Prop} {W : World} {b o : Nat} {d : D} {nv pv : Value} {na pa : Option Addr} {nl nc pl pc : Nat} (hS : S b) (hA : At8 W b o d nv pv) (h1 : nv = .slice na nl nc) (h2 : pv = .slice pa pl pc) (x0 x2 x3 x7 : Int) (s1 s4 : ByteArray) :
    Spd S W ((((((((W.setCell ⟨b, o, none⟩ (.int .i64 x0)).setCell ⟨b, o + 1, none⟩ (.string s1)).setCell ⟨b, o + 2, none⟩ (.int .u64 x2)).setCell ⟨b, o + 3, none⟩ (.int .u64 x3)).setCell ⟨b, o + 4, none⟩ (.string s4)).setCell ⟨b, o + 5, none⟩ (.slice none 0 0)).setCell ⟨b, o + 6, none⟩ (.slice none 0 0)).setCell ⟨b, o + 7, none⟩ (.int .i64 x7)) := by
  obtain ⟨c0, c1, c2, c3, c4, c5, c6, c7⟩ := hA
  subst h1 h2
  have k0 : Spd S W (W.setCell ⟨b, o, none⟩ (.int .i64 x0)) := Spd.set hS c0 (.inr (.inr (.inl ⟨_, _, _, rfl, rfl⟩)))
  obtain ⟨V0, e0⟩ : ∃ V, V = W.setCell ⟨b, o, none⟩ (.int .i64 x0) := ⟨_, rfl⟩
  rw [← e0] at k0 ⊢
  have k1 : Spd S V0 (V0.setCell ⟨b, o + 1, none⟩ (.string s1)) := by
    obtain ⟨⟨v, h, l⟩, -⟩ := k0.tm _ _ _ c1
    obtain ⟨t, rfl⟩ := l.str
    exact Spd.set hS h (.inr (.inl ⟨_, _, rfl, rfl⟩))
  have j1 := k0.trans k1
  obtain ⟨V1, e1⟩ : ∃ V, V = V0.setCell ⟨b, o + 1, none⟩ (.string s1) := ⟨_, rfl⟩
  rw [← e1] at j1 ⊢
  have k2 : Spd S V1 (V1.setCell ⟨b, o + 2, none⟩ (.int .u64 x2)) := by
    obtain ⟨⟨v, h, l⟩, -⟩ := j1.tm _ _ _ c2
    obtain ⟨t, rfl⟩ := l.int
    exact Spd.set hS h (.inr (.inr (.inl ⟨_, _, _, rfl, rfl⟩)))
  have j2 := j1.trans k2
  obtain ⟨V2, e2⟩ : ∃ V, V = V1.setCell ⟨b, o + 2, none⟩ (.int .u64 x2) := ⟨_, rfl⟩
  rw [← e2] at j2 ⊢
  have k3 : Spd S V2 (V2.setCell ⟨b, o + 3, none⟩ (.int .u64 x3)) := by
    obtain ⟨⟨v, h, l⟩, -⟩ := j2.tm _ _ _ c3
    obtain ⟨t, rfl⟩ := l.int
    exact Spd.set hS h (.inr (.inr (.inl ⟨_, _, _, rfl, rfl⟩)))
  have j3 := j2.trans k3
  obtain ⟨V3, e3⟩ : ∃ V, V = V2.setCell ⟨b, o + 3, none⟩ (.int .u64 x3) := ⟨_, rfl⟩
  rw [← e3] at j3 ⊢
  have k4 : Spd S V3 (V3.setCell ⟨b, o + 4, none⟩ (.string s4)) := by
    obtain ⟨⟨v, h, l⟩, -⟩ := j3.tm _ _ _ c4
    obtain ⟨t, rfl⟩ := l.str
    exact Spd.set hS h (.inr (.inl ⟨_, _, rfl, rfl⟩))
  have j4 := j3.trans k4
  obtain ⟨V4, e4⟩ : ∃ V, V = V3.setCell ⟨b, o + 4, none⟩ (.string s4) := ⟨_, rfl⟩
  rw [← e4] at j4 ⊢
  have sl : ∀ {V : World} {q : Nat} {a : Option Addr} {n c : Nat}, Spd S W V → W.cell? ⟨b, q, none⟩ = some (.slice a n c) → Spd S V (V.setCell ⟨b, q, none⟩ (.slice none 0 0)) := by
    intro V q a n c hk hc
    obtain ⟨⟨v, h, l⟩, -⟩ := hk.tm _ _ _ hc
    rcases l.sl with rfl | rfl
    · exact Spd.set hS h (.inr (.inr (.inr ⟨_, _, _, rfl, rfl⟩)))
    · exact Spd.set hS h (.inl rfl)
  have j5 := j4.trans (sl j4 c5)
  obtain ⟨V5, e5⟩ : ∃ V, V = V4.setCell ⟨b, o + 5, none⟩ (.slice none 0 0) := ⟨_, rfl⟩
  rw [← e5] at j5 ⊢
  have j6 := j5.trans (sl j5 c6)
  obtain ⟨V6, e6⟩ : ∃ V, V = V5.setCell ⟨b, o + 6, none⟩ (.slice none 0 0) := ⟨_, rfl⟩
  rw [← e6] at j6 ⊢
  refine j6.trans ?_
  obtain ⟨⟨v, h, l⟩, -⟩ := j6.tm _ _ _ c7
  obtain ⟨t, rfl⟩ := l.int
  exact Spd.set hS h (.inr (.inr (.inl ⟨_, _, _, rfl, rfl⟩)))
theorem Spd.keep {S : Nat → Prop} {W W' : World} (h : Spd S W W') {X o : Nat} {v : Value} (hX : ¬ S X) (hc : W.cell? ⟨X, o, none⟩ = some v) : W'.cell? ⟨X, o, none⟩ = some v := by
  rw [← hc]
  exact World.cell?_of_block (w := W) (a := ⟨X, o, none⟩) (h.far X (lt_of_cell hc) hX)
/-- What spoil does with a descriptor. -/
abbrev SpR (n : Nat) : Prop := ∀ (S : Nat → Prop) (d : D) (nv pv : Value) (w : World), SP n S w nv pv → (∀ b, S b → b < w.heap.size) → Calls Tryd.prog 18 #[DV d nv pv] w fun e w' => e = .returned (.tuple #[]) ∧ Spd S w w'
set_option maxRecDepth 1000000 in
set_option maxHeartbeats 4000000 in
theorem spoil_step (n : Nat) (ih : SpR n) : SpR (n + 1) := by
  intro S d nv pv w hsp hS
  obtain ⟨na, nl, nc, pa, pl, pc, rfl, rfl⟩ := hsp.slices
  have hnl : nl ≤ maxLen := by obtain ⟨⟨a, l, c, e, h1, h2, -⟩, -⟩ := id hsp; cases e; omega
  have hpl : pl ≤ maxLen := by obtain ⟨-, a, l, c, e, h1, h2, -⟩ := id hsp; cases e; omega
  unfold maxLen at hnl hpl
  obtain ⟨W1, hW1⟩ : ∃ W1, W1 = w.alloc (.cells #[.int .i64 d.kind, .string d.ty, .int .u64 d.bits, .int .u64 d.imag, .string d.text, .slice na nl nc, .slice pa pl pc, .int .i64 d.hook] 26) := ⟨_, rfl⟩
  have hb1 : Below w.heap.size w W1 := by rw [hW1]; exact (Below.refl _ _).alloc (Nat.le_refl _) _
  have hX : ¬ S w.heap.size := fun h => absurd (hS _ h) (Nat.lt_irrefl _)
  have c5 : W1.cell? ⟨w.heap.size, 5, none⟩ = some (.slice na nl nc) := by rw [hW1]; simp [go_sem]
  have c6 : W1.cell? ⟨w.heap.size, 6, none⟩ = some (.slice pa pl pc) := by rw [hW1]; simp [go_sem]
  have k1 : Spd S w W1 := Spd.of_below hb1
  have sp1 := hsp.go k1
  have hS1 : ∀ b, S b → b < W1.heap.size := fun b hb => Nat.lt_of_lt_of_le (hS b hb) hb1.size
  clear hsp hb1 hS
  obtain ⟨X, hXe⟩ : ∃ X, w.heap.size = X := ⟨_, rfl⟩
  go_enter Tryd.func18, Tryd.ntmps18
  go_upto_region 1 with fail
  rw [← hW1]
  simp only [hXe] at *
  clear hW1 hXe
  go_wp2
  go_loopg [2, 7] nl (fun gg _ i wr => ∃ j : Nat, i = .int .i64 j ∧ j + gg = nl ∧ Spd S W1 wr)
  case atStart => exact ⟨0, rfl, Nat.zero_add _, Spd.refl _ _⟩
  case round =>
    obtain ⟨j, rfl, hjg, hk⟩ := hrel
    have x5 := hk.keep hX c5
    have x6 := hk.keep hX c6
    by_cases hlt : j < nl
    · have hltI : (j : Int) < nl := by omega
      obtain ⟨⟨a, l, c, e, -, -, hc⟩, -⟩ := sp1.go hk
      cases e
      obtain ⟨b, off, s, rfl, hSb, hcell, hfz⟩ := hc j hlt
      have hk2 := hk.trans (Spd.set hSb hcell (v' := .string ⟨#[63]⟩) (.inr (.inl ⟨_, _, rfl, rfl⟩)))
      clear hc sp1 ih
      go_wp2
      go_roundg (gk - 1)
      case measure => omega
      case rel => exact ⟨j + 1, by go_num, by omega, hk2⟩
    · have hltI : ¬ (j : Int) < nl := by omega
      go_wp2
      go_loopg [3, 18] pl (fun gg _ i wr => ∃ j : Nat, i = .int .i64 j ∧ j + gg = pl ∧ Spd S W1 wr)
      case atStart => exact ⟨0, rfl, Nat.zero_add _, hk⟩
      case round =>
        clear hk x5 x6
        obtain ⟨j, rfl, hjg, hk⟩ := hrel
        have x6 := hk.keep hX c6
        by_cases hlt : j < pl
        · have hltI : (j : Int) < pl := by omega
          obtain ⟨-, a, l, c, e, -, -, hc⟩ := sp1.go hk
          cases e
          obtain ⟨b, off, y, nv', pv', rfl, hSb, h8, hfz, hsp'⟩ := hc j hlt
          obtain ⟨na', nl', nc', pa', pl', pc', rfl, rfl⟩ := hsp'.slices
          have hrec := ih S y _ _ _ hsp' (fun b hb => Nat.lt_of_lt_of_le (hS1 b hb) hk.size)
          obtain ⟨c0, c1, c2, c3, c4, c5', c6', c7⟩ := id h8
          have hsp2 : ∀ V, Spd S _ V → _ := fun V hV => (sp1.go (hk.trans hV)).2
          clear hc
          go_upto_region 10 with (go_at_call 18; refine hrec.mono ?_; rintro e V ⟨rfl, hV⟩)
          have hkV := hk.trans hV
          have y6 := hkV.keep hX c6
          obtain ⟨a2, l2, q2, e2, -, -, hc2⟩ := hsp2 V hV
          cases e2
          obtain ⟨b2, off2, y2, nv2, pv2, e3, hSb2, h82, hfz2, hsp2'⟩ := hc2 j hlt
          cases e3
          obtain ⟨na2, nl2, nc2, pa2, pl2, pc2, rfl, rfl⟩ := hsp2'.slices
          have hk3 := hkV.trans (Spd.set8 hSb2 h82 rfl rfl (-1) 0 0 0 ⟨#[]⟩ ⟨#[]⟩)
          obtain ⟨d0, d1, d2, d3, d4, d5, d6, d7⟩ := h82
          have f0 := hfz2 0 (by omega)
          have f1 := hfz2 1 (by omega)
          have f2 := hfz2 2 (by omega)
          have f3 := hfz2 3 (by omega)
          have f4 := hfz2 4 (by omega)
          have f5 := hfz2 5 (by omega)
          have f6 := hfz2 6 (by omega)
          have f7 := hfz2 7 (by omega)
          simp only [Nat.add_zero] at f0
          clear hc2 hsp2 hsp2' hfz2 hrec hsp' hfz h8 c0 c1 c2 c3 c4 c5' c6' c7 x6 sp1 ih
          go_wp2
          go_roundg (gk - 1)
          case measure => omega
          case rel => exact ⟨j + 1, by go_num, by omega, hk3⟩
        · have hltI : ¬ (j : Int) < pl := by omega
          go_wp2
          go_end0
          exact ⟨rfl, k1.trans hk⟩
theorem spoil_any : ∀ n, SpR n
  | 0 => fun _ _ _ _ _ h => h.elim
  | n + 1 => spoil_step n (spoil_any n)

theorem wpl_app8 {ops : Array Oper} {rest : List Oper} {o : Oper} {a : Act} {Q : Exit → Act → World → Prop} (hgd : o.guard = none) (s x : Operand) (ho : o.op = .call { callee := .builtin .append, args := #[s, x], argTypes := #[24, 24] })
    {n B : Nat} {W0 W : World} {v : Value} {l : List D} (h : Row8 n B W0 v l) (y : D) (nv pv : Value) (hy : RdS n (fun b => B ≤ b ∧ v.ownBlock ≠ some b) W0 nv pv y)
    (hs : a.eval s = v) (hx : a.eval x = .slice (some ⟨W0.heap.size, 0, none⟩) 1 1) (hw : W = W0.alloc (.cells #[.int .i64 y.kind, .string y.ty, .int .u64 y.bits, .int .u64 y.imag, .string y.text, nv, pv, .int .i64 y.hook] 26)) (hl : l.length ≤ 100000) (hB : B ≤ W0.heap.size)
    (hk : ∀ v' w', (∃ ao c, v' = .slice ao (l.length + 1) c) → Row8 n B w' v' (l ++ [y]) → W0.grownBy w' v.ownBlock → wpList Tryd.prog ops Q rest (a.put o.dst v') w') : wpList Tryd.prog ops Q (o :: rest) a W :=
  wpList_plain hgd fun K hK => wp_app8 s x ho h y nv pv hy hs hx hw hl hB fun v' w' e r g => hK _ _ (hk v' w' e r g)
/-- append of a row of texts to an empty one, however long it is. -/
theorem wpl_appNames3 {ops : Array Oper} {rest : List Oper} {o : Oper} {a : Act} {w W0 : World} {Q : Exit → Act → World → Prop} (hgd : o.guard = none) (s x : Operand)
    (ho : o.op = .call { callee := .builtin .append, args := #[s, x], argTypes := #[23, 23] }) (names : List ByteArray) (na : Option Addr) (nc : Nat) {S : Nat → Prop} (hn : StrsS S W0 na names) (hl : names.length * 16 ≤ 140737488355328)
    (hw : w = W0.alloc (.cells #[] 9)) (hs : a.eval s = .slice (some ⟨W0.heap.size, 0, none⟩) 0 0) (hx : a.eval x = .slice na names.length nc)
    (hk : ∀ nv' w', (∃ ao c, nv' = .slice ao names.length c) → Nm w' (fun b => W0.heap.size ≤ b) nv' names → Below W0.heap.size W0 w' → wpList Tryd.prog ops Q rest (a.put o.dst nv') w') : wpList Tryd.prog ops Q (o :: rest) a w := by
  obtain ⟨i0, hi, hz0, hz1, hz2⟩ := info_str
  subst hw
  have b0 : Below W0.heap.size W0 (W0.alloc (.cells #[] 9)) := (Below.refl _ _).alloc (Nat.le_refl _) _
  have hown : (W0.alloc (.cells #[] 9)).ownsRow W0.heap.size 9 1 (.slice (some ⟨W0.heap.size, 0, none⟩) 0 0) 0 [] := World.ownsRow_lit W0 #[] 0 (Nat.le_refl _) (Nat.zero_le _) rfl
  cases na with
  | none =>
    have he : names = [] := by
      cases names with
      | nil => rfl
      | cons s t =>
        obtain ⟨b, off, e, -⟩ := hn 0 s rfl
        cases e
    subst he
    refine wpList_plain hgd fun K hK => ?_
    have hr := run_append_noneW (P := Tryd.prog) (w := W0.alloc (.cells #[] 9)) 23 o.type 9 i0 Tryd.underlying23 hi W0.heap.size nc
    unfold Oper.wp execOp
    simp only [ho, resolve, invoke, builtin, Sem.run_bind, Sem.run_pure, Result.andThen_ok, List.map_toArray, List.map_cons, List.map_nil, hs, hx, List.length_nil, hr]
    exact hK _ _ (hk _ _ ⟨_, 0, rfl⟩ ⟨_, 0, rfl, Nat.le_refl _, Nat.zero_le _, fun i s h => by simp at h⟩ b0)
  | some ad =>
    refine wpList_append_own_at _ hgd s x 23 ho W0.heap.size 9 i0 _ 1 16 Tryd.underlying23 hi hz0 hz1 hz2 rfl (by decide) _ 0 [] hs hown ad names.length nc (names.map Value.string) hx (by simp) ?_ ?_ ?_ ?_ (by simp) ?_
    · intro j u hj
      rw [List.getElem?_map, Option.map_eq_some_iff] at hj
      obtain ⟨s, hs, rfl⟩ := hj
      obtain ⟨b, off, e, -, hc⟩ := hn j s hs
      obtain rfl := Option.some.inj e
      rw [Addr.add_mid]
      exact up_cell b0 hc
    · intro u hu
      obtain ⟨s, -, rfl⟩ := List.mem_map.1 hu
      rfl
    · unfold maxLen; omega
    · omega
    · intro v' w' ho' hg' _ _
      rw [List.nil_append, Nat.zero_add] at ho'
      obtain ⟨a', c', rfl, k1, k2, k3⟩ := own_strsU ho' rfl
      refine hk _ _ ⟨a', c', rfl⟩ ⟨a', c', rfl, k1, k2, k3⟩ ?_
      exact b0.grown hg' (by simp) (fun k hk => by have : W0.heap.size = k := Option.some.inj hk; omega)
/-- What copied does with a descriptor. -/
abbrev CpR (n : Nat) : Prop := ∀ (d : D) (nv pv : Value) (w : World), RdC n w nv pv d → NB d → nAll d ≤ 100000 →
  Calls Tryd.prog 17 #[DV d nv pv] w fun e w' => Below w.heap.size w w' ∧ ∃ nv' pv', e = .returned (DV d nv' pv') ∧ RdS n (fun b => w.heap.size ≤ b) w' nv' pv' d
set_option maxRecDepth 1000000 in
set_option maxHeartbeats 4000000 in
theorem copied_step (n : Nat) (ih : CpR n) : CpR (n + 1) := by
  intro d nv pv w hr hnb hall
  obtain ⟨na, nc, pa, pc, rfl, rfl⟩ := hr.slices
  obtain ⟨hfit, hstr, a, cap, hsl, hl1, hl2, hcell⟩ := hr
  obtain ⟨rfl, -, rfl⟩ := Value.slice.inj hsl
  unfold maxLen at hl2
  have hna : StrsS (fun _ => True) w na d.names := hstr.S
  have hsz : ∀ s ∈ d.names, s.size ≤ maxLen := by
    intro s hs
    obtain ⟨i, hi⟩ := List.mem_iff_getElem?.1 hs
    obtain ⟨_, _, _, _, _, hc⟩ := hstr
    exact (hc i s hi).1
  have hn16 := hnb.names
  obtain ⟨W2, hW2⟩ : ∃ W2, W2 = (w.alloc (.cells #[.int .i64 d.kind, .string d.ty, .int .u64 d.bits, .int .u64 d.imag, .string d.text, .slice na d.names.length nc, .slice pa d.parts.length pc, .int .i64 d.hook] 26)).alloc (.cells #[.int .i64 0, .string ⟨#[]⟩, .int .u64 0, .int .u64 0, .string ⟨#[]⟩, .slice none 0 0, .slice none 0 0, .int .i64 0] 26) := ⟨_, rfl⟩
  have b2 : Below w.heap.size w W2 := by rw [hW2]; exact ((Below.refl _ _).alloc (Nat.le_refl _) _).alloc (by simp) _
  have a2 : At8 W2 w.heap.size 0 d (.slice na d.names.length nc) (.slice pa d.parts.length pc) := by
    rw [hW2]
    refine ⟨?_, ?_, ?_, ?_, ?_, ?_, ?_, ?_⟩
    all_goals simp [go_sem]
  have e1 : (w.alloc (.cells #[.int .i64 d.kind, .string d.ty, .int .u64 d.bits, .int .u64 d.imag, .string d.text, .slice na d.names.length nc, .slice pa d.parts.length pc, .int .i64 d.hook] 26)).heap.size = w.heap.size + 1 := by simp
  have f2 : ∀ i, W2.frozen? ⟨w.heap.size, i, none⟩ = false := fun i => by
    rw [hW2, frozen?_alloc_cells, frozen?_alloc_cells]
    exact frozen_none _ _ (Nat.le_refl _)
  have zz2 : Zero8 W2 (w.heap.size + 1) := by
    refine ⟨by rw [hW2]; refine ⟨?_, ?_, ?_, ?_, ?_, ?_, ?_, ?_⟩ <;> simp [go_sem], fun i => ?_⟩
    rw [hW2, frozen?_alloc_cells, ← e1]
    exact frozen_none _ _ (Nat.le_refl _)
  have s2 : w.heap.size + 2 ≤ W2.heap.size := by rw [hW2]; simp
  clear e1 hstr
  have hna2 := hna.turn (Kept.below b2 fun b hb _ => hb)
  have k55 := a2.2.2.2.2.2.1
  simp only [Nat.zero_add] at k55
  have hlt0 : w.heap.size < W2.heap.size := by omega
  go_enter Tryd.func17, Tryd.ntmps17
  go_upto_region 1 with fail
  rw [← hW2]
  clear hW2
  go_upto_region 2 with (at_builtin; refine wpl_appNames3 (W0 := W2) rfl _ _ rfl d.names na nc hna2 hn16 rfl rfl rfl ?_; rintro nv' w6 ⟨nao, ncc, rfl⟩ N6 b6; have a6 := a2.up b6; have k56 := a6.2.2.2.2.2.1; simp only [Nat.zero_add] at k56; have f6 : ∀ i, w6.frozen? ⟨w.heap.size, i, none⟩ = false := fun i => (b6.frozen (p := ⟨w.heap.size, i, none⟩) hlt0).trans (f2 i); have f65 := f6 5)
  have s6 := b6.size
  have zz6 := zz2.up b6
  have a7 : At8 (w6.setCell ⟨w.heap.size, 5, none⟩ (.slice nao d.names.length ncc)) w.heap.size 0 d (.slice nao d.names.length ncc) (.slice pa d.parts.length pc) := by
    obtain ⟨q0, q1, q2, q3, q4, q5, q6, q7⟩ := a6
    simp only [Nat.zero_add] at q0 q1 q2 q3 q4 q5 q6 q7
    refine ⟨?_, ?_, ?_, ?_, ?_, ?_, ?_, ?_⟩
    all_goals simp [go_sem, q0, q1, q2, q3, q4, q5, q6, q7]
  have f7 : ∀ i, (w6.setCell ⟨w.heap.size, 5, none⟩ (.slice nao d.names.length ncc)).frozen? ⟨w.heap.size, i, none⟩ = false := fun i => by rw [World.frozen?_setCell]; exact f6 i
  have N7 : Nm (w6.setCell ⟨w.heap.size, 5, none⟩ (.slice nao d.names.length ncc)) (fun b => w.heap.size + 2 ≤ b) (.slice nao d.names.length ncc) d.names := N6.turn fun b hb _ => ⟨by omega, fun o => cu_of_block (Below.heap_setCell _ _ _ _ (by dsimp only; omega)) o⟩
  have b7 : Below w.heap.size w (w6.setCell ⟨w.heap.size, 5, none⟩ (.slice nao d.names.length ncc)) := (b2.trans (b6.mono b2.size)).setCell (by dsimp only; omega) _
  have zz7 : Zero8 (w6.setCell ⟨w.heap.size, 5, none⟩ (.slice nao d.names.length ncc)) (w.heap.size + 1) := by
    have hc : ∀ o, (w6.setCell ⟨w.heap.size, 5, none⟩ (.slice nao d.names.length ncc)).cell? ⟨w.heap.size + 1, o, none⟩ = w6.cell? ⟨w.heap.size + 1, o, none⟩ := fun o => World.cell?_of_block (w := w6) (a := ⟨w.heap.size + 1, o, none⟩) (Below.heap_setCell _ _ _ _ (by dsimp only; omega))
    obtain ⟨⟨h0, h1, h2, h3, h4, h5, h6, h7⟩, hf⟩ := zz6
    exact ⟨⟨(hc _).trans h0, (hc _).trans h1, (hc _).trans h2, (hc _).trans h3, (hc _).trans h4, (hc _).trans h5, (hc _).trans h6, (hc _).trans h7⟩, fun i => by rw [World.frozen?_setCell]; exact hf i⟩
  have s7 : w.heap.size + 2 ≤ (w6.setCell ⟨w.heap.size, 5, none⟩ (.slice nao d.names.length ncc)).heap.size := by simp [World.setCell]; omega
  generalize w6.setCell ⟨w.heap.size, 5, none⟩ (.slice nao d.names.length ncc) = W7 at *
  clear N6 b6 a6 k56 f6 f65 s6 zz6 a2 f2 zz2 s2 hna hna2 k55 hlt0 b2
  have k6 := a7.2.2.2.2.2.2.1
  simp only [Nat.zero_add] at k6
  go_wp2
  go_loopg [3, 5, 14] d.parts.length (fun gg v _ i wr => ∃ j : Nat, i = .int .i64 j ∧ j + gg = d.parts.length ∧ Row8 n W7.heap.size wr v (d.parts.take j) ∧ Below W7.heap.size W7 wr)
  case atStart => exact ⟨0, rfl, Nat.zero_add _, Row8.nil _ _ _, Below.refl _ _⟩
  case round =>
    obtain ⟨j, rfl, hjg, hR, hb⟩ := hrel
    obtain ⟨L, hL⟩ : ∃ L, d.parts.take j = L := ⟨_, rfl⟩
    rw [hL] at hR
    have HL : Hid (d.parts.take j = L) := hL
    clear hL
    obtain ⟨va, vc, rfl, -, -⟩ := hR.slice
    have bw : Below w.heap.size w wr := b7.trans (hb.mono b7.size)
    by_cases hlt : j < d.parts.length
    · have hltI : (j : Int) < d.parts.length := by omega
      obtain ⟨x, hx⟩ : ∃ x, d.parts[j]? = some x := ⟨d.parts[j], List.getElem?_eq_getElem hlt⟩
      have hxm : x ∈ d.parts := List.mem_of_getElem? hx
      obtain ⟨bb, off, nv', pv', rfl, h8, hr'⟩ := hcell j x hx
      obtain ⟨na', nc', pa', pc', rfl, rfl⟩ := hr'.slices
      obtain ⟨c0, c1, c2, c3, c4, c5, c6, c7⟩ := h8.up bw
      have hal : nAll x ≤ 100000 := by have := nAll_part hx; omega
      have hj4 : j ≤ 100000 := by
        have h1 := nAll_part hx
        have h2 : j ≤ nRow (d.parts.take j) := by
          have h3 : ∀ l : List D, l.length ≤ nRow l := by
            intro l
            induction l with
            | nil => exact Nat.zero_le _
            | cons y t ih => unfold nRow at ih ⊢; rw [List.map_cons, List.sum_cons, List.length_cons]; have := nAll_pos y; omega
          have h4 := h3 (d.parts.take j)
          rw [List.length_take] at h4
          omega
        omega
      have hL4 : L.length ≤ 100000 := by rw [← HL.out, List.length_take]; omega
      have HL2 : Hid (L ++ [x] = d.parts.take (j + 1)) := by show _ = _; rw [← HL.out, List.take_add_one, hx]; rfl
      obtain ⟨Y2, hY2⟩ : ∃ Y2, Y2 = wr.alloc (.cells #[.int .i64 x.kind, .string x.ty, .int .u64 x.bits, .int .u64 x.imag, .string x.text, .slice na' x.names.length nc', .slice pa' x.parts.length pc', .int .i64 x.hook] 26) := ⟨_, rfl⟩
      have bY : Below wr.heap.size wr Y2 := by rw [hY2]; exact (Below.refl _ _).alloc (Nat.le_refl _) _
      have aY : At8 Y2 wr.heap.size 0 x (.slice na' x.names.length nc') (.slice pa' x.parts.length pc') := by
        rw [hY2]
        refine ⟨?_, ?_, ?_, ?_, ?_, ?_, ?_, ?_⟩
        all_goals simp [go_sem]
      have hrec := ih x _ _ Y2 (hr'.up (bw.trans (bY.mono bw.size))) (hnb.part hxm) hal
      obtain ⟨p0, p1, p2, p3, p4, p5, p6, p7⟩ := aY
      simp only [Nat.zero_add] at p0 p1 p2 p3 p4 p5 p6 p7
      clear hcell h8 hr' ih
      go_upto_region 6 with fail
      rw [← hY2]
      obtain ⟨Z, hZ⟩ : ∃ Z, wr.heap.size = Z := ⟨_, rfl⟩
      simp only [hZ] at p0 p1 p2 p3 p4 p5 p6 p7 ⊢
      clear hY2 c0 c1 c2 c3 c4 c5 c6 c7
      go_upto_region 7 with (first
        | (go_at_call 17; refine hrec.mono ?_; rintro e V ⟨bV, nv2, pv2, rfl, hrd⟩; obtain ⟨na2, nc2, pa2, pc2, rfl, rfl⟩ := hrd.slices; have hRV := hR.up (bY.trans (bV.mono bY.size)); have hy : RdS n (fun b => W7.heap.size ≤ b ∧ (Value.slice va L.length vc).ownBlock ≠ some b) V (.slice na2 x.names.length nc2) (.slice pa2 x.parts.length pc2) x := (hrd.turn fun b hb' hl => ⟨⟨by have h1 : Y2.heap.size ≤ b := hb'; have h2 := bY.size; have h3 := hb.size; omega, fun e => by have h1 : Y2.heap.size ≤ b := hb'; have h2 := (hR.lt b e).2; have h3 := bY.size; omega⟩, fun _ => rfl⟩); have hsV : W7.heap.size ≤ V.heap.size := (by have h2 := bY.size; have h3 := hb.size; have h4 := bV.size; omega))
        | (at_builtin; refine wpl_app8 (W0 := V) rfl _ _ rfl hRV x _ _ hy rfl rfl rfl hL4 hsV ?_; rintro v' w9 ⟨ao, c9, rfl⟩ hR9 hg9))
      have hV7 : Below W7.heap.size W7 V := hb.trans ((bY.trans (bV.mono bY.size)).mono hb.size)
      have b9 : Below W7.heap.size W7 w9 := hV7.grown hg9 hsV (fun k hk => (hR.lt k hk).1)
      rw [HL2.out] at hR9
      clear hy hrd hRV bV hg9 hV7
      go_wp2
      go_roundg (gk - 1)
      case measure => omega
      case rel => exact ⟨j + 1, by go_num, by omega, hR9, b9⟩
    · have hltI : ¬ (j : Int) < d.parts.length := by omega
      have hLd : L = d.parts := by rw [← HL.out, List.take_of_length_le (by omega)]
      subst hLd
      have h8 := a7.up hb
      have fX : ∀ i, wr.frozen? ⟨w.heap.size, i, none⟩ = false := fun i => (hb.frozen (p := ⟨w.heap.size, i, none⟩) (by show w.heap.size < W7.heap.size; omega)).trans (f7 i)
      have zX := zz7.up hb
      have sX : w.heap.size + 2 ≤ wr.heap.size := Nat.le_trans s7 hb.size
      have NX := N7.turn (KeptU.below hb fun b hb _ => hb)
      have f6 := fX 6
      obtain ⟨q0, q1, q2, q3, q4, q5, q6, q7⟩ := id h8
      simp only [Nat.zero_add] at q0 q1 q2 q3 q4 q5 q6 q7
      clear hcell ih
      obtain ⟨Z, hZ⟩ : ∃ Z, Z = wr.setCell ⟨w.heap.size, 6, none⟩ (.slice va d.parts.length vc) := ⟨_, rfl⟩
      have r8 : At8 Z w.heap.size 0 d (.slice nao d.names.length ncc) (.slice va d.parts.length vc) := by
        rw [hZ]
        refine ⟨?_, ?_, ?_, ?_, ?_, ?_, ?_, ?_⟩
        all_goals simp [go_sem, q0, q1, q2, q3, q4, q5, q6, q7]
      have hZb : ∀ k, k ≠ w.heap.size → Z.heap[k]? = wr.heap[k]? := fun k hk => by rw [hZ]; exact Below.heap_setCell _ _ _ _ hk
      have zZ : Zero8 Z (w.heap.size + 1) := by
        have hc : ∀ o, Z.cell? ⟨w.heap.size + 1, o, none⟩ = wr.cell? ⟨w.heap.size + 1, o, none⟩ := fun o => World.cell?_of_block (w := wr) (a := ⟨w.heap.size + 1, o, none⟩) (hZb _ (by dsimp only; omega))
        obtain ⟨⟨h0, h1, h2, h3, h4, h5, h6, h7⟩, hf⟩ := zX
        exact ⟨⟨(hc _).trans h0, (hc _).trans h1, (hc _).trans h2, (hc _).trans h3, (hc _).trans h4, (hc _).trans h5, (hc _).trans h6, (hc _).trans h7⟩, fun i => by rw [hZ, World.frozen?_setCell]; exact hf i⟩
      have bZ : Below w.heap.size w Z := by rw [hZ]; exact bw.setCell (Nat.le_refl _) _
      have NZ : Nm Z (fun b => w.heap.size + 2 ≤ b) (.slice nao d.names.length ncc) d.names := NX.turn fun b hb _ => ⟨hb, fun o => cu_of_block (hZb _ (by omega)) o⟩
      have RZ : Row8 n W7.heap.size Z (.slice va d.parts.length vc) d.parts := by rw [hZ]; exact hR.set (by omega) 6 _
      go_upto_region 9 with fail
      rw [← hZ]
      clear hZ q0 q1 q2 q3 q4 q5 q6 q7 h8 fX zX NX f6 hR hb bw hZb
      obtain ⟨q0, q1, q2, q3, q4, q5, q6, q7⟩ := id r8
      simp only [Nat.zero_add] at q0 q1 q2 q3 q4 q5 q6 q7
      obtain ⟨⟨z0, z1, z2, z3, z4, z5, z6, z7⟩, zf⟩ := zZ
      have y0 := zf 0
      have y1 := zf 1
      have y2 := zf 2
      have y3 := zf 3
      have y4 := zf 4
      have y5 := zf 5
      have y6 := zf 6
      have y7 := zf 7
      go_wp2
      obtain ⟨r0, r1, r2, r3, r4, r5, r6, r7⟩ := set8 z0 z1 z2 z3 z4 z5 z6 z7 (.int .i64 d.kind) (.string d.ty) (.int .u64 d.bits) (.int .u64 d.imag) (.string d.text) (.slice nao d.names.length ncc) (.slice va d.parts.length vc) (.int .i64 d.hook)
      refine bodyPost_ret (v := DV d (.slice nao d.names.length ncc) (.slice va d.parts.length vc)) (by simp [results, Tryd.results17, go_sem, r0, r1, r2, r3, r4, r5, r6, r7]) rfl ?_
      refine ⟨set8_below bZ (by omega), _, _, rfl, ?_⟩
      refine RdS.turn (S := fun b => w.heap.size + 2 ≤ b) (W := Z) (fun b hb hl => ⟨by omega, fun o => set8_cu (by omega) o⟩) ?_
      exact RdS.mk hfit hsz NZ (RZ.pt _ fun b hb => by omega)
theorem copied_any : ∀ n, CpR n
  | 0 => fun _ _ _ _ h => h.elim
  | n + 1 => copied_step n (copied_any n)
theorem Spd.keptU {S Q Q' : Nat → Prop} {W W' : World} (h : Spd S W W') (hQ : ∀ b, Q b → b < W.heap.size → ¬ S b ∧ Q' b) : KeptU Q Q' W W' := fun b hb hl => ⟨(hQ b hb hl).2, fun o => cu_of_block (h.far b hl (hQ b hb hl).1) o⟩
theorem Spd.kept {S Q Q' : Nat → Prop} {W W' : World} (h : Spd S W W') (hQ : ∀ b, Q b → b < W.heap.size → ¬ S b ∧ Q' b) : Kept Q Q' W W' := fun b hb hl => ⟨(hQ b hb hl).2, fun o => World.cell?_of_block (w := W) (a := ⟨b, o, none⟩) (h.far b hl (hQ b hb hl).1)⟩
theorem Spd.at8 {S : Nat → Prop} {W W' : World} (h : Spd S W W') {X : Nat} {d : D} {nv pv : Value} (hX : ¬ S X) (ha : At8 W X 0 d nv pv) : At8 W' X 0 d nv pv := by
  obtain ⟨q0, q1, q2, q3, q4, q5, q6, q7⟩ := ha
  exact ⟨h.keep hX q0, h.keep hX q1, h.keep hX q2, h.keep hX q3, h.keep hX q4, h.keep hX q5, h.keep hX q6, h.keep hX q7⟩
theorem Spd.below {S : Nat → Prop} {N : Nat} {w W W' : World} (hb : Below N w W) (h : Spd S W W') (hN : ∀ b, S b → N ≤ b) (hl : N ≤ W.heap.size) : Below N w W' :=
  ⟨h.os.trans hb.os, h.tape.trans hb.tape, h.output.trans hb.output, Nat.le_trans hb.size h.size, fun k hk => (h.far k (by omega) (fun hs => by have := hN k hs; omega)).trans (hb.block k hk)⟩
set_option maxRecDepth 1000000 in
set_option maxHeartbeats 8000000 in
theorem valuesApart_walk (d : D) (n1 : Nat) (nv1 pv1 : Value) (w : World) (hK : KN w) (hr1 : RdC n1 w nv1 pv1 d) (hnb : NB d) :
    Calls Tryd.prog 6 #[DV d nv1 pv1] w fun e w' => e = .returned (.bool true) ∧ Below w.heap.size w w' := by
  obtain ⟨na, nc, pa, pc, rfl, rfl⟩ := hr1.slices
  obtain ⟨W1, hW1⟩ : ∃ W1, W1 = w.alloc (.cells #[.int .i64 d.kind, .string d.ty, .int .u64 d.bits, .int .u64 d.imag, .string d.text, .slice na d.names.length nc, .slice pa d.parts.length pc, .int .i64 d.hook] 26) := ⟨_, rfl⟩
  have b1 : Below w.heap.size w W1 := by rw [hW1]; exact (Below.refl _ _).alloc (Nat.le_refl _) _
  have a1 : At8 W1 w.heap.size 0 d (.slice na d.names.length nc) (.slice pa d.parts.length pc) := by
      rw [hW1]
      refine ⟨?_, ?_, ?_, ?_, ?_, ?_, ?_, ?_⟩
      all_goals simp [go_sem]
  have hA := built_any d n1 _ _ W1 (hr1.up b1)
  have sz1 : w.heap.size < W1.heap.size := lt_of_cell a1.1
  obtain ⟨c0, c1, c2, c3, c4, c5, c6, c7⟩ := id a1
  simp only [Nat.zero_add] at c0 c1 c2 c3 c4 c5 c6 c7
  go_enter Tryd.func6, Tryd.ntmps6
  go_upto_region 1 with fail
  rw [← hW1]
  clear hW1
  by_cases HO : okB d
  · replace hA := hA.mono fun e w' h => (⟨h.1, h.2.elim (fun q => q.2) (fun q => absurd HO q.1)⟩ : _ ∧ _)
    go_upto_region 2 with (go_at_call 7; refine hA.mono ?_; rintro e W2 ⟨b2, t1, x1, nv1, pv1, rfl, hv1, hd1⟩; obtain ⟨na1, nc1, pa1, pc1, rfl, rfl⟩ := hd1.slices; obtain ⟨W3, hW3⟩ : ∃ W3, W3 = W2.alloc (.cells #[.int .i64 (inF d).kind, .string (inF d).ty, .int .u64 (inF d).bits, .int .u64 (inF d).imag, .string (inF d).text, .slice na1 (inF d).names.length nc1, .slice pa1 (inF d).parts.length pc1, .int .i64 (inF d).hook] 26) := ⟨_, rfl⟩)
    rw [← hW3]
    have b3 : Below W2.heap.size W2 W3 := by rw [hW3]; exact (Below.refl _ _).alloc (Nat.le_refl _) _
    have b13 : Below W1.heap.size W1 W3 := b2.trans (b3.mono b2.size)
    have bW3 : Below w.heap.size w W3 := b1.trans (b13.mono b1.size)
    have x3 : At8 W3 W2.heap.size 0 (inF d) (.slice na1 (inF d).names.length nc1) (.slice pa1 (inF d).parts.length pc1) := by
      rw [hW3]
      refine ⟨?_, ?_, ?_, ?_, ?_, ?_, ?_, ?_⟩
      all_goals simp [go_sem]
    clear hA c0 c1 c2 c3 c4 c5 c6 c7
    have hg8 := (good_of (rd_nAll n1 hr1) HO.2).1
    have hn4 : nAll d < 400 := HO.1
    have hv3 := hv1.turn (Kept.below (S' := fun b => b < W2.heap.size) b3 fun _ _ h => h)
    have hd3 := hd1.turn (KeptU.below (S' := fun b => b < W2.heap.size) b3 fun _ _ h => h)
    have hr3 := (rd_nAll n1 hr1).up bW3
    have hC := copied_any (nAll d) d _ _ W3 hr3 hnb (by omega)
    have s23 : W2.heap.size < W3.heap.size := lt_of_cell x3.1
    have s12 := b2.size
    obtain ⟨X1, hX1⟩ : ∃ X1, W2.heap.size = X1 := ⟨_, rfl⟩
    obtain ⟨X0, hX0⟩ : ∃ X0, w.heap.size = X0 := ⟨_, rfl⟩
    have a3 := a1.up b13
    rw [hX1] at x3 s23 hv3 hd3 s12
    rw [hX0] at a3 sz1
    try simp only [hX1, hX0]
    clear hW3 hv1 hd1 b3 b2 b13 a1
    have HX0 : Hid (w.heap.size = X0) := hX0
    clear hX0 hX1
    obtain ⟨c0, c1, c2, c3, c4, c5, c6, c7⟩ := id a3
    simp only [Nat.zero_add] at c0 c1 c2 c3 c4 c5 c6 c7
    go_upto_region 5 with (go_at_call 17; refine hC.mono ?_; rintro e W4 ⟨b4, nv2, pv2, rfl, hd4⟩; obtain ⟨na2, nc2, pa2, pc2, rfl, rfl⟩ := hd4.slices; obtain ⟨W5, hW5⟩ : ∃ W5, W5 = W4.alloc (.cells #[.int .i64 d.kind, .string d.ty, .int .u64 d.bits, .int .u64 d.imag, .string d.text, .slice na2 d.names.length nc2, .slice pa2 d.parts.length pc2, .int .i64 d.hook] 26) := ⟨_, rfl⟩)
    rw [← hW5]
    have b5 : Below W4.heap.size W4 W5 := by rw [hW5]; exact (Below.refl _ _).alloc (Nat.le_refl _) _
    have b35 : Below W3.heap.size W3 W5 := b4.trans (b5.mono b4.size)
    have x5 : At8 W5 W4.heap.size 0 d (.slice na2 d.names.length nc2) (.slice pa2 d.parts.length pc2) := by
      rw [hW5]
      refine ⟨?_, ?_, ?_, ?_, ?_, ?_, ?_, ?_⟩
      all_goals simp [go_sem]
    have s45 : W4.heap.size < W5.heap.size := lt_of_cell x5.1
    have s34 := b4.size
    have hd5 := hd4.turn (KeptU.below (S' := fun b => W3.heap.size ≤ b ∧ b < W4.heap.size) b5 fun b hb h => ⟨hb, h⟩)
    obtain ⟨X2, hX2⟩ : ∃ X2, W4.heap.size = X2 := ⟨_, rfl⟩
    rw [hX2] at x5 s45 hd5 s34
    try simp only [hX2]
    clear hW5 hX2 hC b4 b5 hd4 c0 c1 c2 c3 c4 c5 c6 c7
    have hB := (buildA (nAll d) d _ _ W5 hd5.plain (by omega)).mono fun e w' h => (⟨h.1, h.2.elim (fun q => q.2) (fun q => absurd HO.2 q.1)⟩ : _ ∧ _)
    obtain ⟨c0, c1, c2, c3, c4, c5, c6, c7⟩ := id x5
    simp only [Nat.zero_add] at c0 c1 c2 c3 c4 c5 c6 c7
    go_upto_region 6 with (go_at_call 10; refine hB.mono ?_; rintro e W6 ⟨b6, t2, x2, rfl, hv2⟩)
    have b36 := b35.trans (b6.mono b35.size)
    have x6 := x5.up b6
    have a6 := a3.up b36
    have hsame := osame_true _ _ d _ _ _ _ W6 (hd5.plain.up b6) (hr3.up b36)
    clear hB c0 c1 c2 c3 c4 c5 c6 c7
    obtain ⟨c0, c1, c2, c3, c4, c5, c6, c7⟩ := id x6
    obtain ⟨d0, d1, d2, d3, d4, d5, d6, d7⟩ := id a6
    simp only [Nat.zero_add] at c0 c1 c2 c3 c4 c5 c6 c7 d0 d1 d2 d3 d4 d5 d6 d7
    go_upto_region 8 with (go_at_call 11; refine hsame.mono ?_; rintro e W7 ⟨rfl, b7⟩)
    clear hsame c0 c1 c2 c3 c4 c5 c6 c7 d0 d1 d2 d3 d4 d5 d6 d7
    have b57 := b6.trans (b7.mono b6.size)
    have b37 := b36.trans (b7.mono b36.size)
    have x7 := x5.up b57
    have hd7 := hd5.turn (KeptU.below (S' := fun b => W3.heap.size ≤ b ∧ b < X2) b57 fun b hb h => hb)
    have hsp := spoil_any _ (fun b => W3.heap.size ≤ b ∧ b < X2) d _ _ W7 (SP.of hd7) (fun b hb => by have := b57.size; omega)
    have hv7 := hv2.turn (Kept.below (S' := fun b => X2 ≤ b) b7 fun b hb h => by have : W5.heap.size + 3 ≤ b := hb; omega)
    obtain ⟨c0, c1, c2, c3, c4, c5, c6, c7⟩ := id x7
    simp only [Nat.zero_add] at c0 c1 c2 c3 c4 c5 c6 c7
    go_upto_region 9 with (go_at_call 18; refine hsp.mono ?_; rintro e W8 ⟨rfl, k8⟩)
    clear hsp c0 c1 c2 c3 c4 c5 c6 c7
    have x8 := k8.at8 (X := X1) (by omega) (x3.up b37)
    have hv8 := hv7.turn (k8.kept (Q' := fun _ => True) fun b hb _ => ⟨by omega, trivial⟩)
    have hu8 := (hv3.turn (Kept.below (S' := fun b => b < X1) b37 fun b hb h => hb)).turn (k8.kept (Q' := fun _ => True) fun b hb _ => ⟨by omega, trivial⟩)
    have hd8 := (hd3.turn (KeptU.below (S' := fun b => b < X1) b37 fun b hb h => hb)).turn (k8.keptU (Q' := fun _ => True) fun b hb _ => ⟨by omega, trivial⟩)
    have bW8 : Below w.heap.size w W8 := Spd.below (bW3.trans (b37.mono bW3.size)) k8 (fun b hb => by have := bW3.size; have := hb.1; omega) (by have := bW3.size; have := b37.size; omega)
    have s8 : X1 < W8.heap.size := lt_of_cell x8.1
    have HS8 := HX0.out
    clear k8 hd7 hv7 x7 b57 b37 x6 a6 b36 b6 b7 hv2 hd5 x5 b35 hv3 hd3 hr3 bW3 a3 x3
    have hR1 := vraw_any _ d hg8 _ W8 _ hv8
    go_upto_region 10 with (go_at_call 9; refine hR1.mono ?_; rintro e W9 ⟨b9, nv3, pv3, rfl, hd9⟩; obtain ⟨na3, nc3, pa3, pc3, rfl, rfl⟩ := hd9.slices; obtain ⟨W10, hW10⟩ : ∃ W10, W10 = W9.alloc (.cells #[.int .i64 (inF d).kind, .string (inF d).ty, .int .u64 (inF d).bits, .int .u64 (inF d).imag, .string (inF d).text, .slice na3 (inF d).names.length nc3, .slice pa3 (inF d).parts.length pc3, .int .i64 (inF d).hook] 26) := ⟨_, rfl⟩)
    rw [← hW10]
    have b10 : Below W9.heap.size W9 W10 := by rw [hW10]; exact (Below.refl _ _).alloc (Nat.le_refl _) _
    have b810 : Below W8.heap.size W8 W10 := b9.trans (b10.mono b9.size)
    have x10 : At8 W10 W9.heap.size 0 (inF d) (.slice na3 (inF d).names.length nc3) (.slice pa3 (inF d).parts.length pc3) := by
      rw [hW10]
      refine ⟨?_, ?_, ?_, ?_, ?_, ?_, ?_, ?_⟩
      all_goals simp [go_sem]
    have s910 : W9.heap.size < W10.heap.size := lt_of_cell x10.1
    have hd10 := hd9.turn (KeptU.below (S' := fun b => b < W9.heap.size) b10 fun b hb h => h)
    obtain ⟨X3, hX3⟩ : ∃ X3, W9.heap.size = X3 := ⟨_, rfl⟩
    rw [hX3] at x10 s910 hd10
    try simp only [hX3]
    have s83 : W8.heap.size ≤ X3 := by rw [← hX3]; exact b9.size
    clear hW10 hX3 hR1 b9 b10 hd9
    have hR2 := vraw_any _ d hg8 _ W10 _ (hv8.turn (Kept.below (S' := fun _ => True) b810 fun _ _ _ => trivial))
    go_upto_region 11 with (first
      | (go_at_call 9; refine hR2.mono ?_; rintro e W11 ⟨b11, nv4, pv4, rfl, hd11⟩; obtain ⟨na4, nc4, pa4, pc4, rfl, rfl⟩ := hd11.slices; have hsp := spoil_any _ (fun b => W10.heap.size ≤ b ∧ b < W11.heap.size) (inF d) _ _ W11 (SP.of (hd11.turn (KeptU.below (S' := fun b => W10.heap.size ≤ b ∧ b < W11.heap.size) (Below.refl _ _) fun b hb h => ⟨hb, h⟩))) (fun b hb => hb.2))
      | (go_at_call 18; refine hsp.mono ?_; rintro e W12 ⟨rfl, k12⟩))
    have b811 := b810.trans (b11.mono b810.size)
    have xA := k12.at8 (X := X3) (by omega) (x10.up b11)
    have xX := k12.at8 (X := X1) (by omega) (x8.up b811)
    have hdA := ((hd10.turn (KeptU.below (S' := fun b => b < X3) b11 fun b hb h => hb)).turn (k12.keptU (Q' := fun _ => True) fun b hb _ => ⟨by omega, trivial⟩)).plain
    have hdX := ((hd8.turn (KeptU.below (S' := fun b => b < W8.heap.size) b811 fun b hb h => h)).turn (k12.keptU (Q' := fun _ => True) fun b hb _ => ⟨by omega, trivial⟩)).plain
    have hvA := (hv8.turn (Kept.below (S' := fun b => b < W8.heap.size) b811 fun b hb h => h)).turn (k12.kept (Q' := fun _ => True) fun b hb _ => ⟨by omega, trivial⟩)
    have huA := (hu8.turn (Kept.below (S' := fun b => b < W8.heap.size) b811 fun b hb h => h)).turn (k12.kept (Q' := fun _ => True) fun b hb _ => ⟨by omega, trivial⟩)
    have bW12 : Below w.heap.size w W12 := Spd.below (bW8.trans (b811.mono bW8.size)) k12 (fun b hb => by have := bW8.size; have := b810.size; have := hb.1; omega) (by have := bW8.size; have := b811.size; omega)
    clear hsp k12 hR2 hd11 b11 b811 hd10 hd8 hv8 hu8 x10 x8 b810 bW8 s83 s910 s8 HS8 s12 s23 s34 s45 sz1
    obtain ⟨Yd, hYd⟩ : ∃ Yd, Yd = W12.drew := ⟨_, rfl⟩
    have bY : Below w.heap.size w Yd := by rw [hYd]; exact bW12.drew
    have b12Y : Below W12.heap.size W12 Yd := by rw [hYd]; exact (Below.refl _ _).drew
    replace hdA := hdA.up b12Y
    replace hdX := hdX.up b12Y
    have hraw2 := fun (Z : World) (hZ : Below Yd.heap.size Yd Z) => (vraw_any _ d hg8 (fun _ => True) Z _ (hvA.turn (Kept.below (b12Y.trans (hZ.mono b12Y.size)) fun _ _ _ => trivial))).mono fun e w' h => (⟨h.1, let ⟨nv, pv, h1, h2⟩ := h.2; ⟨nv, pv, h1, h2.plain⟩⟩ : Below Z.heap.size Z w' ∧ ∃ nv pv, e = .returned (DV (inF d) nv pv) ∧ RdC (nAll d) w' nv pv (inF d))
    have hraw1 := fun (Z : World) (hZ : Below Yd.heap.size Yd Z) => (vraw_any _ d hg8 (fun _ => True) Z _ (huA.turn (Kept.below (b12Y.trans (hZ.mono b12Y.size)) fun _ _ _ => trivial))).mono fun e w' h => (⟨h.1, let ⟨nv, pv, h1, h2⟩ := h.2; ⟨nv, pv, h1, h2.plain⟩⟩ : Below Z.heap.size Z w' ∧ ∃ nv pv, e = .returned (DV (inF d) nv pv) ∧ RdC (nAll d) w' nv pv (inF d))
    clear HO hg8 hr1 hn4 hnb hvA huA b12Y HX0 b1 bW12
    generalize nAll d = m at *
    generalize inF d = fd at *
    refine wp_region_held_drew (S := fun w' : World => At8 w' X3 0 fd (.slice na3 fd.names.length nc3) (.slice pa3 fd.parts.length pc3) ∧ At8 w' X1 0 fd (.slice na1 fd.names.length nc1) (.slice pa1 fd.parts.length pc1)) (by kernel_rfl) (by exact ⟨xA, xX⟩) ?_
    rw [← hYd]
    have s5 : (fun w' : World => At8 w' X3 0 fd (.slice na3 fd.names.length nc3) (.slice pa3 fd.parts.length pc3) ∧ At8 w' X1 0 fd (.slice na1 fd.names.length nc1) (.slice pa1 fd.parts.length pc1)) Yd := by rw [hYd]; exact ⟨xA, xX⟩
    have hup : ∀ {w1 w2 : World}, (fun w' : World => At8 w' X3 0 fd (.slice na3 fd.names.length nc3) (.slice pa3 fd.parts.length pc3) ∧ At8 w' X1 0 fd (.slice na1 fd.names.length nc1) (.slice pa1 fd.parts.length pc1)) w1 → Below w1.heap.size w1 w2 → (fun w' : World => At8 w' X3 0 fd (.slice na3 fd.names.length nc3) (.slice pa3 fd.parts.length pc3) ∧ At8 w' X1 0 fd (.slice na1 fd.names.length nc1) (.slice pa1 fd.parts.length pc1)) w2 := fun h h' => ⟨h.1.up h', h.2.up h'⟩
    clear hYd xA xX
    intro hS
    refine wpAnyH_take (i := 0) (v := .agg #[.int .i64 fd.kind, .string fd.ty, .int .u64 fd.bits, .int .u64 fd.imag, .string fd.text, .slice na3 fd.names.length nc3, .slice pa3 fd.parts.length pc3, .int .i64 fd.hook]) rfl (by kernel_rfl) (by kernel_rfl) (by kernel_rfl) (fun _ _ _ h => h) (Or.inl ⟨by rfl, ?_⟩) (by assumption) ?_
    · intro w5 s0
      obtain ⟨⟨q0, q1, q2, q3, q4, q5, q6, q7⟩, -⟩ := s0
      simp only [Nat.zero_add] at q0 q1 q2 q3 q4 q5 q6 q7
      go_simp
    try simp only [Act.put, List.getElem_toArray, List.getElem_cons_zero, List.getElem_cons_succ, List.setIfInBounds_toArray, List.set_cons_zero, List.set_cons_succ]
    refine wpAnyH_take (i := 1) (v := .agg #[.int .i64 fd.kind, .string fd.ty, .int .u64 fd.bits, .int .u64 fd.imag, .string fd.text, .slice na1 fd.names.length nc1, .slice pa1 fd.parts.length pc1, .int .i64 fd.hook]) rfl (by kernel_rfl) (by kernel_rfl) (by kernel_rfl) (fun _ _ _ h => h) (Or.inl ⟨by rfl, ?_⟩) (by assumption) ?_
    · intro w5 s0
      obtain ⟨-, q0, q1, q2, q3, q4, q5, q6, q7⟩ := s0
      simp only [Nat.zero_add] at q0 q1 q2 q3 q4 q5 q6 q7
      go_simp
    try simp only [Act.put, List.getElem_toArray, List.getElem_cons_zero, List.getElem_cons_succ, List.setIfInBounds_toArray, List.set_cons_zero, List.set_cons_succ]
    refine wpAnyH_ready (rs := [2]) (by kernel_rfl) (by simp) ?_
    refine AllReadyH.cons rfl (fun K101 hK101 => ?_) AllReadyH.nil
    go_simp
    refine (osame_true _ _ fd _ _ _ _ _ hdA hdX).mono ?_
    rintro e Z1 ⟨rfl, z1⟩
    have sZ1 := (hup s5) z1
    refine hK101.out _ _ sZ1 (fun _ => ?_)
    clear hK101
    try simp only [Act.put, List.getElem_toArray, List.getElem_cons_zero, List.getElem_cons_succ, List.setIfInBounds_toArray, List.set_cons_zero, List.set_cons_succ]
    refine wpAnyH_ready (rs := [3]) (by kernel_rfl) (by simp) ?_
    refine AllReadyH.cons rfl (fun K102 hK102 => ?_) AllReadyH.nil
    go_simp
    refine hK102.out _ _ sZ1 (fun _ => ?_)
    clear hK102
    try simp only [Act.put, List.getElem_toArray, List.getElem_cons_zero, List.getElem_cons_succ, List.setIfInBounds_toArray, List.set_cons_zero, List.set_cons_succ]
    refine wpAnyH_take (i := 4) (v := .iface t2 x2) rfl (by kernel_rfl) (by kernel_rfl) (by kernel_rfl) (fun _ _ _ h => h) (Or.inl ⟨by rfl, ?_⟩) (by assumption) ?_
    · intro w5 s0
      go_simp
    try simp only [Act.put, List.getElem_toArray, List.getElem_cons_zero, List.getElem_cons_succ, List.setIfInBounds_toArray, List.set_cons_zero, List.set_cons_succ]
    refine wpAnyH_take (i := 6) (v := .agg #[.int .i64 fd.kind, .string fd.ty, .int .u64 fd.bits, .int .u64 fd.imag, .string fd.text, .slice na1 fd.names.length nc1, .slice pa1 fd.parts.length pc1, .int .i64 fd.hook]) rfl (by kernel_rfl) (by kernel_rfl) (by kernel_rfl) (fun _ _ _ h => h) (Or.inl ⟨by rfl, ?_⟩) (by assumption) ?_
    · intro w5 s0
      obtain ⟨-, q0, q1, q2, q3, q4, q5, q6, q7⟩ := s0
      simp only [Nat.zero_add] at q0 q1 q2 q3 q4 q5 q6 q7
      go_simp
    try simp only [Act.put, List.getElem_toArray, List.getElem_cons_zero, List.getElem_cons_succ, List.setIfInBounds_toArray, List.set_cons_zero, List.set_cons_succ]
    refine wpAnyH_ready (rs := [5]) (by kernel_rfl) (by simp) ?_
    refine AllReadyH.cons rfl (fun K103 hK103 => ?_) AllReadyH.nil
    go_simp
    refine (hraw2 _ z1).mono ?_
    rintro e Z2 ⟨z2, nv103, pv103, rfl, hd103⟩
    obtain ⟨na103, nc103, pa103, pc103, rfl, rfl⟩ := hd103.slices
    have sZ2 := (hup sZ1) z2
    refine hK103.out _ _ sZ2 (fun _ => ?_)
    clear hK103
    try simp only [Act.put, List.getElem_toArray, List.getElem_cons_zero, List.getElem_cons_succ, List.setIfInBounds_toArray, List.set_cons_zero, List.set_cons_succ]
    have g2 : Below Yd.heap.size Yd Z2 := z1.trans (z2.mono z1.size)
    refine wpAnyH_ready (rs := [7]) (by kernel_rfl) (by simp) ?_
    refine AllReadyH.cons rfl (fun K104 hK104 => ?_) AllReadyH.nil
    go_simp
    refine (osame_true _ _ fd _ _ _ _ _ hd103 (hdX.up g2)).mono ?_
    rintro e Z3 ⟨rfl, z3⟩
    have sZ3 := (hup sZ2) z3
    refine hK104.out _ _ sZ3 (fun _ => ?_)
    clear hK104
    try simp only [Act.put, List.getElem_toArray, List.getElem_cons_zero, List.getElem_cons_succ, List.setIfInBounds_toArray, List.set_cons_zero, List.set_cons_succ]
    have g3 : Below Yd.heap.size Yd Z3 := g2.trans (z3.mono g2.size)
    refine wpAnyH_ready (rs := [8]) (by kernel_rfl) (by simp) ?_
    refine AllReadyH.cons rfl (fun K105 hK105 => ?_) AllReadyH.nil
    go_simp
    refine hK105.out _ _ sZ3 (fun _ => ?_)
    clear hK105
    try simp only [Act.put, List.getElem_toArray, List.getElem_cons_zero, List.getElem_cons_succ, List.setIfInBounds_toArray, List.set_cons_zero, List.set_cons_succ]
    refine wpAnyH_ready (rs := [9]) (by kernel_rfl) (by simp) ?_
    refine AllReadyH.cons rfl (fun K106 hK106 => ?_) AllReadyH.nil
    go_simp
    refine hK106.out _ _ sZ3 (fun _ => ?_)
    clear hK106
    try simp only [Act.put, List.getElem_toArray, List.getElem_cons_zero, List.getElem_cons_succ, List.setIfInBounds_toArray, List.set_cons_zero, List.set_cons_succ]
    refine wpAnyH_take (i := 10) (v := .iface t1 x1) rfl (by kernel_rfl) (by kernel_rfl) (by kernel_rfl) (fun _ _ _ h => h) (Or.inl ⟨by rfl, ?_⟩) (by assumption) ?_
    · intro w5 s0
      go_simp
    try simp only [Act.put, List.getElem_toArray, List.getElem_cons_zero, List.getElem_cons_succ, List.setIfInBounds_toArray, List.set_cons_zero, List.set_cons_succ]
    refine wpAnyH_take (i := 12) (v := .agg #[.int .i64 fd.kind, .string fd.ty, .int .u64 fd.bits, .int .u64 fd.imag, .string fd.text, .slice na1 fd.names.length nc1, .slice pa1 fd.parts.length pc1, .int .i64 fd.hook]) rfl (by kernel_rfl) (by kernel_rfl) (by kernel_rfl) (fun _ _ _ h => h) (Or.inl ⟨by rfl, ?_⟩) (by assumption) ?_
    · intro w5 s0
      obtain ⟨-, q0, q1, q2, q3, q4, q5, q6, q7⟩ := s0
      simp only [Nat.zero_add] at q0 q1 q2 q3 q4 q5 q6 q7
      go_simp
    try simp only [Act.put, List.getElem_toArray, List.getElem_cons_zero, List.getElem_cons_succ, List.setIfInBounds_toArray, List.set_cons_zero, List.set_cons_succ]
    refine wpAnyH_ready (rs := [11]) (by kernel_rfl) (by simp) ?_
    refine AllReadyH.cons rfl (fun K107 hK107 => ?_) AllReadyH.nil
    go_simp
    refine (hraw1 _ g3).mono ?_
    rintro e Z4 ⟨z4, nv107, pv107, rfl, hd107⟩
    obtain ⟨na107, nc107, pa107, pc107, rfl, rfl⟩ := hd107.slices
    have sZ4 := (hup sZ3) z4
    refine hK107.out _ _ sZ4 (fun _ => ?_)
    clear hK107
    try simp only [Act.put, List.getElem_toArray, List.getElem_cons_zero, List.getElem_cons_succ, List.setIfInBounds_toArray, List.set_cons_zero, List.set_cons_succ]
    have g4 : Below Yd.heap.size Yd Z4 := g3.trans (z4.mono g3.size)
    refine wpAnyH_ready (rs := [13]) (by kernel_rfl) (by simp) ?_
    refine AllReadyH.cons rfl (fun K108 hK108 => ?_) AllReadyH.nil
    go_simp
    refine (osame_true _ _ fd _ _ _ _ _ hd107 (hdX.up g4)).mono ?_
    rintro e Z5 ⟨rfl, z5⟩
    have sZ5 := (hup sZ4) z5
    refine hK108.out _ _ sZ5 (fun _ => ?_)
    clear hK108
    try simp only [Act.put, List.getElem_toArray, List.getElem_cons_zero, List.getElem_cons_succ, List.setIfInBounds_toArray, List.set_cons_zero, List.set_cons_succ]
    have g5 : Below Yd.heap.size Yd Z5 := g4.trans (z5.mono g4.size)
    refine wpAnyH_ready (rs := [14]) (by kernel_rfl) (by simp) ?_
    refine AllReadyH.cons rfl (fun K109 hK109 => ?_) AllReadyH.nil
    go_simp
    refine hK109.out _ _ sZ5 (fun _ => ?_)
    clear hK109
    try simp only [Act.put, List.getElem_toArray, List.getElem_cons_zero, List.getElem_cons_succ, List.setIfInBounds_toArray, List.set_cons_zero, List.set_cons_succ]
    refine wpAnyH_ready (rs := [15]) (by kernel_rfl) (by simp) ?_
    refine AllReadyH.cons rfl (fun K110 hK110 => ?_) AllReadyH.nil
    go_simp
    refine hK110.out _ _ sZ5 (fun _ => ?_)
    clear hK110
    try simp only [Act.put, List.getElem_toArray, List.getElem_cons_zero, List.getElem_cons_succ, List.setIfInBounds_toArray, List.set_cons_zero, List.set_cons_succ]
    have bZ5 : Below w.heap.size w Z5 := bY.trans (g5.mono bY.size)
    refine wpAnyH_ready (rs := [16]) (by kernel_rfl) (by simp) ?_
    refine AllReadyH.cons rfl (fun K111 hK111 => ?_) AllReadyH.nil
    go_simp
    refine (lives8_any _ (hK.up bZ5)).mono ?_
    rintro e Z9 ⟨rfl, z9⟩
    have sZ9 := (hup sZ5) z9
    refine hK111.out _ _ sZ9 (fun _ => ?_)
    clear hK111
    try simp only [Act.put, List.getElem_toArray, List.getElem_cons_zero, List.getElem_cons_succ, List.setIfInBounds_toArray, List.set_cons_zero, List.set_cons_succ]
    refine wpAnyH_ready (rs := [17]) (by kernel_rfl) (by simp) ?_
    refine AllReadyH.cons rfl (fun K112 hK112 => ?_) AllReadyH.nil
    go_simp
    refine hK112.out _ _ sZ9 (fun _ => ?_)
    clear hK112
    try simp only [Act.put, List.getElem_toArray, List.getElem_cons_zero, List.getElem_cons_succ, List.setIfInBounds_toArray, List.set_cons_zero, List.set_cons_succ]
    refine wpAnyH_ready (rs := [18]) (by kernel_rfl) (by simp) ?_
    refine AllReadyH.cons rfl (fun K113 hK113 => ?_) AllReadyH.nil
    go_simp
    refine hK113.out _ _ sZ9 (fun _ => ?_)
    clear hK113
    try simp only [Act.put, List.getElem_toArray, List.getElem_cons_zero, List.getElem_cons_succ, List.setIfInBounds_toArray, List.set_cons_zero, List.set_cons_succ]
    refine wpAnyH_done (by kernel_rfl) ?_ _
    clear hS
    go_wp2
    go_ret
    exact ⟨rfl, bZ5.trans (z9.mono bZ5.size)⟩
  · replace hA := hA.mono fun e w' h => (⟨h.1, h.2.elim (fun q => absurd q.1 HO) (fun q => q.2)⟩ : _ ∧ _)
    go_upto_region 2 with (go_at_call 7; refine hA.mono ?_; rintro e W2 ⟨b2, rfl⟩; obtain ⟨W3, hW3⟩ : ∃ W3, W3 = W2.alloc (.cells #[.int .i64 0, .string ⟨#[]⟩, .int .u64 0, .int .u64 0, .string ⟨#[]⟩, .slice none 0 0, .slice none 0 0, .int .i64 0] 26) := ⟨_, rfl⟩)
    rw [← hW3]
    have b3 : Below W2.heap.size W2 W3 := by rw [hW3]; exact (Below.refl _ _).alloc (Nat.le_refl _) _
    have bW3 : Below w.heap.size w W3 := (b1.trans (b2.mono b1.size)).trans (b3.mono (Nat.le_trans b1.size b2.size))
    clear hW3 hA HO
    go_wp2_with (go_at_call 8; refine (lives8_any _ (hK.up bW3)).mono ?_; rintro e W6 ⟨rfl, b6⟩)
    go_ret
    exact ⟨rfl, bW3.trans (b6.mono bW3.size)⟩
end Go.Proofs.YtjphklhfigammaaDoor
