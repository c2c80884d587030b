/- A store: its box, its channel; what a call keeps. -/
import Derived.Test.YtdedhiipamnahaaYComm
import Derived.Defers
import Derived.Recover
import Derived.Conc.LoneSelectN
import Derived.Deep.DeepCutAuto
import Derived.Deep.CutBlock
import Derived.Deep.RegionWith
import Derived.Deep.QuietTactic
import Derived.BigQuiet
namespace Go.Proofs.Ytdedhiipamnahaa
open Go.RowKit Go.Conc
set_option linter.unusedVariables false

/-- A fact that the walk shall not use. -/
def Hid (p : Prop) : Prop := p
theorem Hid.out {p : Prop} (h : Hid p) : p := h
/-- A block of cells that may be written. -/
structure Bq (w : World) (B : Nat) (vs : List Value) : Prop where
  c : ∀ i v, vs[i]? = some v → w.cell? ⟨B, i, none⟩ = some v
  z : ∀ i, w.frozen? ⟨B, i, none⟩ = false
  b : B < w.heap.size
/-- All blocks that were there, but for those of S, are as they were. -/
structure Ko (S : List Nat) (w w' : World) : Prop where
  os : w'.os = w.os
  tape : w'.tape = w.tape
  output : w'.output = w.output
  size : w.heap.size ≤ w'.heap.size
  block : ∀ k, k < w.heap.size → k ∉ S → w'.heap[k]? = w.heap[k]?
theorem Ko.refl (S : List Nat) (w : World) : Ko S w w := ⟨rfl, rfl, rfl, Nat.le_refl _, fun _ _ _ => rfl⟩
theorem Ko.trans {S : List Nat} {a b c : World} (h : Ko S a b) (k : Ko S b c) : Ko S a c :=
  ⟨k.os.trans h.os, k.tape.trans h.tape, k.output.trans h.output, Nat.le_trans h.size k.size, fun i hi hn => (k.block i (Nat.lt_of_lt_of_le hi h.size) hn).trans (h.block i hi hn)⟩
theorem Ko.mono {S T : List Nat} {a b : World} (h : Ko S a b) (hs : ∀ k, k < a.heap.size → k ∈ S → k ∈ T) : Ko T a b := ⟨h.os, h.tape, h.output, h.size, fun k hk hn => h.block k hk (fun hm => hn (hs k hk hm))⟩
theorem Ko.alloc {S : List Nat} {a b : World} (h : Ko S a b) (o : Obj) : Ko S a (b.alloc o) :=
  ⟨h.os, h.tape, h.output, by have := h.size; simp; omega, fun k hk hn => (Below.heap_alloc _ _ _ (Nat.lt_of_lt_of_le hk h.size)).trans (h.block k hk hn)⟩
theorem Ko.setCell {S : List Nat} {a b : World} (h : Ko S a b) {p : Addr} (hp : a.heap.size ≤ p.block ∨ p.block ∈ S) (v : Value) : Ko S a (b.setCell p v) :=
  ⟨h.os, h.tape, h.output, by simpa [World.setCell] using h.size, fun k hk hn => by
    rw [Below.heap_setCell _ _ _ _ (by rintro rfl; exact hp.elim (fun hp => by omega) (fun hp => hn hp))]
    exact h.block k hk hn⟩
theorem Ko.setChan {S : List Nat} {a b : World} (h : Ko S a b) {c : Nat} (hp : a.heap.size ≤ c ∨ c ∈ S) (cap : Nat) (buf : Array Value) (cl : Bool) (s r : Nat) (tm : Bool) : Ko S a (b.setChan c cap buf cl s r tm) :=
  ⟨h.os, h.tape, h.output, by simpa [World.setChan] using h.size, fun k hk hn => by
    have hne : c ≠ k := by rintro rfl; exact hp.elim (fun hp => by omega) (fun hp => hn hp)
    simp only [World.setChan]
    rw [Array.getElem?_setIfInBounds_ne hne]
    exact h.block k hk hn⟩
theorem Ko.below {S : List Nat} {N : Nat} {a b c : World} (h : Below N a b) (k : Ko S b c) (hS : ∀ x, x ∈ S → N ≤ x) (hN : N ≤ b.heap.size) : Below N a c :=
  ⟨k.os.trans h.os, k.tape.trans h.tape, k.output.trans h.output, Nat.le_trans h.size k.size, fun i hi => (k.block i (Nat.lt_of_lt_of_le hi hN) (fun hm => by have := hS i hm; omega)).trans (h.block i hi)⟩
theorem Bq.same {w w' : World} {B : Nat} {vs : List Value} (h : Bq w B vs) (hB : w'.heap[B]? = w.heap[B]?) (hs : w.heap.size ≤ w'.heap.size) : Bq w' B vs :=
  ⟨fun i v hv => (World.cell?_of_block (w := w) (a := ⟨B, i, none⟩) hB).trans (h.c i v hv), fun i => (World.frozen?_of_block (w := w) (a := ⟨B, i, none⟩) hB).trans (h.z i), Nat.lt_of_lt_of_le h.b hs⟩
theorem Bq.keep {S : List Nat} {w w' : World} {B : Nat} {vs : List Value} (h : Bq w B vs) (k : Ko S w w') (hB : B ∉ S) : Bq w' B vs := h.same (k.block B h.b hB) k.size
theorem Bq.new (w : World) (vs : List Value) (t : TypeId) : Bq (w.alloc (.cells vs.toArray t)) w.heap.size vs := ⟨fun i v hv => by simp [hv], fun i => by simp, by simp⟩
theorem Bq.set {w : World} {B : Nat} {vs : List Value} (h : Bq w B vs) (i : Nat) (hi : i < vs.length) (v : Value) : Bq (w.setCell ⟨B, i, none⟩ v) B (vs.set i v) := by
  refine ⟨fun j u hu => ?_, fun j => (World.frozen?_setCell _ _ _ _).trans (h.z j), by simpa [World.setCell] using h.b⟩
  by_cases e : i = j
  · subst e
    rw [List.getElem?_set_self hi] at hu
    obtain rfl := Option.some.inj hu
    exact World.cell?_setCell_same _ _ _ (h.c i _ (List.getElem?_eq_getElem hi))
  · rw [List.getElem?_set_ne e] at hu
    rw [World.cell?_setCell_other _ _ _ _ (fun k => e (congrArg Addr.off k))]
    exact h.c j u hu
/-- A store that New made: its box at B, its channel at c, for cap things, l lie there. -/
structure Sto (w : World) (B c cap : Nat) (l : List Value) (mk : Value) (m : Int) : Prop where
  bx : Bq w B [.chan (some c), mk, .int .i64 m]
  ch : ∃ s r, w.heap[c]? = some (.chan cap l.toArray false s r false)
theorem Sto.cb {w : World} {B c cap : Nat} {l : List Value} {mk : Value} {m : Int} (h : Sto w B c cap l mk m) : c < w.heap.size := by
  obtain ⟨s, r, hc⟩ := h.ch
  exact (Array.getElem?_eq_some_iff.1 hc).1
theorem Sto.ne {w : World} {B c cap : Nat} {l : List Value} {mk : Value} {m : Int} (h : Sto w B c cap l mk m) : B ≠ c := by
  rintro rfl
  obtain ⟨s, r, hc⟩ := h.ch
  have := h.bx.c 0 _ rfl
  simp [World.cell?, hc] at this
theorem Sto.keep {S : List Nat} {w w' : World} {B c cap : Nat} {l : List Value} {mk : Value} {m : Int} (h : Sto w B c cap l mk m) (k : Ko S w w') (hB : B ∉ S) (hc : c ∉ S) : Sto w' B c cap l mk m := by
  obtain ⟨s, r, hc'⟩ := h.ch
  exact ⟨h.bx.keep k hB, s, r, (k.block c h.cb hc).trans hc'⟩
theorem Sto.turn {w : World} {B c cap : Nat} {l l' : List Value} {mk : Value} {m : Int} (h : Sto w B c cap l mk m) (s r : Nat) : Sto (w.setChan c cap l'.toArray false s r false) B c cap l' mk m :=
  ⟨h.bx.same (by simp only [World.setChan]; rw [Array.getElem?_setIfInBounds_ne h.ne.symm]) (by simp [World.setChan]), s, r, heap_setChan _ _ _ _ _ _ _ _ h.cb⟩
theorem Sto.made {w : World} {B c cap : Nat} {l : List Value} {mk : Value} {m : Int} (h : Sto w B c cap l mk m) (m' : Int) : Sto (w.setCell ⟨B, 2, none⟩ (.int .i64 m')) B c cap l mk m' := by
  obtain ⟨s, r, hc⟩ := h.ch
  refine ⟨h.bx.set 2 (by simp) (.int .i64 m'), s, r, ?_⟩
  rw [Below.heap_setCell _ _ _ _ h.ne.symm]
  exact hc
theorem getD_cons (x : Value) (l : List Value) : (x :: l).toArray.getD 0 undef = x := by simp
theorem ext_cons (x : Value) (l : List Value) : (x :: l).toArray.extract 1 (x :: l).toArray.size = l.toArray := by simp
end Go.Proofs.Ytdedhiipamnahaa
