/- What a value of the type []Add looks like when it can be read. -/
import Derived.Test.YtnbbjfajcolpkabRows
import Derived.WalkKit
import Derived.ProofKit
import Derived.OpenShut
import Derived.Deep.Slices
namespace Go.Proofs.Ytnbbjfajcolpkab
open Go.ChangeShapes Go.WideShapes Go.ChangeAt Go.RowKit

/-- One thing that is put: its five cells. -/
def AddAt (w : World) (b o : Nat) : Prop :=
  ∃ (S : ByteArray) (C : Int) (ru re : Bool) (T : Int), w.cell? ⟨b, o, none⟩ = some (.string S) ∧ w.cell? ⟨b, o + 1, none⟩ = some (.int .i32 C) ∧ w.cell? ⟨b, o + 2, none⟩ = some (.bool ru) ∧
    w.cell? ⟨b, o + 3, none⟩ = some (.bool re) ∧ w.cell? ⟨b, o + 4, none⟩ = some (.int .i64 T)
/-- What the walk asks of the list: none, or so many things that are put. -/
def Adds (w : World) (a : Option Addr) (len : Nat) : Prop :=
  len = 0 ∨ ∃ b off, a = some ⟨b, off, none⟩ ∧ b < w.heap.size ∧ ∀ k, k < len → AddAt w b (off + k * 5)

theorem cellsStr : Try.prog.cellsOf 9 = 1 := by kernel_rfl
theorem cellsI : Try.prog.cellsOf 3 = 1 := by kernel_rfl
theorem cellsR : Try.prog.cellsOf 21 = 1 := by kernel_rfl
theorem cellsB : Try.prog.cellsOf 4 = 1 := by kernel_rfl
theorem cellsAdd : Try.prog.cellsOf 28 = 5 := by kernel_rfl

theorem open_adds {H : Type} {enc : TypeId × Value → H} {W : World} {a : Option Addr} {len cap : Nat} {d : DataW H} {p : List MemPlace}
    (h : DataW.Trod enc Try.prog W 0 (fun _ => true) true 22 (.slice a len cap) d p) : Adds W a len ∧ len ≤ cap ∧ cap ≤ maxLen := by
  obtain ⟨fuel, hf⟩ := h
  rcases Deep.open_slice Try.underlying22 hf with ⟨hcs, _⟩ | ⟨x, l, c, m, n, D, Pl, hcs, _, hl, hm, hmm, _, hx⟩
  · simp [Value.cells] at hcs
    obtain ⟨rfl, rfl, rfl⟩ := hcs
    exact ⟨.inl rfl, Nat.le_refl _, Nat.zero_le _⟩
  · simp [Value.cells] at hcs
    obtain ⟨rfl, rfl, rfl⟩ := hcs
    refine ⟨?_, hl, hm⟩
    have hmc : m = cap := by rw [hmm]; rfl
    have each : ∀ i, i < len → ∃ (S : ByteArray) (C : Int) (ru re : Bool) (T : Int), W.cell? (x.add (i * 5)) = some (.string S) ∧ W.cell? (x.add (i * 5 + 1)) = some (.int .i32 C) ∧ W.cell? (x.add (i * 5 + 2)) = some (.bool ru) ∧
        W.cell? (x.add (i * 5 + 3)) = some (.bool re) ∧ W.cell? (x.add (i * 5 + 4)) = some (.int .i64 T) := by
      intro i hi
      obtain ⟨cs', h1, h2⟩ := hx i (by omega)
      rw [cellsAdd] at h1
      obtain ⟨_, hlen, hcell⟩ := World.cells?_some h1
      obtain ⟨xs, k, hk, hxy, _, hxl, hf'⟩ := DataW.trod_struct Try.underlying28 h2
      match xs, hxl, cs', hlen with
      | [y0, y1, y2, y3, y4], _, [v0, v1, v2, v3, v4], _ =>
        have g0 : DataW.trod enc Try.prog W 0 (fun _ => true) true k 9 [v0] = some y0 := by simpa [cellsStr] using hf' 0 _ rfl
        have g1 : DataW.trod enc Try.prog W 0 (fun _ => true) true k 21 [v1] = some y1 := by simpa [cellsR] using hf' 1 _ rfl
        have g2 : DataW.trod enc Try.prog W 0 (fun _ => true) true k 4 [v2] = some y2 := by simpa [cellsB] using hf' 2 _ rfl
        have g3 : DataW.trod enc Try.prog W 0 (fun _ => true) true k 4 [v3] = some y3 := by simpa [cellsB] using hf' 3 _ rfl
        have g4 : DataW.trod enc Try.prog W 0 (fun _ => true) true k 3 [v4] = some y4 := by simpa [cellsI] using hf' 4 _ rfl
        obtain ⟨S, e0, _⟩ := DataW.trod_string Try.underlying9 g0
        obtain ⟨C, e1, _⟩ := DataW.trod_int Try.underlying21 g1
        obtain ⟨ru, e2, _⟩ := DataW.trod_bool Try.underlying4 g2
        obtain ⟨re, e3, _⟩ := DataW.trod_bool Try.underlying4 g3
        obtain ⟨T, e4, _⟩ := DataW.trod_int Try.underlying3 g4
        simp only [List.cons.injEq, and_true] at e0 e1 e2 e3 e4
        subst e0 e1 e2 e3 e4
        have c0 := hcell 0 (by omega)
        have c1 := hcell 1 (by omega)
        have c2 := hcell 2 (by omega)
        have c3 := hcell 3 (by omega)
        have c4 := hcell 4 (by omega)
        rw [Deep.add_add] at c0 c1 c2 c3 c4
        exact ⟨S, C, ru, re, T, by simpa using c0, by simpa using c1, by simpa using c2, by simpa using c3, by simpa using c4⟩
    by_cases h0 : len = 0
    · exact .inl h0
    · right
      obtain ⟨b, off, spot⟩ := x
      obtain ⟨S, C, ru, re, T, c0, _⟩ := each 0 (by omega)
      have hspot : spot = none := by simpa [Addr.add] using World.cell?_spot c0
      subst hspot
      have hb : b < W.heap.size := by
        have := block_lt_of_cell c0
        simpa [Addr.add] using this
      refine ⟨b, off, rfl, hb, fun k hk => ?_⟩
      obtain ⟨S, C, ru, re, T, c0, c1, c2, c3, c4⟩ := each k hk
      rw [add_plain] at c0 c1 c2 c3 c4
      exact ⟨S, C, ru, re, T, c0, c1, c2, c3, c4⟩
end Go.Proofs.Ytnbbjfajcolpkab
