/- A region that draws its order and whose calls make new memory alone is walked once, in the order of its text: the library's theorem of the class of worlds, at the class of those that lie above a world. -/
import Derived.WalkKit
import Derived.Deep.QuietTactic
import Derived.BigQuiet
namespace Go.Proofs.YtjphklhfigammaaDoor
open Go.RowKit

/-- The worlds that have all that w0 has, and new memory. -/
def Cl (w0 : World) : Type := { w : World // Below w0.heap.size w0 w }
def Cl.w {w0 : World} (x : Cl w0) : World := x.1
theorem Cl.below {w0 : World} (x : Cl w0) : Below w0.heap.size w0 x.w := x.2
theorem Cl.some_one {w0 : World} : Nonempty (Cl w0) := ⟨⟨w0, Below.refl _ _⟩⟩
theorem Cl.cell {w0 : World} (x : Cl w0) {p : Addr} {v : Value} (h : w0.cell? p = some v) : x.w.cell? p = some v := by
  have hp : p.block < w0.heap.size := by
    rcases Nat.lt_or_ge p.block w0.heap.size with h1 | h1
    · exact h1
    · simp [World.cell?, Array.getElem?_eq_none h1] at h
  exact (x.2.cell hp).trans h
theorem Cl.call {P : Program} {f : FuncId} {args : Array Value} {w0 : World} {x : Cl w0} {v : Value}
    (h : Calls P f args x.w fun e w' => e = .returned v ∧ Below x.w.heap.size x.w w') : Calls P f args x.w fun e w'' => e = .returned v ∧ ∃ y : Cl w0, w'' = y.w :=
  h.mono fun _ w' ⟨he, hb⟩ => ⟨he, ⟨w', x.2.trans (hb.mono x.2.size)⟩, rfl⟩
theorem Cl.call_same {P : Program} {f : FuncId} {args : Array Value} {w0 : World} {x : Cl w0} {v : Value}
    (h : Calls P f args x.w fun e w' => e = .returned v ∧ w' = x.w) : Calls P f args x.w fun e w'' => e = .returned v ∧ ∃ y : Cl w0, w'' = y.w :=
  h.mono fun _ _ ⟨he, hb⟩ => ⟨he, x, hb⟩
/-- A call in straight code, made in a world above w0 (or in w0 itself): the world behind it lies above w0 too. -/
theorem Cl.go {P : Program} {f : FuncId} {args : Array Value} {w0 : World} {x : Cl w0} {v : Value}
    (h : Calls P f args x.w fun e w' => e = .returned v ∧ Below x.w.heap.size x.w w') : Calls P f args x.w fun e w'' => ∃ y : Cl w0, e = .returned v ∧ w'' = y.w :=
  h.mono fun _ w' ⟨he, hb⟩ => ⟨⟨w', x.2.trans (hb.mono x.2.size)⟩, he, rfl⟩
theorem Cl.go0 {P : Program} {f : FuncId} {args : Array Value} {w0 : World} {v : Value}
    (h : Calls P f args w0 fun e w' => e = .returned v ∧ Below w0.heap.size w0 w') : Calls P f args w0 fun e w'' => ∃ y : Cl w0, e = .returned v ∧ w'' = y.w :=
  h.mono fun _ w' ⟨he, hb⟩ => ⟨⟨w', hb⟩, he, rfl⟩
/-- The region, walked in the order of its text. -/
theorem wp_region_above {P : Program} {id : Nat} {Q : Exit → Act → World → Prop} {a : Act} {w : World} {l : List Oper} (w0 : World) (hw : Below w0.heap.size w0 w) (hm : P.follows .mixedOrders = true) (hB : Region.lexB .any l.toArray = true)
    (h : Nonempty (Cl w0) → wpQuiet P l.toArray (fun w' => ∃ x : Cl w0, w' = x.w) (fun a' => ∀ w', (∃ x : Cl w0, w' = x.w) → Q .normal a' w') l a) : (Code.region id l.toArray true).wp P Q a w :=
  wp_region_quiet (C := fun w' => ∃ x : Cl w0, w' = x.w) hm hB ⟨⟨_, hw.drew⟩, rfl⟩ (by simpa using h Cl.some_one)
end Go.Proofs.YtjphklhfigammaaDoor
