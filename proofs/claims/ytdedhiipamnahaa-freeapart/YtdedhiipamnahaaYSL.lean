/- Lists of texts and of calls that were handed in. -/
import Derived.Test.YtdedhiipamnahaaYLive
import Derived.LoopN
namespace Go.Proofs.Ytdedhiipamnahaa
open Go.RowKit
set_option linter.unusedVariables false

/-- A list of texts that was handed in. -/
def SL (w : World) (a : Option Addr) (l : List ByteArray) : Prop := l = [] ∨ ∃ b off, a = some ⟨b, off, none⟩ ∧ b < w.heap.size ∧ ∀ (j : Nat) (x : ByteArray), l[j]? = some x → w.cell? ⟨b, off + j, none⟩ = some (.string x)
theorem SL.up {w w' : World} {a : Option Addr} {l : List ByteArray} (h : SL w a l) (hb : Below w.heap.size w w') : SL w' a l := by
  rcases h with h | ⟨b, off, h1, h2, h3⟩
  · exact .inl h
  · exact .inr ⟨b, off, h1, Nat.lt_of_lt_of_le h2 hb.size, fun j x hj => (hb.cell (p := ⟨b, off + j, none⟩) h2).trans (h3 j x hj)⟩
theorem SL.take {w : World} {a : Option Addr} {l : List ByteArray} (h : SL w a l) (n : Nat) : SL w a (l.take n) := by
  rcases h with h | ⟨b, off, h1, h2, h3⟩
  · subst h; exact .inl (by simp)
  · exact .inr ⟨b, off, h1, h2, fun j x hj => h3 j x (by rw [List.getElem?_take] at hj; split at hj; exact hj; cases hj)⟩
theorem SL.keep {S : List Nat} {w w' : World} {a : Option Addr} {l : List ByteArray} (h : SL w a l) (hb : Below w.heap.size w w') : SL w' a l := h.up hb
/-- One call: its two cells. -/
def OpAt (w : World) (b o : Nat) : Prop := ∃ (q : Bool) (T : Int), w.cell? ⟨b, o, none⟩ = some (.bool q) ∧ w.cell? ⟨b, o + 1, none⟩ = some (.int .i64 T)
/-- A list of calls that was handed in. -/
def OL (w : World) (a : Option Addr) (len : Nat) : Prop := len = 0 ∨ ∃ b off, a = some ⟨b, off, none⟩ ∧ b < w.heap.size ∧ ∀ k, k < len → OpAt w b (off + k * 2)
theorem OL.less {w : World} {a : Option Addr} {n m : Nat} (h : OL w a n) (hm : m ≤ n) : OL w a m := by
  rcases h with h | ⟨b, off, h1, h2, h3⟩
  · exact .inl (by omega)
  · exact .inr ⟨b, off, h1, h2, fun k hk => h3 k (by omega)⟩
end Go.Proofs.Ytdedhiipamnahaa
