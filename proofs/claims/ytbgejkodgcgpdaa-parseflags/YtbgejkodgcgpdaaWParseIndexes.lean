/- The walk of the law ParseIndexes. -/
import Derived.Test.YtbgejkodgcgpdaaPIdx
namespace Go.Proofs.Ytbgejkodgcgpdaa
open Go.RowKit
set_option linter.unusedVariables false
set_option linter.unusedSimpArgs false

theorem ba_ext9 {a b : ByteArray} (h : a.data.toList = b.data.toList) : a = b := by
  apply ByteArray.ext; apply Array.ext'; exact h
/-- Parse of a text that is one piece. -/
abbrev P1C (t : ByteArray) (p : Pc) : Prop := ∀ w, Calls Try.prog 9 #[.string t] w fun e w' => ∃ g c, e = .returned (.slice (some ⟨g, 0, none⟩) 1 c) ∧ 1 ≤ c ∧ (∀ i v, (pcV p (ba p.text))[i]? = some v → w'.cell? ⟨g, i, none⟩ = some v) ∧ g < w'.heap.size ∧ Below w.heap.size w w'
theorem parse_one {t : ByteArray} {l : Bs} {p : Pc} (ht : t.size ≤ 1000) (hl : t.data.toList = l) (h : prs l = [p]) : P1C t p := fun w => by
  refine (parse_any t (by omega) w).mono ?_
  rintro e w' ⟨v, rfl, o, b⟩
  rw [hl, h] at o
  obtain ⟨a, c, rfl, h1, -⟩ := own_slice9 o
  obtain ⟨g, rfl, h2, h3⟩ := own_bx1 o
  exact ⟨g, c, rfl, h1, h3.c, h3.b, b⟩
end Go.Proofs.Ytbgejkodgcgpdaa
