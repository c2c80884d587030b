/- The document's Size and Deep. -/
import Derived.Test.YtjphklhfigammaaDoorVBig
namespace Go.Proofs.YtjphklhfigammaaDoor
open Go.RowKit
set_option linter.unusedVariables false
set_option linter.unusedSimpArgs false

theorem nAll_pos (d : D) : 1 ≤ nAll d := by rw [nAll_eq]; omega
theorem nAll_part {d x : D} {j : Nat} (h : d.parts[j]? = some x) : nRow (d.parts.take j) + nAll x + 1 ≤ nAll d := by
  have h1 := nRow_take _ j x h
  have h2 := nRow_le d.parts (j + 1)
  have h3 := nAll_eq d
  omega
/-- How deep one is: 1 where it has no parts. -/
def dpF : D → Nat
  | ⟨kind, ty, bits, imag, text, names, parts, hook⟩ => 1 + (parts.map fun x => dpF x).foldl max 0
def dpR (l : List D) : Nat := (l.map dpF).foldl max 0
theorem dpF_eq (d : D) : dpF d = 1 + dpR d.parts := by
  obtain ⟨kind, ty, bits, imag, text, names, parts, hook⟩ := d
  rw [dpF]; rfl
theorem dpR_take (l : List D) (j : Nat) (x : D) (h : l[j]? = some x) : dpR (l.take (j + 1)) = max (dpR (l.take j)) (dpF x) := by
  unfold dpR
  rw [List.take_add_one, h]
  simp [List.foldl_append]
theorem dp_le {W : World} : ∀ (n : Nat) (nv pv : Value) (d : D), RdC n W nv pv d → dpF d ≤ n
  | 0, _, _, _, h => h.elim
  | n + 1, nv, pv, d, h => by
    obtain ⟨-, -, a, cap, -, -, -, h6⟩ := h
    rw [dpF_eq]
    have : ∀ j, j ≤ d.parts.length → dpR (d.parts.take j) ≤ n := by
      intro j
      induction j with
      | zero => intro _; simp [dpR]
      | succ j ih =>
        intro hj
        obtain ⟨x, hx⟩ : ∃ x, d.parts[j]? = some x := ⟨d.parts[j], List.getElem?_eq_getElem (by omega)⟩
        obtain ⟨b, off, nv', pv', -, -, hr⟩ := h6 j x hx
        have h1 := dp_le n nv' pv' x hr
        have h2 := ih (by omega)
        rw [dpR_take _ j x hx]
        omega
    have h9 := this d.parts.length (Nat.le_refl _)
    rw [List.take_length] at h9
    omega
end Go.Proofs.YtjphklhfigammaaDoor
