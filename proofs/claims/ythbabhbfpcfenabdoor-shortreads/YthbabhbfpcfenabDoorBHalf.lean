/- The walk of the law's function half. -/
import Derived.Test.YthbabhbfpcfenabDoorBLaw
namespace Go.Proofs.YthbabhbfpcfenabDoor
open Go.RowKit
set_option linter.unusedVariables false
set_option linter.unusedSimpArgs false

theorem one_G (p : Int) (Q : Nat) (h : p + 10000 = (Q : Int)) : oS (10 ^ Q) = ⟨#[49]⟩ ∧ oP (10 ^ Q) = p + 1 := by
  have hv : num [49] * 10 ^ (p + 1 - (([49] : List UInt8).length : Int) + 10000).toNat = 10 ^ Q := by
    rw [show (p + 1 - (([49] : List UInt8).length : Int) + 10000).toNat = Q by simp; omega, show num [49] = 1 from rfl, Nat.one_mul]
  have hd : IsDec [49] (p + 1) (10 ^ Q) := ⟨rfl, rfl, rfl, fun h => (by cases h), by simp; omega, hv⟩
  obtain ⟨h1, h2⟩ := o_of hd
  exact ⟨by unfold oS; rw [← h1], h2.symm⟩
theorem ordN_le {a b : Nat} (h : a ≤ b) : ordN a b ≤ 0 := by unfold ordN; split; decide; rw [if_neg (by omega)]; decide
end Go.Proofs.YthbabhbfpcfenabDoor
