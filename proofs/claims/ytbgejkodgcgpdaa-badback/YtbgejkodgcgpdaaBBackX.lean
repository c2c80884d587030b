/- Package bad: what is read of the text of arguments that are too many. -/
import Derived.Test.YtbgejkodgcgpdaaBBackM
namespace Go.Proofs.Ytbgejkodgcgpdaa
open Go.RowKit
set_option linter.unusedVariables false
set_option linter.unusedSimpArgs false

theorem woK_extra (r : List UInt8) : woK (mk ([69, 88, 84, 82, 65, 32] ++ r)) = 10 := by
  unfold woK
  rw [if_neg (mk_ne (by simp)), if_neg (mk_ne (by simp)), if_neg (mk_ne (by simp)), if_neg (mk_ne (by simp)), if_pos]
  rw [mk_list]
  simp [Lib.hasPrefix]
theorem paK_extra (r : List UInt8) : paK (mk ([] ++ [40] ++ ([69, 88, 84, 82, 65, 32] ++ r))) = (10, 0, mk ([69, 88, 84, 82, 65, 32] ++ r)) := by
  obtain ⟨h1, h2⟩ := opK_of (s := mk ([] ++ [40] ++ ([69, 88, 84, 82, 65, 32] ++ r))) (r := [69, 88, 84, 82, 65, 32] ++ r) rfl
  unfold paK
  rw [if_pos, h2, woK_extra]
  refine ⟨h1, ?_⟩
  rw [h2]
  show Lib.hasPrefix (mk ([69, 88, 84, 82, 65, 32] ++ r)).data.toList [40] = false
  rfl
theorem insL_one (a b : ByteArray) : (insL [a] [b] 1).flatMap (·.data.toList) = [69, 88, 84, 82, 65, 32] ++ (a.data.toList ++ 61 :: b.data.toList) := by
  simp [insL]
/-- Extra's text of one argument is read as what it is. -/
theorem reK_extra (a b : ByteArray) : reK (bT [] ((insL [a] [b] 1).flatMap (·.data.toList))) = (10, 0, mk ([69, 88, 84, 82, 65, 32] ++ (a.data.toList ++ 61 :: b.data.toList))) := by
  rw [insL_one]
  exact reK_bT _ _ _ _ (paK_extra _) (by decide)
end Go.Proofs.Ytbgejkodgcgpdaa
