/- Package bad: which text it is that has this inside. -/
import Derived.Test.YtbgejkodgcgpdaaBBack
namespace Go.Proofs.Ytbgejkodgcgpdaa
open Go.RowKit
set_option linter.unusedVariables false
set_option linter.unusedSimpArgs false

theorem index_app (sub b : List UInt8) : ∀ a : List UInt8, 0 ≤ Lib.index (a ++ (sub ++ b)) sub
  | [] => by
    have hp : sub.isPrefixOf (sub ++ b) = true := by rw [List.isPrefixOf_iff_prefix]; exact ⟨b, rfl⟩
    rw [List.nil_append]
    generalize sub ++ b = l at *
    cases l with
    | nil =>
      have : sub = [] := by simpa using hp
      subst this
      simp [Lib.index]
    | cons x t => unfold Lib.index; rw [if_pos hp]; omega
  | x :: a => by
    have ih := index_app sub b a
    rw [List.cons_append]
    unfold Lib.index
    split
    · omega
    · split
      · rename_i h
        have := eq_of_beq h
        omega
      · omega
theorem indexByte_app (c : UInt8) (b : List UInt8) : ∀ a : List UInt8, 0 ≤ Lib.indexByte (a ++ c :: b) c
  | [] => by simp [Lib.indexByte]
  | x :: a => by
    have ih := indexByte_app c b a
    rw [List.cons_append]
    unfold Lib.indexByte
    split
    · omega
    · split
      · rename_i h
        have := eq_of_beq h
        omega
      · omega
theorem mk_ne {l r : List UInt8} (h : l ≠ r) : ¬ mk l = ⟨r.toArray⟩ := fun e => h (by
  have := congrArg (fun x => x.data.toList) e
  simpa [mk_list] using this)
theorem wiK_nil : wiK (mk [60, 110, 105, 108, 62]) = 2 := by unfold wiK; rw [if_pos (by rfl)]
theorem wiK_missing : wiK (mk [77, 73, 83, 83, 73, 78, 71]) = 3 := by unfold wiK; rw [if_neg (by decide), if_pos (by rfl)]
theorem wiK_index : wiK (mk [66, 65, 68, 73, 78, 68, 69, 88]) = 4 := by unfold wiK; rw [if_neg (by decide), if_neg (by decide), if_pos (by rfl)]
theorem wiK_panic (a b : List UInt8) : wiK (mk ([80, 65, 78, 73, 67, 61] ++ a ++ [32, 109, 101, 116, 104, 111, 100, 58, 32] ++ b)) = 5 := by
  unfold wiK
  rw [if_neg (mk_ne (by simp)), if_neg (mk_ne (by simp)), if_neg (mk_ne (by simp)), if_pos]
  rw [mk_list]
  refine ⟨?_, ?_⟩
  · simp [Lib.hasPrefix]
  · unfold Lib.contains
    rw [decide_eq_true_eq, List.append_assoc]
    exact index_app _ _ _
theorem no_eq (a b r : List UInt8) (h : a ++ 61 :: b = r) : (61 : UInt8) ∈ r := by rw [← h]; simp
theorem wiK_verb (a b : List UInt8) (h : ¬ [80, 65, 78, 73, 67].isPrefixOf a = true) : wiK (mk (a ++ 61 :: b)) = 1 := by
  unfold wiK
  rw [if_neg (mk_ne (fun e => absurd (no_eq _ _ _ e) (by decide))), if_neg (mk_ne (fun e => absurd (no_eq _ _ _ e) (by decide))), if_neg (mk_ne (fun e => absurd (no_eq _ _ _ e) (by decide))), if_neg, if_pos]
  · rw [mk_list]; exact indexByte_app _ _ _
  · rintro ⟨hp, -⟩
    rw [mk_list] at hp
    apply h
    match a with
    | [] => simp [Lib.hasPrefix] at hp
    | [_] => simp [Lib.hasPrefix] at hp
    | [_, _] => simp [Lib.hasPrefix] at hp
    | [_, _, _] => simp [Lib.hasPrefix] at hp
    | [_, _, _, _] => simp [Lib.hasPrefix] at hp
    | x0 :: x1 :: x2 :: x3 :: x4 :: t =>
      simp [Lib.hasPrefix] at hp ⊢
      exact ⟨hp.1, hp.2.1, hp.2.2.1, hp.2.2.2.1, hp.2.2.2.2.1⟩
end Go.Proofs.Ytbgejkodgcgpdaa
