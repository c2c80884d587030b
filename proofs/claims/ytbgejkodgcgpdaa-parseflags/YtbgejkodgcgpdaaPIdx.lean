/- Layer 9: formats with indices; no program is met here. -/
import Derived.Test.YtbgejkodgcgpdaaPDig
namespace Go.Proofs.Ytbgejkodgcgpdaa
open Go.RowKit
set_option linter.unusedVariables false
set_option linter.unusedSimpArgs false

theorem one_dir {l : Bs} (h : ahd l = [100]) : prs (37 :: l) = [dir l (37 :: l)] := by
  have e : prest (37 :: l) = [] := by
    unfold prest
    rw [if_pos (show hd (37 :: l) = 37 from rfl)]
    show drest l = _
    unfold drest
    rw [h]
    rfl
  rw [prs_step (by simp), e, prs_nil]
  unfold pce
  rw [if_pos (show hd (37 :: l) = 37 from rfl)]
  simp
theorem dir_of {l t : Bs} {a b : Nb} {x y z : Ix} {r r2 : Bs} (hf : flg l fl0 = (fl0, l)) (hm : mid l = (a, x, b, y, r)) (hi : idx r = (z, [100])) : ahd l = [100] ∧ dir l t = ⟨1, t, fl0, -1, 100, a, b, sgl x y z⟩ := by
  have ha : ahd l = [100] := by
    unfold ahd
    rw [hf]
    dsimp only
    rw [hm]
    dsimp only
    rw [hi]
  refine ⟨ha, ?_⟩
  unfold dir
  rw [ha, hf]
  dsimp only
  rw [hm]
  dsimp only
  rw [hi]
  rfl
theorem flg_lit {x : UInt8} {t : Bs} (h : x.toNat ≠ 43 ∧ x.toNat ≠ 45 ∧ x.toNat ≠ 35 ∧ x.toNat ≠ 32 ∧ x.toNat ≠ 48) : flg (x :: t) fl0 = (fl0, x :: t) := by
  unfold flg
  rw [if_neg h.1, if_neg h.2.1, if_neg h.2.2.1, if_neg h.2.2.2.1, if_neg h.2.2.2.2]
theorem flg_ix (n : Nat) (r : Bs) : flg (ixB n ++ r) fl0 = (fl0, ixB n ++ r) := flg_lit (x := 91) (by decide)
theorem wdh_star {i : Nat} (hi : 0 < i ∧ i ≤ 999999999) (r : Bs) : wdh (ixB i ++ 42 :: r) = (⟨2, 0, ⟨1, i⟩⟩, ix0, r) := by
  unfold wdh
  rw [idx_ixB i hi.1 hi.2]
  rfl
theorem prc_star {i : Nat} (hi : 0 < i ∧ i ≤ 999999999) (r : Bs) : prc (ixB i ++ 42 :: r) = (⟨2, 0, ⟨1, i⟩⟩, ix0, r) := by
  unfold prc
  rw [idx_ixB i hi.1 hi.2]
  rfl
theorem wdh_ix {i : Nat} (hi : 0 < i ∧ i ≤ 999999999) (r : Bs) (h1 : hd r ≠ 42) (h2 : ¬ (49 ≤ hd r ∧ hd r ≤ 57)) : wdh (ixB i ++ r) = (nb0, ⟨1, i⟩, r) := by
  unfold wdh
  rw [idx_ixB i hi.1 hi.2]
  dsimp only
  rw [if_neg h1, if_neg h2]
theorem f1 {i : Nat} (hi : 0 < i ∧ i ≤ 999999999) {j : Nat} (hj : 0 < j ∧ j ≤ 999999999) {k : Nat} (hk : 0 < k ∧ k ≤ 999999999) : prs (37 :: (ixB i ++ 42 :: 46 :: (ixB j ++ 42 :: (ixB k ++ [100])))) = [⟨1, 37 :: (ixB i ++ 42 :: 46 :: (ixB j ++ 42 :: (ixB k ++ [100]))), fl0, -1, 100, ⟨2, 0, ⟨1, i⟩⟩, ⟨2, 0, ⟨1, j⟩⟩, ⟨1, k⟩⟩] := by
  have hm : mid (ixB i ++ 42 :: 46 :: (ixB j ++ 42 :: (ixB k ++ [100]))) = (⟨2, 0, ⟨1, i⟩⟩, ix0, ⟨2, 0, ⟨1, j⟩⟩, ix0, ixB k ++ [100]) := by
    unfold mid
    rw [wdh_star hi]
    rw [if_pos (show hd (46 :: (ixB j ++ 42 :: (ixB k ++ [100]))) = 46 from rfl)]
    dsimp only [List.tail_cons]
    rw [prc_star hj]
    rfl
  obtain ⟨a, b⟩ := dir_of (t := 37 :: (ixB i ++ 42 :: 46 :: (ixB j ++ 42 :: (ixB k ++ [100])))) (r2 := []) (flg_ix i _) hm (idx_ixB k hk.1 hk.2 [100])
  rw [one_dir a, b]
  rfl
theorem f2 {i : Nat} (hi : 0 < i ∧ i ≤ 999999999) : prs (37 :: (ixB i ++ [53, 100])) = [⟨1, 37 :: (ixB i ++ [53, 100]), fl0, -1, 100, ⟨1, 5, ix0⟩, nb0, ix2⟩] := by
  have hm : mid (ixB i ++ [53, 100]) = (⟨1, 5, ix0⟩, ix2, nb0, ix0, [100]) := by
    unfold mid wdh
    rw [idx_ixB i hi.1 hi.2]
    rfl
  obtain ⟨a, b⟩ := dir_of (t := 37 :: (ixB i ++ [53, 100])) (r2 := []) (flg_ix i _) hm (show idx [100] = (ix0, [100]) from rfl)
  rw [one_dir a, b]
  rfl
theorem f3 {i : Nat} (hi : 0 < i ∧ i ≤ 999999999) : prs (37 :: (ixB i ++ [46, 51, 100])) = [⟨1, 37 :: (ixB i ++ [46, 51, 100]), fl0, -1, 100, nb0, ⟨1, 3, ix0⟩, ix2⟩] := by
  have hm : mid (ixB i ++ [46, 51, 100]) = (nb0, ix2, ⟨1, 3, ix0⟩, ix0, [100]) := by
    unfold mid
    rw [wdh_ix hi [46, 51, 100] (by decide) (by decide)]
    rfl
  obtain ⟨a, b⟩ := dir_of (t := 37 :: (ixB i ++ [46, 51, 100])) (r2 := []) (flg_ix i _) hm (show idx [100] = (ix0, [100]) from rfl)
  rw [one_dir a, b]
  rfl
theorem f4 {i : Nat} (hi : 0 < i ∧ i ≤ 999999999) : prs (37 :: 46 :: (ixB i ++ [51, 100])) = [⟨1, 37 :: 46 :: (ixB i ++ [51, 100]), fl0, -1, 100, nb0, ⟨1, 3, ix0⟩, ix2⟩] := by
  have hp : prc (ixB i ++ [51, 100]) = (⟨1, 3, ix0⟩, ix2, [100]) := by
    unfold prc
    rw [idx_ixB i hi.1 hi.2]
    rfl
  have hm : mid (46 :: (ixB i ++ [51, 100])) = (nb0, ix0, ⟨1, 3, ix0⟩, ix2, [100]) := by
    have hw : wdh (46 :: (ixB i ++ [51, 100])) = (nb0, ix0, 46 :: (ixB i ++ [51, 100])) := rfl
    unfold mid
    rw [hw]
    rw [if_pos (show hd (46 :: (ixB i ++ [51, 100])) = 46 from rfl)]
    dsimp only [List.tail_cons]
    rw [hp]
    rfl
  obtain ⟨a, b⟩ := dir_of (t := 37 :: 46 :: (ixB i ++ [51, 100])) (r2 := []) (flg_lit (x := 46) (by decide)) hm (show idx [100] = (ix0, [100]) from rfl)
  rw [one_dir a, b]
  rfl
theorem f5 {i : Nat} (hi : 0 < i ∧ i ≤ 999999999) {j : Nat} (hj : 0 < j ∧ j ≤ 999999999) : prs (37 :: (ixB i ++ (ixB j ++ [100]))) = [⟨1, 37 :: (ixB i ++ (ixB j ++ [100])), fl0, -1, 100, nb0, nb0, ix2⟩] := by
  have hm : mid (ixB i ++ (ixB j ++ [100])) = (nb0, ⟨1, i⟩, nb0, ix0, ixB j ++ [100]) := by
    have h91 : hd (ixB j ++ [100]) = 91 := rfl
    unfold mid
    rw [wdh_ix hi (ixB j ++ [100]) (by omega) (by omega)]
    rw [if_neg (by dsimp only; omega)]
  obtain ⟨a, b⟩ := dir_of (t := 37 :: (ixB i ++ (ixB j ++ [100]))) (r2 := []) (flg_ix i _) hm (idx_ixB j hj.1 hj.2 [100])
  rw [one_dir a, b]
  rfl
theorem f6 : prs [37, 91, 48, 93, 100] = [⟨1, [37, 91, 48, 93, 100], fl0, -1, 100, nb0, nb0, ix2⟩] := rfl
theorem f7 {k : Nat} (hk : 0 < k ∧ k ≤ 999999999) : prs (37 :: 42 :: 46 :: (ixB k ++ [42, 100])) = [⟨1, 37 :: 42 :: 46 :: (ixB k ++ [42, 100]), fl0, -1, 100, ⟨2, 0, ix0⟩, ⟨2, 0, ⟨1, k⟩⟩, ix0⟩] := by
  have hm : mid (42 :: 46 :: (ixB k ++ [42, 100])) = (⟨2, 0, ix0⟩, ix0, ⟨2, 0, ⟨1, k⟩⟩, ix0, [100]) := by
    have hw : wdh (42 :: 46 :: (ixB k ++ [42, 100])) = (⟨2, 0, ix0⟩, ix0, 46 :: (ixB k ++ [42, 100])) := rfl
    unfold mid
    rw [hw]
    rw [if_pos (show hd (46 :: (ixB k ++ [42, 100])) = 46 from rfl)]
    dsimp only [List.tail_cons]
    rw [prc_star hk [100]]
    rfl
  obtain ⟨a, b⟩ := dir_of (t := 37 :: 42 :: 46 :: (ixB k ++ [42, 100])) (r2 := []) (flg_lit (x := 42) (by decide)) hm (show idx [100] = (ix0, [100]) from rfl)
  rw [one_dir a, b]
  rfl
end Go.Proofs.Ytbgejkodgcgpdaa
