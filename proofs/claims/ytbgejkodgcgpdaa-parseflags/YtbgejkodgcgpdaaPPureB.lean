/- Layer 9: pieces of formats of a known form; no program is met here. -/
import Derived.Test.YtbgejkodgcgpdaaPPure
namespace Go.Proofs.Ytbgejkodgcgpdaa
open Go.RowKit
set_option linter.unusedVariables false
set_option linter.unusedSimpArgs false

theorem idx_no {l : Bs} (h : hd l ≠ 91) : idx l = (ix0, l) := if_neg h
theorem nxt_le4 (l : Bs) : (nxt l).2 ≤ 4 := by
  cases l with
  | nil => simp [nxt]
  | cons x t =>
    show (Lib.decodeL (x :: t)).2 ≤ _
    rw [Lib.decodeL_N]
    rcases Lib.decodeN_shape (x :: t).length ((x :: t).getD 0 0).toNat ((x :: t).getD 1 0).toNat ((x :: t).getD 2 0).toNat ((x :: t).getD 3 0).toNat with ⟨c, e⟩ | ⟨c1, c2, c3, cv, e⟩ | ⟨c1, c2, c3, c4, cv, cs, e⟩ | ⟨c1, c2, c3, c4, c5, cv, cw, e⟩ | e
    all_goals (rw [e]; dsimp only; omega)
/-- What stands at the head is a verb. -/
def vb (l : Bs) : Prop := hd l ≠ 43 ∧ hd l ≠ 45 ∧ hd l ≠ 35 ∧ hd l ≠ 32 ∧ hd l ≠ 42 ∧ hd l ≠ 46 ∧ hd l ≠ 91 ∧ ¬ dg (hd l)
theorem flg_vb {l : Bs} {f : Fl} (h : vb l) : flg l f = (f, l) := by
  obtain ⟨h1, h2, h3, h4, -, -, -, h8⟩ := h
  have h48 : hd l ≠ 48 := fun e => h8 (by rw [e]; exact ⟨by omega, by omega⟩)
  cases l with
  | nil => rfl
  | cons x t =>
    unfold hd at h1 h2 h3 h4 h48
    dsimp only at h1 h2 h3 h4 h48
    unfold flg
    rw [if_neg h1, if_neg h2, if_neg h3, if_neg h4, if_neg h48]
theorem wdh_vb {l : Bs} (h : vb l) : wdh l = (nb0, ix0, l) := by
  obtain ⟨h1, h2, h3, h4, h5, h6, h7, h8⟩ := h
  unfold wdh
  rw [idx_no h7]
  rw [if_neg h5, if_neg (fun k => h8 ⟨Nat.le_trans (by omega) k.1, k.2⟩)]
theorem mid_vb {l : Bs} (h : vb l) : mid l = (nb0, ix0, nb0, ix0, l) := by
  unfold mid
  rw [wdh_vb h]
  rw [if_neg h.2.2.2.2.2.1]
/-- The width of digits. -/
theorem wdh_dg {l : Bs} (h : 49 ≤ hd l ∧ hd l ≤ 57) : wdh l = (⟨1, wN (dgs l), ix0⟩, ix0, aft l) := by
  unfold wdh
  rw [idx_no (by omega)]
  rw [if_neg (by dsimp only; omega), if_pos h]
  rfl
theorem flg_dg {l : Bs} {f : Fl} (h : 49 ≤ hd l ∧ hd l ≤ 57) : flg l f = (f, l) := by
  cases l with
  | nil => rfl
  | cons x t =>
    have h' : 49 ≤ x.toNat ∧ x.toNat ≤ 57 := h
    unfold flg
    rw [if_neg (by omega), if_neg (by omega), if_neg (by omega), if_neg (by omega), if_neg (by omega)]
theorem ahd_vb {l : Bs} (h : vb l) : ahd l = l := by
  unfold ahd
  rw [flg_vb h]
  dsimp only
  rw [mid_vb h]
  dsimp only
  rw [idx_no h.2.2.2.2.2.2.1]
theorem dir_vb {l t : Bs} (h : vb l) : dir l t = ⟨if (nxt l).2 = 0 then 2 else 1, t, fl0, -1, (nxt l).1, nb0, nb0, ix0⟩ := by
  unfold dir
  rw [ahd_vb h, flg_vb h]
  dsimp only
  rw [mid_vb h]
  dsimp only
  rw [idx_no h.2.2.2.2.2.2.1]
  rfl
/-- A format of a % and a verb. -/
theorem prs_vb {l : Bs} (h : vb l) (hne : l ≠ []) : prs (37 :: l) = ⟨1, 37 :: l.take (nxt l).2, fl0, -1, (nxt l).1, nb0, nb0, ix0⟩ :: prs (l.drop (nxt l).2) := by
  have h0 := nxt_pos hne
  have hle := nxt_le l
  have e : prest (37 :: l) = l.drop (nxt l).2 := by
    unfold prest
    rw [if_pos (show hd (37 :: l) = 37 from rfl)]
    show drest l = _
    unfold drest
    rw [ahd_vb h]
  rw [prs_step (by simp), e]
  congr 1
  unfold pce
  rw [if_pos (show hd (37 :: l) = 37 from rfl)]
  show dir l _ = _
  rw [dir_vb h, if_neg (by omega), List.length_cons, List.length_drop, show l.length + 1 - (l.length - (nxt l).2) = (nxt l).2 + 1 by omega, List.take_succ_cons]
/-- With a digit ahead of the verb. -/
theorem prs_vb7 {l : Bs} (h : vb l) (hne : l ≠ []) : prs (37 :: 55 :: l) = ⟨1, 37 :: 55 :: l.take (nxt l).2, fl0, -1, (nxt l).1, ⟨1, 7, ix0⟩, nb0, ix0⟩ :: prs (l.drop (nxt l).2) := by
  have h0 := nxt_pos hne
  have hle := nxt_le l
  have h55 : 49 ≤ hd (55 :: l) ∧ hd (55 :: l) ≤ 57 := ⟨(by decide : 49 ≤ (55 : UInt8).toNat), (by decide : (55 : UInt8).toNat ≤ 57)⟩
  obtain ⟨d1, d2⟩ := dgs_yes (x := 55) (t := l) ⟨by decide, by decide⟩
  obtain ⟨d3, d4⟩ := dgs_no h.2.2.2.2.2.2.2
  rw [d3] at d1
  rw [d4] at d2
  have hm : mid (55 :: l) = (⟨1, 7, ix0⟩, ix0, nb0, ix0, l) := by
    unfold mid
    rw [wdh_dg h55, d1, d2]
    rw [if_neg h.2.2.2.2.2.1]
    rfl
  have ha : ahd (55 :: l) = l := by
    unfold ahd
    rw [flg_dg h55]
    dsimp only
    rw [hm]
    dsimp only
    rw [idx_no h.2.2.2.2.2.2.1]
  have e : prest (37 :: 55 :: l) = l.drop (nxt l).2 := by
    unfold prest
    rw [if_pos (show hd (37 :: 55 :: l) = 37 from rfl)]
    show drest (55 :: l) = _
    unfold drest
    rw [ha]
  rw [prs_step (by simp), e]
  congr 1
  unfold pce
  rw [if_pos (show hd (37 :: 55 :: l) = 37 from rfl)]
  show dir (55 :: l) _ = _
  unfold dir
  rw [ha, flg_dg h55]
  dsimp only
  rw [hm]
  dsimp only
  rw [idx_no h.2.2.2.2.2.2.1, if_neg (by omega), List.length_cons, List.length_cons, List.length_drop, show l.length + 1 + 1 - (l.length - (nxt l).2) = (nxt l).2 + 2 by omega, List.take_succ_cons, List.take_succ_cons]
  rfl
end Go.Proofs.Ytbgejkodgcgpdaa
