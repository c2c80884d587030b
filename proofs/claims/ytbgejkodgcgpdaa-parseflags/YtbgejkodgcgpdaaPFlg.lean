/- Layer 9: formats with flags, a width and a precision; no program is met here. -/
import Derived.Test.YtbgejkodgcgpdaaPDig
namespace Go.Proofs.Ytbgejkodgcgpdaa
open Go.RowKit
set_option linter.unusedVariables false
set_option linter.unusedSimpArgs false

def fOne (on : Bool) (c : UInt8) : Bs := if on then [c] else []
def fTwo (on : Bool) (c : UInt8) : Bs := if on then [c, c] else []
/-- The flags, in order; and backwards, each twice. -/
def flF (p m s b z : Bool) : Bs := fOne p 43 ++ (fOne m 45 ++ (fOne s 35 ++ (fOne b 32 ++ fOne z 48)))
def flB (p m s b z : Bool) : Bs := fTwo z 48 ++ (fTwo b 32 ++ (fTwo s 35 ++ (fTwo m 45 ++ fTwo p 43)))
theorem flg_flF (p m s b z : Bool) {r : Bs} (h : 49 ≤ hd r ∧ hd r ≤ 57) : flg (flF p m s b z ++ r) fl0 = (⟨p, m, s, b, z⟩, r) := by
  cases p <;> cases m <;> cases s <;> cases b <;> cases z <;> exact flg_dg h
theorem flg_flB (p m s b z : Bool) {r : Bs} (h : 49 ≤ hd r ∧ hd r ≤ 57) : flg (flB p m s b z ++ r) fl0 = (⟨p, m, s, b, z⟩, r) := by
  cases p <;> cases m <;> cases s <;> cases b <;> cases z <;> exact flg_dg h
theorem flF_len (p m s b z : Bool) : (flF p m s b z).length ≤ 5 := by
  cases p <;> cases m <;> cases s <;> cases b <;> cases z <;> decide
theorem flB_len (p m s b z : Bool) : (flB p m s b z).length ≤ 10 := by
  cases p <;> cases m <;> cases s <;> cases b <;> cases z <;> decide
theorem hd_appD {D r : Bs} (h : D ≠ []) : hd (D ++ r) = hd D := by
  cases D with
  | nil => exact absurd rfl h
  | cons x t => rfl
/-- What is wanted of a number's digits, 0 too. -/
theorem dgt_any (n : Nat) (h : n ≤ 999999999) : (∀ x ∈ dgt n, dg x.toNat) ∧ valD (dgt n) = n ∧ (48 ≤ hd (dgt n) ∧ hd (dgt n) ≤ 57) ∧ (dgt n).length ≤ 9 ∧ dgt n ≠ [] := by
  rcases Nat.eq_zero_or_pos n with rfl | h0
  · refine ⟨?_, by decide, by decide, by decide, by decide⟩
    intro x hx
    have e : dgt 0 = [48] := by decide
    rw [e] at hx
    simp at hx
    subst hx
    exact ⟨by decide, by decide⟩
  · obtain ⟨a, b, c, d, e⟩ := dgt_ok n h0 h
    exact ⟨a, b, ⟨by omega, c.2⟩, d, e⟩
def rstF (i j : Nat) : Bs := dgt i ++ 46 :: (dgt j ++ [120])
theorem wN_dgt (n : Nat) (h : n ≤ 999999999) : wN (dgt n) = if 1000 < n then -1 else (n : Int) := by
  unfold wN
  rw [(dgt_any n h).2.1]
theorem mid_rst {i j : Nat} (hi : 0 < i ∧ i ≤ 999999999) (hj : j ≤ 999999999) : mid (rstF i j) = (⟨1, wN (dgt i), ix0⟩, ix0, ⟨1, wN (dgt j), ix0⟩, ix0, [120]) := by
  obtain ⟨a1, a2, a3, a4, a5⟩ := dgt_ok i hi.1 hi.2
  obtain ⟨b1, b2, b3, b4, b5⟩ := dgt_any j hj
  have h46 : ¬ dg (hd (46 :: (dgt j ++ [120]))) := by intro k; have : hd (46 :: (dgt j ++ [120])) = 46 := rfl; rw [this] at k; exact absurd k.1 (by omega)
  have h120 : ¬ dg (hd [120]) := by intro k; have : hd [120] = 120 := rfl; rw [this] at k; exact absurd k.2 (by omega)
  obtain ⟨d1, d2⟩ := dgs_app (D := dgt i) (r := 46 :: (dgt j ++ [120])) a1 h46
  obtain ⟨e1, e2⟩ := dgs_app (D := dgt j) (r := [120]) b1 h120
  have hw : wdh (rstF i j) = (⟨1, wN (dgt i), ix0⟩, ix0, 46 :: (dgt j ++ [120])) := by
    unfold rstF
    rw [wdh_dg (by rw [hd_appD a5]; exact a3), d1, d2]
  have hp : prc (dgt j ++ [120]) = (⟨1, wN (dgt j), ix0⟩, ix0, [120]) := by
    unfold prc
    rw [idx_no (by rw [hd_appD b5]; omega)]
    dsimp only
    rw [if_neg (by rw [hd_appD b5]; omega), e1, e2, if_neg b5]
    rfl
  unfold mid
  rw [hw]
  rw [if_pos (show hd (46 :: (dgt j ++ [120])) = 46 from rfl)]
  dsimp only [List.tail_cons]
  rw [hp]
  rfl
theorem prs_flags {F : Bs} {f : Fl} {i j : Nat} (hi : 0 < i ∧ i ≤ 999999999) (hj : j ≤ 999999999) (hF : flg (F ++ rstF i j) fl0 = (f, rstF i j)) :
    prs (37 :: (F ++ rstF i j)) = [⟨1, 37 :: (F ++ rstF i j), f, -1, 120, ⟨1, wN (dgt i), ix0⟩, ⟨1, wN (dgt j), ix0⟩, ix0⟩] := by
  have hm := mid_rst hi hj
  have ha : ahd (F ++ rstF i j) = [120] := by
    unfold ahd
    rw [hF]
    dsimp only
    rw [hm]
    rfl
  have e : prest (37 :: (F ++ rstF i j)) = [] := by
    unfold prest
    rw [if_pos (show hd (37 :: (F ++ rstF i j)) = 37 from rfl)]
    show drest (F ++ rstF i j) = _
    unfold drest
    rw [ha]
    rfl
  rw [prs_step (by simp), e, prs_nil]
  unfold pce
  rw [if_pos (show hd (37 :: (F ++ rstF i j)) = 37 from rfl)]
  show [dir (F ++ rstF i j) _] = _
  unfold dir
  rw [ha, hF]
  dsimp only
  rw [hm]
  simp only [List.length_nil, Nat.sub_zero, List.take_length]
  rfl
end Go.Proofs.Ytbgejkodgcgpdaa
