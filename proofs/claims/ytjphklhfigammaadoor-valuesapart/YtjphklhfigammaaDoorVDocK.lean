/- A key's rank, by its descriptor; the document's Cmp of two keys in form is the ranks'. -/
import Derived.Test.YtjphklhfigammaaDoorVKey
import Derived.Test.YtjphklhfigammaaDoorVDocC
import Derived.Test.YtjphklhfigammaaDoorVOrd
import Derived.Test.YtjphklhfigammaaDoorVDocI
namespace Go.Proofs.YtjphklhfigammaaDoor
open Go.RowKit
set_option linter.unusedVariables false
set_option linter.unusedSimpArgs false

theorem cmpI_same (x : Int) : cmpI x x = 0 := by simp [cmpI]
theorem cmpI_add (x y c : Int) : cmpI (x + c) (y + c) = cmpI x y := by
  unfold cmpI
  (repeat' split) <;> omega
theorem cmpS_same (a : ByteArray) : cmpS a a = 0 := by
  have h : ∀ l : List UInt8, Op.bytesLess l l = false := by
    intro l
    rw [bytesLess_eq]
    simp [List.lt_irrefl]
  simp [cmpS, h]
def rkF (d : D) : Rk := if d.kind = 1 then ⟨d.kind, d.bits % 2, ⟨#[]⟩, d.ty⟩ else if 2 ≤ d.kind ∧ d.kind ≤ 6 then ⟨d.kind, sgN d.kind d.bits + 9223372036854775808, ⟨#[]⟩, d.ty⟩ else if 7 ≤ d.kind ∧ d.kind ≤ 11 then ⟨d.kind, unN d.kind d.bits, ⟨#[]⟩, d.ty⟩ else ⟨d.kind, 0, d.text, d.ty⟩
theorem rkF_k (d : D) : (rkF d).k = d.kind := by
  unfold rkF
  (repeat' split) <;> rfl
theorem sgN_fits (k b : Int) : -9223372036854775808 ≤ sgN k b ∧ sgN k b ≤ 9223372036854775807 := by
  unfold sgN swr
  (repeat' split) <;> omega
theorem rkF_ok (d : D) (hk : keyB d.kind = true) : RkD (mdV d) (rkF d) := by
  have h : d.kind = 1 ∨ (2 ≤ d.kind ∧ d.kind ≤ 6) ∨ (7 ≤ d.kind ∧ d.kind ≤ 11) ∨ d.kind = 16 := by simp [keyB] at hk; omega
  unfold mdV rkF
  rcases h with h | h | h | h
  · rw [if_pos h, if_pos h]
    have := rankofD_truth d.kind d.hook d.ty (decide (d.bits % 2 = 1))
    have e : (if decide (d.bits % 2 = 1) = true then (1 : Int) else 0) = d.bits % 2 := by
      by_cases hb : d.bits % 2 = 1 <;> simp [hb] <;> omega
    rw [e] at this
    exact this
  · rw [if_neg (by omega), if_pos h, if_neg (by omega), if_pos h]
    exact rankofD_signed d.kind d.hook d.ty _ (sgN_fits _ _)
  · rw [if_neg (by omega), if_neg (by omega), if_pos h, if_neg (by omega), if_neg (by omega), if_pos h]
    exact rankofD_unsigned d.kind d.hook d.ty _
  · rw [if_neg (by omega), if_neg (by omega), if_neg (by omega), if_neg (by omega), if_neg (by omega), if_neg (by omega), if_neg (by omega), if_pos h, if_neg (by omega), if_neg (by omega), if_neg (by omega)]
    exact rankofD_text d.kind d.hook d.ty _
theorem inFlat_kind (d : D) : (inFlat d).kind = d.kind := by
  unfold inFlat
  split
  · rename_i h; exact h.symm
  · rfl
theorem rkF_cmp (a b : D) (ha : keyB a.kind = true) (hb : keyB b.kind = true) : dcmp (inFlat a) (inFlat b) = cmpR (rkF a) (rkF b) := by
  unfold dcmp cmpR or4
  rw [inFlat_kind, inFlat_kind, rkF_k, rkF_k]
  by_cases hk : a.kind = b.kind
  · rw [if_neg (by simpa using hk), if_pos ha, hk, cmpI_same]
    have h : b.kind = 1 ∨ (2 ≤ b.kind ∧ b.kind ≤ 6) ∨ (7 ≤ b.kind ∧ b.kind ≤ 11) ∨ b.kind = 16 := by simp [keyB] at hb; omega
    have za : a.kind ≠ 0 := by omega
    have zb : b.kind ≠ 0 := by omega
    simp only [ownC, inFlat, if_neg za, if_neg zb, rkF, hk]
    rcases h with h | h | h | h
    · simp [h, inBits, cmpS_same]
    · have n1 : ¬ b.kind = 1 := by omega
      have n2 : ¬ (7 ≤ b.kind ∧ b.kind ≤ 11) := by omega
      have q : ∀ x, wrap64 (inBits b.kind x) = sgN b.kind x := by
        intro x
        have h1 := sgN_fits b.kind x
        have h2 : sgnB b.kind = true := by simp [sgnB]; omega
        unfold inBits numF
        rw [if_neg n1, if_pos (by omega), if_pos h2]
        unfold wrap64
        omega
      simp only [n1, n2, h, q, if_true, if_false, or_self, and_self, cmpI_add, cmpS_same]
      by_cases hz : cmpI (sgN b.kind a.bits) (sgN b.kind b.bits) = 0 <;> simp [hz]
    · have n1 : ¬ b.kind = 1 := by omega
      have n2 : ¬ (2 ≤ b.kind ∧ b.kind ≤ 6) := by omega
      have q : ∀ x, inBits b.kind x = unN b.kind x := by
        intro x
        have h2 : sgnB b.kind = false := by simp [sgnB]; omega
        unfold inBits numF
        rw [if_neg n1, if_pos (by omega), h2]
        simp
      simp only [n1, n2, h, q, if_true, if_false, or_true, and_self, cmpS_same]
      by_cases hz : cmpI (unN b.kind a.bits) (unN b.kind b.bits) = 0 <;> simp [hz]
    · simp [h, inText, cmpI_same]
  · rw [if_pos hk]
    have h1 : cmpI a.kind b.kind ≠ 0 := by unfold cmpI; (repeat' split) <;> omega
    rw [if_pos h1]
    unfold cmpI
    (repeat' split) <;> omega
end Go.Proofs.YtjphklhfigammaaDoor
