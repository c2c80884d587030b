/- Plain mathematics of layer 4: what is rounded; what Norm leaves. -/
import Derived.Test.YthbabhbfpcfenabDoorBWalkA
namespace Go.Proofs.YthbabhbfpcfenabDoor
open Go.RowKit

/-- What Norm leaves: few digits, a point that is not far. -/
structure Nrm (v : Nat) : Prop where
  len : (oL v).length ≤ 2000
  pt : oP v ≤ 5000
  low : -7000 ≤ oP v - (oL v).length
theorem nrm_zero : Nrm 0 := ⟨by rw [o_zero.1]; simp, by rw [o_zero.2]; decide, by rw [o_zero.1, o_zero.2]; simp⟩
theorem nrm_norm (s : ByteArray) (p : Int) : Nrm (normV s p) := by
  unfold normV
  split
  · rename_i h
    obtain ⟨h1, h2, h3, h4⟩ := normE_zero h
    obtain ⟨f1, f2⟩ := form_o s.data.toList p h2 (by rw [list_len]; omega)
    have l1 := ltr_len s.data.toList
    have l2 := rtr_len (ltr s.data.toList)
    rw [list_len] at l1 f2
    rw [f1] at l2 f2
    refine ⟨by omega, ?_, ?_⟩
    · by_cases he : oL (V s.data.toList p) = []
      · rw [if_pos he] at f2; omega
      · rw [if_neg he] at f2; omega
    · by_cases he : oL (V s.data.toList p) = []
      · rw [if_pos he] at f2; rw [← f2, he]; simp
      · rw [if_neg he] at f2; omega
  · exact nrm_zero
theorem o_val (v : Nat) : V (oL v) (oP v) = v := (o_dec v).val
theorem o_low (v : Nat) : -10000 ≤ oP v - (oL v).length := (o_dec v).low
theorem o_dig (v : Nat) : allD (oS v).data.toList = true := (o_dec v).dig

/-- A decimal rounded to so many digits. -/
def rnd (v : Nat) (n : Int) : Nat := if n < 0 then 0 else if ((oL v).length : Int) ≤ n then v else near v (oP v - n + 10000).toNat
/-- The nearest number that has nothing below a place. -/
def nst (v : Nat) (p : Int) : Nat := if p ≤ oP v - (oL v).length ∨ oL v = [] then v else if oP v - p < 0 then 0 else near v (p + 10000).toNat
theorem nst_rnd (v : Nat) (n : Int) : nst v (oP v - n) = rnd v n := by
  unfold nst rnd
  by_cases h0 : oL v = []
  · have hv : v = 0 := oL_nil.1 h0
    rw [if_pos (.inr h0)]
    by_cases hn : n < 0
    · rw [if_pos hn, hv]
    · rw [if_neg hn, if_pos (by rw [h0]; simp; omega)]
  · have hl : 0 < (oL v).length := by
      rcases Nat.eq_zero_or_pos (oL v).length with h | h
      · exact absurd (List.eq_nil_of_length_eq_zero h) h0
      · exact h
    by_cases h1 : ((oL v).length : Int) ≤ n
    · rw [if_pos (.inl (by omega)), if_neg (by omega), if_pos h1]
    · rw [if_neg (by intro h; rcases h with h | h; omega; exact h0 h)]
      by_cases hn : n < 0
      · rw [if_pos (by omega), if_pos hn]
      · rw [if_neg (by omega), if_neg hn, if_neg h1]
/-- The document's Round. -/
def rndD (v : Nat) (n : Int) : Nat := if n < 0 then 0 else if 2000 < n then v else nst v (oP v - n)
theorem rndD_eq {v : Nat} (h : Nrm v) (n : Int) : rndD v n = rnd v n := by
  have hl := h.len
  unfold rndD
  by_cases h1 : n < 0
  · rw [if_pos h1]; unfold rnd; rw [if_pos h1]
  · rw [if_neg h1]
    by_cases h2 : 2000 < n
    · rw [if_pos h2]; unfold rnd; rw [if_neg h1, if_pos (by omega)]
    · rw [if_neg h2, nst_rnd]
/-- The program's Places, and the document's. -/
def plc (v : Nat) (k : Int) : Nat := rnd v (oP v + min (max k (-14000)) 14000)
def plcD (v : Nat) (k : Int) : Nat := if 20000 < k then v else if k < -20000 then 0 else nst v (-k)
theorem plcD_eq {v : Nat} (h : Nrm v) (k : Int) : plcD v k = plc v k := by
  have h1 := h.len
  have h2 := h.pt
  have h3 := h.low
  unfold plcD plc
  by_cases k1 : 14000 < k
  · have e : rnd v (oP v + min (max k (-14000)) 14000) = v := by
      unfold rnd; rw [if_neg (by omega), if_pos (by omega)]
    rw [e]
    by_cases k2 : 20000 < k
    · rw [if_pos k2]
    · rw [if_neg k2, if_neg (by omega)]; unfold nst; rw [if_pos (.inl (by omega))]
  · by_cases k2 : k < -14000
    · have e : rnd v (oP v + min (max k (-14000)) 14000) = 0 := by
        unfold rnd; rw [if_pos (by omega)]
      rw [e, if_neg (by omega)]
      by_cases k3 : k < -20000
      · rw [if_pos k3]
      · rw [if_neg k3]; unfold nst
        by_cases h0 : oL v = []
        · rw [if_pos (.inr h0)]; exact oL_nil.1 h0
        · rw [if_neg (by intro h; rcases h with h | h; omega; exact h0 h), if_pos (by omega)]
    · rw [if_neg (by omega), if_neg (by omega), show min (max k (-14000)) 14000 = k by omega, ← nst_rnd]
      congr 1; omega
/-- Exact: m times 2 to the power of e, in units. -/
def exU (m : Nat) (e : Int) : Nat := if 0 ≤ e then m * 2 ^ e.toNat * 10 ^ ((0 : Int) + 10000).toNat else m * 5 ^ (-e).toNat * 10 ^ (e + 10000).toNat
/-- Add's error, and its sum. -/
def aE (e : Int) (n : Nat) : Int := if e = 0 then (if 2000 < (oL n).length then 2 else 0) else e
def aV (e : Int) (n : Nat) : Nat := if aE e n = 0 then n else 0
end Go.Proofs.YthbabhbfpcfenabDoor
