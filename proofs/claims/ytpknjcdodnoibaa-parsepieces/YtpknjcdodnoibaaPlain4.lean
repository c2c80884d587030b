/- More plain mathematics: counting and cutting. -/
import Derived.Test.YtpknjcdodnoibaaPlain3
namespace Go.Proofs.Ytpknjcdodnoibaa
open Go.RowKit

theorem tail_list (s : ByteArray) (a : Nat) : (s.extract a s.size).data.toList = s.data.toList.drop a := by
  rw [ByteArray.data_extract, Array.toList_extract]
  apply List.take_of_length_le
  rw [List.length_drop, ← Lib.size_eq s]
  exact Nat.le_refl _
theorem tail_size (s : ByteArray) (a : Nat) : (s.extract a s.size).size = s.size - a := by
  rw [ByteArray.size_extract]; omega
theorem dec_shift (s : ByteArray) (a p : Nat) : Utf8.decode (s.extract a s.size) p = Utf8.decode s (a + p) := by
  rw [← Lib.decodeL_drop, ← Lib.decodeL_drop, tail_list, List.drop_drop]
theorem cntGo_shift (s : ByteArray) (a : Nat) : ∀ (f p : Nat), cntGo (s.extract a s.size) f p = cntGo s f (a + p)
  | 0, _ => rfl
  | f + 1, p => by
    have e := tail_size s a
    by_cases h : p < s.size - a
    · simp only [cntGo, e, if_pos h, if_pos (show a + p < s.size by omega)]
      rw [cntGo_shift s a f, dec_shift, Nat.add_assoc]
    · simp only [cntGo, e, if_neg h, if_neg (show ¬ a + p < s.size by omega)]
theorem cntR_tail (s : ByteArray) (a : Nat) : cntR (s.extract a s.size) = cntFrom s a := by
  unfold cntR cntFrom
  rw [cntGo_shift, tail_size]; rfl
theorem cntR_step (t : ByteArray) (h : 0 < t.size) : cntR t = 1 + cntR (t.extract (dec t).2 t.size) := by
  rw [cntR_tail, dec_ne t h]
  show cntFrom t 0 = _
  rw [cntFrom_step t 0 h, Nat.zero_add]
theorem cntR_nil (t : ByteArray) (h : t.size = 0) : cntR t = 0 := cntFrom_end t 0 (by omega)
theorem dec_wid (t : ByteArray) (h : 0 < t.size) : 1 ≤ (dec t).2 ∧ (dec t).2 ≤ t.size := by
  rw [dec_ne t h]
  have a := wid_pos t 0
  have b := wid_le t 0 h
  omega
theorem dec_tail (s : ByteArray) (a : Nat) (h : a < s.size) : dec (s.extract a s.size) = Utf8.decode s a := by
  rw [dec_ne _ (by rw [tail_size]; omega), dec_shift]; rfl

/-- Where so many runes end, from a place on. -/
def posGo (s : ByteArray) : Nat → Nat → Nat
  | 0, p => p
  | k + 1, p => if p < s.size then posGo s k (p + (Utf8.decode s p).2) else p
theorem posGo_end (s : ByteArray) (k p : Nat) (h : ¬ p < s.size) : posGo s k p = p := by
  cases k with
  | zero => rfl
  | succ k => simp [posGo, h]
theorem posGo_step (s : ByteArray) (k p : Nat) (h : p < s.size) : posGo s (k + 1) p = posGo s k (p + (Utf8.decode s p).2) := by
  simp only [posGo, if_pos h]
theorem posGo_le (s : ByteArray) : ∀ (k p : Nat), p ≤ s.size → posGo s k p ≤ s.size
  | 0, p, h => h
  | k + 1, p, h => by
    by_cases hp : p < s.size
    · rw [posGo_step s k p hp]; exact posGo_le s k _ (wid_le s p hp)
    · rw [posGo_end s _ p hp]; exact h
/-- The first runes of a text. -/
def cutS (s : ByteArray) (n : Int) : ByteArray := if n < 0 then s else s.extract 0 (posGo s n.toNat 0)
theorem extract_all (s : ByteArray) : s.extract 0 s.size = s := by
  apply ByteArray.ext
  apply Array.ext'
  rw [ext_list, Lib.size_eq s, List.take_length]
end Go.Proofs.Ytpknjcdodnoibaa
