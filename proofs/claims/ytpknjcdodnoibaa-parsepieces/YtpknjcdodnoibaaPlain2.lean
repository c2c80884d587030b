/- More plain mathematics: widths. -/
import Derived.Test.YtpknjcdodnoibaaPlain
import Derived.Lib.Repeat
namespace Go.Proofs.Ytpknjcdodnoibaa
open Go.RowKit
/-- A number as a width. -/
def wdt (n : Int) : Nat := (min (max n 0) 1000).toNat
theorem wdt_eq (n : Int) : min (max n 0) 1000 = ((wdt n : Nat) : Int) := by unfold wdt; omega
theorem wdt_neg (n : Int) (h : n < 0) : wdt n = 0 := by unfold wdt; omega
theorem wdt_mid (n : Int) (h : 0 ≤ n) (h' : n ≤ 1000) : ((wdt n : Nat) : Int) = n := by unfold wdt; omega
theorem wdt_big (n : Int) (h : 1000 < n) : wdt n = 1000 := by unfold wdt; omega
theorem wdt_le (n : Int) : wdt n ≤ 1000 := by unfold wdt; omega
/-- So many times a byte. -/
def run (c : Nat) (k : Nat) : ByteArray := ⟨Array.replicate k (UInt8.ofNat c)⟩
theorem run_size (c k : Nat) : (run c k).size = k := by simp [run, ByteArray.size]
/-- A text filled to a width. -/
def padS (s : ByteArray) (mi z : Bool) (wid : Int) : ByteArray :=
  if mi then s ++ run 32 (wdt ((wdt wid : Nat) - (cntR s : Nat) : Int)) else if z then run 48 (wdt ((wdt wid : Nat) - (cntR s : Nat) : Int)) ++ s else run 32 (wdt ((wdt wid : Nat) - (cntR s : Nat) : Int)) ++ s
theorem cntGo_le (s : ByteArray) : ∀ (f p : Nat), cntGo s f p ≤ s.size - p
  | 0, p => by simp [cntGo]
  | f + 1, p => by
    have hw := wid_pos s p
    by_cases hp : p < s.size
    · simp only [cntGo, if_pos hp]
      have := cntGo_le s f (p + (Utf8.decode s p).2)
      omega
    · simp [cntGo, hp]
theorem cntR_le (s : ByteArray) : cntR s ≤ s.size := by
  have := cntGo_le s (s.size - 0) 0
  unfold cntR cntFrom
  omega
theorem run_snoc (c k : Nat) : run c k ++ strOfNums [(c : Int)] = run c (k + 1) := by
  apply ByteArray.ext
  rw [ByteArray.data_append]
  show Array.replicate k (UInt8.ofNat c) ++ #[UInt8.ofNat c] = Array.replicate (k + 1) (UInt8.ofNat c)
  rw [Array.replicate_succ]
  rfl
theorem run_zero (c : Nat) : run c 0 = ⟨#[]⟩ := rfl
end Go.Proofs.Ytpknjcdodnoibaa
