/- More plain mathematics: a broken rune. -/
import Derived.Test.YtpknjcdodnoibaaPlain3
namespace Go.Proofs.Ytpknjcdodnoibaa
open Go.RowKit
/-- Is the first rune broken? -/
def brk (d : Nat × Nat) : Bool := d.1 == 65533 && d.2 == 1
theorem brk_try (s : ByteArray) (m n : Nat) (h : tryN s m n) : brk (cnd s m (n - 1), n) = false := by
  obtain ⟨hv, he⟩ := h
  cases hb : brk (cnd s m (n - 1), n) with
  | false => rfl
  | true =>
    exfalso
    simp only [brk, Bool.and_eq_true, beq_iff_eq] at hb
    obtain ⟨h1, h2⟩ := hb
    rw [h1] at hv he
    have hz := congrArg ByteArray.size he
    rw [enc3 65533 hv (by omega) (by omega), ByteArray.size_extract] at hz
    have : (ByteArray.mk #[UInt8.ofNat (224 + 65533 / 4096), UInt8.ofNat (128 + 65533 / 64 % 64), UInt8.ofNat (128 + 65533 % 64)]).size = 3 := rfl
    omega
end Go.Proofs.Ytpknjcdodnoibaa
