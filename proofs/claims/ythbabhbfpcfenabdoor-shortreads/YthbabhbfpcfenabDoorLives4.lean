/- The document's examples of layer 4 that every law asks. -/
import Derived.Test.YthbabhbfpcfenabDoorBTopD
namespace Go.Proofs.YthbabhbfpcfenabDoor
open Go.RowKit
set_option linter.unusedVariables false

theorem wfu64 (n : Int) (h : (Lit.int .u64 n).wf = true) : 0 ≤ n ∧ n < 18446744073709551616 := by
  have e1 : IntKind.u64.min = 0 := by decide
  have e2 : IntKind.u64.max = 18446744073709551615 := by decide
  simp [Lit.wf] at h
  omega
theorem wfu32 (n : Int) (h : (Lit.int .u32 n).wf = true) : 0 ≤ n ∧ n < 4294967296 := by
  have e1 : IntKind.u32.min = 0 := by decide
  have e2 : IntKind.u32.max = 4294967295 := by decide
  simp [Lit.wf] at h
  omega
theorem wfi64 (n : Int) (h : (Lit.int .i64 n).wf = true) : -9223372036854775808 ≤ n ∧ n ≤ 9223372036854775807 := by
  have e1 : IntKind.i64.min = -9223372036854775808 := by decide
  have e2 : IntKind.i64.max = 9223372036854775807 := by decide
  simp [Lit.wf] at h
  omega
theorem dec_is {l : List UInt8} {p : Int} {v : Nat} (h : IsDec l p v) : oS v = ⟨l.toArray⟩ ∧ oP v = p := by
  obtain ⟨h1, h2⟩ := o_of h
  exact ⟨by unfold oS; rw [← h1], h2.symm⟩
theorem V_def (l : List UInt8) (p : Int) : num l * 10 ^ (p - l.length + 10000).toNat = V l p := rfl
theorem V_mk {l : List UInt8} {p : Int} {n k : Nat} (h1 : num l = n) (h2 : (p - l.length + 10000).toNat = k) : V l p = n * 10 ^ k := by unfold V; rw [h1, h2]
theorem live_exact : IsDec [53] 0 (xV 1 (-1)) where
  dig := rfl
  hd := rfl
  lst := rfl
  nil := fun h => by cases h
  low := by decide
  val := by
    have e1 : xE (-1) = 0 := by decide
    unfold xV exU
    rw [if_pos e1, if_neg (by decide), show num [53] = 5 from rfl, show ((-(-1 : Int)).toNat) = 1 from rfl, Nat.pow_one, Nat.one_mul]
    congr 2
theorem live_norm : IsDec [57, 57, 53] 1 (V [57, 57, 53] 1) := ⟨rfl, rfl, rfl, fun h => (by cases h), by decide, V_def _ _⟩
theorem live_normE : normE ⟨#[57, 57, 53]⟩ 1 = 0 := by decide
theorem live_round : IsDec [49] 2 (bV (normE ⟨#[57, 57, 53]⟩ 1) (rnd (normV ⟨#[57, 57, 53]⟩ 1) 2)) where
  dig := rfl
  hd := rfl
  lst := rfl
  nil := fun h => by cases h
  low := by decide
  val := by
    have hl : (⟨#[57, 57, 53]⟩ : ByteArray).data.toList = [57, 57, 53] := rfl
    have e0 : normV ⟨#[57, 57, 53]⟩ 1 = V [57, 57, 53] 1 := by rw [normV_ok live_normE, hl]
    rw [live_normE, e0]
    obtain ⟨h1, h2⟩ := o_of live_norm
    obtain ⟨K, hK⟩ : ∃ K : Nat, K = 9999 := ⟨_, rfl⟩
    have hn := ups_near live_norm 2 (by decide) K (by omega)
    have ht := take_V live_norm 2 (by decide) K (by omega)
    have hu : ups [57, 57, 53] 2 = true := by decide
    rw [hu, if_pos rfl] at hn
    have hr : rnd (V [57, 57, 53] 1) 2 = near (V [57, 57, 53] 1) K := by
      unfold rnd
      rw [← h1, ← h2, if_neg (by decide), if_neg (by decide), show (1 - 2 + 10000 : Int).toNat = K by omega]
    have hb : ∀ x, bV 0 x = x := fun x => if_pos rfl
    rw [hb, hr, hn, ← ht]
    have hv : V ([57, 57, 53].take 2) 1 = 99 * 10 ^ K := V_mk rfl (by rw [hK]; decide)
    have h3 : (2 - (([49] : List UInt8).length : Int) + 10000).toNat = K + 2 := by rw [hK]; decide
    rw [hv, show num [49] = 1 from rfl, h3, Nat.pow_add]
    generalize (10 : Nat) ^ K = A
    omega
theorem live_bad : normE ⟨#[49, 120]⟩ 0 = 4 := by decide
end Go.Proofs.YthbabhbfpcfenabDoor
