/- The document's examples of layer 4 that every law asks. -/
import Derived.Test.YtjfoknhoehamhabDoorBTopD
namespace Go.Proofs.YtjfoknhoehamhabDoor
open Go.RowKit
set_option linter.unusedVariables false

theorem wfu64 (n : Int) (h : (Lit.int .u64 n).wf = true) : 0 ≤ n ∧ n < 18446744073709551616 := by
  have e1 : IntKind.u64.min = 0 := by decide
  have e2 : IntKind.u64.max = 18446744073709551615 := by decide
  simp [Lit.wf] at h
  omega
theorem wfu32 (n : Int) (h : (Lit.int .u32 n).wf = true) : 0 ≤ n ∧ n < 4294967296 := by
  have e1 : IntKind.u32.min = 0 := by decide
  have e2 : IntKind.u32.max = 4294967295 := by decide
  simp [Lit.wf] at h
  omega
theorem wfi64 (n : Int) (h : (Lit.int .i64 n).wf = true) : -9223372036854775808 ≤ n ∧ n ≤ 9223372036854775807 := by
  have e1 : IntKind.i64.min = -9223372036854775808 := by decide
  have e2 : IntKind.i64.max = 9223372036854775807 := by decide
  simp [Lit.wf] at h
  omega
theorem dec_is {l : List UInt8} {p : Int} {v : Nat} (h : IsDec l p v) : oS v = ⟨l.toArray⟩ ∧ oP v = p := by
  obtain ⟨h1, h2⟩ := o_of h
  exact ⟨by unfold oS; rw [← h1], h2.symm⟩
theorem V_def (l : List UInt8) (p : Int) : num l * 10 ^ (p - l.length + 10000).toNat = V l p := rfl
theorem V_mk {l : List UInt8} {p : Int} {n k : Nat} (h1 : num l = n) (h2 : (p - l.length + 10000).toNat = k) : V l p = n * 10 ^ k := by unfold V; rw [h1, h2]
theorem live_exact : IsDec [53] 0 (xV 1 (-1)) where
  dig := rfl
  hd := rfl
  lst := rfl
  nil := fun h => by cases h
  low := by decide
  val := by
    have e1 : xE (-1) = 0 := by decide
    unfold xV exU
    rw [if_pos e1, if_neg (by decide), show num [53] = 5 from rfl, show ((-(-1 : Int)).toNat) = 1 from rfl, Nat.pow_one, Nat.one_mul]
    congr 2
theorem live_norm : IsDec [57, 57, 53] 1 (V [57, 57, 53] 1) := ⟨rfl, rfl, rfl, fun h => (by cases h), by decide, V_def _ _⟩
theorem live_normE : normE ⟨#[57, 57, 53]⟩ 1 = 0 := by decide
theorem live_round : IsDec [49] 2 (bV (normE ⟨#[57, 57, 53]⟩ 1) (rnd (normV ⟨#[57, 57, 53]⟩ 1) 2)) where
  dig := rfl
  hd := rfl
  lst := rfl
  nil := fun h => by cases h
  low := by decide
  val := by
    have hl : (⟨#[57, 57, 53]⟩ : ByteArray).data.toList = [57, 57, 53] := rfl
    have e0 : normV ⟨#[57, 57, 53]⟩ 1 = V [57, 57, 53] 1 := by rw [normV_ok live_normE, hl]
    rw [live_normE, e0]
    obtain ⟨h1, h2⟩ := o_of live_norm
    obtain ⟨K, hK⟩ : ∃ K : Nat, K = 9999 := ⟨_, rfl⟩
    have hn := ups_near live_norm 2 (by decide) K (by omega)
    have ht := take_V live_norm 2 (by decide) K (by omega)
    have hu : ups [57, 57, 53] 2 = true := by decide
    rw [hu, if_pos rfl] at hn
    have hr : rnd (V [57, 57, 53] 1) 2 = near (V [57, 57, 53] 1) K := by
      unfold rnd
      rw [← h1, ← h2, if_neg (by decide), if_neg (by decide), show (1 - 2 + 10000 : Int).toNat = K by omega]
    have hb : ∀ x, bV 0 x = x := fun x => if_pos rfl
    rw [hb, hr, hn, ← ht]
    have hv : V ([57, 57, 53].take 2) 1 = 99 * 10 ^ K := V_mk rfl (by rw [hK]; decide)
    have h3 : (2 - (([49] : List UInt8).length : Int) + 10000).toNat = K + 2 := by rw [hK]; decide
    rw [hv, show num [49] = 1 from rfl, h3, Nat.pow_add]
    generalize (10 : Nat) ^ K = A
    omega
theorem live_bad : normE ⟨#[49, 120]⟩ 0 = 4 := by decide
set_option maxRecDepth 1000000 in
set_option maxHeartbeats 800000 in
theorem lives4_any (w : World) : Calls Tryd.prog 8 #[] w fun e w' => e = .returned (.bool true) ∧ Below w.heap.size w w' := by
  have hX : ∀ w, Calls Tryd.prog 7 #[.int .u64 1, .int .i64 (-1)] w fun x w' => x = .returned (.tuple #[.agg #[.string ⟨#[53]⟩, .int .i64 0], .int .i64 0]) ∧ Below w.heap.size w w' := fun w => by
    have := exact_any 1 (-1) w (by decide)
    rw [(dec_is live_exact).1, (dec_is live_exact).2] at this
    exact this
  have hR : ∀ w, Calls Tryd.prog 12 #[.agg #[.string ⟨#[57, 57, 53]⟩, .int .i64 1], .int .i64 2] w fun x w' => x = .returned (.tuple #[.agg #[.string ⟨#[49]⟩, .int .i64 2], .int .i64 0]) ∧ Below w.heap.size w w' := fun w => by
    have := round_any ⟨#[57, 57, 53]⟩ 1 2 w (by decide)
    rw [(dec_is live_round).1, (dec_is live_round).2, live_normE] at this
    exact this
  have hN : ∀ w, Calls Tryd.prog 11 #[.agg #[.string ⟨#[49, 120]⟩, .int .i64 0]] w fun x w' => x = .returned (.tuple #[.agg #[.string ⟨#[]⟩, .int .i64 0], .int .i64 4]) ∧ Below w.heap.size w w' := fun w => by
    have := norm_any ⟨#[49, 120]⟩ 0 w (by decide)
    have e0 : normV ⟨#[49, 120]⟩ 0 = 0 := normV_err live_bad (by decide)
    rw [e0, live_bad, zero_S, o_zero.2] at this
    exact this
  go_enter Tryd.func8, Tryd.ntmps8
  go_wp2_with (first
    | (go_at_call 7; refine (hX _).mono ?_; rintro x w2 ⟨rfl, hb2⟩)
    | (go_at_call 12; refine (hR _).mono ?_; rintro x w3 ⟨rfl, hb3⟩; have bA := keepb hb3 (B := w2.heap.size) (x := .string ⟨#[53]⟩) (y := .int .i64 0) (by simp [BoxD, go_sem]))
    | (go_at_call 11; refine (hN _).mono ?_; rintro x w4 ⟨rfl, hb4⟩; have hlt : w2.heap.size < w3.heap.size := World.block_lt_of_cell? w3 _ bA.1; obtain ⟨a0, a1, a2, a3⟩ := keepb hb4 (B := w2.heap.size) (x := .string ⟨#[53]⟩) (y := .int .i64 0) (by obtain ⟨q0, q1, q2, q3⟩ := bA; simp [BoxD, go_sem, q0, q1, q2, q3, hlt]); have bB := keepb hb4 (B := w3.heap.size) (x := .string ⟨#[49]⟩) (y := .int .i64 2) (by simp [BoxD, go_sem]); obtain ⟨b0, b1, b2, b3⟩ := id bB; have hlt2 : w3.heap.size < w4.heap.size := World.block_lt_of_cell? w4 _ b0; have hlt3 : w2.heap.size < w4.heap.size := (by omega)))
  go_ret
  refine ⟨rfl, ?_⟩
  have h1 := bel_call ((hb2.alloc (B := w.heap.size) hb2.size _)) hb3 (Nat.le_refl _)
  have h2 := bel_call (h1.alloc (B := w.heap.size) h1.size _) hb4 (Nat.le_refl _)
  exact h2.alloc h2.size _
end Go.Proofs.YtjfoknhoehamhabDoor
