/- The walk of the law ShortDigits. -/
import Derived.Test.YthbabhbfpcfenabGreatDoorKShortT
namespace Go.Proofs.YthbabhbfpcfenabGreatDoor
open Go.RowKit
set_option linter.unusedVariables false
set_option linter.unusedSimpArgs false

set_option maxRecDepth 1000000 in
set_option maxHeartbeats 1000000 in
theorem shortDigits_run {bits : Nat} {size P er : Int} {S : ByteArray} (hA : ShC bits size S P er) (hB : KshC bits size S P er) (w : World) :
    Calls Tryz.prog 3 #[.int .u64 bits, .int .i64 size] w fun e w' => e = .returned (.bool true) ∧ Below w.heap.size w w' := by
  have hL := lives5_any
  go_enter Tryz.func3, Tryz.ntmps3
  go_wp2_with (first
    | (go_at_call 7; (with_reducible refine (hA _).mono ?_); rintro x w2 ⟨rfl, hb2⟩)
    | (go_at_call 8; (with_reducible refine (hB _).mono ?_); rintro x w3 ⟨rfl, hb3⟩; have b2 := keepb hb3 (B := w2.heap.size) (x := .string S) (y := .int .i64 P) (by simp [BoxD, go_sem]); obtain ⟨a0, a1, a2, a3⟩ := id b2; have hlt : w2.heap.size < w3.heap.size := World.block_lt_of_cell? w3 _ a0)
    | (go_at_call 9; refine (hL _).mono ?_; rintro x w4 ⟨rfl, hb4⟩))
  go_ret
  have h1 := bel_call (hb2.alloc hb2.size _) hb3 (Nat.le_refl _)
  exact ⟨rfl, bel_call (h1.alloc h1.size _) hb4 (Nat.le_refl _)⟩
theorem shortDigits_walk (m0 : Int) (hm0 : (Lit.int .u64 m0).wf = true) (size : Int) (_hz : (Lit.int .i64 size).wf = true) (w : World) :
    Calls Tryz.prog 3 #[.int .u64 m0, .int .i64 size] w fun e w' => e = .returned (.bool true) ∧ Below w.heap.size w w' := by
  obtain ⟨h0, h1⟩ := wfu64 m0 hm0
  obtain ⟨bits, rfl⟩ := Int.eq_ofNat_of_zero_le h0
  have hb : bits < 18446744073709551616 := by omega
  by_cases h2 : size = 32 ∨ size = 64
  · obtain ⟨f, ww, least, I, h⟩ : ∃ (f ww : Nat) (least : Int) (I : Nat), Ly size f ww least I := by
      rcases h2 with rfl | rfl
      · exact ⟨_, _, _, _, lyA⟩
      · exact ⟨_, _, _, _, lyB⟩
    by_cases hp : bare f ww bits < I
    · obtain ⟨d, hd⟩ := sh_ex (fun x => RD f I (un least) x (bare f ww bits)) (val f least (bare f ww bits))
      refine shortDigits_run (fun w => ?_) (kshort_fin h hb hp hd) w
      by_cases hz : bare f ww bits = 0
      · have hv0 : val f least (bare f ww bits) = 0 := by rw [hz]; simp [val, pq, pm]
        have hd0 : d = 0 := by
          rw [hv0] at hd
          exact hd.all fun j h1 h2 => by rw [o_zero.1] at h2; simp at h2
        have := short_none h hb (.inr hz) w
        rw [if_pos hz] at this
        rw [hd0, zero_S, o_zero.2]
        exact this
      · exact short_ok h hb hp hz hd w
    · have e3 : ¬ ptK f ww I bits = 0 := by unfold ptK; rw [if_neg hp]; split <;> decide
      obtain ⟨-, -, -, hI0, -, -, -, -, -⟩ := h.pk
      refine shortDigits_run (P := 0) (er := 1) (S := ⟨#[]⟩) (fun w => ?_) (kshort_odd (fun w => ksized_yes h w) (fun w => kparts_any h hb w) e3) w
      have := short_none h hb (.inl (by omega)) w
      rw [if_neg (by omega)] at this
      exact this
  · exact shortDigits_run (fun w => short_size (by omega) (by omega) w) (kshort_size (fun w => ksized_no size w (by omega) (by omega))) w
end Go.Proofs.YthbabhbfpcfenabGreatDoor
