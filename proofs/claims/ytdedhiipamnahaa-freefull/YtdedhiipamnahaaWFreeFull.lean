/- The law FreeFull. -/
import Derived.Test.YtdedhiipamnahaaYLive
import Derived.LoopN
namespace Go.Proofs.Ytdedhiipamnahaa
open Go.RowKit Go.Conc
set_option linter.unusedVariables false
set_option linter.unusedSimpArgs false

/-- The numbers 0 .. k - 1. -/
def upTo (k : Nat) : List Value := (List.range k).map (fun (i : Nat) => Value.int .i64 (i : Int))
theorem upTo_len (k : Nat) : (upTo k).length = k := by simp [upTo]
theorem upTo_succ (k : Nat) : upTo k ++ [Value.int .i64 k] = upTo (k + 1) := by simp [upTo, List.range_succ]

set_option maxRecDepth 1000000 in
set_option maxHeartbeats 2000000 in
theorem freeFull_walk (n : Int) (hn : (Lit.int .i64 n).wf = true) (w : World) : Calls Try.prog 5 #[.int .i64 n] w fun e w' => e = .returned (.bool true) ∧ Below w.heap.size w w' := by
  clear hn
  have h1 := newi_any n .nilFunc (.inl rfl) w
  have hK := capN_eq n
  have hK2 := capN_le n
  generalize capN n = K at *
  have HK : Hid ((K : Int) = min (max n 0) 64) := hK
  clear hK
  go_enter Try.func5, Try.ntmps5
  go_wp2_with fail
  refine h1.mono ?_
  rintro e W1 ⟨B, c, rfl, hB, hc, s1, k1⟩
  have b1 : Below w.heap.size w W1 := Ko.below (Below.refl _ _) k1 (by simp) (Nat.le_refl _)
  have hs1 := k1.size
  clear h1
  have hKI : (K : Int) ≤ 64 := by omega
  go_wp2_with fail
  go_loopg [4] K (fun g kv wr => ∃ k : Nat, kv = .int .i64 (k : Nat) ∧ k + g = K ∧ Sto wr B c K (upTo k) .nilFunc 0 ∧ Below w.heap.size w wr ∧ w.heap.size ≤ wr.heap.size)
  case atStart => exact ⟨0, rfl, by omega, s1, b1, hs1⟩
  case round =>
    obtain ⟨k, rfl, hk, s2, b2, hs2⟩ := hrel
    by_cases hlt : k < K
    · have h3 := puti_room s2 k (by rw [upTo_len]; exact hlt)
      rw [upTo_succ] at h3
      go_wp2_with fail
      refine h3.mono ?_
      rintro e W3 ⟨rfl, s3, k3⟩
      have b3 : Below w.heap.size w W3 := Ko.below b2 k3 (by simp; omega) hs2
      have hs3 := k3.size
      go_wp2
      go_roundg (gk - 1)
      case measure => omega
      case rel => exact ⟨k + 1, by go_num, by omega, s3, b3, by omega⟩
    · obtain rfl : k = K := by omega
      have h3 := puti_full s2 k (by rw [upTo_len]; exact Nat.le_refl _)
      go_wp2_with fail
      refine h3.mono ?_
      rintro e W3 ⟨rfl, rfl⟩
      have hL := leni_any s2
      rw [upTo_len] at hL
      have hM := madei_any s2
      have hlv := lives13_any W3
      have fin : ∀ w9, Below W3.heap.size W3 w9 → Below w.heap.size w w9 := fun w9 h9 => b2.trans (h9.mono hs2)
      clear h3 b1 hs1 k1 hlt hk
      rcases Int.lt_or_le n 0 with h1 | h1
      · obtain rfl : k = 0 := by have := HK.out; omega
        clear HK
        go_wp2_with (first
          | (go_at_call 17; refine hL.mono ?_; rintro e w9 ⟨rfl, rfl⟩)
          | (go_at_call 18; refine hM.mono ?_; rintro e w9 ⟨rfl, rfl⟩)
          | (go_at_call 19; refine hlv.mono ?_; rintro e w9 ⟨rfl, hb9⟩))
        go_ret
        exact ⟨rfl, fin _ hb9⟩
      · rcases Int.lt_or_le 64 n with h2 | h2
        · obtain rfl : k = 64 := by have := HK.out; omega
          clear HK
          go_wp2_with (first
            | (go_at_call 17; refine hL.mono ?_; rintro e w9 ⟨rfl, rfl⟩)
            | (go_at_call 18; refine hM.mono ?_; rintro e w9 ⟨rfl, rfl⟩)
            | (go_at_call 19; refine hlv.mono ?_; rintro e w9 ⟨rfl, hb9⟩))
          go_ret
          exact ⟨rfl, fin _ hb9⟩
        · obtain rfl : n = (k : Int) := by have := HK.out; omega
          clear HK
          rcases Nat.eq_zero_or_pos k with rfl | hp
          · go_wp2_with (first
              | (go_at_call 17; refine hL.mono ?_; rintro e w9 ⟨rfl, rfl⟩)
              | (go_at_call 18; refine hM.mono ?_; rintro e w9 ⟨rfl, rfl⟩)
              | (go_at_call 19; refine hlv.mono ?_; rintro e w9 ⟨rfl, hb9⟩))
            go_ret
            exact ⟨rfl, fin _ hb9⟩
          · have hpI : (0 : Int) < k := by omega
            go_wp2_with (first
              | (go_at_call 17; refine hL.mono ?_; rintro e w9 ⟨rfl, rfl⟩)
              | (go_at_call 18; refine hM.mono ?_; rintro e w9 ⟨rfl, rfl⟩)
              | (go_at_call 19; refine hlv.mono ?_; rintro e w9 ⟨rfl, hb9⟩))
            go_ret
            exact ⟨rfl, fin _ hb9⟩
end Go.Proofs.Ytdedhiipamnahaa
