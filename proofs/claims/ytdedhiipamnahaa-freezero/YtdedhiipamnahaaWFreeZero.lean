/- The law FreeZero. -/
import Derived.Test.YtdedhiipamnahaaYStp
import Derived.ChangeKeysEq
namespace Go.Proofs.Ytdedhiipamnahaa
open Go.RowKit Go.Conc
set_option linter.unusedVariables false
set_option linter.unusedSimpArgs false

set_option maxRecDepth 100000 in
theorem eq2 (x y : Int) (w : World) : (binOp BinOp.eql 49 (.agg #[.int .i64 x, .int .i64 y]) (.agg #[.int .i64 x, .int .i64 y])).run Try.prog w = .ok (.bool true) w := by
  obtain ⟨i, hi, -, hs⟩ : ∃ i, Try.prog.info? 3 = some i ∧ True ∧ i.size = 1 := by
    have h : (Try.prog.info? 3).map (·.size) = some 1 := by kernel_rfl
    obtain ⟨i, hi, hb⟩ := Option.map_eq_some_iff.1 h
    exact ⟨i, hi, trivial, hb⟩
  have hc : Try.prog.cellsOf 3 = 1 := by kernel_rfl
  simp [go_sem]
  rw [show (10000 : Nat) = 9999 + 1 from rfl, run_equalIn_array w 9999 _ _ Try.underlying49 hi, hc]
  simp [Op.eqItems, List.range_succ, go_sem]
set_option maxRecDepth 1000000 in
set_option maxHeartbeats 4000000 in
theorem freeZero_walk (n : Int) (hn : (Lit.int .i64 n).wf = true) (x y : Int) (w : World) : Calls Try.prog 7 #[.int .i64 n, .agg #[.int .i64 x, .int .i64 y]] w fun e w' => e = .returned (.bool true) ∧ Below w.heap.size w w' := by
  clear hn
  obtain ⟨W1, hW1⟩ : ∃ W1, W1 = w.alloc (.cells #[.int .i64 x, .int .i64 y] 49) := ⟨_, rfl⟩
  have x1 : Bq W1 w.heap.size [.int .i64 x, .int .i64 y] := by rw [hW1]; exact Bq.new _ [_, _] _
  have b1 : Below w.heap.size w W1 := by rw [hW1]; exact (Below.refl _ _).alloc (Nat.le_refl _) _
  have hs1 : w.heap.size < W1.heap.size := by rw [hW1]; simp
  have h1 := newp_any n .nilFunc (.inl rfl) W1
  have hK := capN_eq n
  have hK2 := capN_le n
  generalize capN n = K at *
  have HK : Hid ((K : Int) = min (max n 0) 64) := hK
  clear hK
  have hE := fun w => eq2 x y w
  have hZ := fun w => eq2 0 0 w
  go_enter Try.func7, Try.ntmps7
  go_upto_region 1 with fail
  rw [← hW1]
  clear hW1
  go_wp2_with fail
  refine h1.mono ?_
  rintro e W2 ⟨B, c, rfl, hB, hc, s2, k2⟩
  have b2 : Below w.heap.size w W2 := Ko.below b1 k2 (by simp) (by omega)
  have x2 := x1.keep k2 (by simp)
  have z2 := k2.size
  have lB := s2.bx.b
  have lc := s2.cb
  have nBc := s2.ne
  clear h1 k2 b1 x1
  go_wp2_with fail
  refine (getp_nil s2 (by omega) (by omega)).mono ?_
  rintro e W3 ⟨rfl, s3, k3⟩
  have b3 : Below w.heap.size w W3 := Ko.below b2 k3 (by simp; omega) (by omega)
  have x3 := x2.keep k3 (by simp; omega)
  have z3 := k3.size
  obtain ⟨W4, hW4⟩ : ∃ W4, W4 = W3.alloc (.cells #[.int .i64 0, .int .i64 0] 49) := ⟨_, rfl⟩
  have k4 : Ko [] W3 W4 := by rw [hW4]; exact (Ko.refl _ _).alloc _
  have y4 : Bq W4 W3.heap.size [.int .i64 0, .int .i64 0] := by rw [hW4]; exact Bq.new _ [_, _] _
  have z4 : W3.heap.size < W4.heap.size := y4.b
  have b4 : Below w.heap.size w W4 := Ko.below b3 k4 (by simp) (by omega)
  have x4 := x3.keep k4 (by simp)
  have s4 := s3.keep k4 (by simp) (by simp)
  clear s2 s3 k3 k4 b2 b3 x2 x3
  go_upto_region 5 with fail
  rw [← hW4]
  clear hW4
  have g0 := x4.c 0 _ rfl
  have g1 := x4.c 1 _ rfl
  by_cases hroom : 0 < K
  · have hnI : (0 : Int) < n := by have := HK.out; omega
    go_wp2_with fail
    refine (putp_room s4 x y (by simpa using hroom)).mono ?_
    rintro e W5 ⟨rfl, s5, k5⟩
    have b5 : Below w.heap.size w W5 := Ko.below b4 k5 (by simp; omega) (by omega)
    have x5 := x4.keep k5 (by simp; omega)
    have y5 := y4.keep k5 (by simp; omega)
    have z5 := k5.size
    go_wp2_with fail
    refine (getp_some x y s5).mono ?_
    rintro e W6 ⟨rfl, s6, k6⟩
    have b6 : Below w.heap.size w W6 := Ko.below b5 k6 (by simp; omega) (by omega)
    have x6 := x5.keep k6 (by simp; omega)
    have y6 := y5.keep k6 (by simp; omega)
    have z6 := k6.size
    obtain ⟨W7, hW7⟩ : ∃ W7, W7 = W6.alloc (.cells #[.int .i64 x, .int .i64 y] 49) := ⟨_, rfl⟩
    have k7 : Ko [] W6 W7 := by rw [hW7]; exact (Ko.refl _ _).alloc _
    have u7 : Bq W7 W6.heap.size [.int .i64 x, .int .i64 y] := by rw [hW7]; exact Bq.new _ [_, _] _
    have b7 : Below w.heap.size w W7 := Ko.below b6 k7 (by simp) (by omega)
    have x7 := x6.keep k7 (by simp)
    have y7 := y6.keep k7 (by simp)
    have s7 := s6.keep k7 (by simp) (by simp)
    have z7 := k7.size
    go_upto_region 7 with fail
    rw [← hW7]
    clear hW7 g0 g1
    have g0 := x7.c 0 _ rfl
    have g1 := x7.c 1 _ rfl
    have g2 := y7.c 0 _ rfl
    have g3 := y7.c 1 _ rfl
    have g4 := u7.c 0 _ rfl
    have g5 := u7.c 1 _ rfl
    have hM := madep_any s7
    have hlv := lives13_any W7
    clear s4 s5 s6 x4 x5 x6 y4 y5 y6 k5 k6 k7 b4 b5 b6
    go_wp2_with (first
      | (go_at_call 29; refine hM.mono ?_; rintro e w9 ⟨rfl, rfl⟩)
      | (go_at_call 19; refine hlv.mono ?_; rintro e w9 ⟨rfl, hb9⟩))
    go_ret
    exact ⟨rfl, b7.trans (hb9.mono (by omega))⟩
  · have hnI : ¬ (0 : Int) < n := by have := HK.out; omega
    go_wp2_with fail
    refine (putp_full s4 x y (by simpa using hroom)).mono ?_
    rintro e W5 ⟨rfl, s5, k5⟩
    have b5 : Below w.heap.size w W5 := Ko.below b4 k5 (by simp) (by omega)
    have y5 := y4.keep k5 (by simp)
    have z5 := k5.size
    go_wp2_with fail
    refine (getp_nil s5 (by omega) (by omega)).mono ?_
    rintro e W6 ⟨rfl, s6, k6⟩
    have b6 : Below w.heap.size w W6 := Ko.below b5 k6 (by simp; omega) (by omega)
    have y6 := y5.keep k6 (by simp; omega)
    have z6 := k6.size
    obtain ⟨W7, hW7⟩ : ∃ W7, W7 = W6.alloc (.cells #[.int .i64 0, .int .i64 0] 49) := ⟨_, rfl⟩
    have k7 : Ko [] W6 W7 := by rw [hW7]; exact (Ko.refl _ _).alloc _
    have u7 : Bq W7 W6.heap.size [.int .i64 0, .int .i64 0] := by rw [hW7]; exact Bq.new _ [_, _] _
    have b7 : Below w.heap.size w W7 := Ko.below b6 k7 (by simp) (by omega)
    have y7 := y6.keep k7 (by simp)
    have s7 := s6.keep k7 (by simp) (by simp)
    have z7 := k7.size
    go_upto_region 7 with fail
    rw [← hW7]
    clear hW7 g0 g1
    have g2 := y7.c 0 _ rfl
    have g3 := y7.c 1 _ rfl
    have g4 := u7.c 0 _ rfl
    have g5 := u7.c 1 _ rfl
    have hM := madep_any s7
    have hlv := lives13_any W7
    clear s4 s5 s6 x4 y4 y5 y6 k5 k6 k7 b4 b5 b6
    go_wp2_with (first
      | (go_at_call 29; refine hM.mono ?_; rintro e w9 ⟨rfl, rfl⟩)
      | (go_at_call 19; refine hlv.mono ?_; rintro e w9 ⟨rfl, hb9⟩))
    go_ret
    exact ⟨rfl, b7.trans (hb9.mono (by omega))⟩
end Go.Proofs.Ytdedhiipamnahaa
