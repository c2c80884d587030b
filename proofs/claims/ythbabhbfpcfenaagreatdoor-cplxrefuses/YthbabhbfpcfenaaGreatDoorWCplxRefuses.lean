/- The walk of the law CplxRefuses. -/
import Derived.Test.YthbabhbfpcfenaaGreatDoorCBox
import Derived.Test.YthbabhbfpcfenaaGreatDoorPkF26
namespace Go.Proofs.YthbabhbfpcfenaaGreatDoor
open Go.RowKit
set_option linter.unusedVariables false
set_option linter.unusedSimpArgs false

theorem mv_of {verb : Int} {b : Bool} (h : fVerb verb = b) : MvC verb b := fun w => by rw [← h]; exact mverb_any verb w
set_option maxRecDepth 1000000 in
set_option maxHeartbeats 4000000 in
theorem crefuses_run {re im : Nat} {size : Int} {S : ByteArray} {ok is : Bool} (p mi sh sp z : Bool) (wid prec verb : Int) (hC : CxC re im size p mi sh sp z wid prec verb S ok) (hV : MvC verb is) (hs : (size = 64 ∨ size = 128) ∧ ok = is ∨ (¬ size = 64 ∧ ¬ size = 128) ∧ ok = false) (hS : ok = true ∧ 0 < S.size ∨ ok = false ∧ S.size = 0) (w : World) :
    Calls Tryz.prog 7 #[.agg #[.int .u64 re, .int .u64 im], .int .i64 size, .agg #[.bool p, .bool mi, .bool sh, .bool sp, .bool z, .int .i64 wid, .int .i64 prec, .int .i32 verb]] w fun e w' => e = .returned (.bool true) ∧ Below w.heap.size w w' := by
  have hL := lives7_any
  have hx0 := Bx7.new w re im p mi sh sp z wid prec verb
  have hue : S.toList.isEmpty = !ok := by
    rcases hS with ⟨h1, h2⟩ | ⟨h1, h2⟩
    · rw [h1, empty_no S h2]; rfl
    · rw [h1, empty_yes S h2]; rfl
  clear hS
  rcases hs with ⟨h64 | h64, rfl⟩ | ⟨⟨n1, n2⟩, rfl⟩
  · subst h64
    cases ok
    all_goals
      simp only [Bool.not_true, Bool.not_false] at hue
      go_enter Tryz.func7, Tryz.ntmps7
      go_wp2_with (first
        | (go_at_call 9; (with_reducible refine (hC _).mono ?_); rintro x w3 ⟨rfl, hb3⟩; have hx3 := hx0.call hb3; obtain ⟨u0, u1, a0, a1, a2, a3, a4, a5, a6, a7, a8⟩ := hx3.cells)
        | (go_at_call 15; (with_reducible refine (hV _).mono ?_); rintro x w4 ⟨rfl, hb4⟩; have hx4 := hx3.call hb4)
        | (go_at_call 11; refine (hL _).mono ?_; rintro x w8 ⟨rfl, hb8⟩))
      go_ret
      exact ⟨rfl, bel_call hx4.bl hb8 (Nat.le_refl _)⟩
  · subst h64
    cases ok
    all_goals
      simp only [Bool.not_true, Bool.not_false] at hue
      go_enter Tryz.func7, Tryz.ntmps7
      go_wp2_with (first
        | (go_at_call 9; (with_reducible refine (hC _).mono ?_); rintro x w3 ⟨rfl, hb3⟩; have hx3 := hx0.call hb3; obtain ⟨u0, u1, a0, a1, a2, a3, a4, a5, a6, a7, a8⟩ := hx3.cells)
        | (go_at_call 15; (with_reducible refine (hV _).mono ?_); rintro x w4 ⟨rfl, hb4⟩; have hx4 := hx3.call hb4)
        | (go_at_call 11; refine (hL _).mono ?_; rintro x w8 ⟨rfl, hb8⟩))
      go_ret
      exact ⟨rfl, bel_call hx4.bl hb8 (Nat.le_refl _)⟩
  · have b1 : (size == 64) = false := beq_eq_false_iff_ne.2 n1
    have b2 : (size == 128) = false := beq_eq_false_iff_ne.2 n2
    simp only [Bool.not_true, Bool.not_false] at hue
    go_enter Tryz.func7, Tryz.ntmps7
    go_wp2_with (first
      | (go_at_call 9; (with_reducible refine (hC _).mono ?_); rintro x w3 ⟨rfl, hb3⟩; have hx3 := hx0.call hb3; obtain ⟨u0, u1, a0, a1, a2, a3, a4, a5, a6, a7, a8⟩ := hx3.cells)
      | (go_at_call 11; refine (hL _).mono ?_; rintro x w8 ⟨rfl, hb8⟩))
    go_ret
    exact ⟨rfl, bel_call hx3.bl hb8 (Nat.le_refl _)⟩
theorem cplxRefuses_walk (r0 i0 : Int) (hr0 : (Lit.int .u64 r0).wf = true) (hi0 : (Lit.int .u64 i0).wf = true) (size : Int) (_hs : (Lit.int .i64 size).wf = true) (p mi sh sp z : Bool) (wid prec verb : Int) (_h5 : (Lit.int .i64 wid).wf = true) (_h6 : (Lit.int .i64 prec).wf = true) (w : World) :
    Calls Tryz.prog 7 #[.agg #[.int .u64 r0, .int .u64 i0], .int .i64 size, .agg #[.bool p, .bool mi, .bool sh, .bool sp, .bool z, .int .i64 wid, .int .i64 prec, .int .i32 verb]] w fun e w' => e = .returned (.bool true) ∧ Below w.heap.size w w' := by
  obtain ⟨h0, h1⟩ := wfu64 r0 hr0
  obtain ⟨re, rfl⟩ := Int.eq_ofNat_of_zero_le h0
  obtain ⟨g0, g1⟩ := wfu64 i0 hi0
  obtain ⟨im, rfl⟩ := Int.eq_ofNat_of_zero_le g0
  have hre : re < 18446744073709551616 := by omega
  have him : im < 18446744073709551616 := by omega
  by_cases hs : size = 64 ∨ size = 128
  · obtain ⟨half, f, ww, least, I, hly, hz⟩ : ∃ (half : Int) (f ww : Nat) (least : Int) (I : Nat), Ly half f ww least I ∧ SzP size half true := by
      rcases hs with rfl | rfl
      · exact ⟨32, 23, 8, -149, 2139095040, lyA, szp64⟩
      · exact ⟨64, 52, 11, -1074, 9218868437227405312, lyB, szp128⟩
    cases hv : fVerb verb with
    | false => exact crefuses_run p mi sh sp z wid prec verb (cx_no p mi sh sp z wid prec verb hz (float_none hre p mi sh sp z wid prec verb (.inl hv))) (mv_of hv) (.inl ⟨hs, rfl⟩) (.inr ⟨rfl, rfl⟩) w
    | true =>
      obtain ⟨A, a1, -, a3, a4⟩ := fl_alike (b1 := re) (b2 := re) hly hre hre rfl rfl p mi sh sp z wid prec verb hv
      obtain ⟨B, b1, -, b3, b4⟩ := fl_alike (b1 := im) (b2 := im) hly him him rfl rfl true mi sh sp z wid prec verb hv
      refine crefuses_run p mi sh sp z wid prec verb (cx_yes p mi sh sp z wid prec verb hz a1 b1 (by omega) (by omega)) (mv_of hv) (.inl ⟨hs, rfl⟩) (.inl ⟨rfl, ?_⟩) w
      rw [app_size, app_size, app_size]; omega
  · exact crefuses_run p mi sh sp z wid prec verb (cx_size p mi sh sp z wid prec verb (szp_no (by omega) (by omega))) (mv_of rfl) (.inr ⟨⟨by omega, by omega⟩, rfl⟩) (.inr ⟨rfl, rfl⟩) w
end Go.Proofs.YthbabhbfpcfenaaGreatDoor
