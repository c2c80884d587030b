/- The walk of the law CplxPlus. -/
import Derived.Test.YthbabhbfpcfenaaGreatDoorWCplxBack
namespace Go.Proofs.YthbabhbfpcfenaaGreatDoor
open Go.RowKit
set_option linter.unusedVariables false
set_option linter.unusedSimpArgs false

set_option maxRecDepth 1000000 in
set_option maxHeartbeats 8000000 in
theorem plus_same {re im : Nat} {n half : Int} {b : Bool} {A B S0 S1 : ByteArray} {c : Nat} (p mi sh sp z : Bool) (wid prec verb : Int) (hb : HalfOf b n half) (hC0 : CxC re im n false mi sh false z (-1) prec verb S0 true) (hC1 : CxC re im n true mi sh false z (-1) prec verb S1 true) (hS0 : SpC S0 A B true) (hS1 : SpC S1 A B true) (hA : 0 < A.size) (hc : (A[0]'hA).toNat = c) (hc2 : c = 43 ∨ c = 45) (w : World) :
    Calls Tryz.prog 8 #[.agg #[.int .u64 re, .int .u64 im], .bool b, .agg #[.bool p, .bool mi, .bool sh, .bool sp, .bool z, .int .i64 wid, .int .i64 prec, .int .i32 verb]] w fun e w' => e = .returned (.bool true) ∧ Below w.heap.size w w' := by
  have hL := lives7_any
  have hx0 := Bx7.new w re im false mi sh false z (-1) prec verb
  have e1 : A.toList.isEmpty = false := empty_no A hA
  have hAI : (0 : Int) < A.size := by omega
  rcases hc2 with rfl | rfl
  all_goals
   rcases hb with ⟨rfl, rfl, rfl⟩ | ⟨rfl, rfl, rfl⟩
   all_goals
    go_enter Tryz.func8, Tryz.ntmps8
    go_wp2_with (first
      | (go_at_call_of 9 (Value.bool true); (with_reducible refine (hC1 _).mono ?_); rintro x w4 ⟨rfl, hb4⟩; have hx5 := hx4.call hb4)
      | (go_at_call 9; (with_reducible refine (hC0 _).mono ?_); rintro x w3 ⟨rfl, hb3⟩; have hx3 := hx0.call hb3; obtain ⟨u0, u1, a0, a1, a2, a3, a4, a5, a6, a7, a8⟩ := hx3.cells; have hx4 := hx3.set0 true; obtain ⟨t0, t1, c0, c1, c2, c3, c4, c5, c6, c7, c8⟩ := hx4.cells)
      | (go_at_call_of 12 S0; (with_reducible refine (hS0 _).mono ?_); rintro x w6 ⟨rfl, hb6⟩; have hx6 := hx5.call hb6)
      | (go_at_call_of 12 S1; (with_reducible refine (hS1 _).mono ?_); rintro x w7 ⟨rfl, hb7⟩; have hx7 := hx6.call hb7)
      | (go_at_call 11; refine (hL _).mono ?_; rintro x w8 ⟨rfl, hb8⟩))
    go_ret
    exact ⟨rfl, bel_call hx7.bl hb8 (Nat.le_refl _)⟩
set_option maxRecDepth 1000000 in
set_option maxHeartbeats 8000000 in
theorem plus_more {re im : Nat} {n half : Int} {b : Bool} {A B C S0 S1 : ByteArray} (p mi sh sp z : Bool) (wid prec verb : Int) (hb : HalfOf b n half) (hC0 : CxC re im n false mi sh false z (-1) prec verb S0 true) (hC1 : CxC re im n true mi sh false z (-1) prec verb S1 true) (hS0 : SpC S0 A B true) (hS1 : SpC S1 C B true) (hAC : (⟨#[43]⟩ : ByteArray) ++ A = C) (hne : ¬ A = C) (hC : 0 < C.size) (hc : (C[0]'hC).toNat = 43) (z1 : ¬ 9223372036854775807 < (⟨#[43]⟩ : ByteArray).size + A.size) (w : World) :
    Calls Tryz.prog 8 #[.agg #[.int .u64 re, .int .u64 im], .bool b, .agg #[.bool p, .bool mi, .bool sh, .bool sp, .bool z, .int .i64 wid, .int .i64 prec, .int .i32 verb]] w fun e w' => e = .returned (.bool true) ∧ Below w.heap.size w w' := by
  have hL := lives7_any
  have hx0 := Bx7.new w re im false mi sh false z (-1) prec verb
  have e1 : C.toList.isEmpty = false := empty_no C hC
  have hCI : (0 : Int) < C.size := by omega
  rcases hb with ⟨rfl, rfl, rfl⟩ | ⟨rfl, rfl, rfl⟩
  all_goals
    go_enter Tryz.func8, Tryz.ntmps8
    go_wp2_with (first
      | (go_at_call_of 9 (Value.bool true); (with_reducible refine (hC1 _).mono ?_); rintro x w4 ⟨rfl, hb4⟩; have hx5 := hx4.call hb4)
      | (go_at_call 9; (with_reducible refine (hC0 _).mono ?_); rintro x w3 ⟨rfl, hb3⟩; have hx3 := hx0.call hb3; obtain ⟨u0, u1, a0, a1, a2, a3, a4, a5, a6, a7, a8⟩ := hx3.cells; have hx4 := hx3.set0 true; obtain ⟨t0, t1, c0, c1, c2, c3, c4, c5, c6, c7, c8⟩ := hx4.cells)
      | (go_at_call_of 12 S0; (with_reducible refine (hS0 _).mono ?_); rintro x w6 ⟨rfl, hb6⟩; have hx6 := hx5.call hb6)
      | (go_at_call_of 12 S1; (with_reducible refine (hS1 _).mono ?_); rintro x w7 ⟨rfl, hb7⟩; have hx7 := hx6.call hb7)
      | (go_at_call 11; refine (hL _).mono ?_; rintro x w8 ⟨rfl, hb8⟩))
    all_goals (go_ret; exact ⟨rfl, bel_call hx7.bl hb8 (Nat.le_refl _)⟩)
set_option maxRecDepth 1000000 in
set_option maxHeartbeats 8000000 in
theorem plus_no {re im : Nat} {n half : Int} {b : Bool} (p mi sh sp z : Bool) (wid prec verb : Int) (hb : HalfOf b n half) (hC0 : CxC re im n false mi sh false z (-1) prec verb ⟨#[]⟩ false) (hC1 : CxC re im n true mi sh false z (-1) prec verb ⟨#[]⟩ false) (w : World) :
    Calls Tryz.prog 8 #[.agg #[.int .u64 re, .int .u64 im], .bool b, .agg #[.bool p, .bool mi, .bool sh, .bool sp, .bool z, .int .i64 wid, .int .i64 prec, .int .i32 verb]] w fun e w' => e = .returned (.bool true) ∧ Below w.heap.size w w' := by
  have hL := lives7_any
  have hx0 := Bx7.new w re im false mi sh false z (-1) prec verb
  rcases hb with ⟨rfl, rfl, rfl⟩ | ⟨rfl, rfl, rfl⟩
  all_goals
    go_enter Tryz.func8, Tryz.ntmps8
    go_wp2_with (first
      | (go_at_call_of 9 (Value.bool true); (with_reducible refine (hC1 _).mono ?_); rintro x w4 ⟨rfl, hb4⟩; have hx5 := hx4.call hb4)
      | (go_at_call 9; (with_reducible refine (hC0 _).mono ?_); rintro x w3 ⟨rfl, hb3⟩; have hx3 := hx0.call hb3; obtain ⟨u0, u1, a0, a1, a2, a3, a4, a5, a6, a7, a8⟩ := hx3.cells; have hx4 := hx3.set0 true; obtain ⟨t0, t1, c0, c1, c2, c3, c4, c5, c6, c7, c8⟩ := hx4.cells)
      | (go_at_call 11; refine (hL _).mono ?_; rintro x w8 ⟨rfl, hb8⟩))
    go_ret
    exact ⟨rfl, bel_call hx5.bl hb8 (Nat.le_refl _)⟩
theorem at_app (s t : ByteArray) {c : UInt8} (hs : s.data.toList = [c]) (h : 0 < (s ++ t).size) : (s ++ t)[0]'h = c := by
  rw [← getD_at (s ++ t) h, app_list, hs]; rfl
theorem cplxPlus_walk (r0 i0 : Int) (hr0 : (Lit.int .u64 r0).wf = true) (hi0 : (Lit.int .u64 i0).wf = true) (b : Bool) (p mi sh sp z : Bool) (wid prec verb : Int) (_h5 : (Lit.int .i64 wid).wf = true) (_h6 : (Lit.int .i64 prec).wf = true) (w : World) :
    Calls Tryz.prog 8 #[.agg #[.int .u64 r0, .int .u64 i0], .bool b, .agg #[.bool p, .bool mi, .bool sh, .bool sp, .bool z, .int .i64 wid, .int .i64 prec, .int .i32 verb]] w fun e w' => e = .returned (.bool true) ∧ Below w.heap.size w w' := by
  obtain ⟨h0, h1⟩ := wfu64 r0 hr0
  obtain ⟨re, rfl⟩ := Int.eq_ofNat_of_zero_le h0
  obtain ⟨g0, g1⟩ := wfu64 i0 hi0
  obtain ⟨im, rfl⟩ := Int.eq_ofNat_of_zero_le g0
  have hre : re < 18446744073709551616 := by omega
  have him : im < 18446744073709551616 := by omega
  obtain ⟨n, half, f, ww, least, I, hly, hbn, hz⟩ : ∃ (n half : Int) (f ww : Nat) (least : Int) (I : Nat), Ly half f ww least I ∧ HalfOf b n half ∧ SzP n half true := by
    cases b with
    | true => exact ⟨128, 64, 52, 11, -1074, 9218868437227405312, lyB, .inl ⟨rfl, rfl, rfl⟩, szp128⟩
    | false => exact ⟨64, 32, 23, 8, -149, 2139095040, lyA, .inr ⟨rfl, rfl, rfl⟩, szp64⟩
  cases hv : fVerb verb with
  | false => exact plus_no p mi sh sp z wid prec verb hbn (cx_no false mi sh false z (-1) prec verb hz (float_none hre false mi sh false z (-1) prec verb (.inl hv))) (cx_no true mi sh false z (-1) prec verb hz (float_none hre true mi sh false z (-1) prec verb (.inl hv))) w
  | true =>
    obtain ⟨s0, s1, T, hA, hA1, hT, zs, hs, hse, zT⟩ := fl_bare hly hre false mi sh false z wid prec verb hv
    obtain ⟨q0, q1, U, -, hB, hU, -, hq, -, zU⟩ := fl_bare hly him false mi sh false z wid prec verb hv
    have e1 := app_size s0 T
    have e2 := app_size q1 U
    have e3 := app_size s1 T
    have zr : q1.size = 1 := by rcases hq with rfl | rfl <;> rfl
    have zs1 : s1.size = 1 := by rcases hs with rfl | rfl <;> rfl
    have C0 := cx_yes false mi sh false z (-1) prec verb hz hA hB (by omega) (by omega)
    have C1 := cx_yes true mi sh false z (-1) prec verb hz hA1 hB (by omega) (by omega)
    have S0 := split_pair hT hU hq zs zT zU
    have S1 := split_pair hT hU hq (Nat.le_of_eq zs1) zT zU
    have hp : 0 < (s1 ++ T).size := by omega
    rcases hse rfl rfl with rfl | ⟨rfl, rfl⟩
    · rcases hs with rfl | rfl
      · exact plus_same p mi sh sp z wid prec verb hbn C0 C1 S0 S1 hp (c := 43) (by rw [at_app _ _ rfl]; rfl) (.inl rfl) w
      · exact plus_same p mi sh sp z wid prec verb hbn C0 C1 S0 S1 hp (c := 45) (by rw [at_app _ _ rfl]; rfl) (.inr rfl) w
    · refine plus_more p mi sh sp z wid prec verb hbn C0 C1 S0 S1 ?_ ?_ hp (by rw [at_app _ _ rfl]; rfl) ?_ w
      · refine ba_ext ?_
        simp only [app_list]; rfl
      · intro e
        have := congrArg ByteArray.size e
        rw [app_size, app_size, show (⟨#[]⟩ : ByteArray).size = 0 from rfl, show (⟨#[43]⟩ : ByteArray).size = 1 from rfl] at this
        omega
      · rw [show (⟨#[43]⟩ : ByteArray).size = 1 from rfl]; omega
end Go.Proofs.YthbabhbfpcfenaaGreatDoor
