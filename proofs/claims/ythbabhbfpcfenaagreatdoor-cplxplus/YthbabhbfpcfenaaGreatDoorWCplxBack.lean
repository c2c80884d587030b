/- The walk of the law CplxBack. -/
import Derived.Test.YthbabhbfpcfenaaGreatDoorCBox
namespace Go.Proofs.YthbabhbfpcfenaaGreatDoor
open Go.RowKit
set_option linter.unusedVariables false
set_option linter.unusedSimpArgs false

abbrev HalfOf (b : Bool) (n half : Int) : Prop := b = true ∧ n = 128 ∧ half = 64 ∨ b = false ∧ n = 64 ∧ half = 32
set_option maxRecDepth 1000000 in
set_option maxHeartbeats 8000000 in
theorem back_yes {re im : Nat} {n half : Int} {b : Bool} {A B S : ByteArray} (p mi sh sp z : Bool) (wid prec verb : Int) (hb : HalfOf b n half) (hC : CxC re im n p mi sh sp z (-1) prec verb S true) (hA : FlC re half p mi sh sp z (-1) prec verb A true) (hB : FlC im half true mi sh sp z (-1) prec verb B true) (hS : SpC S A B true) (hSe : ((⟨#[40]⟩ : ByteArray) ++ A ++ B) ++ ⟨#[105, 41]⟩ = S) (z1 : ¬ 9223372036854775807 < (⟨#[40]⟩ : ByteArray).size + A.size) (z2 : ¬ 9223372036854775807 < ((⟨#[40]⟩ : ByteArray) ++ A).size + B.size) (z3 : ¬ 9223372036854775807 < ((⟨#[40]⟩ : ByteArray) ++ A ++ B).size + (⟨#[105, 41]⟩ : ByteArray).size) (w : World) :
    Calls Tryz.prog 5 #[.agg #[.int .u64 re, .int .u64 im], .bool b, .agg #[.bool p, .bool mi, .bool sh, .bool sp, .bool z, .int .i64 wid, .int .i64 prec, .int .i32 verb]] w fun e w' => e = .returned (.bool true) ∧ Below w.heap.size w w' := by
  have hL := lives7_any
  have hx0 := Bx7.new w re im p mi sh sp z (-1) prec verb
  rcases hb with ⟨rfl, rfl, rfl⟩ | ⟨rfl, rfl, rfl⟩
  all_goals
    go_enter Tryz.func5, Tryz.ntmps5
    go_wp2_with (first
      | (go_at_call 9; (with_reducible refine (hC _).mono ?_); rintro x w3 ⟨rfl, hb3⟩; have hx3 := hx0.call hb3; obtain ⟨u0, u1, a0, a1, a2, a3, a4, a5, a6, a7, a8⟩ := hx3.cells)
      | (go_at_call_of 14 ((re : Nat) : Int); (with_reducible refine (hA _).mono ?_); rintro x w4 ⟨rfl, hb4⟩; have hx4 := hx3.call hb4; obtain ⟨v0, v1, b0, b1, b2, b3, b4, b5, b6, b7, b8⟩ := hx4.cells; have hx5 := hx4.set0 true; obtain ⟨t0, t1, c0, c1, c2, c3, c4, c5, c6, c7, c8⟩ := hx5.cells)
      | (go_at_call_of 14 ((im : Nat) : Int); (with_reducible refine (hB _).mono ?_); rintro x w6 ⟨rfl, hb6⟩; have hx6 := hx5.call hb6)
      | (go_at_call 12; (with_reducible refine (hS _).mono ?_); rintro x w7 ⟨rfl, hb7⟩; have hx7 := hx6.call hb7)
      | (go_at_call 11; refine (hL _).mono ?_; rintro x w8 ⟨rfl, hb8⟩))
    go_ret
    exact ⟨rfl, bel_call hx7.bl hb8 (Nat.le_refl _)⟩
set_option maxRecDepth 1000000 in
set_option maxHeartbeats 8000000 in
theorem back_no {re im : Nat} {n half : Int} {b : Bool} (p mi sh sp z : Bool) (wid prec verb : Int) (hb : HalfOf b n half) (hC : CxC re im n p mi sh sp z (-1) prec verb ⟨#[]⟩ false) (hA : FlC re half p mi sh sp z (-1) prec verb ⟨#[]⟩ false) (hB : FlC im half true mi sh sp z (-1) prec verb ⟨#[]⟩ false) (w : World) :
    Calls Tryz.prog 5 #[.agg #[.int .u64 re, .int .u64 im], .bool b, .agg #[.bool p, .bool mi, .bool sh, .bool sp, .bool z, .int .i64 wid, .int .i64 prec, .int .i32 verb]] w fun e w' => e = .returned (.bool true) ∧ Below w.heap.size w w' := by
  have hL := lives7_any
  have hx0 := Bx7.new w re im p mi sh sp z (-1) prec verb
  rcases hb with ⟨rfl, rfl, rfl⟩ | ⟨rfl, rfl, rfl⟩
  all_goals
    go_enter Tryz.func5, Tryz.ntmps5
    go_wp2_with (first
      | (go_at_call 9; (with_reducible refine (hC _).mono ?_); rintro x w3 ⟨rfl, hb3⟩; have hx3 := hx0.call hb3; obtain ⟨u0, u1, a0, a1, a2, a3, a4, a5, a6, a7, a8⟩ := hx3.cells)
      | (go_at_call_of 14 ((re : Nat) : Int); (with_reducible refine (hA _).mono ?_); rintro x w4 ⟨rfl, hb4⟩; have hx4 := hx3.call hb4; obtain ⟨v0, v1, b0, b1, b2, b3, b4, b5, b6, b7, b8⟩ := hx4.cells; have hx5 := hx4.set0 true; obtain ⟨t0, t1, c0, c1, c2, c3, c4, c5, c6, c7, c8⟩ := hx5.cells)
      | (go_at_call_of 14 ((im : Nat) : Int); (with_reducible refine (hB _).mono ?_); rintro x w6 ⟨rfl, hb6⟩; have hx6 := hx5.call hb6)
      | (go_at_call 11; refine (hL _).mono ?_; rintro x w8 ⟨rfl, hb8⟩))
    go_ret
    exact ⟨rfl, bel_call hx6.bl hb8 (Nat.le_refl _)⟩
theorem cplxBack_walk (r0 i0 : Int) (hr0 : (Lit.int .u64 r0).wf = true) (hi0 : (Lit.int .u64 i0).wf = true) (b : Bool) (p mi sh sp z : Bool) (wid prec verb : Int) (_h5 : (Lit.int .i64 wid).wf = true) (_h6 : (Lit.int .i64 prec).wf = true) (w : World) :
    Calls Tryz.prog 5 #[.agg #[.int .u64 r0, .int .u64 i0], .bool b, .agg #[.bool p, .bool mi, .bool sh, .bool sp, .bool z, .int .i64 wid, .int .i64 prec, .int .i32 verb]] w fun e w' => e = .returned (.bool true) ∧ Below w.heap.size w w' := by
  obtain ⟨h0, h1⟩ := wfu64 r0 hr0
  obtain ⟨re, rfl⟩ := Int.eq_ofNat_of_zero_le h0
  obtain ⟨g0, g1⟩ := wfu64 i0 hi0
  obtain ⟨im, rfl⟩ := Int.eq_ofNat_of_zero_le g0
  have hre : re < 18446744073709551616 := by omega
  have him : im < 18446744073709551616 := by omega
  obtain ⟨n, half, f, ww, least, I, hly, hbn, hz⟩ : ∃ (n half : Int) (f ww : Nat) (least : Int) (I : Nat), Ly half f ww least I ∧ HalfOf b n half ∧ SzP n half true := by
    cases b with
    | true => exact ⟨128, 64, 52, 11, -1074, 9218868437227405312, lyB, .inl ⟨rfl, rfl, rfl⟩, szp128⟩
    | false => exact ⟨64, 32, 23, 8, -149, 2139095040, lyA, .inr ⟨rfl, rfl, rfl⟩, szp64⟩
  cases hv : fVerb verb with
  | false =>
    have A : FlC re half p mi sh sp z (-1) prec verb ⟨#[]⟩ false := float_none hre p mi sh sp z (-1) prec verb (.inl hv)
    have B : FlC im half true mi sh sp z (-1) prec verb ⟨#[]⟩ false := float_none him true mi sh sp z (-1) prec verb (.inl hv)
    exact back_no p mi sh sp z wid prec verb hbn (cx_no p mi sh sp z (-1) prec verb hz A) A B w
  | true =>
    obtain ⟨s0, s1, T, hA, -, hT, zs, -, -, zT⟩ := fl_bare hly hre p mi sh sp z wid prec verb hv
    obtain ⟨r0, r1, U, -, hB, hU, -, hr, -, zU⟩ := fl_bare hly him p mi sh sp z wid prec verb hv
    have e1 := app_size s0 T
    have e2 := app_size r1 U
    have zr : r1.size = 1 := by rcases hr with rfl | rfl <;> rfl
    refine back_yes p mi sh sp z wid prec verb hbn (cx_yes p mi sh sp z (-1) prec verb hz hA hB (by omega) (by omega)) hA hB (split_pair hT hU hr zs zT zU) rfl ?_ ?_ ?_ w
    · rw [show (⟨#[40]⟩ : ByteArray).size = 1 from rfl]; omega
    · rw [app_size, show (⟨#[40]⟩ : ByteArray).size = 1 from rfl]; omega
    · rw [app_size, app_size, show (⟨#[40]⟩ : ByteArray).size = 1 from rfl, show (⟨#[105, 41]⟩ : ByteArray).size = 2 from rfl]; omega
end Go.Proofs.YthbabhbfpcfenaaGreatDoor
