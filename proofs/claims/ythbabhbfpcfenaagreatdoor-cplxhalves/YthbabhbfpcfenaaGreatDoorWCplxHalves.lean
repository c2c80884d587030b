/- The walk of the law CplxHalves. -/
import Derived.Test.YthbabhbfpcfenaaGreatDoorCBox
namespace Go.Proofs.YthbabhbfpcfenaaGreatDoor
open Go.RowKit
set_option linter.unusedVariables false
set_option linter.unusedSimpArgs false

set_option maxRecDepth 1000000 in
set_option maxHeartbeats 4000000 in
theorem halves_run {re im re2 im2 : Nat} {S : ByteArray} {ok : Bool} (p mi sh sp z : Bool) (wid prec verb : Int) (hr : Go.bits BinOp.and IntKind.u64 (re : Int) 4294967295 = (re2 : Nat)) (hi : Go.bits BinOp.and IntKind.u64 (im : Int) 4294967295 = (im2 : Nat)) (hA : CxC re im 64 p mi sh sp z wid prec verb S ok) (hB : CxC re2 im2 64 p mi sh sp z wid prec verb S ok) (w : World) :
    Calls Tryz.prog 6 #[.agg #[.int .u64 re, .int .u64 im], .agg #[.bool p, .bool mi, .bool sh, .bool sp, .bool z, .int .i64 wid, .int .i64 prec, .int .i32 verb]] w fun e w' => e = .returned (.bool true) ∧ Below w.heap.size w w' := by
  have hL := lives7_any
  have hx0 := Bx7.new w re im p mi sh sp z wid prec verb
  go_enter Tryz.func6, Tryz.ntmps6
  go_wp2_with (first
    | (go_at_call_of 9 ((re : Nat) : Int); (with_reducible refine (hA _).mono ?_); rintro x w3 ⟨rfl, hb3⟩; have hx3 := hx0.call hb3; obtain ⟨u0, u1, a0, a1, a2, a3, a4, a5, a6, a7, a8⟩ := hx3.cells)
    | (go_at_call_of 9 ((re2 : Nat) : Int); (with_reducible refine (hB _).mono ?_); rintro x w4 ⟨rfl, hb4⟩; have hx4 := hx3.call hb4)
    | (go_at_call 11; refine (hL _).mono ?_; rintro x w8 ⟨rfl, hb8⟩))
  go_ret
  exact ⟨rfl, bel_call hx4.bl hb8 (Nat.le_refl _)⟩
theorem cplxHalves_walk (r0 i0 : Int) (hr0 : (Lit.int .u64 r0).wf = true) (hi0 : (Lit.int .u64 i0).wf = true) (p mi sh sp z : Bool) (wid prec verb : Int) (_h5 : (Lit.int .i64 wid).wf = true) (_h6 : (Lit.int .i64 prec).wf = true) (w : World) :
    Calls Tryz.prog 6 #[.agg #[.int .u64 r0, .int .u64 i0], .agg #[.bool p, .bool mi, .bool sh, .bool sp, .bool z, .int .i64 wid, .int .i64 prec, .int .i32 verb]] w fun e w' => e = .returned (.bool true) ∧ Below w.heap.size w w' := by
  obtain ⟨h0, h1⟩ := wfu64 r0 hr0
  obtain ⟨re, rfl⟩ := Int.eq_ofNat_of_zero_le h0
  obtain ⟨g0, g1⟩ := wfu64 i0 hi0
  obtain ⟨im, rfl⟩ := Int.eq_ofNat_of_zero_le g0
  have hre : re < 18446744073709551616 := by omega
  have him : im < 18446744073709551616 := by omega
  have er := bits_low re 32 4294967295 hre rfl (by decide)
  have ei := bits_low im 32 4294967295 him rfl (by decide)
  have lr : re % (4294967295 + 1) < 4294967296 := Nat.mod_lt _ (by decide)
  have li : im % (4294967295 + 1) < 4294967296 := Nat.mod_lt _ (by decide)
  have k1 : ∀ x : Nat, bare 23 8 x = bare 23 8 (x % (4294967295 + 1)) := fun x => by
    show x % 2147483648 = x % 4294967296 % 2147483648
    omega
  have k2 : ∀ x : Nat, sgn 23 8 x = sgn 23 8 (x % (4294967295 + 1)) := fun x => by
    show decide (x / 2147483648 % 2 = 1) = decide (x % 4294967296 / 2147483648 % 2 = 1)
    have : x / 2147483648 % 2 = x % 4294967296 / 2147483648 % 2 := by omega
    rw [this]
  cases hv : fVerb verb with
  | false => exact halves_run p mi sh sp z wid prec verb er ei (cx_no p mi sh sp z wid prec verb szp64 (float_none hre p mi sh sp z wid prec verb (.inl hv))) (cx_no p mi sh sp z wid prec verb szp64 (float_none (by omega) p mi sh sp z wid prec verb (.inl hv))) w
  | true =>
    obtain ⟨A, a1, a2, a3, a4⟩ := fl_alike (b1 := re) (b2 := re % (4294967295 + 1)) lyA hre (by omega) (k1 re) (k2 re) p mi sh sp z wid prec verb hv
    obtain ⟨B, b1, b2, b3, b4⟩ := fl_alike (b1 := im) (b2 := im % (4294967295 + 1)) lyA him (by omega) (k1 im) (k2 im) true mi sh sp z wid prec verb hv
    exact halves_run p mi sh sp z wid prec verb er ei (cx_yes p mi sh sp z wid prec verb szp64 a1 b1 (by omega) (by omega)) (cx_yes p mi sh sp z wid prec verb szp64 a2 b2 (by omega) (by omega)) w
end Go.Proofs.YthbabhbfpcfenaaGreatDoor
