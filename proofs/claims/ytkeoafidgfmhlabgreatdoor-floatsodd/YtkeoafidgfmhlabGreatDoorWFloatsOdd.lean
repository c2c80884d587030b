/- The walk of the law FloatsOdd. -/
import Derived.Test.YtkeoafidgfmhlabGreatDoorPkF26
import Derived.Test.YtkeoafidgfmhlabGreatDoorFOdd1
import Derived.Test.YtkeoafidgfmhlabGreatDoorFOdd2
import Derived.Test.YtkeoafidgfmhlabGreatDoorFOdd3
namespace Go.Proofs.YtkeoafidgfmhlabGreatDoor
open Go.RowKit
set_option linter.unusedVariables false
set_option linter.unusedSimpArgs false

set_option maxRecDepth 1000000 in
set_option maxHeartbeats 4000000 in
theorem odd_fin {bits m : Nat} {n x : Int} {b sg : Bool} (p mi sh sp z : Bool) (wid prec verb : Int) (hZ : Si6 b n) (hP : PtC bits n sg m x 0) (w : World) :
    Calls Tryz.prog 3 #[.int .u64 bits, .bool b, .agg #[.bool p, .bool mi, .bool sh, .bool sp, .bool z, .int .i64 wid, .int .i64 prec, .int .i32 verb]] w fun e w' => e = .returned (.bool true) ∧ Below w.heap.size w w' := by
  have hL := lives6_any
  have hbA : Below w.heap.size w (w.alloc (.cells #[.bool p, .bool mi, .bool sh, .bool sp, .bool z, .int .i64 wid, .int .i64 prec, .int .i32 verb] 24)) := (Below.refl _ _).alloc (Nat.le_refl _) _
  go_enter Tryz.func3, Tryz.ntmps3
  go_wp2_with (first
    | (go_at_call 9; (with_reducible refine (hZ _).mono ?_); rintro x w2 ⟨rfl, rfl⟩)
    | (go_at_call 10; (with_reducible refine (hP _).mono ?_); rintro x w3 ⟨rfl, hb3⟩; obtain ⟨y3, rfl⟩ := Cl.start hb3)
    | (go_at_call 11; refine (hL _).mono ?_; rintro x w4 ⟨rfl, hb4⟩; obtain ⟨y4, rfl⟩ := Cl.next hb4))
  go_ret
  exact ⟨rfl, bel_call hbA y4.below (Nat.le_refl _)⟩
set_option maxRecDepth 1000000 in
set_option maxHeartbeats 4000000 in
theorem odd_no {bits m : Nat} {n x k : Int} {b sg : Bool} (p mi sh sp z : Bool) (wid prec verb : Int) (hk : ¬ k = 0) (hZ : Si6 b n) (hP : PtC bits n sg m x k) (hF : FlC bits n p mi sh sp z wid prec verb ⟨#[]⟩ false) (hV : MvC verb false) (w : World) :
    Calls Tryz.prog 3 #[.int .u64 bits, .bool b, .agg #[.bool p, .bool mi, .bool sh, .bool sp, .bool z, .int .i64 wid, .int .i64 prec, .int .i32 verb]] w fun e w' => e = .returned (.bool true) ∧ Below w.heap.size w w' := by
  have hL := lives6_any
  have hbA : Below w.heap.size w (w.alloc (.cells #[.bool p, .bool mi, .bool sh, .bool sp, .bool z, .int .i64 wid, .int .i64 prec, .int .i32 verb] 24)) := (Below.refl _ _).alloc (Nat.le_refl _) _
  have f0 : ∀ x : Cl (w.alloc (.cells #[.bool p, .bool mi, .bool sh, .bool sp, .bool z, .int .i64 wid, .int .i64 prec, .int .i32 verb] 24)), x.w.cell? ⟨w.heap.size, 0, none⟩ = some (.bool p) := fun x => x.cell (by simp)
  have f1 : ∀ x : Cl (w.alloc (.cells #[.bool p, .bool mi, .bool sh, .bool sp, .bool z, .int .i64 wid, .int .i64 prec, .int .i32 verb] 24)), x.w.cell? ⟨w.heap.size, 1, none⟩ = some (.bool mi) := fun x => x.cell (by simp)
  have f2 : ∀ x : Cl (w.alloc (.cells #[.bool p, .bool mi, .bool sh, .bool sp, .bool z, .int .i64 wid, .int .i64 prec, .int .i32 verb] 24)), x.w.cell? ⟨w.heap.size, 2, none⟩ = some (.bool sh) := fun x => x.cell (by simp)
  have f3 : ∀ x : Cl (w.alloc (.cells #[.bool p, .bool mi, .bool sh, .bool sp, .bool z, .int .i64 wid, .int .i64 prec, .int .i32 verb] 24)), x.w.cell? ⟨w.heap.size, 3, none⟩ = some (.bool sp) := fun x => x.cell (by simp)
  have f4 : ∀ x : Cl (w.alloc (.cells #[.bool p, .bool mi, .bool sh, .bool sp, .bool z, .int .i64 wid, .int .i64 prec, .int .i32 verb] 24)), x.w.cell? ⟨w.heap.size, 4, none⟩ = some (.bool z) := fun x => x.cell (by simp)
  have f5 : ∀ x : Cl (w.alloc (.cells #[.bool p, .bool mi, .bool sh, .bool sp, .bool z, .int .i64 wid, .int .i64 prec, .int .i32 verb] 24)), x.w.cell? ⟨w.heap.size, 5, none⟩ = some (.int .i64 wid) := fun x => x.cell (by simp)
  have f6 : ∀ x : Cl (w.alloc (.cells #[.bool p, .bool mi, .bool sh, .bool sp, .bool z, .int .i64 wid, .int .i64 prec, .int .i32 verb] 24)), x.w.cell? ⟨w.heap.size, 6, none⟩ = some (.int .i64 prec) := fun x => x.cell (by simp)
  have f7 : ∀ x : Cl (w.alloc (.cells #[.bool p, .bool mi, .bool sh, .bool sp, .bool z, .int .i64 wid, .int .i64 prec, .int .i32 verb] 24)), x.w.cell? ⟨w.heap.size, 7, none⟩ = some (.int .i32 verb) := fun x => x.cell (by simp)
  have b1 : (k == 0) = false := by simp [hk]
  go_enter Tryz.func3, Tryz.ntmps3
  go_wp2_with (first
    | (go_at_call 9; (with_reducible refine (hZ _).mono ?_); rintro x w2 ⟨rfl, rfl⟩)
    | (go_at_call 10; (with_reducible refine (hP _).mono ?_); rintro x w3 ⟨rfl, hb3⟩; obtain ⟨y3, rfl⟩ := Cl.start hb3)
    | (go_at_call 12; (with_reducible refine (hF _).mono ?_); rintro x w4 ⟨rfl, hb4⟩; obtain ⟨y4, rfl⟩ := Cl.next hb4)
    | (go_at_call 13; (with_reducible refine (hV _).mono ?_); rintro x w5 ⟨rfl, hb5⟩; obtain ⟨y5, rfl⟩ := Cl.next hb5)
    | (go_at_call 11; refine (hL _).mono ?_; rintro x w6 ⟨rfl, hb6⟩; obtain ⟨y6, rfl⟩ := Cl.next hb6))
  go_ret
  exact ⟨rfl, bel_call hbA y6.below (Nat.le_refl _)⟩
/-- What the laws' Fill makes is what is lacking. -/
theorem fill_lk (L : Nat) (wid : Int) (w : World) : Calls Tryz.prog 14 #[.int .u8 32, .int .i64 (max 0 (min wid 1000) - (L : Int))] w fun e w' => e = .returned (.string (run 32 (wdt ((wdt wid : Nat) - (L : Nat) : Int)))) ∧ Below w.heap.size w w' := by
  have := fill_any 32 (max 0 (min wid 1000) - (L : Int)) w
  have e : max 0 (min wid 1000) - (L : Int) = (wdt wid : Nat) - (L : Nat) := by unfold wdt; omega
  rw [e] at this ⊢
  exact this
theorem floatsOdd_walk (m0 : Int) (hm0 : (Lit.int .u64 m0).wf = true) (b : Bool) (p mi sh sp z : Bool) (wid prec verb : Int) (_h5 : (Lit.int .i64 wid).wf = true) (_h6 : (Lit.int .i64 prec).wf = true) (w : World) :
    Calls Tryz.prog 3 #[.int .u64 m0, .bool b, .agg #[.bool p, .bool mi, .bool sh, .bool sp, .bool z, .int .i64 wid, .int .i64 prec, .int .i32 verb]] w fun e w' => e = .returned (.bool true) ∧ Below w.heap.size w w' := by
  obtain ⟨h0, h1⟩ := wfu64 m0 hm0
  obtain ⟨bits, rfl⟩ := Int.eq_ofNat_of_zero_le h0
  have hb : bits < 18446744073709551616 := by omega
  obtain ⟨f, ww, least, I, hly, -, -⟩ := ly_of b
  have hZ := sized6_any b
  have hpt := ptc_any hly hb
  rcases Nat.lt_trichotomy (bare f ww bits) I with hp | hp | hp
  · have e3 : ptK f ww I bits = 0 := by unfold ptK; rw [if_pos hp]
    rw [e3] at hpt
    exact odd_fin p mi sh sp z wid prec verb hZ hpt w
  · have e3 : ptK f ww I bits = 1 := by unfold ptK; rw [if_neg (by omega), if_pos hp]
    rw [e3] at hpt
    cases hv : fVerb verb with
    | false => exact odd_no p mi sh sp z wid prec verb (by decide) hZ hpt (float_none hb p mi sh sp z wid prec verb (.inl hv)) (by have := mverb_any verb; rw [hv] at this; exact this) w
    | true =>
      have hF := (float_odd hly hb p mi sh sp z wid prec verb hv).1 hp
      rw [padS_asc ((asc_sgI _ _ _).app (Asc.lit (l := [73, 110, 102]) (by decide)))] at hF
      generalize sgn f ww bits = sg at *
      cases sg <;> cases p <;> cases sp <;> cases mi
      · exact odd_ifff_false sh z wid prec verb hZ hpt hF (fill_lk 4 wid) rfl (by rw [run_size]; have := wdt_le (((wdt wid : Nat) : Int) - (4 : Nat)); show ¬ 9223372036854775807 < _ + 4; omega) w
      · exact odd_ifff_true sh z wid prec verb hZ hpt hF (fill_lk 4 wid) rfl (by rw [run_size]; have := wdt_le (((wdt wid : Nat) : Int) - (4 : Nat)); show ¬ 9223372036854775807 < 4 + _; omega) w
      · exact odd_ifft_false sh z wid prec verb hZ hpt hF (fill_lk 4 wid) rfl (by rw [run_size]; have := wdt_le (((wdt wid : Nat) : Int) - (4 : Nat)); show ¬ 9223372036854775807 < _ + 4; omega) w
      · exact odd_ifft_true sh z wid prec verb hZ hpt hF (fill_lk 4 wid) rfl (by rw [run_size]; have := wdt_le (((wdt wid : Nat) : Int) - (4 : Nat)); show ¬ 9223372036854775807 < 4 + _; omega) w
      · exact odd_iftf_false sh z wid prec verb hZ hpt hF (fill_lk 4 wid) rfl (by rw [run_size]; have := wdt_le (((wdt wid : Nat) : Int) - (4 : Nat)); show ¬ 9223372036854775807 < _ + 4; omega) w
      · exact odd_iftf_true sh z wid prec verb hZ hpt hF (fill_lk 4 wid) rfl (by rw [run_size]; have := wdt_le (((wdt wid : Nat) : Int) - (4 : Nat)); show ¬ 9223372036854775807 < 4 + _; omega) w
      · exact odd_iftt_false sh z wid prec verb hZ hpt hF (fill_lk 4 wid) rfl (by rw [run_size]; have := wdt_le (((wdt wid : Nat) : Int) - (4 : Nat)); show ¬ 9223372036854775807 < _ + 4; omega) w
      · exact odd_iftt_true sh z wid prec verb hZ hpt hF (fill_lk 4 wid) rfl (by rw [run_size]; have := wdt_le (((wdt wid : Nat) : Int) - (4 : Nat)); show ¬ 9223372036854775807 < 4 + _; omega) w
      · exact odd_itff_false sh z wid prec verb hZ hpt hF (fill_lk 4 wid) rfl (by rw [run_size]; have := wdt_le (((wdt wid : Nat) : Int) - (4 : Nat)); show ¬ 9223372036854775807 < _ + 4; omega) w
      · exact odd_itff_true sh z wid prec verb hZ hpt hF (fill_lk 4 wid) rfl (by rw [run_size]; have := wdt_le (((wdt wid : Nat) : Int) - (4 : Nat)); show ¬ 9223372036854775807 < 4 + _; omega) w
      · exact odd_itft_false sh z wid prec verb hZ hpt hF (fill_lk 4 wid) rfl (by rw [run_size]; have := wdt_le (((wdt wid : Nat) : Int) - (4 : Nat)); show ¬ 9223372036854775807 < _ + 4; omega) w
      · exact odd_itft_true sh z wid prec verb hZ hpt hF (fill_lk 4 wid) rfl (by rw [run_size]; have := wdt_le (((wdt wid : Nat) : Int) - (4 : Nat)); show ¬ 9223372036854775807 < 4 + _; omega) w
      · exact odd_ittf_false sh z wid prec verb hZ hpt hF (fill_lk 4 wid) rfl (by rw [run_size]; have := wdt_le (((wdt wid : Nat) : Int) - (4 : Nat)); show ¬ 9223372036854775807 < _ + 4; omega) w
      · exact odd_ittf_true sh z wid prec verb hZ hpt hF (fill_lk 4 wid) rfl (by rw [run_size]; have := wdt_le (((wdt wid : Nat) : Int) - (4 : Nat)); show ¬ 9223372036854775807 < 4 + _; omega) w
      · exact odd_ittt_false sh z wid prec verb hZ hpt hF (fill_lk 4 wid) rfl (by rw [run_size]; have := wdt_le (((wdt wid : Nat) : Int) - (4 : Nat)); show ¬ 9223372036854775807 < _ + 4; omega) w
      · exact odd_ittt_true sh z wid prec verb hZ hpt hF (fill_lk 4 wid) rfl (by rw [run_size]; have := wdt_le (((wdt wid : Nat) : Int) - (4 : Nat)); show ¬ 9223372036854775807 < 4 + _; omega) w
  · have e3 : ptK f ww I bits = 2 := by unfold ptK; rw [if_neg (by omega), if_neg (by omega)]
    rw [e3] at hpt
    cases hv : fVerb verb with
    | false => exact odd_no p mi sh sp z wid prec verb (by decide) hZ hpt (float_none hb p mi sh sp z wid prec verb (.inl hv)) (by have := mverb_any verb; rw [hv] at this; exact this) w
    | true =>
      have hF := (float_odd hly hb p mi sh sp z wid prec verb hv).2 hp
      rw [padS_asc ((asc_sgF _ _ _).app (Asc.lit (l := [78, 97, 78]) (by decide)))] at hF
      cases p <;> cases sp <;> cases mi
      · exact odd_n00_false sh z wid prec verb hZ hpt hF (fill_lk 3 wid) rfl (by rw [run_size]; have := wdt_le (((wdt wid : Nat) : Int) - (3 : Nat)); show ¬ 9223372036854775807 < _ + 3; omega) w
      · exact odd_n00_true sh z wid prec verb hZ hpt hF (fill_lk 3 wid) rfl (by rw [run_size]; have := wdt_le (((wdt wid : Nat) : Int) - (3 : Nat)); show ¬ 9223372036854775807 < 3 + _; omega) w
      · exact odd_n01_false sh z wid prec verb hZ hpt hF (fill_lk 4 wid) rfl (by rw [run_size]; have := wdt_le (((wdt wid : Nat) : Int) - (4 : Nat)); show ¬ 9223372036854775807 < _ + 4; omega) w
      · exact odd_n01_true sh z wid prec verb hZ hpt hF (fill_lk 4 wid) rfl (by rw [run_size]; have := wdt_le (((wdt wid : Nat) : Int) - (4 : Nat)); show ¬ 9223372036854775807 < 4 + _; omega) w
      · exact odd_n10_false sh z wid prec verb hZ hpt hF (fill_lk 4 wid) rfl (by rw [run_size]; have := wdt_le (((wdt wid : Nat) : Int) - (4 : Nat)); show ¬ 9223372036854775807 < _ + 4; omega) w
      · exact odd_n10_true sh z wid prec verb hZ hpt hF (fill_lk 4 wid) rfl (by rw [run_size]; have := wdt_le (((wdt wid : Nat) : Int) - (4 : Nat)); show ¬ 9223372036854775807 < 4 + _; omega) w
      · exact odd_n11_false sh z wid prec verb hZ hpt hF (fill_lk 4 wid) rfl (by rw [run_size]; have := wdt_le (((wdt wid : Nat) : Int) - (4 : Nat)); show ¬ 9223372036854775807 < _ + 4; omega) w
      · exact odd_n11_true sh z wid prec verb hZ hpt hF (fill_lk 4 wid) rfl (by rw [run_size]; have := wdt_le (((wdt wid : Nat) : Int) - (4 : Nat)); show ¬ 9223372036854775807 < 4 + _; omega) w
end Go.Proofs.YtkeoafidgfmhlabGreatDoor
