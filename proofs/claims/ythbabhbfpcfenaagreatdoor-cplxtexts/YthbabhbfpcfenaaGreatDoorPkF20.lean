/- SLive, FWalkE: these texts in one. -/
import Derived.Test.YthbabhbfpcfenaaGreatDoorPkF19
import Derived.Test.YthbabhbfpcfenaaGreatDoorPkF14
/- The contracts that the laws of layer 5 ask, and the document's examples that each of them asks. -/
namespace Go.Proofs.YthbabhbfpcfenaaGreatDoor
open Go.RowKit
set_option linter.unusedVariables false
set_option linter.unusedSimpArgs false

abbrev ShC (bits : Nat) (size : Int) (S : ByteArray) (P E : Int) : Prop := ∀ w, Calls Tryz.prog 115 #[.int .u64 bits, .int .i64 size] w fun e w' => e = .returned (.tuple #[.agg #[.string S, .int .i64 P], .int .i64 E]) ∧ Below w.heap.size w w'
abbrev PtC (bits : Nat) (size : Int) (sg : Bool) (m : Nat) (x k : Int) : Prop := ∀ w, Calls Tryz.prog 22 #[.int .u64 bits, .int .i64 size] w fun e w' => e = .returned (.tuple #[.bool sg, .int .u64 m, .int .i64 x, .int .i64 k]) ∧ Below w.heap.size w w'
theorem lyB : Ly 64 52 11 (-1074) 9218868437227405312 := .inr ⟨rfl, rfl, rfl, rfl, rfl⟩
theorem lyA : Ly 32 23 8 (-149) 2139095040 := .inl ⟨rfl, rfl, rfl, rfl, rfl⟩
theorem bare_small {size : Int} {f ww : Nat} {least : Int} {I : Nat} (h : Ly size f ww least I) {p : Nat} (hp : p < I) : bare f ww p = p := by
  rcases h with ⟨-, rfl, rfl, -, rfl⟩ | ⟨-, rfl, rfl, -, rfl⟩
  · have : bare 23 8 p = p % 2147483648 := rfl
    omega
  · have : bare 52 11 p = p % 9223372036854775808 := rfl
    omega
/-- Shortest of a finite pattern. -/
theorem shortD {size : Int} {f ww : Nat} {least : Int} {I p d : Nat} (h : Ly size f ww least I) (hp : p < I) (hd : SH (fun x => RD f I (un least) x p) (val f least p) d) : ShC p size (oS d) (oP d) 0 := fun w => by
  have hb := bare_small h hp
  obtain ⟨-, -, hI, -⟩ := h.pk
  by_cases h0 : p = 0
  · have hv : val f least p = 0 := by
      subst h0
      simp [val, pq, pm]
    have hd0 : d = 0 := by
      rw [hv] at hd
      exact hd.all fun j h1 h2 => by rw [o_zero.1] at h2; simp at h2
    have := short_none (bits := p) h (by omega) (.inr (by rw [hb]; exact h0)) w
    rw [hb, if_pos h0] at this
    rw [hd0, zero_S, o_zero.2]
    exact this
  · exact short_ok (bits := p) h (by omega) (by rw [hb]; exact hp) (by rw [hb]; exact h0) (by rw [hb]; exact hd) w
theorem partsD {size : Int} {f ww : Nat} {least : Int} {I p : Nat} (h : Ly size f ww least I) (hp : p < I) : ∃ sg, PtC p size sg (pm f p) (least + pk f p) 0 := by
  have hb := bare_small h hp
  obtain ⟨-, -, hI, -⟩ := h.pk
  refine ⟨sgn f ww p, fun w => ?_⟩
  have := parts_any (bits := p) h (by omega) w
  have e1 : ptM f ww I p = pm f p := by unfold ptM; rw [hb, if_pos hp]
  have e2 : ptE f ww I least p = least + pk f p := by unfold ptE; rw [hb, if_pos hp]
  have e3 : ptK f ww I p = 0 := by unfold ptK; rw [hb, if_pos hp]
  rw [e1, e2, e3] at this
  exact this

theorem live_nums : ∃ K : Nat, K = 9999 ∧ (pa 52 4591870180066957721 * un (-1074) ≤ 10 ^ K ∧ 10 ^ K ≤ pa 52 4591870180066957722 * un (-1074)) ∧
    (10 ^ K ≤ val 52 (-1074) 4591870180066957722 ∧ val 52 (-1074) 4591870180066957722 < 10 ^ (K + 1) ∧ val 52 (-1074) 4591870180066957722 / 10 ^ K = 1 ∧ 2 * (val 52 (-1074) 4591870180066957722 % 10 ^ K) < 10 ^ K ∧ ¬ val 52 (-1074) 4591870180066957722 % 10 ^ K = 0) := ⟨9999, rfl, by decide +kernel, by decide +kernel⟩
/-- The laws' finite pattern of any bits. -/
def finB (f ww I bits : Nat) : Nat := if bare f ww bits < I then bare f ww bits else bare f ww bits - I
theorem finB_lt {size : Int} {f ww : Nat} {least : Int} {I : Nat} (h : Ly size f ww least I) (bits : Nat) : finB f ww I bits < I := by
  unfold finB
  rcases h with ⟨-, rfl, rfl, -, rfl⟩ | ⟨-, rfl, rfl, -, rfl⟩
  · have : bare 23 8 bits = bits % 2147483648 := rfl
    split <;> omega
  · have : bare 52 11 bits = bits % 9223372036854775808 := rfl
    split <;> omega
/-- The layout of the laws' size. -/
theorem ly_of (b : Bool) : ∃ (f ww : Nat) (least : Int) (I : Nat), Ly (if b then 64 else 32) f ww least I ∧ (b = true → f = 52) ∧ (b = false → f = 23) := by
  cases b
  · exact ⟨23, 8, -149, 2139095040, lyA, fun h => (by cases h), fun _ => rfl⟩
  · exact ⟨52, 11, -1074, 9218868437227405312, lyB, fun _ => rfl, fun h => (by cases h)⟩
end Go.Proofs.YthbabhbfpcfenaaGreatDoor

/- The walks of package floats: signs, widths, Float. -/
namespace Go.Proofs.YthbabhbfpcfenaaGreatDoor
open Go.RowKit
set_option linter.unusedVariables false
set_option linter.unusedSimpArgs false

set_option maxRecDepth 1000000 in
theorem fsign_any (neg : Bool) (p mi sh sp z : Bool) (wid prec verb : Int) (w : World) :
    Calls Tryz.prog 25 #[.bool neg, .agg #[.bool p, .bool mi, .bool sh, .bool sp, .bool z, .int .i64 wid, .int .i64 prec, .int .i32 verb]] w fun x w' => x = .returned (.string (sgF neg p sp)) ∧ Below w.heap.size w w' := by
  cases neg <;> cases p <;> cases sp
  all_goals
    go_enter Tryz.func25, Tryz.ntmps25
    go_wp2
    go_ret
    exact ⟨rfl, by go_grown⟩
set_option maxRecDepth 1000000 in
theorem fsignI_any (neg : Bool) (p mi sh sp z : Bool) (wid prec verb : Int) (w : World) :
    Calls Tryz.prog 26 #[.bool neg, .agg #[.bool p, .bool mi, .bool sh, .bool sp, .bool z, .int .i64 wid, .int .i64 prec, .int .i32 verb]] w fun x w' => x = .returned (.string (sgI neg p sp)) ∧ Below w.heap.size w w' := by
  have hS : ∀ w, Calls Tryz.prog 25 #[.bool neg, .agg #[.bool p, .bool mi, .bool sh, .bool sp, .bool z, .int .i64 wid, .int .i64 prec, .int .i32 verb]] w fun x w' => x = .returned (.string (sgF neg p sp)) ∧ Below w.heap.size w w' := fun w => fsign_any neg p mi sh sp z wid prec verb w
  have hbA : Below w.heap.size w (w.alloc (.cells #[.bool p, .bool mi, .bool sh, .bool sp, .bool z, .int .i64 wid, .int .i64 prec, .int .i32 verb] 26)) := (Below.refl _ _).alloc (Nat.le_refl _) _
  unfold sgI
  by_cases h0 : (sgF neg p sp).size = 0
  · have hue : (sgF neg p sp).toList.isEmpty = true := empty_yes _ h0
    rw [if_pos h0]
    clear h0
    generalize sgF neg p sp = r at *
    go_enter Tryz.func26, Tryz.ntmps26
    go_wp2_with (go_at_call 25; (with_reducible refine (hS _).mono ?_); rintro x w1 ⟨rfl, hb1⟩)
    go_ret
    exact ⟨rfl, bel_call hbA hb1 (Nat.le_refl _)⟩
  · have hue : (sgF neg p sp).toList.isEmpty = false := empty_no _ (by omega)
    rw [if_neg h0]
    clear h0
    generalize sgF neg p sp = r at *
    go_enter Tryz.func26, Tryz.ntmps26
    go_wp2_with (go_at_call 25; (with_reducible refine (hS _).mono ?_); rintro x w1 ⟨rfl, hb1⟩)
    go_ret
    exact ⟨rfl, bel_call hbA hb1 (Nat.le_refl _)⟩
set_option maxRecDepth 1000000 in
set_option maxHeartbeats 1000000 in
theorem fpad_any (s : ByteArray) (p mi sh sp z : Bool) (wid prec verb : Int) (w : World) (hs : s.size ≤ 1000000) :
    Calls Tryz.prog 23 #[.string s, .agg #[.bool p, .bool mi, .bool sh, .bool sp, .bool z, .int .i64 wid, .int .i64 prec, .int .i32 verb]] w fun e w' => e = .returned (.string (padS s mi false wid)) ∧ Below w.heap.size w w' := by
  have hP : ∀ w, Calls Tryz.prog 47 #[.string s, .agg #[.bool p, .bool mi, .bool sh, .bool sp, .bool false, .int .i64 wid, .int .i64 prec, .int .i32 verb]] w fun e w' => e = .returned (.string (padS s mi false wid)) ∧ Below w.heap.size w w' := fun w => pad_any s p mi sh sp false wid prec verb w hs
  generalize padS s mi false wid = r at *
  have hbA : Below w.heap.size w (w.alloc (.cells #[.bool p, .bool mi, .bool sh, .bool sp, .bool false, .int .i64 wid, .int .i64 prec, .int .i32 verb] 26)) := (Below.refl _ _).alloc (Nat.le_refl _) _
  go_enter Tryz.func23, Tryz.ntmps23
  go_wp2_with (go_at_call 47; refine (hP _).mono ?_; rintro e w1 ⟨rfl, hb1⟩)
  go_ret
  exact ⟨rfl, hbA.trans (hb1.mono hbA.size)⟩
theorem great_any (verb : Int) (w : World) : Calls Tryz.prog 27 #[.int .i32 verb] w fun e w' => e = .returned (.bool (grV verb)) ∧ w' = w := by
  by_cases h1 : verb = 69
  · subst h1
    go_enter Tryz.func27, Tryz.ntmps27
    go_wp2
    go_ret
    exact ⟨rfl, rfl⟩
  by_cases h2 : verb = 71
  · subst h2
    go_enter Tryz.func27, Tryz.ntmps27
    go_wp2
    go_ret
    exact ⟨rfl, rfl⟩
  by_cases h3 : verb = 88
  · subst h3
    go_enter Tryz.func27, Tryz.ntmps27
    go_wp2
    go_ret
    exact ⟨rfl, rfl⟩
  have e : grV verb = false := decide_eq_false (by omega)
  rw [e]
  have b1 : (verb == 69) = false := by simp [h1]
  have b2 : (verb == 71) = false := by simp [h2]
  have b3 : (verb == 88) = false := by simp [h3]
  go_enter Tryz.func27, Tryz.ntmps27
  go_wp2
  go_ret
  exact ⟨rfl, rfl⟩
/-- What a verb writes with. -/
def wrF (verb : Int) : Nat := if verb = 101 ∨ verb = 69 then 38 else if verb = 102 ∨ verb = 70 then 39 else if verb = 98 then 41 else if verb = 120 ∨ verb = 88 then 42 else 40
abbrev WrC (verb : Int) (v : Value) (b : Bool) : Prop := ∀ w, Calls Tryz.prog 21 #[.int .i32 verb] w fun e w' => e = .returned (.tuple #[v, .bool b]) ∧ w' = w
set_option maxRecDepth 1000000 in
theorem writer_no {verb : Int} (h : fVerb verb = false) : WrC verb .nilFunc false := fun w => by
  have h := of_decide_eq_false h
  have b1 : (verb == 101) = false := by simp; omega
  have b2 : (verb == 69) = false := by simp; omega
  have b3 : (verb == 102) = false := by simp; omega
  have b4 : (verb == 70) = false := by simp; omega
  have b5 : (verb == 103) = false := by simp; omega
  have b6 : (verb == 71) = false := by simp; omega
  have b7 : (verb == 118) = false := by simp; omega
  have b8 : (verb == 98) = false := by simp; omega
  have b9 : (verb == 120) = false := by simp; omega
  have ba : (verb == 88) = false := by simp; omega
  clear h
  go_enter Tryz.func21, Tryz.ntmps21
  go_wp2
  go_returns
  exact ⟨rfl, rfl⟩
set_option maxRecDepth 1000000 in
theorem writer_yes {verb : Int} (h : fVerb verb = true) : WrC verb (.func (.func (wrF verb)) #[] #[]) true := fun w => by
  have h := of_decide_eq_true h
  rcases h with rfl | rfl | rfl | rfl | rfl | rfl | rfl | rfl | rfl | rfl
  all_goals
    go_enter Tryz.func21, Tryz.ntmps21
    go_wp2
    go_returns
    exact ⟨rfl, rfl⟩
end Go.Proofs.YthbabhbfpcfenaaGreatDoor
