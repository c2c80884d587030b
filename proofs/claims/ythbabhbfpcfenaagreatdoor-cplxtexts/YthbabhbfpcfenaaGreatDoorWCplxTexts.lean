/- The walk of the law CplxTexts. -/
import Derived.Test.YthbabhbfpcfenaaGreatDoorPkC2
import Derived.Test.YthbabhbfpcfenaaGreatDoorPkC1
import Derived.Test.YthbabhbfpcfenaaGreatDoorPkG1
import Derived.Test.YthbabhbfpcfenaaGreatDoorPkG3
import Derived.Test.YthbabhbfpcfenaaGreatDoorPkG2
namespace Go.Proofs.YthbabhbfpcfenaaGreatDoor
open Go.RowKit
set_option linter.unusedVariables false
set_option linter.unusedSimpArgs false

/-- What both answer, and how long it is. -/
def SameD (bits : Nat) (size : Int) (p mi sh sp z : Bool) (wid prec verb : Int) (b : Bool) : Prop := ∃ s : ByteArray, FlC bits size p mi sh sp z wid prec verb s b ∧ MfC bits size p mi sh sp z wid prec verb s b ∧ s.size ≤ 1000000 ∧ (b = false → s = ⟨#[]⟩)
theorem samed_none {bits : Nat} {size : Int} (hb : bits < 18446744073709551616) (p mi sh sp z : Bool) (wid prec verb : Int) (h : fVerb verb = false ∨ (¬ size = 32 ∧ ¬ size = 64)) : SameD bits size p mi sh sp z wid prec verb false := by
  refine ⟨⟨#[]⟩, float_none hb p mi sh sp z wid prec verb h, ?_, by decide, fun _ => rfl⟩
  by_cases hs : size = 32 ∨ size = 64
  · have hv : fVerb verb = false := by rcases h with h | h; · exact h
                                       · omega
    have hV : MvC verb false := by have := mverb_any verb; rw [hv] at this; exact this
    have hk : ∀ f ww I, ¬ ptK f ww I bits = 3 := by intro f ww I; unfold ptK; repeat' split
                                                    all_goals decide
    rcases hs with rfl | rfl
    · exact mfl_verb p mi sh sp z wid prec verb (hk _ _ _) hV (kpc_any lyA hb)
    · exact mfl_verb p mi sh sp z wid prec verb (hk _ _ _) hV (kpc_any lyB hb)
  · exact mfl_size p mi sh sp z wid prec verb (kpc_no (by omega) (by omega))
theorem samed_odd {bits : Nat} {size : Int} {f ww : Nat} {least : Int} {I : Nat} (h : Ly size f ww least I) (hb : bits < 18446744073709551616) (hI : I ≤ bare f ww bits) (p mi sh sp z : Bool) (wid prec verb : Int) (hv : fVerb verb = true) : SameD bits size p mi sh sp z wid prec verb true := by
  have hV : MvC verb true := by have := mverb_any verb; rw [hv] at this; exact this
  have hpt := kpc_any h hb
  obtain ⟨o1, o2⟩ := float_odd h hb p mi sh sp z wid prec verb hv
  rcases Nat.eq_or_lt_of_le hI with h1 | h1
  · have e3 : ptK f ww I bits = 1 := by unfold ptK; rw [if_neg (by omega), if_pos h1.symm]
    rw [e3] at hpt
    have z1 := padS_upto (sgI (sgn f ww bits) p sp ++ ⟨#[73, 110, 102]⟩) mi wid
    have z2 := inf_size _ (Nat.le_of_eq (sgI_size (sgn f ww bits) p sp))
    exact ⟨_, o1 h1.symm, mfl_inf p mi sh sp z wid prec verb hV hpt, by omega, fun h => by cases h⟩
  · have e3 : ptK f ww I bits = 2 := by unfold ptK; rw [if_neg (by omega), if_neg (by omega)]
    rw [e3] at hpt
    have z1 := padS_upto (sgF false p sp ++ ⟨#[78, 97, 78]⟩) mi wid
    have z2 := nan_size _ (sgF_size false p sp)
    exact ⟨_, o2 h1, mfl_nan p mi sh sp z wid prec verb hV hpt, by omega, fun h => by cases h⟩
theorem samed_fin {bits : Nat} {size : Int} {f ww : Nat} {least : Int} {I : Nat} (h : Ly size f ww least I) (hb : bits < 18446744073709551616) (hp : bare f ww bits < I) (p mi sh sp z : Bool) (wid prec verb : Int) (hv : fVerb verb = true) : SameD bits size p mi sh sp z wid prec verb true := by
  obtain ⟨d, hd, gd, hF⟩ := fin_of h hb hp
  have hV : MvC verb true := by have := mverb_any verb; rw [hv] at this; exact this
  have hpt := kpc_any h hb
  have e1 : ptM f ww I bits = pm f (bare f ww bits) := by unfold ptM; rw [if_pos hp]
  have e2 : ptE f ww I least bits = least + pk f (bare f ww bits) := by unfold ptE; rw [if_pos hp]
  have e3 : ptK f ww I bits = 0 := by unfold ptK; rw [if_pos hp]
  rw [e1, e2, e3] at hpt
  obtain ⟨q0, q1, hI, hI2, -, -, -, -, q2⟩ := h.pk
  have q3 := q2 _ hp
  have q4 := h.pm (bare f ww bits)
  have hX : HxC (pm f (bare f ww bits)) (least + pk f (bare f ww bits)) (oS (val f least (bare f ww bits))) (oP (val f least (bare f ww bits))) := hxC (by omega) (by omega) (by omega) (val_ex h hp).1
  have hz := (fin_size (sh := sh) (prec := prec) (e := least + pk f (bare f ww bits)) (verb := verb) hF.fv hF.dl hF.dp hF.m53).2
  have hz2 := filT_upto (sgF (sgn f ww bits) p sp) (finT sh prec (pm f (bare f ww bits)) (least + pk f (bare f ww bits)) (val f least (bare f ww bits)) d verb) mi z wid (sgF_size _ _ _)
  have hB : BaC bits size (pm f (bare f ww bits)) (least + pk f (bare f ww bits)) p mi sh sp z wid prec verb (finT sh prec (pm f (bare f ww bits)) (least + pk f (bare f ww bits)) (val f least (bare f ww bits)) d verb) := by
    have hK := kshort_fin h hb hp hd
    have e53 : (2 : Nat) ^ 53 = 9007199254740992 := by decide
    have hv2 := of_decide_eq_true hv
    clear hz hz2
    rcases hv2 with rfl | rfl | rfl | rfl | rfl | rfl | rfl | rfl | rfl | rfl
    · exact mbare_e hX hF.fv p mi sh sp z wid prec 101 d (.inl rfl)
    · exact mbare_e hX hF.fv p mi sh sp z wid prec 69 d (.inr rfl)
    · exact mbare_f hX hF.fv p mi sh sp z wid prec 102 d (.inl rfl)
    · exact mbare_f hX hF.fv p mi sh sp z wid prec 70 d (.inr rfl)
    · exact mbare_g hX hF.fv hK hF.dl hF.dp p mi sh sp z wid prec 103 (.inl rfl)
    · exact mbare_g hX hF.fv hK hF.dl hF.dp p mi sh sp z wid prec 71 (.inr (.inl rfl))
    · exact mbare_g hX hF.fv hK hF.dl hF.dp p mi sh sp z wid prec 118 (.inr (.inr rfl))
    · exact mbare_b hX (by rw [← e53]; exact hF.m53) hF.e0 hF.e1 p mi sh sp z wid prec d
    · exact mbare_x hX hF.m53 hF.e0 hF.e1 p mi sh sp z wid prec d
    · exact mbare_X hX hF.m53 hF.e0 hF.e1 p mi sh sp z wid prec d
  exact ⟨_, float_fin hF p mi sh sp z wid prec verb hv, mfl_fin p mi sh sp z wid prec verb hV hpt hB (by omega), by omega, fun h => by cases h⟩
theorem samed_any {bits : Nat} {size : Int} {f ww : Nat} {least : Int} {I : Nat} (h : Ly size f ww least I) (hb : bits < 18446744073709551616) (p mi sh sp z : Bool) (wid prec verb : Int) : SameD bits size p mi sh sp z wid prec verb (fVerb verb) := by
  cases hv : fVerb verb with
  | false => exact samed_none hb p mi sh sp z wid prec verb (.inl hv)
  | true =>
    rcases Nat.lt_or_ge (bare f ww bits) I with hp | hp
    · exact samed_fin h hb hp p mi sh sp z wid prec verb hv
    · exact samed_odd h hb hp p mi sh sp z wid prec verb hv
/-- Complex of the program and of the document: one text. -/
theorem cboth {re im : Nat} {size half : Int} {f ww : Nat} {least : Int} {I : Nat} (h : Ly half f ww least I) (hh : HalfD size half) (hz : SzP size half true) (hre : re < 18446744073709551616) (him : im < 18446744073709551616) (p mi sh sp z : Bool) (wid prec verb : Int) : ∃ (S : ByteArray) (ok : Bool), CxC re im size p mi sh sp z wid prec verb S ok ∧ NcC re im size p mi sh sp z wid prec verb S ok := by
  obtain ⟨A, a1, a2, a3, a4⟩ := samed_any h hre p mi sh sp z wid prec verb
  obtain ⟨B, b1, b2, b3, b4⟩ := samed_any h him true mi sh sp z wid prec verb
  generalize fVerb verb = ok at *
  cases ok with
  | true => exact ⟨_, true, cx_yes p mi sh sp z wid prec verb hz a1 b1 a3 b3, nc_run p mi sh sp z wid prec verb hh a2 b2 a3 b3 (.inl ⟨rfl, rfl⟩)⟩
  | false =>
    obtain rfl := a4 rfl
    exact ⟨_, false, cx_no p mi sh sp z wid prec verb hz a1, nc_run p mi sh sp z wid prec verb hh a2 b2 a3 b3 (.inr ⟨rfl, rfl⟩)⟩
theorem cplxTexts_walk (r0 i0 : Int) (hr0 : (Lit.int .u64 r0).wf = true) (hi0 : (Lit.int .u64 i0).wf = true) (size : Int) (_hs : (Lit.int .i64 size).wf = true) (p mi sh sp z : Bool) (wid prec verb : Int) (_h5 : (Lit.int .i64 wid).wf = true) (_h6 : (Lit.int .i64 prec).wf = true) (w : World) :
    Calls Tryz.prog 3 #[.agg #[.int .u64 r0, .int .u64 i0], .int .i64 size, .agg #[.bool p, .bool mi, .bool sh, .bool sp, .bool z, .int .i64 wid, .int .i64 prec, .int .i32 verb]] w fun e w' => e = .returned (.bool true) ∧ Below w.heap.size w w' := by
  obtain ⟨h0, h1⟩ := wfu64 r0 hr0
  obtain ⟨re, rfl⟩ := Int.eq_ofNat_of_zero_le h0
  obtain ⟨g0, g1⟩ := wfu64 i0 hi0
  obtain ⟨im, rfl⟩ := Int.eq_ofNat_of_zero_le g0
  have hre : re < 18446744073709551616 := by omega
  have him : im < 18446744073709551616 := by omega
  obtain ⟨S, ok, hA, hB⟩ : ∃ (S : ByteArray) (ok : Bool), CxC re im size p mi sh sp z wid prec verb S ok ∧ NcC re im size p mi sh sp z wid prec verb S ok := by
    by_cases h64 : size = 64
    · subst h64
      exact cboth lyA (.inl ⟨rfl, rfl⟩) szp64 hre him p mi sh sp z wid prec verb
    · by_cases h128 : size = 128
      · subst h128
        exact cboth lyB (.inr (.inl ⟨rfl, rfl⟩)) szp128 hre him p mi sh sp z wid prec verb
      · obtain ⟨A, a1, a2, a3, a4⟩ := samed_none (size := 0) hre p mi sh sp z wid prec verb (.inr ⟨by decide, by decide⟩)
        obtain ⟨B, b1, b2, b3, b4⟩ := samed_none (size := 0) him true mi sh sp z wid prec verb (.inr ⟨by decide, by decide⟩)
        exact ⟨⟨#[]⟩, false, cx_size p mi sh sp z wid prec verb (szp_no h64 h128), nc_run p mi sh sp z wid prec verb (.inr (.inr ⟨⟨h64, h128⟩, rfl⟩)) a2 b2 a3 b3 (.inr ⟨rfl, rfl⟩)⟩
  exact ctexts_run p mi sh sp z wid prec verb hA hB w
end Go.Proofs.YthbabhbfpcfenaaGreatDoor
