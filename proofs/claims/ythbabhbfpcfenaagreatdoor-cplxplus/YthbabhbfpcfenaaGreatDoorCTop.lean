/- What layer 7 knows of Float: its texts without a width, by their shapes; the same bits have the same text. -/
import Derived.Test.YthbabhbfpcfenaaGreatDoorCWalkB
import Derived.Test.YthbabhbfpcfenaaGreatDoorCWalkC
namespace Go.Proofs.YthbabhbfpcfenaaGreatDoor
open Go.RowKit
set_option linter.unusedVariables false
set_option linter.unusedSimpArgs false

theorem padS_upto (s : ByteArray) (mi : Bool) (wid : Int) : (padS s mi false wid).size ≤ s.size + 1000 ∧ s.size ≤ (padS s mi false wid).size := by
  have h := wdt_le ((wdt wid : Nat) - (cntR s : Nat) : Int)
  unfold padS
  cases mi
  · show (run 32 _ ++ s).size ≤ _ ∧ _ ≤ (run 32 _ ++ s).size
    rw [app_size, run_size]; omega
  · show (s ++ run 32 _).size ≤ _ ∧ _ ≤ (s ++ run 32 _).size
    rw [app_size, run_size]; omega
theorem filT_upto (s t : ByteArray) (mi z : Bool) (wid : Int) (hs : s.size ≤ 1) : (filT s t mi z wid).size ≤ t.size + 3000 ∧ t.size ≤ (filT s t mi z wid).size := by
  have h1 := padS_upto (s ++ (if z = true ∧ mi = false then lnA t ((wdt wid : Nat) - (s.size : Nat)) else t)) mi wid
  have h3 := wdt_le wid
  have h2 : (if z = true ∧ mi = false then lnA t ((wdt wid : Nat) - (s.size : Nat)) else t).size ≤ t.size + 1000 ∧ t.size ≤ (if z = true ∧ mi = false then lnA t ((wdt wid : Nat) - (s.size : Nat)) else t).size := by
    split
    · rw [lnA_size]; omega
    · omega
  rw [app_size] at h1
  unfold filT
  omega
theorem inf_size (s : ByteArray) (hs : s.size ≤ 1) : (s ++ (⟨#[73, 110, 102]⟩ : ByteArray)).size ≤ 4 ∧ 3 ≤ (s ++ (⟨#[73, 110, 102]⟩ : ByteArray)).size := by
  rw [app_size, show (⟨#[73, 110, 102]⟩ : ByteArray).size = 3 from rfl]; omega
theorem nan_size (s : ByteArray) (hs : s.size ≤ 1) : (s ++ (⟨#[78, 97, 78]⟩ : ByteArray)).size ≤ 4 ∧ 3 ≤ (s ++ (⟨#[78, 97, 78]⟩ : ByteArray)).size := by
  rw [app_size, show (⟨#[78, 97, 78]⟩ : ByteArray).size = 3 from rfl]; omega
/-- Float of two bits that look alike at that size is one text. -/
theorem fl_alike {b1 b2 : Nat} {size : Int} {f ww : Nat} {least : Int} {I : Nat} (h : Ly size f ww least I) (h1 : b1 < 18446744073709551616) (h2 : b2 < 18446744073709551616) (eb : bare f ww b1 = bare f ww b2) (es : sgn f ww b1 = sgn f ww b2) (p mi sh sp z : Bool) (wid prec verb : Int) (hv : fVerb verb = true) : ∃ S : ByteArray, FlC b1 size p mi sh sp z wid prec verb S true ∧ FlC b2 size p mi sh sp z wid prec verb S true ∧ 1 ≤ S.size ∧ S.size ≤ 200000 := by
  obtain ⟨o1, o2⟩ := float_odd h h1 p mi sh sp z wid prec verb hv
  obtain ⟨o3, o4⟩ := float_odd h h2 p mi sh sp z wid prec verb hv
  rcases Nat.lt_trichotomy (bare f ww b1) I with hp | hp | hp
  · obtain ⟨d, hd, gd, hF⟩ := fin_of h h1 hp
    obtain ⟨d2, hd2, gd2, hF2⟩ := fin_of h h2 (by rw [← eb]; exact hp)
    rw [← eb] at hd2 hF2
    rw [← es] at hF2
    have ed := hd.uniq hd2
    subst ed
    have hz := fin_size (sh := sh) (prec := prec) (e := least + pk f (bare f ww b1)) (verb := verb) hF.fv hF.dl hF.dp hF.m53
    have hz2 := filT_upto (sgF (sgn f ww b1) p sp) (finT sh prec (pm f (bare f ww b1)) (least + pk f (bare f ww b1)) (val f least (bare f ww b1)) d verb) mi z wid (sgF_size _ _ _)
    exact ⟨_, float_fin hF p mi sh sp z wid prec verb hv, float_fin hF2 p mi sh sp z wid prec verb hv, by omega, by omega⟩
  · have hz := padS_upto (sgI (sgn f ww b1) p sp ++ ⟨#[73, 110, 102]⟩) mi wid
    have hz2 := inf_size _ (Nat.le_of_eq (sgI_size (sgn f ww b1) p sp))
    exact ⟨_, o1 hp, by rw [es]; exact o3 (by rw [← eb]; exact hp), by omega, by omega⟩
  · have hz := padS_upto (sgF false p sp ++ ⟨#[78, 97, 78]⟩) mi wid
    have hz2 := nan_size _ (sgF_size false p sp)
    exact ⟨_, o2 hp, o4 (by rw [← eb]; exact hp), by omega, by omega⟩
theorem shp_inf : Shp (⟨#[73, 110, 102]⟩ : ByteArray).data.toList := .inl ⟨by decide, by decide, fun x hx => by
  have : x = 102 := by simpa using hx.symm
  rw [this]; decide⟩
theorem shp_nan : Shp (⟨#[78, 97, 78]⟩ : ByteArray).data.toList := .inl ⟨by decide, by decide, fun x hx => by
  have : x = 78 := by simpa using hx.symm
  rw [this]; decide⟩
/-- A text without a width: a sign, and what is shaped so; with and without Plus. -/
theorem fl_bare {bits : Nat} {size : Int} {f ww : Nat} {least : Int} {I : Nat} (h : Ly size f ww least I) (hb : bits < 18446744073709551616) (p mi sh sp z : Bool) (wid prec verb : Int) (hv : fVerb verb = true) : ∃ s0 s1 T : ByteArray, FlC bits size p mi sh sp z (-1) prec verb (s0 ++ T) true ∧ FlC bits size true mi sh sp z (-1) prec verb (s1 ++ T) true ∧ Shp T.data.toList ∧ s0.size ≤ 1 ∧ (s1 = ⟨#[43]⟩ ∨ s1 = ⟨#[45]⟩) ∧ (p = false → sp = false → s0 = s1 ∨ (s0 = ⟨#[]⟩ ∧ s1 = ⟨#[43]⟩)) ∧ T.size ≤ 200000 := by
  obtain ⟨o1, o2⟩ := float_odd h hb p mi sh sp z (-1) prec verb hv
  obtain ⟨o3, o4⟩ := float_odd h hb true mi sh sp z (-1) prec verb hv
  rcases Nat.lt_trichotomy (bare f ww bits) I with hp | hp | hp
  · obtain ⟨d, hd, gd, hF⟩ := fin_of h hb hp
    have hz := fin_size (sh := sh) (prec := prec) (e := least + pk f (bare f ww bits)) (verb := verb) hF.fv hF.dl hF.dp hF.m53
    have A := float_fin hF p mi sh sp z (-1) prec verb hv
    have B := float_fin hF true mi sh sp z (-1) prec verb hv
    rw [filT_off _ _ _ _ (sgF_size _ _ _)] at A B
    refine ⟨_, _, _, A, B, shp_fin hz.1, sgF_size _ _ _, ?_, ?_, by omega⟩
    · cases sgn f ww bits
      · exact .inl rfl
      · exact .inr rfl
    · rintro rfl rfl
      cases sgn f ww bits
      · exact .inr ⟨rfl, rfl⟩
      · exact .inl rfl
  · have A := o1 hp
    have B := o3 hp
    rw [padS_off] at A B
    refine ⟨_, _, _, A, B, shp_inf, Nat.le_of_eq (sgI_size _ _ _), ?_, ?_, by decide⟩
    · cases sgn f ww bits
      · exact .inl rfl
      · exact .inr rfl
    · rintro rfl rfl
      cases sgn f ww bits <;> exact .inl rfl
  · have A := o2 hp
    have B := o4 hp
    rw [padS_off] at A B
    refine ⟨_, _, _, A, B, shp_nan, sgF_size _ _ _, .inl rfl, ?_, by decide⟩
    rintro rfl rfl
    exact .inr ⟨rfl, rfl⟩
/-- A pair's text is parted as its parts. -/
theorem split_pair {s0 T0 s1 T1 : ByteArray} (h0 : Shp T0.data.toList) (h1 : Shp T1.data.toList) (hs : s1 = ⟨#[43]⟩ ∨ s1 = ⟨#[45]⟩) (z0 : s0.size ≤ 1) (z1 : T0.size ≤ 200000) (z2 : T1.size ≤ 200000) : SpC (((⟨#[40]⟩ : ByteArray) ++ (s0 ++ T0) ++ (s1 ++ T1)) ++ ⟨#[105, 41]⟩) (s0 ++ T0) (s1 ++ T1) true := by
  obtain ⟨c, hc, hs1⟩ : ∃ c : UInt8, sgB c = true ∧ s1.data.toList = [c] := by
    rcases hs with rfl | rfl
    · exact ⟨43, by decide, rfl⟩
    · exact ⟨45, by decide, rfl⟩
  have e0 : ((s0 ++ T0) ++ (s1 ++ T1)).data.toList = (s0 ++ T0).data.toList ++ c :: T1.data.toList := by
    rw [app_list, app_list (a := s1), hs1]; rfl
  have hne : (s0 ++ T0).data.toList ≠ [] := by
    rw [app_list]
    intro e
    exact h0.pos (List.append_eq_nil_iff.1 e).2
  have hl : ∀ x, (s0 ++ T0).data.toList.getLast? = some x → epB x = false := by
    intro x hx
    refine h0.last x ?_
    rw [app_list, List.getLast?_append] at hx
    rw [List.getLast?_eq_some_getLast h0.pos] at hx ⊢
    simpa using hx
  have hk := cut_pair hne hl hc h1
  rw [← e0, list_len, list_len] at hk
  have hsz : s1.size = 1 := by rw [← list_len, hs1]; rfl
  have hz : (((⟨#[40]⟩ : ByteArray) ++ (s0 ++ T0) ++ (s1 ++ T1)) ++ ⟨#[105, 41]⟩).size ≤ 9223372036854775807 := by
    simp only [app_size]
    rw [show (⟨#[40]⟩ : ByteArray).size = 1 from rfl, show (⟨#[105, 41]⟩ : ByteArray).size = 2 from rfl]; omega
  have hin : inP (((⟨#[40]⟩ : ByteArray) ++ (s0 ++ T0) ++ (s1 ++ T1)) ++ ⟨#[105, 41]⟩) ((s0 ++ T0) ++ (s1 ++ T1)) := by
    unfold inP
    refine ba_ext ?_
    simp only [app_list, List.append_assoc]
  have h2 := (split_in hz hin).2
  rw [hk] at h2
  have h3 := h2 (by rw [← list_len]; exact fun e => hne (List.length_eq_zero_iff.1 e))
  have e1 : ((s0 ++ T0) ++ (s1 ++ T1)).extract 0 (s0 ++ T0).size = s0 ++ T0 := by
    refine ba_ext ?_
    rw [ext_li, app_list (a := s0 ++ T0), ← list_len, List.take_left, List.drop_zero]
  have e2 : ((s0 ++ T0) ++ (s1 ++ T1)).extract (s0 ++ T0).size ((s0 ++ T0) ++ (s1 ++ T1)).size = s1 ++ T1 := by
    refine ba_ext ?_
    rw [ext_li, List.take_of_length_le (by rw [list_len]; exact Nat.le_refl _), app_list (a := s0 ++ T0), ← list_len, List.drop_left]
  rw [e1, e2] at h3
  exact h3
end Go.Proofs.YthbabhbfpcfenaaGreatDoor
