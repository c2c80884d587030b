/- Package cplx: Split. -/
import Derived.Test.YthbabhbfpcfenaaGreatDoorCWalkA
namespace Go.Proofs.YthbabhbfpcfenaaGreatDoor
open Go.RowKit
set_option linter.unusedVariables false
set_option linter.unusedSimpArgs false

abbrev CpfC (s I : ByteArray) (o : Bool) : Prop := ∀ w, Calls Tryz.prog 18 #[.string s, .string ⟨#[40]⟩] w fun e w' => e = .returned (.tuple #[.string I, .bool o]) ∧ w' = w
abbrev CsfC (s I : ByteArray) (o : Bool) : Prop := ∀ w, Calls Tryz.prog 19 #[.string s, .string ⟨#[105, 41]⟩] w fun e w' => e = .returned (.tuple #[.string I, .bool o]) ∧ w' = w
abbrev PlC (I : ByteArray) (k : Nat) : Prop := ∀ w, Calls Tryz.prog 20 #[.string I] w fun e w' => e = .returned (.int .i64 (k : Nat)) ∧ w' = w
abbrev SpC (s a b : ByteArray) (ok : Bool) : Prop := ∀ w, Calls Tryz.prog 12 #[.string s] w fun e w' => e = .returned (.tuple #[.string a, .string b, .bool ok]) ∧ Below w.heap.size w w'
set_option maxRecDepth 1000000 in
theorem sp_no1 {s I J : ByteArray} {c : Bool} {k : Nat} (h1 : CpfC s I false) (h2 : CsfC I J c) (h3 : PlC J k) : SpC s ⟨#[]⟩ ⟨#[]⟩ false := fun w => by
  go_enter Tryz.func12, Tryz.ntmps12
  go_wp2_with (first
    | (go_at_call 18; refine (h1 _).mono ?_; rintro x w2 ⟨rfl, rfl⟩)
    | (go_at_call 19; refine (h2 _).mono ?_; rintro x w2 ⟨rfl, rfl⟩)
    | (go_at_call 20; refine (h3 _).mono ?_; rintro x w2 ⟨rfl, rfl⟩))
  go_returns
  exact ⟨rfl, Below.refl _ _⟩
set_option maxRecDepth 1000000 in
theorem sp_no2 {s I J : ByteArray} {k : Nat} (h1 : CpfC s I true) (h2 : CsfC I J false) (h3 : PlC J k) : SpC s ⟨#[]⟩ ⟨#[]⟩ false := fun w => by
  go_enter Tryz.func12, Tryz.ntmps12
  go_wp2_with (first
    | (go_at_call 18; refine (h1 _).mono ?_; rintro x w2 ⟨rfl, rfl⟩)
    | (go_at_call 19; refine (h2 _).mono ?_; rintro x w2 ⟨rfl, rfl⟩)
    | (go_at_call 20; refine (h3 _).mono ?_; rintro x w2 ⟨rfl, rfl⟩))
  go_returns
  exact ⟨rfl, Below.refl _ _⟩
set_option maxRecDepth 1000000 in
theorem sp_no3 {s I J : ByteArray} (h1 : CpfC s I true) (h2 : CsfC I J true) (h3 : PlC J 0) : SpC s ⟨#[]⟩ ⟨#[]⟩ false := fun w => by
  go_enter Tryz.func12, Tryz.ntmps12
  go_wp2_with (first
    | (go_at_call 18; refine (h1 _).mono ?_; rintro x w2 ⟨rfl, rfl⟩)
    | (go_at_call 19; refine (h2 _).mono ?_; rintro x w2 ⟨rfl, rfl⟩)
    | (go_at_call 20; refine (h3 _).mono ?_; rintro x w2 ⟨rfl, rfl⟩))
  go_returns
  exact ⟨rfl, Below.refl _ _⟩
set_option maxRecDepth 1000000 in
theorem sp_yes {s I J : ByteArray} {k : Nat} (h1 : CpfC s I true) (h2 : CsfC I J true) (h3 : PlC J k) (hk : k ≠ 0) (hkJ : k ≤ J.size) : SpC s (J.extract 0 k) (J.extract k J.size) true := fun w => by
  have hkI : ¬ (k : Int) = 0 := by omega
  have hkJI : (k : Int) ≤ J.size := by omega
  have b1 : ((k : Int) == 0) = false := beq_eq_false_iff_ne.2 hkI
  go_enter Tryz.func12, Tryz.ntmps12
  go_wp2_with (first
    | (go_at_call 18; refine (h1 _).mono ?_; rintro x w2 ⟨rfl, rfl⟩)
    | (go_at_call 19; refine (h2 _).mono ?_; rintro x w2 ⟨rfl, rfl⟩)
    | (go_at_call 20; refine (h3 _).mono ?_; rintro x w2 ⟨rfl, rfl⟩))
  go_region
  all_goals go_wp2
  all_goals go_returns
  all_goals exact ⟨rfl, (Below.refl _ _).drew⟩
/-- What stands in brackets, and an i. -/
def inP (s : ByteArray) (M : ByteArray) : Prop := s = ((⟨#[40]⟩ : ByteArray) ++ M) ++ ⟨#[105, 41]⟩
theorem ba_ext {a b : ByteArray} (h : a.data.toList = b.data.toList) : a = b := by
  apply ByteArray.ext; apply Array.ext'; exact h
theorem inP_iff (s M : ByteArray) : inP s M ↔ s.data.toList = 40 :: M.data.toList ++ [105, 41] := by
  constructor
  · intro h
    rw [h, app_list, app_list]; simp
  · intro h
    refine ba_ext ?_
    rw [app_list, app_list, h]; simp
theorem cp_any (s : ByteArray) : (∃ I : ByteArray, s.data.toList = 40 :: I.data.toList ∧ CpfC s I true) ∨ ((∀ l, s.data.toList ≠ 40 :: l) ∧ CpfC s s false) := by
  have h := fun w => Tryz.strings_CutPrefix s ⟨#[40]⟩ w
  have e40 : (⟨#[40]⟩ : ByteArray).data.toList = [40] := rfl
  rw [e40] at h
  cases hs : s.data.toList with
  | nil =>
    refine .inr ⟨(fun l e => by cases e), ?_⟩
    have h1 : Lib.hasPrefix s.data.toList [40] = false := by rw [hs]; rfl
    have h2 : Lib.trimPrefix s.data.toList [40] = s.data.toList := by unfold Lib.trimPrefix; rw [h1]; rfl
    rw [h1, h2] at h
    exact h
  | cons x l =>
    by_cases hx : x = 40
    · subst hx
      refine .inl ⟨⟨l.toArray⟩, by simp, ?_⟩
      have h1 : Lib.hasPrefix s.data.toList [40] = true := by rw [hs]; rfl
      have h2 : Lib.trimPrefix s.data.toList [40] = l := by unfold Lib.trimPrefix; rw [h1, hs]; rfl
      rw [h1, h2] at h
      exact h
    · refine .inr ⟨fun l e => by injection e with e1 e2; exact hx e1, ?_⟩
      have h1 : Lib.hasPrefix s.data.toList [40] = false := by
        rw [hs]; unfold Lib.hasPrefix
        simp [List.isPrefixOf]
        exact fun h => hx h.symm
      have h2 : Lib.trimPrefix s.data.toList [40] = s.data.toList := by unfold Lib.trimPrefix; rw [h1]; rfl
      rw [h1, h2] at h
      exact h
theorem cs_any (s : ByteArray) (hz : s.size ≤ 9223372036854775807) : (∃ I : ByteArray, s.data.toList = I.data.toList ++ [105, 41] ∧ CsfC s I true) ∨ ((∀ l, s.data.toList ≠ l ++ [105, 41]) ∧ CsfC s s false) := by
  have h := fun w => Tryz.strings_CutSuffix s ⟨#[105, 41]⟩ w hz
  have e40 : (⟨#[105, 41]⟩ : ByteArray).data.toList = [105, 41] := rfl
  rw [e40] at h
  by_cases hx : [105, 41] <:+ s.data.toList
  · obtain ⟨l, hl⟩ := hx
    refine .inl ⟨⟨l.toArray⟩, by rw [← hl], ?_⟩
    have h1 : Lib.hasSuffix s.data.toList [105, 41] = true := by rw [← hl]; unfold Lib.hasSuffix; rw [List.isSuffixOf_iff_suffix]; exact ⟨l, rfl⟩
    have h2 : Lib.trimSuffix s.data.toList [105, 41] = l := by unfold Lib.trimSuffix; rw [h1, ← hl]; simp
    rw [h1, h2] at h
    exact h
  · refine .inr ⟨fun l e => hx ⟨l, e.symm⟩, ?_⟩
    have h1 : Lib.hasSuffix s.data.toList [105, 41] = false := by
      unfold Lib.hasSuffix
      rw [← Bool.not_eq_true, List.isSuffixOf_iff_suffix]; exact hx
    have h2 : Lib.trimSuffix s.data.toList [105, 41] = s.data.toList := by unfold Lib.trimSuffix; rw [h1]; rfl
    rw [h1, h2] at h
    exact h
/-- Split, whatever it is asked for. -/
theorem split_no (s : ByteArray) (hz : s.size ≤ 9223372036854775807) (hn : ∀ M : ByteArray, ¬ inP s M) : SpC s ⟨#[]⟩ ⟨#[]⟩ false := by
  have hl := list_len s
  rcases cp_any s with ⟨I, e, h1⟩ | ⟨e, h1⟩
  · have hI : I.size ≤ 9223372036854775807 := by rw [e, List.length_cons, list_len] at hl; omega
    rcases cs_any I hI with ⟨J, e2, h2⟩ | ⟨e2, h2⟩
    · exact absurd ((inP_iff s J).2 (by rw [e, e2]; simp)) (hn J)
    · exact sp_no2 h1 h2 (place_any I hI)
  · rcases cs_any s hz with ⟨J, e2, h2⟩ | ⟨e2, h2⟩
    · exact sp_no1 h1 h2 (place_any J (by rw [e2, List.length_append, list_len] at hl; omega))
    · exact sp_no1 h1 h2 (place_any s hz)
theorem split_in {s M : ByteArray} (hz : s.size ≤ 9223372036854775807) (h : inP s M) : (lastS M.data.toList M.size = 0 → SpC s ⟨#[]⟩ ⟨#[]⟩ false) ∧ (lastS M.data.toList M.size ≠ 0 → SpC s (M.extract 0 (lastS M.data.toList M.size)) (M.extract (lastS M.data.toList M.size) M.size) true) := by
  have hl := list_len s
  have hM := (inP_iff s M).1 h
  rcases cp_any s with ⟨I, e, h1⟩ | ⟨e, h1⟩
  · have hI : I.size ≤ 9223372036854775807 := by rw [e, List.length_cons, list_len] at hl; omega
    have e1 : I.data.toList = M.data.toList ++ [105, 41] := by rw [e] at hM; injection hM
    rcases cs_any I hI with ⟨J, e2, h2⟩ | ⟨e2, h2⟩
    · obtain rfl : J = M := ba_ext (List.append_cancel_right (e2.symm.trans e1))
      have hJ : J.size ≤ 9223372036854775807 := by have := list_len I; rw [e1, List.length_append, list_len] at this; omega
      have hp := place_any J hJ
      have hk := lastS_lt J.data.toList J.size
      refine ⟨fun h0 => ?_, fun h0 => sp_yes h1 h2 hp h0 (by omega)⟩
      rw [h0] at hp
      exact sp_no3 h1 h2 hp
    · exact absurd e1 (e2 _)
  · exact absurd (by rw [hM]; rfl) (e (M.data.toList ++ [105, 41]))
end Go.Proofs.YthbabhbfpcfenaaGreatDoor
