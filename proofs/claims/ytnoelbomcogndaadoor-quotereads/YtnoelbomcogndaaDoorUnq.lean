/- The walk of Unquote. -/
import Derived.Test.YtnoelbomcogndaaDoorUnes2
namespace Go.Proofs.YtnoelbomcogndaaDoor
open Go.RowKit
set_option linter.unusedVariables false

def inner (s : ByteArray) : ByteArray := ⟨(Lib.trimSuffix (Lib.trimPrefix s.data.toList [34]) [34]).toArray⟩
theorem inner_size (s : ByteArray) : (inner s).size ≤ s.size := by
  have h1 : (Lib.trimPrefix s.data.toList [34]).length ≤ s.size := by
    unfold Lib.trimPrefix
    split
    · rw [List.length_drop, list_len]; omega
    · rw [list_len]; omega
  have h2 : (Lib.trimSuffix (Lib.trimPrefix s.data.toList [34]) [34]).length ≤ (Lib.trimPrefix s.data.toList [34]).length := by
    unfold Lib.trimSuffix
    split
    · rw [List.length_take]; omega
    · omega
  show (Lib.trimSuffix (Lib.trimPrefix s.data.toList [34]) [34]).toArray.size ≤ _
  simp
  omega
theorem inner_quo (u : ByteArray) (a : Bool) : (inner (quoS u a)).data.toList = quoI a u.data.toList := by
  have h1 : Lib.trimPrefix (34 :: (quoI a u.data.toList ++ [34])) [34] = quoI a u.data.toList ++ [34] := by
    simp [Lib.trimPrefix, Lib.hasPrefix, List.isPrefixOf]
  have h2 : Lib.trimSuffix (quoI a u.data.toList ++ [34]) [34] = quoI a u.data.toList := by
    have : Lib.hasSuffix (quoI a u.data.toList ++ [34]) [34] = true := by
      unfold Lib.hasSuffix
      rw [List.isSuffixOf_iff_suffix]
      exact List.suffix_append _ _
    unfold Lib.trimSuffix
    rw [if_pos this, List.length_append]
    simp
  show (Lib.trimSuffix (Lib.trimPrefix (34 :: (quoI a u.data.toList ++ [34])).toArray.toList [34]) [34]).toArray.toList = _
  show Lib.trimSuffix (Lib.trimPrefix (34 :: (quoI a u.data.toList ++ [34])) [34]) [34] = _
  rw [h1, h2]
theorem toList_beq (a b : ByteArray) : (a.toList == b.toList) = decide (a = b) := by
  by_cases h : a = b
  · subst h; simp
  · have := beq_no a b h
    have h2 : (a.toList == b.toList) = false := by
      injection this
    rw [h2]; simp [h]
theorem beq_n (a b : ByteArray) (h : ¬ a = b) : (a.toList == b.toList) = false := by rw [toList_beq]; simp [h]
theorem beq_y (a b : ByteArray) (h : a = b) : (a.toList == b.toList) = true := by rw [toList_beq]; simp [h]
theorem quo_is (t : ByteArray) (a : Bool) (r : ByteArray) (h : quoS t a = r) (w : World) (hE : Esc w) (hs : t.size ≤ 1000000) :
    Calls Tryd.prog 17 #[.string t, .bool a] w fun e w' => e = .returned (.string r) ∧ Below w.heap.size w w' := by
  rw [← h]; exact quote_any t a w hE hs

set_option maxRecDepth 1000000 in
set_option maxHeartbeats 400000 in
theorem unquote_core (s : ByteArray) (w : World) (hE : Esc w) (hs : s.size ≤ 200000) :
    Calls Tryd.prog 10 #[.string s] w fun e w' => ∃ t, ReadsAll (inner s) t ∧ Below w.heap.size w w' ∧
      (((s = quoS t false ∨ s = quoS t true) ∧ e = .returned (.tuple #[.string t, .bool true])) ∨ (¬ (s = quoS t false ∨ s = quoS t true) ∧ e = .returned (.tuple #[.string ⟨#[]⟩, .bool false]))) := by
  have hin := inner_size s
  have hU : ∀ w, Esc w → Calls Tryd.prog 23 #[.string (inner s)] w fun e w' => ∃ t : ByteArray, e = .returned (.string t) ∧ t.size ≤ 4 * (inner s).size ∧ Below w.heap.size w w' ∧ ReadsAll (inner s) t := fun w hE => unescape_any _ w hE (by omega)
  have hP := Tryd.strings_TrimPrefix s ⟨#[34]⟩
  obtain ⟨p, hp⟩ : ∃ p, (⟨(Lib.trimPrefix s.data.toList (ByteArray.mk #[34]).data.toList).toArray⟩ : ByteArray) = p := ⟨_, rfl⟩
  rw [hp] at hP
  have hps : p.size ≤ 9223372036854775807 := by
    have h1 : (Lib.trimPrefix s.data.toList [34]).length ≤ s.size := by
      unfold Lib.trimPrefix
      split
      · rw [List.length_drop, list_len]; omega
      · rw [list_len]; omega
    rw [← hp]
    show (Lib.trimPrefix s.data.toList [34]).toArray.size ≤ _
    simp
    omega
  have hS : ∀ w, Calls Tryd.prog 24 #[.string p, .string ⟨#[34]⟩] w fun e w' => e = .returned (.string (inner s)) ∧ w' = w := by
    intro w
    have := Tryd.strings_TrimSuffix p ⟨#[34]⟩ w hps
    rw [← hp] at this ⊢
    exact this
  generalize inner s = i at *
  clear hp hps
  go_enter Tryd.func10, Tryd.ntmps10
  go_upto_region 2 with (first | (go_at_call 25; refine (hP _).mono ?_; rintro e w' ⟨rfl, rfl⟩) | (go_at_call 24; refine (hS _).mono ?_; rintro e w' ⟨rfl, rfl⟩) | (go_at_call 23; refine (hU _ hE).mono ?_; rintro e w1 ⟨t, rfl, ht, hb1, hR⟩))
  have HR : Hid (ReadsAll i t) := hR
  clear hR hU hP hS
  have hE1 := hE.below hb1
  obtain ⟨r1, h1⟩ : ∃ r, quoS t false = r := ⟨_, rfl⟩
  obtain ⟨r2, h2⟩ : ∃ r, quoS t true = r := ⟨_, rfl⟩
  have hQ : ∀ b w, Esc w → Calls Tryd.prog 17 #[.string t, .bool b] w fun e w' => e = .returned (.string (cond b r2 r1)) ∧ Below w.heap.size w w' := by
    intro b w hE
    cases b with
    | false => exact quo_is t false r1 h1 w hE (by omega)
    | true => exact quo_is t true r2 h2 w hE (by omega)
  have H1 : Hid (quoS t false = r1) := h1
  have H2 : Hid (quoS t true = r2) := h2
  clear h1 h2
  by_cases hc1 : s = r1
  · have hq := beq_y s r1 hc1
    have HC1 : Hid (s = r1) := hc1
    clear hc1
    go_wp2_with (go_at_call 17; refine (hQ _ _ hE1).mono ?_; rintro e w2 ⟨rfl, hb2⟩)
    go_ret2
    refine ⟨t, HR.out, hb1.trans (hb2.mono hb1.size), .inl ⟨.inl ?_, rfl⟩⟩
    rw [H1.out]; exact HC1.out
  · have hq := beq_n s r1 hc1
    have HC1 : Hid (¬ s = r1) := hc1
    clear hc1
    by_cases hc2 : s = r2
    · have hq2 := beq_y s r2 hc2
      have HC2 : Hid (s = r2) := hc2
      clear hc2
      go_wp2_with (go_at_call 17; refine (hQ _ _ (by first | exact hE1.below hbA | exact hE1)).mono ?_; rintro e w2 ⟨rfl, hb2⟩; first | (have hbB := hbA.trans (hb2.mono hbA.size)) | (have hbA := hb2))
      go_ret2
      refine ⟨t, HR.out, hb1.trans (hbB.mono hb1.size), .inl ⟨.inr ?_, rfl⟩⟩
      rw [H2.out]; exact HC2.out
    · have hq2 := beq_n s r2 hc2
      have HC2 : Hid (¬ s = r2) := hc2
      clear hc2
      go_wp2_with (go_at_call 17; refine (hQ _ _ (by first | exact hE1.below hbA | exact hE1)).mono ?_; rintro e w2 ⟨rfl, hb2⟩; first | (have hbB := hbA.trans (hb2.mono hbA.size)) | (have hbA := hb2))
      go_ret2
      refine ⟨t, HR.out, hb1.trans (hbB.mono hb1.size), .inr ⟨?_, rfl⟩⟩
      rw [H1.out, H2.out]
      exact fun h => h.elim HC1.out HC2.out

theorem unquote_yes (u : ByteArray) (a : Bool) (w : World) (hE : Esc w) (hs : (quoS u a).size ≤ 200000) :
    Calls Tryd.prog 10 #[.string (quoS u a)] w fun e w' => e = .returned (.tuple #[.string u, .bool true]) ∧ Below w.heap.size w w' := by
  refine (unquote_core _ w hE hs).mono ?_
  rintro e w' ⟨t, hR, hb, h⟩
  have ht : t = u := by
    have := hR a u.data.toList (inner_quo u a)
    rw [← ba_list t, this, ba_list]
  subst ht
  rcases h with ⟨-, rfl⟩ | ⟨h, -⟩
  · exact ⟨rfl, hb⟩
  · refine absurd ?_ h
    cases a with
    | false => exact .inl rfl
    | true => exact .inr rfl
theorem unquote_no (s : ByteArray) (w : World) (hE : Esc w) (hs : s.size ≤ 200000) (hno : ¬ ∃ u a, s = quoS u a) :
    Calls Tryd.prog 10 #[.string s] w fun e w' => e = .returned (.tuple #[.string ⟨#[]⟩, .bool false]) ∧ Below w.heap.size w w' := by
  refine (unquote_core _ w hE hs).mono ?_
  rintro e w' ⟨t, hR, hb, h⟩
  rcases h with ⟨h, -⟩ | ⟨-, rfl⟩
  · rcases h with h | h
    · exact absurd ⟨t, false, h⟩ hno
    · exact absurd ⟨t, true, h⟩ hno
  · exact ⟨rfl, hb⟩
end Go.Proofs.YtnoelbomcogndaaDoor
