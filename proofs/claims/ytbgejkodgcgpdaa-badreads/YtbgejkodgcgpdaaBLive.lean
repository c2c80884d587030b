/- The laws of layer 10: the document's examples; cut. -/
import Derived.Test.YtbgejkodgcgpdaaBExtra
namespace Go.Proofs.Ytbgejkodgcgpdaa
open Go.RowKit
set_option linter.unusedVariables false
set_option linter.unusedSimpArgs false

abbrev CpB (s p I : ByteArray) (o : Bool) : Prop := ∀ w, Calls Try.prog 30 #[.string s, .string p] w fun e w' => e = .returned (.tuple #[.string I, .bool o]) ∧ w' = w
abbrev CsB (s p I : ByteArray) (o : Bool) : Prop := ∀ w, Calls Try.prog 31 #[.string s, .string p] w fun e w' => e = .returned (.tuple #[.string I, .bool o]) ∧ w' = w
abbrev HpB (s p : ByteArray) (o : Bool) : Prop := ∀ w, Calls Try.prog 48 #[.string s, .string p] w fun e w' => e = .returned (.bool o) ∧ w' = w
set_option maxRecDepth 1000000 in
set_option maxHeartbeats 2000000 in
theorem withverb_ex (w : World) : Calls Try.prog 50 #[.string ⟨#[97, 61, 98]⟩] w fun e w' => e = .returned (.int .i64 1) ∧ w' = w := by
  have k4 : HpB ⟨#[97, 61, 98]⟩ ⟨#[80, 65, 78, 73, 67, 61]⟩ false := fun w => Try.strings_HasPrefix _ _ w
  have k5 : ∀ w, Calls Try.prog 62 #[.string ⟨#[97, 61, 98]⟩, .string ⟨#[61]⟩] w fun e w' => e = .returned (.bool true) ∧ w' = w := fun w => Try.strings_Contains_one _ 61 w
  go_enter Try.func50, Try.ntmps50
  go_wp2_with (first
    | (go_at_call 48; refine (k4 _).mono ?_; rintro e w2 ⟨rfl, hw2⟩; subst w2)
    | (go_at_call 62; refine (k5 _).mono ?_; rintro e w2 ⟨rfl, hw2⟩; subst w2))
  go_ret
  exact ⟨rfl, rfl⟩
set_option maxRecDepth 1000000 in
set_option maxHeartbeats 2000000 in
theorem parts_ex (w : World) : Calls Try.prog 32 #[.string ⟨#[40, 40, 97, 61, 98]⟩] w fun e w' => e = .returned (.tuple #[.int .i64 1, .int .i32 40, .string ⟨#[97, 61, 98]⟩]) ∧ Below w.heap.size w w' := by
  have k1 : CpB ⟨#[40, 40, 97, 61, 98]⟩ ⟨#[40]⟩ ⟨#[40, 97, 61, 98]⟩ true := fun w => Try.strings_CutPrefix _ _ w
  have k2 : CpB ⟨#[40, 97, 61, 98]⟩ ⟨#[40]⟩ ⟨#[97, 61, 98]⟩ true := fun w => Try.strings_CutPrefix _ _ w
  have k3 : HpB ⟨#[40, 97, 61, 98]⟩ ⟨#[40]⟩ true := fun w => Try.strings_HasPrefix _ _ w
  have k4 : ∀ w, Calls Try.prog 26 #[.string ⟨#[40, 40, 97, 61, 98]⟩] w fun e w' => e = .returned (.tuple #[.int .i32 40, .int .i64 1]) ∧ Below w.heap.size w w' := fun w => decode_any ⟨#[40, 40, 97, 61, 98]⟩ w
  have hx : (⟨#[40, 40, 97, 61, 98]⟩ : ByteArray).extract 1 5 = ⟨#[40, 97, 61, 98]⟩ := by decide
  have hz : (⟨#[40, 40, 97, 61, 98]⟩ : ByteArray).size = 5 := by decide
  go_enter Try.func32, Try.ntmps32
  go_wp2_with (first
    | (go_at_call 30; (first | (with_reducible refine (k1 _).mono ?_) | (with_reducible refine (k2 _).mono ?_)); rintro e w2 ⟨rfl, hw2⟩; subst w2)
    | (go_at_call 48; refine (k3 _).mono ?_; rintro e w2 ⟨rfl, hw2⟩; subst w2)
    | (go_at_call 26; refine (k4 _).mono ?_; rintro e w3 ⟨rfl, hb3⟩)
    | (go_at_call 50; refine (withverb_ex _).mono ?_; rintro e w4 ⟨rfl, hw4⟩; subst w4))
  go_ret3
  exact ⟨rfl, hb3⟩
set_option maxRecDepth 1000000 in
set_option maxHeartbeats 2000000 in
theorem read_ex (w : World) : Calls Try.prog 16 #[.string ⟨#[37, 33, 40, 40, 97, 61, 98, 41]⟩] w fun e w' => e = .returned (.tuple #[.int .i64 1, .int .i32 40, .string ⟨#[97, 61, 98]⟩]) ∧ Below w.heap.size w w' := by
  have k1 : CpB ⟨#[37, 33, 40, 40, 97, 61, 98, 41]⟩ ⟨#[37, 33]⟩ ⟨#[40, 40, 97, 61, 98, 41]⟩ true := fun w => Try.strings_CutPrefix _ _ w
  have k2 : CsB ⟨#[40, 40, 97, 61, 98, 41]⟩ ⟨#[41]⟩ ⟨#[40, 40, 97, 61, 98]⟩ true := fun w => Try.strings_CutSuffix _ _ w (by decide)
  go_enter Try.func16, Try.ntmps16
  go_wp2_with (first
    | (go_at_call 30; refine (k1 _).mono ?_; rintro e w2 ⟨rfl, hw2⟩; subst w2)
    | (go_at_call 31; refine (k2 _).mono ?_; rintro e w2 ⟨rfl, hw2⟩; subst w2)
    | (go_at_call 32; refine (parts_ex _).mono ?_; rintro e w3 ⟨rfl, hb3⟩))
  go_ret3
  exact ⟨rfl, hb3⟩
theorem dec_ex1 : bT (vB 100) ([115, 116, 114, 105, 110, 103] ++ [61] ++ [104, 105]) = ⟨#[37, 33, 100, 40, 115, 116, 114, 105, 110, 103, 61, 104, 105, 41]⟩ := by
  unfold bT vB
  rw [show Utf8.encode 100 = ⟨#[100]⟩ from enc1 100 (by omega)]
  rfl
set_option maxRecDepth 1000000 in
set_option maxHeartbeats 4000000 in
theorem lives10_any (w : World) : Calls Try.prog 18 #[] w fun e w' => e = .returned (.bool true) ∧ Below w.heap.size w w' := by
  have hV : ∀ w, Calls Try.prog 23 #[.int .i32 100, .string ⟨#[115, 116, 114, 105, 110, 103]⟩, .string ⟨#[104, 105]⟩] w fun e w' => e = .returned (.string ⟨#[37, 33, 100, 40, 115, 116, 114, 105, 110, 103, 61, 104, 105, 41]⟩) ∧ Below w.heap.size w w' := fun w => by
    have := bverb_any 100 ⟨#[115, 116, 114, 105, 110, 103]⟩ (by decide) ⟨#[104, 105]⟩ (by decide) w
    rw [← dec_ex1]
    exact this
  have hX : ∀ V : World, Calls Try.prog 24 #[.slice (some ⟨V.heap.size, 0, none⟩) 1 1, .slice (some ⟨V.heap.size + 1, 0, none⟩) 1 1] ((V.alloc (.cells #[.string ⟨#[105, 110, 116]⟩] 9)).alloc (.cells #[.string ⟨#[53]⟩] 9)) fun e w' => e = .returned (.string ⟨#[37, 33, 40, 69, 88, 84, 82, 65, 32, 105, 110, 116, 61, 53, 41]⟩) ∧ Below V.heap.size V w' := fun V => by
    refine (bextra_any [⟨#[105, 110, 116]⟩] [⟨#[53]⟩] (some ⟨V.heap.size, 0, none⟩) (some ⟨V.heap.size + 1, 0, none⟩) 1 1 _ (by intro x hx; simp at hx; subst hx; decide) (by intro x hx; simp at hx; subst hx; decide) (by decide) (by decide) ?_ ?_).mono fun e w' ⟨e1, e2⟩ => ⟨e1, ?_⟩
    · intro j x hj
      match j, hj with
      | 0, hj => simp at hj; subst hj; exact ⟨_, rfl, by simp⟩
    · intro j x hj
      match j, hj with
      | 0, hj => simp at hj; subst hj; exact ⟨_, rfl, by simp⟩
    · have b0 : Below V.heap.size V ((V.alloc (.cells #[.string ⟨#[105, 110, 116]⟩] 9)).alloc (.cells #[.string ⟨#[53]⟩] 9)) := by go_grown
      exact b0.trans (e2.mono b0.size)
  go_enter Try.func18, Try.ntmps18
  go_wp2_with (first
    | (go_at_call 16; refine (read_ex _).mono ?_; rintro e w2 ⟨rfl, hb2⟩)
    | (go_at_call 23; refine (hV _).mono ?_; rintro e w3 ⟨rfl, hb3⟩)
    | (go_at_call 24; refine (hX w3).mono ?_; rintro e w4 ⟨rfl, hb4⟩))
  go_ret
  have b5 : Below w.heap.size w w3 := hb2.trans (hb3.mono hb2.size)
  exact ⟨rfl, b5.trans (hb4.mono b5.size)⟩
set_option maxRecDepth 1000000 in
set_option maxHeartbeats 1000000 in
theorem cut10_few {s : ByteArray} (h : ¬ 1000 < (s.size : Int)) (w : World) : Calls Try.prog 15 #[.string s] w fun e w' => e = .returned (.string s) ∧ w' = w := by
  go_enter Try.func15, Try.ntmps15
  go_wp2
  go_ret
  exact ⟨rfl, rfl⟩
set_option maxRecDepth 1000000 in
set_option maxHeartbeats 1000000 in
theorem cut10_many {s : ByteArray} (h : 1000 < (s.size : Int)) (w : World) : Calls Try.prog 15 #[.string s] w fun e w' => e = .returned (.string (s.extract 0 1000)) ∧ w' = w := by
  have h3 : (1000 : Int) ≤ s.size := by omega
  go_enter Try.func15, Try.ntmps15
  go_wp2
  go_ret
  exact ⟨rfl, rfl⟩
theorem cut10_any (s : ByteArray) : ∃ t : ByteArray, t.size ≤ 1000 ∧ ∀ w, Calls Try.prog 15 #[.string s] w fun e w' => e = .returned (.string t) ∧ w' = w := by
  by_cases h : 1000 < s.size
  · exact ⟨s.extract 0 1000, by rw [ByteArray.size_extract]; omega, cut10_many (by omega)⟩
  · exact ⟨s, by omega, cut10_few (by omega)⟩
end Go.Proofs.Ytbgejkodgcgpdaa
