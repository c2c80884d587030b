/- The walks of Char, hindersRaw and Raw. -/
import Derived.Test.YtbfaapbbhgegiaaDoorQuot
import Derived.Test.YtbfaapbbhgegiaaDoorPlain7
namespace Go.Proofs.YtbfaapbbhgegiaaDoor
open Go.RowKit
set_option linter.unusedVariables false

/-- A code point in single quotes. -/
def chrS (c : Int) (a : Bool) : ByteArray := ⟨(39 :: (inL (pt c) 39 a ++ [39])).toArray⟩
theorem pt_le (c : Int) : pt c ≤ 1114111 := by
  have := (valid_iff _).1 (pt_valid c)
  omega
theorem one_sum (x : UInt8) (t : ByteArray) (h : t.size ≤ 100000000) : ¬ 9223372036854775807 < (ByteArray.mk #[x]).size + t.size := by
  show ¬ 9223372036854775807 < 1 + t.size
  omega
theorem sum_one (x : UInt8) (t : ByteArray) (h : t.size ≤ 100000000) : ¬ 9223372036854775807 < t.size + (ByteArray.mk #[x]).size := by
  show ¬ 9223372036854775807 < t.size + 1
  omega
theorem chr_pack (c : Int) (a : Bool) : ∃ r t u : ByteArray, chrS c a = r ∧ (ByteArray.mk #[39]) ++ t = u ∧ u ++ (ByteArray.mk #[39]) = r ∧ ¬ 9223372036854775807 < (ByteArray.mk #[39]).size + t.size ∧ ¬ 9223372036854775807 < u.size + (ByteArray.mk #[39]).size ∧
    ∀ w, Esc w → Calls Tryd.prog 75 #[.int .i32 (pt c : Nat), .int .i32 39, .bool a] w fun e w' => e = .returned (.string t) ∧ Below w.heap.size w w' := by
  have hl := inL_len (pt c) 39 a
  have e1 : (ByteArray.mk #[39]) ++ (ByteArray.mk (inL (pt c) 39 a).toArray) = ⟨(39 :: inL (pt c) 39 a).toArray⟩ := ba_app [39] _
  have e2 : (ByteArray.mk (39 :: inL (pt c) 39 a).toArray) ++ (ByteArray.mk #[39]) = chrS c a := ba_app (39 :: inL (pt c) 39 a) [39]
  refine ⟨_, _, _, rfl, e1, e2, one_sum 39 _ ?_, sum_one 39 _ ?_, fun w hE => inq_any (pt c) 39 a w hE (pt_le c) (.inr rfl)⟩
  · show (inL (pt c) 39 a).toArray.size ≤ 100000000
    simp; omega
  · show (39 :: inL (pt c) 39 a).toArray.size ≤ 100000000
    simp; omega
theorem dec_enc (c : Int) : dec (Utf8.encode c) = (pt c, (Utf8.encode c).size) := by
  have := back_dec c ⟨#[]⟩
  have e : Utf8.encode c ++ (ByteArray.mk #[]) = Utf8.encode c := by
    have := ba_app (Utf8.encode c).data.toList []
    rw [List.append_nil, ba_list] at this
    exact this
  rw [e] at this
  exact this

/-- Does a code point hinder Raw? -/
def hind (c : Int) : Bool := decide (c = 96 ∨ (c < 32 ∧ c ≠ 9) ∨ c = 127 ∨ c = 65279)
set_option maxRecDepth 1000000 in
set_option maxHeartbeats 400000 in
theorem hinders_any (c : Int) (w : World) :
    Calls Tryd.prog 90 #[.int .i32 c] w fun e w' => e = .returned (.bool (hind c)) ∧ w' = w := by
  by_cases h1 : c = 9 <;> by_cases h2 : c = 96 <;> by_cases h3 : c = 127 <;> by_cases h4 : c = 65279 <;> by_cases h5 : c < 32
  all_goals first | (exfalso; omega) | skip
  all_goals first | (have hp : hind c = true := (by unfold hind; rw [decide_eq_true_iff]; omega)) | (have hp : hind c = false := (by unfold hind; rw [decide_eq_false_iff_not]; omega))
  all_goals
    rw [hp]
    go_enter Tryd.func90, Tryd.ntmps90
    go_wp2
    go_ret
    exact ⟨rfl, rfl⟩
/-- Does anything in a text, from a place on, hinder Raw? -/
def rawGo (s : ByteArray) : Nat → Nat → Bool
  | 0, _ => true
  | f + 1, p => if p < s.size then (if hind (Utf8.decode s p).1 = true ∨ brk (Utf8.decode s p) = true then false else rawGo s f (p + (Utf8.decode s p).2)) else true
theorem rawGo_fuel (s : ByteArray) : ∀ (f g p : Nat), s.size - p ≤ f → s.size - p ≤ g → rawGo s f p = rawGo s g p
  | 0, 0, _, _, _ => rfl
  | 0, g + 1, p, h, _ => by simp [rawGo, show ¬ p < s.size by omega]
  | f + 1, 0, p, _, h => by simp [rawGo, show ¬ p < s.size by omega]
  | f + 1, g + 1, p, h1, h2 => by
    have hw := wid_pos s p
    by_cases hp : p < s.size
    · simp only [rawGo, if_pos hp]
      rw [rawGo_fuel s f g _ (by omega) (by omega)]
    · simp [rawGo, hp]
def rawF (s : ByteArray) (p : Nat) : Bool := rawGo s (s.size - p) p
theorem rawF_end (s : ByteArray) (p : Nat) (h : ¬ p < s.size) : rawF s p = true := by
  unfold rawF
  rw [show s.size - p = 0 by omega]; rfl
theorem rawF_no (s : ByteArray) (p : Nat) (h : p < s.size) (hh : hind (Utf8.decode s p).1 = true ∨ brk (Utf8.decode s p) = true) : rawF s p = false := by
  unfold rawF
  obtain ⟨f, hf⟩ : ∃ f, s.size - p = f + 1 := ⟨s.size - p - 1, by omega⟩
  rw [hf]
  simp only [rawGo, if_pos h, if_pos hh]
theorem rawF_on (s : ByteArray) (p : Nat) (h : p < s.size) (hh : ¬ (hind (Utf8.decode s p).1 = true ∨ brk (Utf8.decode s p) = true)) : rawF s p = rawF s (p + (Utf8.decode s p).2) := by
  have hw := wid_pos s p
  unfold rawF
  obtain ⟨f, hf⟩ : ∃ f, s.size - p = f + 1 := ⟨s.size - p - 1, by omega⟩
  rw [hf]
  simp only [rawGo, if_pos h, if_neg hh]
  rw [rawGo_fuel s f _ _ (by omega) (Nat.le_refl _)]
end Go.Proofs.YtbfaapbbhgegiaaDoor
