/- The walk of the document's Char. -/
import Derived.Test.YtnoelbomcogndabDoorDIn
import Derived.Test.YtnoelbomcogndabDoorChar
namespace Go.Proofs.YtnoelbomcogndabDoor
open Go.RowKit
set_option linter.unusedVariables false

theorem dchr_pack (P : Nat) (a : Bool) (hP : P ≤ 1114111) : ∃ r t u : ByteArray, (⟨(39 :: (inL P 39 a ++ [39])).toArray⟩ : ByteArray) = r ∧ (ByteArray.mk #[39]) ++ t = u ∧ u ++ (ByteArray.mk #[39]) = r ∧ ¬ 9223372036854775807 < (ByteArray.mk #[39]).size + t.size ∧ ¬ 9223372036854775807 < u.size + (ByteArray.mk #[39]).size ∧
    ∀ w, Calls Tryd.prog 57 #[.int .i32 P, .int .u8 39, .bool a] w fun e w' => e = .returned (.string t) ∧ Below w.heap.size w w' := by
  have hl := inL_len P 39 a
  have e1 : (ByteArray.mk #[39]) ++ (ByteArray.mk (inL P 39 a).toArray) = ⟨(39 :: inL P 39 a).toArray⟩ := ba_app [39] _
  have e2 : (ByteArray.mk (39 :: inL P 39 a).toArray) ++ (ByteArray.mk #[39]) = ⟨(39 :: (inL P 39 a ++ [39])).toArray⟩ := ba_app (39 :: inL P 39 a) [39]
  refine ⟨_, _, _, rfl, e1, e2, one_sum 39 _ ?_, sum_one 39 _ ?_, fun w => din_any P 39 a w hP (.inr rfl)⟩
  · show (inL P 39 a).toArray.size ≤ 100000000
    simp; omega
  · show (39 :: inL P 39 a).toArray.size ≤ 100000000
    simp; omega

set_option maxRecDepth 1000000 in
set_option maxHeartbeats 400000 in
theorem dchar_any (c : Int) (a : Bool) (w : World) :
    Calls Tryd.prog 37 #[.int .i32 c, .bool a] w fun e w' => e = .returned (.string (chrS c a)) ∧ Below w.heap.size w w' := by
  obtain ⟨r, t, u, hr, h1, h2, h3, h4, hQ⟩ := dchr_pack (pt c) a (pt_le c)
  have hr' : chrS c a = r := hr
  rw [hr']
  clear hr hr'
  cases hv : Utf8.valid c with
  | true =>
    have hp : ((pt c : Nat) : Int) = c := by
      have := (valid_iff c).1 hv
      unfold pt
      rw [if_pos hv]
      omega
    rw [hp] at hQ
    have hV := fun w => point_yes c w hv
    clear hv hp
    go_enter Tryd.func37, Tryd.ntmps37
    go_wp2_with (first | (go_at_call 56; refine (hV _).mono ?_; rintro e w' ⟨rfl, rfl⟩) | (go_at_call 57; refine (hQ _).mono ?_; rintro e w2 ⟨rfl, hb2⟩))
    go_ret
    exact ⟨rfl, hb2⟩
  | false =>
    have hp : pt c = 65533 := by simp [pt, hv]
    rw [hp] at hQ
    have hQ' : ∀ w, Calls Tryd.prog 57 #[.int .i32 65533, .int .u8 39, .bool a] w fun e w' => e = .returned (.string t) ∧ Below w.heap.size w w' := hQ
    have hV := fun w => point_no c w hv
    clear hv hp hQ
    go_enter Tryd.func37, Tryd.ntmps37
    go_wp2_with (first | (go_at_call 56; refine (hV _).mono ?_; rintro e w' ⟨rfl, rfl⟩) | (go_at_call 57; refine (hQ' _).mono ?_; rintro e w2 ⟨rfl, hb2⟩))
    go_ret
    exact ⟨rfl, hb2⟩

end Go.Proofs.YtnoelbomcogndabDoor
