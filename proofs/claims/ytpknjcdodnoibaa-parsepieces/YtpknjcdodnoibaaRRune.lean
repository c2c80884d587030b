/- The walk of the document's Rune. -/
import Derived.Test.YtpknjcdodnoibaaRunes
namespace Go.Proofs.Ytpknjcdodnoibaa
open Go.RowKit

set_option maxRecDepth 1000000 in
set_option maxHeartbeats 800000 in
theorem rrune_1 (n : Nat) (w : World) (hv : Utf8.valid (n : Int) = true) (h1 : n < 128) :
    Calls Try.prog 30 #[.int .i32 n] w fun e w' => e = .returned (.string (Utf8.encode n)) ∧ Below w.heap.size w w' := by
  have hb : n ≤ 1114111 := by have := (valid_iff _).1 hv; omega
  have kc := conv1
  go_enter Try.func30, Try.ntmps30
  go_wp2_with (go_at_call 29; refine (point_any _ _).mono ?_; rintro e w' ⟨rfl, rfl⟩)
  go_ret
  refine ⟨?_, (Below.refl _ _).alloc (Nat.le_refl _) _⟩
  show Ending.returned (.string (strOfNums _)) = _
  exact ret_str (str1 n h1)
set_option maxRecDepth 1000000 in
set_option maxHeartbeats 800000 in
theorem rrune_2 (n : Nat) (w : World) (hv : Utf8.valid (n : Int) = true) (h1 : 128 ≤ n) (h2 : n < 2048) :
    Calls Try.prog 30 #[.int .i32 n] w fun e w' => e = .returned (.string (Utf8.encode n)) ∧ Below w.heap.size w w' := by
  have hb : n ≤ 1114111 := by have := (valid_iff _).1 hv; omega
  have kc := conv2
  go_enter Try.func30, Try.ntmps30
  go_wp2_with (go_at_call 29; refine (point_any _ _).mono ?_; rintro e w' ⟨rfl, rfl⟩)
  go_ret
  refine ⟨?_, (Below.refl _ _).alloc (Nat.le_refl _) _⟩
  show Ending.returned (.string (strOfNums _)) = _
  exact ret_str (str2 n h1 h2)
set_option maxRecDepth 1000000 in
set_option maxHeartbeats 800000 in
theorem rrune_3 (n : Nat) (w : World) (hv : Utf8.valid (n : Int) = true) (h1 : 2048 ≤ n) (h2 : n < 65536) :
    Calls Try.prog 30 #[.int .i32 n] w fun e w' => e = .returned (.string (Utf8.encode n)) ∧ Below w.heap.size w w' := by
  have hb : n ≤ 1114111 := by have := (valid_iff _).1 hv; omega
  have kc := conv3
  go_enter Try.func30, Try.ntmps30
  go_wp2_with (go_at_call 29; refine (point_any _ _).mono ?_; rintro e w' ⟨rfl, rfl⟩)
  go_ret
  refine ⟨?_, (Below.refl _ _).alloc (Nat.le_refl _) _⟩
  show Ending.returned (.string (strOfNums _)) = _
  exact ret_str (str3 n hv h1 h2)
set_option maxRecDepth 1000000 in
set_option maxHeartbeats 800000 in
theorem rrune_4 (n : Nat) (w : World) (hv : Utf8.valid (n : Int) = true) (h1 : 65536 ≤ n) :
    Calls Try.prog 30 #[.int .i32 n] w fun e w' => e = .returned (.string (Utf8.encode n)) ∧ Below w.heap.size w w' := by
  have hb : n ≤ 1114111 := by have := (valid_iff _).1 hv; omega
  have kc := conv4
  go_enter Try.func30, Try.ntmps30
  go_wp2_with (go_at_call 29; refine (point_any _ _).mono ?_; rintro e w' ⟨rfl, rfl⟩)
  go_ret
  refine ⟨?_, (Below.refl _ _).alloc (Nat.le_refl _) _⟩
  show Ending.returned (.string (strOfNums _)) = _
  exact ret_str (str4 n hv h1)

set_option maxRecDepth 1000000 in
set_option maxHeartbeats 800000 in
theorem rrune_bad (c : Int) (w : World) (hv : Utf8.valid c = false) :
    Calls Try.prog 30 #[.int .i32 c] w fun e w' => e = .returned (.string (Utf8.encode c)) ∧ Below w.heap.size w w' := by
  have kc := conv3
  go_enter Try.func30, Try.ntmps30
  go_wp2_with (go_at_call 29; refine (point_any _ _).mono ?_; rintro e w' ⟨rfl, rfl⟩)
  go_ret
  refine ⟨?_, (Below.refl _ _).alloc (Nat.le_refl _) _⟩
  show Ending.returned (.string (strOfNums _)) = _
  exact ret_str (str_bad c hv)

theorem rrune_any (c : Int) (w : World) :
    Calls Try.prog 30 #[.int .i32 c] w fun e w' => e = .returned (.string (Utf8.encode c)) ∧ Below w.heap.size w w' := by
  cases hv : Utf8.valid c with
  | false => exact rrune_bad c w hv
  | true =>
    have h := (valid_iff c).1 hv
    obtain ⟨n, rfl⟩ : ∃ n : Nat, c = n := ⟨c.toNat, by omega⟩
    by_cases h1 : n < 128
    · exact rrune_1 n w hv h1
    by_cases h2 : n < 2048
    · exact rrune_2 n w hv (by omega) h2
    by_cases h3 : n < 65536
    · exact rrune_3 n w hv (by omega) h3
    · exact rrune_4 n w hv (by omega)
end Go.Proofs.Ytpknjcdodnoibaa
