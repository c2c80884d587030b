/- The walk of the document's In: a rune in quotes. -/
import Derived.Test.YtnoelbomcogndaaDoorDPlain
import Derived.Test.YtnoelbomcogndaaDoorDDig
import Derived.Test.YtnoelbomcogndaaDoorRRune
import Derived.Deep.RegionWith
import Derived.Deep.QuietTactic
import Derived.BigQuiet
import Derived.Deep.DeepCutAuto
import Derived.Deep.CutBlock
namespace Go.Proofs.YtnoelbomcogndaaDoor
open Go.RowKit
set_option linter.unusedVariables false

theorem conv2d (w : World) (x y : Int) :
    (convert 43 9 (.slice (some ⟨w.heap.size, 0, none⟩) 2 2)).run Tryd.prog (w.alloc (.cells #[.int .u8 x, .int .u8 y] 5)).drew = .ok (.string (strOfNums [x, y])) (w.alloc (.cells #[.int .u8 x, .int .u8 y] 5)).drew := conv2 w.drew x y
theorem two_nums (c : Nat) (h : c < 256) : strOfNums [92, (c : Int)] = ⟨[92, UInt8.ofNat c].toArray⟩ := by simp [strOfNums]

set_option maxRecDepth 1000000 in
set_option maxHeartbeats 400000 in
theorem din_q (c q : Nat) (a : Bool) (w : World) (hq : q = 34 ∨ q = 39) (h : c = q ∨ c = 92) :
    Calls Tryd.prog 50 #[.int .i32 c, .int .u8 q, .bool a] w fun e w' => e = .returned (.string ⟨(inL c q a).toArray⟩) ∧ Below w.heap.size w w' := by
  rw [inL_q c q a h]
  have kc := conv2
  have hc : c < 128 := by omega
  have hn := two_nums c (by omega)
  generalize (⟨[92, UInt8.ofNat c].toArray⟩ : ByteArray) = r at *
  by_cases h1 : c = q
  · subst h1
    go_enter Tryd.func50, Tryd.ntmps50
    go_wp2
    go_ret
    exact ⟨rfl, (Below.refl _ _).alloc (Nat.le_refl _) _⟩
  · obtain rfl : c = 92 := by omega
    have h1' : ¬ (92 : Int) = (q : Int) := by omega
    have h1b : ((92 : Int) == (q : Int)) = false := beq_eq_false_iff_ne.2 h1'
    have hn' : strOfNums [92, 92] = r := hn
    clear hn
    go_enter Tryd.func50, Tryd.ntmps50
    go_wp2
    go_ret
    exact ⟨rfl, (Below.refl _ _).alloc (Nat.le_refl _) _⟩

set_option maxRecDepth 1000000 in
set_option maxHeartbeats 400000 in
theorem din_e0 (q : Nat) (a : Bool) (w : World) (hq : q = 34 ∨ q = 39) :
    Calls Tryd.prog 50 #[.int .i32 7, .int .u8 q, .bool a] w fun e w' => e = .returned (.string ⟨#[92, UInt8.ofNat (escT 0)]⟩) ∧ Below w.heap.size w w' := by
  have kc := conv2
  have h1' : ¬ (7 : Int) = (q : Int) := by omega
  have h1b : ((7 : Int) == (q : Int)) = false := beq_eq_false_iff_ne.2 h1'
  have hn : strOfNums [92, 97] = ⟨#[92, UInt8.ofNat (escT 0)]⟩ := by decide +kernel
  have HN : Hid (_ = _) := hn
  clear hn
  go_enter Tryd.func50, Tryd.ntmps50
  go_wp2
  go_ret
  exact ⟨ret_str HN.out, (Below.refl _ _).alloc (Nat.le_refl _) _⟩

set_option maxRecDepth 1000000 in
set_option maxHeartbeats 400000 in
theorem din_e1 (q : Nat) (a : Bool) (w : World) (hq : q = 34 ∨ q = 39) :
    Calls Tryd.prog 50 #[.int .i32 8, .int .u8 q, .bool a] w fun e w' => e = .returned (.string ⟨#[92, UInt8.ofNat (escT 1)]⟩) ∧ Below w.heap.size w w' := by
  have kc := conv2
  have h1' : ¬ (8 : Int) = (q : Int) := by omega
  have h1b : ((8 : Int) == (q : Int)) = false := beq_eq_false_iff_ne.2 h1'
  have hn : strOfNums [92, 98] = ⟨#[92, UInt8.ofNat (escT 1)]⟩ := by decide +kernel
  have HN : Hid (_ = _) := hn
  clear hn
  go_enter Tryd.func50, Tryd.ntmps50
  go_wp2
  go_ret
  exact ⟨ret_str HN.out, (Below.refl _ _).alloc (Nat.le_refl _) _⟩

set_option maxRecDepth 1000000 in
set_option maxHeartbeats 400000 in
theorem din_e2 (q : Nat) (a : Bool) (w : World) (hq : q = 34 ∨ q = 39) :
    Calls Tryd.prog 50 #[.int .i32 9, .int .u8 q, .bool a] w fun e w' => e = .returned (.string ⟨#[92, UInt8.ofNat (escT 2)]⟩) ∧ Below w.heap.size w w' := by
  have kc := conv2
  have h1' : ¬ (9 : Int) = (q : Int) := by omega
  have h1b : ((9 : Int) == (q : Int)) = false := beq_eq_false_iff_ne.2 h1'
  have hn : strOfNums [92, 116] = ⟨#[92, UInt8.ofNat (escT 2)]⟩ := by decide +kernel
  have HN : Hid (_ = _) := hn
  clear hn
  go_enter Tryd.func50, Tryd.ntmps50
  go_wp2
  go_ret
  exact ⟨ret_str HN.out, (Below.refl _ _).alloc (Nat.le_refl _) _⟩

set_option maxRecDepth 1000000 in
set_option maxHeartbeats 400000 in
theorem din_e3 (q : Nat) (a : Bool) (w : World) (hq : q = 34 ∨ q = 39) :
    Calls Tryd.prog 50 #[.int .i32 10, .int .u8 q, .bool a] w fun e w' => e = .returned (.string ⟨#[92, UInt8.ofNat (escT 3)]⟩) ∧ Below w.heap.size w w' := by
  have kc := conv2
  have h1' : ¬ (10 : Int) = (q : Int) := by omega
  have h1b : ((10 : Int) == (q : Int)) = false := beq_eq_false_iff_ne.2 h1'
  have hn : strOfNums [92, 110] = ⟨#[92, UInt8.ofNat (escT 3)]⟩ := by decide +kernel
  have HN : Hid (_ = _) := hn
  clear hn
  go_enter Tryd.func50, Tryd.ntmps50
  go_wp2
  go_ret
  exact ⟨ret_str HN.out, (Below.refl _ _).alloc (Nat.le_refl _) _⟩

set_option maxRecDepth 1000000 in
set_option maxHeartbeats 400000 in
theorem din_e4 (q : Nat) (a : Bool) (w : World) (hq : q = 34 ∨ q = 39) :
    Calls Tryd.prog 50 #[.int .i32 11, .int .u8 q, .bool a] w fun e w' => e = .returned (.string ⟨#[92, UInt8.ofNat (escT 4)]⟩) ∧ Below w.heap.size w w' := by
  have kc := conv2
  have h1' : ¬ (11 : Int) = (q : Int) := by omega
  have h1b : ((11 : Int) == (q : Int)) = false := beq_eq_false_iff_ne.2 h1'
  have hn : strOfNums [92, 118] = ⟨#[92, UInt8.ofNat (escT 4)]⟩ := by decide +kernel
  have HN : Hid (_ = _) := hn
  clear hn
  go_enter Tryd.func50, Tryd.ntmps50
  go_wp2
  go_ret
  exact ⟨ret_str HN.out, (Below.refl _ _).alloc (Nat.le_refl _) _⟩

set_option maxRecDepth 1000000 in
set_option maxHeartbeats 400000 in
theorem din_e5 (q : Nat) (a : Bool) (w : World) (hq : q = 34 ∨ q = 39) :
    Calls Tryd.prog 50 #[.int .i32 12, .int .u8 q, .bool a] w fun e w' => e = .returned (.string ⟨#[92, UInt8.ofNat (escT 5)]⟩) ∧ Below w.heap.size w w' := by
  have kc := conv2
  have h1' : ¬ (12 : Int) = (q : Int) := by omega
  have h1b : ((12 : Int) == (q : Int)) = false := beq_eq_false_iff_ne.2 h1'
  have hn : strOfNums [92, 102] = ⟨#[92, UInt8.ofNat (escT 5)]⟩ := by decide +kernel
  have HN : Hid (_ = _) := hn
  clear hn
  go_enter Tryd.func50, Tryd.ntmps50
  go_wp2
  go_ret
  exact ⟨ret_str HN.out, (Below.refl _ _).alloc (Nat.le_refl _) _⟩

set_option maxRecDepth 1000000 in
set_option maxHeartbeats 400000 in
theorem din_e6 (q : Nat) (a : Bool) (w : World) (hq : q = 34 ∨ q = 39) :
    Calls Tryd.prog 50 #[.int .i32 13, .int .u8 q, .bool a] w fun e w' => e = .returned (.string ⟨#[92, UInt8.ofNat (escT 6)]⟩) ∧ Below w.heap.size w w' := by
  have kc := conv2
  have h1' : ¬ (13 : Int) = (q : Int) := by omega
  have h1b : ((13 : Int) == (q : Int)) = false := beq_eq_false_iff_ne.2 h1'
  have hn : strOfNums [92, 114] = ⟨#[92, UInt8.ofNat (escT 6)]⟩ := by decide +kernel
  have HN : Hid (_ = _) := hn
  clear hn
  go_enter Tryd.func50, Tryd.ntmps50
  go_wp2
  go_ret
  exact ⟨ret_str HN.out, (Below.refl _ _).alloc (Nat.le_refl _) _⟩

theorem din_e (c q : Nat) (a : Bool) (w : World) (hq : q = 34 ∨ q = 39) (h : 7 ≤ c ∧ c ≤ 13) :
    Calls Tryd.prog 50 #[.int .i32 c, .int .u8 q, .bool a] w fun e w' => e = .returned (.string ⟨(inL c q a).toArray⟩) ∧ Below w.heap.size w w' := by
  rw [inL_e c q a (by omega) h]
  have hm : c = 7 ∨ c = 8 ∨ c = 9 ∨ c = 10 ∨ c = 11 ∨ c = 12 ∨ c = 13 := by omega
  rcases hm with rfl | rfl | rfl | rfl | rfl | rfl | rfl
  · exact din_e0 q a w hq
  · exact din_e1 q a w hq
  · exact din_e2 q a w hq
  · exact din_e3 q a w hq
  · exact din_e4 q a w hq
  · exact din_e5 q a w hq
  · exact din_e6 q a w hq

set_option maxRecDepth 1000000 in
set_option maxHeartbeats 800000 in
theorem din_x (c q : Nat) (a : Bool) (w : World) (hc : c ≤ 1114111) (hq : q = 34 ∨ q = 39) (h : ¬ (c = q ∨ c = 92)) (h1 : ¬ (7 ≤ c ∧ c ≤ 13)) (h2 : ¬ (plainP c = true ∧ (c ≤ 126 ∨ a = false))) (h3 : c < 128) :
    Calls Tryd.prog 50 #[.int .i32 c, .int .u8 q, .bool a] w fun e w' => e = .returned (.string ⟨(inL c q a).toArray⟩) ∧ Below w.heap.size w w' := by
  rw [inL_x c q a h h1 h2 h3]
  have kc := conv2d
  have he := hex_bytes 120 c 2
  have hs := hex_size c 2
  have hn : strOfNums [92, 120] = ⟨#[92, 120]⟩ := rfl
  have hDg := fun w => digits_any c 2 hc (by omega) w
  generalize (⟨([92, 120] ++ hexL c 2).toArray⟩ : ByteArray) = r at *
  generalize (⟨(hexL c 2).toArray⟩ : ByteArray) = t at *
  obtain ⟨m, hm⟩ : ∃ m, (⟨#[92, 120]⟩ : ByteArray) = m := ⟨_, rfl⟩
  have hms : m.size = 2 := by rw [← hm]; rfl
  rw [hm] at he hn
  clear hm
  have hsum : ¬ 9223372036854775807 < m.size + t.size := by omega
  have n1 : ((c : Int) == (q : Int)) = false := beq_eq_false_iff_ne.2 (by omega)
  have n2 : ((c : Int) == 92) = false := beq_eq_false_iff_ne.2 (by omega)
  have m3 : (c : Int) < 128 := by omega
  have hP := fun w => dplain_any (c : Int) w
  have hcs : plainP (c : Int) = false ∨ (plainP (c : Int) = true ∧ ¬ c ≤ 126 ∧ a = true) := by
    cases hp : plainP (c : Int) with
    | false => exact .inl rfl
    | true =>
      refine .inr ⟨rfl, fun hle => h2 ⟨hp, .inl hle⟩, ?_⟩
      cases a with
      | true => rfl
      | false => exact absurd ⟨hp, .inr rfl⟩ h2
  generalize plainP (c : Int) = pb at *
  clear h2 h
  have hsv : ¬ (7 : Int) ≤ c ∨ ((7 : Int) ≤ c ∧ ¬ (c : Int) ≤ 13) := by omega
  clear h1
  rcases hcs with rfl | ⟨rfl, hle, rfl⟩ <;> rcases hsv with hs7 | ⟨hs7, hs13⟩
  all_goals go_enter Tryd.func50, Tryd.ntmps50
  all_goals go_wp2_with (go_at_call 61; refine (hP _).mono ?_; rintro e w' ⟨rfl, rfl⟩)
  all_goals go_region_with (go_at_call 49; refine (hDg _).mono ?_; rintro e w2 ⟨rfl, rfl⟩)
  all_goals go_wp2
  all_goals go_ret
  all_goals exact ⟨rfl, ((Below.refl _ _).alloc (Nat.le_refl _) _).drew⟩

set_option maxRecDepth 1000000 in
set_option maxHeartbeats 800000 in
theorem din_u (c q : Nat) (a : Bool) (w : World) (hc : c ≤ 1114111) (hq : q = 34 ∨ q = 39) (h : ¬ (c = q ∨ c = 92)) (h1 : ¬ (7 ≤ c ∧ c ≤ 13)) (h2 : ¬ (plainP c = true ∧ (c ≤ 126 ∨ a = false))) (h3 : ¬ c < 128) (h4 : c ≤ 65535) :
    Calls Tryd.prog 50 #[.int .i32 c, .int .u8 q, .bool a] w fun e w' => e = .returned (.string ⟨(inL c q a).toArray⟩) ∧ Below w.heap.size w w' := by
  rw [inL_u c q a h h1 h2 h3 h4]
  have kc := conv2d
  have he := hex_bytes 117 c 4
  have hs := hex_size c 4
  have hn : strOfNums [92, 117] = ⟨#[92, 117]⟩ := rfl
  have hDg := fun w => digits_any c 4 hc (by omega) w
  generalize (⟨([92, 117] ++ hexL c 4).toArray⟩ : ByteArray) = r at *
  generalize (⟨(hexL c 4).toArray⟩ : ByteArray) = t at *
  obtain ⟨m, hm⟩ : ∃ m, (⟨#[92, 117]⟩ : ByteArray) = m := ⟨_, rfl⟩
  have hms : m.size = 2 := by rw [← hm]; rfl
  rw [hm] at he hn
  clear hm
  have hsum : ¬ 9223372036854775807 < m.size + t.size := by omega
  have n1 : ((c : Int) == (q : Int)) = false := beq_eq_false_iff_ne.2 (by omega)
  have n2 : ((c : Int) == 92) = false := beq_eq_false_iff_ne.2 (by omega)
  have m3 : ¬ (c : Int) < 128 := by omega
  have m4 : (c : Int) ≤ 65535 := by omega
  have hP := fun w => dplain_any (c : Int) w
  have hcs : plainP (c : Int) = false ∨ (plainP (c : Int) = true ∧ ¬ c ≤ 126 ∧ a = true) := by
    cases hp : plainP (c : Int) with
    | false => exact .inl rfl
    | true =>
      refine .inr ⟨rfl, fun hle => h2 ⟨hp, .inl hle⟩, ?_⟩
      cases a with
      | true => rfl
      | false => exact absurd ⟨hp, .inr rfl⟩ h2
  generalize plainP (c : Int) = pb at *
  clear h2 h
  have hsv : ¬ (7 : Int) ≤ c ∨ ((7 : Int) ≤ c ∧ ¬ (c : Int) ≤ 13) := by omega
  clear h1
  rcases hcs with rfl | ⟨rfl, hle, rfl⟩ <;> rcases hsv with hs7 | ⟨hs7, hs13⟩
  all_goals go_enter Tryd.func50, Tryd.ntmps50
  all_goals go_wp2_with (go_at_call 61; refine (hP _).mono ?_; rintro e w' ⟨rfl, rfl⟩)
  all_goals go_region_with (go_at_call 49; refine (hDg _).mono ?_; rintro e w2 ⟨rfl, rfl⟩)
  all_goals go_wp2
  all_goals go_ret
  all_goals exact ⟨rfl, ((Below.refl _ _).alloc (Nat.le_refl _) _).drew⟩

set_option maxRecDepth 1000000 in
set_option maxHeartbeats 800000 in
theorem din_U (c q : Nat) (a : Bool) (w : World) (hc : c ≤ 1114111) (hq : q = 34 ∨ q = 39) (h : ¬ (c = q ∨ c = 92)) (h1 : ¬ (7 ≤ c ∧ c ≤ 13)) (h2 : ¬ (plainP c = true ∧ (c ≤ 126 ∨ a = false))) (h3 : ¬ c < 128) (h4 : ¬ c ≤ 65535) :
    Calls Tryd.prog 50 #[.int .i32 c, .int .u8 q, .bool a] w fun e w' => e = .returned (.string ⟨(inL c q a).toArray⟩) ∧ Below w.heap.size w w' := by
  rw [inL_U c q a h h1 h2 h3 h4]
  have kc := conv2d
  have he := hex_bytes 85 c 8
  have hs := hex_size c 8
  have hn : strOfNums [92, 85] = ⟨#[92, 85]⟩ := rfl
  have hDg := fun w => digits_any c 8 hc (by omega) w
  generalize (⟨([92, 85] ++ hexL c 8).toArray⟩ : ByteArray) = r at *
  generalize (⟨(hexL c 8).toArray⟩ : ByteArray) = t at *
  obtain ⟨m, hm⟩ : ∃ m, (⟨#[92, 85]⟩ : ByteArray) = m := ⟨_, rfl⟩
  have hms : m.size = 2 := by rw [← hm]; rfl
  rw [hm] at he hn
  clear hm
  have hsum : ¬ 9223372036854775807 < m.size + t.size := by omega
  have n1 : ((c : Int) == (q : Int)) = false := beq_eq_false_iff_ne.2 (by omega)
  have n2 : ((c : Int) == 92) = false := beq_eq_false_iff_ne.2 (by omega)
  have m3 : ¬ (c : Int) < 128 := by omega
  have m4 : ¬ (c : Int) ≤ 65535 := by omega
  have hP := fun w => dplain_any (c : Int) w
  have hcs : plainP (c : Int) = false ∨ (plainP (c : Int) = true ∧ ¬ c ≤ 126 ∧ a = true) := by
    cases hp : plainP (c : Int) with
    | false => exact .inl rfl
    | true =>
      refine .inr ⟨rfl, fun hle => h2 ⟨hp, .inl hle⟩, ?_⟩
      cases a with
      | true => rfl
      | false => exact absurd ⟨hp, .inr rfl⟩ h2
  generalize plainP (c : Int) = pb at *
  clear h2 h
  have hsv : ¬ (7 : Int) ≤ c ∨ ((7 : Int) ≤ c ∧ ¬ (c : Int) ≤ 13) := by omega
  clear h1
  rcases hcs with rfl | ⟨rfl, hle, rfl⟩ <;> rcases hsv with hs7 | ⟨hs7, hs13⟩
  all_goals go_enter Tryd.func50, Tryd.ntmps50
  all_goals go_wp2_with (go_at_call 61; refine (hP _).mono ?_; rintro e w' ⟨rfl, rfl⟩)
  all_goals go_region_with (go_at_call 49; refine (hDg _).mono ?_; rintro e w2 ⟨rfl, rfl⟩)
  all_goals go_wp2
  all_goals go_ret
  all_goals exact ⟨rfl, ((Below.refl _ _).alloc (Nat.le_refl _) _).drew⟩

set_option maxRecDepth 1000000 in
set_option maxHeartbeats 400000 in
theorem din_p (c q : Nat) (a : Bool) (w : World) (hc : c ≤ 1114111) (hq : q = 34 ∨ q = 39) (h : ¬ (c = q ∨ c = 92)) (h1 : ¬ (7 ≤ c ∧ c ≤ 13)) (h2 : plainP c = true ∧ (c ≤ 126 ∨ a = false)) :
    Calls Tryd.prog 50 #[.int .i32 c, .int .u8 q, .bool a] w fun e w' => e = .returned (.string ⟨(inL c q a).toArray⟩) ∧ Below w.heap.size w w' := by
  rw [inL_p c q a h h1 h2, ba_list]
  have hR := fun w => rrune_any (c : Int) w
  generalize Utf8.encode (c : Int) = t at *
  obtain ⟨hp, h3⟩ := h2
  have hP := fun w => dplain_any (c : Int) w
  rw [hp] at hP
  clear hp
  have n1 : ((c : Int) == (q : Int)) = false := beq_eq_false_iff_ne.2 (by omega)
  have n2 : ((c : Int) == 92) = false := beq_eq_false_iff_ne.2 (by omega)
  have hsv : ¬ (7 : Int) ≤ c ∨ ((7 : Int) ≤ c ∧ ¬ (c : Int) ≤ 13) := by omega
  have hcs : a = false ∨ (a = true ∧ (c : Int) ≤ 126) := by
    cases a with
    | false => exact .inl rfl
    | true =>
      refine .inr ⟨rfl, ?_⟩
      rcases h3 with h3 | h3
      · omega
      · exact absurd h3 (by simp)
  clear h3 h h1
  rcases hcs with rfl | ⟨rfl, hle⟩ <;> rcases hsv with hs7 | ⟨hs7, hs13⟩
  all_goals go_enter Tryd.func50, Tryd.ntmps50
  all_goals go_wp2_with (first | (go_at_call 61; refine (hP _).mono ?_; rintro e w' ⟨rfl, rfl⟩) | (go_at_call 27; refine (hR _).mono ?_; rintro e w2 ⟨rfl, hb2⟩))
  all_goals go_ret
  all_goals exact ⟨rfl, hb2⟩

theorem din_any (c q : Nat) (a : Bool) (w : World) (hc : c ≤ 1114111) (hq : q = 34 ∨ q = 39) :
    Calls Tryd.prog 50 #[.int .i32 c, .int .u8 q, .bool a] w fun e w' => e = .returned (.string ⟨(inL c q a).toArray⟩) ∧ Below w.heap.size w w' := by
  by_cases h : c = q ∨ c = 92
  · exact din_q c q a w hq h
  by_cases h1 : 7 ≤ c ∧ c ≤ 13
  · exact din_e c q a w hq h1
  by_cases h2 : plainP c = true ∧ (c ≤ 126 ∨ a = false)
  · exact din_p c q a w hc hq h h1 h2
  by_cases h3 : c < 128
  · exact din_x c q a w hc hq h h1 h2 h3
  by_cases h4 : c ≤ 65535
  · exact din_u c q a w hc hq h h1 h2 h3 h4
  · exact din_U c q a w hc hq h h1 h2 h3 h4
end Go.Proofs.YtnoelbomcogndaaDoor
