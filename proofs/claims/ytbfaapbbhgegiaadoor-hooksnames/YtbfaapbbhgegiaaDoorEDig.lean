/- The walks of the document's Digits, Great and Zeros of layer 3. -/
import Derived.Test.YtbfaapbbhgegiaaDoorINumD
import Derived.Test.YtbfaapbbhgegiaaDoorDDig
import Derived.Test.YtbfaapbbhgegiaaDoorRFill
import Derived.Deep.LoopGhost
namespace Go.Proofs.YtbfaapbbhgegiaaDoor
open Go.RowKit
set_option linter.unusedVariables false

/-- What the document's digits so far are. -/
def eRel (b n q : Nat) (ds : List UInt8) : Prop := (ds = [] ∧ q = n) ∨ (ds ≠ [] ∧ digP false b q ++ ds = digS false b n)
theorem eRel_step (b n q : Nat) (ds : List UInt8) (hb : 2 ≤ b) (hq : q < 2 ^ 64) (h : eRel b n q ds) (hgo : ds = [] ∨ q ≠ 0) : eRel b n (q / b) (hexB false (q % b) :: ds) := by
  refine .inr ⟨by simp, ?_⟩
  rcases h with ⟨rfl, rfl⟩ | ⟨h1, h2⟩
  · rfl
  · rw [← h2, digP_step false b q hb (hgo.resolve_left h1) hq]
    simp

theorem eRel_len (b n q : Nat) (ds : List UInt8) (h : eRel b n q ds) : ds.length ≤ 65 := by
  rcases h with ⟨rfl, -⟩ | ⟨-, h⟩
  · simp
  · have h1 := digS_len false b n
    rw [← h, List.length_append] at h1
    omega

set_option maxRecDepth 1000000 in
set_option maxHeartbeats 800000 in
theorem edigits_2 (n : Nat) (w : World) (hn : n < 18446744073709551616) :
    Calls Tryd.prog 36 #[.int .u64 n, .int .i64 2] w fun e w' => e = .returned (.string (digT false 2 n)) ∧ w' = w := by
  go_enter Tryd.func36, Tryd.ntmps36
  go_wp2
  go_loopg [0, 5] (n + 1) (fun g nn s wr => wr = w ∧ ∃ (q : Nat) (u : ByteArray) (ds : List UInt8), nn = .int .u64 q ∧ s = .string u ∧ q + (1 - ds.length) ≤ g ∧ q ≤ n ∧ ds.length + q ≤ n + 1 ∧ u.size = ds.length ∧ Hid (u = ⟨ds.toArray⟩) ∧ Hid (eRel 2 n q ds))
  case atStart => exact ⟨rfl, n, ⟨#[]⟩, [], rfl, rfl, by simp, Nat.le_refl _, by simp, rfl, rfl, .inl ⟨rfl, rfl⟩⟩
  case round =>
    obtain ⟨rfl, q, u, ds, rfl, rfl, hg, hqn, hdn, hus, HU, HR⟩ := hrel
    by_cases hgo : u.size = 0 ∨ 0 < q
    · have h16 : q % 2 < 16 := by omega
      have hdg : ∀ w, Calls Tryd.prog 51 #[.int .i64 ((q % 2 : Nat) : Int), .bool false] w fun e w' => e = .returned (.string ⟨#[hexB false (q % 2)]⟩) ∧ w' = w := fun w => digit_any (q % 2) false h16 w
      have hW : Hid (eRel 2 n (q / 2) (hexB false (q % 2) :: ds)) := eRel_step 2 n q ds (by omega) (by omega) HR.out (by rcases hgo with h | h; exact .inl (List.eq_nil_of_length_eq_zero (by omega)); exact .inr (by omega))
      have hcat : (⟨#[hexB false (q % 2)]⟩ : ByteArray) ++ u = ⟨(hexB false (q % 2) :: ds).toArray⟩ := by rw [HU.out]; exact ba_app [hexB false (q % 2)] ds
      obtain ⟨t, ht⟩ : ∃ t, (⟨#[hexB false (q % 2)]⟩ : ByteArray) = t := ⟨_, rfl⟩
      have htz : t.size = 1 := by rw [← ht]; rfl
      rw [ht] at hdg hcat
      obtain ⟨u2, hu2⟩ : ∃ u2, t ++ u = u2 := ⟨_, rfl⟩
      have HU2 : Hid (u2 = ⟨(hexB false (q % 2) :: ds).toArray⟩) := by rw [← hu2]; exact hcat
      have hz2 : u2.size = (hexB false (q % 2) :: ds).length := by rw [HU2.out]; simp [ByteArray.size]
      have hsum : ¬ 9223372036854775807 < t.size + u.size := by
        have := eRel_len 2 n q ds HR.out
        omega
      have hm1 : (q : Int) % 2 = ((q % 2 : Nat) : Int) := by omega
      have hm2 : (q : Int) / 2 = ((q / 2 : Nat) : Int) := by omega
      have hlen : q / 2 + (1 - (hexB false (q % 2) :: ds).length) ≤ gk - 1 ∧ 1 ≤ gk := by
        simp only [List.length_cons]
        rcases hgo with h | h <;> omega
      have hlen2 : (hexB false (q % 2) :: ds).length + q / 2 ≤ n + 1 := by
        simp only [List.length_cons]
        rcases hgo with h | h <;> omega
      clear ht hcat HU HR
      have hle : q / 2 ≤ q := Nat.div_le_self _ _
      generalize hexB false (q % 2) :: ds = ds2 at *
      generalize q % 2 = d at *
      generalize q / 2 = q2 at *
      by_cases hq : 0 < q
      · have hq1 : 0 < (q : Int) := by omega
        go_wp2_with (go_at_call 51; refine (hdg _).mono ?_; rintro e w2 ⟨rfl, rfl⟩)
        go_roundg (gk - 1)
        case measure => omega
        case rel => exact ⟨rfl, q2, u2, ds2, rfl, rfl, hlen.1, by omega, hlen2, hz2, HU2, hW⟩
      · have hq1 : ¬ 0 < (q : Int) := by omega
        have hq2 : decide (0 < q) = false := by simp; omega
        have hue : u.toList.isEmpty = true := empty_yes u (by omega)
        go_wp2_with (go_at_call 51; refine (hdg _).mono ?_; rintro e w2 ⟨rfl, rfl⟩)
        go_roundg (gk - 1)
        case measure => omega
        case rel => exact ⟨rfl, q2, u2, ds2, rfl, rfl, hlen.1, by omega, hlen2, hz2, HU2, hW⟩
    · have hq1 : ¬ 0 < (q : Int) := by omega
      have hq2 : decide (0 < q) = false := by simp; omega
      have hue : u.toList.isEmpty = false := empty_no u (by omega)
      have HF : Hid (u = digT false 2 n) := by
        have hq0 : q = 0 := by omega
        rcases HR.out with ⟨h, -⟩ | ⟨-, h⟩
        · rw [h, List.length_nil] at hus; omega
        · rw [hq0, digP_zero] at h
          show u = digT false 2 n
          rw [HU.out]
          unfold digT
          rw [← h]; rfl
      go_wp2
      go_ret
      rw [HF.out]
      exact ⟨rfl, rfl⟩
set_option maxRecDepth 1000000 in
set_option maxHeartbeats 800000 in
theorem edigits_8 (n : Nat) (w : World) (hn : n < 18446744073709551616) :
    Calls Tryd.prog 36 #[.int .u64 n, .int .i64 8] w fun e w' => e = .returned (.string (digT false 8 n)) ∧ w' = w := by
  go_enter Tryd.func36, Tryd.ntmps36
  go_wp2
  go_loopg [0, 5] (n + 1) (fun g nn s wr => wr = w ∧ ∃ (q : Nat) (u : ByteArray) (ds : List UInt8), nn = .int .u64 q ∧ s = .string u ∧ q + (1 - ds.length) ≤ g ∧ q ≤ n ∧ ds.length + q ≤ n + 1 ∧ u.size = ds.length ∧ Hid (u = ⟨ds.toArray⟩) ∧ Hid (eRel 8 n q ds))
  case atStart => exact ⟨rfl, n, ⟨#[]⟩, [], rfl, rfl, by simp, Nat.le_refl _, by simp, rfl, rfl, .inl ⟨rfl, rfl⟩⟩
  case round =>
    obtain ⟨rfl, q, u, ds, rfl, rfl, hg, hqn, hdn, hus, HU, HR⟩ := hrel
    by_cases hgo : u.size = 0 ∨ 0 < q
    · have h16 : q % 8 < 16 := by omega
      have hdg : ∀ w, Calls Tryd.prog 51 #[.int .i64 ((q % 8 : Nat) : Int), .bool false] w fun e w' => e = .returned (.string ⟨#[hexB false (q % 8)]⟩) ∧ w' = w := fun w => digit_any (q % 8) false h16 w
      have hW : Hid (eRel 8 n (q / 8) (hexB false (q % 8) :: ds)) := eRel_step 8 n q ds (by omega) (by omega) HR.out (by rcases hgo with h | h; exact .inl (List.eq_nil_of_length_eq_zero (by omega)); exact .inr (by omega))
      have hcat : (⟨#[hexB false (q % 8)]⟩ : ByteArray) ++ u = ⟨(hexB false (q % 8) :: ds).toArray⟩ := by rw [HU.out]; exact ba_app [hexB false (q % 8)] ds
      obtain ⟨t, ht⟩ : ∃ t, (⟨#[hexB false (q % 8)]⟩ : ByteArray) = t := ⟨_, rfl⟩
      have htz : t.size = 1 := by rw [← ht]; rfl
      rw [ht] at hdg hcat
      obtain ⟨u2, hu2⟩ : ∃ u2, t ++ u = u2 := ⟨_, rfl⟩
      have HU2 : Hid (u2 = ⟨(hexB false (q % 8) :: ds).toArray⟩) := by rw [← hu2]; exact hcat
      have hz2 : u2.size = (hexB false (q % 8) :: ds).length := by rw [HU2.out]; simp [ByteArray.size]
      have hsum : ¬ 9223372036854775807 < t.size + u.size := by
        have := eRel_len 8 n q ds HR.out
        omega
      have hm1 : (q : Int) % 8 = ((q % 8 : Nat) : Int) := by omega
      have hm2 : (q : Int) / 8 = ((q / 8 : Nat) : Int) := by omega
      have hlen : q / 8 + (1 - (hexB false (q % 8) :: ds).length) ≤ gk - 1 ∧ 1 ≤ gk := by
        simp only [List.length_cons]
        rcases hgo with h | h <;> omega
      have hlen2 : (hexB false (q % 8) :: ds).length + q / 8 ≤ n + 1 := by
        simp only [List.length_cons]
        rcases hgo with h | h <;> omega
      clear ht hcat HU HR
      have hle : q / 8 ≤ q := Nat.div_le_self _ _
      generalize hexB false (q % 8) :: ds = ds2 at *
      generalize q % 8 = d at *
      generalize q / 8 = q2 at *
      by_cases hq : 0 < q
      · have hq1 : 0 < (q : Int) := by omega
        go_wp2_with (go_at_call 51; refine (hdg _).mono ?_; rintro e w2 ⟨rfl, rfl⟩)
        go_roundg (gk - 1)
        case measure => omega
        case rel => exact ⟨rfl, q2, u2, ds2, rfl, rfl, hlen.1, by omega, hlen2, hz2, HU2, hW⟩
      · have hq1 : ¬ 0 < (q : Int) := by omega
        have hq2 : decide (0 < q) = false := by simp; omega
        have hue : u.toList.isEmpty = true := empty_yes u (by omega)
        go_wp2_with (go_at_call 51; refine (hdg _).mono ?_; rintro e w2 ⟨rfl, rfl⟩)
        go_roundg (gk - 1)
        case measure => omega
        case rel => exact ⟨rfl, q2, u2, ds2, rfl, rfl, hlen.1, by omega, hlen2, hz2, HU2, hW⟩
    · have hq1 : ¬ 0 < (q : Int) := by omega
      have hq2 : decide (0 < q) = false := by simp; omega
      have hue : u.toList.isEmpty = false := empty_no u (by omega)
      have HF : Hid (u = digT false 8 n) := by
        have hq0 : q = 0 := by omega
        rcases HR.out with ⟨h, -⟩ | ⟨-, h⟩
        · rw [h, List.length_nil] at hus; omega
        · rw [hq0, digP_zero] at h
          show u = digT false 8 n
          rw [HU.out]
          unfold digT
          rw [← h]; rfl
      go_wp2
      go_ret
      rw [HF.out]
      exact ⟨rfl, rfl⟩
set_option maxRecDepth 1000000 in
set_option maxHeartbeats 800000 in
theorem edigits_10 (n : Nat) (w : World) (hn : n < 18446744073709551616) :
    Calls Tryd.prog 36 #[.int .u64 n, .int .i64 10] w fun e w' => e = .returned (.string (digT false 10 n)) ∧ w' = w := by
  go_enter Tryd.func36, Tryd.ntmps36
  go_wp2
  go_loopg [0, 5] (n + 1) (fun g nn s wr => wr = w ∧ ∃ (q : Nat) (u : ByteArray) (ds : List UInt8), nn = .int .u64 q ∧ s = .string u ∧ q + (1 - ds.length) ≤ g ∧ q ≤ n ∧ ds.length + q ≤ n + 1 ∧ u.size = ds.length ∧ Hid (u = ⟨ds.toArray⟩) ∧ Hid (eRel 10 n q ds))
  case atStart => exact ⟨rfl, n, ⟨#[]⟩, [], rfl, rfl, by simp, Nat.le_refl _, by simp, rfl, rfl, .inl ⟨rfl, rfl⟩⟩
  case round =>
    obtain ⟨rfl, q, u, ds, rfl, rfl, hg, hqn, hdn, hus, HU, HR⟩ := hrel
    by_cases hgo : u.size = 0 ∨ 0 < q
    · have h16 : q % 10 < 16 := by omega
      have hdg : ∀ w, Calls Tryd.prog 51 #[.int .i64 ((q % 10 : Nat) : Int), .bool false] w fun e w' => e = .returned (.string ⟨#[hexB false (q % 10)]⟩) ∧ w' = w := fun w => digit_any (q % 10) false h16 w
      have hW : Hid (eRel 10 n (q / 10) (hexB false (q % 10) :: ds)) := eRel_step 10 n q ds (by omega) (by omega) HR.out (by rcases hgo with h | h; exact .inl (List.eq_nil_of_length_eq_zero (by omega)); exact .inr (by omega))
      have hcat : (⟨#[hexB false (q % 10)]⟩ : ByteArray) ++ u = ⟨(hexB false (q % 10) :: ds).toArray⟩ := by rw [HU.out]; exact ba_app [hexB false (q % 10)] ds
      obtain ⟨t, ht⟩ : ∃ t, (⟨#[hexB false (q % 10)]⟩ : ByteArray) = t := ⟨_, rfl⟩
      have htz : t.size = 1 := by rw [← ht]; rfl
      rw [ht] at hdg hcat
      obtain ⟨u2, hu2⟩ : ∃ u2, t ++ u = u2 := ⟨_, rfl⟩
      have HU2 : Hid (u2 = ⟨(hexB false (q % 10) :: ds).toArray⟩) := by rw [← hu2]; exact hcat
      have hz2 : u2.size = (hexB false (q % 10) :: ds).length := by rw [HU2.out]; simp [ByteArray.size]
      have hsum : ¬ 9223372036854775807 < t.size + u.size := by
        have := eRel_len 10 n q ds HR.out
        omega
      have hm1 : (q : Int) % 10 = ((q % 10 : Nat) : Int) := by omega
      have hm2 : (q : Int) / 10 = ((q / 10 : Nat) : Int) := by omega
      have hlen : q / 10 + (1 - (hexB false (q % 10) :: ds).length) ≤ gk - 1 ∧ 1 ≤ gk := by
        simp only [List.length_cons]
        rcases hgo with h | h <;> omega
      have hlen2 : (hexB false (q % 10) :: ds).length + q / 10 ≤ n + 1 := by
        simp only [List.length_cons]
        rcases hgo with h | h <;> omega
      clear ht hcat HU HR
      have hle : q / 10 ≤ q := Nat.div_le_self _ _
      generalize hexB false (q % 10) :: ds = ds2 at *
      generalize q % 10 = d at *
      generalize q / 10 = q2 at *
      by_cases hq : 0 < q
      · have hq1 : 0 < (q : Int) := by omega
        go_wp2_with (go_at_call 51; refine (hdg _).mono ?_; rintro e w2 ⟨rfl, rfl⟩)
        go_roundg (gk - 1)
        case measure => omega
        case rel => exact ⟨rfl, q2, u2, ds2, rfl, rfl, hlen.1, by omega, hlen2, hz2, HU2, hW⟩
      · have hq1 : ¬ 0 < (q : Int) := by omega
        have hq2 : decide (0 < q) = false := by simp; omega
        have hue : u.toList.isEmpty = true := empty_yes u (by omega)
        go_wp2_with (go_at_call 51; refine (hdg _).mono ?_; rintro e w2 ⟨rfl, rfl⟩)
        go_roundg (gk - 1)
        case measure => omega
        case rel => exact ⟨rfl, q2, u2, ds2, rfl, rfl, hlen.1, by omega, hlen2, hz2, HU2, hW⟩
    · have hq1 : ¬ 0 < (q : Int) := by omega
      have hq2 : decide (0 < q) = false := by simp; omega
      have hue : u.toList.isEmpty = false := empty_no u (by omega)
      have HF : Hid (u = digT false 10 n) := by
        have hq0 : q = 0 := by omega
        rcases HR.out with ⟨h, -⟩ | ⟨-, h⟩
        · rw [h, List.length_nil] at hus; omega
        · rw [hq0, digP_zero] at h
          show u = digT false 10 n
          rw [HU.out]
          unfold digT
          rw [← h]; rfl
      go_wp2
      go_ret
      rw [HF.out]
      exact ⟨rfl, rfl⟩
set_option maxRecDepth 1000000 in
set_option maxHeartbeats 800000 in
theorem edigits_16 (n : Nat) (w : World) (hn : n < 18446744073709551616) :
    Calls Tryd.prog 36 #[.int .u64 n, .int .i64 16] w fun e w' => e = .returned (.string (digT false 16 n)) ∧ w' = w := by
  go_enter Tryd.func36, Tryd.ntmps36
  go_wp2
  go_loopg [0, 5] (n + 1) (fun g nn s wr => wr = w ∧ ∃ (q : Nat) (u : ByteArray) (ds : List UInt8), nn = .int .u64 q ∧ s = .string u ∧ q + (1 - ds.length) ≤ g ∧ q ≤ n ∧ ds.length + q ≤ n + 1 ∧ u.size = ds.length ∧ Hid (u = ⟨ds.toArray⟩) ∧ Hid (eRel 16 n q ds))
  case atStart => exact ⟨rfl, n, ⟨#[]⟩, [], rfl, rfl, by simp, Nat.le_refl _, by simp, rfl, rfl, .inl ⟨rfl, rfl⟩⟩
  case round =>
    obtain ⟨rfl, q, u, ds, rfl, rfl, hg, hqn, hdn, hus, HU, HR⟩ := hrel
    by_cases hgo : u.size = 0 ∨ 0 < q
    · have h16 : q % 16 < 16 := by omega
      have hdg : ∀ w, Calls Tryd.prog 51 #[.int .i64 ((q % 16 : Nat) : Int), .bool false] w fun e w' => e = .returned (.string ⟨#[hexB false (q % 16)]⟩) ∧ w' = w := fun w => digit_any (q % 16) false h16 w
      have hW : Hid (eRel 16 n (q / 16) (hexB false (q % 16) :: ds)) := eRel_step 16 n q ds (by omega) (by omega) HR.out (by rcases hgo with h | h; exact .inl (List.eq_nil_of_length_eq_zero (by omega)); exact .inr (by omega))
      have hcat : (⟨#[hexB false (q % 16)]⟩ : ByteArray) ++ u = ⟨(hexB false (q % 16) :: ds).toArray⟩ := by rw [HU.out]; exact ba_app [hexB false (q % 16)] ds
      obtain ⟨t, ht⟩ : ∃ t, (⟨#[hexB false (q % 16)]⟩ : ByteArray) = t := ⟨_, rfl⟩
      have htz : t.size = 1 := by rw [← ht]; rfl
      rw [ht] at hdg hcat
      obtain ⟨u2, hu2⟩ : ∃ u2, t ++ u = u2 := ⟨_, rfl⟩
      have HU2 : Hid (u2 = ⟨(hexB false (q % 16) :: ds).toArray⟩) := by rw [← hu2]; exact hcat
      have hz2 : u2.size = (hexB false (q % 16) :: ds).length := by rw [HU2.out]; simp [ByteArray.size]
      have hsum : ¬ 9223372036854775807 < t.size + u.size := by
        have := eRel_len 16 n q ds HR.out
        omega
      have hm1 : (q : Int) % 16 = ((q % 16 : Nat) : Int) := by omega
      have hm2 : (q : Int) / 16 = ((q / 16 : Nat) : Int) := by omega
      have hlen : q / 16 + (1 - (hexB false (q % 16) :: ds).length) ≤ gk - 1 ∧ 1 ≤ gk := by
        simp only [List.length_cons]
        rcases hgo with h | h <;> omega
      have hlen2 : (hexB false (q % 16) :: ds).length + q / 16 ≤ n + 1 := by
        simp only [List.length_cons]
        rcases hgo with h | h <;> omega
      clear ht hcat HU HR
      have hle : q / 16 ≤ q := Nat.div_le_self _ _
      generalize hexB false (q % 16) :: ds = ds2 at *
      generalize q % 16 = d at *
      generalize q / 16 = q2 at *
      by_cases hq : 0 < q
      · have hq1 : 0 < (q : Int) := by omega
        go_wp2_with (go_at_call 51; refine (hdg _).mono ?_; rintro e w2 ⟨rfl, rfl⟩)
        go_roundg (gk - 1)
        case measure => omega
        case rel => exact ⟨rfl, q2, u2, ds2, rfl, rfl, hlen.1, by omega, hlen2, hz2, HU2, hW⟩
      · have hq1 : ¬ 0 < (q : Int) := by omega
        have hq2 : decide (0 < q) = false := by simp; omega
        have hue : u.toList.isEmpty = true := empty_yes u (by omega)
        go_wp2_with (go_at_call 51; refine (hdg _).mono ?_; rintro e w2 ⟨rfl, rfl⟩)
        go_roundg (gk - 1)
        case measure => omega
        case rel => exact ⟨rfl, q2, u2, ds2, rfl, rfl, hlen.1, by omega, hlen2, hz2, HU2, hW⟩
    · have hq1 : ¬ 0 < (q : Int) := by omega
      have hq2 : decide (0 < q) = false := by simp; omega
      have hue : u.toList.isEmpty = false := empty_no u (by omega)
      have HF : Hid (u = digT false 16 n) := by
        have hq0 : q = 0 := by omega
        rcases HR.out with ⟨h, -⟩ | ⟨-, h⟩
        · rw [h, List.length_nil] at hus; omega
        · rw [hq0, digP_zero] at h
          show u = digT false 16 n
          rw [HU.out]
          unfold digT
          rw [← h]; rfl
      go_wp2
      go_ret
      rw [HF.out]
      exact ⟨rfl, rfl⟩
theorem edigits_any (n b : Nat) (w : World) (hn : n < 18446744073709551616) (hb : b = 2 ∨ b = 8 ∨ b = 10 ∨ b = 16) :
    Calls Tryd.prog 36 #[.int .u64 n, .int .i64 b] w fun e w' => e = .returned (.string (digT false b n)) ∧ w' = w := by
  rcases hb with rfl | rfl | rfl | rfl
  · exact edigits_2 n w hn
  · exact edigits_8 n w hn
  · exact edigits_10 n w hn
  · exact edigits_16 n w hn
set_option maxRecDepth 1000000 in
set_option maxHeartbeats 400000 in
theorem edigits_no (n : Nat) (b : Int) (w : World) (h1 : ¬ b = 2) (h2 : ¬ b = 8) (h3 : ¬ b = 10) (h4 : ¬ b = 16) :
    Calls Tryd.prog 36 #[.int .u64 n, .int .i64 b] w fun e w' => e = .returned (.string ⟨#[]⟩) ∧ w' = w := by
  have k1 : (b != 2) = true := by simp [h1]
  have k2 : (b != 8) = true := by simp [h2]
  have k3 : (b != 10) = true := by simp [h3]
  have k4 : (b != 16) = true := by simp [h4]
  go_enter Tryd.func36, Tryd.ntmps36
  go_wp2
  go_ret
  exact ⟨rfl, rfl⟩

theorem zero_run (k : Nat) (s : ByteArray) : (ByteArray.mk #[48]) ++ (run 48 k ++ s) = run 48 (k + 1) ++ s := by
  apply ByteArray.ext
  rw [ByteArray.data_append, ByteArray.data_append, ByteArray.data_append, ← Array.append_assoc]
  congr 1
  show #[48] ++ Array.replicate k (UInt8.ofNat 48) = Array.replicate (k + 1) (UInt8.ofNat 48)
  rw [Array.replicate_succ']
  rfl
theorem upB_nat (x : UInt8) : (Lib.upperB x).toNat = if 97 ≤ x.toNat ∧ x.toNat ≤ 122 then x.toNat - 32 else x.toNat := by
  have : ∀ i : Fin 256, (Lib.upperB (UInt8.ofNat i.val)).toNat = if 97 ≤ i.val ∧ i.val ≤ 122 then i.val - 32 else i.val := by decide +kernel
  have h := this ⟨x.toNat, x.toNat_lt⟩
  simpa using h
theorem great_snoc (acc : List UInt8) (y : UInt8) (c : Int) (hc : c = ((Lib.upperB y).toNat : Nat)) (T : ByteArray) (hT : T = ⟨acc.toArray⟩) : T ++ strOfNums [c] = ⟨(acc ++ [Lib.upperB y]).toArray⟩ := by
  have e : strOfNums [c] = ⟨[Lib.upperB y].toArray⟩ := by
    rw [hc]
    show (⟨#[UInt8.ofNat (((Lib.upperB y).toNat : Nat) : Int).toNat]⟩ : ByteArray) = _
    simp
  rw [e, hT]; exact ba_app acc _
theorem take_up (s : ByteArray) (k : Nat) (h : k < s.size) : Lib.toUpperA (s.data.toList.take (k + 1)) = Lib.toUpperA (s.data.toList.take k) ++ [Lib.upperB (s[k]'h)] := by
  rw [List.take_succ_eq_append_getElem (by rw [list_len]; exact h)]
  unfold Lib.toUpperA
  rw [List.map_append]
  rfl
end Go.Proofs.YtbfaapbbhgegiaaDoor
