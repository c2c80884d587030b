/- The walks of the document's Digit and Digits. -/
import Derived.Test.YtbfaapbbhgegiaaDoorHexa
import Derived.Deep.LoopGhost
namespace Go.Proofs.YtbfaapbbhgegiaaDoor
open Go.RowKit
set_option linter.unusedVariables false

theorem dig_small (n : Nat) (h : n < 16) : (ByteArray.mk #[48, 49, 50, 51, 52, 53, 54, 55, 56, 57, 97, 98, 99, 100, 101, 102]).extract n (n + 1) = ⟨#[hexB false n]⟩ := by
  have hd : ∀ n, n < 16 → (ByteArray.mk #[48, 49, 50, 51, 52, 53, 54, 55, 56, 57, 97, 98, 99, 100, 101, 102]).extract n (n + 1) = ⟨#[hexB false n]⟩ := by decide +kernel
  exact hd n h
theorem dig_great (n : Nat) (h : n < 16) : (ByteArray.mk #[48, 49, 50, 51, 52, 53, 54, 55, 56, 57, 65, 66, 67, 68, 69, 70]).extract n (n + 1) = ⟨#[hexB true n]⟩ := by
  have hd : ∀ n, n < 16 → (ByteArray.mk #[48, 49, 50, 51, 52, 53, 54, 55, 56, 57, 65, 66, 67, 68, 69, 70]).extract n (n + 1) = ⟨#[hexB true n]⟩ := by decide +kernel
  exact hd n h

set_option maxRecDepth 1000000 in
set_option maxHeartbeats 400000 in
theorem digit_any (n : Nat) (g : Bool) (h : n < 16) (w : World) :
    Calls Tryd.prog 51 #[.int .i64 n, .bool g] w fun e w' => e = .returned (.string ⟨#[hexB g n]⟩) ∧ w' = w := by
  have h1 := dig_small n h
  have h2 := dig_great n h
  have hn : (n : Int) < 16 := by omega
  cases g with
  | true =>
    clear h1
    generalize (⟨#[hexB true n]⟩ : ByteArray) = r at *
    go_enter Tryd.func51, Tryd.ntmps51
    go_wp2
    go_ret
    exact ⟨rfl, rfl⟩
  | false =>
    clear h2
    generalize (⟨#[hexB false n]⟩ : ByteArray) = r at *
    go_enter Tryd.func51, Tryd.ntmps51
    go_wp2
    go_ret
    exact ⟨rfl, rfl⟩
theorem digits_step (n : Nat) (l : List UInt8) : ∃ t : ByteArray, (ByteArray.mk #[hexB false (n % 16)]) = t ∧ t ++ (ByteArray.mk l.toArray) = ⟨(hexB false (n % 16) :: l).toArray⟩ ∧ t.size = 1 :=
  ⟨_, rfl, ba_app [hexB false (n % 16)] l, rfl⟩
theorem tmod16 (n : Nat) : ((n : Int)).tmod 16 = ((n % 16 : Nat) : Int) := by
  rw [Int.tmod_eq_emod_of_nonneg (by omega)]; omega
theorem tdiv16 (n : Nat) : ((n : Int)).tdiv 16 = ((n / 16 : Nat) : Int) := by
  rw [Int.tdiv_eq_ediv_of_nonneg (by omega)]; omega

set_option maxRecDepth 1000000 in
set_option maxHeartbeats 800000 in
theorem digits_any (n0 k : Nat) (hn : n0 ≤ 1114111) (hk : k ≤ 8) (w : World) :
    Calls Tryd.prog 82 #[.int .i64 n0, .int .i64 k] w fun e w' => e = .returned (.string ⟨(hexL n0 k).toArray⟩) ∧ w' = w := by
  go_enter Tryd.func82, Tryd.ntmps82
  go_wp2
  go_loopg [0, 5, 6] k (fun g n s i wr => wr = w ∧ ∃ (m j : Nat) (u : ByteArray) (l : List UInt8), n = .int .i64 m ∧ s = .string u ∧ i = .int .i64 j ∧ j + g = k ∧ m ≤ 1114111 ∧ u.size ≤ j ∧ Hid (u = ⟨l.toArray⟩ ∧ hexL n0 k = hexL m g ++ l))
  case atStart => exact ⟨rfl, n0, 0, ⟨#[]⟩, [], rfl, rfl, rfl, Nat.zero_add _, hn, Nat.le_refl _, rfl, by simp⟩
  case round =>
    obtain ⟨rfl, m, j, u, l, rfl, rfl, rfl, hjk, hm, hus, hH⟩ := hrel
    by_cases hlt : j < k
    · have hlt' : (j : Int) < k := by omega
      have hmod := tmod16 m
      have hdiv := tdiv16 m
      have h16 : m % 16 < 16 := Nat.mod_lt _ (by omega)
      have hdg := fun w => digit_any (m % 16) false h16 w
      obtain ⟨t, ht1, ht2, ht3⟩ := digits_step m l
      rw [ht1] at hdg
      obtain ⟨gk', rfl⟩ : ∃ x, gk = x + 1 := ⟨gk - 1, by omega⟩
      obtain ⟨r, hr⟩ : ∃ r, t ++ u = r := ⟨_, rfl⟩
      have HN : Hid (r = ⟨(hexB false (m % 16) :: l).toArray⟩ ∧ hexL n0 k = hexL (m / 16) gk' ++ (hexB false (m % 16) :: l)) := by
        refine ⟨?_, ?_⟩
        · rw [← hr, hH.out.1]; exact ht2
        · rw [hH.out.2]; simp [hexL]
      have hrs : r.size ≤ j + 1 := by
        rw [← hr, ByteArray.size_append]; omega
      have hsum : ¬ 9223372036854775807 < t.size + u.size := by omega
      clear ht1 ht2
      have hle : m / 16 ≤ m := Nat.div_le_self _ _
      generalize m % 16 = mm at *
      generalize m / 16 = md at *
      go_wp2_with (go_at_call 51; refine (hdg _).mono ?_; rintro e w2 ⟨rfl, rfl⟩)
      go_roundg gk'
      case measure => omega
      case rel => exact ⟨rfl, md, j + 1, r, _, rfl, rfl, by go_num, by omega, by omega, hrs, HN⟩
    · have hlt' : ¬ (j : Int) < k := by omega
      obtain rfl : gk = 0 := by omega
      have HN : Hid (u = ⟨(hexL n0 k).toArray⟩) := by
        show u = _
        rw [hH.out.2, hH.out.1]; rfl
      go_wp2
      go_ret
      rw [← HN.out]
      exact ⟨rfl, rfl⟩
end Go.Proofs.YtbfaapbbhgegiaaDoor
