/- The walk of the law's read: the digits of a number are read as it. -/
import Derived.Test.YtnoelbomcogndabDoorINumE
import Derived.Deep.LoopGhost
namespace Go.Proofs.YtnoelbomcogndabDoor
open Go.RowKit
set_option linter.unusedVariables false

/-- A digit's number. -/
def dgV (x : UInt8) : Nat := if x.toNat ≤ 57 then x.toNat - 48 else if 97 ≤ x.toNat then x.toNat - 87 else x.toNat - 55
theorem dgV_hex (g : Bool) (d : Nat) (h : d < 16) : dgV (hexB g d) = d := by
  have : ∀ i : Fin 16, dgV (hexB false i.val) = i.val ∧ dgV (hexB true i.val) = i.val := by decide
  have := this ⟨d, h⟩
  cases g
  · exact this.1
  · exact this.2
theorem valL_app (b : Nat) (f : UInt8 → Nat) (hb : 1 ≤ b) (l : List UInt8) : ∀ (r : List UInt8), valL b f l ≤ valL b f (l ++ r)
  | [] => by simp
  | x :: r => by
    have h1 := valL_app b f hb (l ++ [x]) r
    rw [List.append_assoc] at h1
    refine Nat.le_trans ?_ h1
    rw [valL_snoc]
    have : valL b f l * 1 ≤ valL b f l * b := Nat.mul_le_mul_left _ hb
    omega
theorem valL_take (b : Nat) (f : UInt8 → Nat) (hb : 1 ≤ b) (l : List UInt8) (k : Nat) : valL b f (l.take k) ≤ valL b f l := by
  have := valL_app b f hb (l.take k) (l.drop k)
  rwa [List.take_append_drop] at this
theorem take_dig (s : ByteArray) (k : Nat) (h : k < s.size) : s.data.toList.take (k + 1) = s.data.toList.take k ++ [s[k]'h] := by
  rw [List.take_succ_eq_append_getElem (by rw [list_len]; exact h)]; rfl
/-- What stands at a place of a number's digits. -/
theorem dig_at (g : Bool) (b n k : Nat) (hb : 2 ≤ b) (h16 : b ≤ 16) (hk : k < (digT g b n).size) : ∃ x d : Nat, ((digT g b n)[k]'hk).toNat = x ∧ d < b ∧ ((x = 48 + d ∧ d < 10) ∨ (x = 87 + d ∧ 10 ≤ d) ∨ (x = 55 + d ∧ 10 ≤ d)) ∧ x < 128 ∧ dgV ((digT g b n)[k]'hk) = d := by
  have hm : (digT g b n)[k]'hk ∈ (digT g b n).data.toList := by
    have : (digT g b n)[k]'hk = (digT g b n).data[k]'hk := rfl
    rw [this]
    exact Array.mem_toList_iff.2 (Array.getElem_mem _)
  obtain ⟨d, hd, he⟩ := digS_mem g b n (by omega) _ hm
  have h2 : (hexB g d).toNat = hexN g d := hexB_nat g d (by omega)
  refine ⟨_, d, rfl, hd, ?_, ?_, ?_⟩
  · rw [he, h2]
    unfold hexN
    split
    · exact .inl ⟨rfl, by omega⟩
    · split
      · exact .inr (.inr ⟨rfl, by omega⟩)
      · exact .inr (.inl ⟨rfl, by omega⟩)
  · rw [he]; exact hexB_ascii g d (by omega)
  · rw [he]; exact dgV_hex g d (by omega)
theorem wrapU (n : Int) (h0 : 0 ≤ n) (h : n < 18446744073709551616) : IntKind.u64.wrap n = n := by rw [wrap_u64]; omega
theorem wrap8 (n : Int) (h0 : 0 ≤ n) (h : n < 256) : IntKind.u8.wrap n = n := by
  unfold IntKind.wrap
  simp [IntKind.bits, IntKind.signed]
  omega

set_option maxRecDepth 1000000 in
set_option maxHeartbeats 1000000 in
theorem iread_any (g : Bool) (b n : Nat) (w : World) (hb : 2 ≤ b) (h16 : b ≤ 16) (hn : n < 18446744073709551616) :
    Calls Tryd.prog 18 #[.string (digT g b n), .int .u64 b] w fun e w' => e = .returned (.tuple #[.int .u64 n, .bool true]) ∧ w' = w := by
  have hval : valL b dgV (digT g b n).data.toList = n := valL_digS g b n dgV hb (fun d hd => dgV_hex g d (by omega)) (by omega)
  have hz := digT_size g b n
  have HAT : Hid (∀ k (hk : k < (digT g b n).size), ∃ x d : Nat, ((digT g b n)[k]'hk).toNat = x ∧ d < b ∧ ((x = 48 + d ∧ d < 10) ∨ (x = 87 + d ∧ 10 ≤ d) ∨ (x = 55 + d ∧ 10 ≤ d)) ∧ x < 128 ∧ dgV ((digT g b n)[k]'hk) = d) := fun k hk => dig_at g b n k hb h16 hk
  generalize digT g b n = s at *
  have hne : s.toList.isEmpty = false := empty_no s (by omega)
  have HV : Hid (valL b dgV s.data.toList = n) := hval
  clear hval
  go_enter Tryd.func18, Tryd.ntmps18
  go_wp2
  go_loopg [6, 7] s.size (fun gg nn i wr => wr = w ∧ ∃ (k m : Nat), nn = .int .u64 m ∧ i = .int .i64 k ∧ k + gg = s.size ∧ m ≤ n ∧ Hid (valL b dgV (s.data.toList.take k) = m))
  case atStart => exact ⟨rfl, 0, 0, rfl, rfl, Nat.zero_add _, Nat.zero_le _, rfl⟩
  case round =>
    obtain ⟨rfl, k, m, rfl, rfl, hkg, hmn, HM⟩ := hrel
    by_cases hlt : k < s.size
    · have hltI : (k : Int) < s.size := by omega
      obtain ⟨x, d, hx, hd, hxd, hx128, hdv⟩ := HAT.out k hlt
      have hnext : valL b dgV (s.data.toList.take (k + 1)) = m * b + d := by
        rw [take_dig s k hlt, valL_snoc, HM.out, hdv]
      have hle : m * b + d ≤ n := by
        rw [← hnext, ← HV.out]
        exact valL_take b dgV (by omega) _ _
      have HN : Hid (valL b dgV (s.data.toList.take (k + 1)) = m * b + d) := hnext
      have hmul : (m : Int) * (b : Int) = ((m * b : Nat) : Int) := by simp
      have hw1 : IntKind.u64.wrap ((m * b : Nat) : Int) = ((m * b : Nat) : Int) := wrapU _ (by omega) (by omega)
      have hadd : ((m * b : Nat) : Int) + (d : Int) = ((m * b + d : Nat) : Int) := by simp
      have hw2 : IntKind.u64.wrap ((m * b + d : Nat) : Int) = ((m * b + d : Nat) : Int) := wrapU _ (by omega) (by omega)
      have hge : ¬ (b : Int) ≤ d := by omega
      clear hnext hdv HM
      generalize m * b + d = m2 at *
      generalize m * b = mb at *
      rcases hxd with ⟨e, e2⟩ | ⟨e, e2⟩ | ⟨e, e2⟩
      · have ex : (x : Int) - 48 = d := by omega
        have q1 : (48 : Int) ≤ x := by omega
        have q2 : (x : Int) ≤ 57 := by omega
        clear e
        go_wp2
        go_roundg (gk - 1)
        case measure => omega
        case rel => exact ⟨rfl, k + 1, m2, rfl, by go_num, by omega, hle, HN⟩
      · have ex : (x : Int) - 97 + 10 = d := by omega
        have ew : IntKind.u64.wrap ((x : Int) - 97 + 10) = d := by rw [ex]; exact wrapU _ (by omega) (by omega)
        have q1 : (48 : Int) ≤ x := by omega
        have q2 : ¬ (x : Int) ≤ 57 := by omega
        have q3 : (97 : Int) ≤ x := by omega
        have q4 : (x : Int) ≤ 102 := by omega
        clear e
        go_wp2
        go_roundg (gk - 1)
        case measure => omega
        case rel => exact ⟨rfl, k + 1, m2, rfl, by go_num, by omega, hle, HN⟩
      · have ex : (x : Int) - 65 + 10 = d := by omega
        have ew : IntKind.u64.wrap ((x : Int) - 65 + 10) = d := by rw [ex]; exact wrapU _ (by omega) (by omega)
        have q1 : (48 : Int) ≤ x := by omega
        have q2 : ¬ (x : Int) ≤ 57 := by omega
        have q3 : ¬ (97 : Int) ≤ x := by omega
        have q4 : (65 : Int) ≤ x := by omega
        have q5 : (x : Int) ≤ 70 := by omega
        clear e
        go_wp2
        go_roundg (gk - 1)
        case measure => omega
        case rel => exact ⟨rfl, k + 1, m2, rfl, by go_num, by omega, hle, HN⟩
    · have hltI : ¬ (k : Int) < s.size := by omega
      have HF : Hid (m = n) := by
        have h := HM.out
        rw [List.take_of_length_le (by rw [list_len]; omega), HV.out] at h
        exact h.symm
      go_wp2
      go_ret2
      rw [HF.out]
      exact ⟨rfl, rfl⟩
set_option maxRecDepth 1000000 in
set_option maxHeartbeats 400000 in
theorem iread0_any (g : Bool) (b n : Nat) (w : World) (hb : 2 ≤ b) (h16 : b ≤ 16) (hn : n < 18446744073709551616) :
    Calls Tryd.prog 19 #[.string (digT g b n), .int .u64 b] w fun e w' => e = .returned (.int .u64 n) ∧ w' = w := by
  have h := fun w => iread_any g b n w hb h16 hn
  generalize digT g b n = s at *
  go_enter Tryd.func19, Tryd.ntmps19
  go_wp2_with (go_at_call 18; refine (h _).mono ?_; rintro e w9 ⟨rfl, rfl⟩)
  go_ret
  exact ⟨rfl, rfl⟩
end Go.Proofs.YtnoelbomcogndabDoor
