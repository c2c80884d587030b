/- The law's flags. -/
import Derived.Test.YtbgejkodgcgpdaaPFlg
namespace Go.Proofs.Ytbgejkodgcgpdaa
open Go.RowKit
set_option linter.unusedVariables false
set_option linter.unusedSimpArgs false

theorem index_b5 (a b c d e : Value) (w : World) : (Instr.index 67 (.agg #[a, b, c, d, e]) (.int .i64 0)).run Try.prog w = .ok a w ∧ (Instr.index 67 (.agg #[a, b, c, d, e]) (.int .i64 1)).run Try.prog w = .ok b w ∧ (Instr.index 67 (.agg #[a, b, c, d, e]) (.int .i64 2)).run Try.prog w = .ok c w ∧ (Instr.index 67 (.agg #[a, b, c, d, e]) (.int .i64 3)).run Try.prog w = .ok d w ∧ (Instr.index 67 (.agg #[a, b, c, d, e]) (.int .i64 4)).run Try.prog w = .ok e w :=
  ⟨by kernel_rfl, by kernel_rfl, by kernel_rfl, by kernel_rfl, by kernel_rfl⟩
theorem ba_extF {a b : ByteArray} (h : a.data.toList = b.data.toList) : a = b := by
  apply ByteArray.ext; apply Array.ext'; exact h
def ptF (p mi sh sp z : Bool) : Nat → Bs
  | 0 => ([] : Bs)
  | 1 => fOne p 43
  | 2 => fOne p 43 ++ fOne mi 45
  | 3 => fOne p 43 ++ fOne mi 45 ++ fOne sh 35
  | 4 => fOne p 43 ++ fOne mi 45 ++ fOne sh 35 ++ fOne sp 32
  | _ => fOne p 43 ++ fOne mi 45 ++ fOne sh 35 ++ fOne sp 32 ++ fOne z 48
def ptB (p mi sh sp z : Bool) : Nat → Bs
  | 0 => ([] : Bs)
  | 1 => fTwo p 43
  | 2 => fTwo mi 45 ++ fTwo p 43
  | 3 => fTwo sh 35 ++ fTwo mi 45 ++ fTwo p 43
  | 4 => fTwo sp 32 ++ fTwo sh 35 ++ fTwo mi 45 ++ fTwo p 43
  | _ => fTwo z 48 ++ fTwo sp 32 ++ fTwo sh 35 ++ fTwo mi 45 ++ fTwo p 43
set_option maxRecDepth 1000000 in
set_option maxHeartbeats 4000000 in
theorem flags_flF (p mi sh sp z : Bool) (wid prec verb : Int) (w : World) : Calls Try.prog 14 #[.agg #[.bool p, .bool mi, .bool sh, .bool sp, .bool z, .int .i64 wid, .int .i64 prec, .int .i32 verb], .bool false] w fun e w' => e = .returned (.string (ba (flF p mi sh sp z))) ∧ Below w.heap.size w w' := by
  have hix := fun a b c d e w => index_b5 a b c d e w
  have hfin : ptF p mi sh sp z 5 = flF p mi sh sp z := by unfold ptF flF; simp [List.append_assoc]
  go_enter Try.func14, Try.ntmps14
  go_wp2_with fail
  go_loopg [5, 6, 7, 8, 20] 5 (fun g sv _ _ _ iv wr => ∃ (i : Nat) (S : ByteArray), iv = .int .i64 (i : Nat) ∧ sv = .string S ∧ i + g = 5 ∧ (S.size : Int) ≤ 10 ∧ Hid (S = ba (ptF p mi sh sp z i)) ∧ Below w.heap.size w wr)
  case atStart => exact ⟨0, ⟨#[]⟩, rfl, rfl, rfl, by decide, rfl, (Below.refl _ _).alloc (Nat.le_refl _) _⟩
  case round =>
    obtain ⟨i, S, rfl, rfl, hi, hSz, HS, hb⟩ := hrel
    rcases (by omega : i = 0 ∨ i = 1 ∨ i = 2 ∨ i = 3 ∨ i = 4 ∨ i = 5) with rfl | rfl | rfl | rfl | rfl | rfl
    · have hx : ∀ a b c d e w, (Instr.index 67 (.agg #[a, b, c, d, e]) (.int .i64 0)).run Try.prog w = .ok a w := fun a b c d e w => (hix a b c d e w).1
      have hex : (⟨#[43, 45, 35, 32, 48]⟩ : ByteArray).extract 0 1 = ⟨#[43]⟩ := by decide
      have hsz0 : ((ptF p mi sh sp z 0).length) ≤ 0 := by cases p <;> cases mi <;> cases sh <;> cases sp <;> cases z <;> decide
      have hS0 : S.size = (ptF p mi sh sp z 0).length := by rw [HS.out, ba_size]
      have hSI : (S.size : Int) ≤ 0 := by omega
      clear hix hS0 hsz0
      cases p with
      | false =>
        have HS2 : Hid (S = ba (ptF false mi sh sp z 1)) := by show _ = _; rw [HS.out]; simp [ptF, fOne, fTwo]
        clear HS
        go_wp2
        go_roundg (gk - 1)
        case measure => omega
        case rel => exact ⟨0 + 1, S, by go_num, rfl, by omega, by omega, HS2, hb⟩
      | true =>
        obtain ⟨S2, hS2⟩ : ∃ S2, S2 = S ++ ⟨#[43]⟩ := ⟨_, rfl⟩
        have HS2 : Hid (S2 = ba (ptF true mi sh sp z 1)) := by
          show _ = _; rw [hS2, HS.out]; apply ba_extF; rw [app_list]; simp [ptF, fOne, ba]
        have hz2 : (S2.size : Int) ≤ 10 := by rw [hS2, app_size]; have : (⟨#[43]⟩ : ByteArray).size = 1 := rfl; omega
        have hS3 := hS2.symm
        clear HS hS2
        go_wp2
        go_roundg (gk - 1)
        case measure => omega
        case rel => exact ⟨0 + 1, S2, by go_num, rfl, by omega, hz2, HS2, hb⟩
    · have hx : ∀ a b c d e w, (Instr.index 67 (.agg #[a, b, c, d, e]) (.int .i64 1)).run Try.prog w = .ok b w := fun a b c d e w => (hix a b c d e w).2.1
      have hex : (⟨#[43, 45, 35, 32, 48]⟩ : ByteArray).extract 1 2 = ⟨#[45]⟩ := by decide
      have hsz0 : ((ptF p mi sh sp z 1).length) ≤ 2 := by cases p <;> cases mi <;> cases sh <;> cases sp <;> cases z <;> decide
      have hS0 : S.size = (ptF p mi sh sp z 1).length := by rw [HS.out, ba_size]
      have hSI : (S.size : Int) ≤ 2 := by omega
      clear hix hS0 hsz0
      cases mi with
      | false =>
        have HS2 : Hid (S = ba (ptF p false sh sp z 2)) := by show _ = _; rw [HS.out]; simp [ptF, fOne, fTwo]
        clear HS
        go_wp2
        go_roundg (gk - 1)
        case measure => omega
        case rel => exact ⟨1 + 1, S, by go_num, rfl, by omega, by omega, HS2, hb⟩
      | true =>
        obtain ⟨S2, hS2⟩ : ∃ S2, S2 = S ++ ⟨#[45]⟩ := ⟨_, rfl⟩
        have HS2 : Hid (S2 = ba (ptF p true sh sp z 2)) := by
          show _ = _; rw [hS2, HS.out]; apply ba_extF; rw [app_list]; simp [ptF, fOne, ba]
        have hz2 : (S2.size : Int) ≤ 10 := by rw [hS2, app_size]; have : (⟨#[45]⟩ : ByteArray).size = 1 := rfl; omega
        have hS3 := hS2.symm
        clear HS hS2
        go_wp2
        go_roundg (gk - 1)
        case measure => omega
        case rel => exact ⟨1 + 1, S2, by go_num, rfl, by omega, hz2, HS2, hb⟩
    · have hx : ∀ a b c d e w, (Instr.index 67 (.agg #[a, b, c, d, e]) (.int .i64 2)).run Try.prog w = .ok c w := fun a b c d e w => (hix a b c d e w).2.2.1
      have hex : (⟨#[43, 45, 35, 32, 48]⟩ : ByteArray).extract 2 3 = ⟨#[35]⟩ := by decide
      have hsz0 : ((ptF p mi sh sp z 2).length) ≤ 4 := by cases p <;> cases mi <;> cases sh <;> cases sp <;> cases z <;> decide
      have hS0 : S.size = (ptF p mi sh sp z 2).length := by rw [HS.out, ba_size]
      have hSI : (S.size : Int) ≤ 4 := by omega
      clear hix hS0 hsz0
      cases sh with
      | false =>
        have HS2 : Hid (S = ba (ptF p mi false sp z 3)) := by show _ = _; rw [HS.out]; simp [ptF, fOne, fTwo]
        clear HS
        go_wp2
        go_roundg (gk - 1)
        case measure => omega
        case rel => exact ⟨2 + 1, S, by go_num, rfl, by omega, by omega, HS2, hb⟩
      | true =>
        obtain ⟨S2, hS2⟩ : ∃ S2, S2 = S ++ ⟨#[35]⟩ := ⟨_, rfl⟩
        have HS2 : Hid (S2 = ba (ptF p mi true sp z 3)) := by
          show _ = _; rw [hS2, HS.out]; apply ba_extF; rw [app_list]; simp [ptF, fOne, ba]
        have hz2 : (S2.size : Int) ≤ 10 := by rw [hS2, app_size]; have : (⟨#[35]⟩ : ByteArray).size = 1 := rfl; omega
        have hS3 := hS2.symm
        clear HS hS2
        go_wp2
        go_roundg (gk - 1)
        case measure => omega
        case rel => exact ⟨2 + 1, S2, by go_num, rfl, by omega, hz2, HS2, hb⟩
    · have hx : ∀ a b c d e w, (Instr.index 67 (.agg #[a, b, c, d, e]) (.int .i64 3)).run Try.prog w = .ok d w := fun a b c d e w => (hix a b c d e w).2.2.2.1
      have hex : (⟨#[43, 45, 35, 32, 48]⟩ : ByteArray).extract 3 4 = ⟨#[32]⟩ := by decide
      have hsz0 : ((ptF p mi sh sp z 3).length) ≤ 6 := by cases p <;> cases mi <;> cases sh <;> cases sp <;> cases z <;> decide
      have hS0 : S.size = (ptF p mi sh sp z 3).length := by rw [HS.out, ba_size]
      have hSI : (S.size : Int) ≤ 6 := by omega
      clear hix hS0 hsz0
      cases sp with
      | false =>
        have HS2 : Hid (S = ba (ptF p mi sh false z 4)) := by show _ = _; rw [HS.out]; simp [ptF, fOne, fTwo]
        clear HS
        go_wp2
        go_roundg (gk - 1)
        case measure => omega
        case rel => exact ⟨3 + 1, S, by go_num, rfl, by omega, by omega, HS2, hb⟩
      | true =>
        obtain ⟨S2, hS2⟩ : ∃ S2, S2 = S ++ ⟨#[32]⟩ := ⟨_, rfl⟩
        have HS2 : Hid (S2 = ba (ptF p mi sh true z 4)) := by
          show _ = _; rw [hS2, HS.out]; apply ba_extF; rw [app_list]; simp [ptF, fOne, ba]
        have hz2 : (S2.size : Int) ≤ 10 := by rw [hS2, app_size]; have : (⟨#[32]⟩ : ByteArray).size = 1 := rfl; omega
        have hS3 := hS2.symm
        clear HS hS2
        go_wp2
        go_roundg (gk - 1)
        case measure => omega
        case rel => exact ⟨3 + 1, S2, by go_num, rfl, by omega, hz2, HS2, hb⟩
    · have hx : ∀ a b c d e w, (Instr.index 67 (.agg #[a, b, c, d, e]) (.int .i64 4)).run Try.prog w = .ok e w := fun a b c d e w => (hix a b c d e w).2.2.2.2
      have hex : (⟨#[43, 45, 35, 32, 48]⟩ : ByteArray).extract 4 5 = ⟨#[48]⟩ := by decide
      have hsz0 : ((ptF p mi sh sp z 4).length) ≤ 8 := by cases p <;> cases mi <;> cases sh <;> cases sp <;> cases z <;> decide
      have hS0 : S.size = (ptF p mi sh sp z 4).length := by rw [HS.out, ba_size]
      have hSI : (S.size : Int) ≤ 8 := by omega
      clear hix hS0 hsz0
      cases z with
      | false =>
        have HS2 : Hid (S = ba (ptF p mi sh sp false 5)) := by show _ = _; rw [HS.out]; simp [ptF, fOne, fTwo]
        clear HS
        go_wp2
        go_roundg (gk - 1)
        case measure => omega
        case rel => exact ⟨4 + 1, S, by go_num, rfl, by omega, by omega, HS2, hb⟩
      | true =>
        obtain ⟨S2, hS2⟩ : ∃ S2, S2 = S ++ ⟨#[48]⟩ := ⟨_, rfl⟩
        have HS2 : Hid (S2 = ba (ptF p mi sh sp true 5)) := by
          show _ = _; rw [hS2, HS.out]; apply ba_extF; rw [app_list]; simp [ptF, fOne, ba]
        have hz2 : (S2.size : Int) ≤ 10 := by rw [hS2, app_size]; have : (⟨#[48]⟩ : ByteArray).size = 1 := rfl; omega
        have hS3 := hS2.symm
        clear HS hS2
        go_wp2
        go_roundg (gk - 1)
        case measure => omega
        case rel => exact ⟨4 + 1, S2, by go_num, rfl, by omega, hz2, HS2, hb⟩
    · have HF : Hid (S = ba (flF p mi sh sp z)) := by show _ = _; rw [HS.out, hfin]
      clear hix hfin HS
      go_wp2
      go_ret
      rw [← HF.out]
      exact ⟨rfl, hb⟩
set_option maxRecDepth 1000000 in
set_option maxHeartbeats 4000000 in
theorem flags_flB (p mi sh sp z : Bool) (wid prec verb : Int) (w : World) : Calls Try.prog 14 #[.agg #[.bool p, .bool mi, .bool sh, .bool sp, .bool z, .int .i64 wid, .int .i64 prec, .int .i32 verb], .bool true] w fun e w' => e = .returned (.string (ba (flB p mi sh sp z))) ∧ Below w.heap.size w w' := by
  have hix := fun a b c d e w => index_b5 a b c d e w
  have hfin : ptB p mi sh sp z 5 = flB p mi sh sp z := by unfold ptB flB; simp [List.append_assoc]
  go_enter Try.func14, Try.ntmps14
  go_wp2_with fail
  go_loopg [5, 6, 7, 8, 20] 5 (fun g sv _ _ _ iv wr => ∃ (i : Nat) (S : ByteArray), iv = .int .i64 (i : Nat) ∧ sv = .string S ∧ i + g = 5 ∧ (S.size : Int) ≤ 10 ∧ Hid (S = ba (ptB p mi sh sp z i)) ∧ Below w.heap.size w wr)
  case atStart => exact ⟨0, ⟨#[]⟩, rfl, rfl, rfl, by decide, rfl, (Below.refl _ _).alloc (Nat.le_refl _) _⟩
  case round =>
    obtain ⟨i, S, rfl, rfl, hi, hSz, HS, hb⟩ := hrel
    rcases (by omega : i = 0 ∨ i = 1 ∨ i = 2 ∨ i = 3 ∨ i = 4 ∨ i = 5) with rfl | rfl | rfl | rfl | rfl | rfl
    · have hx : ∀ a b c d e w, (Instr.index 67 (.agg #[a, b, c, d, e]) (.int .i64 0)).run Try.prog w = .ok a w := fun a b c d e w => (hix a b c d e w).1
      have hex : (⟨#[43, 45, 35, 32, 48]⟩ : ByteArray).extract 0 1 = ⟨#[43]⟩ := by decide
      have hsz0 : ((ptB p mi sh sp z 0).length) ≤ 0 := by cases p <;> cases mi <;> cases sh <;> cases sp <;> cases z <;> decide
      have hS0 : S.size = (ptB p mi sh sp z 0).length := by rw [HS.out, ba_size]
      have hSI : (S.size : Int) ≤ 0 := by omega
      clear hix hS0 hsz0
      cases p with
      | false =>
        have HS2 : Hid (S = ba (ptB false mi sh sp z 1)) := by show _ = _; rw [HS.out]; simp [ptB, fOne, fTwo]
        clear HS
        go_wp2
        go_roundg (gk - 1)
        case measure => omega
        case rel => exact ⟨0 + 1, S, by go_num, rfl, by omega, by omega, HS2, hb⟩
      | true =>
        obtain ⟨S2, hS2⟩ : ∃ S2, S2 = (⟨#[43]⟩ ++ ⟨#[43]⟩) ++ S := ⟨_, rfl⟩
        have HS2 : Hid (S2 = ba (ptB true mi sh sp z 1)) := by
          show _ = _; rw [hS2, HS.out]; apply ba_extF; rw [app_list, app_list]; simp [ptB, fTwo, ba]
        have hz2 : (S2.size : Int) ≤ 10 := by rw [hS2, app_size, app_size]; have : (⟨#[43]⟩ : ByteArray).size = 1 := rfl; omega
        have hS3 := hS2.symm
        clear HS hS2
        go_wp2
        go_roundg (gk - 1)
        case measure => omega
        case rel => exact ⟨0 + 1, S2, by go_num, rfl, by omega, hz2, HS2, hb⟩
    · have hx : ∀ a b c d e w, (Instr.index 67 (.agg #[a, b, c, d, e]) (.int .i64 1)).run Try.prog w = .ok b w := fun a b c d e w => (hix a b c d e w).2.1
      have hex : (⟨#[43, 45, 35, 32, 48]⟩ : ByteArray).extract 1 2 = ⟨#[45]⟩ := by decide
      have hsz0 : ((ptB p mi sh sp z 1).length) ≤ 2 := by cases p <;> cases mi <;> cases sh <;> cases sp <;> cases z <;> decide
      have hS0 : S.size = (ptB p mi sh sp z 1).length := by rw [HS.out, ba_size]
      have hSI : (S.size : Int) ≤ 2 := by omega
      clear hix hS0 hsz0
      cases mi with
      | false =>
        have HS2 : Hid (S = ba (ptB p false sh sp z 2)) := by show _ = _; rw [HS.out]; simp [ptB, fOne, fTwo]
        clear HS
        go_wp2
        go_roundg (gk - 1)
        case measure => omega
        case rel => exact ⟨1 + 1, S, by go_num, rfl, by omega, by omega, HS2, hb⟩
      | true =>
        obtain ⟨S2, hS2⟩ : ∃ S2, S2 = (⟨#[45]⟩ ++ ⟨#[45]⟩) ++ S := ⟨_, rfl⟩
        have HS2 : Hid (S2 = ba (ptB p true sh sp z 2)) := by
          show _ = _; rw [hS2, HS.out]; apply ba_extF; rw [app_list, app_list]; simp [ptB, fTwo, ba]
        have hz2 : (S2.size : Int) ≤ 10 := by rw [hS2, app_size, app_size]; have : (⟨#[45]⟩ : ByteArray).size = 1 := rfl; omega
        have hS3 := hS2.symm
        clear HS hS2
        go_wp2
        go_roundg (gk - 1)
        case measure => omega
        case rel => exact ⟨1 + 1, S2, by go_num, rfl, by omega, hz2, HS2, hb⟩
    · have hx : ∀ a b c d e w, (Instr.index 67 (.agg #[a, b, c, d, e]) (.int .i64 2)).run Try.prog w = .ok c w := fun a b c d e w => (hix a b c d e w).2.2.1
      have hex : (⟨#[43, 45, 35, 32, 48]⟩ : ByteArray).extract 2 3 = ⟨#[35]⟩ := by decide
      have hsz0 : ((ptB p mi sh sp z 2).length) ≤ 4 := by cases p <;> cases mi <;> cases sh <;> cases sp <;> cases z <;> decide
      have hS0 : S.size = (ptB p mi sh sp z 2).length := by rw [HS.out, ba_size]
      have hSI : (S.size : Int) ≤ 4 := by omega
      clear hix hS0 hsz0
      cases sh with
      | false =>
        have HS2 : Hid (S = ba (ptB p mi false sp z 3)) := by show _ = _; rw [HS.out]; simp [ptB, fOne, fTwo]
        clear HS
        go_wp2
        go_roundg (gk - 1)
        case measure => omega
        case rel => exact ⟨2 + 1, S, by go_num, rfl, by omega, by omega, HS2, hb⟩
      | true =>
        obtain ⟨S2, hS2⟩ : ∃ S2, S2 = (⟨#[35]⟩ ++ ⟨#[35]⟩) ++ S := ⟨_, rfl⟩
        have HS2 : Hid (S2 = ba (ptB p mi true sp z 3)) := by
          show _ = _; rw [hS2, HS.out]; apply ba_extF; rw [app_list, app_list]; simp [ptB, fTwo, ba]
        have hz2 : (S2.size : Int) ≤ 10 := by rw [hS2, app_size, app_size]; have : (⟨#[35]⟩ : ByteArray).size = 1 := rfl; omega
        have hS3 := hS2.symm
        clear HS hS2
        go_wp2
        go_roundg (gk - 1)
        case measure => omega
        case rel => exact ⟨2 + 1, S2, by go_num, rfl, by omega, hz2, HS2, hb⟩
    · have hx : ∀ a b c d e w, (Instr.index 67 (.agg #[a, b, c, d, e]) (.int .i64 3)).run Try.prog w = .ok d w := fun a b c d e w => (hix a b c d e w).2.2.2.1
      have hex : (⟨#[43, 45, 35, 32, 48]⟩ : ByteArray).extract 3 4 = ⟨#[32]⟩ := by decide
      have hsz0 : ((ptB p mi sh sp z 3).length) ≤ 6 := by cases p <;> cases mi <;> cases sh <;> cases sp <;> cases z <;> decide
      have hS0 : S.size = (ptB p mi sh sp z 3).length := by rw [HS.out, ba_size]
      have hSI : (S.size : Int) ≤ 6 := by omega
      clear hix hS0 hsz0
      cases sp with
      | false =>
        have HS2 : Hid (S = ba (ptB p mi sh false z 4)) := by show _ = _; rw [HS.out]; simp [ptB, fOne, fTwo]
        clear HS
        go_wp2
        go_roundg (gk - 1)
        case measure => omega
        case rel => exact ⟨3 + 1, S, by go_num, rfl, by omega, by omega, HS2, hb⟩
      | true =>
        obtain ⟨S2, hS2⟩ : ∃ S2, S2 = (⟨#[32]⟩ ++ ⟨#[32]⟩) ++ S := ⟨_, rfl⟩
        have HS2 : Hid (S2 = ba (ptB p mi sh true z 4)) := by
          show _ = _; rw [hS2, HS.out]; apply ba_extF; rw [app_list, app_list]; simp [ptB, fTwo, ba]
        have hz2 : (S2.size : Int) ≤ 10 := by rw [hS2, app_size, app_size]; have : (⟨#[32]⟩ : ByteArray).size = 1 := rfl; omega
        have hS3 := hS2.symm
        clear HS hS2
        go_wp2
        go_roundg (gk - 1)
        case measure => omega
        case rel => exact ⟨3 + 1, S2, by go_num, rfl, by omega, hz2, HS2, hb⟩
    · have hx : ∀ a b c d e w, (Instr.index 67 (.agg #[a, b, c, d, e]) (.int .i64 4)).run Try.prog w = .ok e w := fun a b c d e w => (hix a b c d e w).2.2.2.2
      have hex : (⟨#[43, 45, 35, 32, 48]⟩ : ByteArray).extract 4 5 = ⟨#[48]⟩ := by decide
      have hsz0 : ((ptB p mi sh sp z 4).length) ≤ 8 := by cases p <;> cases mi <;> cases sh <;> cases sp <;> cases z <;> decide
      have hS0 : S.size = (ptB p mi sh sp z 4).length := by rw [HS.out, ba_size]
      have hSI : (S.size : Int) ≤ 8 := by omega
      clear hix hS0 hsz0
      cases z with
      | false =>
        have HS2 : Hid (S = ba (ptB p mi sh sp false 5)) := by show _ = _; rw [HS.out]; simp [ptB, fOne, fTwo]
        clear HS
        go_wp2
        go_roundg (gk - 1)
        case measure => omega
        case rel => exact ⟨4 + 1, S, by go_num, rfl, by omega, by omega, HS2, hb⟩
      | true =>
        obtain ⟨S2, hS2⟩ : ∃ S2, S2 = (⟨#[48]⟩ ++ ⟨#[48]⟩) ++ S := ⟨_, rfl⟩
        have HS2 : Hid (S2 = ba (ptB p mi sh sp true 5)) := by
          show _ = _; rw [hS2, HS.out]; apply ba_extF; rw [app_list, app_list]; simp [ptB, fTwo, ba]
        have hz2 : (S2.size : Int) ≤ 10 := by rw [hS2, app_size, app_size]; have : (⟨#[48]⟩ : ByteArray).size = 1 := rfl; omega
        have hS3 := hS2.symm
        clear HS hS2
        go_wp2
        go_roundg (gk - 1)
        case measure => omega
        case rel => exact ⟨4 + 1, S2, by go_num, rfl, by omega, hz2, HS2, hb⟩
    · have HF : Hid (S = ba (flB p mi sh sp z)) := by show _ = _; rw [HS.out, hfin]
      clear hix hfin HS
      go_wp2
      go_ret
      rw [← HF.out]
      exact ⟨rfl, hb⟩
end Go.Proofs.Ytbgejkodgcgpdaa
