/- The walks of the document's Signed and Unsigned of layer 3: names and bases. -/
import Derived.Test.YtnoelbomcogndabDoorEWriA
namespace Go.Proofs.YtnoelbomcogndabDoor
open Go.RowKit
set_option linter.unusedVariables false

theorem ba_assoc (a b c : ByteArray) : (a ++ b) ++ c = a ++ (b ++ c) := by
  apply ByteArray.ext
  simp only [ByteArray.data_append, Array.append_assoc]
theorem ename_pack (A E : ByteArray) (hA : A.size ≤ 1100) (hE : E.size ≤ 4) : ∃ B C D : ByteArray, (⟨#[32, 39]⟩ : ByteArray) ++ E = B ∧ B ++ (⟨#[39]⟩ : ByteArray) = C ∧ A ++ C = D ∧ ¬ 9223372036854775807 < (⟨#[32, 39]⟩ : ByteArray).size + E.size ∧ ¬ 9223372036854775807 < B.size + (⟨#[39]⟩ : ByteArray).size ∧ ¬ 9223372036854775807 < A.size + C.size ∧ D = ((A ++ ⟨#[32, 39]⟩) ++ E) ++ ⟨#[39]⟩ := by
  have h3 : (⟨#[32, 39]⟩ : ByteArray).size = 2 := rfl
  have h4 : (⟨#[39]⟩ : ByteArray).size = 1 := rfl
  refine ⟨_, _, _, rfl, rfl, rfl, ?_, ?_, ?_, ?_⟩
  · omega
  · rw [app_size]; omega
  · rw [app_size, app_size]; omega
  · rw [ba_assoc, ba_assoc, ba_assoc]

set_option maxRecDepth 1000000 in
set_option maxHeartbeats 1000000 in
theorem ewr_U0 (neg : Bool) (size bits : Nat) (p mi sp z : Bool) (wid prec : Int) (w : World) (hn : bits < 18446744073709551616) :
    Calls Tryd.prog 24 #[.bool neg, .int .u64 size, .int .u64 bits, .agg #[.bool p, .bool mi, .bool false, .bool sp, .bool z, .int .i64 wid, .int .i64 prec, .int .i32 85]] w fun e w' => e = .returned (.tuple #[.string (padS (nameA bits prec) mi false wid), .bool true]) ∧ Below w.heap.size w w' := by
  have hbA : Below w.heap.size w (w.alloc (.cells #[.bool p, .bool mi, .bool false, .bool sp, .bool z, .int .i64 wid, .int .i64 prec, .int .i32 85] 27)) := (Below.refl _ _).alloc (Nat.le_refl _) _
  have f0 : ∀ x : Cl (w.alloc (.cells #[.bool p, .bool mi, .bool false, .bool sp, .bool z, .int .i64 wid, .int .i64 prec, .int .i32 85] 27)), x.w.cell? ⟨w.heap.size, 0, none⟩ = some (.bool p) := fun x => x.cell (by simp)
  have f1 : ∀ x : Cl (w.alloc (.cells #[.bool p, .bool mi, .bool false, .bool sp, .bool z, .int .i64 wid, .int .i64 prec, .int .i32 85] 27)), x.w.cell? ⟨w.heap.size, 1, none⟩ = some (.bool mi) := fun x => x.cell (by simp)
  have f2 : ∀ x : Cl (w.alloc (.cells #[.bool p, .bool mi, .bool false, .bool sp, .bool z, .int .i64 wid, .int .i64 prec, .int .i32 85] 27)), x.w.cell? ⟨w.heap.size, 2, none⟩ = some (.bool false) := fun x => x.cell (by simp)
  have f3 : ∀ x : Cl (w.alloc (.cells #[.bool p, .bool mi, .bool false, .bool sp, .bool z, .int .i64 wid, .int .i64 prec, .int .i32 85] 27)), x.w.cell? ⟨w.heap.size, 3, none⟩ = some (.bool sp) := fun x => x.cell (by simp)
  have f4 : ∀ x : Cl (w.alloc (.cells #[.bool p, .bool mi, .bool false, .bool sp, .bool z, .int .i64 wid, .int .i64 prec, .int .i32 85] 27)), x.w.cell? ⟨w.heap.size, 4, none⟩ = some (.bool z) := fun x => x.cell (by simp)
  have f5 : ∀ x : Cl (w.alloc (.cells #[.bool p, .bool mi, .bool false, .bool sp, .bool z, .int .i64 wid, .int .i64 prec, .int .i32 85] 27)), x.w.cell? ⟨w.heap.size, 5, none⟩ = some (.int .i64 wid) := fun x => x.cell (by simp)
  have f6 : ∀ x : Cl (w.alloc (.cells #[.bool p, .bool mi, .bool false, .bool sp, .bool z, .int .i64 wid, .int .i64 prec, .int .i32 85] 27)), x.w.cell? ⟨w.heap.size, 6, none⟩ = some (.int .i64 prec) := fun x => x.cell (by simp)
  have f7 : ∀ x : Cl (w.alloc (.cells #[.bool p, .bool mi, .bool false, .bool sp, .bool z, .int .i64 wid, .int .i64 prec, .int .i32 85] 27)), x.w.cell? ⟨w.heap.size, 7, none⟩ = some (.int .i32 85) := fun x => x.cell (by simp)
  have hwf := wdE_facts prec
  have hz := digT_size true 16 bits
  have hD : ∀ w, Calls Tryd.prog 10 #[.int .u64 bits, .int .i64 16] w fun e w' => e = .returned (.string (digT false 16 bits)) ∧ w' = w := fun w => edigits_any bits 16 w hn (by omega)
  have hG : ∀ w, Calls Tryd.prog 40 #[.string (digT false 16 bits)] w fun e w' => e = .returned (.string (digT true 16 bits)) ∧ Below w.heap.size w w' := fun w => egreat_dig 16 bits w (by omega) (by omega)
  have hW := rwidth_any prec
  have hL4 : max 4 ((wdt prec : Nat) : Int) = max 4 (wdE prec) := by unfold wdE wdt; split <;> omega
  have hN : ∀ w, Calls Tryd.prog 39 #[.string (digT true 16 bits), .int .i64 (max 4 (wdE prec))] w fun e w' => e = .returned (.string (lenS (digT true 16 bits) (max 4 (wdE prec)))) ∧ w' = w := fun w => ezeros_any _ _ w (by omega) (by omega)
  obtain ⟨A, L, e1, e2, e3, e4⟩ := name_pack bits prec
  have hnz := nameA_size bits prec
  rw [e4] at hnz ⊢
  rw [hL4] at e1
  rw [e1] at hN
  have hPl : ∀ w, Calls Tryd.prog 42 #[.string A, .agg #[.bool p, .bool mi, .bool false, .bool sp, .bool z, .int .i64 wid, .int .i64 prec, .int .i32 85]] w fun e w' => e = .returned (.string (padS A mi false wid)) ∧ Below w.heap.size w w' := fun w => rplain_any _ p mi false sp z wid prec 85 w (by omega)
  generalize padS A mi false wid = rr at *
  clear e1 e4 hL4
  generalize digT true 16 bits = r2 at *
  generalize digT false 16 bits = r1 at *
  generalize wdE prec = k at *
  go_enter Tryd.func24, Tryd.ntmps24
  go_upto_if 41 with (first | (go_at_call 38; refine (hW _).mono ?_; rintro e w9 ⟨rfl, rfl⟩))
  go_cut [10] (fun l wx => wx = (w.alloc (.cells #[.bool p, .bool mi, .bool false, .bool sp, .bool z, .int .i64 wid, .int .i64 prec, .int .i32 85] 27)) ∧ l = .int .i64 (max 4 k))
  case first =>
    by_cases h4 : 4 < k
    · go_wp2_with (go_at_call 38; refine (hW _).mono ?_; rintro e w9 ⟨rfl, rfl⟩)
      go_meet
      exact ⟨rfl, by rw [show max 4 k = k by omega]⟩
    · go_wp2_with (go_at_call 38; refine (hW _).mono ?_; rintro e w9 ⟨rfl, rfl⟩)
      go_meet
      exact ⟨rfl, by rw [show max 4 k = 4 by omega]⟩
  case rest =>
    obtain ⟨rfl, rfl⟩ := hcut
    generalize max 4 k = k4 at *
    go_wp2_with (first | (go_at_call 10; refine (hD _).mono ?_; rintro e w9 ⟨rfl, rfl⟩) | (go_at_call 40; (first | refine (Cl.go (hG _)).mono ?_ | refine (Cl.go0 (hG _)).mono ?_); rintro e w9 ⟨y, rfl, rfl⟩) | (go_at_call 39; refine (hN _).mono ?_; rintro e w9 ⟨rfl, rfl⟩) | (go_at_call 42; (first | refine (Cl.go (hPl _)).mono ?_ | refine (Cl.go0 (hPl _)).mono ?_); rintro e w9 ⟨y, rfl, rfl⟩))
    go_ret2
    exact ⟨rfl, hbA.trans (y.below.mono hbA.size)⟩

set_option maxRecDepth 1000000 in
set_option maxHeartbeats 1000000 in
theorem ewr_U1 (neg : Bool) (size bits : Nat) (p mi sp z : Bool) (wid prec : Int) (w : World) (hn : bits < 18446744073709551616) (hb : 1114111 < bits) :
    Calls Tryd.prog 24 #[.bool neg, .int .u64 size, .int .u64 bits, .agg #[.bool p, .bool mi, .bool true, .bool sp, .bool z, .int .i64 wid, .int .i64 prec, .int .i32 85]] w fun e w' => e = .returned (.tuple #[.string (padS (nameA bits prec) mi false wid), .bool true]) ∧ Below w.heap.size w w' := by
  have hbA : Below w.heap.size w (w.alloc (.cells #[.bool p, .bool mi, .bool true, .bool sp, .bool z, .int .i64 wid, .int .i64 prec, .int .i32 85] 27)) := (Below.refl _ _).alloc (Nat.le_refl _) _
  have f0 : ∀ x : Cl (w.alloc (.cells #[.bool p, .bool mi, .bool true, .bool sp, .bool z, .int .i64 wid, .int .i64 prec, .int .i32 85] 27)), x.w.cell? ⟨w.heap.size, 0, none⟩ = some (.bool p) := fun x => x.cell (by simp)
  have f1 : ∀ x : Cl (w.alloc (.cells #[.bool p, .bool mi, .bool true, .bool sp, .bool z, .int .i64 wid, .int .i64 prec, .int .i32 85] 27)), x.w.cell? ⟨w.heap.size, 1, none⟩ = some (.bool mi) := fun x => x.cell (by simp)
  have f2 : ∀ x : Cl (w.alloc (.cells #[.bool p, .bool mi, .bool true, .bool sp, .bool z, .int .i64 wid, .int .i64 prec, .int .i32 85] 27)), x.w.cell? ⟨w.heap.size, 2, none⟩ = some (.bool true) := fun x => x.cell (by simp)
  have f3 : ∀ x : Cl (w.alloc (.cells #[.bool p, .bool mi, .bool true, .bool sp, .bool z, .int .i64 wid, .int .i64 prec, .int .i32 85] 27)), x.w.cell? ⟨w.heap.size, 3, none⟩ = some (.bool sp) := fun x => x.cell (by simp)
  have f4 : ∀ x : Cl (w.alloc (.cells #[.bool p, .bool mi, .bool true, .bool sp, .bool z, .int .i64 wid, .int .i64 prec, .int .i32 85] 27)), x.w.cell? ⟨w.heap.size, 4, none⟩ = some (.bool z) := fun x => x.cell (by simp)
  have f5 : ∀ x : Cl (w.alloc (.cells #[.bool p, .bool mi, .bool true, .bool sp, .bool z, .int .i64 wid, .int .i64 prec, .int .i32 85] 27)), x.w.cell? ⟨w.heap.size, 5, none⟩ = some (.int .i64 wid) := fun x => x.cell (by simp)
  have f6 : ∀ x : Cl (w.alloc (.cells #[.bool p, .bool mi, .bool true, .bool sp, .bool z, .int .i64 wid, .int .i64 prec, .int .i32 85] 27)), x.w.cell? ⟨w.heap.size, 6, none⟩ = some (.int .i64 prec) := fun x => x.cell (by simp)
  have f7 : ∀ x : Cl (w.alloc (.cells #[.bool p, .bool mi, .bool true, .bool sp, .bool z, .int .i64 wid, .int .i64 prec, .int .i32 85] 27)), x.w.cell? ⟨w.heap.size, 7, none⟩ = some (.int .i32 85) := fun x => x.cell (by simp)
  have hwf := wdE_facts prec
  have hz := digT_size true 16 bits
  have hD : ∀ w, Calls Tryd.prog 10 #[.int .u64 bits, .int .i64 16] w fun e w' => e = .returned (.string (digT false 16 bits)) ∧ w' = w := fun w => edigits_any bits 16 w hn (by omega)
  have hG : ∀ w, Calls Tryd.prog 40 #[.string (digT false 16 bits)] w fun e w' => e = .returned (.string (digT true 16 bits)) ∧ Below w.heap.size w w' := fun w => egreat_dig 16 bits w (by omega) (by omega)
  have hW := rwidth_any prec
  have hL4 : max 4 ((wdt prec : Nat) : Int) = max 4 (wdE prec) := by unfold wdE wdt; split <;> omega
  have hN : ∀ w, Calls Tryd.prog 39 #[.string (digT true 16 bits), .int .i64 (max 4 (wdE prec))] w fun e w' => e = .returned (.string (lenS (digT true 16 bits) (max 4 (wdE prec)))) ∧ w' = w := fun w => ezeros_any _ _ w (by omega) (by omega)
  obtain ⟨A, L, e1, e2, e3, e4⟩ := name_pack bits prec
  have hnz := nameA_size bits prec
  rw [e4] at hnz ⊢
  rw [hL4] at e1
  rw [e1] at hN
  have hbI : ¬ (bits : Int) ≤ 1114111 := by omega
  have hPl : ∀ w, Calls Tryd.prog 42 #[.string A, .agg #[.bool p, .bool mi, .bool true, .bool sp, .bool z, .int .i64 wid, .int .i64 prec, .int .i32 85]] w fun e w' => e = .returned (.string (padS A mi false wid)) ∧ Below w.heap.size w w' := fun w => rplain_any _ p mi true sp z wid prec 85 w (by omega)
  generalize padS A mi false wid = rr at *
  clear e1 e4 hL4
  generalize digT true 16 bits = r2 at *
  generalize digT false 16 bits = r1 at *
  generalize wdE prec = k at *
  go_enter Tryd.func24, Tryd.ntmps24
  go_upto_if 41 with (first | (go_at_call 38; refine (hW _).mono ?_; rintro e w9 ⟨rfl, rfl⟩))
  go_cut [10] (fun l wx => wx = (w.alloc (.cells #[.bool p, .bool mi, .bool true, .bool sp, .bool z, .int .i64 wid, .int .i64 prec, .int .i32 85] 27)) ∧ l = .int .i64 (max 4 k))
  case first =>
    by_cases h4 : 4 < k
    · go_wp2_with (go_at_call 38; refine (hW _).mono ?_; rintro e w9 ⟨rfl, rfl⟩)
      go_meet
      exact ⟨rfl, by rw [show max 4 k = k by omega]⟩
    · go_wp2_with (go_at_call 38; refine (hW _).mono ?_; rintro e w9 ⟨rfl, rfl⟩)
      go_meet
      exact ⟨rfl, by rw [show max 4 k = 4 by omega]⟩
  case rest =>
    obtain ⟨rfl, rfl⟩ := hcut
    generalize max 4 k = k4 at *
    go_wp2_with (first | (go_at_call 10; refine (hD _).mono ?_; rintro e w9 ⟨rfl, rfl⟩) | (go_at_call 40; (first | refine (Cl.go (hG _)).mono ?_ | refine (Cl.go0 (hG _)).mono ?_); rintro e w9 ⟨y, rfl, rfl⟩) | (go_at_call 39; refine (hN _).mono ?_; rintro e w9 ⟨rfl, rfl⟩) | (go_at_call 42; (first | refine (Cl.go (hPl _)).mono ?_ | refine (Cl.go0 (hPl _)).mono ?_); rintro e w9 ⟨y, rfl, rfl⟩))
    go_ret2
    exact ⟨rfl, hbA.trans (y.below.mono hbA.size)⟩

set_option maxRecDepth 1000000 in
set_option maxHeartbeats 1000000 in
theorem ewr_U2 (neg : Bool) (size bits : Nat) (p mi sp z : Bool) (wid prec : Int) (w : World) (hn : bits < 18446744073709551616) (hb : bits ≤ 1114111) (hpl : plainP (bits : Int) = false) :
    Calls Tryd.prog 24 #[.bool neg, .int .u64 size, .int .u64 bits, .agg #[.bool p, .bool mi, .bool true, .bool sp, .bool z, .int .i64 wid, .int .i64 prec, .int .i32 85]] w fun e w' => e = .returned (.tuple #[.string (padS (nameA bits prec) mi false wid), .bool true]) ∧ Below w.heap.size w w' := by
  have hbA : Below w.heap.size w (w.alloc (.cells #[.bool p, .bool mi, .bool true, .bool sp, .bool z, .int .i64 wid, .int .i64 prec, .int .i32 85] 27)) := (Below.refl _ _).alloc (Nat.le_refl _) _
  have f0 : ∀ x : Cl (w.alloc (.cells #[.bool p, .bool mi, .bool true, .bool sp, .bool z, .int .i64 wid, .int .i64 prec, .int .i32 85] 27)), x.w.cell? ⟨w.heap.size, 0, none⟩ = some (.bool p) := fun x => x.cell (by simp)
  have f1 : ∀ x : Cl (w.alloc (.cells #[.bool p, .bool mi, .bool true, .bool sp, .bool z, .int .i64 wid, .int .i64 prec, .int .i32 85] 27)), x.w.cell? ⟨w.heap.size, 1, none⟩ = some (.bool mi) := fun x => x.cell (by simp)
  have f2 : ∀ x : Cl (w.alloc (.cells #[.bool p, .bool mi, .bool true, .bool sp, .bool z, .int .i64 wid, .int .i64 prec, .int .i32 85] 27)), x.w.cell? ⟨w.heap.size, 2, none⟩ = some (.bool true) := fun x => x.cell (by simp)
  have f3 : ∀ x : Cl (w.alloc (.cells #[.bool p, .bool mi, .bool true, .bool sp, .bool z, .int .i64 wid, .int .i64 prec, .int .i32 85] 27)), x.w.cell? ⟨w.heap.size, 3, none⟩ = some (.bool sp) := fun x => x.cell (by simp)
  have f4 : ∀ x : Cl (w.alloc (.cells #[.bool p, .bool mi, .bool true, .bool sp, .bool z, .int .i64 wid, .int .i64 prec, .int .i32 85] 27)), x.w.cell? ⟨w.heap.size, 4, none⟩ = some (.bool z) := fun x => x.cell (by simp)
  have f5 : ∀ x : Cl (w.alloc (.cells #[.bool p, .bool mi, .bool true, .bool sp, .bool z, .int .i64 wid, .int .i64 prec, .int .i32 85] 27)), x.w.cell? ⟨w.heap.size, 5, none⟩ = some (.int .i64 wid) := fun x => x.cell (by simp)
  have f6 : ∀ x : Cl (w.alloc (.cells #[.bool p, .bool mi, .bool true, .bool sp, .bool z, .int .i64 wid, .int .i64 prec, .int .i32 85] 27)), x.w.cell? ⟨w.heap.size, 6, none⟩ = some (.int .i64 prec) := fun x => x.cell (by simp)
  have f7 : ∀ x : Cl (w.alloc (.cells #[.bool p, .bool mi, .bool true, .bool sp, .bool z, .int .i64 wid, .int .i64 prec, .int .i32 85] 27)), x.w.cell? ⟨w.heap.size, 7, none⟩ = some (.int .i32 85) := fun x => x.cell (by simp)
  have hwf := wdE_facts prec
  have hz := digT_size true 16 bits
  have hD : ∀ w, Calls Tryd.prog 10 #[.int .u64 bits, .int .i64 16] w fun e w' => e = .returned (.string (digT false 16 bits)) ∧ w' = w := fun w => edigits_any bits 16 w hn (by omega)
  have hG : ∀ w, Calls Tryd.prog 40 #[.string (digT false 16 bits)] w fun e w' => e = .returned (.string (digT true 16 bits)) ∧ Below w.heap.size w w' := fun w => egreat_dig 16 bits w (by omega) (by omega)
  have hW := rwidth_any prec
  have hL4 : max 4 ((wdt prec : Nat) : Int) = max 4 (wdE prec) := by unfold wdE wdt; split <;> omega
  have hN : ∀ w, Calls Tryd.prog 39 #[.string (digT true 16 bits), .int .i64 (max 4 (wdE prec))] w fun e w' => e = .returned (.string (lenS (digT true 16 bits) (max 4 (wdE prec)))) ∧ w' = w := fun w => ezeros_any _ _ w (by omega) (by omega)
  obtain ⟨A, L, e1, e2, e3, e4⟩ := name_pack bits prec
  have hnz := nameA_size bits prec
  rw [e4] at hnz ⊢
  rw [hL4] at e1
  rw [e1] at hN
  have hbI : (bits : Int) ≤ 1114111 := by omega
  have hcv : IntKind.i32.wrap (bits : Int) = bits := by rw [IntKind.wrap_i32]; omega
  have hPp : ∀ w, Calls Tryd.prog 41 #[.int .i32 (bits : Int)] w fun e w' => e = .returned (.bool false) ∧ w' = w := fun w => by rw [← hpl]; exact dplain_any _ w
  clear hpl
  have hPl : ∀ w, Calls Tryd.prog 42 #[.string A, .agg #[.bool p, .bool mi, .bool true, .bool sp, .bool z, .int .i64 wid, .int .i64 prec, .int .i32 85]] w fun e w' => e = .returned (.string (padS A mi false wid)) ∧ Below w.heap.size w w' := fun w => rplain_any _ p mi true sp z wid prec 85 w (by omega)
  generalize padS A mi false wid = rr at *
  clear e1 e4 hL4
  generalize digT true 16 bits = r2 at *
  generalize digT false 16 bits = r1 at *
  generalize wdE prec = k at *
  go_enter Tryd.func24, Tryd.ntmps24
  go_upto_if 41 with (first | (go_at_call 38; refine (hW _).mono ?_; rintro e w9 ⟨rfl, rfl⟩))
  go_cut [10] (fun l wx => wx = (w.alloc (.cells #[.bool p, .bool mi, .bool true, .bool sp, .bool z, .int .i64 wid, .int .i64 prec, .int .i32 85] 27)) ∧ l = .int .i64 (max 4 k))
  case first =>
    by_cases h4 : 4 < k
    · go_wp2_with (go_at_call 38; refine (hW _).mono ?_; rintro e w9 ⟨rfl, rfl⟩)
      go_meet
      exact ⟨rfl, by rw [show max 4 k = k by omega]⟩
    · go_wp2_with (go_at_call 38; refine (hW _).mono ?_; rintro e w9 ⟨rfl, rfl⟩)
      go_meet
      exact ⟨rfl, by rw [show max 4 k = 4 by omega]⟩
  case rest =>
    obtain ⟨rfl, rfl⟩ := hcut
    generalize max 4 k = k4 at *
    go_wp2_with (first | (go_at_call 10; refine (hD _).mono ?_; rintro e w9 ⟨rfl, rfl⟩) | (go_at_call 40; (first | refine (Cl.go (hG _)).mono ?_ | refine (Cl.go0 (hG _)).mono ?_); rintro e w9 ⟨y, rfl, rfl⟩) | (go_at_call 39; refine (hN _).mono ?_; rintro e w9 ⟨rfl, rfl⟩) | (go_at_call 41; refine (hPp _).mono ?_; rintro e w9 ⟨rfl, rfl⟩) | (go_at_call 42; (first | refine (Cl.go (hPl _)).mono ?_ | refine (Cl.go0 (hPl _)).mono ?_); rintro e w9 ⟨y, rfl, rfl⟩))
    go_ret2
    exact ⟨rfl, hbA.trans (y.below.mono hbA.size)⟩

set_option maxRecDepth 1000000 in
set_option maxHeartbeats 1000000 in
theorem ewr_U3 (neg : Bool) (size bits : Nat) (p mi sp z : Bool) (wid prec : Int) (w : World) (hn : bits < 18446744073709551616) (hb : bits ≤ 1114111) (hpl : plainP (bits : Int) = true) :
    Calls Tryd.prog 24 #[.bool neg, .int .u64 size, .int .u64 bits, .agg #[.bool p, .bool mi, .bool true, .bool sp, .bool z, .int .i64 wid, .int .i64 prec, .int .i32 85]] w fun e w' => e = .returned (.tuple #[.string (padS (((nameA bits prec ++ ⟨#[32, 39]⟩) ++ Utf8.encode (bits : Int)) ++ ⟨#[39]⟩) mi false wid), .bool true]) ∧ Below w.heap.size w w' := by
  have hbA : Below w.heap.size w (w.alloc (.cells #[.bool p, .bool mi, .bool true, .bool sp, .bool z, .int .i64 wid, .int .i64 prec, .int .i32 85] 27)) := (Below.refl _ _).alloc (Nat.le_refl _) _
  have f0 : ∀ x : Cl (w.alloc (.cells #[.bool p, .bool mi, .bool true, .bool sp, .bool z, .int .i64 wid, .int .i64 prec, .int .i32 85] 27)), x.w.cell? ⟨w.heap.size, 0, none⟩ = some (.bool p) := fun x => x.cell (by simp)
  have f1 : ∀ x : Cl (w.alloc (.cells #[.bool p, .bool mi, .bool true, .bool sp, .bool z, .int .i64 wid, .int .i64 prec, .int .i32 85] 27)), x.w.cell? ⟨w.heap.size, 1, none⟩ = some (.bool mi) := fun x => x.cell (by simp)
  have f2 : ∀ x : Cl (w.alloc (.cells #[.bool p, .bool mi, .bool true, .bool sp, .bool z, .int .i64 wid, .int .i64 prec, .int .i32 85] 27)), x.w.cell? ⟨w.heap.size, 2, none⟩ = some (.bool true) := fun x => x.cell (by simp)
  have f3 : ∀ x : Cl (w.alloc (.cells #[.bool p, .bool mi, .bool true, .bool sp, .bool z, .int .i64 wid, .int .i64 prec, .int .i32 85] 27)), x.w.cell? ⟨w.heap.size, 3, none⟩ = some (.bool sp) := fun x => x.cell (by simp)
  have f4 : ∀ x : Cl (w.alloc (.cells #[.bool p, .bool mi, .bool true, .bool sp, .bool z, .int .i64 wid, .int .i64 prec, .int .i32 85] 27)), x.w.cell? ⟨w.heap.size, 4, none⟩ = some (.bool z) := fun x => x.cell (by simp)
  have f5 : ∀ x : Cl (w.alloc (.cells #[.bool p, .bool mi, .bool true, .bool sp, .bool z, .int .i64 wid, .int .i64 prec, .int .i32 85] 27)), x.w.cell? ⟨w.heap.size, 5, none⟩ = some (.int .i64 wid) := fun x => x.cell (by simp)
  have f6 : ∀ x : Cl (w.alloc (.cells #[.bool p, .bool mi, .bool true, .bool sp, .bool z, .int .i64 wid, .int .i64 prec, .int .i32 85] 27)), x.w.cell? ⟨w.heap.size, 6, none⟩ = some (.int .i64 prec) := fun x => x.cell (by simp)
  have f7 : ∀ x : Cl (w.alloc (.cells #[.bool p, .bool mi, .bool true, .bool sp, .bool z, .int .i64 wid, .int .i64 prec, .int .i32 85] 27)), x.w.cell? ⟨w.heap.size, 7, none⟩ = some (.int .i32 85) := fun x => x.cell (by simp)
  have hwf := wdE_facts prec
  have hz := digT_size true 16 bits
  have hD : ∀ w, Calls Tryd.prog 10 #[.int .u64 bits, .int .i64 16] w fun e w' => e = .returned (.string (digT false 16 bits)) ∧ w' = w := fun w => edigits_any bits 16 w hn (by omega)
  have hG : ∀ w, Calls Tryd.prog 40 #[.string (digT false 16 bits)] w fun e w' => e = .returned (.string (digT true 16 bits)) ∧ Below w.heap.size w w' := fun w => egreat_dig 16 bits w (by omega) (by omega)
  have hW := rwidth_any prec
  have hL4 : max 4 ((wdt prec : Nat) : Int) = max 4 (wdE prec) := by unfold wdE wdt; split <;> omega
  have hN : ∀ w, Calls Tryd.prog 39 #[.string (digT true 16 bits), .int .i64 (max 4 (wdE prec))] w fun e w' => e = .returned (.string (lenS (digT true 16 bits) (max 4 (wdE prec)))) ∧ w' = w := fun w => ezeros_any _ _ w (by omega) (by omega)
  obtain ⟨A, L, e1, e2, e3, e4⟩ := name_pack bits prec
  have hnz := nameA_size bits prec
  rw [e4] at hnz ⊢
  rw [hL4] at e1
  rw [e1] at hN
  have hbI : (bits : Int) ≤ 1114111 := by omega
  have hcv : IntKind.i32.wrap (bits : Int) = bits := by rw [IntKind.wrap_i32]; omega
  have hPp : ∀ w, Calls Tryd.prog 41 #[.int .i32 (bits : Int)] w fun e w' => e = .returned (.bool true) ∧ w' = w := fun w => by rw [← hpl]; exact dplain_any _ w
  clear hpl
  have hez : (Utf8.encode (bits : Int)).size ≤ 4 := enc_size4 bits
  have hR : ∀ w, Calls Tryd.prog 35 #[.int .i32 (bits : Int)] w fun e w' => e = .returned (.string (Utf8.encode (bits : Int))) ∧ Below w.heap.size w w' := fun w => rrune_any _ w
  generalize Utf8.encode (bits : Int) = E at *
  obtain ⟨B, C, D, g1, g2, g3, g4, g5, g6, g7⟩ := ename_pack A E hnz hez
  have hDz : D.size ≤ 1200 := by
    have h3 : (⟨#[32, 39]⟩ : ByteArray).size = 2 := rfl
    have h4 : (⟨#[39]⟩ : ByteArray).size = 1 := rfl
    rw [g7, app_size, app_size, app_size]; omega
  rw [← g7]
  clear g7
  have hPl : ∀ w, Calls Tryd.prog 42 #[.string D, .agg #[.bool p, .bool mi, .bool true, .bool sp, .bool z, .int .i64 wid, .int .i64 prec, .int .i32 85]] w fun e w' => e = .returned (.string (padS D mi false wid)) ∧ Below w.heap.size w w' := fun w => rplain_any _ p mi true sp z wid prec 85 w (by omega)
  generalize padS D mi false wid = rr at *
  clear e1 e4 hL4
  generalize digT true 16 bits = r2 at *
  generalize digT false 16 bits = r1 at *
  generalize wdE prec = k at *
  go_enter Tryd.func24, Tryd.ntmps24
  go_upto_if 41 with (first | (go_at_call 38; refine (hW _).mono ?_; rintro e w9 ⟨rfl, rfl⟩))
  go_cut [10] (fun l wx => wx = (w.alloc (.cells #[.bool p, .bool mi, .bool true, .bool sp, .bool z, .int .i64 wid, .int .i64 prec, .int .i32 85] 27)) ∧ l = .int .i64 (max 4 k))
  case first =>
    by_cases h4 : 4 < k
    · go_wp2_with (go_at_call 38; refine (hW _).mono ?_; rintro e w9 ⟨rfl, rfl⟩)
      go_meet
      exact ⟨rfl, by rw [show max 4 k = k by omega]⟩
    · go_wp2_with (go_at_call 38; refine (hW _).mono ?_; rintro e w9 ⟨rfl, rfl⟩)
      go_meet
      exact ⟨rfl, by rw [show max 4 k = 4 by omega]⟩
  case rest =>
    obtain ⟨rfl, rfl⟩ := hcut
    generalize max 4 k = k4 at *
    go_wp2_with (first | (go_at_call 10; refine (hD _).mono ?_; rintro e w9 ⟨rfl, rfl⟩) | (go_at_call 40; (first | refine (Cl.go (hG _)).mono ?_ | refine (Cl.go0 (hG _)).mono ?_); rintro e w9 ⟨y, rfl, rfl⟩) | (go_at_call 39; refine (hN _).mono ?_; rintro e w9 ⟨rfl, rfl⟩) | (go_at_call 41; refine (hPp _).mono ?_; rintro e w9 ⟨rfl, rfl⟩) | (go_at_call 35; (first | refine (Cl.go (hR _)).mono ?_ | refine (Cl.go0 (hR _)).mono ?_); rintro e w9 ⟨y, rfl, rfl⟩) | (go_at_call 42; (first | refine (Cl.go (hPl _)).mono ?_ | refine (Cl.go0 (hPl _)).mono ?_); rintro e w9 ⟨y, rfl, rfl⟩))
    go_ret2
    exact ⟨rfl, hbA.trans (y.below.mono hbA.size)⟩

theorem ewr_U (neg : Bool) (size bits : Nat) (p mi sh sp z : Bool) (wid prec : Int) (w : World) (hn : bits < 18446744073709551616) :
    Calls Tryd.prog 24 #[.bool neg, .int .u64 size, .int .u64 bits, .agg #[.bool p, .bool mi, .bool sh, .bool sp, .bool z, .int .i64 wid, .int .i64 prec, .int .i32 85]] w fun e w' => e = .returned (.tuple #[.string (padS (nameS bits sh prec) mi false wid), .bool true]) ∧ Below w.heap.size w w' := by
  cases sh with
  | false =>
    have e : nameS bits false prec = nameA bits prec := by unfold nameS; rw [if_neg (by simp)]
    rw [e]; exact ewr_U0 neg size bits p mi sp z wid prec w hn
  | true =>
    by_cases hb : 1114111 < bits
    · have e : nameS bits true prec = nameA bits prec := by
        have h1 : plainP ((ptN bits : Nat) : Int) = false := by
          unfold ptN; rw [if_pos hb]; decide
        unfold nameS; rw [h1, if_neg (by simp)]
      rw [e]; exact ewr_U1 neg size bits p mi sp z wid prec w hn hb
    · have ep : ptN bits = bits := by unfold ptN; rw [if_neg hb]
      cases hp : plainP (bits : Int) with
      | false =>
        have e : nameS bits true prec = nameA bits prec := by unfold nameS; rw [ep, hp, if_neg (by simp)]
        rw [e]; exact ewr_U2 neg size bits p mi sp z wid prec w hn (by omega) hp
      | true =>
        have e : nameS bits true prec = ((nameA bits prec ++ ⟨#[32, 39]⟩) ++ Utf8.encode (bits : Int)) ++ ⟨#[39]⟩ := by unfold nameS; rw [ep, hp, if_pos ⟨rfl, rfl⟩]
        rw [e]; exact ewr_U3 neg size bits p mi sp z wid prec w hn (by omega) hp
end Go.Proofs.YtnoelbomcogndabDoor
