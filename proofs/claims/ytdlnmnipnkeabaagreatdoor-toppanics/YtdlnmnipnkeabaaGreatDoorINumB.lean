/- The walks of package ints: numbers by a verb. -/
import Derived.Test.YtdlnmnipnkeabaaGreatDoorINumA
namespace Go.Proofs.YtdlnmnipnkeabaaGreatDoor
open Go.RowKit
set_option linter.unusedVariables false
theorem iupper_any (b n : Nat) (w : World) (hb : 2 ≤ b) (h16 : b ≤ 16) :
  Calls Tryz.prog 216 #[.string (digT false b n)] w fun e w' => e = .returned (.string (digT true b n)) ∧ Below w.heap.size w w' := by
 have hz := digT_size false b n
 have h := Tryz.strings_ToUpper_ascii (digT false b n) w (by omega) (fun j x hx => digS_ascii false b n (by omega) h16 x (List.mem_of_getElem? hx))
 have e : (⟨(Lib.toUpperA (digT false b n).data.toList).toArray⟩ : ByteArray) = digT true b n := by
  show (⟨(Lib.toUpperA (digS false b n)).toArray⟩ : ByteArray) = _
  rw [upperA_digS b n (by omega) h16]; rfl
 rw [e] at h
 exact h
theorem digBy_zero (b : Nat) (verb : Int) : digBy 0 b 0 verb = ⟨#[]⟩ := by simp [digBy]
theorem digBy_more (size b : Nat) (prec verb : Int) (h : ¬ (size = 0 ∧ prec = 0)) : digBy size b prec verb = lenS (digT (decide (verb = 88)) b size) (wdt prec : Nat) := by
 unfold digBy; rw [if_neg h]
theorem digBy_pos (size b : Nat) (prec verb : Int) (h : ¬ (size = 0 ∧ prec = 0)) : 0 < (digBy size b prec verb).size := by
 have h1 := digT_size (decide (verb = 88)) b size
 have h2 := lenS_size (digT (decide (verb = 88)) b size) (wdt prec : Nat)
 rw [digBy_more size b prec verb h]; omega
set_option maxRecDepth 1000000 in
set_option maxHeartbeats 1000000 in
theorem idigBy_any (size b : Nat) (p mi sh sp z : Bool) (wid prec verb : Int) (w : World) (hn : size < 18446744073709551616) (hb : b = 2 ∨ b = 8 ∨ b = 10 ∨ b = 16) :
  Calls Tryz.prog 275 #[.int .u64 size, .int .i64 b, .agg #[.bool p, .bool mi, .bool sh, .bool sp, .bool z, .int .i64 wid, .int .i64 prec, .int .i32 verb]] w fun e w' => e = .returned (.string (digBy size b prec verb)) ∧ Below w.heap.size w w' := by
 have hbA : Below w.heap.size w (w.alloc (.cells #[.bool p, .bool mi, .bool sh, .bool sp, .bool z, .int .i64 wid, .int .i64 prec, .int .i32 verb] 113)) := (Below.refl _ _).alloc (Nat.le_refl _) _
 have f0 : ∀ x : Cl (w.alloc (.cells #[.bool p, .bool mi, .bool sh, .bool sp, .bool z, .int .i64 wid, .int .i64 prec, .int .i32 verb] 113)), x.w.cell? ⟨w.heap.size, 0, none⟩ = some (.bool p) := fun x => x.cell (by simp)
 have f1 : ∀ x : Cl (w.alloc (.cells #[.bool p, .bool mi, .bool sh, .bool sp, .bool z, .int .i64 wid, .int .i64 prec, .int .i32 verb] 113)), x.w.cell? ⟨w.heap.size, 1, none⟩ = some (.bool mi) := fun x => x.cell (by simp)
 have f2 : ∀ x : Cl (w.alloc (.cells #[.bool p, .bool mi, .bool sh, .bool sp, .bool z, .int .i64 wid, .int .i64 prec, .int .i32 verb] 113)), x.w.cell? ⟨w.heap.size, 2, none⟩ = some (.bool sh) := fun x => x.cell (by simp)
 have f3 : ∀ x : Cl (w.alloc (.cells #[.bool p, .bool mi, .bool sh, .bool sp, .bool z, .int .i64 wid, .int .i64 prec, .int .i32 verb] 113)), x.w.cell? ⟨w.heap.size, 3, none⟩ = some (.bool sp) := fun x => x.cell (by simp)
 have f4 : ∀ x : Cl (w.alloc (.cells #[.bool p, .bool mi, .bool sh, .bool sp, .bool z, .int .i64 wid, .int .i64 prec, .int .i32 verb] 113)), x.w.cell? ⟨w.heap.size, 4, none⟩ = some (.bool z) := fun x => x.cell (by simp)
 have f5 : ∀ x : Cl (w.alloc (.cells #[.bool p, .bool mi, .bool sh, .bool sp, .bool z, .int .i64 wid, .int .i64 prec, .int .i32 verb] 113)), x.w.cell? ⟨w.heap.size, 5, none⟩ = some (.int .i64 wid) := fun x => x.cell (by simp)
 have f6 : ∀ x : Cl (w.alloc (.cells #[.bool p, .bool mi, .bool sh, .bool sp, .bool z, .int .i64 wid, .int .i64 prec, .int .i32 verb] 113)), x.w.cell? ⟨w.heap.size, 6, none⟩ = some (.int .i64 prec) := fun x => x.cell (by simp)
 have f7 : ∀ x : Cl (w.alloc (.cells #[.bool p, .bool mi, .bool sh, .bool sp, .bool z, .int .i64 wid, .int .i64 prec, .int .i32 verb] 113)), x.w.cell? ⟨w.heap.size, 7, none⟩ = some (.int .i32 verb) := fun x => x.cell (by simp)
 by_cases h0 : size = 0 ∧ prec = 0
 ·obtain ⟨rfl, rfl⟩ := h0
  rw [digBy_zero]
  go_enter Tryz.func275, Tryz.ntmps275
  go_wp2
  go_ret
  exact ⟨rfl, hbA⟩
 ·rw [digBy_more size b prec verb h0]
  have hz1 := digT_size false b size
  have hz2 := digT_size true b size
  have hwd := wdt_le prec
  have hD : ∀ w, Calls Tryz.prog 272 #[.int .u64 size, .int .i64 b] w fun e w' => e = .returned (.string (digT false b size)) ∧ Below w.heap.size w w' := fun w => idigits_any size b w hn hb
  have hU : ∀ w, Calls Tryz.prog 216 #[.string (digT false b size)] w fun e w' => e = .returned (.string (digT true b size)) ∧ Below w.heap.size w w' := fun w => iupper_any b size w (by omega) (by omega)
  have hL := ilimit_any prec
  have hN0 : ∀ w, Calls Tryz.prog 273 #[.string (digT false b size), .int .i64 (wdt prec : Nat)] w fun e w' => e = .returned (.string (lenS (digT false b size) (wdt prec : Nat))) ∧ Below w.heap.size w w' := fun w => ilengthen_any _ _ w (by omega) (by omega) (by omega)
  have hN1 : ∀ w, Calls Tryz.prog 273 #[.string (digT true b size), .int .i64 (wdt prec : Nat)] w fun e w' => e = .returned (.string (lenS (digT true b size) (wdt prec : Nat))) ∧ Below w.heap.size w w' := fun w => ilengthen_any _ _ w (by omega) (by omega) (by omega)
  clear hb hz1 hz2
  have hs0 : size = 0 → ¬ prec = 0 := fun h1 h2 => h0 ⟨h1, h2⟩
  clear h0
  by_cases hv : verb = 88
  ·subst hv
   rw [show decide ((88 : Int) = 88) = true from rfl]
   clear hN0
   generalize lenS (digT true b size) (wdt prec : Nat) = r3 at *
   generalize digT true b size = r2 at *
   generalize digT false b size = r1 at *
   generalize wdt prec = k at *
   by_cases h1 : size = 0
   ·have h2 := hs0 h1
    subst h1
    go_enter Tryz.func275, Tryz.ntmps275
    go_wp2_with (first | (go_at_call 272; (first | refine (Cl.go (hD _)).mono ?_ | refine (Cl.go0 (hD _)).mono ?_); rintro e w9 ⟨y, rfl, rfl⟩) | (go_at_call 216; (first | refine (Cl.go (hU _)).mono ?_ | refine (Cl.go0 (hU _)).mono ?_); rintro e w9 ⟨y, rfl, rfl⟩) | (go_at_call 274; refine (hL _).mono ?_; rintro e w9 ⟨rfl, rfl⟩) | (go_at_call 273; (first | refine (Cl.go (hN1 _)).mono ?_ | refine (Cl.go0 (hN1 _)).mono ?_); rintro e w9 ⟨y, rfl, rfl⟩))
    go_ret
    exact ⟨rfl, hbA.trans (y.below.mono hbA.size)⟩
   ·have h1' : ¬ (size : Int) = 0 := by omega
    go_enter Tryz.func275, Tryz.ntmps275
    go_wp2_with (first | (go_at_call 272; (first | refine (Cl.go (hD _)).mono ?_ | refine (Cl.go0 (hD _)).mono ?_); rintro e w9 ⟨y, rfl, rfl⟩) | (go_at_call 216; (first | refine (Cl.go (hU _)).mono ?_ | refine (Cl.go0 (hU _)).mono ?_); rintro e w9 ⟨y, rfl, rfl⟩) | (go_at_call 274; refine (hL _).mono ?_; rintro e w9 ⟨rfl, rfl⟩) | (go_at_call 273; (first | refine (Cl.go (hN1 _)).mono ?_ | refine (Cl.go0 (hN1 _)).mono ?_); rintro e w9 ⟨y, rfl, rfl⟩))
    go_ret
    exact ⟨rfl, hbA.trans (y.below.mono hbA.size)⟩
  ·rw [show decide (verb = 88) = false by simp [hv]]
   clear hN1
   generalize lenS (digT false b size) (wdt prec : Nat) = r3 at *
   generalize digT true b size = r2 at *
   generalize digT false b size = r1 at *
   generalize wdt prec = k at *
   by_cases h1 : size = 0
   ·have h2 := hs0 h1
    subst h1
    go_enter Tryz.func275, Tryz.ntmps275
    go_wp2_with (first | (go_at_call 272; (first | refine (Cl.go (hD _)).mono ?_ | refine (Cl.go0 (hD _)).mono ?_); rintro e w9 ⟨y, rfl, rfl⟩) | (go_at_call 274; refine (hL _).mono ?_; rintro e w9 ⟨rfl, rfl⟩) | (go_at_call 273; (first | refine (Cl.go (hN0 _)).mono ?_ | refine (Cl.go0 (hN0 _)).mono ?_); rintro e w9 ⟨y, rfl, rfl⟩))
    go_ret
    exact ⟨rfl, hbA.trans (y.below.mono hbA.size)⟩
   ·have h1' : ¬ (size : Int) = 0 := by omega
    go_enter Tryz.func275, Tryz.ntmps275
    go_wp2_with (first | (go_at_call 272; (first | refine (Cl.go (hD _)).mono ?_ | refine (Cl.go0 (hD _)).mono ?_); rintro e w9 ⟨y, rfl, rfl⟩) | (go_at_call 274; refine (hL _).mono ?_; rintro e w9 ⟨rfl, rfl⟩) | (go_at_call 273; (first | refine (Cl.go (hN0 _)).mono ?_ | refine (Cl.go0 (hN0 _)).mono ?_); rintro e w9 ⟨y, rfl, rfl⟩))
    go_ret
    exact ⟨rfl, hbA.trans (y.below.mono hbA.size)⟩
theorem name_pack (bits : Nat) (prec : Int) : ∃ A L : ByteArray, lenS (digT true 16 bits) (max 4 (wdt prec : Nat)) = L ∧ (⟨#[85, 43]⟩ : ByteArray) ++ L = A ∧ ¬ 9223372036854775807 < (⟨#[85, 43]⟩ : ByteArray).size + L.size ∧ nameA bits prec = A := by
 have h1 := digT_size true 16 bits
 have h2 := lenS_size (digT true 16 bits) (max 4 (wdt prec : Nat))
 have h3 : (⟨#[85, 43]⟩ : ByteArray).size = 2 := rfl
 exact ⟨_, _, rfl, rfl, by omega, rfl⟩
theorem name_pack2 (A E : ByteArray) (hA : A.size ≤ 1100) (hE : E.size ≤ 4) : ∃ B C D : ByteArray, A ++ (⟨#[32, 39]⟩ : ByteArray) = B ∧ B ++ E = C ∧ C ++ (⟨#[39]⟩ : ByteArray) = D ∧ ¬ 9223372036854775807 < A.size + (⟨#[32, 39]⟩ : ByteArray).size ∧ ¬ 9223372036854775807 < B.size + E.size ∧ ¬ 9223372036854775807 < C.size + (⟨#[39]⟩ : ByteArray).size ∧ D = ((A ++ ⟨#[32, 39]⟩) ++ E) ++ ⟨#[39]⟩ := by
 have h3 : (⟨#[32, 39]⟩ : ByteArray).size = 2 := rfl
 have h4 : (⟨#[39]⟩ : ByteArray).size = 1 := rfl
 refine ⟨_, _, _, rfl, rfl, rfl, ?_, ?_, ?_, rfl⟩
 ·omega
 ·rw [app_size]; omega
 ·rw [app_size, app_size]; omega
set_option maxRecDepth 1000000 in
set_option maxHeartbeats 1000000 in
theorem iname_0 (bits : Nat) (p mi sp z : Bool) (wid prec verb : Int) (w : World) (hn : bits < 18446744073709551616) :
  Calls Tryz.prog 247 #[.int .u64 bits, .agg #[.bool p, .bool mi, .bool false, .bool sp, .bool z, .int .i64 wid, .int .i64 prec, .int .i32 verb]] w fun e w' => e = .returned (.string (nameA bits prec)) ∧ Below w.heap.size w w' := by
 have hbA : Below w.heap.size w (w.alloc (.cells #[.bool p, .bool mi, .bool false, .bool sp, .bool z, .int .i64 wid, .int .i64 prec, .int .i32 verb] 113)) := (Below.refl _ _).alloc (Nat.le_refl _) _
 have f0 : ∀ x : Cl (w.alloc (.cells #[.bool p, .bool mi, .bool false, .bool sp, .bool z, .int .i64 wid, .int .i64 prec, .int .i32 verb] 113)), x.w.cell? ⟨w.heap.size, 0, none⟩ = some (.bool p) := fun x => x.cell (by simp)
 have f1 : ∀ x : Cl (w.alloc (.cells #[.bool p, .bool mi, .bool false, .bool sp, .bool z, .int .i64 wid, .int .i64 prec, .int .i32 verb] 113)), x.w.cell? ⟨w.heap.size, 1, none⟩ = some (.bool mi) := fun x => x.cell (by simp)
 have f2 : ∀ x : Cl (w.alloc (.cells #[.bool p, .bool mi, .bool false, .bool sp, .bool z, .int .i64 wid, .int .i64 prec, .int .i32 verb] 113)), x.w.cell? ⟨w.heap.size, 2, none⟩ = some (.bool false) := fun x => x.cell (by simp)
 have f3 : ∀ x : Cl (w.alloc (.cells #[.bool p, .bool mi, .bool false, .bool sp, .bool z, .int .i64 wid, .int .i64 prec, .int .i32 verb] 113)), x.w.cell? ⟨w.heap.size, 3, none⟩ = some (.bool sp) := fun x => x.cell (by simp)
 have f4 : ∀ x : Cl (w.alloc (.cells #[.bool p, .bool mi, .bool false, .bool sp, .bool z, .int .i64 wid, .int .i64 prec, .int .i32 verb] 113)), x.w.cell? ⟨w.heap.size, 4, none⟩ = some (.bool z) := fun x => x.cell (by simp)
 have f5 : ∀ x : Cl (w.alloc (.cells #[.bool p, .bool mi, .bool false, .bool sp, .bool z, .int .i64 wid, .int .i64 prec, .int .i32 verb] 113)), x.w.cell? ⟨w.heap.size, 5, none⟩ = some (.int .i64 wid) := fun x => x.cell (by simp)
 have f6 : ∀ x : Cl (w.alloc (.cells #[.bool p, .bool mi, .bool false, .bool sp, .bool z, .int .i64 wid, .int .i64 prec, .int .i32 verb] 113)), x.w.cell? ⟨w.heap.size, 6, none⟩ = some (.int .i64 prec) := fun x => x.cell (by simp)
 have f7 : ∀ x : Cl (w.alloc (.cells #[.bool p, .bool mi, .bool false, .bool sp, .bool z, .int .i64 wid, .int .i64 prec, .int .i32 verb] 113)), x.w.cell? ⟨w.heap.size, 7, none⟩ = some (.int .i32 verb) := fun x => x.cell (by simp)
 have hwd := wdt_le prec
 have hz := digT_size true 16 bits
 have hnz := nameA_size bits prec
 have hez := enc_size4 (ptN bits)
 have hD : ∀ w, Calls Tryz.prog 272 #[.int .u64 bits, .int .i64 16] w fun e w' => e = .returned (.string (digT false 16 bits)) ∧ Below w.heap.size w w' := fun w => idigits_any bits 16 w hn (by omega)
 have hU : ∀ w, Calls Tryz.prog 216 #[.string (digT false 16 bits)] w fun e w' => e = .returned (.string (digT true 16 bits)) ∧ Below w.heap.size w w' := fun w => iupper_any 16 bits w (by omega) (by omega)
 have hL := ilimit_any prec
 have hP : ∀ w, Calls Tryz.prog 244 #[.int .u64 bits] w fun e w' => e = .returned (.int .i32 (ptN bits : Nat)) ∧ w' = w := fun w => ipoint_any bits w hn
 have hN : ∀ w, Calls Tryz.prog 273 #[.string (digT true 16 bits), .int .i64 (max 4 (wdt prec : Nat))] w fun e w' => e = .returned (.string (lenS (digT true 16 bits) (max 4 (wdt prec : Nat)))) ∧ Below w.heap.size w w' := fun w => ilengthen_any _ _ w (by omega) (by omega) (by omega)
 have hR := rune_any (ptN bits : Nat)
 have hPl := plain_any (ptN bits : Nat)
 obtain ⟨A, L, e1, e2, e3, e4⟩ := name_pack bits prec
 rw [e4]
 rw [e1] at hN
 clear e1 e4 hnz hez hPl hR
 generalize digT true 16 bits = r2 at *
 generalize digT false 16 bits = r1 at *
 generalize wdt prec = k at *
 generalize ptN bits = c at *
 go_enter Tryz.func247, Tryz.ntmps247
 go_wp2_with (first | (go_at_call 272; (first | refine (Cl.go (hD _)).mono ?_ | refine (Cl.go0 (hD _)).mono ?_); rintro e w9 ⟨y, rfl, rfl⟩) | (go_at_call 216; (first | refine (Cl.go (hU _)).mono ?_ | refine (Cl.go0 (hU _)).mono ?_); rintro e w9 ⟨y, rfl, rfl⟩) | (go_at_call 274; refine (hL _).mono ?_; rintro e w9 ⟨rfl, rfl⟩) | (go_at_call 273; (first | refine (Cl.go (hN _)).mono ?_ | refine (Cl.go0 (hN _)).mono ?_); rintro e w9 ⟨y, rfl, rfl⟩) | (go_at_call 244; refine (hP _).mono ?_; rintro e w9 ⟨rfl, rfl⟩))
 go_ret
 exact ⟨rfl, hbA.trans (y.below.mono hbA.size)⟩
set_option maxRecDepth 1000000 in
set_option maxHeartbeats 1000000 in
theorem iname_1 (bits : Nat) (p mi sp z : Bool) (wid prec verb : Int) (w : World) (hn : bits < 18446744073709551616) (hpl : plainP (ptN bits : Nat) = false) :
  Calls Tryz.prog 247 #[.int .u64 bits, .agg #[.bool p, .bool mi, .bool true, .bool sp, .bool z, .int .i64 wid, .int .i64 prec, .int .i32 verb]] w fun e w' => e = .returned (.string (nameA bits prec)) ∧ Below w.heap.size w w' := by
 have hbA : Below w.heap.size w (w.alloc (.cells #[.bool p, .bool mi, .bool true, .bool sp, .bool z, .int .i64 wid, .int .i64 prec, .int .i32 verb] 113)) := (Below.refl _ _).alloc (Nat.le_refl _) _
 have f0 : ∀ x : Cl (w.alloc (.cells #[.bool p, .bool mi, .bool true, .bool sp, .bool z, .int .i64 wid, .int .i64 prec, .int .i32 verb] 113)), x.w.cell? ⟨w.heap.size, 0, none⟩ = some (.bool p) := fun x => x.cell (by simp)
 have f1 : ∀ x : Cl (w.alloc (.cells #[.bool p, .bool mi, .bool true, .bool sp, .bool z, .int .i64 wid, .int .i64 prec, .int .i32 verb] 113)), x.w.cell? ⟨w.heap.size, 1, none⟩ = some (.bool mi) := fun x => x.cell (by simp)
 have f2 : ∀ x : Cl (w.alloc (.cells #[.bool p, .bool mi, .bool true, .bool sp, .bool z, .int .i64 wid, .int .i64 prec, .int .i32 verb] 113)), x.w.cell? ⟨w.heap.size, 2, none⟩ = some (.bool true) := fun x => x.cell (by simp)
 have f3 : ∀ x : Cl (w.alloc (.cells #[.bool p, .bool mi, .bool true, .bool sp, .bool z, .int .i64 wid, .int .i64 prec, .int .i32 verb] 113)), x.w.cell? ⟨w.heap.size, 3, none⟩ = some (.bool sp) := fun x => x.cell (by simp)
 have f4 : ∀ x : Cl (w.alloc (.cells #[.bool p, .bool mi, .bool true, .bool sp, .bool z, .int .i64 wid, .int .i64 prec, .int .i32 verb] 113)), x.w.cell? ⟨w.heap.size, 4, none⟩ = some (.bool z) := fun x => x.cell (by simp)
 have f5 : ∀ x : Cl (w.alloc (.cells #[.bool p, .bool mi, .bool true, .bool sp, .bool z, .int .i64 wid, .int .i64 prec, .int .i32 verb] 113)), x.w.cell? ⟨w.heap.size, 5, none⟩ = some (.int .i64 wid) := fun x => x.cell (by simp)
 have f6 : ∀ x : Cl (w.alloc (.cells #[.bool p, .bool mi, .bool true, .bool sp, .bool z, .int .i64 wid, .int .i64 prec, .int .i32 verb] 113)), x.w.cell? ⟨w.heap.size, 6, none⟩ = some (.int .i64 prec) := fun x => x.cell (by simp)
 have f7 : ∀ x : Cl (w.alloc (.cells #[.bool p, .bool mi, .bool true, .bool sp, .bool z, .int .i64 wid, .int .i64 prec, .int .i32 verb] 113)), x.w.cell? ⟨w.heap.size, 7, none⟩ = some (.int .i32 verb) := fun x => x.cell (by simp)
 have hwd := wdt_le prec
 have hz := digT_size true 16 bits
 have hnz := nameA_size bits prec
 have hez := enc_size4 (ptN bits)
 have hD : ∀ w, Calls Tryz.prog 272 #[.int .u64 bits, .int .i64 16] w fun e w' => e = .returned (.string (digT false 16 bits)) ∧ Below w.heap.size w w' := fun w => idigits_any bits 16 w hn (by omega)
 have hU : ∀ w, Calls Tryz.prog 216 #[.string (digT false 16 bits)] w fun e w' => e = .returned (.string (digT true 16 bits)) ∧ Below w.heap.size w w' := fun w => iupper_any 16 bits w (by omega) (by omega)
 have hL := ilimit_any prec
 have hP : ∀ w, Calls Tryz.prog 244 #[.int .u64 bits] w fun e w' => e = .returned (.int .i32 (ptN bits : Nat)) ∧ w' = w := fun w => ipoint_any bits w hn
 have hN : ∀ w, Calls Tryz.prog 273 #[.string (digT true 16 bits), .int .i64 (max 4 (wdt prec : Nat))] w fun e w' => e = .returned (.string (lenS (digT true 16 bits) (max 4 (wdt prec : Nat)))) ∧ Below w.heap.size w w' := fun w => ilengthen_any _ _ w (by omega) (by omega) (by omega)
 have hR := rune_any (ptN bits : Nat)
 have hPl := plain_any (ptN bits : Nat)
 obtain ⟨A, L, e1, e2, e3, e4⟩ := name_pack bits prec
 rw [e4]
 rw [e4] at hnz
 rw [e1] at hN
 rw [hpl] at hPl
 clear e1 e4 hpl hez hR
 generalize digT true 16 bits = r2 at *
 generalize digT false 16 bits = r1 at *
 generalize wdt prec = k at *
 generalize ptN bits = c at *
 go_enter Tryz.func247, Tryz.ntmps247
 go_wp2_with (first | (go_at_call 272; (first | refine (Cl.go (hD _)).mono ?_ | refine (Cl.go0 (hD _)).mono ?_); rintro e w9 ⟨y, rfl, rfl⟩) | (go_at_call 216; (first | refine (Cl.go (hU _)).mono ?_ | refine (Cl.go0 (hU _)).mono ?_); rintro e w9 ⟨y, rfl, rfl⟩) | (go_at_call 274; refine (hL _).mono ?_; rintro e w9 ⟨rfl, rfl⟩) | (go_at_call 273; (first | refine (Cl.go (hN _)).mono ?_ | refine (Cl.go0 (hN _)).mono ?_); rintro e w9 ⟨y, rfl, rfl⟩) | (go_at_call 244; refine (hP _).mono ?_; rintro e w9 ⟨rfl, rfl⟩) | (go_at_call 205; refine (hPl _).mono ?_; rintro e w9 ⟨rfl, rfl⟩))
 go_ret
 exact ⟨rfl, hbA.trans (y.below.mono hbA.size)⟩
set_option maxRecDepth 1000000 in
set_option maxHeartbeats 1000000 in
theorem iname_2 (bits : Nat) (p mi sp z : Bool) (wid prec verb : Int) (w : World) (hn : bits < 18446744073709551616) (hpl : plainP (ptN bits : Nat) = true) :
  Calls Tryz.prog 247 #[.int .u64 bits, .agg #[.bool p, .bool mi, .bool true, .bool sp, .bool z, .int .i64 wid, .int .i64 prec, .int .i32 verb]] w fun e w' => e = .returned (.string (((nameA bits prec ++ ⟨#[32, 39]⟩) ++ Utf8.encode ((ptN bits : Nat) : Int)) ++ ⟨#[39]⟩)) ∧ Below w.heap.size w w' := by
 have hbA : Below w.heap.size w (w.alloc (.cells #[.bool p, .bool mi, .bool true, .bool sp, .bool z, .int .i64 wid, .int .i64 prec, .int .i32 verb] 113)) := (Below.refl _ _).alloc (Nat.le_refl _) _
 have f0 : ∀ x : Cl (w.alloc (.cells #[.bool p, .bool mi, .bool true, .bool sp, .bool z, .int .i64 wid, .int .i64 prec, .int .i32 verb] 113)), x.w.cell? ⟨w.heap.size, 0, none⟩ = some (.bool p) := fun x => x.cell (by simp)
 have f1 : ∀ x : Cl (w.alloc (.cells #[.bool p, .bool mi, .bool true, .bool sp, .bool z, .int .i64 wid, .int .i64 prec, .int .i32 verb] 113)), x.w.cell? ⟨w.heap.size, 1, none⟩ = some (.bool mi) := fun x => x.cell (by simp)
 have f2 : ∀ x : Cl (w.alloc (.cells #[.bool p, .bool mi, .bool true, .bool sp, .bool z, .int .i64 wid, .int .i64 prec, .int .i32 verb] 113)), x.w.cell? ⟨w.heap.size, 2, none⟩ = some (.bool true) := fun x => x.cell (by simp)
 have f3 : ∀ x : Cl (w.alloc (.cells #[.bool p, .bool mi, .bool true, .bool sp, .bool z, .int .i64 wid, .int .i64 prec, .int .i32 verb] 113)), x.w.cell? ⟨w.heap.size, 3, none⟩ = some (.bool sp) := fun x => x.cell (by simp)
 have f4 : ∀ x : Cl (w.alloc (.cells #[.bool p, .bool mi, .bool true, .bool sp, .bool z, .int .i64 wid, .int .i64 prec, .int .i32 verb] 113)), x.w.cell? ⟨w.heap.size, 4, none⟩ = some (.bool z) := fun x => x.cell (by simp)
 have f5 : ∀ x : Cl (w.alloc (.cells #[.bool p, .bool mi, .bool true, .bool sp, .bool z, .int .i64 wid, .int .i64 prec, .int .i32 verb] 113)), x.w.cell? ⟨w.heap.size, 5, none⟩ = some (.int .i64 wid) := fun x => x.cell (by simp)
 have f6 : ∀ x : Cl (w.alloc (.cells #[.bool p, .bool mi, .bool true, .bool sp, .bool z, .int .i64 wid, .int .i64 prec, .int .i32 verb] 113)), x.w.cell? ⟨w.heap.size, 6, none⟩ = some (.int .i64 prec) := fun x => x.cell (by simp)
 have f7 : ∀ x : Cl (w.alloc (.cells #[.bool p, .bool mi, .bool true, .bool sp, .bool z, .int .i64 wid, .int .i64 prec, .int .i32 verb] 113)), x.w.cell? ⟨w.heap.size, 7, none⟩ = some (.int .i32 verb) := fun x => x.cell (by simp)
 have hwd := wdt_le prec
 have hz := digT_size true 16 bits
 have hnz := nameA_size bits prec
 have hez := enc_size4 (ptN bits)
 have hD : ∀ w, Calls Tryz.prog 272 #[.int .u64 bits, .int .i64 16] w fun e w' => e = .returned (.string (digT false 16 bits)) ∧ Below w.heap.size w w' := fun w => idigits_any bits 16 w hn (by omega)
 have hU : ∀ w, Calls Tryz.prog 216 #[.string (digT false 16 bits)] w fun e w' => e = .returned (.string (digT true 16 bits)) ∧ Below w.heap.size w w' := fun w => iupper_any 16 bits w (by omega) (by omega)
 have hL := ilimit_any prec
 have hP : ∀ w, Calls Tryz.prog 244 #[.int .u64 bits] w fun e w' => e = .returned (.int .i32 (ptN bits : Nat)) ∧ w' = w := fun w => ipoint_any bits w hn
 have hN : ∀ w, Calls Tryz.prog 273 #[.string (digT true 16 bits), .int .i64 (max 4 (wdt prec : Nat))] w fun e w' => e = .returned (.string (lenS (digT true 16 bits) (max 4 (wdt prec : Nat)))) ∧ Below w.heap.size w w' := fun w => ilengthen_any _ _ w (by omega) (by omega) (by omega)
 have hR := rune_any (ptN bits : Nat)
 have hPl := plain_any (ptN bits : Nat)
 obtain ⟨A, L, e1, e2, e3, e4⟩ := name_pack bits prec
 rw [e4]
 rw [e4] at hnz
 rw [e1] at hN
 rw [hpl] at hPl
 clear e1 e4 hpl
 generalize Utf8.encode ((ptN bits : Nat) : Int) = E at *
 obtain ⟨B, C, D, g1, g2, g3, g4, g5, g6, g7⟩ := name_pack2 A E hnz hez
 rw [← g7]
 clear g7
 generalize digT true 16 bits = r2 at *
 generalize digT false 16 bits = r1 at *
 generalize wdt prec = k at *
 generalize ptN bits = c at *
 go_enter Tryz.func247, Tryz.ntmps247
 go_wp2_with (first | (go_at_call 272; (first | refine (Cl.go (hD _)).mono ?_ | refine (Cl.go0 (hD _)).mono ?_); rintro e w9 ⟨y, rfl, rfl⟩) | (go_at_call 216; (first | refine (Cl.go (hU _)).mono ?_ | refine (Cl.go0 (hU _)).mono ?_); rintro e w9 ⟨y, rfl, rfl⟩) | (go_at_call 274; refine (hL _).mono ?_; rintro e w9 ⟨rfl, rfl⟩) | (go_at_call 273; (first | refine (Cl.go (hN _)).mono ?_ | refine (Cl.go0 (hN _)).mono ?_); rintro e w9 ⟨y, rfl, rfl⟩) | (go_at_call 244; refine (hP _).mono ?_; rintro e w9 ⟨rfl, rfl⟩) | (go_at_call 10; refine (hR _).mono ?_; rintro e w9 ⟨rfl, rfl⟩) | (go_at_call 205; refine (hPl _).mono ?_; rintro e w9 ⟨rfl, rfl⟩))
 go_ret
 exact ⟨rfl, hbA.trans (y.below.mono hbA.size)⟩
theorem iname_any (bits : Nat) (p mi sh sp z : Bool) (wid prec verb : Int) (w : World) (hn : bits < 18446744073709551616) :
  Calls Tryz.prog 247 #[.int .u64 bits, .agg #[.bool p, .bool mi, .bool sh, .bool sp, .bool z, .int .i64 wid, .int .i64 prec, .int .i32 verb]] w fun e w' => e = .returned (.string (nameS bits sh prec)) ∧ Below w.heap.size w w' := by
 cases sh with
 | false =>
   have e : nameS bits false prec = nameA bits prec := by unfold nameS; rw [if_neg (by simp)]
   rw [e]; exact iname_0 bits p mi sp z wid prec verb w hn
 | true =>
   cases hp : plainP (ptN bits : Nat) with
   | false =>
     have e : nameS bits true prec = nameA bits prec := by unfold nameS; rw [hp, if_neg (by simp)]
     rw [e]; exact iname_1 bits p mi sp z wid prec verb w hn hp
   | true =>
     have e : nameS bits true prec = ((nameA bits prec ++ ⟨#[32, 39]⟩) ++ Utf8.encode ((ptN bits : Nat) : Int)) ++ ⟨#[39]⟩ := by unfold nameS; rw [hp, if_pos ⟨rfl, rfl⟩]
     rw [e]; exact iname_2 bits p mi sp z wid prec verb w hn hp
theorem based_pack (sign m d2 : ByteArray) (hs : sign.size ≤ 1) (hm : m.size ≤ 2) : ∃ A : ByteArray, sign ++ m = A ∧ A.size ≤ 3 ∧ ¬ 9223372036854775807 < sign.size + m.size := by
 refine ⟨_, rfl, by rw [app_size]; omega, by omega⟩
set_option maxRecDepth 1000000 in
set_option maxHeartbeats 1000000 in
theorem ibased_0 (b : Nat) (sign : ByteArray) (p mi sh sp z : Bool) (wid prec verb : Int) (w : World) (hb : b = 2 ∨ b = 8 ∨ b = 10 ∨ b = 16) (hp0 : prec = 0) :
  Calls Tryz.prog 249 #[.int .u64 0, .int .i64 b, .string sign, .agg #[.bool p, .bool mi, .bool sh, .bool sp, .bool z, .int .i64 wid, .int .i64 prec, .int .i32 verb]] w fun e w' => e = .returned (.string (padS ⟨#[]⟩ mi false wid)) ∧ Below w.heap.size w w' := by
 subst hp0
 have hbA : Below w.heap.size w (w.alloc (.cells #[.bool p, .bool mi, .bool sh, .bool sp, .bool z, .int .i64 wid, .int .i64 0, .int .i32 verb] 113)) := (Below.refl _ _).alloc (Nat.le_refl _) _
 have f0 : ∀ x : Cl (w.alloc (.cells #[.bool p, .bool mi, .bool sh, .bool sp, .bool z, .int .i64 wid, .int .i64 0, .int .i32 verb] 113)), x.w.cell? ⟨w.heap.size, 0, none⟩ = some (.bool p) := fun x => x.cell (by simp)
 have f1 : ∀ x : Cl (w.alloc (.cells #[.bool p, .bool mi, .bool sh, .bool sp, .bool z, .int .i64 wid, .int .i64 0, .int .i32 verb] 113)), x.w.cell? ⟨w.heap.size, 1, none⟩ = some (.bool mi) := fun x => x.cell (by simp)
 have f2 : ∀ x : Cl (w.alloc (.cells #[.bool p, .bool mi, .bool sh, .bool sp, .bool z, .int .i64 wid, .int .i64 0, .int .i32 verb] 113)), x.w.cell? ⟨w.heap.size, 2, none⟩ = some (.bool sh) := fun x => x.cell (by simp)
 have f3 : ∀ x : Cl (w.alloc (.cells #[.bool p, .bool mi, .bool sh, .bool sp, .bool z, .int .i64 wid, .int .i64 0, .int .i32 verb] 113)), x.w.cell? ⟨w.heap.size, 3, none⟩ = some (.bool sp) := fun x => x.cell (by simp)
 have f4 : ∀ x : Cl (w.alloc (.cells #[.bool p, .bool mi, .bool sh, .bool sp, .bool z, .int .i64 wid, .int .i64 0, .int .i32 verb] 113)), x.w.cell? ⟨w.heap.size, 4, none⟩ = some (.bool z) := fun x => x.cell (by simp)
 have f5 : ∀ x : Cl (w.alloc (.cells #[.bool p, .bool mi, .bool sh, .bool sp, .bool z, .int .i64 wid, .int .i64 0, .int .i32 verb] 113)), x.w.cell? ⟨w.heap.size, 5, none⟩ = some (.int .i64 wid) := fun x => x.cell (by simp)
 have f6 : ∀ x : Cl (w.alloc (.cells #[.bool p, .bool mi, .bool sh, .bool sp, .bool z, .int .i64 wid, .int .i64 0, .int .i32 verb] 113)), x.w.cell? ⟨w.heap.size, 6, none⟩ = some (.int .i64 0) := fun x => x.cell (by simp)
 have f7 : ∀ x : Cl (w.alloc (.cells #[.bool p, .bool mi, .bool sh, .bool sp, .bool z, .int .i64 wid, .int .i64 0, .int .i32 verb] 113)), x.w.cell? ⟨w.heap.size, 7, none⟩ = some (.int .i32 verb) := fun x => x.cell (by simp)
 have hD : ∀ w, Calls Tryz.prog 275 #[.int .u64 0, .int .i64 b, .agg #[.bool p, .bool mi, .bool sh, .bool sp, .bool z, .int .i64 wid, .int .i64 0, .int .i32 verb]] w fun e w' => e = .returned (.string ⟨#[]⟩) ∧ Below w.heap.size w w' := fun w => by
  have := idigBy_any 0 b p mi sh sp z wid 0 verb w (by omega) hb
  rw [digBy_zero] at this
  exact this
 have hP : ∀ w, Calls Tryz.prog 246 #[.string ⟨#[]⟩, .agg #[.bool p, .bool mi, .bool sh, .bool sp, .bool z, .int .i64 wid, .int .i64 0, .int .i32 verb]] w fun e w' => e = .returned (.string (padS ⟨#[]⟩ mi false wid)) ∧ Below w.heap.size w w' := fun w => ipad_any _ p mi sh sp z wid 0 verb w (by decide)
 generalize padS ⟨#[]⟩ mi false wid = r at *
 clear hb
 go_enter Tryz.func249, Tryz.ntmps249
 go_wp2_with (first | (go_at_call 275; (first | refine (Cl.go (hD _)).mono ?_ | refine (Cl.go0 (hD _)).mono ?_); rintro e w9 ⟨y, rfl, rfl⟩) | (go_at_call 246; (first | refine (Cl.go (hP _)).mono ?_ | refine (Cl.go0 (hP _)).mono ?_); rintro e w9 ⟨y, rfl, rfl⟩))
 go_ret
 exact ⟨rfl, hbA.trans (y.below.mono hbA.size)⟩
set_option maxRecDepth 1000000 in
set_option maxHeartbeats 1000000 in
theorem ibased_1 (size b : Nat) (sign : ByteArray) (p mi sh sp z : Bool) (wid prec verb : Int) (w : World) (hn : size < 18446744073709551616) (hb : b = 2 ∨ b = 8 ∨ b = 10 ∨ b = 16) (hs : sign.size ≤ 1) (h0 : ¬ (size = 0 ∧ prec = 0)) :
  Calls Tryz.prog 249 #[.int .u64 size, .int .i64 b, .string sign, .agg #[.bool p, .bool mi, .bool sh, .bool sp, .bool z, .int .i64 wid, .int .i64 prec, .int .i32 verb]] w fun e w' => e = .returned (.string (padS (coreB size b sign mi sh z wid prec verb) mi false wid)) ∧ Below w.heap.size w w' := by
 have hd0 := digBy_pos size b prec verb h0
 have hcz := coreB_size size b sign mi sh z wid prec verb hs
 have hcore : coreB size b sign mi sh z wid prec verb = (sign ++ markB (digBy size b prec verb) sh verb) ++ widD (digBy size b prec verb) (sign ++ markB (digBy size b prec verb) sh verb).size mi z wid prec := by
  unfold coreB; rw [if_neg (by omega)]
 have hdz := digBy_size size b prec verb
 have hmz := markB_size (digBy size b prec verb) sh verb
 have hbA : Below w.heap.size w (w.alloc (.cells #[.bool p, .bool mi, .bool sh, .bool sp, .bool z, .int .i64 wid, .int .i64 prec, .int .i32 verb] 113)) := (Below.refl _ _).alloc (Nat.le_refl _) _
 have f0 : ∀ x : Cl (w.alloc (.cells #[.bool p, .bool mi, .bool sh, .bool sp, .bool z, .int .i64 wid, .int .i64 prec, .int .i32 verb] 113)), x.w.cell? ⟨w.heap.size, 0, none⟩ = some (.bool p) := fun x => x.cell (by simp)
 have f1 : ∀ x : Cl (w.alloc (.cells #[.bool p, .bool mi, .bool sh, .bool sp, .bool z, .int .i64 wid, .int .i64 prec, .int .i32 verb] 113)), x.w.cell? ⟨w.heap.size, 1, none⟩ = some (.bool mi) := fun x => x.cell (by simp)
 have f2 : ∀ x : Cl (w.alloc (.cells #[.bool p, .bool mi, .bool sh, .bool sp, .bool z, .int .i64 wid, .int .i64 prec, .int .i32 verb] 113)), x.w.cell? ⟨w.heap.size, 2, none⟩ = some (.bool sh) := fun x => x.cell (by simp)
 have f3 : ∀ x : Cl (w.alloc (.cells #[.bool p, .bool mi, .bool sh, .bool sp, .bool z, .int .i64 wid, .int .i64 prec, .int .i32 verb] 113)), x.w.cell? ⟨w.heap.size, 3, none⟩ = some (.bool sp) := fun x => x.cell (by simp)
 have f4 : ∀ x : Cl (w.alloc (.cells #[.bool p, .bool mi, .bool sh, .bool sp, .bool z, .int .i64 wid, .int .i64 prec, .int .i32 verb] 113)), x.w.cell? ⟨w.heap.size, 4, none⟩ = some (.bool z) := fun x => x.cell (by simp)
 have f5 : ∀ x : Cl (w.alloc (.cells #[.bool p, .bool mi, .bool sh, .bool sp, .bool z, .int .i64 wid, .int .i64 prec, .int .i32 verb] 113)), x.w.cell? ⟨w.heap.size, 5, none⟩ = some (.int .i64 wid) := fun x => x.cell (by simp)
 have f6 : ∀ x : Cl (w.alloc (.cells #[.bool p, .bool mi, .bool sh, .bool sp, .bool z, .int .i64 wid, .int .i64 prec, .int .i32 verb] 113)), x.w.cell? ⟨w.heap.size, 6, none⟩ = some (.int .i64 prec) := fun x => x.cell (by simp)
 have f7 : ∀ x : Cl (w.alloc (.cells #[.bool p, .bool mi, .bool sh, .bool sp, .bool z, .int .i64 wid, .int .i64 prec, .int .i32 verb] 113)), x.w.cell? ⟨w.heap.size, 7, none⟩ = some (.int .i32 verb) := fun x => x.cell (by simp)
 have hD : ∀ w, Calls Tryz.prog 275 #[.int .u64 size, .int .i64 b, .agg #[.bool p, .bool mi, .bool sh, .bool sp, .bool z, .int .i64 wid, .int .i64 prec, .int .i32 verb]] w fun e w' => e = .returned (.string (digBy size b prec verb)) ∧ Below w.heap.size w w' := fun w => idigBy_any size b p mi sh sp z wid prec verb w hn hb
 have hM : ∀ w, Calls Tryz.prog 276 #[.string (digBy size b prec verb), .agg #[.bool p, .bool mi, .bool sh, .bool sp, .bool z, .int .i64 wid, .int .i64 prec, .int .i32 verb]] w fun e w' => e = .returned (.string (markB (digBy size b prec verb) sh verb)) ∧ Below w.heap.size w w' := fun w => imark_any _ p mi sh sp z wid prec verb w hd0
 have hL := ilimit_any wid
 have hwl := wdt_le wid
 clear h0 hb
 generalize markB (digBy size b prec verb) sh verb = m at *
 obtain ⟨A, hA, hAz, hs1⟩ := based_pack sign m m hs hmz
 rw [hA] at hcore
 generalize digBy size b prec verb = d at *
 have hne : d.toList.isEmpty = false := empty_no d hd0
 obtain ⟨D2, hD2⟩ : ∃ D2, widD d A.size mi z wid prec = D2 := ⟨_, rfl⟩
 rw [hD2] at hcore
 have hwz := widD_size d A.size mi z wid prec
 rw [hD2] at hwz
 have hs2 : ¬ 9223372036854775807 < A.size + D2.size := by omega
 obtain ⟨R, hR⟩ : ∃ R, A ++ D2 = R := ⟨_, rfl⟩
 rw [hcore] at hcz
 rw [hR] at hcore hcz
 rw [hcore]
 clear hcore
 have hP : ∀ w, Calls Tryz.prog 246 #[.string R, .agg #[.bool p, .bool mi, .bool sh, .bool sp, .bool z, .int .i64 wid, .int .i64 prec, .int .i32 verb]] w fun e w' => e = .returned (.string (padS R mi false wid)) ∧ Below w.heap.size w w' := fun w => ipad_any _ p mi sh sp z wid prec verb w (by omega)
 generalize padS R mi false wid = rr at *
 have hN : ∀ w, Calls Tryz.prog 273 #[.string d, .int .i64 ((wdt wid : Nat) - (A.size : Nat))] w fun e w' => e = .returned (.string (lenS d ((wdt wid : Nat) - (A.size : Nat)))) ∧ Below w.heap.size w w' := fun w => ilengthen_any _ _ w (by omega) (by omega) (by omega)
 have HW1 : Hid (z = true → mi = false → prec < 0 → lenS d ((wdt wid : Nat) - (A.size : Nat)) = D2) := fun h1 h2 h3 => by rw [← hD2]; unfold widD; rw [if_pos ⟨h1, h2, h3⟩]
 have HW0 : Hid (¬ (z = true ∧ mi = false ∧ prec < 0) → d = D2) := fun h => by rw [← hD2]; unfold widD; rw [if_neg h]
 clear hD2 hcz hwz
 cases z with
 | false =>
   have hd2 := HW0.out (by simp)
   subst hd2
   go_enter Tryz.func249, Tryz.ntmps249
   go_wp2_with (first | (go_at_call 275; (first | refine (Cl.go (hD _)).mono ?_ | refine (Cl.go0 (hD _)).mono ?_); rintro e w9 ⟨y, rfl, rfl⟩) | (go_at_call 276; (first | refine (Cl.go (hM _)).mono ?_ | refine (Cl.go0 (hM _)).mono ?_); rintro e w9 ⟨y, rfl, rfl⟩) | (go_at_call 274; refine (hL _).mono ?_; rintro e w9 ⟨rfl, rfl⟩) | (go_at_call 246; (first | refine (Cl.go (hP _)).mono ?_ | refine (Cl.go0 (hP _)).mono ?_); rintro e w9 ⟨y, rfl, rfl⟩))
   go_ret
   exact ⟨rfl, hbA.trans (y.below.mono hbA.size)⟩
 | true =>
   cases mi with
   | true =>
     have hd2 := HW0.out (by simp)
     subst hd2
     go_enter Tryz.func249, Tryz.ntmps249
     go_wp2_with (first | (go_at_call 275; (first | refine (Cl.go (hD _)).mono ?_ | refine (Cl.go0 (hD _)).mono ?_); rintro e w9 ⟨y, rfl, rfl⟩) | (go_at_call 276; (first | refine (Cl.go (hM _)).mono ?_ | refine (Cl.go0 (hM _)).mono ?_); rintro e w9 ⟨y, rfl, rfl⟩) | (go_at_call 274; refine (hL _).mono ?_; rintro e w9 ⟨rfl, rfl⟩) | (go_at_call 246; (first | refine (Cl.go (hP _)).mono ?_ | refine (Cl.go0 (hP _)).mono ?_); rintro e w9 ⟨y, rfl, rfl⟩))
     go_ret
     exact ⟨rfl, hbA.trans (y.below.mono hbA.size)⟩
   | false =>
     by_cases hp : prec < 0
     ·have hd2 := HW1.out rfl rfl hp
      rw [hd2] at hN
      clear hd2
      generalize wdt wid = k at *
      go_enter Tryz.func249, Tryz.ntmps249
      go_wp2_with (first | (go_at_call 275; (first | refine (Cl.go (hD _)).mono ?_ | refine (Cl.go0 (hD _)).mono ?_); rintro e w9 ⟨y, rfl, rfl⟩) | (go_at_call 276; (first | refine (Cl.go (hM _)).mono ?_ | refine (Cl.go0 (hM _)).mono ?_); rintro e w9 ⟨y, rfl, rfl⟩) | (go_at_call 274; refine (hL _).mono ?_; rintro e w9 ⟨rfl, rfl⟩) | (go_at_call 273; (first | refine (Cl.go (hN _)).mono ?_ | refine (Cl.go0 (hN _)).mono ?_); rintro e w9 ⟨y, rfl, rfl⟩) | (go_at_call 246; (first | refine (Cl.go (hP _)).mono ?_ | refine (Cl.go0 (hP _)).mono ?_); rintro e w9 ⟨y, rfl, rfl⟩))
      go_ret
      exact ⟨rfl, hbA.trans (y.below.mono hbA.size)⟩
     ·have hd2 := HW0.out (by simp [hp])
      subst hd2
      go_enter Tryz.func249, Tryz.ntmps249
      go_wp2_with (first | (go_at_call 275; (first | refine (Cl.go (hD _)).mono ?_ | refine (Cl.go0 (hD _)).mono ?_); rintro e w9 ⟨y, rfl, rfl⟩) | (go_at_call 276; (first | refine (Cl.go (hM _)).mono ?_ | refine (Cl.go0 (hM _)).mono ?_); rintro e w9 ⟨y, rfl, rfl⟩) | (go_at_call 274; refine (hL _).mono ?_; rintro e w9 ⟨rfl, rfl⟩) | (go_at_call 246; (first | refine (Cl.go (hP _)).mono ?_ | refine (Cl.go0 (hP _)).mono ?_); rintro e w9 ⟨y, rfl, rfl⟩))
      go_ret
      exact ⟨rfl, hbA.trans (y.below.mono hbA.size)⟩
theorem ibased_any (size b : Nat) (sign : ByteArray) (p mi sh sp z : Bool) (wid prec verb : Int) (w : World) (hn : size < 18446744073709551616) (hb : b = 2 ∨ b = 8 ∨ b = 10 ∨ b = 16) (hs : sign.size ≤ 1) :
  Calls Tryz.prog 249 #[.int .u64 size, .int .i64 b, .string sign, .agg #[.bool p, .bool mi, .bool sh, .bool sp, .bool z, .int .i64 wid, .int .i64 prec, .int .i32 verb]] w fun e w' => e = .returned (.string (padS (coreB size b sign mi sh z wid prec verb) mi false wid)) ∧ Below w.heap.size w w' := by
 by_cases h0 : size = 0 ∧ prec = 0
 ·obtain ⟨rfl, h2⟩ := h0
  have e : coreB 0 b sign mi sh z wid prec verb = ⟨#[]⟩ := by unfold coreB; rw [h2, digBy_zero]; exact if_pos rfl
  rw [e]
  exact ibased_0 b sign p mi sh sp z wid prec verb w hb h2
 ·exact ibased_1 size b sign p mi sh sp z wid prec verb w hn hb hs h0
end Go.Proofs.YtdlnmnipnkeabaaGreatDoor
