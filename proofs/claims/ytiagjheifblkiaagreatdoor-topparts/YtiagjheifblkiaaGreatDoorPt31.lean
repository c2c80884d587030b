/- FWalkF, FFin1, FFin2: these texts in one. -/
import Derived.Test.YtiagjheifblkiaaGreatDoorPt30
import Derived.Test.YtiagjheifblkiaaGreatDoorPt27
namespace Go.Proofs.YtiagjheifblkiaaGreatDoor
open Go.RowKit
set_option linter.unusedVariables false
set_option linter.unusedSimpArgs false
theorem together2A {a b : ByteArray} (hz : a.size + b.size ≤ 10000000) (w : World) : Calls Tryz.prog 286 #[.slice (some ⟨w.heap.size, 0, none⟩) 2 2] (w.alloc (.cells #[.string a, .string b] 9)) fun e w' => e = .returned (.string (a ++ b)) ∧ Below (w.alloc (.cells #[.string a, .string b] 9)).heap.size (w.alloc (.cells #[.string a, .string b] 9)) w' := together2 _ (by simp) (by simp) hz
theorem together2D {a b : ByteArray} (hz : a.size + b.size ≤ 10000000) (w : World) : Calls Tryz.prog 286 #[.slice (some ⟨w.heap.size, 0, none⟩) 2 2] (w.alloc (.cells #[.string a, .string b] 9)).drew fun e w' => e = .returned (.string (a ++ b)) ∧ Below (w.alloc (.cells #[.string a, .string b] 9)).drew.heap.size (w.alloc (.cells #[.string a, .string b] 9)).drew w' := together2 _ (by simp) (by simp) hz
abbrev FlCq (bits : Nat) (size : Int) (p mi sh sp z : Bool) (wid prec verb : Int) (s : ByteArray) (b : Bool) : Prop := ∀ w, Calls Tryz.prog 246 #[.int .u64 bits, .int .i64 size, .agg #[.bool p, .bool mi, .bool sh, .bool sp, .bool z, .int .i64 wid, .int .i64 prec, .int .i32 verb]] w fun e w' => e = .returned (.tuple #[.string s, .bool b]) ∧ Below w.heap.size w w'
set_option maxRecDepth 1000000 in
set_option maxHeartbeats 4000000 in
theorem float_nan {bits m : Nat} {size x : Int} {sg : Bool} {v : Value} (p mi sh sp z : Bool) (wid prec verb : Int) (hW : WrC verb v true) (hP : PtC bits size sg m x 2) : FlCq bits size p mi sh sp z wid prec verb (padS (sgF false p sp ++ ⟨#[78, 97, 78]⟩) mi false wid) true := fun w => by
 have hbA : Below w.heap.size w (w.alloc (.cells #[.bool p, .bool mi, .bool sh, .bool sp, .bool z, .int .i64 wid, .int .i64 prec, .int .i32 verb] 198)) := (Below.refl _ _).alloc (Nat.le_refl _) _
 have f0 : ∀ x : Cl (w.alloc (.cells #[.bool p, .bool mi, .bool sh, .bool sp, .bool z, .int .i64 wid, .int .i64 prec, .int .i32 verb] 198)), x.w.cell? ⟨w.heap.size, 0, none⟩ = some (.bool p) := fun x => x.cell (by simp)
 have f1 : ∀ x : Cl (w.alloc (.cells #[.bool p, .bool mi, .bool sh, .bool sp, .bool z, .int .i64 wid, .int .i64 prec, .int .i32 verb] 198)), x.w.cell? ⟨w.heap.size, 1, none⟩ = some (.bool mi) := fun x => x.cell (by simp)
 have f2 : ∀ x : Cl (w.alloc (.cells #[.bool p, .bool mi, .bool sh, .bool sp, .bool z, .int .i64 wid, .int .i64 prec, .int .i32 verb] 198)), x.w.cell? ⟨w.heap.size, 2, none⟩ = some (.bool sh) := fun x => x.cell (by simp)
 have f3 : ∀ x : Cl (w.alloc (.cells #[.bool p, .bool mi, .bool sh, .bool sp, .bool z, .int .i64 wid, .int .i64 prec, .int .i32 verb] 198)), x.w.cell? ⟨w.heap.size, 3, none⟩ = some (.bool sp) := fun x => x.cell (by simp)
 have f4 : ∀ x : Cl (w.alloc (.cells #[.bool p, .bool mi, .bool sh, .bool sp, .bool z, .int .i64 wid, .int .i64 prec, .int .i32 verb] 198)), x.w.cell? ⟨w.heap.size, 4, none⟩ = some (.bool z) := fun x => x.cell (by simp)
 have f5 : ∀ x : Cl (w.alloc (.cells #[.bool p, .bool mi, .bool sh, .bool sp, .bool z, .int .i64 wid, .int .i64 prec, .int .i32 verb] 198)), x.w.cell? ⟨w.heap.size, 5, none⟩ = some (.int .i64 wid) := fun x => x.cell (by simp)
 have f6 : ∀ x : Cl (w.alloc (.cells #[.bool p, .bool mi, .bool sh, .bool sp, .bool z, .int .i64 wid, .int .i64 prec, .int .i32 verb] 198)), x.w.cell? ⟨w.heap.size, 6, none⟩ = some (.int .i64 prec) := fun x => x.cell (by simp)
 have f7 : ∀ x : Cl (w.alloc (.cells #[.bool p, .bool mi, .bool sh, .bool sp, .bool z, .int .i64 wid, .int .i64 prec, .int .i32 verb] 198)), x.w.cell? ⟨w.heap.size, 7, none⟩ = some (.int .i32 verb) := fun x => x.cell (by simp)
 have hlt : ∀ x : Cl (w.alloc (.cells #[.bool p, .bool mi, .bool sh, .bool sp, .bool z, .int .i64 wid, .int .i64 prec, .int .i32 verb] 198)), w.heap.size < x.w.heap.size := fun x => World.block_lt_of_cell? x.w _ (f0 x)
 have hs := sgF_size false p sp
 have h1 : (⟨#[78, 97, 78]⟩ : ByteArray).size = 3 := rfl
 have hz : (sgF false p sp).size + (⟨#[78, 97, 78]⟩ : ByteArray).size ≤ 10000000 := by omega
 have hS : ∀ w, Calls Tryz.prog 287 #[.bool false, .agg #[.bool p, .bool mi, .bool sh, .bool sp, .bool z, .int .i64 wid, .int .i64 prec, .int .i32 verb]] w fun x w' => x = .returned (.string (sgF false p sp)) ∧ Below w.heap.size w w' := fun w => fsign_any false p mi sh sp z wid prec verb w
 have hB : ∀ w, Calls Tryz.prog 285 #[.string (sgF false p sp ++ ⟨#[78, 97, 78]⟩), .agg #[.bool p, .bool mi, .bool sh, .bool sp, .bool z, .int .i64 wid, .int .i64 prec, .int .i32 verb]] w fun e w' => e = .returned (.string (padS (sgF false p sp ++ ⟨#[78, 97, 78]⟩) mi false wid)) ∧ Below w.heap.size w w' := fun w => fpad_any _ p mi sh sp z wid prec verb w (by rw [app_size]; omega)
 generalize padS (sgF false p sp ++ ⟨#[78, 97, 78]⟩) mi false wid = R at *
 clear hs
 generalize sgF false p sp = S at *
 have hn1 : ∀ (W : World) (y : Cl W) w5, Below y.w.drew.heap.size y.w.drew w5 → ∃ z : Cl W, w5 = z.w := fun W y w5 hb => ⟨⟨w5, bel_call y.below.drew hb (Nat.le_refl _)⟩, rfl⟩
 go_enter Tryz.func246, Tryz.ntmps246
 go_wp2_with (first
  | (go_at_call 284; (with_reducible refine (hW _).mono ?_); rintro x w1 ⟨rfl, rfl⟩)
  | (go_at_call 16; (with_reducible refine (hP _).mono ?_); rintro x w2 ⟨rfl, hb2⟩; obtain ⟨y2, rfl⟩ := Cl.start hb2))
 go_region_with (first
  | (go_at_call 287; (with_reducible refine (hS _).mono ?_); rintro x w4 ⟨rfl, hb4⟩; obtain ⟨y4, rfl⟩ := hn1 _ _ _ hb4)
  | (go_at_call 286; (with_reducible refine (together2A hz _).mono ?_); rintro x w5 ⟨rfl, hb5⟩; obtain ⟨y5, rfl⟩ := Cl.after hb5)
  | (go_at_call 285; (with_reducible refine (hB _).mono ?_); rintro x w6 ⟨rfl, hb6⟩; obtain ⟨y6, rfl⟩ := Cl.next hb6))
 all_goals go_wp2
 all_goals go_returns
 all_goals exact ⟨rfl, bel_call hbA y6.below (Nat.le_refl _)⟩
set_option maxRecDepth 1000000 in
set_option maxHeartbeats 4000000 in
theorem float_inf {bits m : Nat} {size x : Int} {sg : Bool} {v : Value} (p mi sh sp z : Bool) (wid prec verb : Int) (hW : WrC verb v true) (hP : PtC bits size sg m x 1) : FlCq bits size p mi sh sp z wid prec verb (padS (sgI sg p sp ++ ⟨#[73, 110, 102]⟩) mi false wid) true := fun w => by
 have hbA : Below w.heap.size w (w.alloc (.cells #[.bool p, .bool mi, .bool sh, .bool sp, .bool z, .int .i64 wid, .int .i64 prec, .int .i32 verb] 198)) := (Below.refl _ _).alloc (Nat.le_refl _) _
 have f0 : ∀ x : Cl (w.alloc (.cells #[.bool p, .bool mi, .bool sh, .bool sp, .bool z, .int .i64 wid, .int .i64 prec, .int .i32 verb] 198)), x.w.cell? ⟨w.heap.size, 0, none⟩ = some (.bool p) := fun x => x.cell (by simp)
 have f1 : ∀ x : Cl (w.alloc (.cells #[.bool p, .bool mi, .bool sh, .bool sp, .bool z, .int .i64 wid, .int .i64 prec, .int .i32 verb] 198)), x.w.cell? ⟨w.heap.size, 1, none⟩ = some (.bool mi) := fun x => x.cell (by simp)
 have f2 : ∀ x : Cl (w.alloc (.cells #[.bool p, .bool mi, .bool sh, .bool sp, .bool z, .int .i64 wid, .int .i64 prec, .int .i32 verb] 198)), x.w.cell? ⟨w.heap.size, 2, none⟩ = some (.bool sh) := fun x => x.cell (by simp)
 have f3 : ∀ x : Cl (w.alloc (.cells #[.bool p, .bool mi, .bool sh, .bool sp, .bool z, .int .i64 wid, .int .i64 prec, .int .i32 verb] 198)), x.w.cell? ⟨w.heap.size, 3, none⟩ = some (.bool sp) := fun x => x.cell (by simp)
 have f4 : ∀ x : Cl (w.alloc (.cells #[.bool p, .bool mi, .bool sh, .bool sp, .bool z, .int .i64 wid, .int .i64 prec, .int .i32 verb] 198)), x.w.cell? ⟨w.heap.size, 4, none⟩ = some (.bool z) := fun x => x.cell (by simp)
 have f5 : ∀ x : Cl (w.alloc (.cells #[.bool p, .bool mi, .bool sh, .bool sp, .bool z, .int .i64 wid, .int .i64 prec, .int .i32 verb] 198)), x.w.cell? ⟨w.heap.size, 5, none⟩ = some (.int .i64 wid) := fun x => x.cell (by simp)
 have f6 : ∀ x : Cl (w.alloc (.cells #[.bool p, .bool mi, .bool sh, .bool sp, .bool z, .int .i64 wid, .int .i64 prec, .int .i32 verb] 198)), x.w.cell? ⟨w.heap.size, 6, none⟩ = some (.int .i64 prec) := fun x => x.cell (by simp)
 have f7 : ∀ x : Cl (w.alloc (.cells #[.bool p, .bool mi, .bool sh, .bool sp, .bool z, .int .i64 wid, .int .i64 prec, .int .i32 verb] 198)), x.w.cell? ⟨w.heap.size, 7, none⟩ = some (.int .i32 verb) := fun x => x.cell (by simp)
 have hlt : ∀ x : Cl (w.alloc (.cells #[.bool p, .bool mi, .bool sh, .bool sp, .bool z, .int .i64 wid, .int .i64 prec, .int .i32 verb] 198)), w.heap.size < x.w.heap.size := fun x => World.block_lt_of_cell? x.w _ (f0 x)
 have hs := sgI_size sg p sp
 have h1 : (⟨#[73, 110, 102]⟩ : ByteArray).size = 3 := rfl
 have hz : (sgI sg p sp).size + (⟨#[73, 110, 102]⟩ : ByteArray).size ≤ 10000000 := by omega
 have hS : ∀ w, Calls Tryz.prog 288 #[.bool sg, .agg #[.bool p, .bool mi, .bool sh, .bool sp, .bool z, .int .i64 wid, .int .i64 prec, .int .i32 verb]] w fun x w' => x = .returned (.string (sgI sg p sp)) ∧ Below w.heap.size w w' := fun w => fsignI_any sg p mi sh sp z wid prec verb w
 have hB : ∀ w, Calls Tryz.prog 285 #[.string (sgI sg p sp ++ ⟨#[73, 110, 102]⟩), .agg #[.bool p, .bool mi, .bool sh, .bool sp, .bool z, .int .i64 wid, .int .i64 prec, .int .i32 verb]] w fun e w' => e = .returned (.string (padS (sgI sg p sp ++ ⟨#[73, 110, 102]⟩) mi false wid)) ∧ Below w.heap.size w w' := fun w => fpad_any _ p mi sh sp z wid prec verb w (by rw [app_size]; omega)
 generalize padS (sgI sg p sp ++ ⟨#[73, 110, 102]⟩) mi false wid = R at *
 clear hs
 generalize sgI sg p sp = S at *
 have hn1 : ∀ (W : World) (y : Cl W) w5, Below y.w.drew.heap.size y.w.drew w5 → ∃ z : Cl W, w5 = z.w := fun W y w5 hb => ⟨⟨w5, bel_call y.below.drew hb (Nat.le_refl _)⟩, rfl⟩
 go_enter Tryz.func246, Tryz.ntmps246
 go_wp2_with (first
  | (go_at_call 284; (with_reducible refine (hW _).mono ?_); rintro x w1 ⟨rfl, rfl⟩)
  | (go_at_call 16; (with_reducible refine (hP _).mono ?_); rintro x w2 ⟨rfl, hb2⟩; obtain ⟨y2, rfl⟩ := Cl.start hb2))
 go_region_with (first
  | (go_at_call 288; (with_reducible refine (hS _).mono ?_); rintro x w4 ⟨rfl, hb4⟩; obtain ⟨y4, rfl⟩ := hn1 _ _ _ hb4)
  | (go_at_call 286; (with_reducible refine (together2A hz _).mono ?_); rintro x w5 ⟨rfl, hb5⟩; obtain ⟨y5, rfl⟩ := Cl.after hb5)
  | (go_at_call 285; (with_reducible refine (hB _).mono ?_); rintro x w6 ⟨rfl, hb6⟩; obtain ⟨y6, rfl⟩ := Cl.next hb6))
 all_goals go_wp2
 all_goals go_returns
 all_goals exact ⟨rfl, bel_call hbA y6.below (Nat.le_refl _)⟩
set_option maxRecDepth 1000000 in
set_option maxHeartbeats 4000000 in
theorem filled_any (s t : ByteArray) (p mi sh sp z : Bool) (wid prec verb : Int) (w : World) (hs : s.size ≤ 1) (ht : t.size ≤ 200000) :
  Calls Tryz.prog 291 #[.string s, .string t, .agg #[.bool p, .bool mi, .bool sh, .bool sp, .bool z, .int .i64 wid, .int .i64 prec, .int .i32 verb]] w fun e w' => e = .returned (.string (filT s t mi z wid)) ∧ Below w.heap.size w w' := by
 have hbA : Below w.heap.size w (w.alloc (.cells #[.bool p, .bool mi, .bool sh, .bool sp, .bool z, .int .i64 wid, .int .i64 prec, .int .i32 verb] 198)) := (Below.refl _ _).alloc (Nat.le_refl _) _
 have f0 : ∀ x : Cl (w.alloc (.cells #[.bool p, .bool mi, .bool sh, .bool sp, .bool z, .int .i64 wid, .int .i64 prec, .int .i32 verb] 198)), x.w.cell? ⟨w.heap.size, 0, none⟩ = some (.bool p) := fun x => x.cell (by simp)
 have f1 : ∀ x : Cl (w.alloc (.cells #[.bool p, .bool mi, .bool sh, .bool sp, .bool z, .int .i64 wid, .int .i64 prec, .int .i32 verb] 198)), x.w.cell? ⟨w.heap.size, 1, none⟩ = some (.bool mi) := fun x => x.cell (by simp)
 have f2 : ∀ x : Cl (w.alloc (.cells #[.bool p, .bool mi, .bool sh, .bool sp, .bool z, .int .i64 wid, .int .i64 prec, .int .i32 verb] 198)), x.w.cell? ⟨w.heap.size, 2, none⟩ = some (.bool sh) := fun x => x.cell (by simp)
 have f3 : ∀ x : Cl (w.alloc (.cells #[.bool p, .bool mi, .bool sh, .bool sp, .bool z, .int .i64 wid, .int .i64 prec, .int .i32 verb] 198)), x.w.cell? ⟨w.heap.size, 3, none⟩ = some (.bool sp) := fun x => x.cell (by simp)
 have f4 : ∀ x : Cl (w.alloc (.cells #[.bool p, .bool mi, .bool sh, .bool sp, .bool z, .int .i64 wid, .int .i64 prec, .int .i32 verb] 198)), x.w.cell? ⟨w.heap.size, 4, none⟩ = some (.bool z) := fun x => x.cell (by simp)
 have f5 : ∀ x : Cl (w.alloc (.cells #[.bool p, .bool mi, .bool sh, .bool sp, .bool z, .int .i64 wid, .int .i64 prec, .int .i32 verb] 198)), x.w.cell? ⟨w.heap.size, 5, none⟩ = some (.int .i64 wid) := fun x => x.cell (by simp)
 have f6 : ∀ x : Cl (w.alloc (.cells #[.bool p, .bool mi, .bool sh, .bool sp, .bool z, .int .i64 wid, .int .i64 prec, .int .i32 verb] 198)), x.w.cell? ⟨w.heap.size, 6, none⟩ = some (.int .i64 prec) := fun x => x.cell (by simp)
 have f7 : ∀ x : Cl (w.alloc (.cells #[.bool p, .bool mi, .bool sh, .bool sp, .bool z, .int .i64 wid, .int .i64 prec, .int .i32 verb] 198)), x.w.cell? ⟨w.heap.size, 7, none⟩ = some (.int .i32 verb) := fun x => x.cell (by simp)
 have hlt : ∀ x : Cl (w.alloc (.cells #[.bool p, .bool mi, .bool sh, .bool sp, .bool z, .int .i64 wid, .int .i64 prec, .int .i32 verb] 198)), w.heap.size < x.w.heap.size := fun x => World.block_lt_of_cell? x.w _ (f0 x)
 have hwl := wdt_le wid
 have hwe := wdt_eq wid
 have hn1 : ∀ (W : World) (y : Cl W) w5, Below y.w.drew.heap.size y.w.drew w5 → ∃ z : Cl W, w5 = z.w := fun W y w5 hb => ⟨⟨w5, bel_call y.below.drew hb (Nat.le_refl _)⟩, rfl⟩
 unfold filT
 by_cases hz : z = true ∧ mi = false
 ·rw [if_pos hz]
  obtain ⟨rfl, rfl⟩ := hz
  have hl := lnA_size t ((wdt wid : Nat) - (s.size : Nat))
  have hL : LaC t ((wdt wid : Nat) - (s.size : Nat)) (lnA t ((wdt wid : Nat) - (s.size : Nat))) := fun w => flen_any _ _ w (by omega) (by omega) (by omega)
  have hB : ∀ w, Calls Tryz.prog 285 #[.string (s ++ lnA t ((wdt wid : Nat) - (s.size : Nat))), .agg #[.bool p, .bool false, .bool sh, .bool sp, .bool true, .int .i64 wid, .int .i64 prec, .int .i32 verb]] w fun e w' => e = .returned (.string (padS (s ++ lnA t ((wdt wid : Nat) - (s.size : Nat))) false false wid)) ∧ Below w.heap.size w w' := fun w => fpad_any _ p false sh sp true wid prec verb w (by rw [app_size]; omega)
  have hz2 : s.size + (lnA t ((wdt wid : Nat) - (s.size : Nat))).size ≤ 10000000 := by omega
  clear hl
  generalize padS (s ++ lnA t ((wdt wid : Nat) - (s.size : Nat))) false false wid = R at *
  generalize lnA t ((wdt wid : Nat) - (s.size : Nat)) = T at *
  generalize wdt wid = q at *
  go_enter Tryz.func291, Tryz.ntmps291
  go_wp2_with (go_at_call 328; (with_reducible refine (hL _).mono ?_); rintro x w2 ⟨rfl, hb2⟩; obtain ⟨y2, rfl⟩ := Cl.start hb2)
  go_region_with (first
   | (go_at_call 286; (with_reducible refine (together2D hz2 _).mono ?_); rintro x w5 ⟨rfl, hb5⟩; obtain ⟨y5, rfl⟩ : ∃ z : Cl (w.alloc (.cells #[.bool p, .bool false, .bool sh, .bool sp, .bool true, .int .i64 wid, .int .i64 prec, .int .i32 verb] 198)), w5 = z.w := ⟨⟨w5, bel_call (y2.below.alloc y2.below.size _).drew hb5 (Nat.le_refl _)⟩, rfl⟩)
   | (go_at_call 285; (with_reducible refine (hB _).mono ?_); rintro x w6 ⟨rfl, hb6⟩; obtain ⟨y6, rfl⟩ := Cl.next hb6))
  all_goals go_wp2
  all_goals go_ret
  all_goals exact ⟨rfl, bel_call hbA y6.below (Nat.le_refl _)⟩
 ·rw [if_neg hz]
  have hB : ∀ w, Calls Tryz.prog 285 #[.string (s ++ t), .agg #[.bool p, .bool mi, .bool sh, .bool sp, .bool z, .int .i64 wid, .int .i64 prec, .int .i32 verb]] w fun e w' => e = .returned (.string (padS (s ++ t) mi false wid)) ∧ Below w.heap.size w w' := fun w => fpad_any _ p mi sh sp z wid prec verb w (by rw [app_size]; omega)
  have hz2 : s.size + t.size ≤ 10000000 := by omega
  generalize padS (s ++ t) mi false wid = R at *
  cases z with
  | false =>
    clear hz
    go_enter Tryz.func291, Tryz.ntmps291
    go_wp2
    go_region_with (first
     | (go_at_call 286; refine (together2 (a := s) (b := t) _ (by simp) (by simp) hz2).mono ?_; rintro x w5 ⟨rfl, hb5⟩; obtain ⟨y5, rfl⟩ : ∃ z : Cl (w.alloc (.cells #[.bool p, .bool mi, .bool sh, .bool sp, .bool false, .int .i64 wid, .int .i64 prec, .int .i32 verb] 198)), w5 = z.w := ⟨⟨w5, bel_call ((Below.refl _ _).alloc (Nat.le_refl _) _).drew hb5 (Nat.le_refl _)⟩, rfl⟩)
     | (go_at_call 285; (with_reducible refine (hB _).mono ?_); rintro x w6 ⟨rfl, hb6⟩; obtain ⟨y6, rfl⟩ := Cl.next hb6))
    all_goals go_wp2
    all_goals go_ret
    all_goals exact ⟨rfl, bel_call hbA y6.below (Nat.le_refl _)⟩
  | true =>
    obtain rfl : mi = true := by cases mi; · exact absurd ⟨rfl, rfl⟩ hz
                                 ·rfl
    clear hz
    go_enter Tryz.func291, Tryz.ntmps291
    go_wp2
    go_region_with (first
     | (go_at_call 286; refine (together2 (a := s) (b := t) _ (by simp) (by simp) hz2).mono ?_; rintro x w5 ⟨rfl, hb5⟩; obtain ⟨y5, rfl⟩ : ∃ z : Cl (w.alloc (.cells #[.bool p, .bool true, .bool sh, .bool sp, .bool true, .int .i64 wid, .int .i64 prec, .int .i32 verb] 198)), w5 = z.w := ⟨⟨w5, bel_call ((Below.refl _ _).alloc (Nat.le_refl _) _).drew hb5 (Nat.le_refl _)⟩, rfl⟩)
     | (go_at_call 285; (with_reducible refine (hB _).mono ?_); rintro x w6 ⟨rfl, hb6⟩; obtain ⟨y6, rfl⟩ := Cl.next hb6))
    all_goals go_wp2
    all_goals go_ret
    all_goals exact ⟨rfl, bel_call hbA y6.below (Nat.le_refl _)⟩
end Go.Proofs.YtiagjheifblkiaaGreatDoor
namespace Go.Proofs.YtiagjheifblkiaaGreatDoor
open Go.RowKit
set_option linter.unusedVariables false
set_option linter.unusedSimpArgs false
set_option maxRecDepth 1000000 in
set_option maxHeartbeats 4000000 in
theorem fin_101_true {bits m : Nat} {size e : Int} {sg : Bool} {T S R : ByteArray} {P : Int} (p mi sp z : Bool) (wid prec : Int) (hP : PtC bits size sg m e 0) (hmin : min prec 1000 = P)
  (hN : ∀ w, Calls Tryz.prog 321 #[.agg #[.int .u64 bits, .int .i64 size, .int .u64 m, .int .i64 e, .int .i64 P, .bool true]] w fun x w' => x = .returned (.string T) ∧ Below w.heap.size w w')
  (hS : ∀ w, Calls Tryz.prog 287 #[.bool sg, .agg #[.bool p, .bool mi, .bool true, .bool sp, .bool z, .int .i64 wid, .int .i64 prec, .int .i32 101]] w fun x w' => x = .returned (.string S) ∧ Below w.heap.size w w')
  (hF : ∀ w, Calls Tryz.prog 291 #[.string S, .string T, .agg #[.bool p, .bool mi, .bool true, .bool sp, .bool z, .int .i64 wid, .int .i64 prec, .int .i32 101]] w fun x w' => x = .returned (.string R) ∧ Below w.heap.size w w') : FlCq bits size p mi true sp z wid prec 101 R true := fun w => by
 have hbA : Below w.heap.size w (w.alloc (.cells #[.bool p, .bool mi, .bool true, .bool sp, .bool z, .int .i64 wid, .int .i64 prec, .int .i32 101] 198)) := (Below.refl _ _).alloc (Nat.le_refl _) _
 have f0 : ∀ x : Cl (w.alloc (.cells #[.bool p, .bool mi, .bool true, .bool sp, .bool z, .int .i64 wid, .int .i64 prec, .int .i32 101] 198)), x.w.cell? ⟨w.heap.size, 0, none⟩ = some (.bool p) := fun x => x.cell (by simp)
 have f1 : ∀ x : Cl (w.alloc (.cells #[.bool p, .bool mi, .bool true, .bool sp, .bool z, .int .i64 wid, .int .i64 prec, .int .i32 101] 198)), x.w.cell? ⟨w.heap.size, 1, none⟩ = some (.bool mi) := fun x => x.cell (by simp)
 have f2 : ∀ x : Cl (w.alloc (.cells #[.bool p, .bool mi, .bool true, .bool sp, .bool z, .int .i64 wid, .int .i64 prec, .int .i32 101] 198)), x.w.cell? ⟨w.heap.size, 2, none⟩ = some (.bool true) := fun x => x.cell (by simp)
 have f3 : ∀ x : Cl (w.alloc (.cells #[.bool p, .bool mi, .bool true, .bool sp, .bool z, .int .i64 wid, .int .i64 prec, .int .i32 101] 198)), x.w.cell? ⟨w.heap.size, 3, none⟩ = some (.bool sp) := fun x => x.cell (by simp)
 have f4 : ∀ x : Cl (w.alloc (.cells #[.bool p, .bool mi, .bool true, .bool sp, .bool z, .int .i64 wid, .int .i64 prec, .int .i32 101] 198)), x.w.cell? ⟨w.heap.size, 4, none⟩ = some (.bool z) := fun x => x.cell (by simp)
 have f5 : ∀ x : Cl (w.alloc (.cells #[.bool p, .bool mi, .bool true, .bool sp, .bool z, .int .i64 wid, .int .i64 prec, .int .i32 101] 198)), x.w.cell? ⟨w.heap.size, 5, none⟩ = some (.int .i64 wid) := fun x => x.cell (by simp)
 have f6 : ∀ x : Cl (w.alloc (.cells #[.bool p, .bool mi, .bool true, .bool sp, .bool z, .int .i64 wid, .int .i64 prec, .int .i32 101] 198)), x.w.cell? ⟨w.heap.size, 6, none⟩ = some (.int .i64 prec) := fun x => x.cell (by simp)
 have f7 : ∀ x : Cl (w.alloc (.cells #[.bool p, .bool mi, .bool true, .bool sp, .bool z, .int .i64 wid, .int .i64 prec, .int .i32 101] 198)), x.w.cell? ⟨w.heap.size, 7, none⟩ = some (.int .i32 101) := fun x => x.cell (by simp)
 have hW : WrC 101 (.func (.func 321) #[] #[]) true := writer_yes (verb := 101) (by decide)
 have hG : ∀ w, Calls Tryz.prog 289 #[.int .i32 101] w fun e w' => e = .returned (.bool false) ∧ w' = w := fun w => great_any 101 w
 go_enter Tryz.func246, Tryz.ntmps246
 go_wp2_with (first
  | (go_at_call 284; (with_reducible refine (hW _).mono ?_); rintro x w1 ⟨rfl, rfl⟩)
  | (go_at_call 16; (with_reducible refine (hP _).mono ?_); rintro x w2 ⟨rfl, hb2⟩; obtain ⟨y2, rfl⟩ := Cl.start hb2)
  | (go_at_call 321; (with_reducible refine (hN _).mono ?_); rintro x w4 ⟨rfl, hb4⟩; obtain ⟨y4, rfl⟩ := Cl.next hb4)
  | (go_at_call 289; (with_reducible refine (hG _).mono ?_); rintro x w1 ⟨rfl, rfl⟩))
 refine wp_region_above (w.alloc (.cells #[.bool p, .bool mi, .bool true, .bool sp, .bool z, .int .i64 wid, .int .i64 prec, .int .i32 101] 198)) y4.below (by kernel_rfl) (by kernel_rfl) ?_
 intro hCl
 repeat (go_big_quiet_step ((first | (go_at_call 287; exact Cl.call (hS _)) | (go_at_call 291; exact Cl.call (hF _)))))
 refine wpQuiet_nil ?_
 intro _ hw'
 obtain ⟨z9, hz⟩ := hw'
 subst hz
 go_wp2
 go_returns
 exact ⟨rfl, bel_call hbA z9.below (Nat.le_refl _)⟩
set_option maxRecDepth 1000000 in
set_option maxHeartbeats 4000000 in
theorem fin_101_false {bits m : Nat} {size e : Int} {sg : Bool} {T S R : ByteArray} {P : Int} (p mi sp z : Bool) (wid prec : Int) (hP : PtC bits size sg m e 0) (hmin : min prec 1000 = P)
  (hN : ∀ w, Calls Tryz.prog 321 #[.agg #[.int .u64 bits, .int .i64 size, .int .u64 m, .int .i64 e, .int .i64 P, .bool false]] w fun x w' => x = .returned (.string T) ∧ Below w.heap.size w w')
  (hS : ∀ w, Calls Tryz.prog 287 #[.bool sg, .agg #[.bool p, .bool mi, .bool false, .bool sp, .bool z, .int .i64 wid, .int .i64 prec, .int .i32 101]] w fun x w' => x = .returned (.string S) ∧ Below w.heap.size w w')
  (hF : ∀ w, Calls Tryz.prog 291 #[.string S, .string T, .agg #[.bool p, .bool mi, .bool false, .bool sp, .bool z, .int .i64 wid, .int .i64 prec, .int .i32 101]] w fun x w' => x = .returned (.string R) ∧ Below w.heap.size w w') : FlCq bits size p mi false sp z wid prec 101 R true := fun w => by
 have hbA : Below w.heap.size w (w.alloc (.cells #[.bool p, .bool mi, .bool false, .bool sp, .bool z, .int .i64 wid, .int .i64 prec, .int .i32 101] 198)) := (Below.refl _ _).alloc (Nat.le_refl _) _
 have f0 : ∀ x : Cl (w.alloc (.cells #[.bool p, .bool mi, .bool false, .bool sp, .bool z, .int .i64 wid, .int .i64 prec, .int .i32 101] 198)), x.w.cell? ⟨w.heap.size, 0, none⟩ = some (.bool p) := fun x => x.cell (by simp)
 have f1 : ∀ x : Cl (w.alloc (.cells #[.bool p, .bool mi, .bool false, .bool sp, .bool z, .int .i64 wid, .int .i64 prec, .int .i32 101] 198)), x.w.cell? ⟨w.heap.size, 1, none⟩ = some (.bool mi) := fun x => x.cell (by simp)
 have f2 : ∀ x : Cl (w.alloc (.cells #[.bool p, .bool mi, .bool false, .bool sp, .bool z, .int .i64 wid, .int .i64 prec, .int .i32 101] 198)), x.w.cell? ⟨w.heap.size, 2, none⟩ = some (.bool false) := fun x => x.cell (by simp)
 have f3 : ∀ x : Cl (w.alloc (.cells #[.bool p, .bool mi, .bool false, .bool sp, .bool z, .int .i64 wid, .int .i64 prec, .int .i32 101] 198)), x.w.cell? ⟨w.heap.size, 3, none⟩ = some (.bool sp) := fun x => x.cell (by simp)
 have f4 : ∀ x : Cl (w.alloc (.cells #[.bool p, .bool mi, .bool false, .bool sp, .bool z, .int .i64 wid, .int .i64 prec, .int .i32 101] 198)), x.w.cell? ⟨w.heap.size, 4, none⟩ = some (.bool z) := fun x => x.cell (by simp)
 have f5 : ∀ x : Cl (w.alloc (.cells #[.bool p, .bool mi, .bool false, .bool sp, .bool z, .int .i64 wid, .int .i64 prec, .int .i32 101] 198)), x.w.cell? ⟨w.heap.size, 5, none⟩ = some (.int .i64 wid) := fun x => x.cell (by simp)
 have f6 : ∀ x : Cl (w.alloc (.cells #[.bool p, .bool mi, .bool false, .bool sp, .bool z, .int .i64 wid, .int .i64 prec, .int .i32 101] 198)), x.w.cell? ⟨w.heap.size, 6, none⟩ = some (.int .i64 prec) := fun x => x.cell (by simp)
 have f7 : ∀ x : Cl (w.alloc (.cells #[.bool p, .bool mi, .bool false, .bool sp, .bool z, .int .i64 wid, .int .i64 prec, .int .i32 101] 198)), x.w.cell? ⟨w.heap.size, 7, none⟩ = some (.int .i32 101) := fun x => x.cell (by simp)
 have hW : WrC 101 (.func (.func 321) #[] #[]) true := writer_yes (verb := 101) (by decide)
 have hG : ∀ w, Calls Tryz.prog 289 #[.int .i32 101] w fun e w' => e = .returned (.bool false) ∧ w' = w := fun w => great_any 101 w
 go_enter Tryz.func246, Tryz.ntmps246
 go_wp2_with (first
  | (go_at_call 284; (with_reducible refine (hW _).mono ?_); rintro x w1 ⟨rfl, rfl⟩)
  | (go_at_call 16; (with_reducible refine (hP _).mono ?_); rintro x w2 ⟨rfl, hb2⟩; obtain ⟨y2, rfl⟩ := Cl.start hb2)
  | (go_at_call 321; (with_reducible refine (hN _).mono ?_); rintro x w4 ⟨rfl, hb4⟩; obtain ⟨y4, rfl⟩ := Cl.next hb4)
  | (go_at_call 289; (with_reducible refine (hG _).mono ?_); rintro x w1 ⟨rfl, rfl⟩))
 refine wp_region_above (w.alloc (.cells #[.bool p, .bool mi, .bool false, .bool sp, .bool z, .int .i64 wid, .int .i64 prec, .int .i32 101] 198)) y4.below (by kernel_rfl) (by kernel_rfl) ?_
 intro hCl
 repeat (go_big_quiet_step ((first | (go_at_call 287; exact Cl.call (hS _)) | (go_at_call 291; exact Cl.call (hF _)))))
 refine wpQuiet_nil ?_
 intro _ hw'
 obtain ⟨z9, hz⟩ := hw'
 subst hz
 go_wp2
 go_returns
 exact ⟨rfl, bel_call hbA z9.below (Nat.le_refl _)⟩
set_option maxRecDepth 1000000 in
set_option maxHeartbeats 4000000 in
theorem fin_69_true {bits m : Nat} {size e : Int} {sg : Bool} {T U S R : ByteArray} {P : Int} (p mi sp z : Bool) (wid prec : Int) (hP : PtC bits size sg m e 0) (hmin : min prec 1000 = P)
  (hN : ∀ w, Calls Tryz.prog 321 #[.agg #[.int .u64 bits, .int .i64 size, .int .u64 m, .int .i64 e, .int .i64 P, .bool true]] w fun x w' => x = .returned (.string T) ∧ Below w.heap.size w w') (hU : ∀ w, Calls Tryz.prog 290 #[.string T] w fun x w' => x = .returned (.string U) ∧ Below w.heap.size w w')
  (hS : ∀ w, Calls Tryz.prog 287 #[.bool sg, .agg #[.bool p, .bool mi, .bool true, .bool sp, .bool z, .int .i64 wid, .int .i64 prec, .int .i32 69]] w fun x w' => x = .returned (.string S) ∧ Below w.heap.size w w')
  (hF : ∀ w, Calls Tryz.prog 291 #[.string S, .string U, .agg #[.bool p, .bool mi, .bool true, .bool sp, .bool z, .int .i64 wid, .int .i64 prec, .int .i32 69]] w fun x w' => x = .returned (.string R) ∧ Below w.heap.size w w') : FlCq bits size p mi true sp z wid prec 69 R true := fun w => by
 have hbA : Below w.heap.size w (w.alloc (.cells #[.bool p, .bool mi, .bool true, .bool sp, .bool z, .int .i64 wid, .int .i64 prec, .int .i32 69] 198)) := (Below.refl _ _).alloc (Nat.le_refl _) _
 have f0 : ∀ x : Cl (w.alloc (.cells #[.bool p, .bool mi, .bool true, .bool sp, .bool z, .int .i64 wid, .int .i64 prec, .int .i32 69] 198)), x.w.cell? ⟨w.heap.size, 0, none⟩ = some (.bool p) := fun x => x.cell (by simp)
 have f1 : ∀ x : Cl (w.alloc (.cells #[.bool p, .bool mi, .bool true, .bool sp, .bool z, .int .i64 wid, .int .i64 prec, .int .i32 69] 198)), x.w.cell? ⟨w.heap.size, 1, none⟩ = some (.bool mi) := fun x => x.cell (by simp)
 have f2 : ∀ x : Cl (w.alloc (.cells #[.bool p, .bool mi, .bool true, .bool sp, .bool z, .int .i64 wid, .int .i64 prec, .int .i32 69] 198)), x.w.cell? ⟨w.heap.size, 2, none⟩ = some (.bool true) := fun x => x.cell (by simp)
 have f3 : ∀ x : Cl (w.alloc (.cells #[.bool p, .bool mi, .bool true, .bool sp, .bool z, .int .i64 wid, .int .i64 prec, .int .i32 69] 198)), x.w.cell? ⟨w.heap.size, 3, none⟩ = some (.bool sp) := fun x => x.cell (by simp)
 have f4 : ∀ x : Cl (w.alloc (.cells #[.bool p, .bool mi, .bool true, .bool sp, .bool z, .int .i64 wid, .int .i64 prec, .int .i32 69] 198)), x.w.cell? ⟨w.heap.size, 4, none⟩ = some (.bool z) := fun x => x.cell (by simp)
 have f5 : ∀ x : Cl (w.alloc (.cells #[.bool p, .bool mi, .bool true, .bool sp, .bool z, .int .i64 wid, .int .i64 prec, .int .i32 69] 198)), x.w.cell? ⟨w.heap.size, 5, none⟩ = some (.int .i64 wid) := fun x => x.cell (by simp)
 have f6 : ∀ x : Cl (w.alloc (.cells #[.bool p, .bool mi, .bool true, .bool sp, .bool z, .int .i64 wid, .int .i64 prec, .int .i32 69] 198)), x.w.cell? ⟨w.heap.size, 6, none⟩ = some (.int .i64 prec) := fun x => x.cell (by simp)
 have f7 : ∀ x : Cl (w.alloc (.cells #[.bool p, .bool mi, .bool true, .bool sp, .bool z, .int .i64 wid, .int .i64 prec, .int .i32 69] 198)), x.w.cell? ⟨w.heap.size, 7, none⟩ = some (.int .i32 69) := fun x => x.cell (by simp)
 have hW : WrC 69 (.func (.func 321) #[] #[]) true := writer_yes (verb := 69) (by decide)
 have hG : ∀ w, Calls Tryz.prog 289 #[.int .i32 69] w fun e w' => e = .returned (.bool true) ∧ w' = w := fun w => great_any 69 w
 go_enter Tryz.func246, Tryz.ntmps246
 go_wp2_with (first
  | (go_at_call 284; (with_reducible refine (hW _).mono ?_); rintro x w1 ⟨rfl, rfl⟩)
  | (go_at_call 16; (with_reducible refine (hP _).mono ?_); rintro x w2 ⟨rfl, hb2⟩; obtain ⟨y2, rfl⟩ := Cl.start hb2)
  | (go_at_call 321; (with_reducible refine (hN _).mono ?_); rintro x w4 ⟨rfl, hb4⟩; obtain ⟨y4, rfl⟩ := Cl.next hb4)
  | (go_at_call 289; (with_reducible refine (hG _).mono ?_); rintro x w1 ⟨rfl, rfl⟩)
  | (go_at_call 290; (with_reducible refine (hU _).mono ?_); rintro x w5 ⟨rfl, hb5⟩; obtain ⟨y5, rfl⟩ := Cl.next hb5))
 refine wp_region_above (w.alloc (.cells #[.bool p, .bool mi, .bool true, .bool sp, .bool z, .int .i64 wid, .int .i64 prec, .int .i32 69] 198)) y5.below (by kernel_rfl) (by kernel_rfl) ?_
 intro hCl
 repeat (go_big_quiet_step ((first | (go_at_call 287; exact Cl.call (hS _)) | (go_at_call 291; exact Cl.call (hF _)))))
 refine wpQuiet_nil ?_
 intro _ hw'
 obtain ⟨z9, hz⟩ := hw'
 subst hz
 go_wp2
 go_returns
 exact ⟨rfl, bel_call hbA z9.below (Nat.le_refl _)⟩
set_option maxRecDepth 1000000 in
set_option maxHeartbeats 4000000 in
theorem fin_69_false {bits m : Nat} {size e : Int} {sg : Bool} {T U S R : ByteArray} {P : Int} (p mi sp z : Bool) (wid prec : Int) (hP : PtC bits size sg m e 0) (hmin : min prec 1000 = P)
  (hN : ∀ w, Calls Tryz.prog 321 #[.agg #[.int .u64 bits, .int .i64 size, .int .u64 m, .int .i64 e, .int .i64 P, .bool false]] w fun x w' => x = .returned (.string T) ∧ Below w.heap.size w w') (hU : ∀ w, Calls Tryz.prog 290 #[.string T] w fun x w' => x = .returned (.string U) ∧ Below w.heap.size w w')
  (hS : ∀ w, Calls Tryz.prog 287 #[.bool sg, .agg #[.bool p, .bool mi, .bool false, .bool sp, .bool z, .int .i64 wid, .int .i64 prec, .int .i32 69]] w fun x w' => x = .returned (.string S) ∧ Below w.heap.size w w')
  (hF : ∀ w, Calls Tryz.prog 291 #[.string S, .string U, .agg #[.bool p, .bool mi, .bool false, .bool sp, .bool z, .int .i64 wid, .int .i64 prec, .int .i32 69]] w fun x w' => x = .returned (.string R) ∧ Below w.heap.size w w') : FlCq bits size p mi false sp z wid prec 69 R true := fun w => by
 have hbA : Below w.heap.size w (w.alloc (.cells #[.bool p, .bool mi, .bool false, .bool sp, .bool z, .int .i64 wid, .int .i64 prec, .int .i32 69] 198)) := (Below.refl _ _).alloc (Nat.le_refl _) _
 have f0 : ∀ x : Cl (w.alloc (.cells #[.bool p, .bool mi, .bool false, .bool sp, .bool z, .int .i64 wid, .int .i64 prec, .int .i32 69] 198)), x.w.cell? ⟨w.heap.size, 0, none⟩ = some (.bool p) := fun x => x.cell (by simp)
 have f1 : ∀ x : Cl (w.alloc (.cells #[.bool p, .bool mi, .bool false, .bool sp, .bool z, .int .i64 wid, .int .i64 prec, .int .i32 69] 198)), x.w.cell? ⟨w.heap.size, 1, none⟩ = some (.bool mi) := fun x => x.cell (by simp)
 have f2 : ∀ x : Cl (w.alloc (.cells #[.bool p, .bool mi, .bool false, .bool sp, .bool z, .int .i64 wid, .int .i64 prec, .int .i32 69] 198)), x.w.cell? ⟨w.heap.size, 2, none⟩ = some (.bool false) := fun x => x.cell (by simp)
 have f3 : ∀ x : Cl (w.alloc (.cells #[.bool p, .bool mi, .bool false, .bool sp, .bool z, .int .i64 wid, .int .i64 prec, .int .i32 69] 198)), x.w.cell? ⟨w.heap.size, 3, none⟩ = some (.bool sp) := fun x => x.cell (by simp)
 have f4 : ∀ x : Cl (w.alloc (.cells #[.bool p, .bool mi, .bool false, .bool sp, .bool z, .int .i64 wid, .int .i64 prec, .int .i32 69] 198)), x.w.cell? ⟨w.heap.size, 4, none⟩ = some (.bool z) := fun x => x.cell (by simp)
 have f5 : ∀ x : Cl (w.alloc (.cells #[.bool p, .bool mi, .bool false, .bool sp, .bool z, .int .i64 wid, .int .i64 prec, .int .i32 69] 198)), x.w.cell? ⟨w.heap.size, 5, none⟩ = some (.int .i64 wid) := fun x => x.cell (by simp)
 have f6 : ∀ x : Cl (w.alloc (.cells #[.bool p, .bool mi, .bool false, .bool sp, .bool z, .int .i64 wid, .int .i64 prec, .int .i32 69] 198)), x.w.cell? ⟨w.heap.size, 6, none⟩ = some (.int .i64 prec) := fun x => x.cell (by simp)
 have f7 : ∀ x : Cl (w.alloc (.cells #[.bool p, .bool mi, .bool false, .bool sp, .bool z, .int .i64 wid, .int .i64 prec, .int .i32 69] 198)), x.w.cell? ⟨w.heap.size, 7, none⟩ = some (.int .i32 69) := fun x => x.cell (by simp)
 have hW : WrC 69 (.func (.func 321) #[] #[]) true := writer_yes (verb := 69) (by decide)
 have hG : ∀ w, Calls Tryz.prog 289 #[.int .i32 69] w fun e w' => e = .returned (.bool true) ∧ w' = w := fun w => great_any 69 w
 go_enter Tryz.func246, Tryz.ntmps246
 go_wp2_with (first
  | (go_at_call 284; (with_reducible refine (hW _).mono ?_); rintro x w1 ⟨rfl, rfl⟩)
  | (go_at_call 16; (with_reducible refine (hP _).mono ?_); rintro x w2 ⟨rfl, hb2⟩; obtain ⟨y2, rfl⟩ := Cl.start hb2)
  | (go_at_call 321; (with_reducible refine (hN _).mono ?_); rintro x w4 ⟨rfl, hb4⟩; obtain ⟨y4, rfl⟩ := Cl.next hb4)
  | (go_at_call 289; (with_reducible refine (hG _).mono ?_); rintro x w1 ⟨rfl, rfl⟩)
  | (go_at_call 290; (with_reducible refine (hU _).mono ?_); rintro x w5 ⟨rfl, hb5⟩; obtain ⟨y5, rfl⟩ := Cl.next hb5))
 refine wp_region_above (w.alloc (.cells #[.bool p, .bool mi, .bool false, .bool sp, .bool z, .int .i64 wid, .int .i64 prec, .int .i32 69] 198)) y5.below (by kernel_rfl) (by kernel_rfl) ?_
 intro hCl
 repeat (go_big_quiet_step ((first | (go_at_call 287; exact Cl.call (hS _)) | (go_at_call 291; exact Cl.call (hF _)))))
 refine wpQuiet_nil ?_
 intro _ hw'
 obtain ⟨z9, hz⟩ := hw'
 subst hz
 go_wp2
 go_returns
 exact ⟨rfl, bel_call hbA z9.below (Nat.le_refl _)⟩
set_option maxRecDepth 1000000 in
set_option maxHeartbeats 4000000 in
theorem fin_102_true {bits m : Nat} {size e : Int} {sg : Bool} {T S R : ByteArray} {P : Int} (p mi sp z : Bool) (wid prec : Int) (hP : PtC bits size sg m e 0) (hmin : min prec 1000 = P)
  (hN : ∀ w, Calls Tryz.prog 322 #[.agg #[.int .u64 bits, .int .i64 size, .int .u64 m, .int .i64 e, .int .i64 P, .bool true]] w fun x w' => x = .returned (.string T) ∧ Below w.heap.size w w')
  (hS : ∀ w, Calls Tryz.prog 287 #[.bool sg, .agg #[.bool p, .bool mi, .bool true, .bool sp, .bool z, .int .i64 wid, .int .i64 prec, .int .i32 102]] w fun x w' => x = .returned (.string S) ∧ Below w.heap.size w w')
  (hF : ∀ w, Calls Tryz.prog 291 #[.string S, .string T, .agg #[.bool p, .bool mi, .bool true, .bool sp, .bool z, .int .i64 wid, .int .i64 prec, .int .i32 102]] w fun x w' => x = .returned (.string R) ∧ Below w.heap.size w w') : FlCq bits size p mi true sp z wid prec 102 R true := fun w => by
 have hbA : Below w.heap.size w (w.alloc (.cells #[.bool p, .bool mi, .bool true, .bool sp, .bool z, .int .i64 wid, .int .i64 prec, .int .i32 102] 198)) := (Below.refl _ _).alloc (Nat.le_refl _) _
 have f0 : ∀ x : Cl (w.alloc (.cells #[.bool p, .bool mi, .bool true, .bool sp, .bool z, .int .i64 wid, .int .i64 prec, .int .i32 102] 198)), x.w.cell? ⟨w.heap.size, 0, none⟩ = some (.bool p) := fun x => x.cell (by simp)
 have f1 : ∀ x : Cl (w.alloc (.cells #[.bool p, .bool mi, .bool true, .bool sp, .bool z, .int .i64 wid, .int .i64 prec, .int .i32 102] 198)), x.w.cell? ⟨w.heap.size, 1, none⟩ = some (.bool mi) := fun x => x.cell (by simp)
 have f2 : ∀ x : Cl (w.alloc (.cells #[.bool p, .bool mi, .bool true, .bool sp, .bool z, .int .i64 wid, .int .i64 prec, .int .i32 102] 198)), x.w.cell? ⟨w.heap.size, 2, none⟩ = some (.bool true) := fun x => x.cell (by simp)
 have f3 : ∀ x : Cl (w.alloc (.cells #[.bool p, .bool mi, .bool true, .bool sp, .bool z, .int .i64 wid, .int .i64 prec, .int .i32 102] 198)), x.w.cell? ⟨w.heap.size, 3, none⟩ = some (.bool sp) := fun x => x.cell (by simp)
 have f4 : ∀ x : Cl (w.alloc (.cells #[.bool p, .bool mi, .bool true, .bool sp, .bool z, .int .i64 wid, .int .i64 prec, .int .i32 102] 198)), x.w.cell? ⟨w.heap.size, 4, none⟩ = some (.bool z) := fun x => x.cell (by simp)
 have f5 : ∀ x : Cl (w.alloc (.cells #[.bool p, .bool mi, .bool true, .bool sp, .bool z, .int .i64 wid, .int .i64 prec, .int .i32 102] 198)), x.w.cell? ⟨w.heap.size, 5, none⟩ = some (.int .i64 wid) := fun x => x.cell (by simp)
 have f6 : ∀ x : Cl (w.alloc (.cells #[.bool p, .bool mi, .bool true, .bool sp, .bool z, .int .i64 wid, .int .i64 prec, .int .i32 102] 198)), x.w.cell? ⟨w.heap.size, 6, none⟩ = some (.int .i64 prec) := fun x => x.cell (by simp)
 have f7 : ∀ x : Cl (w.alloc (.cells #[.bool p, .bool mi, .bool true, .bool sp, .bool z, .int .i64 wid, .int .i64 prec, .int .i32 102] 198)), x.w.cell? ⟨w.heap.size, 7, none⟩ = some (.int .i32 102) := fun x => x.cell (by simp)
 have hW : WrC 102 (.func (.func 322) #[] #[]) true := writer_yes (verb := 102) (by decide)
 have hG : ∀ w, Calls Tryz.prog 289 #[.int .i32 102] w fun e w' => e = .returned (.bool false) ∧ w' = w := fun w => great_any 102 w
 go_enter Tryz.func246, Tryz.ntmps246
 go_wp2_with (first
  | (go_at_call 284; (with_reducible refine (hW _).mono ?_); rintro x w1 ⟨rfl, rfl⟩)
  | (go_at_call 16; (with_reducible refine (hP _).mono ?_); rintro x w2 ⟨rfl, hb2⟩; obtain ⟨y2, rfl⟩ := Cl.start hb2)
  | (go_at_call 322; (with_reducible refine (hN _).mono ?_); rintro x w4 ⟨rfl, hb4⟩; obtain ⟨y4, rfl⟩ := Cl.next hb4)
  | (go_at_call 289; (with_reducible refine (hG _).mono ?_); rintro x w1 ⟨rfl, rfl⟩))
 refine wp_region_above (w.alloc (.cells #[.bool p, .bool mi, .bool true, .bool sp, .bool z, .int .i64 wid, .int .i64 prec, .int .i32 102] 198)) y4.below (by kernel_rfl) (by kernel_rfl) ?_
 intro hCl
 repeat (go_big_quiet_step ((first | (go_at_call 287; exact Cl.call (hS _)) | (go_at_call 291; exact Cl.call (hF _)))))
 refine wpQuiet_nil ?_
 intro _ hw'
 obtain ⟨z9, hz⟩ := hw'
 subst hz
 go_wp2
 go_returns
 exact ⟨rfl, bel_call hbA z9.below (Nat.le_refl _)⟩
set_option maxRecDepth 1000000 in
set_option maxHeartbeats 4000000 in
theorem fin_102_false {bits m : Nat} {size e : Int} {sg : Bool} {T S R : ByteArray} {P : Int} (p mi sp z : Bool) (wid prec : Int) (hP : PtC bits size sg m e 0) (hmin : min prec 1000 = P)
  (hN : ∀ w, Calls Tryz.prog 322 #[.agg #[.int .u64 bits, .int .i64 size, .int .u64 m, .int .i64 e, .int .i64 P, .bool false]] w fun x w' => x = .returned (.string T) ∧ Below w.heap.size w w')
  (hS : ∀ w, Calls Tryz.prog 287 #[.bool sg, .agg #[.bool p, .bool mi, .bool false, .bool sp, .bool z, .int .i64 wid, .int .i64 prec, .int .i32 102]] w fun x w' => x = .returned (.string S) ∧ Below w.heap.size w w')
  (hF : ∀ w, Calls Tryz.prog 291 #[.string S, .string T, .agg #[.bool p, .bool mi, .bool false, .bool sp, .bool z, .int .i64 wid, .int .i64 prec, .int .i32 102]] w fun x w' => x = .returned (.string R) ∧ Below w.heap.size w w') : FlCq bits size p mi false sp z wid prec 102 R true := fun w => by
 have hbA : Below w.heap.size w (w.alloc (.cells #[.bool p, .bool mi, .bool false, .bool sp, .bool z, .int .i64 wid, .int .i64 prec, .int .i32 102] 198)) := (Below.refl _ _).alloc (Nat.le_refl _) _
 have f0 : ∀ x : Cl (w.alloc (.cells #[.bool p, .bool mi, .bool false, .bool sp, .bool z, .int .i64 wid, .int .i64 prec, .int .i32 102] 198)), x.w.cell? ⟨w.heap.size, 0, none⟩ = some (.bool p) := fun x => x.cell (by simp)
 have f1 : ∀ x : Cl (w.alloc (.cells #[.bool p, .bool mi, .bool false, .bool sp, .bool z, .int .i64 wid, .int .i64 prec, .int .i32 102] 198)), x.w.cell? ⟨w.heap.size, 1, none⟩ = some (.bool mi) := fun x => x.cell (by simp)
 have f2 : ∀ x : Cl (w.alloc (.cells #[.bool p, .bool mi, .bool false, .bool sp, .bool z, .int .i64 wid, .int .i64 prec, .int .i32 102] 198)), x.w.cell? ⟨w.heap.size, 2, none⟩ = some (.bool false) := fun x => x.cell (by simp)
 have f3 : ∀ x : Cl (w.alloc (.cells #[.bool p, .bool mi, .bool false, .bool sp, .bool z, .int .i64 wid, .int .i64 prec, .int .i32 102] 198)), x.w.cell? ⟨w.heap.size, 3, none⟩ = some (.bool sp) := fun x => x.cell (by simp)
 have f4 : ∀ x : Cl (w.alloc (.cells #[.bool p, .bool mi, .bool false, .bool sp, .bool z, .int .i64 wid, .int .i64 prec, .int .i32 102] 198)), x.w.cell? ⟨w.heap.size, 4, none⟩ = some (.bool z) := fun x => x.cell (by simp)
 have f5 : ∀ x : Cl (w.alloc (.cells #[.bool p, .bool mi, .bool false, .bool sp, .bool z, .int .i64 wid, .int .i64 prec, .int .i32 102] 198)), x.w.cell? ⟨w.heap.size, 5, none⟩ = some (.int .i64 wid) := fun x => x.cell (by simp)
 have f6 : ∀ x : Cl (w.alloc (.cells #[.bool p, .bool mi, .bool false, .bool sp, .bool z, .int .i64 wid, .int .i64 prec, .int .i32 102] 198)), x.w.cell? ⟨w.heap.size, 6, none⟩ = some (.int .i64 prec) := fun x => x.cell (by simp)
 have f7 : ∀ x : Cl (w.alloc (.cells #[.bool p, .bool mi, .bool false, .bool sp, .bool z, .int .i64 wid, .int .i64 prec, .int .i32 102] 198)), x.w.cell? ⟨w.heap.size, 7, none⟩ = some (.int .i32 102) := fun x => x.cell (by simp)
 have hW : WrC 102 (.func (.func 322) #[] #[]) true := writer_yes (verb := 102) (by decide)
 have hG : ∀ w, Calls Tryz.prog 289 #[.int .i32 102] w fun e w' => e = .returned (.bool false) ∧ w' = w := fun w => great_any 102 w
 go_enter Tryz.func246, Tryz.ntmps246
 go_wp2_with (first
  | (go_at_call 284; (with_reducible refine (hW _).mono ?_); rintro x w1 ⟨rfl, rfl⟩)
  | (go_at_call 16; (with_reducible refine (hP _).mono ?_); rintro x w2 ⟨rfl, hb2⟩; obtain ⟨y2, rfl⟩ := Cl.start hb2)
  | (go_at_call 322; (with_reducible refine (hN _).mono ?_); rintro x w4 ⟨rfl, hb4⟩; obtain ⟨y4, rfl⟩ := Cl.next hb4)
  | (go_at_call 289; (with_reducible refine (hG _).mono ?_); rintro x w1 ⟨rfl, rfl⟩))
 refine wp_region_above (w.alloc (.cells #[.bool p, .bool mi, .bool false, .bool sp, .bool z, .int .i64 wid, .int .i64 prec, .int .i32 102] 198)) y4.below (by kernel_rfl) (by kernel_rfl) ?_
 intro hCl
 repeat (go_big_quiet_step ((first | (go_at_call 287; exact Cl.call (hS _)) | (go_at_call 291; exact Cl.call (hF _)))))
 refine wpQuiet_nil ?_
 intro _ hw'
 obtain ⟨z9, hz⟩ := hw'
 subst hz
 go_wp2
 go_returns
 exact ⟨rfl, bel_call hbA z9.below (Nat.le_refl _)⟩
end Go.Proofs.YtiagjheifblkiaaGreatDoor
namespace Go.Proofs.YtiagjheifblkiaaGreatDoor
open Go.RowKit
set_option linter.unusedVariables false
set_option linter.unusedSimpArgs false
set_option maxRecDepth 1000000 in
set_option maxHeartbeats 4000000 in
theorem fin_70_true {bits m : Nat} {size e : Int} {sg : Bool} {T S R : ByteArray} {P : Int} (p mi sp z : Bool) (wid prec : Int) (hP : PtC bits size sg m e 0) (hmin : min prec 1000 = P)
  (hN : ∀ w, Calls Tryz.prog 322 #[.agg #[.int .u64 bits, .int .i64 size, .int .u64 m, .int .i64 e, .int .i64 P, .bool true]] w fun x w' => x = .returned (.string T) ∧ Below w.heap.size w w')
  (hS : ∀ w, Calls Tryz.prog 287 #[.bool sg, .agg #[.bool p, .bool mi, .bool true, .bool sp, .bool z, .int .i64 wid, .int .i64 prec, .int .i32 70]] w fun x w' => x = .returned (.string S) ∧ Below w.heap.size w w')
  (hF : ∀ w, Calls Tryz.prog 291 #[.string S, .string T, .agg #[.bool p, .bool mi, .bool true, .bool sp, .bool z, .int .i64 wid, .int .i64 prec, .int .i32 70]] w fun x w' => x = .returned (.string R) ∧ Below w.heap.size w w') : FlCq bits size p mi true sp z wid prec 70 R true := fun w => by
 have hbA : Below w.heap.size w (w.alloc (.cells #[.bool p, .bool mi, .bool true, .bool sp, .bool z, .int .i64 wid, .int .i64 prec, .int .i32 70] 198)) := (Below.refl _ _).alloc (Nat.le_refl _) _
 have f0 : ∀ x : Cl (w.alloc (.cells #[.bool p, .bool mi, .bool true, .bool sp, .bool z, .int .i64 wid, .int .i64 prec, .int .i32 70] 198)), x.w.cell? ⟨w.heap.size, 0, none⟩ = some (.bool p) := fun x => x.cell (by simp)
 have f1 : ∀ x : Cl (w.alloc (.cells #[.bool p, .bool mi, .bool true, .bool sp, .bool z, .int .i64 wid, .int .i64 prec, .int .i32 70] 198)), x.w.cell? ⟨w.heap.size, 1, none⟩ = some (.bool mi) := fun x => x.cell (by simp)
 have f2 : ∀ x : Cl (w.alloc (.cells #[.bool p, .bool mi, .bool true, .bool sp, .bool z, .int .i64 wid, .int .i64 prec, .int .i32 70] 198)), x.w.cell? ⟨w.heap.size, 2, none⟩ = some (.bool true) := fun x => x.cell (by simp)
 have f3 : ∀ x : Cl (w.alloc (.cells #[.bool p, .bool mi, .bool true, .bool sp, .bool z, .int .i64 wid, .int .i64 prec, .int .i32 70] 198)), x.w.cell? ⟨w.heap.size, 3, none⟩ = some (.bool sp) := fun x => x.cell (by simp)
 have f4 : ∀ x : Cl (w.alloc (.cells #[.bool p, .bool mi, .bool true, .bool sp, .bool z, .int .i64 wid, .int .i64 prec, .int .i32 70] 198)), x.w.cell? ⟨w.heap.size, 4, none⟩ = some (.bool z) := fun x => x.cell (by simp)
 have f5 : ∀ x : Cl (w.alloc (.cells #[.bool p, .bool mi, .bool true, .bool sp, .bool z, .int .i64 wid, .int .i64 prec, .int .i32 70] 198)), x.w.cell? ⟨w.heap.size, 5, none⟩ = some (.int .i64 wid) := fun x => x.cell (by simp)
 have f6 : ∀ x : Cl (w.alloc (.cells #[.bool p, .bool mi, .bool true, .bool sp, .bool z, .int .i64 wid, .int .i64 prec, .int .i32 70] 198)), x.w.cell? ⟨w.heap.size, 6, none⟩ = some (.int .i64 prec) := fun x => x.cell (by simp)
 have f7 : ∀ x : Cl (w.alloc (.cells #[.bool p, .bool mi, .bool true, .bool sp, .bool z, .int .i64 wid, .int .i64 prec, .int .i32 70] 198)), x.w.cell? ⟨w.heap.size, 7, none⟩ = some (.int .i32 70) := fun x => x.cell (by simp)
 have hW : WrC 70 (.func (.func 322) #[] #[]) true := writer_yes (verb := 70) (by decide)
 have hG : ∀ w, Calls Tryz.prog 289 #[.int .i32 70] w fun e w' => e = .returned (.bool false) ∧ w' = w := fun w => great_any 70 w
 go_enter Tryz.func246, Tryz.ntmps246
 go_wp2_with (first
  | (go_at_call 284; (with_reducible refine (hW _).mono ?_); rintro x w1 ⟨rfl, rfl⟩)
  | (go_at_call 16; (with_reducible refine (hP _).mono ?_); rintro x w2 ⟨rfl, hb2⟩; obtain ⟨y2, rfl⟩ := Cl.start hb2)
  | (go_at_call 322; (with_reducible refine (hN _).mono ?_); rintro x w4 ⟨rfl, hb4⟩; obtain ⟨y4, rfl⟩ := Cl.next hb4)
  | (go_at_call 289; (with_reducible refine (hG _).mono ?_); rintro x w1 ⟨rfl, rfl⟩))
 refine wp_region_above (w.alloc (.cells #[.bool p, .bool mi, .bool true, .bool sp, .bool z, .int .i64 wid, .int .i64 prec, .int .i32 70] 198)) y4.below (by kernel_rfl) (by kernel_rfl) ?_
 intro hCl
 repeat (go_big_quiet_step ((first | (go_at_call 287; exact Cl.call (hS _)) | (go_at_call 291; exact Cl.call (hF _)))))
 refine wpQuiet_nil ?_
 intro _ hw'
 obtain ⟨z9, hz⟩ := hw'
 subst hz
 go_wp2
 go_returns
 exact ⟨rfl, bel_call hbA z9.below (Nat.le_refl _)⟩
set_option maxRecDepth 1000000 in
set_option maxHeartbeats 4000000 in
theorem fin_70_false {bits m : Nat} {size e : Int} {sg : Bool} {T S R : ByteArray} {P : Int} (p mi sp z : Bool) (wid prec : Int) (hP : PtC bits size sg m e 0) (hmin : min prec 1000 = P)
  (hN : ∀ w, Calls Tryz.prog 322 #[.agg #[.int .u64 bits, .int .i64 size, .int .u64 m, .int .i64 e, .int .i64 P, .bool false]] w fun x w' => x = .returned (.string T) ∧ Below w.heap.size w w')
  (hS : ∀ w, Calls Tryz.prog 287 #[.bool sg, .agg #[.bool p, .bool mi, .bool false, .bool sp, .bool z, .int .i64 wid, .int .i64 prec, .int .i32 70]] w fun x w' => x = .returned (.string S) ∧ Below w.heap.size w w')
  (hF : ∀ w, Calls Tryz.prog 291 #[.string S, .string T, .agg #[.bool p, .bool mi, .bool false, .bool sp, .bool z, .int .i64 wid, .int .i64 prec, .int .i32 70]] w fun x w' => x = .returned (.string R) ∧ Below w.heap.size w w') : FlCq bits size p mi false sp z wid prec 70 R true := fun w => by
 have hbA : Below w.heap.size w (w.alloc (.cells #[.bool p, .bool mi, .bool false, .bool sp, .bool z, .int .i64 wid, .int .i64 prec, .int .i32 70] 198)) := (Below.refl _ _).alloc (Nat.le_refl _) _
 have f0 : ∀ x : Cl (w.alloc (.cells #[.bool p, .bool mi, .bool false, .bool sp, .bool z, .int .i64 wid, .int .i64 prec, .int .i32 70] 198)), x.w.cell? ⟨w.heap.size, 0, none⟩ = some (.bool p) := fun x => x.cell (by simp)
 have f1 : ∀ x : Cl (w.alloc (.cells #[.bool p, .bool mi, .bool false, .bool sp, .bool z, .int .i64 wid, .int .i64 prec, .int .i32 70] 198)), x.w.cell? ⟨w.heap.size, 1, none⟩ = some (.bool mi) := fun x => x.cell (by simp)
 have f2 : ∀ x : Cl (w.alloc (.cells #[.bool p, .bool mi, .bool false, .bool sp, .bool z, .int .i64 wid, .int .i64 prec, .int .i32 70] 198)), x.w.cell? ⟨w.heap.size, 2, none⟩ = some (.bool false) := fun x => x.cell (by simp)
 have f3 : ∀ x : Cl (w.alloc (.cells #[.bool p, .bool mi, .bool false, .bool sp, .bool z, .int .i64 wid, .int .i64 prec, .int .i32 70] 198)), x.w.cell? ⟨w.heap.size, 3, none⟩ = some (.bool sp) := fun x => x.cell (by simp)
 have f4 : ∀ x : Cl (w.alloc (.cells #[.bool p, .bool mi, .bool false, .bool sp, .bool z, .int .i64 wid, .int .i64 prec, .int .i32 70] 198)), x.w.cell? ⟨w.heap.size, 4, none⟩ = some (.bool z) := fun x => x.cell (by simp)
 have f5 : ∀ x : Cl (w.alloc (.cells #[.bool p, .bool mi, .bool false, .bool sp, .bool z, .int .i64 wid, .int .i64 prec, .int .i32 70] 198)), x.w.cell? ⟨w.heap.size, 5, none⟩ = some (.int .i64 wid) := fun x => x.cell (by simp)
 have f6 : ∀ x : Cl (w.alloc (.cells #[.bool p, .bool mi, .bool false, .bool sp, .bool z, .int .i64 wid, .int .i64 prec, .int .i32 70] 198)), x.w.cell? ⟨w.heap.size, 6, none⟩ = some (.int .i64 prec) := fun x => x.cell (by simp)
 have f7 : ∀ x : Cl (w.alloc (.cells #[.bool p, .bool mi, .bool false, .bool sp, .bool z, .int .i64 wid, .int .i64 prec, .int .i32 70] 198)), x.w.cell? ⟨w.heap.size, 7, none⟩ = some (.int .i32 70) := fun x => x.cell (by simp)
 have hW : WrC 70 (.func (.func 322) #[] #[]) true := writer_yes (verb := 70) (by decide)
 have hG : ∀ w, Calls Tryz.prog 289 #[.int .i32 70] w fun e w' => e = .returned (.bool false) ∧ w' = w := fun w => great_any 70 w
 go_enter Tryz.func246, Tryz.ntmps246
 go_wp2_with (first
  | (go_at_call 284; (with_reducible refine (hW _).mono ?_); rintro x w1 ⟨rfl, rfl⟩)
  | (go_at_call 16; (with_reducible refine (hP _).mono ?_); rintro x w2 ⟨rfl, hb2⟩; obtain ⟨y2, rfl⟩ := Cl.start hb2)
  | (go_at_call 322; (with_reducible refine (hN _).mono ?_); rintro x w4 ⟨rfl, hb4⟩; obtain ⟨y4, rfl⟩ := Cl.next hb4)
  | (go_at_call 289; (with_reducible refine (hG _).mono ?_); rintro x w1 ⟨rfl, rfl⟩))
 refine wp_region_above (w.alloc (.cells #[.bool p, .bool mi, .bool false, .bool sp, .bool z, .int .i64 wid, .int .i64 prec, .int .i32 70] 198)) y4.below (by kernel_rfl) (by kernel_rfl) ?_
 intro hCl
 repeat (go_big_quiet_step ((first | (go_at_call 287; exact Cl.call (hS _)) | (go_at_call 291; exact Cl.call (hF _)))))
 refine wpQuiet_nil ?_
 intro _ hw'
 obtain ⟨z9, hz⟩ := hw'
 subst hz
 go_wp2
 go_returns
 exact ⟨rfl, bel_call hbA z9.below (Nat.le_refl _)⟩
set_option maxRecDepth 1000000 in
set_option maxHeartbeats 4000000 in
theorem fin_98_true {bits m : Nat} {size e : Int} {sg : Bool} {T S R : ByteArray} {P : Int} (p mi sp z : Bool) (wid prec : Int) (hP : PtC bits size sg m e 0) (hmin : min prec 1000 = P)
  (hN : ∀ w, Calls Tryz.prog 324 #[.agg #[.int .u64 bits, .int .i64 size, .int .u64 m, .int .i64 e, .int .i64 P, .bool true]] w fun x w' => x = .returned (.string T) ∧ Below w.heap.size w w')
  (hS : ∀ w, Calls Tryz.prog 287 #[.bool sg, .agg #[.bool p, .bool mi, .bool true, .bool sp, .bool z, .int .i64 wid, .int .i64 prec, .int .i32 98]] w fun x w' => x = .returned (.string S) ∧ Below w.heap.size w w')
  (hF : ∀ w, Calls Tryz.prog 291 #[.string S, .string T, .agg #[.bool p, .bool mi, .bool true, .bool sp, .bool z, .int .i64 wid, .int .i64 prec, .int .i32 98]] w fun x w' => x = .returned (.string R) ∧ Below w.heap.size w w') : FlCq bits size p mi true sp z wid prec 98 R true := fun w => by
 have hbA : Below w.heap.size w (w.alloc (.cells #[.bool p, .bool mi, .bool true, .bool sp, .bool z, .int .i64 wid, .int .i64 prec, .int .i32 98] 198)) := (Below.refl _ _).alloc (Nat.le_refl _) _
 have f0 : ∀ x : Cl (w.alloc (.cells #[.bool p, .bool mi, .bool true, .bool sp, .bool z, .int .i64 wid, .int .i64 prec, .int .i32 98] 198)), x.w.cell? ⟨w.heap.size, 0, none⟩ = some (.bool p) := fun x => x.cell (by simp)
 have f1 : ∀ x : Cl (w.alloc (.cells #[.bool p, .bool mi, .bool true, .bool sp, .bool z, .int .i64 wid, .int .i64 prec, .int .i32 98] 198)), x.w.cell? ⟨w.heap.size, 1, none⟩ = some (.bool mi) := fun x => x.cell (by simp)
 have f2 : ∀ x : Cl (w.alloc (.cells #[.bool p, .bool mi, .bool true, .bool sp, .bool z, .int .i64 wid, .int .i64 prec, .int .i32 98] 198)), x.w.cell? ⟨w.heap.size, 2, none⟩ = some (.bool true) := fun x => x.cell (by simp)
 have f3 : ∀ x : Cl (w.alloc (.cells #[.bool p, .bool mi, .bool true, .bool sp, .bool z, .int .i64 wid, .int .i64 prec, .int .i32 98] 198)), x.w.cell? ⟨w.heap.size, 3, none⟩ = some (.bool sp) := fun x => x.cell (by simp)
 have f4 : ∀ x : Cl (w.alloc (.cells #[.bool p, .bool mi, .bool true, .bool sp, .bool z, .int .i64 wid, .int .i64 prec, .int .i32 98] 198)), x.w.cell? ⟨w.heap.size, 4, none⟩ = some (.bool z) := fun x => x.cell (by simp)
 have f5 : ∀ x : Cl (w.alloc (.cells #[.bool p, .bool mi, .bool true, .bool sp, .bool z, .int .i64 wid, .int .i64 prec, .int .i32 98] 198)), x.w.cell? ⟨w.heap.size, 5, none⟩ = some (.int .i64 wid) := fun x => x.cell (by simp)
 have f6 : ∀ x : Cl (w.alloc (.cells #[.bool p, .bool mi, .bool true, .bool sp, .bool z, .int .i64 wid, .int .i64 prec, .int .i32 98] 198)), x.w.cell? ⟨w.heap.size, 6, none⟩ = some (.int .i64 prec) := fun x => x.cell (by simp)
 have f7 : ∀ x : Cl (w.alloc (.cells #[.bool p, .bool mi, .bool true, .bool sp, .bool z, .int .i64 wid, .int .i64 prec, .int .i32 98] 198)), x.w.cell? ⟨w.heap.size, 7, none⟩ = some (.int .i32 98) := fun x => x.cell (by simp)
 have hW : WrC 98 (.func (.func 324) #[] #[]) true := writer_yes (verb := 98) (by decide)
 have hG : ∀ w, Calls Tryz.prog 289 #[.int .i32 98] w fun e w' => e = .returned (.bool false) ∧ w' = w := fun w => great_any 98 w
 go_enter Tryz.func246, Tryz.ntmps246
 go_wp2_with (first
  | (go_at_call 284; (with_reducible refine (hW _).mono ?_); rintro x w1 ⟨rfl, rfl⟩)
  | (go_at_call 16; (with_reducible refine (hP _).mono ?_); rintro x w2 ⟨rfl, hb2⟩; obtain ⟨y2, rfl⟩ := Cl.start hb2)
  | (go_at_call 324; (with_reducible refine (hN _).mono ?_); rintro x w4 ⟨rfl, hb4⟩; obtain ⟨y4, rfl⟩ := Cl.next hb4)
  | (go_at_call 289; (with_reducible refine (hG _).mono ?_); rintro x w1 ⟨rfl, rfl⟩))
 refine wp_region_above (w.alloc (.cells #[.bool p, .bool mi, .bool true, .bool sp, .bool z, .int .i64 wid, .int .i64 prec, .int .i32 98] 198)) y4.below (by kernel_rfl) (by kernel_rfl) ?_
 intro hCl
 repeat (go_big_quiet_step ((first | (go_at_call 287; exact Cl.call (hS _)) | (go_at_call 291; exact Cl.call (hF _)))))
 refine wpQuiet_nil ?_
 intro _ hw'
 obtain ⟨z9, hz⟩ := hw'
 subst hz
 go_wp2
 go_returns
 exact ⟨rfl, bel_call hbA z9.below (Nat.le_refl _)⟩
set_option maxRecDepth 1000000 in
set_option maxHeartbeats 4000000 in
theorem fin_98_false {bits m : Nat} {size e : Int} {sg : Bool} {T S R : ByteArray} {P : Int} (p mi sp z : Bool) (wid prec : Int) (hP : PtC bits size sg m e 0) (hmin : min prec 1000 = P)
  (hN : ∀ w, Calls Tryz.prog 324 #[.agg #[.int .u64 bits, .int .i64 size, .int .u64 m, .int .i64 e, .int .i64 P, .bool false]] w fun x w' => x = .returned (.string T) ∧ Below w.heap.size w w')
  (hS : ∀ w, Calls Tryz.prog 287 #[.bool sg, .agg #[.bool p, .bool mi, .bool false, .bool sp, .bool z, .int .i64 wid, .int .i64 prec, .int .i32 98]] w fun x w' => x = .returned (.string S) ∧ Below w.heap.size w w')
  (hF : ∀ w, Calls Tryz.prog 291 #[.string S, .string T, .agg #[.bool p, .bool mi, .bool false, .bool sp, .bool z, .int .i64 wid, .int .i64 prec, .int .i32 98]] w fun x w' => x = .returned (.string R) ∧ Below w.heap.size w w') : FlCq bits size p mi false sp z wid prec 98 R true := fun w => by
 have hbA : Below w.heap.size w (w.alloc (.cells #[.bool p, .bool mi, .bool false, .bool sp, .bool z, .int .i64 wid, .int .i64 prec, .int .i32 98] 198)) := (Below.refl _ _).alloc (Nat.le_refl _) _
 have f0 : ∀ x : Cl (w.alloc (.cells #[.bool p, .bool mi, .bool false, .bool sp, .bool z, .int .i64 wid, .int .i64 prec, .int .i32 98] 198)), x.w.cell? ⟨w.heap.size, 0, none⟩ = some (.bool p) := fun x => x.cell (by simp)
 have f1 : ∀ x : Cl (w.alloc (.cells #[.bool p, .bool mi, .bool false, .bool sp, .bool z, .int .i64 wid, .int .i64 prec, .int .i32 98] 198)), x.w.cell? ⟨w.heap.size, 1, none⟩ = some (.bool mi) := fun x => x.cell (by simp)
 have f2 : ∀ x : Cl (w.alloc (.cells #[.bool p, .bool mi, .bool false, .bool sp, .bool z, .int .i64 wid, .int .i64 prec, .int .i32 98] 198)), x.w.cell? ⟨w.heap.size, 2, none⟩ = some (.bool false) := fun x => x.cell (by simp)
 have f3 : ∀ x : Cl (w.alloc (.cells #[.bool p, .bool mi, .bool false, .bool sp, .bool z, .int .i64 wid, .int .i64 prec, .int .i32 98] 198)), x.w.cell? ⟨w.heap.size, 3, none⟩ = some (.bool sp) := fun x => x.cell (by simp)
 have f4 : ∀ x : Cl (w.alloc (.cells #[.bool p, .bool mi, .bool false, .bool sp, .bool z, .int .i64 wid, .int .i64 prec, .int .i32 98] 198)), x.w.cell? ⟨w.heap.size, 4, none⟩ = some (.bool z) := fun x => x.cell (by simp)
 have f5 : ∀ x : Cl (w.alloc (.cells #[.bool p, .bool mi, .bool false, .bool sp, .bool z, .int .i64 wid, .int .i64 prec, .int .i32 98] 198)), x.w.cell? ⟨w.heap.size, 5, none⟩ = some (.int .i64 wid) := fun x => x.cell (by simp)
 have f6 : ∀ x : Cl (w.alloc (.cells #[.bool p, .bool mi, .bool false, .bool sp, .bool z, .int .i64 wid, .int .i64 prec, .int .i32 98] 198)), x.w.cell? ⟨w.heap.size, 6, none⟩ = some (.int .i64 prec) := fun x => x.cell (by simp)
 have f7 : ∀ x : Cl (w.alloc (.cells #[.bool p, .bool mi, .bool false, .bool sp, .bool z, .int .i64 wid, .int .i64 prec, .int .i32 98] 198)), x.w.cell? ⟨w.heap.size, 7, none⟩ = some (.int .i32 98) := fun x => x.cell (by simp)
 have hW : WrC 98 (.func (.func 324) #[] #[]) true := writer_yes (verb := 98) (by decide)
 have hG : ∀ w, Calls Tryz.prog 289 #[.int .i32 98] w fun e w' => e = .returned (.bool false) ∧ w' = w := fun w => great_any 98 w
 go_enter Tryz.func246, Tryz.ntmps246
 go_wp2_with (first
  | (go_at_call 284; (with_reducible refine (hW _).mono ?_); rintro x w1 ⟨rfl, rfl⟩)
  | (go_at_call 16; (with_reducible refine (hP _).mono ?_); rintro x w2 ⟨rfl, hb2⟩; obtain ⟨y2, rfl⟩ := Cl.start hb2)
  | (go_at_call 324; (with_reducible refine (hN _).mono ?_); rintro x w4 ⟨rfl, hb4⟩; obtain ⟨y4, rfl⟩ := Cl.next hb4)
  | (go_at_call 289; (with_reducible refine (hG _).mono ?_); rintro x w1 ⟨rfl, rfl⟩))
 refine wp_region_above (w.alloc (.cells #[.bool p, .bool mi, .bool false, .bool sp, .bool z, .int .i64 wid, .int .i64 prec, .int .i32 98] 198)) y4.below (by kernel_rfl) (by kernel_rfl) ?_
 intro hCl
 repeat (go_big_quiet_step ((first | (go_at_call 287; exact Cl.call (hS _)) | (go_at_call 291; exact Cl.call (hF _)))))
 refine wpQuiet_nil ?_
 intro _ hw'
 obtain ⟨z9, hz⟩ := hw'
 subst hz
 go_wp2
 go_returns
 exact ⟨rfl, bel_call hbA z9.below (Nat.le_refl _)⟩
end Go.Proofs.YtiagjheifblkiaaGreatDoor
