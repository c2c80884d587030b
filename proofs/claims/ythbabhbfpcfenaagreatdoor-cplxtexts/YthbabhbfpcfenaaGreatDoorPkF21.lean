/- FWalkF: these texts in one. -/
import Derived.Test.YthbabhbfpcfenaaGreatDoorPkF20
import Derived.Test.YthbabhbfpcfenaaGreatDoorPkF10
/- The walk of package floats' Float. -/
namespace Go.Proofs.YthbabhbfpcfenaaGreatDoor
open Go.RowKit
set_option linter.unusedVariables false
set_option linter.unusedSimpArgs false

theorem together2A {a b : ByteArray} (hz : a.size + b.size ≤ 10000000) (w : World) : Calls Tryz.prog 24 #[.slice (some ⟨w.heap.size, 0, none⟩) 2 2] (w.alloc (.cells #[.string a, .string b] 9)) fun e w' => e = .returned (.string (a ++ b)) ∧ Below (w.alloc (.cells #[.string a, .string b] 9)).heap.size (w.alloc (.cells #[.string a, .string b] 9)) w' := together2 _ (by simp) (by simp) hz
theorem together2D {a b : ByteArray} (hz : a.size + b.size ≤ 10000000) (w : World) : Calls Tryz.prog 24 #[.slice (some ⟨w.heap.size, 0, none⟩) 2 2] (w.alloc (.cells #[.string a, .string b] 9)).drew fun e w' => e = .returned (.string (a ++ b)) ∧ Below (w.alloc (.cells #[.string a, .string b] 9)).drew.heap.size (w.alloc (.cells #[.string a, .string b] 9)).drew w' := together2 _ (by simp) (by simp) hz
abbrev FlC (bits : Nat) (size : Int) (p mi sh sp z : Bool) (wid prec verb : Int) (s : ByteArray) (b : Bool) : Prop := ∀ w, Calls Tryz.prog 14 #[.int .u64 bits, .int .i64 size, .agg #[.bool p, .bool mi, .bool sh, .bool sp, .bool z, .int .i64 wid, .int .i64 prec, .int .i32 verb]] w fun e w' => e = .returned (.tuple #[.string s, .bool b]) ∧ Below w.heap.size w w'
set_option maxRecDepth 1000000 in
set_option maxHeartbeats 1000000 in
theorem float_verb {bits m : Nat} {size x k : Int} {sg : Bool} (p mi sh sp z : Bool) (wid prec verb : Int) (hW : WrC verb .nilFunc false) (hP : PtC bits size sg m x k) : FlC bits size p mi sh sp z wid prec verb ⟨#[]⟩ false := fun w => by
  have hbA : Below w.heap.size w (w.alloc (.cells #[.bool p, .bool mi, .bool sh, .bool sp, .bool z, .int .i64 wid, .int .i64 prec, .int .i32 verb] 26)) := (Below.refl _ _).alloc (Nat.le_refl _) _
  go_enter Tryz.func14, Tryz.ntmps14
  go_wp2_with (first
    | (go_at_call 21; (with_reducible refine (hW _).mono ?_); rintro x w1 ⟨rfl, rfl⟩)
    | (go_at_call 22; (with_reducible refine (hP _).mono ?_); rintro x w2 ⟨rfl, hb2⟩))
  go_returns
  exact ⟨rfl, bel_call hbA hb2 (Nat.le_refl _)⟩
set_option maxRecDepth 1000000 in
set_option maxHeartbeats 1000000 in
theorem float_size {bits m : Nat} {size x : Int} {sg : Bool} {v : Value} (p mi sh sp z : Bool) (wid prec verb : Int) (hW : WrC verb v true) (hP : PtC bits size sg m x 3) : FlC bits size p mi sh sp z wid prec verb ⟨#[]⟩ false := fun w => by
  have hbA : Below w.heap.size w (w.alloc (.cells #[.bool p, .bool mi, .bool sh, .bool sp, .bool z, .int .i64 wid, .int .i64 prec, .int .i32 verb] 26)) := (Below.refl _ _).alloc (Nat.le_refl _) _
  go_enter Tryz.func14, Tryz.ntmps14
  go_wp2_with (first
    | (go_at_call 21; (with_reducible refine (hW _).mono ?_); rintro x w1 ⟨rfl, rfl⟩)
    | (go_at_call 22; (with_reducible refine (hP _).mono ?_); rintro x w2 ⟨rfl, hb2⟩))
  go_returns
  exact ⟨rfl, bel_call hbA hb2 (Nat.le_refl _)⟩
set_option maxRecDepth 1000000 in
set_option maxHeartbeats 4000000 in
theorem float_nan {bits m : Nat} {size x : Int} {sg : Bool} {v : Value} (p mi sh sp z : Bool) (wid prec verb : Int) (hW : WrC verb v true) (hP : PtC bits size sg m x 2) : FlC bits size p mi sh sp z wid prec verb (padS (sgF false p sp ++ ⟨#[78, 97, 78]⟩) mi false wid) true := fun w => by
  have hbA : Below w.heap.size w (w.alloc (.cells #[.bool p, .bool mi, .bool sh, .bool sp, .bool z, .int .i64 wid, .int .i64 prec, .int .i32 verb] 26)) := (Below.refl _ _).alloc (Nat.le_refl _) _
  have f0 : ∀ x : Cl (w.alloc (.cells #[.bool p, .bool mi, .bool sh, .bool sp, .bool z, .int .i64 wid, .int .i64 prec, .int .i32 verb] 26)), x.w.cell? ⟨w.heap.size, 0, none⟩ = some (.bool p) := fun x => x.cell (by simp)
  have f1 : ∀ x : Cl (w.alloc (.cells #[.bool p, .bool mi, .bool sh, .bool sp, .bool z, .int .i64 wid, .int .i64 prec, .int .i32 verb] 26)), x.w.cell? ⟨w.heap.size, 1, none⟩ = some (.bool mi) := fun x => x.cell (by simp)
  have f2 : ∀ x : Cl (w.alloc (.cells #[.bool p, .bool mi, .bool sh, .bool sp, .bool z, .int .i64 wid, .int .i64 prec, .int .i32 verb] 26)), x.w.cell? ⟨w.heap.size, 2, none⟩ = some (.bool sh) := fun x => x.cell (by simp)
  have f3 : ∀ x : Cl (w.alloc (.cells #[.bool p, .bool mi, .bool sh, .bool sp, .bool z, .int .i64 wid, .int .i64 prec, .int .i32 verb] 26)), x.w.cell? ⟨w.heap.size, 3, none⟩ = some (.bool sp) := fun x => x.cell (by simp)
  have f4 : ∀ x : Cl (w.alloc (.cells #[.bool p, .bool mi, .bool sh, .bool sp, .bool z, .int .i64 wid, .int .i64 prec, .int .i32 verb] 26)), x.w.cell? ⟨w.heap.size, 4, none⟩ = some (.bool z) := fun x => x.cell (by simp)
  have f5 : ∀ x : Cl (w.alloc (.cells #[.bool p, .bool mi, .bool sh, .bool sp, .bool z, .int .i64 wid, .int .i64 prec, .int .i32 verb] 26)), x.w.cell? ⟨w.heap.size, 5, none⟩ = some (.int .i64 wid) := fun x => x.cell (by simp)
  have f6 : ∀ x : Cl (w.alloc (.cells #[.bool p, .bool mi, .bool sh, .bool sp, .bool z, .int .i64 wid, .int .i64 prec, .int .i32 verb] 26)), x.w.cell? ⟨w.heap.size, 6, none⟩ = some (.int .i64 prec) := fun x => x.cell (by simp)
  have f7 : ∀ x : Cl (w.alloc (.cells #[.bool p, .bool mi, .bool sh, .bool sp, .bool z, .int .i64 wid, .int .i64 prec, .int .i32 verb] 26)), x.w.cell? ⟨w.heap.size, 7, none⟩ = some (.int .i32 verb) := fun x => x.cell (by simp)
  have hlt : ∀ x : Cl (w.alloc (.cells #[.bool p, .bool mi, .bool sh, .bool sp, .bool z, .int .i64 wid, .int .i64 prec, .int .i32 verb] 26)), w.heap.size < x.w.heap.size := fun x => World.block_lt_of_cell? x.w _ (f0 x)
  have hs := sgF_size false p sp
  have h1 : (⟨#[78, 97, 78]⟩ : ByteArray).size = 3 := rfl
  have hz : (sgF false p sp).size + (⟨#[78, 97, 78]⟩ : ByteArray).size ≤ 10000000 := by omega
  have hS : ∀ w, Calls Tryz.prog 25 #[.bool false, .agg #[.bool p, .bool mi, .bool sh, .bool sp, .bool z, .int .i64 wid, .int .i64 prec, .int .i32 verb]] w fun x w' => x = .returned (.string (sgF false p sp)) ∧ Below w.heap.size w w' := fun w => fsign_any false p mi sh sp z wid prec verb w
  have hB : ∀ w, Calls Tryz.prog 23 #[.string (sgF false p sp ++ ⟨#[78, 97, 78]⟩), .agg #[.bool p, .bool mi, .bool sh, .bool sp, .bool z, .int .i64 wid, .int .i64 prec, .int .i32 verb]] w fun e w' => e = .returned (.string (padS (sgF false p sp ++ ⟨#[78, 97, 78]⟩) mi false wid)) ∧ Below w.heap.size w w' := fun w => fpad_any _ p mi sh sp z wid prec verb w (by rw [app_size]; omega)
  generalize padS (sgF false p sp ++ ⟨#[78, 97, 78]⟩) mi false wid = R at *
  clear hs
  generalize sgF false p sp = S at *
  have hn1 : ∀ (W : World) (y : Cl W) w5, Below y.w.drew.heap.size y.w.drew w5 → ∃ z : Cl W, w5 = z.w := fun W y w5 hb => ⟨⟨w5, bel_call y.below.drew hb (Nat.le_refl _)⟩, rfl⟩
  go_enter Tryz.func14, Tryz.ntmps14
  go_wp2_with (first
    | (go_at_call 21; (with_reducible refine (hW _).mono ?_); rintro x w1 ⟨rfl, rfl⟩)
    | (go_at_call 22; (with_reducible refine (hP _).mono ?_); rintro x w2 ⟨rfl, hb2⟩; obtain ⟨y2, rfl⟩ := Cl.start hb2))
  go_region_with (first
    | (go_at_call 25; (with_reducible refine (hS _).mono ?_); rintro x w4 ⟨rfl, hb4⟩; obtain ⟨y4, rfl⟩ := hn1 _ _ _ hb4)
    | (go_at_call 24; (with_reducible refine (together2A hz _).mono ?_); rintro x w5 ⟨rfl, hb5⟩; obtain ⟨y5, rfl⟩ := Cl.after hb5)
    | (go_at_call 23; (with_reducible refine (hB _).mono ?_); rintro x w6 ⟨rfl, hb6⟩; obtain ⟨y6, rfl⟩ := Cl.next hb6))
  all_goals go_wp2
  all_goals go_returns
  all_goals exact ⟨rfl, bel_call hbA y6.below (Nat.le_refl _)⟩
set_option maxRecDepth 1000000 in
set_option maxHeartbeats 4000000 in
theorem float_inf {bits m : Nat} {size x : Int} {sg : Bool} {v : Value} (p mi sh sp z : Bool) (wid prec verb : Int) (hW : WrC verb v true) (hP : PtC bits size sg m x 1) : FlC bits size p mi sh sp z wid prec verb (padS (sgI sg p sp ++ ⟨#[73, 110, 102]⟩) mi false wid) true := fun w => by
  have hbA : Below w.heap.size w (w.alloc (.cells #[.bool p, .bool mi, .bool sh, .bool sp, .bool z, .int .i64 wid, .int .i64 prec, .int .i32 verb] 26)) := (Below.refl _ _).alloc (Nat.le_refl _) _
  have f0 : ∀ x : Cl (w.alloc (.cells #[.bool p, .bool mi, .bool sh, .bool sp, .bool z, .int .i64 wid, .int .i64 prec, .int .i32 verb] 26)), x.w.cell? ⟨w.heap.size, 0, none⟩ = some (.bool p) := fun x => x.cell (by simp)
  have f1 : ∀ x : Cl (w.alloc (.cells #[.bool p, .bool mi, .bool sh, .bool sp, .bool z, .int .i64 wid, .int .i64 prec, .int .i32 verb] 26)), x.w.cell? ⟨w.heap.size, 1, none⟩ = some (.bool mi) := fun x => x.cell (by simp)
  have f2 : ∀ x : Cl (w.alloc (.cells #[.bool p, .bool mi, .bool sh, .bool sp, .bool z, .int .i64 wid, .int .i64 prec, .int .i32 verb] 26)), x.w.cell? ⟨w.heap.size, 2, none⟩ = some (.bool sh) := fun x => x.cell (by simp)
  have f3 : ∀ x : Cl (w.alloc (.cells #[.bool p, .bool mi, .bool sh, .bool sp, .bool z, .int .i64 wid, .int .i64 prec, .int .i32 verb] 26)), x.w.cell? ⟨w.heap.size, 3, none⟩ = some (.bool sp) := fun x => x.cell (by simp)
  have f4 : ∀ x : Cl (w.alloc (.cells #[.bool p, .bool mi, .bool sh, .bool sp, .bool z, .int .i64 wid, .int .i64 prec, .int .i32 verb] 26)), x.w.cell? ⟨w.heap.size, 4, none⟩ = some (.bool z) := fun x => x.cell (by simp)
  have f5 : ∀ x : Cl (w.alloc (.cells #[.bool p, .bool mi, .bool sh, .bool sp, .bool z, .int .i64 wid, .int .i64 prec, .int .i32 verb] 26)), x.w.cell? ⟨w.heap.size, 5, none⟩ = some (.int .i64 wid) := fun x => x.cell (by simp)
  have f6 : ∀ x : Cl (w.alloc (.cells #[.bool p, .bool mi, .bool sh, .bool sp, .bool z, .int .i64 wid, .int .i64 prec, .int .i32 verb] 26)), x.w.cell? ⟨w.heap.size, 6, none⟩ = some (.int .i64 prec) := fun x => x.cell (by simp)
  have f7 : ∀ x : Cl (w.alloc (.cells #[.bool p, .bool mi, .bool sh, .bool sp, .bool z, .int .i64 wid, .int .i64 prec, .int .i32 verb] 26)), x.w.cell? ⟨w.heap.size, 7, none⟩ = some (.int .i32 verb) := fun x => x.cell (by simp)
  have hlt : ∀ x : Cl (w.alloc (.cells #[.bool p, .bool mi, .bool sh, .bool sp, .bool z, .int .i64 wid, .int .i64 prec, .int .i32 verb] 26)), w.heap.size < x.w.heap.size := fun x => World.block_lt_of_cell? x.w _ (f0 x)
  have hs := sgI_size sg p sp
  have h1 : (⟨#[73, 110, 102]⟩ : ByteArray).size = 3 := rfl
  have hz : (sgI sg p sp).size + (⟨#[73, 110, 102]⟩ : ByteArray).size ≤ 10000000 := by omega
  have hS : ∀ w, Calls Tryz.prog 26 #[.bool sg, .agg #[.bool p, .bool mi, .bool sh, .bool sp, .bool z, .int .i64 wid, .int .i64 prec, .int .i32 verb]] w fun x w' => x = .returned (.string (sgI sg p sp)) ∧ Below w.heap.size w w' := fun w => fsignI_any sg p mi sh sp z wid prec verb w
  have hB : ∀ w, Calls Tryz.prog 23 #[.string (sgI sg p sp ++ ⟨#[73, 110, 102]⟩), .agg #[.bool p, .bool mi, .bool sh, .bool sp, .bool z, .int .i64 wid, .int .i64 prec, .int .i32 verb]] w fun e w' => e = .returned (.string (padS (sgI sg p sp ++ ⟨#[73, 110, 102]⟩) mi false wid)) ∧ Below w.heap.size w w' := fun w => fpad_any _ p mi sh sp z wid prec verb w (by rw [app_size]; omega)
  generalize padS (sgI sg p sp ++ ⟨#[73, 110, 102]⟩) mi false wid = R at *
  clear hs
  generalize sgI sg p sp = S at *
  have hn1 : ∀ (W : World) (y : Cl W) w5, Below y.w.drew.heap.size y.w.drew w5 → ∃ z : Cl W, w5 = z.w := fun W y w5 hb => ⟨⟨w5, bel_call y.below.drew hb (Nat.le_refl _)⟩, rfl⟩
  go_enter Tryz.func14, Tryz.ntmps14
  go_wp2_with (first
    | (go_at_call 21; (with_reducible refine (hW _).mono ?_); rintro x w1 ⟨rfl, rfl⟩)
    | (go_at_call 22; (with_reducible refine (hP _).mono ?_); rintro x w2 ⟨rfl, hb2⟩; obtain ⟨y2, rfl⟩ := Cl.start hb2))
  go_region_with (first
    | (go_at_call 26; (with_reducible refine (hS _).mono ?_); rintro x w4 ⟨rfl, hb4⟩; obtain ⟨y4, rfl⟩ := hn1 _ _ _ hb4)
    | (go_at_call 24; (with_reducible refine (together2A hz _).mono ?_); rintro x w5 ⟨rfl, hb5⟩; obtain ⟨y5, rfl⟩ := Cl.after hb5)
    | (go_at_call 23; (with_reducible refine (hB _).mono ?_); rintro x w6 ⟨rfl, hb6⟩; obtain ⟨y6, rfl⟩ := Cl.next hb6))
  all_goals go_wp2
  all_goals go_returns
  all_goals exact ⟨rfl, bel_call hbA y6.below (Nat.le_refl _)⟩
set_option maxRecDepth 1000000 in
set_option maxHeartbeats 4000000 in
theorem filled_any (s t : ByteArray) (p mi sh sp z : Bool) (wid prec verb : Int) (w : World) (hs : s.size ≤ 1) (ht : t.size ≤ 200000) :
    Calls Tryz.prog 29 #[.string s, .string t, .agg #[.bool p, .bool mi, .bool sh, .bool sp, .bool z, .int .i64 wid, .int .i64 prec, .int .i32 verb]] w fun e w' => e = .returned (.string (filT s t mi z wid)) ∧ Below w.heap.size w w' := by
  have hbA : Below w.heap.size w (w.alloc (.cells #[.bool p, .bool mi, .bool sh, .bool sp, .bool z, .int .i64 wid, .int .i64 prec, .int .i32 verb] 26)) := (Below.refl _ _).alloc (Nat.le_refl _) _
  have f0 : ∀ x : Cl (w.alloc (.cells #[.bool p, .bool mi, .bool sh, .bool sp, .bool z, .int .i64 wid, .int .i64 prec, .int .i32 verb] 26)), x.w.cell? ⟨w.heap.size, 0, none⟩ = some (.bool p) := fun x => x.cell (by simp)
  have f1 : ∀ x : Cl (w.alloc (.cells #[.bool p, .bool mi, .bool sh, .bool sp, .bool z, .int .i64 wid, .int .i64 prec, .int .i32 verb] 26)), x.w.cell? ⟨w.heap.size, 1, none⟩ = some (.bool mi) := fun x => x.cell (by simp)
  have f2 : ∀ x : Cl (w.alloc (.cells #[.bool p, .bool mi, .bool sh, .bool sp, .bool z, .int .i64 wid, .int .i64 prec, .int .i32 verb] 26)), x.w.cell? ⟨w.heap.size, 2, none⟩ = some (.bool sh) := fun x => x.cell (by simp)
  have f3 : ∀ x : Cl (w.alloc (.cells #[.bool p, .bool mi, .bool sh, .bool sp, .bool z, .int .i64 wid, .int .i64 prec, .int .i32 verb] 26)), x.w.cell? ⟨w.heap.size, 3, none⟩ = some (.bool sp) := fun x => x.cell (by simp)
  have f4 : ∀ x : Cl (w.alloc (.cells #[.bool p, .bool mi, .bool sh, .bool sp, .bool z, .int .i64 wid, .int .i64 prec, .int .i32 verb] 26)), x.w.cell? ⟨w.heap.size, 4, none⟩ = some (.bool z) := fun x => x.cell (by simp)
  have f5 : ∀ x : Cl (w.alloc (.cells #[.bool p, .bool mi, .bool sh, .bool sp, .bool z, .int .i64 wid, .int .i64 prec, .int .i32 verb] 26)), x.w.cell? ⟨w.heap.size, 5, none⟩ = some (.int .i64 wid) := fun x => x.cell (by simp)
  have f6 : ∀ x : Cl (w.alloc (.cells #[.bool p, .bool mi, .bool sh, .bool sp, .bool z, .int .i64 wid, .int .i64 prec, .int .i32 verb] 26)), x.w.cell? ⟨w.heap.size, 6, none⟩ = some (.int .i64 prec) := fun x => x.cell (by simp)
  have f7 : ∀ x : Cl (w.alloc (.cells #[.bool p, .bool mi, .bool sh, .bool sp, .bool z, .int .i64 wid, .int .i64 prec, .int .i32 verb] 26)), x.w.cell? ⟨w.heap.size, 7, none⟩ = some (.int .i32 verb) := fun x => x.cell (by simp)
  have hlt : ∀ x : Cl (w.alloc (.cells #[.bool p, .bool mi, .bool sh, .bool sp, .bool z, .int .i64 wid, .int .i64 prec, .int .i32 verb] 26)), w.heap.size < x.w.heap.size := fun x => World.block_lt_of_cell? x.w _ (f0 x)
  have hwl := wdt_le wid
  have hwe := wdt_eq wid
  have hn1 : ∀ (W : World) (y : Cl W) w5, Below y.w.drew.heap.size y.w.drew w5 → ∃ z : Cl W, w5 = z.w := fun W y w5 hb => ⟨⟨w5, bel_call y.below.drew hb (Nat.le_refl _)⟩, rfl⟩
  unfold filT
  by_cases hz : z = true ∧ mi = false
  · rw [if_pos hz]
    obtain ⟨rfl, rfl⟩ := hz
    have hl := lnA_size t ((wdt wid : Nat) - (s.size : Nat))
    have hL : LaC t ((wdt wid : Nat) - (s.size : Nat)) (lnA t ((wdt wid : Nat) - (s.size : Nat))) := fun w => flen_any _ _ w (by omega) (by omega) (by omega)
    have hB : ∀ w, Calls Tryz.prog 23 #[.string (s ++ lnA t ((wdt wid : Nat) - (s.size : Nat))), .agg #[.bool p, .bool false, .bool sh, .bool sp, .bool true, .int .i64 wid, .int .i64 prec, .int .i32 verb]] w fun e w' => e = .returned (.string (padS (s ++ lnA t ((wdt wid : Nat) - (s.size : Nat))) false false wid)) ∧ Below w.heap.size w w' := fun w => fpad_any _ p false sh sp true wid prec verb w (by rw [app_size]; omega)
    have hz2 : s.size + (lnA t ((wdt wid : Nat) - (s.size : Nat))).size ≤ 10000000 := by omega
    clear hl
    generalize padS (s ++ lnA t ((wdt wid : Nat) - (s.size : Nat))) false false wid = R at *
    generalize lnA t ((wdt wid : Nat) - (s.size : Nat)) = T at *
    generalize wdt wid = q at *
    go_enter Tryz.func29, Tryz.ntmps29
    go_wp2_with (go_at_call 55; (with_reducible refine (hL _).mono ?_); rintro x w2 ⟨rfl, hb2⟩; obtain ⟨y2, rfl⟩ := Cl.start hb2)
    go_region_with (first
      | (go_at_call 24; (with_reducible refine (together2D hz2 _).mono ?_); rintro x w5 ⟨rfl, hb5⟩; obtain ⟨y5, rfl⟩ : ∃ z : Cl (w.alloc (.cells #[.bool p, .bool false, .bool sh, .bool sp, .bool true, .int .i64 wid, .int .i64 prec, .int .i32 verb] 26)), w5 = z.w := ⟨⟨w5, bel_call (y2.below.alloc y2.below.size _).drew hb5 (Nat.le_refl _)⟩, rfl⟩)
      | (go_at_call 23; (with_reducible refine (hB _).mono ?_); rintro x w6 ⟨rfl, hb6⟩; obtain ⟨y6, rfl⟩ := Cl.next hb6))
    all_goals go_wp2
    all_goals go_ret
    all_goals exact ⟨rfl, bel_call hbA y6.below (Nat.le_refl _)⟩
  · rw [if_neg hz]
    have hB : ∀ w, Calls Tryz.prog 23 #[.string (s ++ t), .agg #[.bool p, .bool mi, .bool sh, .bool sp, .bool z, .int .i64 wid, .int .i64 prec, .int .i32 verb]] w fun e w' => e = .returned (.string (padS (s ++ t) mi false wid)) ∧ Below w.heap.size w w' := fun w => fpad_any _ p mi sh sp z wid prec verb w (by rw [app_size]; omega)
    have hz2 : s.size + t.size ≤ 10000000 := by omega
    generalize padS (s ++ t) mi false wid = R at *
    cases z with
    | false =>
      clear hz
      go_enter Tryz.func29, Tryz.ntmps29
      go_wp2
      go_region_with (first
        | (go_at_call 24; refine (together2 (a := s) (b := t) _ (by simp) (by simp) hz2).mono ?_; rintro x w5 ⟨rfl, hb5⟩; obtain ⟨y5, rfl⟩ : ∃ z : Cl (w.alloc (.cells #[.bool p, .bool mi, .bool sh, .bool sp, .bool false, .int .i64 wid, .int .i64 prec, .int .i32 verb] 26)), w5 = z.w := ⟨⟨w5, bel_call ((Below.refl _ _).alloc (Nat.le_refl _) _).drew hb5 (Nat.le_refl _)⟩, rfl⟩)
        | (go_at_call 23; (with_reducible refine (hB _).mono ?_); rintro x w6 ⟨rfl, hb6⟩; obtain ⟨y6, rfl⟩ := Cl.next hb6))
      all_goals go_wp2
      all_goals go_ret
      all_goals exact ⟨rfl, bel_call hbA y6.below (Nat.le_refl _)⟩
    | true =>
      obtain rfl : mi = true := by cases mi; · exact absurd ⟨rfl, rfl⟩ hz
                                   · rfl
      clear hz
      go_enter Tryz.func29, Tryz.ntmps29
      go_wp2
      go_region_with (first
        | (go_at_call 24; refine (together2 (a := s) (b := t) _ (by simp) (by simp) hz2).mono ?_; rintro x w5 ⟨rfl, hb5⟩; obtain ⟨y5, rfl⟩ : ∃ z : Cl (w.alloc (.cells #[.bool p, .bool true, .bool sh, .bool sp, .bool true, .int .i64 wid, .int .i64 prec, .int .i32 verb] 26)), w5 = z.w := ⟨⟨w5, bel_call ((Below.refl _ _).alloc (Nat.le_refl _) _).drew hb5 (Nat.le_refl _)⟩, rfl⟩)
        | (go_at_call 23; (with_reducible refine (hB _).mono ?_); rintro x w6 ⟨rfl, hb6⟩; obtain ⟨y6, rfl⟩ := Cl.next hb6))
      all_goals go_wp2
      all_goals go_ret
      all_goals exact ⟨rfl, bel_call hbA y6.below (Nat.le_refl _)⟩
end Go.Proofs.YthbabhbfpcfenaaGreatDoor
