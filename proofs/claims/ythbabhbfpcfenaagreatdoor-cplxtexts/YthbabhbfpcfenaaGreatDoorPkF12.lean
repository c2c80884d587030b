/- FWalkC: these texts in one. -/
import Derived.Test.YthbabhbfpcfenaaGreatDoorPkF11
import Derived.Test.YthbabhbfpcfenaaGreatDoorPkF1
/- The walks of package floats: e, f, g and b. -/
namespace Go.Proofs.YthbabhbfpcfenaaGreatDoor
open Go.RowKit
set_option linter.unusedVariables false
set_option linter.unusedSimpArgs false

theorem Cl.up {W0 : World} (y : Cl W0) (o : Obj) {p : Addr} {v : Value} (h : ∀ x : Cl W0, x.w.cell? p = some v) : ∀ z : Cl (y.w.alloc o), z.w.cell? p = some v := fun z =>
  h ⟨z.w, bel_call (y.below.alloc y.below.size o) z.below (Nat.le_refl _)⟩
theorem Cl.out {W0 : World} {y : Cl W0} {o : Obj} (z : Cl (y.w.alloc o)) : Below W0.heap.size W0 z.w := bel_call (y.below.alloc y.below.size o) z.below (Nat.le_refl _)
set_option maxRecDepth 1000000 in
set_option maxHeartbeats 1000000 in
theorem expo_walk {bits m : Nat} {size e P : Int} {sh : Bool} {k Q Q2 x : Int} {S S2 D R : ByteArray} (hPl : PlaC bits m size e P sh k) (hV : ValC bits m size e P sh S Q) (hR : RoundC S Q (k + 1) S2 Q2 0) (hL : LbC S2 (k + 1) D) (hW : PowerC S2 Q2 x) (hS : SciC bits m size e P sh D x R) (hk : k ≤ 100000) (hk0 : 0 ≤ k) (w : World) :
    Calls Tryz.prog 38 #[.agg #[.int .u64 (bits : Nat), .int .i64 size, .int .u64 (m : Nat), .int .i64 e, .int .i64 P, .bool sh]] w fun x w' => x = .returned (.string R) ∧ Below w.heap.size w w' := by
  have hbA : Below w.heap.size w (w.alloc (.cells #[.int .u64 (bits : Nat), .int .i64 size, .int .u64 (m : Nat), .int .i64 e, .int .i64 P, .bool sh] 54)) := (Below.refl _ _).alloc (Nat.le_refl _) _
  have f0 : ∀ x : Cl (w.alloc (.cells #[.int .u64 (bits : Nat), .int .i64 size, .int .u64 (m : Nat), .int .i64 e, .int .i64 P, .bool sh] 54)), x.w.cell? ⟨w.heap.size, 0, none⟩ = some (.int .u64 (bits : Nat)) := fun x => x.cell (by simp)
  have f1 : ∀ x : Cl (w.alloc (.cells #[.int .u64 (bits : Nat), .int .i64 size, .int .u64 (m : Nat), .int .i64 e, .int .i64 P, .bool sh] 54)), x.w.cell? ⟨w.heap.size, 1, none⟩ = some (.int .i64 size) := fun x => x.cell (by simp)
  have f2 : ∀ x : Cl (w.alloc (.cells #[.int .u64 (bits : Nat), .int .i64 size, .int .u64 (m : Nat), .int .i64 e, .int .i64 P, .bool sh] 54)), x.w.cell? ⟨w.heap.size, 2, none⟩ = some (.int .u64 (m : Nat)) := fun x => x.cell (by simp)
  have f3 : ∀ x : Cl (w.alloc (.cells #[.int .u64 (bits : Nat), .int .i64 size, .int .u64 (m : Nat), .int .i64 e, .int .i64 P, .bool sh] 54)), x.w.cell? ⟨w.heap.size, 3, none⟩ = some (.int .i64 e) := fun x => x.cell (by simp)
  have f4 : ∀ x : Cl (w.alloc (.cells #[.int .u64 (bits : Nat), .int .i64 size, .int .u64 (m : Nat), .int .i64 e, .int .i64 P, .bool sh] 54)), x.w.cell? ⟨w.heap.size, 4, none⟩ = some (.int .i64 P) := fun x => x.cell (by simp)
  have f5 : ∀ x : Cl (w.alloc (.cells #[.int .u64 (bits : Nat), .int .i64 size, .int .u64 (m : Nat), .int .i64 e, .int .i64 P, .bool sh] 54)), x.w.cell? ⟨w.heap.size, 5, none⟩ = some (.bool sh) := fun x => x.cell (by simp)
  go_enter Tryz.func38, Tryz.ntmps38
  go_wp2_with (first
    | (go_at_call 74; (with_reducible refine (hPl _).mono ?_); rintro x w1 ⟨rfl, hb1⟩; obtain ⟨y1, rfl⟩ := Cl.start hb1)
    | (go_at_call 76; (with_reducible refine (hV _).mono ?_); rintro x w2 ⟨rfl, hb2⟩; obtain ⟨y2, rfl⟩ := Cl.next hb2)
    | (go_at_call 75; (with_reducible refine (hR _).mono ?_); rintro x w3 ⟨rfl, hb3⟩; obtain ⟨y3, rfl⟩ := Cl.next hb3; have g0 := Cl.up y3 (.cells #[.string S2, .int .i64 Q2] 91) f0; have g1 := Cl.up y3 (.cells #[.string S2, .int .i64 Q2] 91) f1; have g2 := Cl.up y3 (.cells #[.string S2, .int .i64 Q2] 91) f2; have g3 := Cl.up y3 (.cells #[.string S2, .int .i64 Q2] 91) f3; have g4 := Cl.up y3 (.cells #[.string S2, .int .i64 Q2] 91) f4; have g5 := Cl.up y3 (.cells #[.string S2, .int .i64 Q2] 91) f5; have d0 : ∀ z : Cl (y3.w.alloc (.cells #[.string S2, .int .i64 Q2] 91)), z.w.cell? ⟨y3.w.heap.size, 0, none⟩ = some (.string S2) := (fun z => z.cell (by simp)); have d1 : ∀ z : Cl (y3.w.alloc (.cells #[.string S2, .int .i64 Q2] 91)), z.w.cell? ⟨y3.w.heap.size, 1, none⟩ = some (.int .i64 Q2) := (fun z => z.cell (by simp))))
  refine wp_region_above (y3.w.alloc (.cells #[.string S2, .int .i64 Q2] 91)) (Below.refl _ _) (by kernel_rfl) (by kernel_rfl) ?_
  intro hCl
  repeat (go_big_quiet_step ((first | (go_at_call 78; exact Cl.call (hL _)) | (go_at_call 79; exact Cl.call (hW _)) | (go_at_call 77; exact Cl.call (hS _)))))
  refine wpQuiet_nil ?_
  intro _ hw'
  obtain ⟨z, hz⟩ := hw'
  subst hz
  go_wp2
  go_ret
  exact ⟨rfl, bel_call hbA (Cl.out z) (Nat.le_refl _)⟩
set_option maxRecDepth 1000000 in
set_option maxHeartbeats 1000000 in
theorem fixed_walk {bits m : Nat} {size e P : Int} {sh : Bool} {k Q Q2 : Int} {S S2 A B B2 R : ByteArray} (hPl : PlaC bits m size e P sh k) (hV : ValC bits m size e P sh S Q) (hR : PlacesC S Q k S2 Q2 0) (hA : ArC S2 Q2 A B) (hL : LbC B k B2) (hS : PtdC bits m size e P sh A B2 R) (w : World) :
    Calls Tryz.prog 39 #[.agg #[.int .u64 (bits : Nat), .int .i64 size, .int .u64 (m : Nat), .int .i64 e, .int .i64 P, .bool sh]] w fun x w' => x = .returned (.string R) ∧ Below w.heap.size w w' := by
  have hbA : Below w.heap.size w (w.alloc (.cells #[.int .u64 (bits : Nat), .int .i64 size, .int .u64 (m : Nat), .int .i64 e, .int .i64 P, .bool sh] 54)) := (Below.refl _ _).alloc (Nat.le_refl _) _
  have f0 : ∀ x : Cl (w.alloc (.cells #[.int .u64 (bits : Nat), .int .i64 size, .int .u64 (m : Nat), .int .i64 e, .int .i64 P, .bool sh] 54)), x.w.cell? ⟨w.heap.size, 0, none⟩ = some (.int .u64 (bits : Nat)) := fun x => x.cell (by simp)
  have f1 : ∀ x : Cl (w.alloc (.cells #[.int .u64 (bits : Nat), .int .i64 size, .int .u64 (m : Nat), .int .i64 e, .int .i64 P, .bool sh] 54)), x.w.cell? ⟨w.heap.size, 1, none⟩ = some (.int .i64 size) := fun x => x.cell (by simp)
  have f2 : ∀ x : Cl (w.alloc (.cells #[.int .u64 (bits : Nat), .int .i64 size, .int .u64 (m : Nat), .int .i64 e, .int .i64 P, .bool sh] 54)), x.w.cell? ⟨w.heap.size, 2, none⟩ = some (.int .u64 (m : Nat)) := fun x => x.cell (by simp)
  have f3 : ∀ x : Cl (w.alloc (.cells #[.int .u64 (bits : Nat), .int .i64 size, .int .u64 (m : Nat), .int .i64 e, .int .i64 P, .bool sh] 54)), x.w.cell? ⟨w.heap.size, 3, none⟩ = some (.int .i64 e) := fun x => x.cell (by simp)
  have f4 : ∀ x : Cl (w.alloc (.cells #[.int .u64 (bits : Nat), .int .i64 size, .int .u64 (m : Nat), .int .i64 e, .int .i64 P, .bool sh] 54)), x.w.cell? ⟨w.heap.size, 4, none⟩ = some (.int .i64 P) := fun x => x.cell (by simp)
  have f5 : ∀ x : Cl (w.alloc (.cells #[.int .u64 (bits : Nat), .int .i64 size, .int .u64 (m : Nat), .int .i64 e, .int .i64 P, .bool sh] 54)), x.w.cell? ⟨w.heap.size, 5, none⟩ = some (.bool sh) := fun x => x.cell (by simp)
  go_enter Tryz.func39, Tryz.ntmps39
  go_wp2_with (first
    | (go_at_call 74; (with_reducible refine (hPl _).mono ?_); rintro x w1 ⟨rfl, hb1⟩; obtain ⟨y1, rfl⟩ := Cl.start hb1)
    | (go_at_call 76; (with_reducible refine (hV _).mono ?_); rintro x w2 ⟨rfl, hb2⟩; obtain ⟨y2, rfl⟩ := Cl.next hb2)
    | (go_at_call 80; (with_reducible refine (hR _).mono ?_); rintro x w3 ⟨rfl, hb3⟩; obtain ⟨y3, rfl⟩ := Cl.next hb3; have g0 := Cl.up y3 (.cells #[.string S2, .int .i64 Q2] 91) f0; have g1 := Cl.up y3 (.cells #[.string S2, .int .i64 Q2] 91) f1; have g2 := Cl.up y3 (.cells #[.string S2, .int .i64 Q2] 91) f2; have g3 := Cl.up y3 (.cells #[.string S2, .int .i64 Q2] 91) f3; have g4 := Cl.up y3 (.cells #[.string S2, .int .i64 Q2] 91) f4; have g5 := Cl.up y3 (.cells #[.string S2, .int .i64 Q2] 91) f5; have d0 : ∀ z : Cl (y3.w.alloc (.cells #[.string S2, .int .i64 Q2] 91)), z.w.cell? ⟨y3.w.heap.size, 0, none⟩ = some (.string S2) := (fun z => z.cell (by simp)); have d1 : ∀ z : Cl (y3.w.alloc (.cells #[.string S2, .int .i64 Q2] 91)), z.w.cell? ⟨y3.w.heap.size, 1, none⟩ = some (.int .i64 Q2) := (fun z => z.cell (by simp)))
    | (go_at_call 81; (with_reducible refine (hA _).mono ?_); rintro x w4 ⟨rfl, hb4⟩; obtain ⟨y4, rfl⟩ := Cl.start hb4))
  refine wp_region_above (y3.w.alloc (.cells #[.string S2, .int .i64 Q2] 91)) y4.below (by kernel_rfl) (by kernel_rfl) ?_
  intro hCl
  repeat (go_big_quiet_step ((first | (go_at_call 78; exact Cl.call (hL _)) | (go_at_call 82; exact Cl.call (hS _)))))
  refine wpQuiet_nil ?_
  intro _ hw'
  obtain ⟨z, hz⟩ := hw'
  subst hz
  go_wp2
  go_ret
  exact ⟨rfl, bel_call hbA (Cl.out z) (Nat.le_refl _)⟩
abbrev BrC (bits m : Nat) (size e P : Int) (sh : Bool) (S : ByteArray) (Q most cnt : Int) : Prop := ∀ w, Calls Tryz.prog 83 #[.agg #[.int .u64 (bits : Nat), .int .i64 size, .int .u64 (m : Nat), .int .i64 e, .int .i64 P, .bool sh]] w fun x w' => x = .returned (.tuple #[.agg #[.string S, .int .i64 Q], .int .i64 most, .int .i64 cnt]) ∧ Below w.heap.size w w'
set_option maxRecDepth 1000000 in
theorem brief_short {bits m : Nat} {size e P : Int} {sh : Bool} {S : ByteArray} {Q : Int} (hP : P < 0) (hS : ∀ w, Calls Tryz.prog 115 #[.int .u64 bits, .int .i64 size] w fun e w' => e = .returned (.tuple #[.agg #[.string S, .int .i64 Q], .int .i64 0]) ∧ Below w.heap.size w w') : BrC bits m size e P sh S Q 21 6 := fun w => by
  go_enter Tryz.func83, Tryz.ntmps83
  go_wp2_with (go_at_call 115; refine (hS _).mono ?_; rintro x w3 ⟨rfl, hb3⟩; have bR := keepb hb3 (B := w.heap.size + 1) (x := .string ⟨#[]⟩) (y := .int .i64 0) (by simp [BoxD, go_sem]); obtain ⟨r0, r1, r2, r3⟩ := id bR; have hlt : w.heap.size + 1 < w3.heap.size := World.block_lt_of_cell? w3 _ r0)
  refine bodyPost_ret (by simp [results, Tryz.results83, go_sem, cs_same, r0, r1, hlt]; rfl) rfl ?_
  refine ⟨rfl, ?_⟩
  have h := bel_call (B := w.heap.size) (w := w) (by go_grown) hb3 (Nat.le_refl _)
  have hs := (h.setCell (p := ⟨w.heap.size + 1, 0, none⟩) (by simp) (.string S)).setCell (p := ⟨w.heap.size + 1, 1, none⟩) (by simp) (.int .i64 Q)
  exact hs.alloc hs.size _
set_option maxRecDepth 1000000 in
theorem brief_round {bits m : Nat} {size e P : Int} {sh : Bool} {S S2 : ByteArray} {Q Q2 : Int} (hP : ¬ P < 0) (hV : ValC bits m size e P sh S Q) (hR : RoundC S Q (max P 1) S2 Q2 0) : BrC bits m size e P sh S2 Q2 (max P 1) (max P 1) := fun w => by
  go_enter Tryz.func83, Tryz.ntmps83
  go_wp2_with (first
    | (go_at_call 76; (with_reducible refine (hV _).mono ?_); rintro x w2 ⟨rfl, hb2⟩; have bR2 := keepb hb2 (B := w.heap.size + 1) (x := .string ⟨#[]⟩) (y := .int .i64 0) (by simp [BoxD, go_sem]))
    | (go_at_call 75; (with_reducible refine (hR _).mono ?_); rintro x w3 ⟨rfl, hb3⟩; have bR := keepb hb3 bR2; obtain ⟨r0, r1, r2, r3⟩ := id bR; have hlt : w.heap.size + 1 < w3.heap.size := World.block_lt_of_cell? w3 _ r0))
  refine bodyPost_ret (by simp [results, Tryz.results83, go_sem, cs_same, r0, r1, hlt]; rfl) rfl ?_
  refine ⟨rfl, ?_⟩
  have h0 := bel_call (B := w.heap.size) (w := w) (by go_grown) hb2 (Nat.le_refl _)
  have h := bel_call h0 hb3 (Nat.le_refl _)
  have hs := (h.setCell (p := ⟨w.heap.size + 1, 0, none⟩) (by simp) (.string S2)).setCell (p := ⟨w.heap.size + 1, 1, none⟩) (by simp) (.int .i64 Q2)
  exact hs.alloc hs.size _
set_option maxRecDepth 1000000 in
set_option maxHeartbeats 1000000 in
theorem gen_sci {bits m : Nat} {size e P : Int} {sh : Bool} {S2 D1 D2 R : ByteArray} {Q2 most cnt x : Int} (hB : BrC bits m size e P sh S2 Q2 most cnt) (hL : LbC S2 1 D1) (hW : PowerC S2 Q2 x) (hD : if sh = true then LbC D1 cnt D2 else D2 = D1) (hx : x < -4 ∨ most ≤ x) (hS : SciC bits m size e P sh D2 x R) (w : World) :
    Calls Tryz.prog 40 #[.agg #[.int .u64 (bits : Nat), .int .i64 size, .int .u64 (m : Nat), .int .i64 e, .int .i64 P, .bool sh]] w fun x w' => x = .returned (.string R) ∧ Below w.heap.size w w' := by
  have hbA : Below w.heap.size w (w.alloc (.cells #[.int .u64 (bits : Nat), .int .i64 size, .int .u64 (m : Nat), .int .i64 e, .int .i64 P, .bool sh] 54)) := (Below.refl _ _).alloc (Nat.le_refl _) _
  have f0 : ∀ x : Cl (w.alloc (.cells #[.int .u64 (bits : Nat), .int .i64 size, .int .u64 (m : Nat), .int .i64 e, .int .i64 P, .bool sh] 54)), x.w.cell? ⟨w.heap.size, 0, none⟩ = some (.int .u64 (bits : Nat)) := fun x => x.cell (by simp)
  have f1 : ∀ x : Cl (w.alloc (.cells #[.int .u64 (bits : Nat), .int .i64 size, .int .u64 (m : Nat), .int .i64 e, .int .i64 P, .bool sh] 54)), x.w.cell? ⟨w.heap.size, 1, none⟩ = some (.int .i64 size) := fun x => x.cell (by simp)
  have f2 : ∀ x : Cl (w.alloc (.cells #[.int .u64 (bits : Nat), .int .i64 size, .int .u64 (m : Nat), .int .i64 e, .int .i64 P, .bool sh] 54)), x.w.cell? ⟨w.heap.size, 2, none⟩ = some (.int .u64 (m : Nat)) := fun x => x.cell (by simp)
  have f3 : ∀ x : Cl (w.alloc (.cells #[.int .u64 (bits : Nat), .int .i64 size, .int .u64 (m : Nat), .int .i64 e, .int .i64 P, .bool sh] 54)), x.w.cell? ⟨w.heap.size, 3, none⟩ = some (.int .i64 e) := fun x => x.cell (by simp)
  have f4 : ∀ x : Cl (w.alloc (.cells #[.int .u64 (bits : Nat), .int .i64 size, .int .u64 (m : Nat), .int .i64 e, .int .i64 P, .bool sh] 54)), x.w.cell? ⟨w.heap.size, 4, none⟩ = some (.int .i64 P) := fun x => x.cell (by simp)
  have f5 : ∀ x : Cl (w.alloc (.cells #[.int .u64 (bits : Nat), .int .i64 size, .int .u64 (m : Nat), .int .i64 e, .int .i64 P, .bool sh] 54)), x.w.cell? ⟨w.heap.size, 5, none⟩ = some (.bool sh) := fun x => x.cell (by simp)
  cases sh with
  | true =>
    simp only [if_true] at hD
    rcases Int.lt_or_le x (-4) with h1 | h1
    · go_enter Tryz.func40, Tryz.ntmps40
      go_wp2_with (go_at_call 83; (with_reducible refine (hB _).mono ?_); rintro x w1 ⟨rfl, hb1⟩; obtain ⟨y3, rfl⟩ := Cl.start hb1; have g0 := Cl.up y3 (.cells #[.string S2, .int .i64 Q2] 91) f0; have g1 := Cl.up y3 (.cells #[.string S2, .int .i64 Q2] 91) f1; have g2 := Cl.up y3 (.cells #[.string S2, .int .i64 Q2] 91) f2; have g3 := Cl.up y3 (.cells #[.string S2, .int .i64 Q2] 91) f3; have g4 := Cl.up y3 (.cells #[.string S2, .int .i64 Q2] 91) f4; have g5 := Cl.up y3 (.cells #[.string S2, .int .i64 Q2] 91) f5; have d0 : ∀ z : Cl (y3.w.alloc (.cells #[.string S2, .int .i64 Q2] 91)), z.w.cell? ⟨y3.w.heap.size, 0, none⟩ = some (.string S2) := (fun z => z.cell (by simp)); have d1 : ∀ z : Cl (y3.w.alloc (.cells #[.string S2, .int .i64 Q2] 91)), z.w.cell? ⟨y3.w.heap.size, 1, none⟩ = some (.int .i64 Q2) := (fun z => z.cell (by simp)))
      refine wp_region_above (y3.w.alloc (.cells #[.string S2, .int .i64 Q2] 91)) (Below.refl _ _) (by kernel_rfl) (by kernel_rfl) ?_
      intro hCl
      repeat (go_big_quiet_step ((first | (go_at_call 78; exact Cl.call (hL _)) | (go_at_call 79; exact Cl.call (hW _)))))
      refine wpQuiet_nil ?_
      intro _ hw'
      obtain ⟨z, hz⟩ := hw'
      subst hz
      go_wp2_with (first
        | (go_at_call 78; (with_reducible refine (hD _).mono ?_); rintro x w4 ⟨rfl, hb4⟩; obtain ⟨z4, rfl⟩ := Cl.next hb4)
        | (go_at_call 77; (with_reducible refine (hS _).mono ?_); rintro x w5 ⟨rfl, hb5⟩; obtain ⟨z5, rfl⟩ := Cl.next hb5))
      go_ret
      exact ⟨rfl, bel_call hbA (Cl.out z5) (Nat.le_refl _)⟩
    · have h2 : most ≤ x := by omega
      have h1n : ¬ x < -4 := by omega
      clear hx h1
      go_enter Tryz.func40, Tryz.ntmps40
      go_wp2_with (go_at_call 83; (with_reducible refine (hB _).mono ?_); rintro x w1 ⟨rfl, hb1⟩; obtain ⟨y3, rfl⟩ := Cl.start hb1; have g0 := Cl.up y3 (.cells #[.string S2, .int .i64 Q2] 91) f0; have g1 := Cl.up y3 (.cells #[.string S2, .int .i64 Q2] 91) f1; have g2 := Cl.up y3 (.cells #[.string S2, .int .i64 Q2] 91) f2; have g3 := Cl.up y3 (.cells #[.string S2, .int .i64 Q2] 91) f3; have g4 := Cl.up y3 (.cells #[.string S2, .int .i64 Q2] 91) f4; have g5 := Cl.up y3 (.cells #[.string S2, .int .i64 Q2] 91) f5; have d0 : ∀ z : Cl (y3.w.alloc (.cells #[.string S2, .int .i64 Q2] 91)), z.w.cell? ⟨y3.w.heap.size, 0, none⟩ = some (.string S2) := (fun z => z.cell (by simp)); have d1 : ∀ z : Cl (y3.w.alloc (.cells #[.string S2, .int .i64 Q2] 91)), z.w.cell? ⟨y3.w.heap.size, 1, none⟩ = some (.int .i64 Q2) := (fun z => z.cell (by simp)))
      refine wp_region_above (y3.w.alloc (.cells #[.string S2, .int .i64 Q2] 91)) (Below.refl _ _) (by kernel_rfl) (by kernel_rfl) ?_
      intro hCl
      repeat (go_big_quiet_step ((first | (go_at_call 78; exact Cl.call (hL _)) | (go_at_call 79; exact Cl.call (hW _)))))
      refine wpQuiet_nil ?_
      intro _ hw'
      obtain ⟨z, hz⟩ := hw'
      subst hz
      go_wp2_with (first
        | (go_at_call 78; (with_reducible refine (hD _).mono ?_); rintro x w4 ⟨rfl, hb4⟩; obtain ⟨z4, rfl⟩ := Cl.next hb4)
        | (go_at_call 77; (with_reducible refine (hS _).mono ?_); rintro x w5 ⟨rfl, hb5⟩; obtain ⟨z5, rfl⟩ := Cl.next hb5))
      go_ret
      exact ⟨rfl, bel_call hbA (Cl.out z5) (Nat.le_refl _)⟩
  | false =>
    simp only [Bool.false_eq_true, if_false] at hD
    subst hD
    rcases Int.lt_or_le x (-4) with h1 | h1
    · go_enter Tryz.func40, Tryz.ntmps40
      go_wp2_with (go_at_call 83; (with_reducible refine (hB _).mono ?_); rintro x w1 ⟨rfl, hb1⟩; obtain ⟨y3, rfl⟩ := Cl.start hb1; have g0 := Cl.up y3 (.cells #[.string S2, .int .i64 Q2] 91) f0; have g1 := Cl.up y3 (.cells #[.string S2, .int .i64 Q2] 91) f1; have g2 := Cl.up y3 (.cells #[.string S2, .int .i64 Q2] 91) f2; have g3 := Cl.up y3 (.cells #[.string S2, .int .i64 Q2] 91) f3; have g4 := Cl.up y3 (.cells #[.string S2, .int .i64 Q2] 91) f4; have g5 := Cl.up y3 (.cells #[.string S2, .int .i64 Q2] 91) f5; have d0 : ∀ z : Cl (y3.w.alloc (.cells #[.string S2, .int .i64 Q2] 91)), z.w.cell? ⟨y3.w.heap.size, 0, none⟩ = some (.string S2) := (fun z => z.cell (by simp)); have d1 : ∀ z : Cl (y3.w.alloc (.cells #[.string S2, .int .i64 Q2] 91)), z.w.cell? ⟨y3.w.heap.size, 1, none⟩ = some (.int .i64 Q2) := (fun z => z.cell (by simp)))
      refine wp_region_above (y3.w.alloc (.cells #[.string S2, .int .i64 Q2] 91)) (Below.refl _ _) (by kernel_rfl) (by kernel_rfl) ?_
      intro hCl
      repeat (go_big_quiet_step ((first | (go_at_call 78; exact Cl.call (hL _)) | (go_at_call 79; exact Cl.call (hW _)))))
      refine wpQuiet_nil ?_
      intro _ hw'
      obtain ⟨z, hz⟩ := hw'
      subst hz
      go_wp2_with (go_at_call 77; (with_reducible refine (hS _).mono ?_); rintro x w5 ⟨rfl, hb5⟩; obtain ⟨z5, rfl⟩ := Cl.next hb5)
      go_ret
      exact ⟨rfl, bel_call hbA (Cl.out z5) (Nat.le_refl _)⟩
    · have h2 : most ≤ x := by omega
      have h1n : ¬ x < -4 := by omega
      clear hx h1
      go_enter Tryz.func40, Tryz.ntmps40
      go_wp2_with (go_at_call 83; (with_reducible refine (hB _).mono ?_); rintro x w1 ⟨rfl, hb1⟩; obtain ⟨y3, rfl⟩ := Cl.start hb1; have g0 := Cl.up y3 (.cells #[.string S2, .int .i64 Q2] 91) f0; have g1 := Cl.up y3 (.cells #[.string S2, .int .i64 Q2] 91) f1; have g2 := Cl.up y3 (.cells #[.string S2, .int .i64 Q2] 91) f2; have g3 := Cl.up y3 (.cells #[.string S2, .int .i64 Q2] 91) f3; have g4 := Cl.up y3 (.cells #[.string S2, .int .i64 Q2] 91) f4; have g5 := Cl.up y3 (.cells #[.string S2, .int .i64 Q2] 91) f5; have d0 : ∀ z : Cl (y3.w.alloc (.cells #[.string S2, .int .i64 Q2] 91)), z.w.cell? ⟨y3.w.heap.size, 0, none⟩ = some (.string S2) := (fun z => z.cell (by simp)); have d1 : ∀ z : Cl (y3.w.alloc (.cells #[.string S2, .int .i64 Q2] 91)), z.w.cell? ⟨y3.w.heap.size, 1, none⟩ = some (.int .i64 Q2) := (fun z => z.cell (by simp)))
      refine wp_region_above (y3.w.alloc (.cells #[.string S2, .int .i64 Q2] 91)) (Below.refl _ _) (by kernel_rfl) (by kernel_rfl) ?_
      intro hCl
      repeat (go_big_quiet_step ((first | (go_at_call 78; exact Cl.call (hL _)) | (go_at_call 79; exact Cl.call (hW _)))))
      refine wpQuiet_nil ?_
      intro _ hw'
      obtain ⟨z, hz⟩ := hw'
      subst hz
      go_wp2_with (go_at_call 77; (with_reducible refine (hS _).mono ?_); rintro x w5 ⟨rfl, hb5⟩; obtain ⟨z5, rfl⟩ := Cl.next hb5)
      go_ret
      exact ⟨rfl, bel_call hbA (Cl.out z5) (Nat.le_refl _)⟩
set_option maxRecDepth 1000000 in
set_option maxHeartbeats 1000000 in
theorem gen_pt {bits m : Nat} {size e P : Int} {sh : Bool} {S2 D1 D2 A B R : ByteArray} {Q2 most cnt x : Int} (hB : BrC bits m size e P sh S2 Q2 most cnt) (hL : LbC S2 1 D1) (hW : PowerC S2 Q2 x) (hD : if sh = true then LbC D1 cnt D2 else D2 = D1) (hx1 : ¬ x < -4) (hx2 : ¬ most ≤ x) (hA : ArC D2 (x + 1) A B) (hS : PtdC bits m size e P sh A B R) (hx3 : x ≤ 100000) (w : World) :
    Calls Tryz.prog 40 #[.agg #[.int .u64 (bits : Nat), .int .i64 size, .int .u64 (m : Nat), .int .i64 e, .int .i64 P, .bool sh]] w fun x w' => x = .returned (.string R) ∧ Below w.heap.size w w' := by
  have hbA : Below w.heap.size w (w.alloc (.cells #[.int .u64 (bits : Nat), .int .i64 size, .int .u64 (m : Nat), .int .i64 e, .int .i64 P, .bool sh] 54)) := (Below.refl _ _).alloc (Nat.le_refl _) _
  have f0 : ∀ x : Cl (w.alloc (.cells #[.int .u64 (bits : Nat), .int .i64 size, .int .u64 (m : Nat), .int .i64 e, .int .i64 P, .bool sh] 54)), x.w.cell? ⟨w.heap.size, 0, none⟩ = some (.int .u64 (bits : Nat)) := fun x => x.cell (by simp)
  have f1 : ∀ x : Cl (w.alloc (.cells #[.int .u64 (bits : Nat), .int .i64 size, .int .u64 (m : Nat), .int .i64 e, .int .i64 P, .bool sh] 54)), x.w.cell? ⟨w.heap.size, 1, none⟩ = some (.int .i64 size) := fun x => x.cell (by simp)
  have f2 : ∀ x : Cl (w.alloc (.cells #[.int .u64 (bits : Nat), .int .i64 size, .int .u64 (m : Nat), .int .i64 e, .int .i64 P, .bool sh] 54)), x.w.cell? ⟨w.heap.size, 2, none⟩ = some (.int .u64 (m : Nat)) := fun x => x.cell (by simp)
  have f3 : ∀ x : Cl (w.alloc (.cells #[.int .u64 (bits : Nat), .int .i64 size, .int .u64 (m : Nat), .int .i64 e, .int .i64 P, .bool sh] 54)), x.w.cell? ⟨w.heap.size, 3, none⟩ = some (.int .i64 e) := fun x => x.cell (by simp)
  have f4 : ∀ x : Cl (w.alloc (.cells #[.int .u64 (bits : Nat), .int .i64 size, .int .u64 (m : Nat), .int .i64 e, .int .i64 P, .bool sh] 54)), x.w.cell? ⟨w.heap.size, 4, none⟩ = some (.int .i64 P) := fun x => x.cell (by simp)
  have f5 : ∀ x : Cl (w.alloc (.cells #[.int .u64 (bits : Nat), .int .i64 size, .int .u64 (m : Nat), .int .i64 e, .int .i64 P, .bool sh] 54)), x.w.cell? ⟨w.heap.size, 5, none⟩ = some (.bool sh) := fun x => x.cell (by simp)
  cases sh with
  | true =>
    simp only [if_true] at hD
    go_enter Tryz.func40, Tryz.ntmps40
    go_wp2_with (go_at_call 83; (with_reducible refine (hB _).mono ?_); rintro x w1 ⟨rfl, hb1⟩; obtain ⟨y3, rfl⟩ := Cl.start hb1; have g0 := Cl.up y3 (.cells #[.string S2, .int .i64 Q2] 91) f0; have g1 := Cl.up y3 (.cells #[.string S2, .int .i64 Q2] 91) f1; have g2 := Cl.up y3 (.cells #[.string S2, .int .i64 Q2] 91) f2; have g3 := Cl.up y3 (.cells #[.string S2, .int .i64 Q2] 91) f3; have g4 := Cl.up y3 (.cells #[.string S2, .int .i64 Q2] 91) f4; have g5 := Cl.up y3 (.cells #[.string S2, .int .i64 Q2] 91) f5; have d0 : ∀ z : Cl (y3.w.alloc (.cells #[.string S2, .int .i64 Q2] 91)), z.w.cell? ⟨y3.w.heap.size, 0, none⟩ = some (.string S2) := (fun z => z.cell (by simp)); have d1 : ∀ z : Cl (y3.w.alloc (.cells #[.string S2, .int .i64 Q2] 91)), z.w.cell? ⟨y3.w.heap.size, 1, none⟩ = some (.int .i64 Q2) := (fun z => z.cell (by simp)))
    refine wp_region_above (y3.w.alloc (.cells #[.string S2, .int .i64 Q2] 91)) (Below.refl _ _) (by kernel_rfl) (by kernel_rfl) ?_
    intro hCl
    repeat (go_big_quiet_step ((first | (go_at_call 78; exact Cl.call (hL _)) | (go_at_call 79; exact Cl.call (hW _)))))
    refine wpQuiet_nil ?_
    intro _ hw'
    obtain ⟨z, hz⟩ := hw'
    subst hz
    go_wp2_with (go_at_call 78; (with_reducible refine (hD _).mono ?_); rintro x w4 ⟨rfl, hb4⟩; obtain ⟨z4, rfl⟩ := Cl.next hb4)
    refine wp_region_above (y3.w.alloc (.cells #[.string S2, .int .i64 Q2] 91)) z4.below (by kernel_rfl) (by kernel_rfl) ?_
    intro hCl
    repeat (go_big_quiet_step ((first | (go_at_call 81; exact Cl.call (hA _)) | (go_at_call 82; exact Cl.call (hS _)))))
    refine wpQuiet_nil ?_
    intro _ hw'
    obtain ⟨z5, hz⟩ := hw'
    subst hz
    go_wp2
    go_ret
    exact ⟨rfl, bel_call hbA (Cl.out z5) (Nat.le_refl _)⟩
  | false =>
    simp only [Bool.false_eq_true, if_false] at hD
    subst hD
    go_enter Tryz.func40, Tryz.ntmps40
    go_wp2_with (go_at_call 83; (with_reducible refine (hB _).mono ?_); rintro x w1 ⟨rfl, hb1⟩; obtain ⟨y3, rfl⟩ := Cl.start hb1; have g0 := Cl.up y3 (.cells #[.string S2, .int .i64 Q2] 91) f0; have g1 := Cl.up y3 (.cells #[.string S2, .int .i64 Q2] 91) f1; have g2 := Cl.up y3 (.cells #[.string S2, .int .i64 Q2] 91) f2; have g3 := Cl.up y3 (.cells #[.string S2, .int .i64 Q2] 91) f3; have g4 := Cl.up y3 (.cells #[.string S2, .int .i64 Q2] 91) f4; have g5 := Cl.up y3 (.cells #[.string S2, .int .i64 Q2] 91) f5; have d0 : ∀ z : Cl (y3.w.alloc (.cells #[.string S2, .int .i64 Q2] 91)), z.w.cell? ⟨y3.w.heap.size, 0, none⟩ = some (.string S2) := (fun z => z.cell (by simp)); have d1 : ∀ z : Cl (y3.w.alloc (.cells #[.string S2, .int .i64 Q2] 91)), z.w.cell? ⟨y3.w.heap.size, 1, none⟩ = some (.int .i64 Q2) := (fun z => z.cell (by simp)))
    refine wp_region_above (y3.w.alloc (.cells #[.string S2, .int .i64 Q2] 91)) (Below.refl _ _) (by kernel_rfl) (by kernel_rfl) ?_
    intro hCl
    repeat (go_big_quiet_step ((first | (go_at_call 78; exact Cl.call (hL _)) | (go_at_call 79; exact Cl.call (hW _)))))
    refine wpQuiet_nil ?_
    intro _ hw'
    obtain ⟨z, hz⟩ := hw'
    subst hz
    go_wp2
    refine wp_region_above (y3.w.alloc (.cells #[.string S2, .int .i64 Q2] 91)) z.below (by kernel_rfl) (by kernel_rfl) ?_
    intro hCl
    repeat (go_big_quiet_step ((first | (go_at_call 81; exact Cl.call (hA _)) | (go_at_call 82; exact Cl.call (hS _)))))
    refine wpQuiet_nil ?_
    intro _ hw'
    obtain ⟨z5, hz⟩ := hw'
    subst hz
    go_wp2
    go_ret
    exact ⟨rfl, bel_call hbA (Cl.out z5) (Nat.le_refl _)⟩
set_option maxRecDepth 1000000 in
set_option maxHeartbeats 2000000 in
theorem parts_walk {bits m : Nat} {size e P : Int} {sh : Bool} {D G : ByteArray} (hD : DgC (m : Nat) 10 D) (hG : SgdC e 1 G) (hz : D.size + G.size ≤ 1000000) (w : World) :
    Calls Tryz.prog 41 #[.agg #[.int .u64 (bits : Nat), .int .i64 size, .int .u64 (m : Nat), .int .i64 e, .int .i64 P, .bool sh]] w fun x w' => x = .returned (.string ((D ++ ⟨#[112]⟩) ++ G)) ∧ Below w.heap.size w w' := by
  have h1 : (⟨#[112]⟩ : ByteArray).size = 1 := rfl
  have hz2 : D.size + (⟨#[112]⟩ : ByteArray).size + G.size ≤ 10000000 := by omega
  have hbA : Below w.heap.size w (w.alloc (.cells #[.int .u64 (bits : Nat), .int .i64 size, .int .u64 (m : Nat), .int .i64 e, .int .i64 P, .bool sh] 54)) := (Below.refl _ _).alloc (Nat.le_refl _) _
  have f0 : ∀ x : Cl (w.alloc (.cells #[.int .u64 (bits : Nat), .int .i64 size, .int .u64 (m : Nat), .int .i64 e, .int .i64 P, .bool sh] 54)), x.w.cell? ⟨w.heap.size, 0, none⟩ = some (.int .u64 (bits : Nat)) := fun x => x.cell (by simp)
  have f1 : ∀ x : Cl (w.alloc (.cells #[.int .u64 (bits : Nat), .int .i64 size, .int .u64 (m : Nat), .int .i64 e, .int .i64 P, .bool sh] 54)), x.w.cell? ⟨w.heap.size, 1, none⟩ = some (.int .i64 size) := fun x => x.cell (by simp)
  have f2 : ∀ x : Cl (w.alloc (.cells #[.int .u64 (bits : Nat), .int .i64 size, .int .u64 (m : Nat), .int .i64 e, .int .i64 P, .bool sh] 54)), x.w.cell? ⟨w.heap.size, 2, none⟩ = some (.int .u64 (m : Nat)) := fun x => x.cell (by simp)
  have f3 : ∀ x : Cl (w.alloc (.cells #[.int .u64 (bits : Nat), .int .i64 size, .int .u64 (m : Nat), .int .i64 e, .int .i64 P, .bool sh] 54)), x.w.cell? ⟨w.heap.size, 3, none⟩ = some (.int .i64 e) := fun x => x.cell (by simp)
  have f4 : ∀ x : Cl (w.alloc (.cells #[.int .u64 (bits : Nat), .int .i64 size, .int .u64 (m : Nat), .int .i64 e, .int .i64 P, .bool sh] 54)), x.w.cell? ⟨w.heap.size, 4, none⟩ = some (.int .i64 P) := fun x => x.cell (by simp)
  have f5 : ∀ x : Cl (w.alloc (.cells #[.int .u64 (bits : Nat), .int .i64 size, .int .u64 (m : Nat), .int .i64 e, .int .i64 P, .bool sh] 54)), x.w.cell? ⟨w.heap.size, 5, none⟩ = some (.bool sh) := fun x => x.cell (by simp)
  go_enter Tryz.func41, Tryz.ntmps41
  go_wp2_with fail
  go_region_with (first
    | (go_at_call 84; (with_reducible refine (hD _).mono ?_); rintro e w2 ⟨rfl, hb2⟩; obtain ⟨y2, rfl⟩ := Cl.first hb2)
    | (go_at_call 85; (with_reducible refine (hG _).mono ?_); rintro e w3 ⟨rfl, hb3⟩; obtain ⟨y3, rfl⟩ := Cl.next hb3)
    | (go_at_call 24; refine (together3 (a := D) (b := ⟨#[112]⟩) (c := G) _ (by simp) (by simp) (by simp) hz2).mono ?_; rintro e w4 ⟨rfl, hb4⟩; obtain ⟨y4, rfl⟩ := Cl.after hb4))
  all_goals go_wp2
  all_goals go_ret
  all_goals exact ⟨rfl, bel_call hbA y4.below (Nat.le_refl _)⟩
end Go.Proofs.YthbabhbfpcfenaaGreatDoor
