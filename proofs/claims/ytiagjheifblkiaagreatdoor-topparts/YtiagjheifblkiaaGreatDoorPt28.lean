/- FWalkC, FHex: these texts in one. -/
import Derived.Test.YtiagjheifblkiaaGreatDoorPt27
import Derived.Test.YtiagjheifblkiaaGreatDoorPt1
namespace Go.Proofs.YtiagjheifblkiaaGreatDoor
open Go.RowKit
set_option linter.unusedVariables false
set_option linter.unusedSimpArgs false
theorem Cl.up {W0 : World} (y : Cl W0) (o : Obj) {p : Addr} {v : Value} (h : ∀ x : Cl W0, x.w.cell? p = some v) : ∀ z : Cl (y.w.alloc o), z.w.cell? p = some v := fun z =>
 h ⟨z.w, bel_call (y.below.alloc y.below.size o) z.below (Nat.le_refl _)⟩
theorem Cl.out {W0 : World} {y : Cl W0} {o : Obj} (z : Cl (y.w.alloc o)) : Below W0.heap.size W0 z.w := bel_call (y.below.alloc y.below.size o) z.below (Nat.le_refl _)
set_option maxRecDepth 1000000 in
set_option maxHeartbeats 1000000 in
theorem expo_walk {bits m : Nat} {size e P : Int} {sh : Bool} {k Q Q2 x : Int} {S S2 D R : ByteArray} (hPl : PlaC bits m size e P sh k) (hV : ValC bits m size e P sh S Q) (hR : RoundC S Q (k + 1) S2 Q2 0) (hL : LbC S2 (k + 1) D) (hW : PowerC S2 Q2 x) (hS : SciC bits m size e P sh D x R) (hk : k ≤ 100000) (hk0 : 0 ≤ k) (w : World) :
  Calls Tryz.prog 321 #[.agg #[.int .u64 (bits : Nat), .int .i64 size, .int .u64 (m : Nat), .int .i64 e, .int .i64 P, .bool sh]] w fun x w' => x = .returned (.string R) ∧ Below w.heap.size w w' := by
 have hbA : Below w.heap.size w (w.alloc (.cells #[.int .u64 (bits : Nat), .int .i64 size, .int .u64 (m : Nat), .int .i64 e, .int .i64 P, .bool sh] 390)) := (Below.refl _ _).alloc (Nat.le_refl _) _
 have f0 : ∀ x : Cl (w.alloc (.cells #[.int .u64 (bits : Nat), .int .i64 size, .int .u64 (m : Nat), .int .i64 e, .int .i64 P, .bool sh] 390)), x.w.cell? ⟨w.heap.size, 0, none⟩ = some (.int .u64 (bits : Nat)) := fun x => x.cell (by simp)
 have f1 : ∀ x : Cl (w.alloc (.cells #[.int .u64 (bits : Nat), .int .i64 size, .int .u64 (m : Nat), .int .i64 e, .int .i64 P, .bool sh] 390)), x.w.cell? ⟨w.heap.size, 1, none⟩ = some (.int .i64 size) := fun x => x.cell (by simp)
 have f2 : ∀ x : Cl (w.alloc (.cells #[.int .u64 (bits : Nat), .int .i64 size, .int .u64 (m : Nat), .int .i64 e, .int .i64 P, .bool sh] 390)), x.w.cell? ⟨w.heap.size, 2, none⟩ = some (.int .u64 (m : Nat)) := fun x => x.cell (by simp)
 have f3 : ∀ x : Cl (w.alloc (.cells #[.int .u64 (bits : Nat), .int .i64 size, .int .u64 (m : Nat), .int .i64 e, .int .i64 P, .bool sh] 390)), x.w.cell? ⟨w.heap.size, 3, none⟩ = some (.int .i64 e) := fun x => x.cell (by simp)
 have f4 : ∀ x : Cl (w.alloc (.cells #[.int .u64 (bits : Nat), .int .i64 size, .int .u64 (m : Nat), .int .i64 e, .int .i64 P, .bool sh] 390)), x.w.cell? ⟨w.heap.size, 4, none⟩ = some (.int .i64 P) := fun x => x.cell (by simp)
 have f5 : ∀ x : Cl (w.alloc (.cells #[.int .u64 (bits : Nat), .int .i64 size, .int .u64 (m : Nat), .int .i64 e, .int .i64 P, .bool sh] 390)), x.w.cell? ⟨w.heap.size, 5, none⟩ = some (.bool sh) := fun x => x.cell (by simp)
 go_enter Tryz.func321, Tryz.ntmps321
 go_wp2_with (first
  | (go_at_call 341; (with_reducible refine (hPl _).mono ?_); rintro x w1 ⟨rfl, hb1⟩; obtain ⟨y1, rfl⟩ := Cl.start hb1)
  | (go_at_call 342; (with_reducible refine (hV _).mono ?_); rintro x w2 ⟨rfl, hb2⟩; obtain ⟨y2, rfl⟩ := Cl.next hb2)
  | (go_at_call 11; (with_reducible refine (hR _).mono ?_); rintro x w3 ⟨rfl, hb3⟩; obtain ⟨y3, rfl⟩ := Cl.next hb3; have g0 := Cl.up y3 (.cells #[.string S2, .int .i64 Q2] 31) f0; have g1 := Cl.up y3 (.cells #[.string S2, .int .i64 Q2] 31) f1; have g2 := Cl.up y3 (.cells #[.string S2, .int .i64 Q2] 31) f2; have g3 := Cl.up y3 (.cells #[.string S2, .int .i64 Q2] 31) f3; have g4 := Cl.up y3 (.cells #[.string S2, .int .i64 Q2] 31) f4; have g5 := Cl.up y3 (.cells #[.string S2, .int .i64 Q2] 31) f5; have d0 : ∀ z : Cl (y3.w.alloc (.cells #[.string S2, .int .i64 Q2] 31)), z.w.cell? ⟨y3.w.heap.size, 0, none⟩ = some (.string S2) := (fun z => z.cell (by simp)); have d1 : ∀ z : Cl (y3.w.alloc (.cells #[.string S2, .int .i64 Q2] 31)), z.w.cell? ⟨y3.w.heap.size, 1, none⟩ = some (.int .i64 Q2) := (fun z => z.cell (by simp))))
 refine wp_region_above (y3.w.alloc (.cells #[.string S2, .int .i64 Q2] 31)) (Below.refl _ _) (by kernel_rfl) (by kernel_rfl) ?_
 intro hCl
 repeat (go_big_quiet_step ((first | (go_at_call 344; exact Cl.call (hL _)) | (go_at_call 345; exact Cl.call (hW _)) | (go_at_call 343; exact Cl.call (hS _)))))
 refine wpQuiet_nil ?_
 intro _ hw'
 obtain ⟨z, hz⟩ := hw'
 subst hz
 go_wp2
 go_ret
 exact ⟨rfl, bel_call hbA (Cl.out z) (Nat.le_refl _)⟩
set_option maxRecDepth 1000000 in
set_option maxHeartbeats 1000000 in
theorem fixed_walk {bits m : Nat} {size e P : Int} {sh : Bool} {k Q Q2 : Int} {S S2 A B B2 R : ByteArray} (hPl : PlaC bits m size e P sh k) (hV : ValC bits m size e P sh S Q) (hR : PlacesC S Q k S2 Q2 0) (hA : ArC S2 Q2 A B) (hL : LbC B k B2) (hS : PtdC bits m size e P sh A B2 R) (w : World) :
  Calls Tryz.prog 322 #[.agg #[.int .u64 (bits : Nat), .int .i64 size, .int .u64 (m : Nat), .int .i64 e, .int .i64 P, .bool sh]] w fun x w' => x = .returned (.string R) ∧ Below w.heap.size w w' := by
 have hbA : Below w.heap.size w (w.alloc (.cells #[.int .u64 (bits : Nat), .int .i64 size, .int .u64 (m : Nat), .int .i64 e, .int .i64 P, .bool sh] 390)) := (Below.refl _ _).alloc (Nat.le_refl _) _
 have f0 : ∀ x : Cl (w.alloc (.cells #[.int .u64 (bits : Nat), .int .i64 size, .int .u64 (m : Nat), .int .i64 e, .int .i64 P, .bool sh] 390)), x.w.cell? ⟨w.heap.size, 0, none⟩ = some (.int .u64 (bits : Nat)) := fun x => x.cell (by simp)
 have f1 : ∀ x : Cl (w.alloc (.cells #[.int .u64 (bits : Nat), .int .i64 size, .int .u64 (m : Nat), .int .i64 e, .int .i64 P, .bool sh] 390)), x.w.cell? ⟨w.heap.size, 1, none⟩ = some (.int .i64 size) := fun x => x.cell (by simp)
 have f2 : ∀ x : Cl (w.alloc (.cells #[.int .u64 (bits : Nat), .int .i64 size, .int .u64 (m : Nat), .int .i64 e, .int .i64 P, .bool sh] 390)), x.w.cell? ⟨w.heap.size, 2, none⟩ = some (.int .u64 (m : Nat)) := fun x => x.cell (by simp)
 have f3 : ∀ x : Cl (w.alloc (.cells #[.int .u64 (bits : Nat), .int .i64 size, .int .u64 (m : Nat), .int .i64 e, .int .i64 P, .bool sh] 390)), x.w.cell? ⟨w.heap.size, 3, none⟩ = some (.int .i64 e) := fun x => x.cell (by simp)
 have f4 : ∀ x : Cl (w.alloc (.cells #[.int .u64 (bits : Nat), .int .i64 size, .int .u64 (m : Nat), .int .i64 e, .int .i64 P, .bool sh] 390)), x.w.cell? ⟨w.heap.size, 4, none⟩ = some (.int .i64 P) := fun x => x.cell (by simp)
 have f5 : ∀ x : Cl (w.alloc (.cells #[.int .u64 (bits : Nat), .int .i64 size, .int .u64 (m : Nat), .int .i64 e, .int .i64 P, .bool sh] 390)), x.w.cell? ⟨w.heap.size, 5, none⟩ = some (.bool sh) := fun x => x.cell (by simp)
 go_enter Tryz.func322, Tryz.ntmps322
 go_wp2_with (first
  | (go_at_call 341; (with_reducible refine (hPl _).mono ?_); rintro x w1 ⟨rfl, hb1⟩; obtain ⟨y1, rfl⟩ := Cl.start hb1)
  | (go_at_call 342; (with_reducible refine (hV _).mono ?_); rintro x w2 ⟨rfl, hb2⟩; obtain ⟨y2, rfl⟩ := Cl.next hb2)
  | (go_at_call 12; (with_reducible refine (hR _).mono ?_); rintro x w3 ⟨rfl, hb3⟩; obtain ⟨y3, rfl⟩ := Cl.next hb3; have g0 := Cl.up y3 (.cells #[.string S2, .int .i64 Q2] 31) f0; have g1 := Cl.up y3 (.cells #[.string S2, .int .i64 Q2] 31) f1; have g2 := Cl.up y3 (.cells #[.string S2, .int .i64 Q2] 31) f2; have g3 := Cl.up y3 (.cells #[.string S2, .int .i64 Q2] 31) f3; have g4 := Cl.up y3 (.cells #[.string S2, .int .i64 Q2] 31) f4; have g5 := Cl.up y3 (.cells #[.string S2, .int .i64 Q2] 31) f5; have d0 : ∀ z : Cl (y3.w.alloc (.cells #[.string S2, .int .i64 Q2] 31)), z.w.cell? ⟨y3.w.heap.size, 0, none⟩ = some (.string S2) := (fun z => z.cell (by simp)); have d1 : ∀ z : Cl (y3.w.alloc (.cells #[.string S2, .int .i64 Q2] 31)), z.w.cell? ⟨y3.w.heap.size, 1, none⟩ = some (.int .i64 Q2) := (fun z => z.cell (by simp)))
  | (go_at_call 346; (with_reducible refine (hA _).mono ?_); rintro x w4 ⟨rfl, hb4⟩; obtain ⟨y4, rfl⟩ := Cl.start hb4))
 refine wp_region_above (y3.w.alloc (.cells #[.string S2, .int .i64 Q2] 31)) y4.below (by kernel_rfl) (by kernel_rfl) ?_
 intro hCl
 repeat (go_big_quiet_step ((first | (go_at_call 344; exact Cl.call (hL _)) | (go_at_call 347; exact Cl.call (hS _)))))
 refine wpQuiet_nil ?_
 intro _ hw'
 obtain ⟨z, hz⟩ := hw'
 subst hz
 go_wp2
 go_ret
 exact ⟨rfl, bel_call hbA (Cl.out z) (Nat.le_refl _)⟩
abbrev BrC (bits m : Nat) (size e P : Int) (sh : Bool) (S : ByteArray) (Q most cnt : Int) : Prop := ∀ w, Calls Tryz.prog 348 #[.agg #[.int .u64 (bits : Nat), .int .i64 size, .int .u64 (m : Nat), .int .i64 e, .int .i64 P, .bool sh]] w fun x w' => x = .returned (.tuple #[.agg #[.string S, .int .i64 Q], .int .i64 most, .int .i64 cnt]) ∧ Below w.heap.size w w'
set_option maxRecDepth 1000000 in
theorem brief_short {bits m : Nat} {size e P : Int} {sh : Bool} {S : ByteArray} {Q : Int} (hP : P < 0) (hS : ∀ w, Calls Tryz.prog 358 #[.int .u64 bits, .int .i64 size] w fun e w' => e = .returned (.tuple #[.agg #[.string S, .int .i64 Q], .int .i64 0]) ∧ Below w.heap.size w w') : BrC bits m size e P sh S Q 21 6 := fun w => by
 go_enter Tryz.func348, Tryz.ntmps348
 go_wp2_with (go_at_call 358; refine (hS _).mono ?_; rintro x w3 ⟨rfl, hb3⟩; have bR := keepb hb3 (B := w.heap.size + 1) (x := .string ⟨#[]⟩) (y := .int .i64 0) (by simp [BoxDe, go_sem]); obtain ⟨r0, r1, r2, r3⟩ := id bR; have hlt : w.heap.size + 1 < w3.heap.size := World.block_lt_of_cell? w3 _ r0)
 refine bodyPost_ret (by simp [results, Tryz.results348, go_sem, cs_same, r0, r1, hlt]; rfl) rfl ?_
 refine ⟨rfl, ?_⟩
 have h := bel_call (B := w.heap.size) (w := w) (by go_grown) hb3 (Nat.le_refl _)
 have hs := (h.setCell (p := ⟨w.heap.size + 1, 0, none⟩) (by simp) (.string S)).setCell (p := ⟨w.heap.size + 1, 1, none⟩) (by simp) (.int .i64 Q)
 exact hs.alloc hs.size _
set_option maxRecDepth 1000000 in
theorem brief_round {bits m : Nat} {size e P : Int} {sh : Bool} {S S2 : ByteArray} {Q Q2 : Int} (hP : ¬ P < 0) (hV : ValC bits m size e P sh S Q) (hR : RoundC S Q (max P 1) S2 Q2 0) : BrC bits m size e P sh S2 Q2 (max P 1) (max P 1) := fun w => by
 go_enter Tryz.func348, Tryz.ntmps348
 go_wp2_with (first
  | (go_at_call 342; (with_reducible refine (hV _).mono ?_); rintro x w2 ⟨rfl, hb2⟩; have bR2 := keepb hb2 (B := w.heap.size + 1) (x := .string ⟨#[]⟩) (y := .int .i64 0) (by simp [BoxDe, go_sem]))
  | (go_at_call 11; (with_reducible refine (hR _).mono ?_); rintro x w3 ⟨rfl, hb3⟩; have bR := keepb hb3 bR2; obtain ⟨r0, r1, r2, r3⟩ := id bR; have hlt : w.heap.size + 1 < w3.heap.size := World.block_lt_of_cell? w3 _ r0))
 refine bodyPost_ret (by simp [results, Tryz.results348, go_sem, cs_same, r0, r1, hlt]; rfl) rfl ?_
 refine ⟨rfl, ?_⟩
 have h0 := bel_call (B := w.heap.size) (w := w) (by go_grown) hb2 (Nat.le_refl _)
 have h := bel_call h0 hb3 (Nat.le_refl _)
 have hs := (h.setCell (p := ⟨w.heap.size + 1, 0, none⟩) (by simp) (.string S2)).setCell (p := ⟨w.heap.size + 1, 1, none⟩) (by simp) (.int .i64 Q2)
 exact hs.alloc hs.size _
set_option maxRecDepth 1000000 in
set_option maxHeartbeats 1000000 in
theorem gen_sci {bits m : Nat} {size e P : Int} {sh : Bool} {S2 D1 D2 R : ByteArray} {Q2 most cnt x : Int} (hB : BrC bits m size e P sh S2 Q2 most cnt) (hL : LbC S2 1 D1) (hW : PowerC S2 Q2 x) (hD : if sh = true then LbC D1 cnt D2 else D2 = D1) (hx : x < -4 ∨ most ≤ x) (hS : SciC bits m size e P sh D2 x R) (w : World) :
  Calls Tryz.prog 323 #[.agg #[.int .u64 (bits : Nat), .int .i64 size, .int .u64 (m : Nat), .int .i64 e, .int .i64 P, .bool sh]] w fun x w' => x = .returned (.string R) ∧ Below w.heap.size w w' := by
 have hbA : Below w.heap.size w (w.alloc (.cells #[.int .u64 (bits : Nat), .int .i64 size, .int .u64 (m : Nat), .int .i64 e, .int .i64 P, .bool sh] 390)) := (Below.refl _ _).alloc (Nat.le_refl _) _
 have f0 : ∀ x : Cl (w.alloc (.cells #[.int .u64 (bits : Nat), .int .i64 size, .int .u64 (m : Nat), .int .i64 e, .int .i64 P, .bool sh] 390)), x.w.cell? ⟨w.heap.size, 0, none⟩ = some (.int .u64 (bits : Nat)) := fun x => x.cell (by simp)
 have f1 : ∀ x : Cl (w.alloc (.cells #[.int .u64 (bits : Nat), .int .i64 size, .int .u64 (m : Nat), .int .i64 e, .int .i64 P, .bool sh] 390)), x.w.cell? ⟨w.heap.size, 1, none⟩ = some (.int .i64 size) := fun x => x.cell (by simp)
 have f2 : ∀ x : Cl (w.alloc (.cells #[.int .u64 (bits : Nat), .int .i64 size, .int .u64 (m : Nat), .int .i64 e, .int .i64 P, .bool sh] 390)), x.w.cell? ⟨w.heap.size, 2, none⟩ = some (.int .u64 (m : Nat)) := fun x => x.cell (by simp)
 have f3 : ∀ x : Cl (w.alloc (.cells #[.int .u64 (bits : Nat), .int .i64 size, .int .u64 (m : Nat), .int .i64 e, .int .i64 P, .bool sh] 390)), x.w.cell? ⟨w.heap.size, 3, none⟩ = some (.int .i64 e) := fun x => x.cell (by simp)
 have f4 : ∀ x : Cl (w.alloc (.cells #[.int .u64 (bits : Nat), .int .i64 size, .int .u64 (m : Nat), .int .i64 e, .int .i64 P, .bool sh] 390)), x.w.cell? ⟨w.heap.size, 4, none⟩ = some (.int .i64 P) := fun x => x.cell (by simp)
 have f5 : ∀ x : Cl (w.alloc (.cells #[.int .u64 (bits : Nat), .int .i64 size, .int .u64 (m : Nat), .int .i64 e, .int .i64 P, .bool sh] 390)), x.w.cell? ⟨w.heap.size, 5, none⟩ = some (.bool sh) := fun x => x.cell (by simp)
 cases sh with
 | true =>
   simp only [if_true] at hD
   rcases Int.lt_or_le x (-4) with h1 | h1
   ·go_enter Tryz.func323, Tryz.ntmps323
    go_wp2_with (go_at_call 348; (with_reducible refine (hB _).mono ?_); rintro x w1 ⟨rfl, hb1⟩; obtain ⟨y3, rfl⟩ := Cl.start hb1; have g0 := Cl.up y3 (.cells #[.string S2, .int .i64 Q2] 31) f0; have g1 := Cl.up y3 (.cells #[.string S2, .int .i64 Q2] 31) f1; have g2 := Cl.up y3 (.cells #[.string S2, .int .i64 Q2] 31) f2; have g3 := Cl.up y3 (.cells #[.string S2, .int .i64 Q2] 31) f3; have g4 := Cl.up y3 (.cells #[.string S2, .int .i64 Q2] 31) f4; have g5 := Cl.up y3 (.cells #[.string S2, .int .i64 Q2] 31) f5; have d0 : ∀ z : Cl (y3.w.alloc (.cells #[.string S2, .int .i64 Q2] 31)), z.w.cell? ⟨y3.w.heap.size, 0, none⟩ = some (.string S2) := (fun z => z.cell (by simp)); have d1 : ∀ z : Cl (y3.w.alloc (.cells #[.string S2, .int .i64 Q2] 31)), z.w.cell? ⟨y3.w.heap.size, 1, none⟩ = some (.int .i64 Q2) := (fun z => z.cell (by simp)))
    refine wp_region_above (y3.w.alloc (.cells #[.string S2, .int .i64 Q2] 31)) (Below.refl _ _) (by kernel_rfl) (by kernel_rfl) ?_
    intro hCl
    repeat (go_big_quiet_step ((first | (go_at_call 344; exact Cl.call (hL _)) | (go_at_call 345; exact Cl.call (hW _)))))
    refine wpQuiet_nil ?_
    intro _ hw'
    obtain ⟨z, hz⟩ := hw'
    subst hz
    go_wp2_with (first
     | (go_at_call 344; (with_reducible refine (hD _).mono ?_); rintro x w4 ⟨rfl, hb4⟩; obtain ⟨z4, rfl⟩ := Cl.next hb4)
     | (go_at_call 343; (with_reducible refine (hS _).mono ?_); rintro x w5 ⟨rfl, hb5⟩; obtain ⟨z5, rfl⟩ := Cl.next hb5))
    go_ret
    exact ⟨rfl, bel_call hbA (Cl.out z5) (Nat.le_refl _)⟩
   ·have h2 : most ≤ x := by omega
    have h1n : ¬ x < -4 := by omega
    clear hx h1
    go_enter Tryz.func323, Tryz.ntmps323
    go_wp2_with (go_at_call 348; (with_reducible refine (hB _).mono ?_); rintro x w1 ⟨rfl, hb1⟩; obtain ⟨y3, rfl⟩ := Cl.start hb1; have g0 := Cl.up y3 (.cells #[.string S2, .int .i64 Q2] 31) f0; have g1 := Cl.up y3 (.cells #[.string S2, .int .i64 Q2] 31) f1; have g2 := Cl.up y3 (.cells #[.string S2, .int .i64 Q2] 31) f2; have g3 := Cl.up y3 (.cells #[.string S2, .int .i64 Q2] 31) f3; have g4 := Cl.up y3 (.cells #[.string S2, .int .i64 Q2] 31) f4; have g5 := Cl.up y3 (.cells #[.string S2, .int .i64 Q2] 31) f5; have d0 : ∀ z : Cl (y3.w.alloc (.cells #[.string S2, .int .i64 Q2] 31)), z.w.cell? ⟨y3.w.heap.size, 0, none⟩ = some (.string S2) := (fun z => z.cell (by simp)); have d1 : ∀ z : Cl (y3.w.alloc (.cells #[.string S2, .int .i64 Q2] 31)), z.w.cell? ⟨y3.w.heap.size, 1, none⟩ = some (.int .i64 Q2) := (fun z => z.cell (by simp)))
    refine wp_region_above (y3.w.alloc (.cells #[.string S2, .int .i64 Q2] 31)) (Below.refl _ _) (by kernel_rfl) (by kernel_rfl) ?_
    intro hCl
    repeat (go_big_quiet_step ((first | (go_at_call 344; exact Cl.call (hL _)) | (go_at_call 345; exact Cl.call (hW _)))))
    refine wpQuiet_nil ?_
    intro _ hw'
    obtain ⟨z, hz⟩ := hw'
    subst hz
    go_wp2_with (first
     | (go_at_call 344; (with_reducible refine (hD _).mono ?_); rintro x w4 ⟨rfl, hb4⟩; obtain ⟨z4, rfl⟩ := Cl.next hb4)
     | (go_at_call 343; (with_reducible refine (hS _).mono ?_); rintro x w5 ⟨rfl, hb5⟩; obtain ⟨z5, rfl⟩ := Cl.next hb5))
    go_ret
    exact ⟨rfl, bel_call hbA (Cl.out z5) (Nat.le_refl _)⟩
 | false =>
   simp only [Bool.false_eq_true, if_false] at hD
   subst hD
   rcases Int.lt_or_le x (-4) with h1 | h1
   ·go_enter Tryz.func323, Tryz.ntmps323
    go_wp2_with (go_at_call 348; (with_reducible refine (hB _).mono ?_); rintro x w1 ⟨rfl, hb1⟩; obtain ⟨y3, rfl⟩ := Cl.start hb1; have g0 := Cl.up y3 (.cells #[.string S2, .int .i64 Q2] 31) f0; have g1 := Cl.up y3 (.cells #[.string S2, .int .i64 Q2] 31) f1; have g2 := Cl.up y3 (.cells #[.string S2, .int .i64 Q2] 31) f2; have g3 := Cl.up y3 (.cells #[.string S2, .int .i64 Q2] 31) f3; have g4 := Cl.up y3 (.cells #[.string S2, .int .i64 Q2] 31) f4; have g5 := Cl.up y3 (.cells #[.string S2, .int .i64 Q2] 31) f5; have d0 : ∀ z : Cl (y3.w.alloc (.cells #[.string S2, .int .i64 Q2] 31)), z.w.cell? ⟨y3.w.heap.size, 0, none⟩ = some (.string S2) := (fun z => z.cell (by simp)); have d1 : ∀ z : Cl (y3.w.alloc (.cells #[.string S2, .int .i64 Q2] 31)), z.w.cell? ⟨y3.w.heap.size, 1, none⟩ = some (.int .i64 Q2) := (fun z => z.cell (by simp)))
    refine wp_region_above (y3.w.alloc (.cells #[.string S2, .int .i64 Q2] 31)) (Below.refl _ _) (by kernel_rfl) (by kernel_rfl) ?_
    intro hCl
    repeat (go_big_quiet_step ((first | (go_at_call 344; exact Cl.call (hL _)) | (go_at_call 345; exact Cl.call (hW _)))))
    refine wpQuiet_nil ?_
    intro _ hw'
    obtain ⟨z, hz⟩ := hw'
    subst hz
    go_wp2_with (go_at_call 343; (with_reducible refine (hS _).mono ?_); rintro x w5 ⟨rfl, hb5⟩; obtain ⟨z5, rfl⟩ := Cl.next hb5)
    go_ret
    exact ⟨rfl, bel_call hbA (Cl.out z5) (Nat.le_refl _)⟩
   ·have h2 : most ≤ x := by omega
    have h1n : ¬ x < -4 := by omega
    clear hx h1
    go_enter Tryz.func323, Tryz.ntmps323
    go_wp2_with (go_at_call 348; (with_reducible refine (hB _).mono ?_); rintro x w1 ⟨rfl, hb1⟩; obtain ⟨y3, rfl⟩ := Cl.start hb1; have g0 := Cl.up y3 (.cells #[.string S2, .int .i64 Q2] 31) f0; have g1 := Cl.up y3 (.cells #[.string S2, .int .i64 Q2] 31) f1; have g2 := Cl.up y3 (.cells #[.string S2, .int .i64 Q2] 31) f2; have g3 := Cl.up y3 (.cells #[.string S2, .int .i64 Q2] 31) f3; have g4 := Cl.up y3 (.cells #[.string S2, .int .i64 Q2] 31) f4; have g5 := Cl.up y3 (.cells #[.string S2, .int .i64 Q2] 31) f5; have d0 : ∀ z : Cl (y3.w.alloc (.cells #[.string S2, .int .i64 Q2] 31)), z.w.cell? ⟨y3.w.heap.size, 0, none⟩ = some (.string S2) := (fun z => z.cell (by simp)); have d1 : ∀ z : Cl (y3.w.alloc (.cells #[.string S2, .int .i64 Q2] 31)), z.w.cell? ⟨y3.w.heap.size, 1, none⟩ = some (.int .i64 Q2) := (fun z => z.cell (by simp)))
    refine wp_region_above (y3.w.alloc (.cells #[.string S2, .int .i64 Q2] 31)) (Below.refl _ _) (by kernel_rfl) (by kernel_rfl) ?_
    intro hCl
    repeat (go_big_quiet_step ((first | (go_at_call 344; exact Cl.call (hL _)) | (go_at_call 345; exact Cl.call (hW _)))))
    refine wpQuiet_nil ?_
    intro _ hw'
    obtain ⟨z, hz⟩ := hw'
    subst hz
    go_wp2_with (go_at_call 343; (with_reducible refine (hS _).mono ?_); rintro x w5 ⟨rfl, hb5⟩; obtain ⟨z5, rfl⟩ := Cl.next hb5)
    go_ret
    exact ⟨rfl, bel_call hbA (Cl.out z5) (Nat.le_refl _)⟩
set_option maxRecDepth 1000000 in
set_option maxHeartbeats 1000000 in
theorem gen_pt {bits m : Nat} {size e P : Int} {sh : Bool} {S2 D1 D2 A B R : ByteArray} {Q2 most cnt x : Int} (hB : BrC bits m size e P sh S2 Q2 most cnt) (hL : LbC S2 1 D1) (hW : PowerC S2 Q2 x) (hD : if sh = true then LbC D1 cnt D2 else D2 = D1) (hx1 : ¬ x < -4) (hx2 : ¬ most ≤ x) (hA : ArC D2 (x + 1) A B) (hS : PtdC bits m size e P sh A B R) (hx3 : x ≤ 100000) (w : World) :
  Calls Tryz.prog 323 #[.agg #[.int .u64 (bits : Nat), .int .i64 size, .int .u64 (m : Nat), .int .i64 e, .int .i64 P, .bool sh]] w fun x w' => x = .returned (.string R) ∧ Below w.heap.size w w' := by
 have hbA : Below w.heap.size w (w.alloc (.cells #[.int .u64 (bits : Nat), .int .i64 size, .int .u64 (m : Nat), .int .i64 e, .int .i64 P, .bool sh] 390)) := (Below.refl _ _).alloc (Nat.le_refl _) _
 have f0 : ∀ x : Cl (w.alloc (.cells #[.int .u64 (bits : Nat), .int .i64 size, .int .u64 (m : Nat), .int .i64 e, .int .i64 P, .bool sh] 390)), x.w.cell? ⟨w.heap.size, 0, none⟩ = some (.int .u64 (bits : Nat)) := fun x => x.cell (by simp)
 have f1 : ∀ x : Cl (w.alloc (.cells #[.int .u64 (bits : Nat), .int .i64 size, .int .u64 (m : Nat), .int .i64 e, .int .i64 P, .bool sh] 390)), x.w.cell? ⟨w.heap.size, 1, none⟩ = some (.int .i64 size) := fun x => x.cell (by simp)
 have f2 : ∀ x : Cl (w.alloc (.cells #[.int .u64 (bits : Nat), .int .i64 size, .int .u64 (m : Nat), .int .i64 e, .int .i64 P, .bool sh] 390)), x.w.cell? ⟨w.heap.size, 2, none⟩ = some (.int .u64 (m : Nat)) := fun x => x.cell (by simp)
 have f3 : ∀ x : Cl (w.alloc (.cells #[.int .u64 (bits : Nat), .int .i64 size, .int .u64 (m : Nat), .int .i64 e, .int .i64 P, .bool sh] 390)), x.w.cell? ⟨w.heap.size, 3, none⟩ = some (.int .i64 e) := fun x => x.cell (by simp)
 have f4 : ∀ x : Cl (w.alloc (.cells #[.int .u64 (bits : Nat), .int .i64 size, .int .u64 (m : Nat), .int .i64 e, .int .i64 P, .bool sh] 390)), x.w.cell? ⟨w.heap.size, 4, none⟩ = some (.int .i64 P) := fun x => x.cell (by simp)
 have f5 : ∀ x : Cl (w.alloc (.cells #[.int .u64 (bits : Nat), .int .i64 size, .int .u64 (m : Nat), .int .i64 e, .int .i64 P, .bool sh] 390)), x.w.cell? ⟨w.heap.size, 5, none⟩ = some (.bool sh) := fun x => x.cell (by simp)
 cases sh with
 | true =>
   simp only [if_true] at hD
   go_enter Tryz.func323, Tryz.ntmps323
   go_wp2_with (go_at_call 348; (with_reducible refine (hB _).mono ?_); rintro x w1 ⟨rfl, hb1⟩; obtain ⟨y3, rfl⟩ := Cl.start hb1; have g0 := Cl.up y3 (.cells #[.string S2, .int .i64 Q2] 31) f0; have g1 := Cl.up y3 (.cells #[.string S2, .int .i64 Q2] 31) f1; have g2 := Cl.up y3 (.cells #[.string S2, .int .i64 Q2] 31) f2; have g3 := Cl.up y3 (.cells #[.string S2, .int .i64 Q2] 31) f3; have g4 := Cl.up y3 (.cells #[.string S2, .int .i64 Q2] 31) f4; have g5 := Cl.up y3 (.cells #[.string S2, .int .i64 Q2] 31) f5; have d0 : ∀ z : Cl (y3.w.alloc (.cells #[.string S2, .int .i64 Q2] 31)), z.w.cell? ⟨y3.w.heap.size, 0, none⟩ = some (.string S2) := (fun z => z.cell (by simp)); have d1 : ∀ z : Cl (y3.w.alloc (.cells #[.string S2, .int .i64 Q2] 31)), z.w.cell? ⟨y3.w.heap.size, 1, none⟩ = some (.int .i64 Q2) := (fun z => z.cell (by simp)))
   refine wp_region_above (y3.w.alloc (.cells #[.string S2, .int .i64 Q2] 31)) (Below.refl _ _) (by kernel_rfl) (by kernel_rfl) ?_
   intro hCl
   repeat (go_big_quiet_step ((first | (go_at_call 344; exact Cl.call (hL _)) | (go_at_call 345; exact Cl.call (hW _)))))
   refine wpQuiet_nil ?_
   intro _ hw'
   obtain ⟨z, hz⟩ := hw'
   subst hz
   go_wp2_with (go_at_call 344; (with_reducible refine (hD _).mono ?_); rintro x w4 ⟨rfl, hb4⟩; obtain ⟨z4, rfl⟩ := Cl.next hb4)
   refine wp_region_above (y3.w.alloc (.cells #[.string S2, .int .i64 Q2] 31)) z4.below (by kernel_rfl) (by kernel_rfl) ?_
   intro hCl
   repeat (go_big_quiet_step ((first | (go_at_call 346; exact Cl.call (hA _)) | (go_at_call 347; exact Cl.call (hS _)))))
   refine wpQuiet_nil ?_
   intro _ hw'
   obtain ⟨z5, hz⟩ := hw'
   subst hz
   go_wp2
   go_ret
   exact ⟨rfl, bel_call hbA (Cl.out z5) (Nat.le_refl _)⟩
 | false =>
   simp only [Bool.false_eq_true, if_false] at hD
   subst hD
   go_enter Tryz.func323, Tryz.ntmps323
   go_wp2_with (go_at_call 348; (with_reducible refine (hB _).mono ?_); rintro x w1 ⟨rfl, hb1⟩; obtain ⟨y3, rfl⟩ := Cl.start hb1; have g0 := Cl.up y3 (.cells #[.string S2, .int .i64 Q2] 31) f0; have g1 := Cl.up y3 (.cells #[.string S2, .int .i64 Q2] 31) f1; have g2 := Cl.up y3 (.cells #[.string S2, .int .i64 Q2] 31) f2; have g3 := Cl.up y3 (.cells #[.string S2, .int .i64 Q2] 31) f3; have g4 := Cl.up y3 (.cells #[.string S2, .int .i64 Q2] 31) f4; have g5 := Cl.up y3 (.cells #[.string S2, .int .i64 Q2] 31) f5; have d0 : ∀ z : Cl (y3.w.alloc (.cells #[.string S2, .int .i64 Q2] 31)), z.w.cell? ⟨y3.w.heap.size, 0, none⟩ = some (.string S2) := (fun z => z.cell (by simp)); have d1 : ∀ z : Cl (y3.w.alloc (.cells #[.string S2, .int .i64 Q2] 31)), z.w.cell? ⟨y3.w.heap.size, 1, none⟩ = some (.int .i64 Q2) := (fun z => z.cell (by simp)))
   refine wp_region_above (y3.w.alloc (.cells #[.string S2, .int .i64 Q2] 31)) (Below.refl _ _) (by kernel_rfl) (by kernel_rfl) ?_
   intro hCl
   repeat (go_big_quiet_step ((first | (go_at_call 344; exact Cl.call (hL _)) | (go_at_call 345; exact Cl.call (hW _)))))
   refine wpQuiet_nil ?_
   intro _ hw'
   obtain ⟨z, hz⟩ := hw'
   subst hz
   go_wp2
   refine wp_region_above (y3.w.alloc (.cells #[.string S2, .int .i64 Q2] 31)) z.below (by kernel_rfl) (by kernel_rfl) ?_
   intro hCl
   repeat (go_big_quiet_step ((first | (go_at_call 346; exact Cl.call (hA _)) | (go_at_call 347; exact Cl.call (hS _)))))
   refine wpQuiet_nil ?_
   intro _ hw'
   obtain ⟨z5, hz⟩ := hw'
   subst hz
   go_wp2
   go_ret
   exact ⟨rfl, bel_call hbA (Cl.out z5) (Nat.le_refl _)⟩
set_option maxRecDepth 1000000 in
set_option maxHeartbeats 2000000 in
theorem parts_walk {bits m : Nat} {size e P : Int} {sh : Bool} {D G : ByteArray} (hD : DgC (m : Nat) 10 D) (hG : SgdC e 1 G) (hz : D.size + G.size ≤ 1000000) (w : World) :
  Calls Tryz.prog 324 #[.agg #[.int .u64 (bits : Nat), .int .i64 size, .int .u64 (m : Nat), .int .i64 e, .int .i64 P, .bool sh]] w fun x w' => x = .returned (.string ((D ++ ⟨#[112]⟩) ++ G)) ∧ Below w.heap.size w w' := by
 have h1 : (⟨#[112]⟩ : ByteArray).size = 1 := rfl
 have hz2 : D.size + (⟨#[112]⟩ : ByteArray).size + G.size ≤ 10000000 := by omega
 have hbA : Below w.heap.size w (w.alloc (.cells #[.int .u64 (bits : Nat), .int .i64 size, .int .u64 (m : Nat), .int .i64 e, .int .i64 P, .bool sh] 390)) := (Below.refl _ _).alloc (Nat.le_refl _) _
 have f0 : ∀ x : Cl (w.alloc (.cells #[.int .u64 (bits : Nat), .int .i64 size, .int .u64 (m : Nat), .int .i64 e, .int .i64 P, .bool sh] 390)), x.w.cell? ⟨w.heap.size, 0, none⟩ = some (.int .u64 (bits : Nat)) := fun x => x.cell (by simp)
 have f1 : ∀ x : Cl (w.alloc (.cells #[.int .u64 (bits : Nat), .int .i64 size, .int .u64 (m : Nat), .int .i64 e, .int .i64 P, .bool sh] 390)), x.w.cell? ⟨w.heap.size, 1, none⟩ = some (.int .i64 size) := fun x => x.cell (by simp)
 have f2 : ∀ x : Cl (w.alloc (.cells #[.int .u64 (bits : Nat), .int .i64 size, .int .u64 (m : Nat), .int .i64 e, .int .i64 P, .bool sh] 390)), x.w.cell? ⟨w.heap.size, 2, none⟩ = some (.int .u64 (m : Nat)) := fun x => x.cell (by simp)
 have f3 : ∀ x : Cl (w.alloc (.cells #[.int .u64 (bits : Nat), .int .i64 size, .int .u64 (m : Nat), .int .i64 e, .int .i64 P, .bool sh] 390)), x.w.cell? ⟨w.heap.size, 3, none⟩ = some (.int .i64 e) := fun x => x.cell (by simp)
 have f4 : ∀ x : Cl (w.alloc (.cells #[.int .u64 (bits : Nat), .int .i64 size, .int .u64 (m : Nat), .int .i64 e, .int .i64 P, .bool sh] 390)), x.w.cell? ⟨w.heap.size, 4, none⟩ = some (.int .i64 P) := fun x => x.cell (by simp)
 have f5 : ∀ x : Cl (w.alloc (.cells #[.int .u64 (bits : Nat), .int .i64 size, .int .u64 (m : Nat), .int .i64 e, .int .i64 P, .bool sh] 390)), x.w.cell? ⟨w.heap.size, 5, none⟩ = some (.bool sh) := fun x => x.cell (by simp)
 go_enter Tryz.func324, Tryz.ntmps324
 go_wp2_with fail
 go_region_with (first
  | (go_at_call 336; (with_reducible refine (hD _).mono ?_); rintro e w2 ⟨rfl, hb2⟩; obtain ⟨y2, rfl⟩ := Cl.first hb2)
  | (go_at_call 349; (with_reducible refine (hG _).mono ?_); rintro e w3 ⟨rfl, hb3⟩; obtain ⟨y3, rfl⟩ := Cl.next hb3)
  | (go_at_call 286; refine (together3 (a := D) (b := ⟨#[112]⟩) (c := G) _ (by simp) (by simp) (by simp) hz2).mono ?_; rintro e w4 ⟨rfl, hb4⟩; obtain ⟨y4, rfl⟩ := Cl.after hb4))
 all_goals go_wp2
 all_goals go_ret
 all_goals exact ⟨rfl, bel_call hbA y4.below (Nat.le_refl _)⟩
end Go.Proofs.YtiagjheifblkiaaGreatDoor
namespace Go.Proofs.YtiagjheifblkiaaGreatDoor
open Go.RowKit
set_option linter.unusedVariables false
set_option linter.unusedSimpArgs false
def hx : Nat → Nat → List UInt8
 | 0, _ => []
 | k + 1, n => hx k (n / 16) ++ [hexB false (n % 16)]
theorem hx_len (k n : Nat) : (hx k n).length = k := by
 induction k generalizing n with
 | zero => rfl
 | succ k ih => rw [hx, List.length_append, ih]; rfl
theorem hex_zero : hexB false 0 = 48 := by decide
theorem hex_one : hexB false 1 = 49 := by decide
theorem hx_zero (k : Nat) : hx k 0 = List.replicate k 48 := by
 induction k with
 | zero => rfl
 | succ k ih => rw [hx, Nat.zero_div, ih, Nat.zero_mod, hex_zero, List.replicate_succ']
theorem digP_hx : ∀ (k n : Nat), n < 16 ^ k → n < 2 ^ 64 → (digP false 16 n).length ≤ k ∧ List.replicate (k - (digP false 16 n).length) 48 ++ digP false 16 n = hx k n
 | 0, n, h, _ => by
   have : n = 0 := by simp at h; omega
   subst this
   rw [digP_zero]; exact ⟨Nat.le_refl _, rfl⟩
 | k + 1, n, h, h64 => by
   by_cases h0 : n = 0
   ·subst h0
    rw [digP_zero, hx_zero]
    exact ⟨Nat.zero_le _, by simp⟩
   ·obtain ⟨h1, h2⟩ := digP_hx k (n / 16) (by rw [Nat.pow_succ] at h; omega) (by omega)
    rw [digP_step false 16 n (by decide) h0 h64, hx, ← h2, List.length_append, List.length_singleton, ← List.append_assoc]
    refine ⟨by omega, ?_⟩
    congr 3; omega
theorem dig_hx {k n : Nat} (hk : 1 ≤ k) (h : n < 16 ^ k) (h64 : n < 2 ^ 64) : (lnA (digT false 16 n) k).data.toList = hx k n := by
 have hl : (digT false 16 n).data.toList = digS false 16 n := rfl
 have hz : (digT false 16 n).size = (digS false 16 n).length := by simp [digT, ByteArray.size]
 rw [lnA_list, hl, hz]
 by_cases h0 : n = 0
 ·subst h0
  have e : digS false 16 0 = [48] := by unfold digS; rw [Nat.zero_div, digP_zero, Nat.zero_mod, hex_zero]; rfl
  rw [e, hx_zero, ← List.replicate_succ' (n := _) (a := (48 : UInt8))]
  congr 1
  simp; omega
 ·rw [digS_pos false 16 n (by decide) h0 h64]
  obtain ⟨h1, h2⟩ := digP_hx k n h h64
  rw [← h2]
  congr 2; omega
theorem hx_split (a b n : Nat) : hx (a + b) n = hx a (n / 16 ^ b) ++ hx b n := by
 induction b generalizing n with
 | zero => simp [hx]
 | succ b ih =>
   rw [← Nat.add_assoc, hx, ih, hx, Nat.pow_succ, Nat.div_div_eq_div_mul, Nat.mul_comm 16, List.append_assoc]
theorem hx_mod (b n c : Nat) : hx b (c * 16 ^ b + n) = hx b n := by
 induction b generalizing n c with
 | zero => rfl
 | succ b ih =>
   rw [hx, hx]
   have e1 : (c * 16 ^ (b + 1) + n) / 16 = c * 16 ^ b + n / 16 := by rw [Nat.pow_succ, ← Nat.mul_assoc]; omega
   have e2 : (c * 16 ^ (b + 1) + n) % 16 = n % 16 := by rw [Nat.pow_succ, ← Nat.mul_assoc]; omega
   rw [e1, e2, ih]
theorem hx_lead (b n : Nat) (h : n < 16 ^ b) : hx (1 + b) (16 ^ b + n) = 49 :: hx b n := by
 have hp : 0 < 16 ^ b := Nat.pow_pos (by decide)
 have e : (16 ^ b + n) / 16 ^ b = 1 := by rw [Nat.add_div_left _ hp, Nat.div_eq_of_lt h]
 have e2 := hx_mod b n 1
 rw [Nat.one_mul] at e2
 rw [hx_split, e, e2]
 show ([] ++ [hexB false (1 % 16)]) ++ hx b n = _
 rw [show (1 : Nat) % 16 = 1 from rfl, hex_one]; rfl
theorem bit_in (m : Nat) (h0 : m ≠ 0) (h : m < 2 ^ 64) : ∃ L, Lib.bitLen m = L + 1 ∧ 2 ^ L ≤ m ∧ m < 2 ^ (L + 1) := by
 have key : ∀ (k m : Nat), m ≠ 0 → m < 2 ^ k → k ≤ 64 → ∃ L, Lib.bitLen m = L + 1 ∧ 2 ^ L ≤ m ∧ m < 2 ^ (L + 1) := by
  intro k
  induction k with
  | zero => intro m h0 h _; simp at h; omega
  | succ k ih =>
    intro m h0 h hk
    have h64 : m < 2 ^ 64 := Nat.lt_of_lt_of_le h (Nat.pow_le_pow_right (by decide) hk)
    by_cases h1 : m / 2 = 0
    ·refine ⟨0, ?_, ?_, ?_⟩
     ·rw [Lib.bitLen_half m h0 h64, h1]; rfl
     ·simp; omega
     ·simp; omega
    ·obtain ⟨L, e, a, b⟩ := ih (m / 2) h1 (by rw [Nat.pow_succ] at h; omega) (by omega)
     refine ⟨L + 1, by rw [Lib.bitLen_half m h0 h64, e]; omega, ?_, ?_⟩
     ·rw [Nat.pow_succ]; omega
     ·rw [Nat.pow_succ]; omega
 exact key 64 m h0 h (Nat.le_refl _)
theorem p13 : (16 : Nat) ^ 13 = 2 ^ 52 := by decide
theorem nm_in {m : Nat} (h0 : m ≠ 0) (h : m < 2 ^ 53) : nmS m ≤ 52 ∧ ∃ p, m * 2 ^ nmS m = 16 ^ 13 + p ∧ p < 16 ^ 13 := by
 obtain ⟨L, e, a, b⟩ := bit_in m h0 (Nat.lt_of_lt_of_le h (Nat.pow_le_pow_right (by decide) (by decide)))
 have hL : L ≤ 52 := by
  rcases Nat.lt_or_ge L 53 with h1 | h1
  ·omega
  ·have := Nat.pow_le_pow_right (show 0 < 2 by decide) h1; omega
 have es : nmS m = 52 - L := by unfold nmS; omega
 rw [es]
 refine ⟨by omega, m * 2 ^ (52 - L) - 16 ^ 13, ?_, ?_⟩
 ·have h1 := Nat.mul_le_mul_right (2 ^ (52 - L)) a
  rw [← Nat.pow_add, show L + (52 - L) = 52 by omega, ← p13] at h1
  omega
 ·have h1 := Nat.mul_lt_mul_of_pos_right b (Nat.pow_pos (n := 52 - L) (show 0 < 2 by decide))
  rw [← Nat.pow_add, show L + 1 + (52 - L) = 52 + 1 by omega, Nat.pow_succ, ← p13] at h1
  omega
def kpt (p P : Nat) : Nat := if p % 16 ^ (13 - P) > 16 ^ (13 - P) / 2 ∨ (p % 16 ^ (13 - P) = 16 ^ (13 - P) / 2 ∧ (p / 16 ^ (13 - P) + 16 ^ P) % 2 = 1) then p / 16 ^ (13 - P) + 1 else p / 16 ^ (13 - P)
theorem rbU_is (c : Nat) : rbU c = 16 ^ (13 - c) := by
 unfold rbU
 rw [Nat.pow_mul]
theorem u13 {P : Nat} (h : P < 13) : (16 : Nat) ^ 13 = 16 ^ P * 16 ^ (13 - P) := by rw [← Nat.pow_add]; congr 1; omega
theorem kpt_le {p P : Nat} (hP : P < 13) (h : p < 16 ^ 13) : kpt p P ≤ 16 ^ P := by
 have hu : 0 < 16 ^ (13 - P) := Nat.pow_pos (by decide)
 have : p / 16 ^ (13 - P) < 16 ^ P := Nat.div_lt_of_lt_mul (by rw [Nat.mul_comm, ← u13 hP]; exact h)
 unfold kpt
 split <;> omega
theorem rbW_is {p P : Nat} (hP : P < 13) : rbW (16 ^ 13 + p) P = 16 ^ P + kpt p P := by
 have hu : 0 < 16 ^ (13 - P) := Nat.pow_pos (by decide)
 have e1 : (16 ^ 13 + p) / 16 ^ (13 - P) = 16 ^ P + p / 16 ^ (13 - P) := by rw [u13 hP, Nat.mul_comm, Nat.mul_add_div hu]
 have e2 : (16 ^ 13 + p) % 16 ^ (13 - P) = p % 16 ^ (13 - P) := by rw [u13 hP, Nat.mul_comm, Nat.mul_add_mod]
 unfold rbW kpt
 rw [rbU_is, e1, e2, Nat.add_comm (16 ^ P)]
 split <;> omega
theorem rb_all {p : Nat} {P : Int} (h : P < 0 ∨ 13 ≤ P) : rb (16 ^ 13 + p) P = 16 ^ 13 + p := by unfold rb; rw [if_pos h]
theorem rb_some {p P : Nat} (h : P < 13) : rb (16 ^ 13 + p) P = 16 ^ 13 + kpt p P * 16 ^ (13 - P) := by
 unfold rb
 rw [if_neg (by omega), Int.toNat_natCast, rbW_is h, rbU_is, Nat.add_mul, ← u13 h]
theorem hex_0 (P e : Int) : (hxD 0 P).data.toList = List.replicate 14 48 ∧ nmE 0 e P = 0 := by
 refine ⟨?_, by simp [nmE]⟩
 have : nmM 0 P = 0 := by simp [nmM]
 unfold hxD
 rw [this, show (14 : Int) = ((14 : Nat) : Int) from rfl, dig_hx (by decide) (by decide) (by decide), hx_zero]
theorem hex_keep {m p : Nat} {P e : Int} (h0 : m ≠ 0) (hm : m * 2 ^ nmS m = 16 ^ 13 + p) {q : Nat} (hr : rb (16 ^ 13 + p) P = 16 ^ 13 + q) (hq : q < 16 ^ 13) :
  (hxD m P).data.toList = 49 :: hx 13 q ∧ nmE m e P = e + 52 - nmS m := by
 have hdB : rb (m * 2 ^ nmS m) P / 2 ^ 52 = 1 := by
  rw [hm, hr, ← p13, Nat.add_div_left _ (Nat.pow_pos (by decide)), Nat.div_eq_of_lt hq]
 refine ⟨?_, by unfold nmE; rw [if_neg h0, hdB, if_neg (by decide)]⟩
 have : nmM m P = 16 ^ 13 + q := by unfold nmM; rw [if_neg h0, hdB, if_neg (by decide), hm, hr]
 unfold hxD
 rw [this, show (14 : Int) = ((14 : Nat) : Int) from rfl, dig_hx (by decide) ?_ ?_]
 ·exact hx_lead 13 q hq
 ·have : (16 : Nat) ^ 14 = 16 ^ 13 * 16 := by decide
  omega
 ·have : (2 : Nat) ^ 64 = 16 ^ 13 * 4096 := by decide
  omega
theorem hex_carry {m p : Nat} {P e : Int} (h0 : m ≠ 0) (hm : m * 2 ^ nmS m = 16 ^ 13 + p) (hr : rb (16 ^ 13 + p) P = 16 ^ 13 + 16 ^ 13) :
  (hxD m P).data.toList = 49 :: List.replicate 13 48 ∧ nmE m e P = e + 52 - nmS m + 1 := by
 have hdB : rb (m * 2 ^ nmS m) P / 2 ^ 52 = 2 := by rw [hm, hr, ← p13]
 refine ⟨?_, by unfold nmE; rw [if_neg h0, hdB, if_pos rfl]⟩
 have : nmM m P = 16 ^ 13 + 0 := by unfold nmM; rw [if_neg h0, hdB, if_pos rfl, hm, hr]
 unfold hxD
 rw [this, show (14 : Int) = ((14 : Nat) : Int) from rfl, dig_hx (by decide) (by decide) (by decide), ← hx_zero]
 exact hx_lead 13 0 (by decide)
theorem hxD_size (m : Nat) (P : Int) (hm : m < 2 ^ 53) : (hxD m P).size = 14 := by
 have key : ∀ l, (hxD m P).data.toList = l → l.length = 14 → (hxD m P).size = 14 := fun l h1 h2 => by rw [← list_len, h1]; exact h2
 by_cases h0 : m = 0
 ·subst h0
  exact key _ (hex_0 P 0).1 (by simp)
 ·obtain ⟨-, p, h1, h2⟩ := nm_in h0 hm
  by_cases hP : P < 0 ∨ 13 ≤ P
  ·exact key _ (hex_keep (e := 0) h0 h1 (rb_all hP) h2).1 (by simp [hx_len])
  ·obtain ⟨n, rfl⟩ := Int.eq_ofNat_of_zero_le (show 0 ≤ P by omega)
   have hn : n < 13 := by omega
   have hk := kpt_le hn h2
   have hs := rb_some (p := p) hn
   rcases Nat.lt_or_ge (kpt p n) (16 ^ n) with h3 | h3
   ·refine key _ (hex_keep (e := 0) h0 h1 hs ?_).1 (by simp [hx_len])
    rw [u13 hn]
    exact Nat.mul_lt_mul_of_pos_right h3 (Nat.pow_pos (by decide))
   ·have : kpt p n = 16 ^ n := by omega
    rw [this, ← u13 hn] at hs
    exact key _ (hex_carry (e := 0) h0 h1 hs).1 (by simp)
end Go.Proofs.YtiagjheifblkiaaGreatDoor
