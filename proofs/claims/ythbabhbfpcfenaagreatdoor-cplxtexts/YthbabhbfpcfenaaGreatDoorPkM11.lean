/- MWalkC: these texts in one. -/
import Derived.Test.YthbabhbfpcfenaaGreatDoorPkM5
import Derived.Test.YthbabhbfpcfenaaGreatDoorPkM10
/- The document's answer for layer 6: Bare by b, e, f; Verb; Float. -/
namespace Go.Proofs.YthbabhbfpcfenaaGreatDoor
open Go.RowKit
set_option linter.unusedVariables false
set_option linter.unusedSimpArgs false

abbrev HxC (m : Nat) (e : Int) (S : ByteArray) (Q : Int) : Prop := ∀ w, Calls Tryz.prog 60 #[.int .u64 m, .int .i64 e] w fun x w' => x = .returned (.tuple #[.agg #[.string S, .int .i64 Q], .int .i64 0]) ∧ Below w.heap.size w w'
abbrev HrC (S : ByteArray) (Q n : Int) (S2 : ByteArray) (Q2 : Int) : Prop := ∀ w, Calls Tryz.prog 65 #[.agg #[.string S, .int .i64 Q], .int .i64 n] w fun x w' => x = .returned (.tuple #[.agg #[.string S2, .int .i64 Q2], .int .i64 0]) ∧ Below w.heap.size w w'
abbrev HpC4 (S : ByteArray) (Q n : Int) (S2 : ByteArray) (Q2 : Int) : Prop := ∀ w, Calls Tryz.prog 69 #[.agg #[.string S, .int .i64 Q], .int .i64 n] w fun x w' => x = .returned (.tuple #[.agg #[.string S2, .int .i64 Q2], .int .i64 0]) ∧ Below w.heap.size w w'
theorem wf_in {n : Int} (h0 : -1000000 ≤ n) (h1 : n ≤ 1000000) : (Lit.int .i64 n).wf = true := by
  have a : IntKind.i64.min = -9223372036854775808 := by decide
  have b : IntKind.i64.max = 9223372036854775807 := by decide
  show (decide (IntKind.i64.min ≤ n) && decide (n ≤ IntKind.i64.max)) = true
  rw [a, b, decide_eq_true (by omega), decide_eq_true (by omega)]; rfl
theorem hrC {v : Nat} {n : Int} (g : Good v) (h0 : -100000 ≤ n) (h1 : n ≤ 100000) : HrC (oS v) (oP v) n (oS (rnd v n)) (oP (rnd v n)) := fun w => by
  have := hround_any (oS v) (oP v) n w (oS_fit v g) (wf_in (by omega) (by omega))
  rw [g.normE, g.normV] at this
  exact this
theorem hpC {v : Nat} {n : Int} (g : Good v) (h0 : -100000 ≤ n) (h1 : n ≤ 100000) : HpC4 (oS v) (oP v) n (oS (plc v n)) (oP (plc v n)) := fun w => by
  have := hplaces_any (oS v) (oP v) n w (oS_fit v g) (wf_in (by omega) (by omega))
  rw [g.normE, g.normV] at this
  exact this
theorem hxC {m v : Nat} {e : Int} (hm : m < 18446744073709551616) (h0 : -1200 ≤ e) (h1 : e ≤ 1200) (hv : exU m e = v) : HxC m e (oS v) (oP v) := fun w => by
  have := hexact_any m e w hm
  have e1 : xE e = 0 := if_neg (by omega)
  have e2 : xV m e = exU m e := if_pos e1
  rw [e1, e2, hv] at this
  exact this
abbrev BaC (bits : Nat) (size : Int) (m : Nat) (e : Int) (p mi sh sp z : Bool) (wid prec verb : Int) (r : ByteArray) : Prop := ∀ w, Calls Tryz.prog 32 #[.int .u64 bits, .int .i64 size, .int .u64 m, .int .i64 e, .agg #[.bool p, .bool mi, .bool sh, .bool sp, .bool z, .int .i64 wid, .int .i64 prec, .int .i32 verb]] w fun x w' => x = .returned (.string r) ∧ Below w.heap.size w w'
abbrev WdC (n : Int) (k : Int) : Prop := ∀ w, Calls Tryz.prog 34 #[.int .i64 n] w fun e w' => e = .returned (.int .i64 k) ∧ w' = w
set_option maxRecDepth 1000000 in
set_option maxHeartbeats 1000000 in
theorem bare_b {bits m : Nat} {size e k Q : Int} {S D G R1 R : ByteArray} (p mi sh sp z : Bool) (wid prec : Int) (hW : WdC prec k) (hX : HxC m e S Q) (hD : EdC (m : Nat) 10 D) (hG : MwC e 1 G) (h1 : D ++ (⟨#[112]⟩ : ByteArray) = R1) (h2 : R1 ++ G = R) (z1 : ¬ 9223372036854775807 < D.size + (⟨#[112]⟩ : ByteArray).size) (z2 : ¬ 9223372036854775807 < R1.size + G.size) : BaC bits size m e p mi sh sp z wid prec 98 R := fun w => by
  have hbA : Below w.heap.size w (w.alloc (.cells #[.bool p, .bool mi, .bool sh, .bool sp, .bool z, .int .i64 wid, .int .i64 prec, .int .i32 98] 26)) := (Below.refl _ _).alloc (Nat.le_refl _) _
  have f0 : ∀ x : Cl (w.alloc (.cells #[.bool p, .bool mi, .bool sh, .bool sp, .bool z, .int .i64 wid, .int .i64 prec, .int .i32 98] 26)), x.w.cell? ⟨w.heap.size, 0, none⟩ = some (.bool p) := fun x => x.cell (by simp)
  have f1 : ∀ x : Cl (w.alloc (.cells #[.bool p, .bool mi, .bool sh, .bool sp, .bool z, .int .i64 wid, .int .i64 prec, .int .i32 98] 26)), x.w.cell? ⟨w.heap.size, 1, none⟩ = some (.bool mi) := fun x => x.cell (by simp)
  have f2 : ∀ x : Cl (w.alloc (.cells #[.bool p, .bool mi, .bool sh, .bool sp, .bool z, .int .i64 wid, .int .i64 prec, .int .i32 98] 26)), x.w.cell? ⟨w.heap.size, 2, none⟩ = some (.bool sh) := fun x => x.cell (by simp)
  have f3 : ∀ x : Cl (w.alloc (.cells #[.bool p, .bool mi, .bool sh, .bool sp, .bool z, .int .i64 wid, .int .i64 prec, .int .i32 98] 26)), x.w.cell? ⟨w.heap.size, 3, none⟩ = some (.bool sp) := fun x => x.cell (by simp)
  have f4 : ∀ x : Cl (w.alloc (.cells #[.bool p, .bool mi, .bool sh, .bool sp, .bool z, .int .i64 wid, .int .i64 prec, .int .i32 98] 26)), x.w.cell? ⟨w.heap.size, 4, none⟩ = some (.bool z) := fun x => x.cell (by simp)
  have f5 : ∀ x : Cl (w.alloc (.cells #[.bool p, .bool mi, .bool sh, .bool sp, .bool z, .int .i64 wid, .int .i64 prec, .int .i32 98] 26)), x.w.cell? ⟨w.heap.size, 5, none⟩ = some (.int .i64 wid) := fun x => x.cell (by simp)
  have f6 : ∀ x : Cl (w.alloc (.cells #[.bool p, .bool mi, .bool sh, .bool sp, .bool z, .int .i64 wid, .int .i64 prec, .int .i32 98] 26)), x.w.cell? ⟨w.heap.size, 6, none⟩ = some (.int .i64 prec) := fun x => x.cell (by simp)
  have f7 : ∀ x : Cl (w.alloc (.cells #[.bool p, .bool mi, .bool sh, .bool sp, .bool z, .int .i64 wid, .int .i64 prec, .int .i32 98] 26)), x.w.cell? ⟨w.heap.size, 7, none⟩ = some (.int .i32 98) := fun x => x.cell (by simp)
  go_enter Tryz.func32, Tryz.ntmps32
  go_wp2_with (first
    | (go_at_call 34; (with_reducible refine (hW _).mono ?_); rintro x w1 ⟨rfl, rfl⟩)
    | (go_at_call 60; (with_reducible refine (hX _).mono ?_); rintro x w2 ⟨rfl, hb2⟩; obtain ⟨y2, rfl⟩ := Cl.start hb2; have g7 := Cl.up y2 (.cells #[.string S, .int .i64 Q] 91) f7; have g7b := g7 ⟨_, Below.refl _ _⟩; have g7c : (y2.w.alloc (.cells #[.string S, .int .i64 Q] 91)).cell? ⟨w.heap.size, 7, none⟩ = _ := g7b)
    | (go_at_call 61; (with_reducible refine (hD _).mono ?_); rintro x w1 ⟨rfl, rfl⟩)
    | (go_at_call 62; (with_reducible refine (hG _).mono ?_); rintro x w4 ⟨rfl, hb4⟩))
  go_ret
  exact ⟨rfl, bel_call (bel_call hbA (y2.below.alloc y2.below.size _) (Nat.le_refl _)) hb4 (Nat.le_refl _)⟩
set_option maxRecDepth 1000000 in
set_option maxHeartbeats 1000000 in
theorem bare_101_n {bits m : Nat} {size e k Q Q2 x : Int} {S S2 D R : ByteArray} (p mi sh sp z : Bool) (wid prec : Int) (hW : WdC prec k) (hk : k < 0) (hk1 : k ≤ 1000) (hX : HxC m e S Q) (hR : HrC S Q 7 S2 Q2)
    (hD : ∀ w, Calls Tryz.prog 67 #[.agg #[.string S2, .int .i64 Q2], .int .i64 7] w fun e w' => e = .returned (.string D) ∧ Below w.heap.size w w')
    (hF : ∀ w, Calls Tryz.prog 68 #[.agg #[.string S2, .int .i64 Q2]] w fun y w' => y = .returned (.int .i64 x) ∧ Below w.heap.size w w')
    (hS : ∀ w, Calls Tryz.prog 66 #[.string D, .int .i64 x, .int .i32 101, .bool sh] w fun e w' => e = .returned (.string R) ∧ Below w.heap.size w w') : BaC bits size m e p mi sh sp z wid prec 101 R := fun w => by
  have hbA : Below w.heap.size w (w.alloc (.cells #[.bool p, .bool mi, .bool sh, .bool sp, .bool z, .int .i64 wid, .int .i64 prec, .int .i32 101] 26)) := (Below.refl _ _).alloc (Nat.le_refl _) _
  have f0 : ∀ x : Cl (w.alloc (.cells #[.bool p, .bool mi, .bool sh, .bool sp, .bool z, .int .i64 wid, .int .i64 prec, .int .i32 101] 26)), x.w.cell? ⟨w.heap.size, 0, none⟩ = some (.bool p) := fun x => x.cell (by simp)
  have f1 : ∀ x : Cl (w.alloc (.cells #[.bool p, .bool mi, .bool sh, .bool sp, .bool z, .int .i64 wid, .int .i64 prec, .int .i32 101] 26)), x.w.cell? ⟨w.heap.size, 1, none⟩ = some (.bool mi) := fun x => x.cell (by simp)
  have f2 : ∀ x : Cl (w.alloc (.cells #[.bool p, .bool mi, .bool sh, .bool sp, .bool z, .int .i64 wid, .int .i64 prec, .int .i32 101] 26)), x.w.cell? ⟨w.heap.size, 2, none⟩ = some (.bool sh) := fun x => x.cell (by simp)
  have f3 : ∀ x : Cl (w.alloc (.cells #[.bool p, .bool mi, .bool sh, .bool sp, .bool z, .int .i64 wid, .int .i64 prec, .int .i32 101] 26)), x.w.cell? ⟨w.heap.size, 3, none⟩ = some (.bool sp) := fun x => x.cell (by simp)
  have f4 : ∀ x : Cl (w.alloc (.cells #[.bool p, .bool mi, .bool sh, .bool sp, .bool z, .int .i64 wid, .int .i64 prec, .int .i32 101] 26)), x.w.cell? ⟨w.heap.size, 4, none⟩ = some (.bool z) := fun x => x.cell (by simp)
  have f5 : ∀ x : Cl (w.alloc (.cells #[.bool p, .bool mi, .bool sh, .bool sp, .bool z, .int .i64 wid, .int .i64 prec, .int .i32 101] 26)), x.w.cell? ⟨w.heap.size, 5, none⟩ = some (.int .i64 wid) := fun x => x.cell (by simp)
  have f6 : ∀ x : Cl (w.alloc (.cells #[.bool p, .bool mi, .bool sh, .bool sp, .bool z, .int .i64 wid, .int .i64 prec, .int .i32 101] 26)), x.w.cell? ⟨w.heap.size, 6, none⟩ = some (.int .i64 prec) := fun x => x.cell (by simp)
  have f7 : ∀ x : Cl (w.alloc (.cells #[.bool p, .bool mi, .bool sh, .bool sp, .bool z, .int .i64 wid, .int .i64 prec, .int .i32 101] 26)), x.w.cell? ⟨w.heap.size, 7, none⟩ = some (.int .i32 101) := fun x => x.cell (by simp)
  have h0 : 0 ≤ 6 := by omega
  go_enter Tryz.func32, Tryz.ntmps32
  go_wp2_with (first
    | (go_at_call 34; (with_reducible refine (hW _).mono ?_); rintro x w1 ⟨rfl, rfl⟩)
    | (go_at_call 60; (with_reducible refine (hX _).mono ?_); rintro x w2 ⟨rfl, hb2⟩; obtain ⟨y2, rfl⟩ := Cl.start hb2; have g2 := Cl.up y2 (.cells #[.string S, .int .i64 Q] 91) f2; have g7 := Cl.up y2 (.cells #[.string S, .int .i64 Q] 91) f7; have g7c : (y2.w.alloc (.cells #[.string S, .int .i64 Q] 91)).cell? ⟨w.heap.size, 7, none⟩ = _ := g7 ⟨_, Below.refl _ _⟩)
    | (go_at_call 65; (with_reducible refine (hR _).mono ?_); rintro x w3 ⟨rfl, hb3⟩; obtain ⟨y3, rfl⟩ := Cl.start hb3; have k2 := Cl.up y3 (.cells #[.string S2, .int .i64 Q2] 91) g2; have k7 := Cl.up y3 (.cells #[.string S2, .int .i64 Q2] 91) g7; have d0 : ∀ x : Cl (y3.w.alloc (.cells #[.string S2, .int .i64 Q2] 91)), x.w.cell? ⟨y3.w.heap.size, 0, none⟩ = some (.string S2) := (fun x => x.cell (by simp)); have d1 : ∀ x : Cl (y3.w.alloc (.cells #[.string S2, .int .i64 Q2] 91)), x.w.cell? ⟨y3.w.heap.size, 1, none⟩ = some (.int .i64 Q2) := (fun x => x.cell (by simp)); have k2c : (y3.w.alloc (.cells #[.string S2, .int .i64 Q2] 91)).cell? ⟨w.heap.size, 2, none⟩ = _ := k2 ⟨_, Below.refl _ _⟩))
  refine wp_region_above (y3.w.alloc (.cells #[.string S2, .int .i64 Q2] 91)) (Below.refl _ _) (by kernel_rfl) (by kernel_rfl) ?_
  intro hCl
  repeat (go_big_quiet_step ((first | (go_at_call 67; exact Cl.call (hD _)) | (go_at_call 68; exact Cl.call (hF _)) | (go_at_call 66; exact Cl.call (hS _)))))
  refine wpQuiet_nil ?_
  intro _ hw'
  obtain ⟨z9, hz⟩ := hw'
  subst hz
  go_wp2
  go_ret
  exact ⟨rfl, bel_call (bel_call hbA (y2.below.alloc y2.below.size _) (Nat.le_refl _)) (Cl.out z9) (Nat.le_refl _)⟩
set_option maxRecDepth 1000000 in
set_option maxHeartbeats 1000000 in
theorem bare_101_p {bits m : Nat} {size e k Q Q2 x : Int} {S S2 D R : ByteArray} (p mi sh sp z : Bool) (wid prec : Int) (hW : WdC prec k) (hk : ¬ k < 0) (hk1 : k ≤ 1000) (hX : HxC m e S Q) (hR : HrC S Q (k + 1) S2 Q2)
    (hD : ∀ w, Calls Tryz.prog 67 #[.agg #[.string S2, .int .i64 Q2], .int .i64 (k + 1)] w fun e w' => e = .returned (.string D) ∧ Below w.heap.size w w')
    (hF : ∀ w, Calls Tryz.prog 68 #[.agg #[.string S2, .int .i64 Q2]] w fun y w' => y = .returned (.int .i64 x) ∧ Below w.heap.size w w')
    (hS : ∀ w, Calls Tryz.prog 66 #[.string D, .int .i64 x, .int .i32 101, .bool sh] w fun e w' => e = .returned (.string R) ∧ Below w.heap.size w w') : BaC bits size m e p mi sh sp z wid prec 101 R := fun w => by
  have hbA : Below w.heap.size w (w.alloc (.cells #[.bool p, .bool mi, .bool sh, .bool sp, .bool z, .int .i64 wid, .int .i64 prec, .int .i32 101] 26)) := (Below.refl _ _).alloc (Nat.le_refl _) _
  have f0 : ∀ x : Cl (w.alloc (.cells #[.bool p, .bool mi, .bool sh, .bool sp, .bool z, .int .i64 wid, .int .i64 prec, .int .i32 101] 26)), x.w.cell? ⟨w.heap.size, 0, none⟩ = some (.bool p) := fun x => x.cell (by simp)
  have f1 : ∀ x : Cl (w.alloc (.cells #[.bool p, .bool mi, .bool sh, .bool sp, .bool z, .int .i64 wid, .int .i64 prec, .int .i32 101] 26)), x.w.cell? ⟨w.heap.size, 1, none⟩ = some (.bool mi) := fun x => x.cell (by simp)
  have f2 : ∀ x : Cl (w.alloc (.cells #[.bool p, .bool mi, .bool sh, .bool sp, .bool z, .int .i64 wid, .int .i64 prec, .int .i32 101] 26)), x.w.cell? ⟨w.heap.size, 2, none⟩ = some (.bool sh) := fun x => x.cell (by simp)
  have f3 : ∀ x : Cl (w.alloc (.cells #[.bool p, .bool mi, .bool sh, .bool sp, .bool z, .int .i64 wid, .int .i64 prec, .int .i32 101] 26)), x.w.cell? ⟨w.heap.size, 3, none⟩ = some (.bool sp) := fun x => x.cell (by simp)
  have f4 : ∀ x : Cl (w.alloc (.cells #[.bool p, .bool mi, .bool sh, .bool sp, .bool z, .int .i64 wid, .int .i64 prec, .int .i32 101] 26)), x.w.cell? ⟨w.heap.size, 4, none⟩ = some (.bool z) := fun x => x.cell (by simp)
  have f5 : ∀ x : Cl (w.alloc (.cells #[.bool p, .bool mi, .bool sh, .bool sp, .bool z, .int .i64 wid, .int .i64 prec, .int .i32 101] 26)), x.w.cell? ⟨w.heap.size, 5, none⟩ = some (.int .i64 wid) := fun x => x.cell (by simp)
  have f6 : ∀ x : Cl (w.alloc (.cells #[.bool p, .bool mi, .bool sh, .bool sp, .bool z, .int .i64 wid, .int .i64 prec, .int .i32 101] 26)), x.w.cell? ⟨w.heap.size, 6, none⟩ = some (.int .i64 prec) := fun x => x.cell (by simp)
  have f7 : ∀ x : Cl (w.alloc (.cells #[.bool p, .bool mi, .bool sh, .bool sp, .bool z, .int .i64 wid, .int .i64 prec, .int .i32 101] 26)), x.w.cell? ⟨w.heap.size, 7, none⟩ = some (.int .i32 101) := fun x => x.cell (by simp)
  have h0 : 0 ≤ k := by omega
  go_enter Tryz.func32, Tryz.ntmps32
  go_wp2_with (first
    | (go_at_call 34; (with_reducible refine (hW _).mono ?_); rintro x w1 ⟨rfl, rfl⟩)
    | (go_at_call 60; (with_reducible refine (hX _).mono ?_); rintro x w2 ⟨rfl, hb2⟩; obtain ⟨y2, rfl⟩ := Cl.start hb2; have g2 := Cl.up y2 (.cells #[.string S, .int .i64 Q] 91) f2; have g7 := Cl.up y2 (.cells #[.string S, .int .i64 Q] 91) f7; have g7c : (y2.w.alloc (.cells #[.string S, .int .i64 Q] 91)).cell? ⟨w.heap.size, 7, none⟩ = _ := g7 ⟨_, Below.refl _ _⟩)
    | (go_at_call 65; (with_reducible refine (hR _).mono ?_); rintro x w3 ⟨rfl, hb3⟩; obtain ⟨y3, rfl⟩ := Cl.start hb3; have k2 := Cl.up y3 (.cells #[.string S2, .int .i64 Q2] 91) g2; have k7 := Cl.up y3 (.cells #[.string S2, .int .i64 Q2] 91) g7; have d0 : ∀ x : Cl (y3.w.alloc (.cells #[.string S2, .int .i64 Q2] 91)), x.w.cell? ⟨y3.w.heap.size, 0, none⟩ = some (.string S2) := (fun x => x.cell (by simp)); have d1 : ∀ x : Cl (y3.w.alloc (.cells #[.string S2, .int .i64 Q2] 91)), x.w.cell? ⟨y3.w.heap.size, 1, none⟩ = some (.int .i64 Q2) := (fun x => x.cell (by simp)); have k2c : (y3.w.alloc (.cells #[.string S2, .int .i64 Q2] 91)).cell? ⟨w.heap.size, 2, none⟩ = _ := k2 ⟨_, Below.refl _ _⟩))
  refine wp_region_above (y3.w.alloc (.cells #[.string S2, .int .i64 Q2] 91)) (Below.refl _ _) (by kernel_rfl) (by kernel_rfl) ?_
  intro hCl
  repeat (go_big_quiet_step ((first | (go_at_call 67; exact Cl.call (hD _)) | (go_at_call 68; exact Cl.call (hF _)) | (go_at_call 66; exact Cl.call (hS _)))))
  refine wpQuiet_nil ?_
  intro _ hw'
  obtain ⟨z9, hz⟩ := hw'
  subst hz
  go_wp2
  go_ret
  exact ⟨rfl, bel_call (bel_call hbA (y2.below.alloc y2.below.size _) (Nat.le_refl _)) (Cl.out z9) (Nat.le_refl _)⟩
set_option maxRecDepth 1000000 in
set_option maxHeartbeats 1000000 in
theorem bare_69_n {bits m : Nat} {size e k Q Q2 x : Int} {S S2 D R : ByteArray} (p mi sh sp z : Bool) (wid prec : Int) (hW : WdC prec k) (hk : k < 0) (hk1 : k ≤ 1000) (hX : HxC m e S Q) (hR : HrC S Q 7 S2 Q2)
    (hD : ∀ w, Calls Tryz.prog 67 #[.agg #[.string S2, .int .i64 Q2], .int .i64 7] w fun e w' => e = .returned (.string D) ∧ Below w.heap.size w w')
    (hF : ∀ w, Calls Tryz.prog 68 #[.agg #[.string S2, .int .i64 Q2]] w fun y w' => y = .returned (.int .i64 x) ∧ Below w.heap.size w w')
    (hS : ∀ w, Calls Tryz.prog 66 #[.string D, .int .i64 x, .int .i32 69, .bool sh] w fun e w' => e = .returned (.string R) ∧ Below w.heap.size w w') : BaC bits size m e p mi sh sp z wid prec 69 R := fun w => by
  have hbA : Below w.heap.size w (w.alloc (.cells #[.bool p, .bool mi, .bool sh, .bool sp, .bool z, .int .i64 wid, .int .i64 prec, .int .i32 69] 26)) := (Below.refl _ _).alloc (Nat.le_refl _) _
  have f0 : ∀ x : Cl (w.alloc (.cells #[.bool p, .bool mi, .bool sh, .bool sp, .bool z, .int .i64 wid, .int .i64 prec, .int .i32 69] 26)), x.w.cell? ⟨w.heap.size, 0, none⟩ = some (.bool p) := fun x => x.cell (by simp)
  have f1 : ∀ x : Cl (w.alloc (.cells #[.bool p, .bool mi, .bool sh, .bool sp, .bool z, .int .i64 wid, .int .i64 prec, .int .i32 69] 26)), x.w.cell? ⟨w.heap.size, 1, none⟩ = some (.bool mi) := fun x => x.cell (by simp)
  have f2 : ∀ x : Cl (w.alloc (.cells #[.bool p, .bool mi, .bool sh, .bool sp, .bool z, .int .i64 wid, .int .i64 prec, .int .i32 69] 26)), x.w.cell? ⟨w.heap.size, 2, none⟩ = some (.bool sh) := fun x => x.cell (by simp)
  have f3 : ∀ x : Cl (w.alloc (.cells #[.bool p, .bool mi, .bool sh, .bool sp, .bool z, .int .i64 wid, .int .i64 prec, .int .i32 69] 26)), x.w.cell? ⟨w.heap.size, 3, none⟩ = some (.bool sp) := fun x => x.cell (by simp)
  have f4 : ∀ x : Cl (w.alloc (.cells #[.bool p, .bool mi, .bool sh, .bool sp, .bool z, .int .i64 wid, .int .i64 prec, .int .i32 69] 26)), x.w.cell? ⟨w.heap.size, 4, none⟩ = some (.bool z) := fun x => x.cell (by simp)
  have f5 : ∀ x : Cl (w.alloc (.cells #[.bool p, .bool mi, .bool sh, .bool sp, .bool z, .int .i64 wid, .int .i64 prec, .int .i32 69] 26)), x.w.cell? ⟨w.heap.size, 5, none⟩ = some (.int .i64 wid) := fun x => x.cell (by simp)
  have f6 : ∀ x : Cl (w.alloc (.cells #[.bool p, .bool mi, .bool sh, .bool sp, .bool z, .int .i64 wid, .int .i64 prec, .int .i32 69] 26)), x.w.cell? ⟨w.heap.size, 6, none⟩ = some (.int .i64 prec) := fun x => x.cell (by simp)
  have f7 : ∀ x : Cl (w.alloc (.cells #[.bool p, .bool mi, .bool sh, .bool sp, .bool z, .int .i64 wid, .int .i64 prec, .int .i32 69] 26)), x.w.cell? ⟨w.heap.size, 7, none⟩ = some (.int .i32 69) := fun x => x.cell (by simp)
  have h0 : 0 ≤ 6 := by omega
  go_enter Tryz.func32, Tryz.ntmps32
  go_wp2_with (first
    | (go_at_call 34; (with_reducible refine (hW _).mono ?_); rintro x w1 ⟨rfl, rfl⟩)
    | (go_at_call 60; (with_reducible refine (hX _).mono ?_); rintro x w2 ⟨rfl, hb2⟩; obtain ⟨y2, rfl⟩ := Cl.start hb2; have g2 := Cl.up y2 (.cells #[.string S, .int .i64 Q] 91) f2; have g7 := Cl.up y2 (.cells #[.string S, .int .i64 Q] 91) f7; have g7c : (y2.w.alloc (.cells #[.string S, .int .i64 Q] 91)).cell? ⟨w.heap.size, 7, none⟩ = _ := g7 ⟨_, Below.refl _ _⟩)
    | (go_at_call 65; (with_reducible refine (hR _).mono ?_); rintro x w3 ⟨rfl, hb3⟩; obtain ⟨y3, rfl⟩ := Cl.start hb3; have k2 := Cl.up y3 (.cells #[.string S2, .int .i64 Q2] 91) g2; have k7 := Cl.up y3 (.cells #[.string S2, .int .i64 Q2] 91) g7; have d0 : ∀ x : Cl (y3.w.alloc (.cells #[.string S2, .int .i64 Q2] 91)), x.w.cell? ⟨y3.w.heap.size, 0, none⟩ = some (.string S2) := (fun x => x.cell (by simp)); have d1 : ∀ x : Cl (y3.w.alloc (.cells #[.string S2, .int .i64 Q2] 91)), x.w.cell? ⟨y3.w.heap.size, 1, none⟩ = some (.int .i64 Q2) := (fun x => x.cell (by simp)); have k2c : (y3.w.alloc (.cells #[.string S2, .int .i64 Q2] 91)).cell? ⟨w.heap.size, 2, none⟩ = _ := k2 ⟨_, Below.refl _ _⟩))
  refine wp_region_above (y3.w.alloc (.cells #[.string S2, .int .i64 Q2] 91)) (Below.refl _ _) (by kernel_rfl) (by kernel_rfl) ?_
  intro hCl
  repeat (go_big_quiet_step ((first | (go_at_call 67; exact Cl.call (hD _)) | (go_at_call 68; exact Cl.call (hF _)) | (go_at_call 66; exact Cl.call (hS _)))))
  refine wpQuiet_nil ?_
  intro _ hw'
  obtain ⟨z9, hz⟩ := hw'
  subst hz
  go_wp2
  go_ret
  exact ⟨rfl, bel_call (bel_call hbA (y2.below.alloc y2.below.size _) (Nat.le_refl _)) (Cl.out z9) (Nat.le_refl _)⟩
set_option maxRecDepth 1000000 in
set_option maxHeartbeats 1000000 in
theorem bare_69_p {bits m : Nat} {size e k Q Q2 x : Int} {S S2 D R : ByteArray} (p mi sh sp z : Bool) (wid prec : Int) (hW : WdC prec k) (hk : ¬ k < 0) (hk1 : k ≤ 1000) (hX : HxC m e S Q) (hR : HrC S Q (k + 1) S2 Q2)
    (hD : ∀ w, Calls Tryz.prog 67 #[.agg #[.string S2, .int .i64 Q2], .int .i64 (k + 1)] w fun e w' => e = .returned (.string D) ∧ Below w.heap.size w w')
    (hF : ∀ w, Calls Tryz.prog 68 #[.agg #[.string S2, .int .i64 Q2]] w fun y w' => y = .returned (.int .i64 x) ∧ Below w.heap.size w w')
    (hS : ∀ w, Calls Tryz.prog 66 #[.string D, .int .i64 x, .int .i32 69, .bool sh] w fun e w' => e = .returned (.string R) ∧ Below w.heap.size w w') : BaC bits size m e p mi sh sp z wid prec 69 R := fun w => by
  have hbA : Below w.heap.size w (w.alloc (.cells #[.bool p, .bool mi, .bool sh, .bool sp, .bool z, .int .i64 wid, .int .i64 prec, .int .i32 69] 26)) := (Below.refl _ _).alloc (Nat.le_refl _) _
  have f0 : ∀ x : Cl (w.alloc (.cells #[.bool p, .bool mi, .bool sh, .bool sp, .bool z, .int .i64 wid, .int .i64 prec, .int .i32 69] 26)), x.w.cell? ⟨w.heap.size, 0, none⟩ = some (.bool p) := fun x => x.cell (by simp)
  have f1 : ∀ x : Cl (w.alloc (.cells #[.bool p, .bool mi, .bool sh, .bool sp, .bool z, .int .i64 wid, .int .i64 prec, .int .i32 69] 26)), x.w.cell? ⟨w.heap.size, 1, none⟩ = some (.bool mi) := fun x => x.cell (by simp)
  have f2 : ∀ x : Cl (w.alloc (.cells #[.bool p, .bool mi, .bool sh, .bool sp, .bool z, .int .i64 wid, .int .i64 prec, .int .i32 69] 26)), x.w.cell? ⟨w.heap.size, 2, none⟩ = some (.bool sh) := fun x => x.cell (by simp)
  have f3 : ∀ x : Cl (w.alloc (.cells #[.bool p, .bool mi, .bool sh, .bool sp, .bool z, .int .i64 wid, .int .i64 prec, .int .i32 69] 26)), x.w.cell? ⟨w.heap.size, 3, none⟩ = some (.bool sp) := fun x => x.cell (by simp)
  have f4 : ∀ x : Cl (w.alloc (.cells #[.bool p, .bool mi, .bool sh, .bool sp, .bool z, .int .i64 wid, .int .i64 prec, .int .i32 69] 26)), x.w.cell? ⟨w.heap.size, 4, none⟩ = some (.bool z) := fun x => x.cell (by simp)
  have f5 : ∀ x : Cl (w.alloc (.cells #[.bool p, .bool mi, .bool sh, .bool sp, .bool z, .int .i64 wid, .int .i64 prec, .int .i32 69] 26)), x.w.cell? ⟨w.heap.size, 5, none⟩ = some (.int .i64 wid) := fun x => x.cell (by simp)
  have f6 : ∀ x : Cl (w.alloc (.cells #[.bool p, .bool mi, .bool sh, .bool sp, .bool z, .int .i64 wid, .int .i64 prec, .int .i32 69] 26)), x.w.cell? ⟨w.heap.size, 6, none⟩ = some (.int .i64 prec) := fun x => x.cell (by simp)
  have f7 : ∀ x : Cl (w.alloc (.cells #[.bool p, .bool mi, .bool sh, .bool sp, .bool z, .int .i64 wid, .int .i64 prec, .int .i32 69] 26)), x.w.cell? ⟨w.heap.size, 7, none⟩ = some (.int .i32 69) := fun x => x.cell (by simp)
  have h0 : 0 ≤ k := by omega
  go_enter Tryz.func32, Tryz.ntmps32
  go_wp2_with (first
    | (go_at_call 34; (with_reducible refine (hW _).mono ?_); rintro x w1 ⟨rfl, rfl⟩)
    | (go_at_call 60; (with_reducible refine (hX _).mono ?_); rintro x w2 ⟨rfl, hb2⟩; obtain ⟨y2, rfl⟩ := Cl.start hb2; have g2 := Cl.up y2 (.cells #[.string S, .int .i64 Q] 91) f2; have g7 := Cl.up y2 (.cells #[.string S, .int .i64 Q] 91) f7; have g7c : (y2.w.alloc (.cells #[.string S, .int .i64 Q] 91)).cell? ⟨w.heap.size, 7, none⟩ = _ := g7 ⟨_, Below.refl _ _⟩)
    | (go_at_call 65; (with_reducible refine (hR _).mono ?_); rintro x w3 ⟨rfl, hb3⟩; obtain ⟨y3, rfl⟩ := Cl.start hb3; have k2 := Cl.up y3 (.cells #[.string S2, .int .i64 Q2] 91) g2; have k7 := Cl.up y3 (.cells #[.string S2, .int .i64 Q2] 91) g7; have d0 : ∀ x : Cl (y3.w.alloc (.cells #[.string S2, .int .i64 Q2] 91)), x.w.cell? ⟨y3.w.heap.size, 0, none⟩ = some (.string S2) := (fun x => x.cell (by simp)); have d1 : ∀ x : Cl (y3.w.alloc (.cells #[.string S2, .int .i64 Q2] 91)), x.w.cell? ⟨y3.w.heap.size, 1, none⟩ = some (.int .i64 Q2) := (fun x => x.cell (by simp)); have k2c : (y3.w.alloc (.cells #[.string S2, .int .i64 Q2] 91)).cell? ⟨w.heap.size, 2, none⟩ = _ := k2 ⟨_, Below.refl _ _⟩))
  refine wp_region_above (y3.w.alloc (.cells #[.string S2, .int .i64 Q2] 91)) (Below.refl _ _) (by kernel_rfl) (by kernel_rfl) ?_
  intro hCl
  repeat (go_big_quiet_step ((first | (go_at_call 67; exact Cl.call (hD _)) | (go_at_call 68; exact Cl.call (hF _)) | (go_at_call 66; exact Cl.call (hS _)))))
  refine wpQuiet_nil ?_
  intro _ hw'
  obtain ⟨z9, hz⟩ := hw'
  subst hz
  go_wp2
  go_ret
  exact ⟨rfl, bel_call (bel_call hbA (y2.below.alloc y2.below.size _) (Nat.le_refl _)) (Cl.out z9) (Nat.le_refl _)⟩
set_option maxRecDepth 1000000 in
set_option maxHeartbeats 1000000 in
theorem bare_102_n {bits m : Nat} {size e k Q Q2 : Int} {S S2 R : ByteArray} (p mi sh sp z : Bool) (wid prec : Int) (hW : WdC prec k) (hk : k < 0) (hk1 : k ≤ 1000) (hX : HxC m e S Q) (hR : HpC4 S Q 6 S2 Q2)
    (hS : ∀ w, Calls Tryz.prog 70 #[.agg #[.string S2, .int .i64 Q2], .int .i64 6, .bool sh] w fun e w' => e = .returned (.string R) ∧ Below w.heap.size w w') : BaC bits size m e p mi sh sp z wid prec 102 R := fun w => by
  have hbA : Below w.heap.size w (w.alloc (.cells #[.bool p, .bool mi, .bool sh, .bool sp, .bool z, .int .i64 wid, .int .i64 prec, .int .i32 102] 26)) := (Below.refl _ _).alloc (Nat.le_refl _) _
  have f0 : ∀ x : Cl (w.alloc (.cells #[.bool p, .bool mi, .bool sh, .bool sp, .bool z, .int .i64 wid, .int .i64 prec, .int .i32 102] 26)), x.w.cell? ⟨w.heap.size, 0, none⟩ = some (.bool p) := fun x => x.cell (by simp)
  have f1 : ∀ x : Cl (w.alloc (.cells #[.bool p, .bool mi, .bool sh, .bool sp, .bool z, .int .i64 wid, .int .i64 prec, .int .i32 102] 26)), x.w.cell? ⟨w.heap.size, 1, none⟩ = some (.bool mi) := fun x => x.cell (by simp)
  have f2 : ∀ x : Cl (w.alloc (.cells #[.bool p, .bool mi, .bool sh, .bool sp, .bool z, .int .i64 wid, .int .i64 prec, .int .i32 102] 26)), x.w.cell? ⟨w.heap.size, 2, none⟩ = some (.bool sh) := fun x => x.cell (by simp)
  have f3 : ∀ x : Cl (w.alloc (.cells #[.bool p, .bool mi, .bool sh, .bool sp, .bool z, .int .i64 wid, .int .i64 prec, .int .i32 102] 26)), x.w.cell? ⟨w.heap.size, 3, none⟩ = some (.bool sp) := fun x => x.cell (by simp)
  have f4 : ∀ x : Cl (w.alloc (.cells #[.bool p, .bool mi, .bool sh, .bool sp, .bool z, .int .i64 wid, .int .i64 prec, .int .i32 102] 26)), x.w.cell? ⟨w.heap.size, 4, none⟩ = some (.bool z) := fun x => x.cell (by simp)
  have f5 : ∀ x : Cl (w.alloc (.cells #[.bool p, .bool mi, .bool sh, .bool sp, .bool z, .int .i64 wid, .int .i64 prec, .int .i32 102] 26)), x.w.cell? ⟨w.heap.size, 5, none⟩ = some (.int .i64 wid) := fun x => x.cell (by simp)
  have f6 : ∀ x : Cl (w.alloc (.cells #[.bool p, .bool mi, .bool sh, .bool sp, .bool z, .int .i64 wid, .int .i64 prec, .int .i32 102] 26)), x.w.cell? ⟨w.heap.size, 6, none⟩ = some (.int .i64 prec) := fun x => x.cell (by simp)
  have f7 : ∀ x : Cl (w.alloc (.cells #[.bool p, .bool mi, .bool sh, .bool sp, .bool z, .int .i64 wid, .int .i64 prec, .int .i32 102] 26)), x.w.cell? ⟨w.heap.size, 7, none⟩ = some (.int .i32 102) := fun x => x.cell (by simp)
  go_enter Tryz.func32, Tryz.ntmps32
  go_wp2_with (first
    | (go_at_call 34; (with_reducible refine (hW _).mono ?_); rintro x w1 ⟨rfl, rfl⟩)
    | (go_at_call 60; (with_reducible refine (hX _).mono ?_); rintro x w2 ⟨rfl, hb2⟩; obtain ⟨y2, rfl⟩ := Cl.start hb2; have g2 := Cl.up y2 (.cells #[.string S, .int .i64 Q] 91) f2; have g7 := Cl.up y2 (.cells #[.string S, .int .i64 Q] 91) f7; have g7c : (y2.w.alloc (.cells #[.string S, .int .i64 Q] 91)).cell? ⟨w.heap.size, 7, none⟩ = _ := g7 ⟨_, Below.refl _ _⟩)
    | (go_at_call 69; (with_reducible refine (hR _).mono ?_); rintro x w3 ⟨rfl, hb3⟩; obtain ⟨y3, rfl⟩ := Cl.start hb3; have k2 := Cl.up y3 (.cells #[.string S2, .int .i64 Q2] 91) g2; have k7 := Cl.up y3 (.cells #[.string S2, .int .i64 Q2] 91) g7; have d0 : ∀ x : Cl (y3.w.alloc (.cells #[.string S2, .int .i64 Q2] 91)), x.w.cell? ⟨y3.w.heap.size, 0, none⟩ = some (.string S2) := (fun x => x.cell (by simp)); have d1 : ∀ x : Cl (y3.w.alloc (.cells #[.string S2, .int .i64 Q2] 91)), x.w.cell? ⟨y3.w.heap.size, 1, none⟩ = some (.int .i64 Q2) := (fun x => x.cell (by simp)); have k2c : (y3.w.alloc (.cells #[.string S2, .int .i64 Q2] 91)).cell? ⟨w.heap.size, 2, none⟩ = _ := k2 ⟨_, Below.refl _ _⟩)
    | (go_at_call 70; (with_reducible refine (hS _).mono ?_); rintro x w4 ⟨rfl, hb4⟩))
  go_ret
  exact ⟨rfl, bel_call (bel_call (bel_call hbA (y2.below.alloc y2.below.size _) (Nat.le_refl _)) (y3.below.alloc y3.below.size _) (Nat.le_refl _)) hb4 (Nat.le_refl _)⟩
set_option maxRecDepth 1000000 in
set_option maxHeartbeats 1000000 in
theorem bare_102_p {bits m : Nat} {size e k Q Q2 : Int} {S S2 R : ByteArray} (p mi sh sp z : Bool) (wid prec : Int) (hW : WdC prec k) (hk : ¬ k < 0) (hk1 : k ≤ 1000) (hX : HxC m e S Q) (hR : HpC4 S Q k S2 Q2)
    (hS : ∀ w, Calls Tryz.prog 70 #[.agg #[.string S2, .int .i64 Q2], .int .i64 k, .bool sh] w fun e w' => e = .returned (.string R) ∧ Below w.heap.size w w') : BaC bits size m e p mi sh sp z wid prec 102 R := fun w => by
  have hbA : Below w.heap.size w (w.alloc (.cells #[.bool p, .bool mi, .bool sh, .bool sp, .bool z, .int .i64 wid, .int .i64 prec, .int .i32 102] 26)) := (Below.refl _ _).alloc (Nat.le_refl _) _
  have f0 : ∀ x : Cl (w.alloc (.cells #[.bool p, .bool mi, .bool sh, .bool sp, .bool z, .int .i64 wid, .int .i64 prec, .int .i32 102] 26)), x.w.cell? ⟨w.heap.size, 0, none⟩ = some (.bool p) := fun x => x.cell (by simp)
  have f1 : ∀ x : Cl (w.alloc (.cells #[.bool p, .bool mi, .bool sh, .bool sp, .bool z, .int .i64 wid, .int .i64 prec, .int .i32 102] 26)), x.w.cell? ⟨w.heap.size, 1, none⟩ = some (.bool mi) := fun x => x.cell (by simp)
  have f2 : ∀ x : Cl (w.alloc (.cells #[.bool p, .bool mi, .bool sh, .bool sp, .bool z, .int .i64 wid, .int .i64 prec, .int .i32 102] 26)), x.w.cell? ⟨w.heap.size, 2, none⟩ = some (.bool sh) := fun x => x.cell (by simp)
  have f3 : ∀ x : Cl (w.alloc (.cells #[.bool p, .bool mi, .bool sh, .bool sp, .bool z, .int .i64 wid, .int .i64 prec, .int .i32 102] 26)), x.w.cell? ⟨w.heap.size, 3, none⟩ = some (.bool sp) := fun x => x.cell (by simp)
  have f4 : ∀ x : Cl (w.alloc (.cells #[.bool p, .bool mi, .bool sh, .bool sp, .bool z, .int .i64 wid, .int .i64 prec, .int .i32 102] 26)), x.w.cell? ⟨w.heap.size, 4, none⟩ = some (.bool z) := fun x => x.cell (by simp)
  have f5 : ∀ x : Cl (w.alloc (.cells #[.bool p, .bool mi, .bool sh, .bool sp, .bool z, .int .i64 wid, .int .i64 prec, .int .i32 102] 26)), x.w.cell? ⟨w.heap.size, 5, none⟩ = some (.int .i64 wid) := fun x => x.cell (by simp)
  have f6 : ∀ x : Cl (w.alloc (.cells #[.bool p, .bool mi, .bool sh, .bool sp, .bool z, .int .i64 wid, .int .i64 prec, .int .i32 102] 26)), x.w.cell? ⟨w.heap.size, 6, none⟩ = some (.int .i64 prec) := fun x => x.cell (by simp)
  have f7 : ∀ x : Cl (w.alloc (.cells #[.bool p, .bool mi, .bool sh, .bool sp, .bool z, .int .i64 wid, .int .i64 prec, .int .i32 102] 26)), x.w.cell? ⟨w.heap.size, 7, none⟩ = some (.int .i32 102) := fun x => x.cell (by simp)
  go_enter Tryz.func32, Tryz.ntmps32
  go_wp2_with (first
    | (go_at_call 34; (with_reducible refine (hW _).mono ?_); rintro x w1 ⟨rfl, rfl⟩)
    | (go_at_call 60; (with_reducible refine (hX _).mono ?_); rintro x w2 ⟨rfl, hb2⟩; obtain ⟨y2, rfl⟩ := Cl.start hb2; have g2 := Cl.up y2 (.cells #[.string S, .int .i64 Q] 91) f2; have g7 := Cl.up y2 (.cells #[.string S, .int .i64 Q] 91) f7; have g7c : (y2.w.alloc (.cells #[.string S, .int .i64 Q] 91)).cell? ⟨w.heap.size, 7, none⟩ = _ := g7 ⟨_, Below.refl _ _⟩)
    | (go_at_call 69; (with_reducible refine (hR _).mono ?_); rintro x w3 ⟨rfl, hb3⟩; obtain ⟨y3, rfl⟩ := Cl.start hb3; have k2 := Cl.up y3 (.cells #[.string S2, .int .i64 Q2] 91) g2; have k7 := Cl.up y3 (.cells #[.string S2, .int .i64 Q2] 91) g7; have d0 : ∀ x : Cl (y3.w.alloc (.cells #[.string S2, .int .i64 Q2] 91)), x.w.cell? ⟨y3.w.heap.size, 0, none⟩ = some (.string S2) := (fun x => x.cell (by simp)); have d1 : ∀ x : Cl (y3.w.alloc (.cells #[.string S2, .int .i64 Q2] 91)), x.w.cell? ⟨y3.w.heap.size, 1, none⟩ = some (.int .i64 Q2) := (fun x => x.cell (by simp)); have k2c : (y3.w.alloc (.cells #[.string S2, .int .i64 Q2] 91)).cell? ⟨w.heap.size, 2, none⟩ = _ := k2 ⟨_, Below.refl _ _⟩)
    | (go_at_call 70; (with_reducible refine (hS _).mono ?_); rintro x w4 ⟨rfl, hb4⟩))
  go_ret
  exact ⟨rfl, bel_call (bel_call (bel_call hbA (y2.below.alloc y2.below.size _) (Nat.le_refl _)) (y3.below.alloc y3.below.size _) (Nat.le_refl _)) hb4 (Nat.le_refl _)⟩
set_option maxRecDepth 1000000 in
set_option maxHeartbeats 1000000 in
theorem bare_70_n {bits m : Nat} {size e k Q Q2 : Int} {S S2 R : ByteArray} (p mi sh sp z : Bool) (wid prec : Int) (hW : WdC prec k) (hk : k < 0) (hk1 : k ≤ 1000) (hX : HxC m e S Q) (hR : HpC4 S Q 6 S2 Q2)
    (hS : ∀ w, Calls Tryz.prog 70 #[.agg #[.string S2, .int .i64 Q2], .int .i64 6, .bool sh] w fun e w' => e = .returned (.string R) ∧ Below w.heap.size w w') : BaC bits size m e p mi sh sp z wid prec 70 R := fun w => by
  have hbA : Below w.heap.size w (w.alloc (.cells #[.bool p, .bool mi, .bool sh, .bool sp, .bool z, .int .i64 wid, .int .i64 prec, .int .i32 70] 26)) := (Below.refl _ _).alloc (Nat.le_refl _) _
  have f0 : ∀ x : Cl (w.alloc (.cells #[.bool p, .bool mi, .bool sh, .bool sp, .bool z, .int .i64 wid, .int .i64 prec, .int .i32 70] 26)), x.w.cell? ⟨w.heap.size, 0, none⟩ = some (.bool p) := fun x => x.cell (by simp)
  have f1 : ∀ x : Cl (w.alloc (.cells #[.bool p, .bool mi, .bool sh, .bool sp, .bool z, .int .i64 wid, .int .i64 prec, .int .i32 70] 26)), x.w.cell? ⟨w.heap.size, 1, none⟩ = some (.bool mi) := fun x => x.cell (by simp)
  have f2 : ∀ x : Cl (w.alloc (.cells #[.bool p, .bool mi, .bool sh, .bool sp, .bool z, .int .i64 wid, .int .i64 prec, .int .i32 70] 26)), x.w.cell? ⟨w.heap.size, 2, none⟩ = some (.bool sh) := fun x => x.cell (by simp)
  have f3 : ∀ x : Cl (w.alloc (.cells #[.bool p, .bool mi, .bool sh, .bool sp, .bool z, .int .i64 wid, .int .i64 prec, .int .i32 70] 26)), x.w.cell? ⟨w.heap.size, 3, none⟩ = some (.bool sp) := fun x => x.cell (by simp)
  have f4 : ∀ x : Cl (w.alloc (.cells #[.bool p, .bool mi, .bool sh, .bool sp, .bool z, .int .i64 wid, .int .i64 prec, .int .i32 70] 26)), x.w.cell? ⟨w.heap.size, 4, none⟩ = some (.bool z) := fun x => x.cell (by simp)
  have f5 : ∀ x : Cl (w.alloc (.cells #[.bool p, .bool mi, .bool sh, .bool sp, .bool z, .int .i64 wid, .int .i64 prec, .int .i32 70] 26)), x.w.cell? ⟨w.heap.size, 5, none⟩ = some (.int .i64 wid) := fun x => x.cell (by simp)
  have f6 : ∀ x : Cl (w.alloc (.cells #[.bool p, .bool mi, .bool sh, .bool sp, .bool z, .int .i64 wid, .int .i64 prec, .int .i32 70] 26)), x.w.cell? ⟨w.heap.size, 6, none⟩ = some (.int .i64 prec) := fun x => x.cell (by simp)
  have f7 : ∀ x : Cl (w.alloc (.cells #[.bool p, .bool mi, .bool sh, .bool sp, .bool z, .int .i64 wid, .int .i64 prec, .int .i32 70] 26)), x.w.cell? ⟨w.heap.size, 7, none⟩ = some (.int .i32 70) := fun x => x.cell (by simp)
  go_enter Tryz.func32, Tryz.ntmps32
  go_wp2_with (first
    | (go_at_call 34; (with_reducible refine (hW _).mono ?_); rintro x w1 ⟨rfl, rfl⟩)
    | (go_at_call 60; (with_reducible refine (hX _).mono ?_); rintro x w2 ⟨rfl, hb2⟩; obtain ⟨y2, rfl⟩ := Cl.start hb2; have g2 := Cl.up y2 (.cells #[.string S, .int .i64 Q] 91) f2; have g7 := Cl.up y2 (.cells #[.string S, .int .i64 Q] 91) f7; have g7c : (y2.w.alloc (.cells #[.string S, .int .i64 Q] 91)).cell? ⟨w.heap.size, 7, none⟩ = _ := g7 ⟨_, Below.refl _ _⟩)
    | (go_at_call 69; (with_reducible refine (hR _).mono ?_); rintro x w3 ⟨rfl, hb3⟩; obtain ⟨y3, rfl⟩ := Cl.start hb3; have k2 := Cl.up y3 (.cells #[.string S2, .int .i64 Q2] 91) g2; have k7 := Cl.up y3 (.cells #[.string S2, .int .i64 Q2] 91) g7; have d0 : ∀ x : Cl (y3.w.alloc (.cells #[.string S2, .int .i64 Q2] 91)), x.w.cell? ⟨y3.w.heap.size, 0, none⟩ = some (.string S2) := (fun x => x.cell (by simp)); have d1 : ∀ x : Cl (y3.w.alloc (.cells #[.string S2, .int .i64 Q2] 91)), x.w.cell? ⟨y3.w.heap.size, 1, none⟩ = some (.int .i64 Q2) := (fun x => x.cell (by simp)); have k2c : (y3.w.alloc (.cells #[.string S2, .int .i64 Q2] 91)).cell? ⟨w.heap.size, 2, none⟩ = _ := k2 ⟨_, Below.refl _ _⟩)
    | (go_at_call 70; (with_reducible refine (hS _).mono ?_); rintro x w4 ⟨rfl, hb4⟩))
  go_ret
  exact ⟨rfl, bel_call (bel_call (bel_call hbA (y2.below.alloc y2.below.size _) (Nat.le_refl _)) (y3.below.alloc y3.below.size _) (Nat.le_refl _)) hb4 (Nat.le_refl _)⟩
set_option maxRecDepth 1000000 in
set_option maxHeartbeats 1000000 in
theorem bare_70_p {bits m : Nat} {size e k Q Q2 : Int} {S S2 R : ByteArray} (p mi sh sp z : Bool) (wid prec : Int) (hW : WdC prec k) (hk : ¬ k < 0) (hk1 : k ≤ 1000) (hX : HxC m e S Q) (hR : HpC4 S Q k S2 Q2)
    (hS : ∀ w, Calls Tryz.prog 70 #[.agg #[.string S2, .int .i64 Q2], .int .i64 k, .bool sh] w fun e w' => e = .returned (.string R) ∧ Below w.heap.size w w') : BaC bits size m e p mi sh sp z wid prec 70 R := fun w => by
  have hbA : Below w.heap.size w (w.alloc (.cells #[.bool p, .bool mi, .bool sh, .bool sp, .bool z, .int .i64 wid, .int .i64 prec, .int .i32 70] 26)) := (Below.refl _ _).alloc (Nat.le_refl _) _
  have f0 : ∀ x : Cl (w.alloc (.cells #[.bool p, .bool mi, .bool sh, .bool sp, .bool z, .int .i64 wid, .int .i64 prec, .int .i32 70] 26)), x.w.cell? ⟨w.heap.size, 0, none⟩ = some (.bool p) := fun x => x.cell (by simp)
  have f1 : ∀ x : Cl (w.alloc (.cells #[.bool p, .bool mi, .bool sh, .bool sp, .bool z, .int .i64 wid, .int .i64 prec, .int .i32 70] 26)), x.w.cell? ⟨w.heap.size, 1, none⟩ = some (.bool mi) := fun x => x.cell (by simp)
  have f2 : ∀ x : Cl (w.alloc (.cells #[.bool p, .bool mi, .bool sh, .bool sp, .bool z, .int .i64 wid, .int .i64 prec, .int .i32 70] 26)), x.w.cell? ⟨w.heap.size, 2, none⟩ = some (.bool sh) := fun x => x.cell (by simp)
  have f3 : ∀ x : Cl (w.alloc (.cells #[.bool p, .bool mi, .bool sh, .bool sp, .bool z, .int .i64 wid, .int .i64 prec, .int .i32 70] 26)), x.w.cell? ⟨w.heap.size, 3, none⟩ = some (.bool sp) := fun x => x.cell (by simp)
  have f4 : ∀ x : Cl (w.alloc (.cells #[.bool p, .bool mi, .bool sh, .bool sp, .bool z, .int .i64 wid, .int .i64 prec, .int .i32 70] 26)), x.w.cell? ⟨w.heap.size, 4, none⟩ = some (.bool z) := fun x => x.cell (by simp)
  have f5 : ∀ x : Cl (w.alloc (.cells #[.bool p, .bool mi, .bool sh, .bool sp, .bool z, .int .i64 wid, .int .i64 prec, .int .i32 70] 26)), x.w.cell? ⟨w.heap.size, 5, none⟩ = some (.int .i64 wid) := fun x => x.cell (by simp)
  have f6 : ∀ x : Cl (w.alloc (.cells #[.bool p, .bool mi, .bool sh, .bool sp, .bool z, .int .i64 wid, .int .i64 prec, .int .i32 70] 26)), x.w.cell? ⟨w.heap.size, 6, none⟩ = some (.int .i64 prec) := fun x => x.cell (by simp)
  have f7 : ∀ x : Cl (w.alloc (.cells #[.bool p, .bool mi, .bool sh, .bool sp, .bool z, .int .i64 wid, .int .i64 prec, .int .i32 70] 26)), x.w.cell? ⟨w.heap.size, 7, none⟩ = some (.int .i32 70) := fun x => x.cell (by simp)
  go_enter Tryz.func32, Tryz.ntmps32
  go_wp2_with (first
    | (go_at_call 34; (with_reducible refine (hW _).mono ?_); rintro x w1 ⟨rfl, rfl⟩)
    | (go_at_call 60; (with_reducible refine (hX _).mono ?_); rintro x w2 ⟨rfl, hb2⟩; obtain ⟨y2, rfl⟩ := Cl.start hb2; have g2 := Cl.up y2 (.cells #[.string S, .int .i64 Q] 91) f2; have g7 := Cl.up y2 (.cells #[.string S, .int .i64 Q] 91) f7; have g7c : (y2.w.alloc (.cells #[.string S, .int .i64 Q] 91)).cell? ⟨w.heap.size, 7, none⟩ = _ := g7 ⟨_, Below.refl _ _⟩)
    | (go_at_call 69; (with_reducible refine (hR _).mono ?_); rintro x w3 ⟨rfl, hb3⟩; obtain ⟨y3, rfl⟩ := Cl.start hb3; have k2 := Cl.up y3 (.cells #[.string S2, .int .i64 Q2] 91) g2; have k7 := Cl.up y3 (.cells #[.string S2, .int .i64 Q2] 91) g7; have d0 : ∀ x : Cl (y3.w.alloc (.cells #[.string S2, .int .i64 Q2] 91)), x.w.cell? ⟨y3.w.heap.size, 0, none⟩ = some (.string S2) := (fun x => x.cell (by simp)); have d1 : ∀ x : Cl (y3.w.alloc (.cells #[.string S2, .int .i64 Q2] 91)), x.w.cell? ⟨y3.w.heap.size, 1, none⟩ = some (.int .i64 Q2) := (fun x => x.cell (by simp)); have k2c : (y3.w.alloc (.cells #[.string S2, .int .i64 Q2] 91)).cell? ⟨w.heap.size, 2, none⟩ = _ := k2 ⟨_, Below.refl _ _⟩)
    | (go_at_call 70; (with_reducible refine (hS _).mono ?_); rintro x w4 ⟨rfl, hb4⟩))
  go_ret
  exact ⟨rfl, bel_call (bel_call (bel_call hbA (y2.below.alloc y2.below.size _) (Nat.le_refl _)) (y3.below.alloc y3.below.size _) (Nat.le_refl _)) hb4 (Nat.le_refl _)⟩
set_option maxRecDepth 1000000 in
set_option maxHeartbeats 1000000 in
theorem bare_120 {bits m : Nat} {size e k Q : Int} {S T : ByteArray} (p mi sh sp z : Bool) (wid prec : Int) (hW : WdC prec k) (hX : HxC m e S Q)
    (hH : ∀ w, Calls Tryz.prog 63 #[.int .u64 m, .int .i64 e, .int .i64 k, .bool sh] w fun e w' => e = .returned (.string T) ∧ Below w.heap.size w w') : BaC bits size m e p mi sh sp z wid prec 120 T := fun w => by
  have hbA : Below w.heap.size w (w.alloc (.cells #[.bool p, .bool mi, .bool sh, .bool sp, .bool z, .int .i64 wid, .int .i64 prec, .int .i32 120] 26)) := (Below.refl _ _).alloc (Nat.le_refl _) _
  have f0 : ∀ x : Cl (w.alloc (.cells #[.bool p, .bool mi, .bool sh, .bool sp, .bool z, .int .i64 wid, .int .i64 prec, .int .i32 120] 26)), x.w.cell? ⟨w.heap.size, 0, none⟩ = some (.bool p) := fun x => x.cell (by simp)
  have f1 : ∀ x : Cl (w.alloc (.cells #[.bool p, .bool mi, .bool sh, .bool sp, .bool z, .int .i64 wid, .int .i64 prec, .int .i32 120] 26)), x.w.cell? ⟨w.heap.size, 1, none⟩ = some (.bool mi) := fun x => x.cell (by simp)
  have f2 : ∀ x : Cl (w.alloc (.cells #[.bool p, .bool mi, .bool sh, .bool sp, .bool z, .int .i64 wid, .int .i64 prec, .int .i32 120] 26)), x.w.cell? ⟨w.heap.size, 2, none⟩ = some (.bool sh) := fun x => x.cell (by simp)
  have f3 : ∀ x : Cl (w.alloc (.cells #[.bool p, .bool mi, .bool sh, .bool sp, .bool z, .int .i64 wid, .int .i64 prec, .int .i32 120] 26)), x.w.cell? ⟨w.heap.size, 3, none⟩ = some (.bool sp) := fun x => x.cell (by simp)
  have f4 : ∀ x : Cl (w.alloc (.cells #[.bool p, .bool mi, .bool sh, .bool sp, .bool z, .int .i64 wid, .int .i64 prec, .int .i32 120] 26)), x.w.cell? ⟨w.heap.size, 4, none⟩ = some (.bool z) := fun x => x.cell (by simp)
  have f5 : ∀ x : Cl (w.alloc (.cells #[.bool p, .bool mi, .bool sh, .bool sp, .bool z, .int .i64 wid, .int .i64 prec, .int .i32 120] 26)), x.w.cell? ⟨w.heap.size, 5, none⟩ = some (.int .i64 wid) := fun x => x.cell (by simp)
  have f6 : ∀ x : Cl (w.alloc (.cells #[.bool p, .bool mi, .bool sh, .bool sp, .bool z, .int .i64 wid, .int .i64 prec, .int .i32 120] 26)), x.w.cell? ⟨w.heap.size, 6, none⟩ = some (.int .i64 prec) := fun x => x.cell (by simp)
  have f7 : ∀ x : Cl (w.alloc (.cells #[.bool p, .bool mi, .bool sh, .bool sp, .bool z, .int .i64 wid, .int .i64 prec, .int .i32 120] 26)), x.w.cell? ⟨w.heap.size, 7, none⟩ = some (.int .i32 120) := fun x => x.cell (by simp)
  go_enter Tryz.func32, Tryz.ntmps32
  go_wp2_with (first
    | (go_at_call 34; (with_reducible refine (hW _).mono ?_); rintro x w1 ⟨rfl, rfl⟩)
    | (go_at_call 60; (with_reducible refine (hX _).mono ?_); rintro x w2 ⟨rfl, hb2⟩; obtain ⟨y2, rfl⟩ := Cl.start hb2; have g2 := Cl.up y2 (.cells #[.string S, .int .i64 Q] 91) f2; have g7 := Cl.up y2 (.cells #[.string S, .int .i64 Q] 91) f7; have g7c : (y2.w.alloc (.cells #[.string S, .int .i64 Q] 91)).cell? ⟨w.heap.size, 7, none⟩ = _ := g7 ⟨_, Below.refl _ _⟩; have g2c : (y2.w.alloc (.cells #[.string S, .int .i64 Q] 91)).cell? ⟨w.heap.size, 2, none⟩ = _ := g2 ⟨_, Below.refl _ _⟩)
    | (go_at_call 63; (with_reducible refine (hH _).mono ?_); rintro x w4 ⟨rfl, hb4⟩; obtain ⟨y4, rfl⟩ := Cl.start hb4))
  go_ret
  exact ⟨rfl, bel_call (bel_call hbA (y2.below.alloc y2.below.size _) (Nat.le_refl _)) y4.below (Nat.le_refl _)⟩
set_option maxRecDepth 1000000 in
set_option maxHeartbeats 1000000 in
theorem bare_88 {bits m : Nat} {size e k Q : Int} {S T U : ByteArray} (p mi sh sp z : Bool) (wid prec : Int) (hW : WdC prec k) (hX : HxC m e S Q)
    (hH : ∀ w, Calls Tryz.prog 63 #[.int .u64 m, .int .i64 e, .int .i64 k, .bool sh] w fun e w' => e = .returned (.string T) ∧ Below w.heap.size w w') (hU : ∀ w, Calls Tryz.prog 64 #[.string T] w fun e w' => e = .returned (.string U) ∧ Below w.heap.size w w') : BaC bits size m e p mi sh sp z wid prec 88 U := fun w => by
  have hbA : Below w.heap.size w (w.alloc (.cells #[.bool p, .bool mi, .bool sh, .bool sp, .bool z, .int .i64 wid, .int .i64 prec, .int .i32 88] 26)) := (Below.refl _ _).alloc (Nat.le_refl _) _
  have f0 : ∀ x : Cl (w.alloc (.cells #[.bool p, .bool mi, .bool sh, .bool sp, .bool z, .int .i64 wid, .int .i64 prec, .int .i32 88] 26)), x.w.cell? ⟨w.heap.size, 0, none⟩ = some (.bool p) := fun x => x.cell (by simp)
  have f1 : ∀ x : Cl (w.alloc (.cells #[.bool p, .bool mi, .bool sh, .bool sp, .bool z, .int .i64 wid, .int .i64 prec, .int .i32 88] 26)), x.w.cell? ⟨w.heap.size, 1, none⟩ = some (.bool mi) := fun x => x.cell (by simp)
  have f2 : ∀ x : Cl (w.alloc (.cells #[.bool p, .bool mi, .bool sh, .bool sp, .bool z, .int .i64 wid, .int .i64 prec, .int .i32 88] 26)), x.w.cell? ⟨w.heap.size, 2, none⟩ = some (.bool sh) := fun x => x.cell (by simp)
  have f3 : ∀ x : Cl (w.alloc (.cells #[.bool p, .bool mi, .bool sh, .bool sp, .bool z, .int .i64 wid, .int .i64 prec, .int .i32 88] 26)), x.w.cell? ⟨w.heap.size, 3, none⟩ = some (.bool sp) := fun x => x.cell (by simp)
  have f4 : ∀ x : Cl (w.alloc (.cells #[.bool p, .bool mi, .bool sh, .bool sp, .bool z, .int .i64 wid, .int .i64 prec, .int .i32 88] 26)), x.w.cell? ⟨w.heap.size, 4, none⟩ = some (.bool z) := fun x => x.cell (by simp)
  have f5 : ∀ x : Cl (w.alloc (.cells #[.bool p, .bool mi, .bool sh, .bool sp, .bool z, .int .i64 wid, .int .i64 prec, .int .i32 88] 26)), x.w.cell? ⟨w.heap.size, 5, none⟩ = some (.int .i64 wid) := fun x => x.cell (by simp)
  have f6 : ∀ x : Cl (w.alloc (.cells #[.bool p, .bool mi, .bool sh, .bool sp, .bool z, .int .i64 wid, .int .i64 prec, .int .i32 88] 26)), x.w.cell? ⟨w.heap.size, 6, none⟩ = some (.int .i64 prec) := fun x => x.cell (by simp)
  have f7 : ∀ x : Cl (w.alloc (.cells #[.bool p, .bool mi, .bool sh, .bool sp, .bool z, .int .i64 wid, .int .i64 prec, .int .i32 88] 26)), x.w.cell? ⟨w.heap.size, 7, none⟩ = some (.int .i32 88) := fun x => x.cell (by simp)
  go_enter Tryz.func32, Tryz.ntmps32
  go_wp2_with (first
    | (go_at_call 34; (with_reducible refine (hW _).mono ?_); rintro x w1 ⟨rfl, rfl⟩)
    | (go_at_call 60; (with_reducible refine (hX _).mono ?_); rintro x w2 ⟨rfl, hb2⟩; obtain ⟨y2, rfl⟩ := Cl.start hb2; have g2 := Cl.up y2 (.cells #[.string S, .int .i64 Q] 91) f2; have g7 := Cl.up y2 (.cells #[.string S, .int .i64 Q] 91) f7; have g7c : (y2.w.alloc (.cells #[.string S, .int .i64 Q] 91)).cell? ⟨w.heap.size, 7, none⟩ = _ := g7 ⟨_, Below.refl _ _⟩; have g2c : (y2.w.alloc (.cells #[.string S, .int .i64 Q] 91)).cell? ⟨w.heap.size, 2, none⟩ = _ := g2 ⟨_, Below.refl _ _⟩)
    | (go_at_call 63; (with_reducible refine (hH _).mono ?_); rintro x w4 ⟨rfl, hb4⟩; obtain ⟨y4, rfl⟩ := Cl.start hb4)
    | (go_at_call 64; (with_reducible refine (hU _).mono ?_); rintro x w5 ⟨rfl, hb5⟩; obtain ⟨y5, rfl⟩ := Cl.next hb5))
  go_ret
  exact ⟨rfl, bel_call (bel_call hbA (y2.below.alloc y2.below.size _) (Nat.le_refl _)) y5.below (Nat.le_refl _)⟩
/-- The document's Bare is what the program writes, by b, e and f. -/
theorem up_id {l : List UInt8} (h : ∀ x ∈ l, x.toNat < 97) : Lib.toUpperA l = l := by
  unfold Lib.toUpperA
  conv => rhs; rw [← List.map_id l]
  apply List.map_congr_left
  intro x hx
  have := h x hx
  apply UInt8.toNat_inj.1
  rw [upB_nat, if_neg (by omega)]; rfl
theorem up_app (a b : List UInt8) : Lib.toUpperA (a ++ b) = Lib.toUpperA a ++ Lib.toUpperA b := by simp [Lib.toUpperA]
/-- Bytes below the small letters. -/
def Low (s : ByteArray) : Prop := ∀ x ∈ s.data.toList, x.toNat < 97
theorem Low.app {a b : ByteArray} (h : Low a) (k : Low b) : Low (a ++ b) := fun x hx => by
  rw [app_list] at hx
  rcases List.mem_append.1 hx with hx | hx
  · exact h x hx
  · exact k x hx
theorem Low.run {c : Nat} (hc : c < 97) (n : Nat) : Low (run c n) := fun x hx => by
  rw [run_list] at hx
  have := List.eq_of_mem_replicate hx
  subst this
  simp; omega
theorem Low.ext {s : ByteArray} (h : Low s) (a b : Nat) : Low (s.extract a b) := fun x hx => by
  rw [ext_li] at hx
  exact h x (List.mem_of_mem_take (List.mem_of_mem_drop hx))
theorem Low.lit {l : List UInt8} (h : l.all (fun x => decide (x.toNat < 97)) = true) : Low ⟨l.toArray⟩ := fun x hx => by
  have := List.all_eq_true.1 h x (by simpa using hx)
  simpa using this
theorem low_dig (n : Nat) : Low (digT false 10 n) := fun x hx => by
  obtain ⟨d, hd, rfl⟩ := digS_mem false 10 n (by decide) x hx
  have : ∀ d : Fin 10, (hexB false d.val).toNat < 97 := by decide
  exact this ⟨d, hd⟩
theorem low_oS (v : Nat) : Low (oS v) := fun x hx => by
  have := (isD_iff x).1 (allD_mem (o_dig v) hx)
  omega
theorem Low.lnA {s : ByteArray} (h : Low s) (n : Int) : Low (lnA s n) := (Low.run (by decide) _).app h
theorem Low.lnB {s : ByteArray} (h : Low s) (n : Int) : Low (lnB s n) := h.app (Low.run (by decide) _)
theorem Low.ptB {b : ByteArray} (k : Low b) (sh : Bool) : Low (ptB sh b) := by
  unfold Go.Proofs.YthbabhbfpcfenaaGreatDoor.ptB
  split
  · exact Low.lit (l := []) (by decide)
  · exact (Low.lit (l := [46]) (by decide)).app k
theorem low_sgd (n l : Int) : Low (sgd n l) := by
  refine Low.app ?_ ((low_dig _).lnA _)
  unfold sx1
  split
  · exact Low.lit (l := [45]) (by decide)
  · exact Low.lit (l := [43]) (by decide)
theorem Low.arA {d : ByteArray} (h : Low d) (p : Int) : Low (arA d p) := by
  unfold Go.Proofs.YthbabhbfpcfenaaGreatDoor.arA
  split
  · exact Low.lit (l := [48]) (by decide)
  · exact (h.lnB _).ext _ _
theorem Low.arB {d : ByteArray} (h : Low d) (p : Int) : Low (arB d p) := by
  unfold Go.Proofs.YthbabhbfpcfenaaGreatDoor.arB
  split
  · exact h.lnA _
  · exact (h.lnB _).ext _ _
theorem Low.ptd {a b : ByteArray} (h : Low a) (k : Low b) (sh : Bool) : Low (ptd sh a b) := by rw [← ptd_ptB]; exact h.app (k.ptB sh)
theorem big_low {s : ByteArray} (h : Low s) : bigT true s = s := by
  unfold bigT
  rw [if_pos rfl]
  apply ByteArray.ext; apply Array.ext'
  exact up_id h
theorem big_mk {A G : ByteArray} (h : Low A) (k : Low G) : bigT true ((A ++ ⟨#[101]⟩) ++ G) = (A ++ ⟨#[69]⟩) ++ G := by
  unfold bigT
  rw [if_pos rfl]
  apply ByteArray.ext; apply Array.ext'
  rw [app_list, app_list, app_list, app_list]
  show Lib.toUpperA _ = _
  rw [up_app, up_app, up_id h, up_id k]
  rfl
theorem big_sci {d : ByteArray} (h : Low d) (sh : Bool) (x : Int) : bigT true (sci sh d x) = sciM ⟨#[69]⟩ sh d x := by
  rw [← sciM_e]
  exact big_mk ((h.ext _ _).app ((h.ext _ _).ptB sh)) (low_sgd x 2)
theorem wdE_min (prec : Int) : (prec < 0 → wdE prec < 0) ∧ (¬ prec < 0 → wdE prec = min prec 1000) ∧ wdE prec ≤ 1000 := by
  unfold wdE wdt
  refine ⟨fun h => by rw [if_pos h]; decide, fun h => by rw [if_neg h]; omega, by split <;> omega⟩
theorem mbare_e {bits m v : Nat} {size e : Int} (hX : HxC m e (oS v) (oP v)) (fv : Fine v) (p mi sh sp z : Bool) (wid prec verb : Int) (d : Nat) (hv : verb = 101 ∨ verb = 69) : BaC bits size m e p mi sh sp z wid prec verb (finT sh prec m e v d verb) := by
  obtain ⟨w1, w2, w3⟩ := wdE_min prec
  have hk : ∀ (P : Int), P ≤ 1000 → ∀ c, c = cntE P → (∀ w, Calls Tryz.prog 66 #[.string (lnB (oS (rnd v c)) c), .int .i64 (pw0 (rnd v c)), .int .i32 verb, .bool sh] w fun e w' => e = .returned (.string (sciM (mkE verb) sh (lnB (oS (rnd v c)) c) (pw0 (rnd v c)))) ∧ Below w.heap.size w w') ∧ (∀ w, Calls Tryz.prog 67 #[.agg #[.string (oS (rnd v c)), .int .i64 (oP (rnd v c))], .int .i64 c] w fun e w' => e = .returned (.string (lnB (oS (rnd v c)) c)) ∧ Below w.heap.size w w') ∧ (∀ w, Calls Tryz.prog 68 #[.agg #[.string (oS (rnd v c)), .int .i64 (oP (rnd v c))]] w fun y w' => y = .returned (.int .i64 (pw0 (rnd v c))) ∧ Below w.heap.size w w') ∧ HrC (oS v) (oP v) c (oS (rnd v c)) (oP (rnd v c)) := by
    intro P hP c hc
    have h0 : 1 ≤ c ∧ c ≤ 1001 := by rw [hc]; unfold cntE; split <;> omega
    have hl := rnd_len (v := v) (c := c) h0.1
    have hp := rnd_pt v c
    have hp0 := oP_lo (rnd v c)
    have hp1 := fv.p1
    have hx := pw0_in (v := rnd v c) (by omega)
    have hs := oS_size (rnd v c)
    have hz := lnB_size (oS (rnd v c)) c
    exact ⟨fun w => msci_any _ _ _ _ w (by omega) (by omega) (by omega) (by omega), fun w => mdigits_any _ _ _ w (by omega) (by omega), fun w => mfirst_any _ w (by omega) (by omega), hrC fv.good (by omega) (by omega)⟩
  have hT : finT sh prec m e v d verb = sciM (mkE verb) sh (lnB (oS (rnd v (cntE (min prec 1000)))) (cntE (min prec 1000))) (pw0 (rnd v (cntE (min prec 1000)))) := by
    rcases hv with rfl | rfl
    · rw [finT_101]; unfold expT mkE; rw [if_neg (by decide), sciM_e]
    · rw [finT_69]; unfold expT mkE; rw [if_pos (.inl rfl), big_sci ((low_oS _).lnB _)]
  rw [hT]
  by_cases hp : prec < 0
  · have hc : cntE (min prec 1000) = 7 := by unfold cntE; rw [if_pos (by omega)]; rfl
    rw [hc]
    obtain ⟨k1, k2, k3, k4⟩ := hk (min prec 1000) (by omega) 7 hc.symm
    rcases hv with rfl | rfl
    · exact bare_101_n p mi sh sp z wid prec (fun w => rwidth_any prec w) (w1 hp) w3 hX k4 k2 k3 k1
    · exact bare_69_n p mi sh sp z wid prec (fun w => rwidth_any prec w) (w1 hp) w3 hX k4 k2 k3 k1
  · have hc : cntE (min prec 1000) = min prec 1000 + 1 := by unfold cntE; rw [if_neg (by omega)]
    rw [hc]
    obtain ⟨k1, k2, k3, k4⟩ := hk (min prec 1000) (by omega) _ hc.symm
    have hW : WdC prec (min prec 1000) := fun w => by have := rwidth_any prec w; rw [w2 hp] at this; exact this
    rcases hv with rfl | rfl
    · exact bare_101_p p mi sh sp z wid prec hW (by omega) (by omega) hX k4 k2 k3 k1
    · exact bare_69_p p mi sh sp z wid prec hW (by omega) (by omega) hX k4 k2 k3 k1
theorem mbare_f {bits m v : Nat} {size e : Int} (hX : HxC m e (oS v) (oP v)) (fv : Fine v) (p mi sh sp z : Bool) (wid prec verb : Int) (d : Nat) (hv : verb = 102 ∨ verb = 70) : BaC bits size m e p mi sh sp z wid prec verb (finT sh prec m e v d verb) := by
  obtain ⟨w1, w2, w3⟩ := wdE_min prec
  have hk : ∀ c : Int, 0 ≤ c → c ≤ 1000 → (∀ w, Calls Tryz.prog 70 #[.agg #[.string (oS (plc v c)), .int .i64 (oP (plc v c))], .int .i64 c, .bool sh] w fun e w' => e = .returned (.string (ptd sh (arA (oS (plc v c)) (oP (plc v c))) (lnB (arB (oS (plc v c)) (oP (plc v c))) c))) ∧ Below w.heap.size w w') ∧ HpC4 (oS v) (oP v) c (oS (plc v c)) (oP (plc v c)) := by
    intro c c0 c1
    have hl := plc_low (v := v) c0 c1
    have hp : oP (plc v c) ≤ max (oP v + 1) 0 := rnd_pt v _
    have hp0 := oP_lo (plc v c)
    have hp1 := fv.p1
    refine ⟨fun w => ?_, hpC fv.good (by omega) (by omega)⟩
    obtain ⟨n, rfl⟩ := Int.eq_ofNat_of_zero_le c0
    have := mpos_any (plc v n) n sh w (by omega) (by omega) (by omega)
    rw [ahT_is, show bhT (plc v n) n = bhT (plc v n) (n : Int).toNat by rw [Int.toNat_natCast], bhT_is c0 hl, ptd_ptB] at this
    exact this
  have hT : finT sh prec m e v d verb = fixT sh (min prec 1000) v := by
    rcases hv with rfl | rfl
    · rw [finT_102]
    · rw [finT_70]
  rw [hT]
  unfold fixT
  by_cases hp : prec < 0
  · have hc : plcF (min prec 1000) = 6 := by unfold plcF; rw [if_pos (by omega)]
    rw [hc]
    obtain ⟨k1, k2⟩ := hk 6 (by decide) (by decide)
    rcases hv with rfl | rfl
    · exact bare_102_n p mi sh sp z wid prec (fun w => rwidth_any prec w) (w1 hp) w3 hX k2 k1
    · exact bare_70_n p mi sh sp z wid prec (fun w => rwidth_any prec w) (w1 hp) w3 hX k2 k1
  · have hc : plcF (min prec 1000) = min prec 1000 := by unfold plcF; rw [if_neg (by omega)]
    rw [hc]
    obtain ⟨k1, k2⟩ := hk (min prec 1000) (by omega) (by omega)
    have hW : WdC prec (min prec 1000) := fun w => by have := rwidth_any prec w; rw [w2 hp] at this; exact this
    rcases hv with rfl | rfl
    · exact bare_102_p p mi sh sp z wid prec hW (by omega) (by omega) hX k2 k1
    · exact bare_70_p p mi sh sp z wid prec hW (by omega) (by omega) hX k2 k1
theorem mbare_b {bits m v : Nat} {size e : Int} (hX : HxC m e (oS v) (oP v)) (hm : m < 9007199254740992) (he0 : -2000 ≤ e) (he1 : e ≤ 2000) (p mi sh sp z : Bool) (wid prec : Int) (d : Nat) : BaC bits size m e p mi sh sp z wid prec 98 (finT sh prec m e v d 98) := by
  have h1 := digT_size false 10 m
  have h2 := sgd_size e 1 (by decide)
  have h3 : (⟨#[112]⟩ : ByteArray).size = 1 := rfl
  have hD : EdC (m : Nat) 10 (digT false 10 m) := fun w => edigits_any m 10 w (by omega) (.inr (.inr (.inl rfl)))
  rw [finT_98]
  exact bare_b p mi sh sp z wid prec (fun w => rwidth_any prec w) hX hD (fun w => mpower_any e 1 w (by omega) (by omega) (by decide) (by decide)) rfl rfl (by omega) (by rw [app_size]; omega)
end Go.Proofs.YthbabhbfpcfenaaGreatDoor
