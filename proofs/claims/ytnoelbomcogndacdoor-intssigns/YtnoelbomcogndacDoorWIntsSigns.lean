/- The walk of the law IntsSigns. -/
import Derived.Test.YtnoelbomcogndacDoorINumE
namespace Go.Proofs.YtnoelbomcogndacDoor
open Go.RowKit
set_option linter.unusedVariables false

theorem verbs7 (j : Nat) (h : j < (ByteArray.mk #[100, 98, 111, 79, 120, 88, 118]).size) : ¬ (((ByteArray.mk #[100, 98, 111, 79, 120, 88, 118])[j]'h).toNat : Int) = 99 ∧ ¬ (((ByteArray.mk #[100, 98, 111, 79, 120, 88, 118])[j]'h).toNat : Int) = 113 ∧ ¬ (((ByteArray.mk #[100, 98, 111, 79, 120, 88, 118])[j]'h).toNat : Int) = 85 ∧ ¬ baseV (((ByteArray.mk #[100, 98, 111, 79, 120, 88, 118])[j]'h).toNat : Int) = 0 := by
  match j, h with
  | 0, _ => exact (show ¬ ((100 : Nat) : Int) = 99 ∧ ¬ ((100 : Nat) : Int) = 113 ∧ ¬ ((100 : Nat) : Int) = 85 ∧ ¬ baseV ((100 : Nat) : Int) = 0 by decide)
  | 1, _ => exact (show ¬ ((98 : Nat) : Int) = 99 ∧ ¬ ((98 : Nat) : Int) = 113 ∧ ¬ ((98 : Nat) : Int) = 85 ∧ ¬ baseV ((98 : Nat) : Int) = 0 by decide)
  | 2, _ => exact (show ¬ ((111 : Nat) : Int) = 99 ∧ ¬ ((111 : Nat) : Int) = 113 ∧ ¬ ((111 : Nat) : Int) = 85 ∧ ¬ baseV ((111 : Nat) : Int) = 0 by decide)
  | 3, _ => exact (show ¬ ((79 : Nat) : Int) = 99 ∧ ¬ ((79 : Nat) : Int) = 113 ∧ ¬ ((79 : Nat) : Int) = 85 ∧ ¬ baseV ((79 : Nat) : Int) = 0 by decide)
  | 4, _ => exact (show ¬ ((120 : Nat) : Int) = 99 ∧ ¬ ((120 : Nat) : Int) = 113 ∧ ¬ ((120 : Nat) : Int) = 85 ∧ ¬ baseV ((120 : Nat) : Int) = 0 by decide)
  | 5, _ => exact (show ¬ ((88 : Nat) : Int) = 99 ∧ ¬ ((88 : Nat) : Int) = 113 ∧ ¬ ((88 : Nat) : Int) = 85 ∧ ¬ baseV ((88 : Nat) : Int) = 0 by decide)
  | 6, _ => exact (show ¬ ((118 : Nat) : Int) = 99 ∧ ¬ ((118 : Nat) : Int) = 113 ∧ ¬ ((118 : Nat) : Int) = 85 ∧ ¬ baseV ((118 : Nat) : Int) = 0 by decide)
  | n + 7, h => exact absurd h (by show ¬ n + 7 < 7; omega)
/-- What is written without a width and a precision: the sign, then the rest, which the sign does not turn. -/
theorem bare_is (v c : Int) (p sp : Bool) (h1 : ¬ c = 99) (h2 : ¬ c = 113) (h3 : ¬ c = 85) (h4 : ¬ baseV c = 0) :
    numS (uN v) v.natAbs (sgS v p sp) p false false false (-1) (-1) c = sgS v p sp ++ (markB (digT (decide (c = 88)) (baseV c) v.natAbs) false c ++ digT (decide (c = 88)) (baseV c) v.natAbs) ∧ numK c = true := by
  obtain ⟨e1, e2⟩ := numS_base (uN v) v.natAbs (sgS v p sp) p false false false (-1) (-1) c h1 h2 h3 h4
  refine ⟨?_, e2⟩
  rw [e1, pad_none _ _ _ _ (.inl (by omega)), core_bare _ _ _ _ _ _ _ _ (by simp), app_assoc']
theorem sgS_neg (v : Int) (p sp : Bool) (h : v < 0) : sgS v p sp = ⟨#[45]⟩ := by unfold sgS; rw [if_pos h]
theorem sgS_pos (v : Int) (p sp : Bool) (h : ¬ v < 0) : sgS v p sp = signA p sp := by unfold sgS; rw [if_neg h]
/-- The three texts of the law. -/
theorem signs_pack (v c : Int) (h1 : ¬ c = 99) (h2 : ¬ c = 113) (h3 : ¬ c = 85) (h4 : ¬ baseV c = 0) : ∃ a b s : ByteArray,
    numS (uN v) v.natAbs (sgS v false false) false false false false (-1) (-1) c = a ∧ numS (uN v) v.natAbs (sgS v true false) true false false false (-1) (-1) c = b ∧ numS (uN v) v.natAbs (sgS v false true) false false false false (-1) (-1) c = s ∧
    numK c = true ∧ a.size ≤ 5000 ∧ (v < 0 → b = a ∧ s = a ∧ 1 < a.size ∧ bt a 0 = 45) ∧ (¬ v < 0 → (⟨#[43]⟩ : ByteArray) ++ a = b ∧ (⟨#[32]⟩ : ByteArray) ++ a = s) := by
  obtain ⟨e1, ek⟩ := bare_is v c false false h1 h2 h3 h4
  obtain ⟨e2, -⟩ := bare_is v c true false h1 h2 h3 h4
  obtain ⟨e3, -⟩ := bare_is v c false true h1 h2 h3 h4
  have hdz := digT_size (decide (c = 88)) (baseV c) v.natAbs
  have hmz := markB_size (digT (decide (c = 88)) (baseV c) v.natAbs) false c
  refine ⟨_, _, _, e1, e2, e3, ek, ?_, fun h => ?_, fun h => ?_⟩
  · have := sgS_size v false false
    rw [app_size, app_size]; omega
  · rw [sgS_neg v _ _ h, sgS_neg v _ _ h, sgS_neg v _ _ h]
    refine ⟨rfl, rfl, ?_, ?_⟩
    · have : (⟨#[45]⟩ : ByteArray).size = 1 := rfl
      rw [app_size, app_size]; omega
    · rw [get_app_left _ _ 0 (by decide)]; rfl
  · rw [sgS_pos v _ _ h, sgS_pos v _ _ h, sgS_pos v _ _ h]
    have s0 : signA false false = ⟨#[]⟩ := rfl
    have s1 : signA true false = ⟨#[43]⟩ := rfl
    have s2 : signA false true = ⟨#[32]⟩ := rfl
    rw [s0, s1, s2, nil_app']
    exact ⟨rfl, rfl⟩

set_option maxRecDepth 1000000 in
set_option maxHeartbeats 1000000 in
theorem intsSigns_walk (v : Int) (hv : (Lit.int .i64 v).wf = true) (k0 : Int) (hk0 : (Lit.int .u64 k0).wf = true) (w : World) (hE : Esc w) :
    Calls Tryd.prog 3 #[.int .i64 v, .int .u64 k0] w fun e w' => e = .returned (.bool true) ∧ Below w.heap.size w w' := by
  have hv' := wf64 v hv
  have hk' := wfu64 k0 hk0
  obtain ⟨k, rfl⟩ : ∃ k : Nat, k0 = k := ⟨k0.toNat, by omega⟩
  have hj : k % 7 < (ByteArray.mk #[100, 98, 111, 79, 120, 88, 118]).size := Nat.mod_lt _ (by decide)
  have hV : ∀ w, _ := fun w => iverb_any ⟨#[100, 98, 111, 79, 120, 88, 118]⟩ false false false false false (-1) (-1) 0 k (k % 7) w hj (by decide) rfl (by omega)
  obtain ⟨g1, g2, g3, g4⟩ := verbs7 (k % 7) hj
  generalize ((((ByteArray.mk #[100, 98, 111, 79, 120, 88, 118])[k % 7]'hj).toNat : Nat) : Int) = c at *
  have hA : ∀ w, Esc w → _ := fun w hE => isigned_any v false false false false false (-1) (-1) c w hE hv'.1 hv'.2
  have hB : ∀ w, Esc w → _ := fun w hE => isigned_any v true false false false false (-1) (-1) c w hE hv'.1 hv'.2
  have hC : ∀ w, Esc w → _ := fun w hE => isigned_any v false false false true false (-1) (-1) c w hE hv'.1 hv'.2
  obtain ⟨a, b, s, e1, e2, e3, ek, haz, hneg, hpos⟩ := signs_pack v c g1 g2 g3 g4
  rw [e1, ek] at hA
  rw [e2, ek] at hB
  rw [e3, ek] at hC
  clear hv hk0 e1 e2 e3 ek g1 g2 g3 g4 hj
  by_cases h : v < 0
  · obtain ⟨x1, x2, x3, x4⟩ := hneg h
    subst x1 x2
    have x3' : (1 : Int) < s.size := by omega
    have x4' : ((s[0]'(by omega)).toNat : Int) = 45 := by rw [bt_at]; omega
    clear hneg hpos x4
    go_enter Tryd.func3, Tryd.ntmps3
    go_wp2_with (first | (go_at_call 7; refine (hV _).mono ?_; rintro e w1 ⟨rfl, b0⟩; have H0 := BoxAt.new w1 false false false false false (-1) (-1) c b0 hE) | (go_at_call 8; first | (have _h9 := H2; refine (hC _ ((H2.set0 false).set3 true).es).mono ?_; rintro e w4 ⟨rfl, b3⟩; have H3 := ((H2.set0 false).set3 true).call b3) | (have _h9 := H1; refine (hB _ (H1.set0 true).es).mono ?_; rintro e w3 ⟨rfl, b2⟩; have H2 := (H1.set0 true).call b2; obtain ⟨c0, c1, c2, c3, c4, c5, c6, c7, cf⟩ := H2.cells) | (refine (hA _ H0.es).mono ?_; rintro e w2 ⟨rfl, b1⟩; have H1 := H0.call b1; obtain ⟨c0, c1, c2, c3, c4, c5, c6, c7, cf⟩ := H1.cells)) | (go_at_call 9; refine (lives3_any _ H3.es).mono ?_; rintro e w6 ⟨rfl, b6⟩))
    go_ret
    exact ⟨rfl, (H3.bl).trans (b6.mono H3.bl.size)⟩
  · obtain ⟨x1, x2⟩ := hpos h
    have z1 : ¬ 9223372036854775807 < (⟨#[43]⟩ : ByteArray).size + a.size := by
      have : (⟨#[43]⟩ : ByteArray).size = 1 := rfl
      omega
    have z2 : ¬ 9223372036854775807 < (⟨#[32]⟩ : ByteArray).size + a.size := by
      have : (⟨#[32]⟩ : ByteArray).size = 1 := rfl
      omega
    clear hneg hpos
    go_enter Tryd.func3, Tryd.ntmps3
    go_wp2_with (first | (go_at_call 7; refine (hV _).mono ?_; rintro e w1 ⟨rfl, b0⟩; have H0 := BoxAt.new w1 false false false false false (-1) (-1) c b0 hE) | (go_at_call 8; first | (have _h9 := H2; refine (hC _ ((H2.set0 false).set3 true).es).mono ?_; rintro e w4 ⟨rfl, b3⟩; have H3 := ((H2.set0 false).set3 true).call b3) | (have _h9 := H1; refine (hB _ (H1.set0 true).es).mono ?_; rintro e w3 ⟨rfl, b2⟩; have H2 := (H1.set0 true).call b2; obtain ⟨c0, c1, c2, c3, c4, c5, c6, c7, cf⟩ := H2.cells) | (refine (hA _ H0.es).mono ?_; rintro e w2 ⟨rfl, b1⟩; have H1 := H0.call b1; obtain ⟨c0, c1, c2, c3, c4, c5, c6, c7, cf⟩ := H1.cells)) | (go_at_call 9; refine (lives3_any _ H3.es).mono ?_; rintro e w6 ⟨rfl, b6⟩))
    go_ret
    exact ⟨rfl, (H3.bl).trans (b6.mono H3.bl.size)⟩
end Go.Proofs.YtnoelbomcogndacDoor
