/- HCmp, HNum: these texts in one. -/
import Derived.Test.YthbabhbfpcfenaaGreatDoorPkM6
import Derived.Test.YthbabhbfpcfenaaGreatDoorPkF3
/- The document's Compare. -/
namespace Go.Proofs.YthbabhbfpcfenaaGreatDoor
open Go.RowKit
set_option linter.unusedVariables false
set_option linter.unusedSimpArgs false

def HLowC (S : ByteArray) (P L : Int) : Prop := ∀ w, Calls Tryz.prog 127 #[.agg #[.string S, .int .i64 P]] w fun e w' => e = .returned (.int .i64 L) ∧ Below w.heap.size w w'
def HDigC (S : ByteArray) (P q : Int) (d : Nat) : Prop := ∀ w, Calls Tryz.prog 130 #[.agg #[.string S, .int .i64 P], .int .i64 q] w fun e w' => e = .returned (.int .i64 (d : Int)) ∧ Below w.heap.size w w'
theorem cmp_first {v u T : Nat} (hv : v < 10 ^ T) (hu : u < 10 ^ T) : v / 10 ^ (T + 1) = u / 10 ^ (T + 1) := by
  have : (10 : Nat) ^ T ≤ 10 ^ (T + 1) := Nat.pow_le_pow_right (by decide) (by omega)
  rw [Nat.div_eq_of_lt (by omega), Nat.div_eq_of_lt (by omega)]
set_option maxRecDepth 1000000 in
set_option maxHeartbeats 800000 in
theorem hcmp_nn {S1 S2 : ByteArray} (P1 P2 : Int) (w : World) (h1 : S1.size = 0) (h2 : S2.size = 0) :
    Calls Tryz.prog 129 #[.agg #[.string S1, .int .i64 P1], .agg #[.string S2, .int .i64 P2]] w fun e w' => e = .returned (.int .i64 (0)) ∧ Below w.heap.size w w' := by
  have e1 : S1.toList.isEmpty = true := empty_yes S1 h1
  have e2 : S2.toList.isEmpty = true := empty_yes S2 h2
  clear h1 h2
  go_enter Tryz.func129, Tryz.ntmps129
  go_wp2
  go_ret
  exact ⟨rfl, by go_grown⟩
set_option maxRecDepth 1000000 in
set_option maxHeartbeats 800000 in
theorem hcmp_ns {S1 S2 : ByteArray} (P1 P2 : Int) (w : World) (h1 : S1.size = 0) (h2 : 0 < S2.size) :
    Calls Tryz.prog 129 #[.agg #[.string S1, .int .i64 P1], .agg #[.string S2, .int .i64 P2]] w fun e w' => e = .returned (.int .i64 (-1)) ∧ Below w.heap.size w w' := by
  have e1 : S1.toList.isEmpty = true := empty_yes S1 h1
  have e2 : S2.toList.isEmpty = false := empty_no S2 h2
  clear h1 h2
  go_enter Tryz.func129, Tryz.ntmps129
  go_wp2
  go_ret
  exact ⟨rfl, by go_grown⟩
set_option maxRecDepth 1000000 in
set_option maxHeartbeats 800000 in
theorem hcmp_sn {S1 S2 : ByteArray} (P1 P2 : Int) (w : World) (h1 : 0 < S1.size) (h2 : S2.size = 0) :
    Calls Tryz.prog 129 #[.agg #[.string S1, .int .i64 P1], .agg #[.string S2, .int .i64 P2]] w fun e w' => e = .returned (.int .i64 (1)) ∧ Below w.heap.size w w' := by
  have e1 : S1.toList.isEmpty = false := empty_no S1 h1
  have e2 : S2.toList.isEmpty = true := empty_yes S2 h2
  clear h1 h2
  go_enter Tryz.func129, Tryz.ntmps129
  go_wp2
  go_ret
  exact ⟨rfl, by go_grown⟩
set_option maxRecDepth 1000000 in
set_option maxHeartbeats 1600000 in
theorem hcmp_a {S1 S2 : ByteArray} {P1 P2 L1 L2 : Int} {v u T E : Nat} (w : World) (h1 : 0 < S1.size) (h2 : 0 < S2.size) (l1 : HLowC S1 P1 L1) (l2 : HLowC S2 P2 L2)
    (d1 : ∀ Q : Nat, Q ≤ T → HDigC S1 P1 ((Q : Int) - 10000) (v / 10 ^ Q % 10)) (d2 : ∀ Q : Nat, Q ≤ T → HDigC S2 P2 ((Q : Int) - 10000) (u / 10 ^ Q % 10))
    (hv : v < 10 ^ T) (hu : u < 10 ^ T) (ev : v % 10 ^ E = 0) (eu : u % 10 ^ E = 0) (hE : (E : Int) - 10000 = L1) (hT : (T : Int) - 10000 = P1) (hET : E ≤ T) (hT2 : T ≤ 100000) (hP : ¬ P1 < P2) (hL : ¬ L2 < L1) :
    Calls Tryz.prog 129 #[.agg #[.string S1, .int .i64 P1], .agg #[.string S2, .int .i64 P2]] w fun e w' => e = .returned (.int .i64 (ordN v u)) ∧ Below w.heap.size w w' := by
  have e1 : S1.toList.isEmpty = false := empty_no S1 h1
  have e2 : S2.toList.isEmpty = false := empty_no S2 h2
  have HF : Hid (v / 10 ^ (T + 1) = u / 10 ^ (T + 1)) := cmp_first hv hu
  have HM : Hid (v % 10 ^ E = 0 ∧ u % 10 ^ E = 0) := ⟨ev, eu⟩
  clear h1 h2 hv hu ev eu
  obtain ⟨W2, hW2⟩ : ∃ W2, (w.alloc (.cells #[.string S1, .int .i64 P1] 91)).alloc (.cells #[.string S2, .int .i64 P2] 91) = W2 := ⟨_, rfl⟩
  have bA : BoxD W2 w.heap.size (.string S1) (.int .i64 P1) := by rw [← hW2]; simp [BoxD, go_sem]
  have bB : BoxD W2 (w.heap.size + 1) (.string S2) (.int .i64 P2) := by rw [← hW2]; simp [BoxD, go_sem]
  have hbW : Below w.heap.size w W2 := by rw [← hW2]; go_grown
  obtain ⟨a0, a1, -, -⟩ := id bA
  obtain ⟨b0, b1, -, -⟩ := id bB
  have c0 : ∀ x : Cl W2, x.w.cell? ⟨w.heap.size, 0, none⟩ = some (.string S1) := fun x => x.cell a0
  have c1 : ∀ x : Cl W2, x.w.cell? ⟨w.heap.size, 1, none⟩ = some (.int .i64 P1) := fun x => x.cell a1
  have c2 : ∀ x : Cl W2, x.w.cell? ⟨w.heap.size + 1, 0, none⟩ = some (.string S2) := fun x => x.cell b0
  have c3 : ∀ x : Cl W2, x.w.cell? ⟨w.heap.size + 1, 1, none⟩ = some (.int .i64 P2) := fun x => x.cell b1
  have HE : Hid ((E : Int) - 10000 = L1) := hE
  have HT : Hid ((T : Int) - 10000 = P1) := hT
  clear hE hT
  go_enter Tryz.func129, Tryz.ntmps129
  go_wp2
  refine wp_region_above W2 (Below.refl _ _) (by kernel_rfl) (by kernel_rfl) ?_
  intro hCl
  repeat (go_big_quiet_step ((go_at_call_of 127 S1; exact Cl.call (l1 _))))
  refine wpQuiet_nil ?_
  intro _ hw'
  obtain ⟨y, hx⟩ := hw'
  subst hx
  go_wp2_with (go_at_call_of 127 S2; refine (Cl.go (l2 _)).mono ?_; rintro e w9 ⟨y, rfl, rfl⟩)
  go_loopg [7] (T + 1 - E) (fun g pv wr => ∃ (Q : Nat) (y : Cl W2), pv = .int .i64 ((Q : Int) - 10001) ∧ wr = y.w ∧ Q = g + E ∧ Q ≤ T + 1 ∧ Hid (v / 10 ^ Q = u / 10 ^ Q))
  case atStart => exact ⟨T + 1, _, by have := HT.out; go_num, rfl, by omega, Nat.le_refl _, HF⟩
  case round =>
    obtain ⟨Q, y2, rfl, rfl, hQg, hQT, HQ⟩ := hrel
    by_cases hgo : E < Q
    · obtain ⟨R, rfl⟩ : ∃ R, Q = R + 1 := ⟨Q - 1, by omega⟩
      have hgI : L1 ≤ ((R + 1 : Nat) : Int) - 10001 := by have := HE.out; omega
      have ep : ((R + 1 : Nat) : Int) - 10001 = (R : Int) - 10000 := by omega
      have k1 := d1 R (by omega)
      have k2 := d2 R (by omega)
      have HLT : Hid (v / 10 ^ R % 10 < u / 10 ^ R % 10 → ordN v u = -1) := fun h => ordN_lt (place_lt HQ.out h)
      have HGT : Hid (u / 10 ^ R % 10 < v / 10 ^ R % 10 → ordN v u = 1) := fun h => ordN_gt (place_lt HQ.out.symm h)
      have HEQ : Hid (v / 10 ^ R % 10 = u / 10 ^ R % 10 → v / 10 ^ R = u / 10 ^ R) := fun h => place_eq HQ.out h
      have hx9 : v / 10 ^ R % 10 < 10 := Nat.mod_lt _ (by decide)
      have hy9 : u / 10 ^ R % 10 < 10 := Nat.mod_lt _ (by decide)
      rw [ep] at hgI ⊢
      clear HQ ep
      generalize v / 10 ^ R % 10 = x at *
      generalize u / 10 ^ R % 10 = y at *
      have hR1 : (R : Int) ≤ 100000 := by omega
      have hR0 : 0 ≤ (R : Int) := by omega
      go_wp2
      refine wp_region_above W2 y2.below (by kernel_rfl) (by kernel_rfl) ?_
      intro hCl2
      repeat (go_big_quiet_step ((first | (go_at_call_of 130 S1; exact Cl.call (k1 _)) | (go_at_call_of 130 S2; exact Cl.call (k2 _)))))
      refine wpQuiet_nil ?_
      intro _ hw'
      obtain ⟨y3, hx⟩ := hw'
      subst hx
      by_cases hlt : x < y
      · have hltI : (x : Int) < y := by omega
        have HO : Hid (ordN v u = -1) := HLT.out hlt
        clear HLT HGT HEQ
        go_wp2
        go_ret
        rw [HO.out]
        exact ⟨rfl, bel_call hbW y3.below (Nat.le_refl _)⟩
      · have hltI : ¬ (x : Int) < y := by omega
        by_cases hgt : y < x
        · have hgtI : (y : Int) < x := by omega
          have HO : Hid (ordN v u = 1) := HGT.out hgt
          clear HLT HGT HEQ
          go_wp2
          go_ret
          rw [HO.out]
          exact ⟨rfl, bel_call hbW y3.below (Nat.le_refl _)⟩
        · have hgtI : ¬ (y : Int) < x := by omega
          have HN : Hid (v / 10 ^ R = u / 10 ^ R) := HEQ.out (by omega)
          clear HLT HGT HEQ
          go_wp2
          go_roundg (gk - 1)
          case measure => omega
          case rel => exact ⟨R, y3, by go_num, rfl, by omega, by omega, HN⟩
    · have hgI : ¬ L1 ≤ (Q : Int) - 10001 := by have := HE.out; omega
      have HO : Hid (ordN v u = 0) := by
        have h1 := HQ.out
        rw [show Q = E by omega] at h1
        exact ordN_eq (place_end HM.out.1 HM.out.2 h1)
      clear HQ
      go_wp2
      go_ret
      rw [HO.out]
      exact ⟨rfl, bel_call hbW y2.below (Nat.le_refl _)⟩
set_option maxRecDepth 1000000 in
set_option maxHeartbeats 1600000 in
theorem hcmp_b {S1 S2 : ByteArray} {P1 P2 L1 L2 : Int} {v u T E : Nat} (w : World) (h1 : 0 < S1.size) (h2 : 0 < S2.size) (l1 : HLowC S1 P1 L1) (l2 : HLowC S2 P2 L2)
    (d1 : ∀ Q : Nat, Q ≤ T → HDigC S1 P1 ((Q : Int) - 10000) (v / 10 ^ Q % 10)) (d2 : ∀ Q : Nat, Q ≤ T → HDigC S2 P2 ((Q : Int) - 10000) (u / 10 ^ Q % 10))
    (hv : v < 10 ^ T) (hu : u < 10 ^ T) (ev : v % 10 ^ E = 0) (eu : u % 10 ^ E = 0) (hE : (E : Int) - 10000 = L2) (hT : (T : Int) - 10000 = P1) (hET : E ≤ T) (hT2 : T ≤ 100000) (hP : ¬ P1 < P2) (hL : L2 < L1) :
    Calls Tryz.prog 129 #[.agg #[.string S1, .int .i64 P1], .agg #[.string S2, .int .i64 P2]] w fun e w' => e = .returned (.int .i64 (ordN v u)) ∧ Below w.heap.size w w' := by
  have e1 : S1.toList.isEmpty = false := empty_no S1 h1
  have e2 : S2.toList.isEmpty = false := empty_no S2 h2
  have HF : Hid (v / 10 ^ (T + 1) = u / 10 ^ (T + 1)) := cmp_first hv hu
  have HM : Hid (v % 10 ^ E = 0 ∧ u % 10 ^ E = 0) := ⟨ev, eu⟩
  clear h1 h2 hv hu ev eu
  obtain ⟨W2, hW2⟩ : ∃ W2, (w.alloc (.cells #[.string S1, .int .i64 P1] 91)).alloc (.cells #[.string S2, .int .i64 P2] 91) = W2 := ⟨_, rfl⟩
  have bA : BoxD W2 w.heap.size (.string S1) (.int .i64 P1) := by rw [← hW2]; simp [BoxD, go_sem]
  have bB : BoxD W2 (w.heap.size + 1) (.string S2) (.int .i64 P2) := by rw [← hW2]; simp [BoxD, go_sem]
  have hbW : Below w.heap.size w W2 := by rw [← hW2]; go_grown
  obtain ⟨a0, a1, -, -⟩ := id bA
  obtain ⟨b0, b1, -, -⟩ := id bB
  have c0 : ∀ x : Cl W2, x.w.cell? ⟨w.heap.size, 0, none⟩ = some (.string S1) := fun x => x.cell a0
  have c1 : ∀ x : Cl W2, x.w.cell? ⟨w.heap.size, 1, none⟩ = some (.int .i64 P1) := fun x => x.cell a1
  have c2 : ∀ x : Cl W2, x.w.cell? ⟨w.heap.size + 1, 0, none⟩ = some (.string S2) := fun x => x.cell b0
  have c3 : ∀ x : Cl W2, x.w.cell? ⟨w.heap.size + 1, 1, none⟩ = some (.int .i64 P2) := fun x => x.cell b1
  have HE : Hid ((E : Int) - 10000 = L2) := hE
  have HT : Hid ((T : Int) - 10000 = P1) := hT
  clear hE hT
  go_enter Tryz.func129, Tryz.ntmps129
  go_wp2
  refine wp_region_above W2 (Below.refl _ _) (by kernel_rfl) (by kernel_rfl) ?_
  intro hCl
  repeat (go_big_quiet_step ((go_at_call_of 127 S1; exact Cl.call (l1 _))))
  refine wpQuiet_nil ?_
  intro _ hw'
  obtain ⟨y, hx⟩ := hw'
  subst hx
  go_wp2_with (go_at_call_of 127 S2; refine (Cl.go (l2 _)).mono ?_; rintro e w9 ⟨y, rfl, rfl⟩)
  go_loopg [7] (T + 1 - E) (fun g pv wr => ∃ (Q : Nat) (y : Cl W2), pv = .int .i64 ((Q : Int) - 10001) ∧ wr = y.w ∧ Q = g + E ∧ Q ≤ T + 1 ∧ Hid (v / 10 ^ Q = u / 10 ^ Q))
  case atStart => exact ⟨T + 1, _, by have := HT.out; go_num, rfl, by omega, Nat.le_refl _, HF⟩
  case round =>
    obtain ⟨Q, y2, rfl, rfl, hQg, hQT, HQ⟩ := hrel
    by_cases hgo : E < Q
    · obtain ⟨R, rfl⟩ : ∃ R, Q = R + 1 := ⟨Q - 1, by omega⟩
      have hgI : L2 ≤ ((R + 1 : Nat) : Int) - 10001 := by have := HE.out; omega
      have ep : ((R + 1 : Nat) : Int) - 10001 = (R : Int) - 10000 := by omega
      have k1 := d1 R (by omega)
      have k2 := d2 R (by omega)
      have HLT : Hid (v / 10 ^ R % 10 < u / 10 ^ R % 10 → ordN v u = -1) := fun h => ordN_lt (place_lt HQ.out h)
      have HGT : Hid (u / 10 ^ R % 10 < v / 10 ^ R % 10 → ordN v u = 1) := fun h => ordN_gt (place_lt HQ.out.symm h)
      have HEQ : Hid (v / 10 ^ R % 10 = u / 10 ^ R % 10 → v / 10 ^ R = u / 10 ^ R) := fun h => place_eq HQ.out h
      have hx9 : v / 10 ^ R % 10 < 10 := Nat.mod_lt _ (by decide)
      have hy9 : u / 10 ^ R % 10 < 10 := Nat.mod_lt _ (by decide)
      rw [ep] at hgI ⊢
      clear HQ ep
      generalize v / 10 ^ R % 10 = x at *
      generalize u / 10 ^ R % 10 = y at *
      have hR1 : (R : Int) ≤ 100000 := by omega
      have hR0 : 0 ≤ (R : Int) := by omega
      go_wp2
      refine wp_region_above W2 y2.below (by kernel_rfl) (by kernel_rfl) ?_
      intro hCl2
      repeat (go_big_quiet_step ((first | (go_at_call_of 130 S1; exact Cl.call (k1 _)) | (go_at_call_of 130 S2; exact Cl.call (k2 _)))))
      refine wpQuiet_nil ?_
      intro _ hw'
      obtain ⟨y3, hx⟩ := hw'
      subst hx
      by_cases hlt : x < y
      · have hltI : (x : Int) < y := by omega
        have HO : Hid (ordN v u = -1) := HLT.out hlt
        clear HLT HGT HEQ
        go_wp2
        go_ret
        rw [HO.out]
        exact ⟨rfl, bel_call hbW y3.below (Nat.le_refl _)⟩
      · have hltI : ¬ (x : Int) < y := by omega
        by_cases hgt : y < x
        · have hgtI : (y : Int) < x := by omega
          have HO : Hid (ordN v u = 1) := HGT.out hgt
          clear HLT HGT HEQ
          go_wp2
          go_ret
          rw [HO.out]
          exact ⟨rfl, bel_call hbW y3.below (Nat.le_refl _)⟩
        · have hgtI : ¬ (y : Int) < x := by omega
          have HN : Hid (v / 10 ^ R = u / 10 ^ R) := HEQ.out (by omega)
          clear HLT HGT HEQ
          go_wp2
          go_roundg (gk - 1)
          case measure => omega
          case rel => exact ⟨R, y3, by go_num, rfl, by omega, by omega, HN⟩
    · have hgI : ¬ L2 ≤ (Q : Int) - 10001 := by have := HE.out; omega
      have HO : Hid (ordN v u = 0) := by
        have h1 := HQ.out
        rw [show Q = E by omega] at h1
        exact ordN_eq (place_end HM.out.1 HM.out.2 h1)
      clear HQ
      go_wp2
      go_ret
      rw [HO.out]
      exact ⟨rfl, bel_call hbW y2.below (Nat.le_refl _)⟩
set_option maxRecDepth 1000000 in
set_option maxHeartbeats 1600000 in
theorem hcmp_c {S1 S2 : ByteArray} {P1 P2 L1 L2 : Int} {v u T E : Nat} (w : World) (h1 : 0 < S1.size) (h2 : 0 < S2.size) (l1 : HLowC S1 P1 L1) (l2 : HLowC S2 P2 L2)
    (d1 : ∀ Q : Nat, Q ≤ T → HDigC S1 P1 ((Q : Int) - 10000) (v / 10 ^ Q % 10)) (d2 : ∀ Q : Nat, Q ≤ T → HDigC S2 P2 ((Q : Int) - 10000) (u / 10 ^ Q % 10))
    (hv : v < 10 ^ T) (hu : u < 10 ^ T) (ev : v % 10 ^ E = 0) (eu : u % 10 ^ E = 0) (hE : (E : Int) - 10000 = L1) (hT : (T : Int) - 10000 = P2) (hET : E ≤ T) (hT2 : T ≤ 100000) (hP : P1 < P2) (hL : ¬ L2 < L1) :
    Calls Tryz.prog 129 #[.agg #[.string S1, .int .i64 P1], .agg #[.string S2, .int .i64 P2]] w fun e w' => e = .returned (.int .i64 (ordN v u)) ∧ Below w.heap.size w w' := by
  have e1 : S1.toList.isEmpty = false := empty_no S1 h1
  have e2 : S2.toList.isEmpty = false := empty_no S2 h2
  have HF : Hid (v / 10 ^ (T + 1) = u / 10 ^ (T + 1)) := cmp_first hv hu
  have HM : Hid (v % 10 ^ E = 0 ∧ u % 10 ^ E = 0) := ⟨ev, eu⟩
  clear h1 h2 hv hu ev eu
  obtain ⟨W2, hW2⟩ : ∃ W2, (w.alloc (.cells #[.string S1, .int .i64 P1] 91)).alloc (.cells #[.string S2, .int .i64 P2] 91) = W2 := ⟨_, rfl⟩
  have bA : BoxD W2 w.heap.size (.string S1) (.int .i64 P1) := by rw [← hW2]; simp [BoxD, go_sem]
  have bB : BoxD W2 (w.heap.size + 1) (.string S2) (.int .i64 P2) := by rw [← hW2]; simp [BoxD, go_sem]
  have hbW : Below w.heap.size w W2 := by rw [← hW2]; go_grown
  obtain ⟨a0, a1, -, -⟩ := id bA
  obtain ⟨b0, b1, -, -⟩ := id bB
  have c0 : ∀ x : Cl W2, x.w.cell? ⟨w.heap.size, 0, none⟩ = some (.string S1) := fun x => x.cell a0
  have c1 : ∀ x : Cl W2, x.w.cell? ⟨w.heap.size, 1, none⟩ = some (.int .i64 P1) := fun x => x.cell a1
  have c2 : ∀ x : Cl W2, x.w.cell? ⟨w.heap.size + 1, 0, none⟩ = some (.string S2) := fun x => x.cell b0
  have c3 : ∀ x : Cl W2, x.w.cell? ⟨w.heap.size + 1, 1, none⟩ = some (.int .i64 P2) := fun x => x.cell b1
  have HE : Hid ((E : Int) - 10000 = L1) := hE
  have HT : Hid ((T : Int) - 10000 = P2) := hT
  clear hE hT
  go_enter Tryz.func129, Tryz.ntmps129
  go_wp2
  refine wp_region_above W2 (Below.refl _ _) (by kernel_rfl) (by kernel_rfl) ?_
  intro hCl
  repeat (go_big_quiet_step ((go_at_call_of 127 S1; exact Cl.call (l1 _))))
  refine wpQuiet_nil ?_
  intro _ hw'
  obtain ⟨y, hx⟩ := hw'
  subst hx
  go_wp2_with (go_at_call_of 127 S2; refine (Cl.go (l2 _)).mono ?_; rintro e w9 ⟨y, rfl, rfl⟩)
  go_loopg [7] (T + 1 - E) (fun g pv wr => ∃ (Q : Nat) (y : Cl W2), pv = .int .i64 ((Q : Int) - 10001) ∧ wr = y.w ∧ Q = g + E ∧ Q ≤ T + 1 ∧ Hid (v / 10 ^ Q = u / 10 ^ Q))
  case atStart => exact ⟨T + 1, _, by have := HT.out; go_num, rfl, by omega, Nat.le_refl _, HF⟩
  case round =>
    obtain ⟨Q, y2, rfl, rfl, hQg, hQT, HQ⟩ := hrel
    by_cases hgo : E < Q
    · obtain ⟨R, rfl⟩ : ∃ R, Q = R + 1 := ⟨Q - 1, by omega⟩
      have hgI : L1 ≤ ((R + 1 : Nat) : Int) - 10001 := by have := HE.out; omega
      have ep : ((R + 1 : Nat) : Int) - 10001 = (R : Int) - 10000 := by omega
      have k1 := d1 R (by omega)
      have k2 := d2 R (by omega)
      have HLT : Hid (v / 10 ^ R % 10 < u / 10 ^ R % 10 → ordN v u = -1) := fun h => ordN_lt (place_lt HQ.out h)
      have HGT : Hid (u / 10 ^ R % 10 < v / 10 ^ R % 10 → ordN v u = 1) := fun h => ordN_gt (place_lt HQ.out.symm h)
      have HEQ : Hid (v / 10 ^ R % 10 = u / 10 ^ R % 10 → v / 10 ^ R = u / 10 ^ R) := fun h => place_eq HQ.out h
      have hx9 : v / 10 ^ R % 10 < 10 := Nat.mod_lt _ (by decide)
      have hy9 : u / 10 ^ R % 10 < 10 := Nat.mod_lt _ (by decide)
      rw [ep] at hgI ⊢
      clear HQ ep
      generalize v / 10 ^ R % 10 = x at *
      generalize u / 10 ^ R % 10 = y at *
      have hR1 : (R : Int) ≤ 100000 := by omega
      have hR0 : 0 ≤ (R : Int) := by omega
      go_wp2
      refine wp_region_above W2 y2.below (by kernel_rfl) (by kernel_rfl) ?_
      intro hCl2
      repeat (go_big_quiet_step ((first | (go_at_call_of 130 S1; exact Cl.call (k1 _)) | (go_at_call_of 130 S2; exact Cl.call (k2 _)))))
      refine wpQuiet_nil ?_
      intro _ hw'
      obtain ⟨y3, hx⟩ := hw'
      subst hx
      by_cases hlt : x < y
      · have hltI : (x : Int) < y := by omega
        have HO : Hid (ordN v u = -1) := HLT.out hlt
        clear HLT HGT HEQ
        go_wp2
        go_ret
        rw [HO.out]
        exact ⟨rfl, bel_call hbW y3.below (Nat.le_refl _)⟩
      · have hltI : ¬ (x : Int) < y := by omega
        by_cases hgt : y < x
        · have hgtI : (y : Int) < x := by omega
          have HO : Hid (ordN v u = 1) := HGT.out hgt
          clear HLT HGT HEQ
          go_wp2
          go_ret
          rw [HO.out]
          exact ⟨rfl, bel_call hbW y3.below (Nat.le_refl _)⟩
        · have hgtI : ¬ (y : Int) < x := by omega
          have HN : Hid (v / 10 ^ R = u / 10 ^ R) := HEQ.out (by omega)
          clear HLT HGT HEQ
          go_wp2
          go_roundg (gk - 1)
          case measure => omega
          case rel => exact ⟨R, y3, by go_num, rfl, by omega, by omega, HN⟩
    · have hgI : ¬ L1 ≤ (Q : Int) - 10001 := by have := HE.out; omega
      have HO : Hid (ordN v u = 0) := by
        have h1 := HQ.out
        rw [show Q = E by omega] at h1
        exact ordN_eq (place_end HM.out.1 HM.out.2 h1)
      clear HQ
      go_wp2
      go_ret
      rw [HO.out]
      exact ⟨rfl, bel_call hbW y2.below (Nat.le_refl _)⟩
set_option maxRecDepth 1000000 in
set_option maxHeartbeats 1600000 in
theorem hcmp_d {S1 S2 : ByteArray} {P1 P2 L1 L2 : Int} {v u T E : Nat} (w : World) (h1 : 0 < S1.size) (h2 : 0 < S2.size) (l1 : HLowC S1 P1 L1) (l2 : HLowC S2 P2 L2)
    (d1 : ∀ Q : Nat, Q ≤ T → HDigC S1 P1 ((Q : Int) - 10000) (v / 10 ^ Q % 10)) (d2 : ∀ Q : Nat, Q ≤ T → HDigC S2 P2 ((Q : Int) - 10000) (u / 10 ^ Q % 10))
    (hv : v < 10 ^ T) (hu : u < 10 ^ T) (ev : v % 10 ^ E = 0) (eu : u % 10 ^ E = 0) (hE : (E : Int) - 10000 = L2) (hT : (T : Int) - 10000 = P2) (hET : E ≤ T) (hT2 : T ≤ 100000) (hP : P1 < P2) (hL : L2 < L1) :
    Calls Tryz.prog 129 #[.agg #[.string S1, .int .i64 P1], .agg #[.string S2, .int .i64 P2]] w fun e w' => e = .returned (.int .i64 (ordN v u)) ∧ Below w.heap.size w w' := by
  have e1 : S1.toList.isEmpty = false := empty_no S1 h1
  have e2 : S2.toList.isEmpty = false := empty_no S2 h2
  have HF : Hid (v / 10 ^ (T + 1) = u / 10 ^ (T + 1)) := cmp_first hv hu
  have HM : Hid (v % 10 ^ E = 0 ∧ u % 10 ^ E = 0) := ⟨ev, eu⟩
  clear h1 h2 hv hu ev eu
  obtain ⟨W2, hW2⟩ : ∃ W2, (w.alloc (.cells #[.string S1, .int .i64 P1] 91)).alloc (.cells #[.string S2, .int .i64 P2] 91) = W2 := ⟨_, rfl⟩
  have bA : BoxD W2 w.heap.size (.string S1) (.int .i64 P1) := by rw [← hW2]; simp [BoxD, go_sem]
  have bB : BoxD W2 (w.heap.size + 1) (.string S2) (.int .i64 P2) := by rw [← hW2]; simp [BoxD, go_sem]
  have hbW : Below w.heap.size w W2 := by rw [← hW2]; go_grown
  obtain ⟨a0, a1, -, -⟩ := id bA
  obtain ⟨b0, b1, -, -⟩ := id bB
  have c0 : ∀ x : Cl W2, x.w.cell? ⟨w.heap.size, 0, none⟩ = some (.string S1) := fun x => x.cell a0
  have c1 : ∀ x : Cl W2, x.w.cell? ⟨w.heap.size, 1, none⟩ = some (.int .i64 P1) := fun x => x.cell a1
  have c2 : ∀ x : Cl W2, x.w.cell? ⟨w.heap.size + 1, 0, none⟩ = some (.string S2) := fun x => x.cell b0
  have c3 : ∀ x : Cl W2, x.w.cell? ⟨w.heap.size + 1, 1, none⟩ = some (.int .i64 P2) := fun x => x.cell b1
  have HE : Hid ((E : Int) - 10000 = L2) := hE
  have HT : Hid ((T : Int) - 10000 = P2) := hT
  clear hE hT
  go_enter Tryz.func129, Tryz.ntmps129
  go_wp2
  refine wp_region_above W2 (Below.refl _ _) (by kernel_rfl) (by kernel_rfl) ?_
  intro hCl
  repeat (go_big_quiet_step ((go_at_call_of 127 S1; exact Cl.call (l1 _))))
  refine wpQuiet_nil ?_
  intro _ hw'
  obtain ⟨y, hx⟩ := hw'
  subst hx
  go_wp2_with (go_at_call_of 127 S2; refine (Cl.go (l2 _)).mono ?_; rintro e w9 ⟨y, rfl, rfl⟩)
  go_loopg [7] (T + 1 - E) (fun g pv wr => ∃ (Q : Nat) (y : Cl W2), pv = .int .i64 ((Q : Int) - 10001) ∧ wr = y.w ∧ Q = g + E ∧ Q ≤ T + 1 ∧ Hid (v / 10 ^ Q = u / 10 ^ Q))
  case atStart => exact ⟨T + 1, _, by have := HT.out; go_num, rfl, by omega, Nat.le_refl _, HF⟩
  case round =>
    obtain ⟨Q, y2, rfl, rfl, hQg, hQT, HQ⟩ := hrel
    by_cases hgo : E < Q
    · obtain ⟨R, rfl⟩ : ∃ R, Q = R + 1 := ⟨Q - 1, by omega⟩
      have hgI : L2 ≤ ((R + 1 : Nat) : Int) - 10001 := by have := HE.out; omega
      have ep : ((R + 1 : Nat) : Int) - 10001 = (R : Int) - 10000 := by omega
      have k1 := d1 R (by omega)
      have k2 := d2 R (by omega)
      have HLT : Hid (v / 10 ^ R % 10 < u / 10 ^ R % 10 → ordN v u = -1) := fun h => ordN_lt (place_lt HQ.out h)
      have HGT : Hid (u / 10 ^ R % 10 < v / 10 ^ R % 10 → ordN v u = 1) := fun h => ordN_gt (place_lt HQ.out.symm h)
      have HEQ : Hid (v / 10 ^ R % 10 = u / 10 ^ R % 10 → v / 10 ^ R = u / 10 ^ R) := fun h => place_eq HQ.out h
      have hx9 : v / 10 ^ R % 10 < 10 := Nat.mod_lt _ (by decide)
      have hy9 : u / 10 ^ R % 10 < 10 := Nat.mod_lt _ (by decide)
      rw [ep] at hgI ⊢
      clear HQ ep
      generalize v / 10 ^ R % 10 = x at *
      generalize u / 10 ^ R % 10 = y at *
      have hR1 : (R : Int) ≤ 100000 := by omega
      have hR0 : 0 ≤ (R : Int) := by omega
      go_wp2
      refine wp_region_above W2 y2.below (by kernel_rfl) (by kernel_rfl) ?_
      intro hCl2
      repeat (go_big_quiet_step ((first | (go_at_call_of 130 S1; exact Cl.call (k1 _)) | (go_at_call_of 130 S2; exact Cl.call (k2 _)))))
      refine wpQuiet_nil ?_
      intro _ hw'
      obtain ⟨y3, hx⟩ := hw'
      subst hx
      by_cases hlt : x < y
      · have hltI : (x : Int) < y := by omega
        have HO : Hid (ordN v u = -1) := HLT.out hlt
        clear HLT HGT HEQ
        go_wp2
        go_ret
        rw [HO.out]
        exact ⟨rfl, bel_call hbW y3.below (Nat.le_refl _)⟩
      · have hltI : ¬ (x : Int) < y := by omega
        by_cases hgt : y < x
        · have hgtI : (y : Int) < x := by omega
          have HO : Hid (ordN v u = 1) := HGT.out hgt
          clear HLT HGT HEQ
          go_wp2
          go_ret
          rw [HO.out]
          exact ⟨rfl, bel_call hbW y3.below (Nat.le_refl _)⟩
        · have hgtI : ¬ (y : Int) < x := by omega
          have HN : Hid (v / 10 ^ R = u / 10 ^ R) := HEQ.out (by omega)
          clear HLT HGT HEQ
          go_wp2
          go_roundg (gk - 1)
          case measure => omega
          case rel => exact ⟨R, y3, by go_num, rfl, by omega, by omega, HN⟩
    · have hgI : ¬ L2 ≤ (Q : Int) - 10001 := by have := HE.out; omega
      have HO : Hid (ordN v u = 0) := by
        have h1 := HQ.out
        rw [show Q = E by omega] at h1
        exact ordN_eq (place_end HM.out.1 HM.out.2 h1)
      clear HQ
      go_wp2
      go_ret
      rw [HO.out]
      exact ⟨rfl, bel_call hbW y2.below (Nat.le_refl _)⟩
/-- What Compare answers. -/
theorem hcompare_any (v u : Nat) (w : World) (h1 : (oL v).length ≤ 20000) (h2 : (oL u).length ≤ 20000) (h3 : oP v ≤ 20000) (h4 : oP u ≤ 20000) :
    Calls Tryz.prog 129 #[.agg #[.string (oS v), .int .i64 (oP v)], .agg #[.string (oS u), .int .i64 (oP u)]] w fun e w' => e = .returned (.int .i64 (ordN v u)) ∧ Below w.heap.size w w' := by
  have z1 := oS_size v
  have z2 := oS_size u
  have k1 := o_low v
  have k2 := o_low u
  have n1 : (oS v).size = 0 ↔ v = 0 := by rw [z1, List.length_eq_zero_iff]; exact oL_nil
  have n2 : (oS u).size = 0 ↔ u = 0 := by rw [z2, List.length_eq_zero_iff]; exact oL_nil
  by_cases e1 : (oS v).size = 0
  · by_cases e2 : (oS u).size = 0
    · rw [ordN_eq (by rw [n1.1 e1, n2.1 e2])]
      exact hcmp_nn _ _ w e1 e2
    · rw [ordN_lt (by have := n1.1 e1; have := fun h => e2 (n2.2 h); omega)]
      exact hcmp_ns _ _ w e1 (by omega)
  · by_cases e2 : (oS u).size = 0
    · rw [ordN_gt (by have := n2.1 e2; have := fun h => e1 (n1.2 h); omega)]
      exact hcmp_sn _ _ w (by omega) e2
    · have l1 : HLowC (oS v) (oP v) (oP v - (oS v).size) := fun w => hlow_any (oS v) (oP v) w (by omega) (by omega) (by omega)
      have l2 : HLowC (oS u) (oP u) (oP u - (oS u).size) := fun w => hlow_any (oS u) (oP u) w (by omega) (by omega) (by omega)
      obtain ⟨T, hT⟩ : ∃ T : Nat, (T : Int) = max (oP v) (oP u) + 10000 := ⟨(max (oP v) (oP u) + 10000).toNat, by omega⟩
      obtain ⟨E, hE⟩ : ∃ E : Nat, (E : Int) = min (oP v - (oS v).size) (oP u - (oS u).size) + 10000 := ⟨(min (oP v - (oS v).size) (oP u - (oS u).size) + 10000).toNat, by omega⟩
      have d1 : ∀ Q : Nat, Q ≤ T → HDigC (oS v) (oP v) ((Q : Int) - 10000) (v / 10 ^ Q % 10) := fun Q hQ w => hdigit_any v _ Q w (by omega) (by omega) (by omega) (by omega)
      have d2 : ∀ Q : Nat, Q ≤ T → HDigC (oS u) (oP u) ((Q : Int) - 10000) (u / 10 ^ Q % 10) := fun Q hQ w => hdigit_any u _ Q w (by omega) (by omega) (by omega) (by omega)
      have hv := (o_dec v).lt (q := T) (by omega)
      have hu := (o_dec u).lt (q := T) (by omega)
      have mv := (o_dec v).mod (E := E) (by omega)
      have mu := (o_dec u).mod (E := E) (by omega)
      by_cases hp : oP v < oP u
      · by_cases hl : oP u - (oS u).size < oP v - (oS v).size
        · exact hcmp_d w (by omega) (by omega) l1 l2 d1 d2 hv hu mv mu (by omega) (by omega) (by omega) (by omega) hp hl
        · exact hcmp_c w (by omega) (by omega) l1 l2 d1 d2 hv hu mv mu (by omega) (by omega) (by omega) (by omega) hp hl
      · by_cases hl : oP u - (oS u).size < oP v - (oS v).size
        · exact hcmp_b w (by omega) (by omega) l1 l2 d1 d2 hv hu mv mu (by omega) (by omega) (by omega) (by omega) hp hl
        · exact hcmp_a w (by omega) (by omega) l1 l2 d1 d2 hv hu mv mu (by omega) (by omega) (by omega) (by omega) hp hl
end Go.Proofs.YthbabhbfpcfenaaGreatDoor

/- The document's rows of digits: Of, Times, Text. -/
namespace Go.Proofs.YthbabhbfpcfenaaGreatDoor
open Go.RowKit
set_option linter.unusedVariables false

/-- The cells of a row. -/
def cn (xs : List Nat) : List Value := xs.map fun x : Nat => Value.int .u8 (x : Int)
theorem cn_len (xs : List Nat) : (cn xs).length = xs.length := by simp [cn]
theorem cn_append (a b : List Nat) : cn (a ++ b) = cn a ++ cn b := by simp [cn]
theorem cn_take (xs : List Nat) (m : Nat) : cn (xs.take m) = (cn xs).take m := by simp [cn]
/-- A row of digits in memory, in blocks from B on. -/
structure Nm (w : World) (B : Nat) (ao : Option Addr) (n c : Nat) (xs : List Nat) : Prop where
  own : w.ownsRow B 5 1 (.slice ao n c) n (cn xs)
  lim : ∀ x ∈ xs, x < 10
theorem Nm.len {w : World} {B : Nat} {ao : Option Addr} {n c : Nat} {xs : List Nat} (h : Nm w B ao n c xs) : xs.length = n := by
  have := h.own.1
  rw [cn_len] at this; omega
theorem Nm.nil (w : World) (B : Nat) : Nm w B none 0 0 [] := ⟨World.ownsRow_nil _ _ _ _, fun x hx => by cases hx⟩
theorem Nm.head {w : World} {B : Nat} {ao : Option Addr} {n c : Nat} {xs : List Nat} (h : Nm w B ao n c xs) (hn : 0 < n) : ∃ g, ao = some ⟨g, 0, none⟩ ∧ B ≤ g ∧ g < w.heap.size := by
  rcases h.own.2 with ⟨h1, h2⟩ | ⟨g, cap, cur, h1, hB, hg, -⟩
  · omega
  · cases h1
    exact ⟨g, rfl, hB, (Array.getElem?_eq_some_iff.1 hg).1⟩
theorem Nm.cell {w : World} {B g n c : Nat} {xs : List Nat} (h : Nm w B (some ⟨g, 0, none⟩) n c xs) (j : Nat) (hj : j < n) : w.cell? ⟨g, j, none⟩ = some (.int .u8 ((xs.getD j 0 : Nat) : Int)) := by
  rw [h.own.cellAt j (by omega)]
  have := h.len
  have hj' : j < xs.length := by omega
  simp [cn, hj', List.getD]
theorem Nm.froz {w : World} {B g n c : Nat} {xs : List Nat} (h : Nm w B (some ⟨g, 0, none⟩) n c xs) (j : Nat) : w.frozen? ⟨g, j, none⟩ = false := h.own.frozenAt j
theorem Nm.cnt {w : World} {B : Nat} {ao : Option Addr} {n c : Nat} {xs : List Nat} (h : Nm w B ao n c xs) {m : Nat} (hm : m ≤ n) : Nm w B ao m c (xs.take m) := by
  have hl := h.len
  refine ⟨⟨by rw [cn_len, List.length_take]; omega, ?_⟩, fun x hx => h.lim x (List.mem_of_mem_take hx)⟩
  rcases h.own.2 with ⟨h1, h2⟩ | ⟨g, cap, cur, h1, hB, hg, k1, k2, k3, k4⟩
  · cases h1
    exact .inl ⟨by rw [show m = 0 by omega], by omega⟩
  · cases h1
    refine .inr ⟨g, c, cur, rfl, hB, hg, by omega, k2, k3, ?_⟩
    rw [cn_take, ← k4, List.take_take]
    congr 1; omega
theorem Nm.below {w w' : World} {B : Nat} {ao : Option Addr} {n c : Nat} {xs : List Nat} (h : Nm w B ao n c xs) (b : Below w.heap.size w w') : Nm w' B ao n c xs := by
  refine ⟨⟨h.own.1, ?_⟩, h.lim⟩
  rcases h.own.2 with h1 | ⟨g, cap, cur, h1, hB, hg, k⟩
  · exact .inl h1
  · exact .inr ⟨g, cap, cur, h1, hB, (b.block g (Array.getElem?_eq_some_iff.1 hg).1).trans hg, k⟩
theorem Nm.mono {w : World} {B B' : Nat} {ao : Option Addr} {n c : Nat} {xs : List Nat} (h : Nm w B ao n c xs) (hb : B' ≤ B) : Nm w B' ao n c xs := by
  refine ⟨⟨h.own.1, ?_⟩, h.lim⟩
  rcases h.own.2 with h1 | ⟨g, cap, cur, h1, hB, k⟩
  · exact .inl h1
  · exact .inr ⟨g, cap, cur, h1, Nat.le_trans hb hB, k⟩

theorem Nm.snoc {w w' : World} {B : Nat} {ao : Option Addr} {n c x : Nat} {xs : List Nat} {v : Value} (h : Nm w B ao n c xs) (hx : x < 10) (h' : w'.ownsRow B 5 1 v (n + 1) (cn xs ++ [.int .u8 (x : Int)])) :
    ∃ ao' c', v = .slice ao' (n + 1) c' ∧ Nm w' B ao' (n + 1) c' (xs ++ [x]) := by
  have e : cn xs ++ [.int .u8 (x : Int)] = cn (xs ++ [x]) := by simp [cn]
  rw [e] at h'
  have hl : ∀ y ∈ xs ++ [x], y < 10 := by
    intro y hy
    rcases List.mem_append.1 hy with hy | hy
    · exact h.lim y hy
    · simp at hy; omega
  rcases h'.2 with ⟨h1, h2⟩ | ⟨g, cap, cur, h1, -⟩
  · omega
  · subst h1
    exact ⟨_, _, rfl, h', hl⟩

theorem of_bound {q n m : Nat} {ds : List Nat} (h : q * 10 ^ n + le ds = m) (hq : 0 < q) (hm : m < 18446744073709551616) : n < 20 := by
  rcases Nat.lt_or_ge n 20 with h1 | h1
  · exact h1
  · exfalso
    have h2 : (10 : Nat) ^ 20 ≤ 10 ^ n := Nat.pow_le_pow_right (by decide) h1
    have h3 : 1 * 10 ^ n ≤ q * 10 ^ n := Nat.mul_le_mul_right _ hq
    have h4 : (10 : Nat) ^ 20 = 100000000000000000000 := by decide
    omega
theorem of_step {m n q : Nat} {ds : List Nat} (hl : ds.length = n) (h : q * 10 ^ n + le ds = m) : q / 10 * 10 ^ (n + 1) + le (ds ++ [q % 10]) = m := by
  have e : q / 10 * 10 ^ (n + 1) + q % 10 * 10 ^ n = q * 10 ^ n := by
    rw [Nat.pow_succ, Nat.mul_comm (10 ^ n) 10, ← Nat.mul_assoc, ← Nat.add_mul]
    congr 1; omega
  rw [le_snoc, hl, ← h, ← e]
  generalize q / 10 * 10 ^ (n + 1) = A
  generalize q % 10 * 10 ^ n = C
  omega
set_option maxRecDepth 1000000 in
set_option maxHeartbeats 400000 in
theorem hof_any (m : Nat) (w : World) (hm : m < 18446744073709551616) :
    Calls Tryz.prog 101 #[.int .u64 m] w fun e w' => (∃ ao n c, e = .returned (.slice ao n c) ∧ n ≤ 20 ∧ ∃ ds, Nm w' w.heap.size ao n c ds ∧ le ds = m) ∧ Below w.heap.size w w' := by
  obtain ⟨i0, hi, hz0, hz1, hz2⟩ := info_parts infoU8
  go_enter Tryz.func101, Tryz.ntmps101
  go_wp2
  go_loopg [0, 3] m (fun g qv v wr => ∃ (q n c : Nat) (ao : Option Addr) (ds : List Nat), qv = .int .u64 q ∧ v = .slice ao n c ∧ q = g ∧ q ≤ m ∧ n ≤ 20 ∧ Nm wr w.heap.size ao n c ds ∧ Below w.heap.size w wr ∧ Hid (q * 10 ^ n + le ds = m))
  case atStart => exact ⟨m, 0, 0, none, [], rfl, rfl, rfl, Nat.le_refl _, by omega, Nm.nil _ _, Below.refl _ _, by show _ = _; simp [le]⟩
  case round =>
    obtain ⟨q, n, c, ao, ds, rfl, rfl, rfl, hqm, hn20, hL, hbl, HV⟩ := hrel
    by_cases hq : 0 < q
    · have hqI : 0 < (q : Int) := by omega
      have hn19 := of_bound HV.out hq hm
      have HV2 : Hid (q / 10 * 10 ^ (n + 1) + le (ds ++ [q % 10]) = m) := of_step hL.len HV.out
      have hr : q % 10 < 10 := Nat.mod_lt _ (by decide)
      have hm1 : (q : Int) % 10 = ((q % 10 : Nat) : Int) := by omega
      have hm2 : (q : Int) / 10 = ((q / 10 : Nat) : Int) := by omega
      have hqd : q / 10 < q := by omega
      have hsz := hbl.size
      clear HV
      generalize q % 10 = r at *
      generalize q / 10 = q2 at *
      go_wp2_with (at_builtin; refine wpList_append_own _ rfl _ _ 122 rfl w.heap.size 5 i0 (.int .u8 0) 1 1 Tryz.underlying122 hi hz0 hz1 hz2 rfl (by decide) _ _ _ rfl (hL.own.alloc _) ⟨wr.heap.size, 0, none⟩ 1 1 [.int .u8 (r : Int)] rfl rfl ?c1 ?c2 ?c3 ?c4 ?c5 ?_)
      case c1 =>
        intro j u hj
        match j, hj with
        | 0, hj => simp at hj; subst hj; simp [Addr.add]
      case c2 => intro u hu; simp at hu; subst hu; rfl
      case c3 => unfold maxLen; omega
      case c4 => omega
      case c5 => simp; omega
      intro v' w1 hown' hgrow _
      obtain ⟨ao', c', rfl, hL'⟩ := hL.snoc hr hown'
      have hbl' : Below w.heap.size w w1 := (hbl.alloc hsz _).grown hgrow (by simp; omega) (own_ge hL.own)
      clear hown' hgrow hL
      go_wp2
      go_roundg q2
      case measure => omega
      case rel => exact ⟨q2, n + 1, c', ao', ds ++ [r], by go_num, rfl, rfl, by omega, by omega, hL', hbl', HV2⟩
    · have hqI : ¬ 0 < (q : Int) := by omega
      have HF : Hid (le ds = m) := by
        have := HV.out
        have hq0 : q = 0 := by omega
        show le ds = m
        rw [hq0] at this; simpa using this
      go_wp2
      go_ret
      exact ⟨⟨ao, n, c, rfl, hn20, ds, hL, HF.out⟩, hbl⟩

theorem txt_snoc (l : List Nat) (d : Nat) : txt (l ++ [d]) = db d :: txt l := by simp [txt]
theorem txt_take (ds : List Nat) (k : Nat) (hk : k < ds.length) : txt (ds.take (k + 1)) = db (ds.getD k 0) :: txt (ds.take k) := by
  have : ds.getD k 0 = ds[k] := by rw [List.getD_eq_getElem?_getD, List.getElem?_eq_getElem hk, Option.getD_some]
  rw [List.take_succ_eq_append_getElem hk, txt_snoc, this]
set_option maxRecDepth 1000000 in
set_option maxHeartbeats 800000 in
theorem htext_any (B : Nat) (ao : Option Addr) (n c : Nat) (ds : List Nat) (w : World) (h : Nm w B ao n c ds) (hn : n ≤ 100000) :
    Calls Tryz.prog 104 #[.slice ao n c] w fun e w' => e = .returned (.string ⟨(txt ds).toArray⟩) ∧ Below w.heap.size w w' := by
  obtain ⟨i0, hi, hz0, hz1, hz2⟩ := info_parts infoU8
  have hlen := h.len
  go_enter Tryz.func104, Tryz.ntmps104
  go_wp2_with (at_make; refine wpList_make_full _ rfl _ _ 74 rfl w.heap.size 5 i0 (.int .u8 0) 1 Tryz.underlying74 hi hz0 hz1 .i64 .i64 _ _ n rfl rfl ?c1 ?c2 ?c3 ?c4 ?c5 ?_)
  case c1 => rfl
  case c2 => rfl
  case c3 => rw [hz2]; omega
  case c4 => unfold maxLen; omega
  case c5 => exact Nat.le_refl _
  intro w1 hown hgrow
  have hrow : RowB w1 w.heap.size n n [] := by
    rw [toList_madeCells_one] at hown
    simpa [RowB, cb] using hown
  have hb1 : Below w.heap.size w w1 := (Below.refl _ _).grown hgrow (Nat.le_refl _) (fun k hk => by cases hk)
  clear hown hgrow hi hz0 hz1 hz2
  go_wp2
  go_loopg [11] n (fun g iv wr => ∃ k : Nat, iv = .int .i64 k ∧ k + g = n ∧ RowB wr w.heap.size n (n - k) (txt (ds.take k)) ∧ Below w.heap.size w wr)
  case atStart => exact ⟨0, rfl, Nat.zero_add _, hrow, hb1⟩
  case round =>
    obtain ⟨k, rfl, hkg, hrow, hbl⟩ := hrel
    by_cases hk : k < n
    · have hkI : (k : Int) < n := by omega
      obtain ⟨g, rfl, hBg, hgw⟩ := h.head (by omega)
      have hd9 : ds.getD k 0 < 10 := by
        have hkx : k < ds.length := by omega
        rw [List.getD_eq_getElem?_getD, List.getElem?_eq_getElem hkx, Option.getD_some]
        exact h.lim _ (List.getElem_mem hkx)
      have hc : wr.cell? ⟨g, k, none⟩ = some (.int .u8 ((ds.getD k 0 : Nat) : Int)) := keep hbl (h.cell k hk)
      obtain ⟨a, ha⟩ : ∃ a : Nat, n - k = a + 1 := ⟨n - k - 1, by omega⟩
      rw [ha] at hrow
      have hc2 := hrow.cell
      have hf2 := hrow.froz a
      have haI : (n : Int) - 1 - (k : Int) = (a : Int) := by omega
      have han : a < n := by omega
      have HR : Hid (RowB (wr.setCell ⟨w.heap.size, a, none⟩ (.int .u8 (48 + ((ds.getD k 0 : Nat) : Int)))) w.heap.size n (n - (k + 1)) (txt (ds.take (k + 1)))) := by
        have := hrow.put (db (ds.getD k 0))
        rw [db_nat hd9, ← txt_take ds k (by omega)] at this
        rw [show n - (k + 1) = a by omega]
        push_cast at this ⊢
        exact this
      clear hrow ha
      generalize ds.getD k 0 = d at *
      go_wp2
      go_roundg (gk - 1)
      case measure => omega
      case rel => exact ⟨k + 1, by go_num, by omega, HR.out, hbl.setCell (Nat.le_refl _) _⟩
    · have hkI : ¬ (k : Int) < n := by omega
      have hrow0 : RowB wr w.heap.size n 0 (txt ds) := by
        have := hrow
        rw [show n - k = 0 by omega, List.take_of_length_le (by omega)] at this; exact this
      have hcv := convB wr w.heap.size n (txt ds) hrow0
      clear hrow hrow0
      go_wp2
      go_ret
      exact ⟨rfl, hbl⟩
theorem times_step {b k x cy : Nat} {ds ks : List Nat} (hk : ds.length = k) (h : le ds + 10 ^ k * cy = le ks * b) (hks : ks.length = k) :
    le (ds ++ [(cy + x * b) % 10]) + 10 ^ (k + 1) * ((cy + x * b) / 10) = le (ks ++ [x]) * b := by
  rw [le_snoc, le_snoc, hk, hks, Nat.add_mul, ← h, Nat.pow_succ]
  have e : (cy + x * b) % 10 * 10 ^ k + 10 ^ k * 10 * ((cy + x * b) / 10) = 10 ^ k * cy + x * 10 ^ k * b := by
    have h1 : x * 10 ^ k * b = 10 ^ k * (x * b) := by rw [Nat.mul_comm x, Nat.mul_assoc]
    rw [h1, ← Nat.mul_add, Nat.mul_comm _ (10 ^ k), Nat.mul_assoc, ← Nat.mul_add]
    congr 1
    have := Nat.mod_add_div (cy + x * b) 10
    omega
  rw [Nat.add_assoc, e, Nat.add_assoc]
set_option maxRecDepth 1000000 in
set_option maxHeartbeats 1600000 in
theorem htimes_2 (B : Nat) (ao : Option Addr) (n c : Nat) (xs : List Nat) (w : World) (h : Nm w B ao n c xs) (hn : n ≤ 100000) :
    Calls Tryz.prog 102 #[.slice ao n c, .int .i64 2] w fun e w' => (∃ ao' n' c', e = .returned (.slice ao' n' c') ∧ n' ≤ n + 1 ∧ ∃ ds, Nm w' w.heap.size ao' n' c' ds ∧ le ds = le xs * 2) ∧ Below w.heap.size w w' := by
  obtain ⟨i0, hi, hz0, hz1, hz2⟩ := info_parts infoU8
  have hlen := h.len
  go_enter Tryz.func102, Tryz.ntmps102
  go_wp2
  go_loopg [5, 6, 11] n (fun g v cv iv wr => ∃ (k cy c' : Nat) (ao' : Option Addr) (ds : List Nat), v = .slice ao' k c' ∧ cv = .int .i64 (cy : Int) ∧ iv = .int .i64 (k : Int) ∧ k + g = n ∧ cy ≤ 4 ∧ Nm wr w.heap.size ao' k c' ds ∧ Below w.heap.size w wr ∧ Hid (le ds + 10 ^ k * cy = le (xs.take k) * 2))
  case atStart => exact ⟨0, 0, 0, none, [], rfl, rfl, rfl, Nat.zero_add _, by omega, Nm.nil _ _, Below.refl _ _, by show _ = _; simp [le]⟩
  case round =>
    obtain ⟨k, cy, c', ao', ds, rfl, rfl, rfl, hkg, hcy, hL, hbl, HV⟩ := hrel
    have hsz := hbl.size
    by_cases hk : k < n
    · have hkI : (k : Int) < n := by omega
      obtain ⟨g, rfl, hBg, hgw⟩ := h.head (by omega)
      have hkx : k < xs.length := by omega
      have htake : xs.take (k + 1) = xs.take k ++ [xs[k]] := List.take_succ_eq_append_getElem hkx
      have hx9 : xs[k] < 10 := h.lim _ (List.getElem_mem hkx)
      have hc : wr.cell? ⟨g, k, none⟩ = some (.int .u8 ((xs[k] : Nat) : Int)) := by
        have := h.cell k hk
        rw [List.getD_eq_getElem?_getD, List.getElem?_eq_getElem hkx, Option.getD_some] at this
        exact keep hbl this
      have HV2 : Hid (le (ds ++ [(cy + xs[k] * 2) % 10]) + 10 ^ (k + 1) * ((cy + xs[k] * 2) / 10) = le (xs.take (k + 1)) * 2) := by
        show _ = _
        rw [htake]; exact times_step hL.len HV.out (by rw [List.length_take]; omega)
      clear HV htake
      generalize xs[k] = x at *
      obtain ⟨t, ht⟩ : ∃ t, cy + x * 2 = t := ⟨_, rfl⟩
      rw [ht] at HV2
      have htI : (cy : Int) + (x : Int) * 2 = (t : Int) := by omega
      have ht49 : t ≤ 49 := by omega
      clear ht
      have hm1 : (t : Int) % 10 = ((t % 10 : Nat) : Int) := by omega
      have hm2 : (t : Int) / 10 = ((t / 10 : Nat) : Int) := by omega
      have hr : t % 10 < 10 := Nat.mod_lt _ (by decide)
      have hq : t / 10 ≤ 4 := by omega
      generalize t % 10 = r at *
      generalize t / 10 = q at *
      go_wp2_with (at_builtin; refine wpList_append_own _ rfl _ _ 122 rfl w.heap.size 5 i0 (.int .u8 0) 1 1 Tryz.underlying122 hi hz0 hz1 hz2 rfl (by decide) _ _ _ rfl (hL.own.alloc _) ⟨_, 0, none⟩ 1 1 [.int .u8 (r : Int)] rfl rfl ?c1 ?c2 ?c3 ?c4 ?c5 ?_)
      case c1 =>
        intro j u hj
        match j, hj with
        | 0, hj => simp at hj; subst hj; simp [Addr.add]
      case c2 => intro u hu; simp at hu; subst hu; rfl
      case c3 => unfold maxLen; omega
      case c4 => omega
      case c5 => simp; omega
      intro v' w1 hown' hgrow _
      obtain ⟨ao2, c2, rfl, hL'⟩ := hL.snoc hr hown'
      have hbl' : Below w.heap.size w w1 := (hbl.alloc hsz _).grown hgrow (by simp; omega) (own_ge hL.own)
      clear hown' hgrow hL
      go_wp2
      go_roundg (gk - 1)
      case measure => omega
      case rel => exact ⟨k + 1, q, c2, ao2, ds ++ [r], rfl, by go_num, by go_num, by omega, hq, hL', hbl', HV2⟩
    · have hkI : ¬ (k : Int) < n := by omega
      have HV1 : Hid (le ds + 10 ^ k * cy = le xs * 2) := by
        have := HV.out
        rw [List.take_of_length_le (by omega)] at this; exact this
      have hkn : k ≤ n := by omega
      clear HV
      go_wp2
      go_loopg [5, 6] cy (fun g2 v2 cv2 wr2 => ∃ (n2 cy2 c2 : Nat) (ao2 : Option Addr) (ds2 : List Nat), v2 = .slice ao2 n2 c2 ∧ cv2 = .int .i64 (cy2 : Int) ∧ cy2 = g2 ∧ cy2 ≤ 4 ∧ n2 ≤ k + 1 ∧ (0 < cy2 → n2 ≤ k) ∧ Nm wr2 w.heap.size ao2 n2 c2 ds2 ∧ Below w.heap.size w wr2 ∧ Hid (le ds2 + 10 ^ n2 * cy2 = le xs * 2))
      case atStart => exact ⟨k, cy, c', ao', ds, rfl, rfl, rfl, hcy, by omega, fun _ => Nat.le_refl _, hL, hbl, HV1⟩
      case round =>
        obtain ⟨n2, cy2, c2, ao2, ds2, rfl, rfl, rfl, hcy2, hn2, hn2', hL2, hbl2, HV2⟩ := hrel
        have hsz2 := hbl2.size
        by_cases hc0 : 0 < cy2
        · have hc0I : 0 < (cy2 : Int) := by omega
          have hm1 : (cy2 : Int) % 10 = (cy2 : Int) := by omega
          have hm2 : (cy2 : Int) / 10 = 0 := by omega
          have hn3 := hn2' hc0
          have HV3 : Hid (le (ds2 ++ [cy2]) + 10 ^ (n2 + 1) * 0 = le xs * 2) := by
            show _ = _
            rw [le_snoc, hL2.len, Nat.mul_comm cy2, Nat.mul_zero, Nat.add_zero]; exact HV2.out
          have hr : cy2 < 10 := by omega
          clear HV2 HV1 hn2'
          go_wp2_with (at_builtin; refine wpList_append_own _ rfl _ _ 122 rfl w.heap.size 5 i0 (.int .u8 0) 1 1 Tryz.underlying122 hi hz0 hz1 hz2 rfl (by decide) _ _ _ rfl (hL2.own.alloc _) ⟨_, 0, none⟩ 1 1 [.int .u8 (cy2 : Int)] rfl rfl ?c1 ?c2 ?c3 ?c4 ?c5 ?_)
          case c1 =>
            intro j u hj
            match j, hj with
            | 0, hj => simp at hj; subst hj; simp [Addr.add]
          case c2 => intro u hu; simp at hu; subst hu; rfl
          case c3 => unfold maxLen; omega
          case c4 => omega
          case c5 => simp; omega
          intro v' w1 hown' hgrow _
          obtain ⟨ao3, c3, rfl, hL'⟩ := hL2.snoc hr hown'
          have hbl' : Below w.heap.size w w1 := (hbl2.alloc hsz2 _).grown hgrow (by simp; omega) (own_ge hL2.own)
          clear hown' hgrow hL2
          go_wp2
          go_roundg 0
          case measure => omega
          case rel => exact ⟨n2 + 1, 0, c3, ao3, ds2 ++ [cy2], rfl, by go_num, rfl, by omega, by omega, fun h => absurd h (by omega), hL', hbl', HV3⟩
        · have hc0I : ¬ 0 < (cy2 : Int) := by omega
          have HF : Hid (le ds2 = le xs * 2) := by
            have := HV2.out
            rw [show cy2 = 0 by omega] at this
            show _ = _
            simpa using this
          clear HV2 HV1 hn2'
          go_wp2
          go_ret
          exact ⟨⟨ao2, n2, c2, rfl, by omega, ds2, hL2, HF.out⟩, hbl2⟩
set_option maxRecDepth 1000000 in
set_option maxHeartbeats 1600000 in
theorem htimes_5 (B : Nat) (ao : Option Addr) (n c : Nat) (xs : List Nat) (w : World) (h : Nm w B ao n c xs) (hn : n ≤ 100000) :
    Calls Tryz.prog 102 #[.slice ao n c, .int .i64 5] w fun e w' => (∃ ao' n' c', e = .returned (.slice ao' n' c') ∧ n' ≤ n + 1 ∧ ∃ ds, Nm w' w.heap.size ao' n' c' ds ∧ le ds = le xs * 5) ∧ Below w.heap.size w w' := by
  obtain ⟨i0, hi, hz0, hz1, hz2⟩ := info_parts infoU8
  have hlen := h.len
  go_enter Tryz.func102, Tryz.ntmps102
  go_wp2
  go_loopg [5, 6, 11] n (fun g v cv iv wr => ∃ (k cy c' : Nat) (ao' : Option Addr) (ds : List Nat), v = .slice ao' k c' ∧ cv = .int .i64 (cy : Int) ∧ iv = .int .i64 (k : Int) ∧ k + g = n ∧ cy ≤ 4 ∧ Nm wr w.heap.size ao' k c' ds ∧ Below w.heap.size w wr ∧ Hid (le ds + 10 ^ k * cy = le (xs.take k) * 5))
  case atStart => exact ⟨0, 0, 0, none, [], rfl, rfl, rfl, Nat.zero_add _, by omega, Nm.nil _ _, Below.refl _ _, by show _ = _; simp [le]⟩
  case round =>
    obtain ⟨k, cy, c', ao', ds, rfl, rfl, rfl, hkg, hcy, hL, hbl, HV⟩ := hrel
    have hsz := hbl.size
    by_cases hk : k < n
    · have hkI : (k : Int) < n := by omega
      obtain ⟨g, rfl, hBg, hgw⟩ := h.head (by omega)
      have hkx : k < xs.length := by omega
      have htake : xs.take (k + 1) = xs.take k ++ [xs[k]] := List.take_succ_eq_append_getElem hkx
      have hx9 : xs[k] < 10 := h.lim _ (List.getElem_mem hkx)
      have hc : wr.cell? ⟨g, k, none⟩ = some (.int .u8 ((xs[k] : Nat) : Int)) := by
        have := h.cell k hk
        rw [List.getD_eq_getElem?_getD, List.getElem?_eq_getElem hkx, Option.getD_some] at this
        exact keep hbl this
      have HV2 : Hid (le (ds ++ [(cy + xs[k] * 5) % 10]) + 10 ^ (k + 1) * ((cy + xs[k] * 5) / 10) = le (xs.take (k + 1)) * 5) := by
        show _ = _
        rw [htake]; exact times_step hL.len HV.out (by rw [List.length_take]; omega)
      clear HV htake
      generalize xs[k] = x at *
      obtain ⟨t, ht⟩ : ∃ t, cy + x * 5 = t := ⟨_, rfl⟩
      rw [ht] at HV2
      have htI : (cy : Int) + (x : Int) * 5 = (t : Int) := by omega
      have ht49 : t ≤ 49 := by omega
      clear ht
      have hm1 : (t : Int) % 10 = ((t % 10 : Nat) : Int) := by omega
      have hm2 : (t : Int) / 10 = ((t / 10 : Nat) : Int) := by omega
      have hr : t % 10 < 10 := Nat.mod_lt _ (by decide)
      have hq : t / 10 ≤ 4 := by omega
      generalize t % 10 = r at *
      generalize t / 10 = q at *
      go_wp2_with (at_builtin; refine wpList_append_own _ rfl _ _ 122 rfl w.heap.size 5 i0 (.int .u8 0) 1 1 Tryz.underlying122 hi hz0 hz1 hz2 rfl (by decide) _ _ _ rfl (hL.own.alloc _) ⟨_, 0, none⟩ 1 1 [.int .u8 (r : Int)] rfl rfl ?c1 ?c2 ?c3 ?c4 ?c5 ?_)
      case c1 =>
        intro j u hj
        match j, hj with
        | 0, hj => simp at hj; subst hj; simp [Addr.add]
      case c2 => intro u hu; simp at hu; subst hu; rfl
      case c3 => unfold maxLen; omega
      case c4 => omega
      case c5 => simp; omega
      intro v' w1 hown' hgrow _
      obtain ⟨ao2, c2, rfl, hL'⟩ := hL.snoc hr hown'
      have hbl' : Below w.heap.size w w1 := (hbl.alloc hsz _).grown hgrow (by simp; omega) (own_ge hL.own)
      clear hown' hgrow hL
      go_wp2
      go_roundg (gk - 1)
      case measure => omega
      case rel => exact ⟨k + 1, q, c2, ao2, ds ++ [r], rfl, by go_num, by go_num, by omega, hq, hL', hbl', HV2⟩
    · have hkI : ¬ (k : Int) < n := by omega
      have HV1 : Hid (le ds + 10 ^ k * cy = le xs * 5) := by
        have := HV.out
        rw [List.take_of_length_le (by omega)] at this; exact this
      have hkn : k ≤ n := by omega
      clear HV
      go_wp2
      go_loopg [5, 6] cy (fun g2 v2 cv2 wr2 => ∃ (n2 cy2 c2 : Nat) (ao2 : Option Addr) (ds2 : List Nat), v2 = .slice ao2 n2 c2 ∧ cv2 = .int .i64 (cy2 : Int) ∧ cy2 = g2 ∧ cy2 ≤ 4 ∧ n2 ≤ k + 1 ∧ (0 < cy2 → n2 ≤ k) ∧ Nm wr2 w.heap.size ao2 n2 c2 ds2 ∧ Below w.heap.size w wr2 ∧ Hid (le ds2 + 10 ^ n2 * cy2 = le xs * 5))
      case atStart => exact ⟨k, cy, c', ao', ds, rfl, rfl, rfl, hcy, by omega, fun _ => Nat.le_refl _, hL, hbl, HV1⟩
      case round =>
        obtain ⟨n2, cy2, c2, ao2, ds2, rfl, rfl, rfl, hcy2, hn2, hn2', hL2, hbl2, HV2⟩ := hrel
        have hsz2 := hbl2.size
        by_cases hc0 : 0 < cy2
        · have hc0I : 0 < (cy2 : Int) := by omega
          have hm1 : (cy2 : Int) % 10 = (cy2 : Int) := by omega
          have hm2 : (cy2 : Int) / 10 = 0 := by omega
          have hn3 := hn2' hc0
          have HV3 : Hid (le (ds2 ++ [cy2]) + 10 ^ (n2 + 1) * 0 = le xs * 5) := by
            show _ = _
            rw [le_snoc, hL2.len, Nat.mul_comm cy2, Nat.mul_zero, Nat.add_zero]; exact HV2.out
          have hr : cy2 < 10 := by omega
          clear HV2 HV1 hn2'
          go_wp2_with (at_builtin; refine wpList_append_own _ rfl _ _ 122 rfl w.heap.size 5 i0 (.int .u8 0) 1 1 Tryz.underlying122 hi hz0 hz1 hz2 rfl (by decide) _ _ _ rfl (hL2.own.alloc _) ⟨_, 0, none⟩ 1 1 [.int .u8 (cy2 : Int)] rfl rfl ?c1 ?c2 ?c3 ?c4 ?c5 ?_)
          case c1 =>
            intro j u hj
            match j, hj with
            | 0, hj => simp at hj; subst hj; simp [Addr.add]
          case c2 => intro u hu; simp at hu; subst hu; rfl
          case c3 => unfold maxLen; omega
          case c4 => omega
          case c5 => simp; omega
          intro v' w1 hown' hgrow _
          obtain ⟨ao3, c3, rfl, hL'⟩ := hL2.snoc hr hown'
          have hbl' : Below w.heap.size w w1 := (hbl2.alloc hsz2 _).grown hgrow (by simp; omega) (own_ge hL2.own)
          clear hown' hgrow hL2
          go_wp2
          go_roundg 0
          case measure => omega
          case rel => exact ⟨n2 + 1, 0, c3, ao3, ds2 ++ [cy2], rfl, by go_num, rfl, by omega, by omega, fun h => absurd h (by omega), hL', hbl', HV3⟩
        · have hc0I : ¬ 0 < (cy2 : Int) := by omega
          have HF : Hid (le ds2 = le xs * 5) := by
            have := HV2.out
            rw [show cy2 = 0 by omega] at this
            show _ = _
            simpa using this
          clear HV2 HV1 hn2'
          go_wp2
          go_ret
          exact ⟨⟨ao2, n2, c2, rfl, by omega, ds2, hL2, HF.out⟩, hbl2⟩
end Go.Proofs.YthbabhbfpcfenaaGreatDoor
