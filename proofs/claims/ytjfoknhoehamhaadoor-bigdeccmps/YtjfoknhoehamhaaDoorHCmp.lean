/- The document's Compare. -/
import Derived.Test.YtjfoknhoehamhaaDoorHIn
namespace Go.Proofs.YtjfoknhoehamhaaDoor
open Go.RowKit
set_option linter.unusedVariables false
set_option linter.unusedSimpArgs false

def HLowC (S : ByteArray) (P L : Int) : Prop := ∀ w, Calls Tryd.prog 43 #[.agg #[.string S, .int .i64 P]] w fun e w' => e = .returned (.int .i64 L) ∧ Below w.heap.size w w'
def HDigC (S : ByteArray) (P q : Int) (d : Nat) : Prop := ∀ w, Calls Tryd.prog 44 #[.agg #[.string S, .int .i64 P], .int .i64 q] w fun e w' => e = .returned (.int .i64 (d : Int)) ∧ Below w.heap.size w w'
theorem cmp_first {v u T : Nat} (hv : v < 10 ^ T) (hu : u < 10 ^ T) : v / 10 ^ (T + 1) = u / 10 ^ (T + 1) := by
  have : (10 : Nat) ^ T ≤ 10 ^ (T + 1) := Nat.pow_le_pow_right (by decide) (by omega)
  rw [Nat.div_eq_of_lt (by omega), Nat.div_eq_of_lt (by omega)]
set_option maxRecDepth 1000000 in
set_option maxHeartbeats 800000 in
theorem hcmp_nn {S1 S2 : ByteArray} (P1 P2 : Int) (w : World) (h1 : S1.size = 0) (h2 : S2.size = 0) :
    Calls Tryd.prog 34 #[.agg #[.string S1, .int .i64 P1], .agg #[.string S2, .int .i64 P2]] w fun e w' => e = .returned (.int .i64 (0)) ∧ Below w.heap.size w w' := by
  have e1 : S1.toList.isEmpty = true := empty_yes S1 h1
  have e2 : S2.toList.isEmpty = true := empty_yes S2 h2
  clear h1 h2
  go_enter Tryd.func34, Tryd.ntmps34
  go_wp2
  go_ret
  exact ⟨rfl, by go_grown⟩
set_option maxRecDepth 1000000 in
set_option maxHeartbeats 800000 in
theorem hcmp_ns {S1 S2 : ByteArray} (P1 P2 : Int) (w : World) (h1 : S1.size = 0) (h2 : 0 < S2.size) :
    Calls Tryd.prog 34 #[.agg #[.string S1, .int .i64 P1], .agg #[.string S2, .int .i64 P2]] w fun e w' => e = .returned (.int .i64 (-1)) ∧ Below w.heap.size w w' := by
  have e1 : S1.toList.isEmpty = true := empty_yes S1 h1
  have e2 : S2.toList.isEmpty = false := empty_no S2 h2
  clear h1 h2
  go_enter Tryd.func34, Tryd.ntmps34
  go_wp2
  go_ret
  exact ⟨rfl, by go_grown⟩
set_option maxRecDepth 1000000 in
set_option maxHeartbeats 800000 in
theorem hcmp_sn {S1 S2 : ByteArray} (P1 P2 : Int) (w : World) (h1 : 0 < S1.size) (h2 : S2.size = 0) :
    Calls Tryd.prog 34 #[.agg #[.string S1, .int .i64 P1], .agg #[.string S2, .int .i64 P2]] w fun e w' => e = .returned (.int .i64 (1)) ∧ Below w.heap.size w w' := by
  have e1 : S1.toList.isEmpty = false := empty_no S1 h1
  have e2 : S2.toList.isEmpty = true := empty_yes S2 h2
  clear h1 h2
  go_enter Tryd.func34, Tryd.ntmps34
  go_wp2
  go_ret
  exact ⟨rfl, by go_grown⟩
set_option maxRecDepth 1000000 in
set_option maxHeartbeats 1600000 in
theorem hcmp_a {S1 S2 : ByteArray} {P1 P2 L1 L2 : Int} {v u T E : Nat} (w : World) (h1 : 0 < S1.size) (h2 : 0 < S2.size) (l1 : HLowC S1 P1 L1) (l2 : HLowC S2 P2 L2)
    (d1 : ∀ Q : Nat, Q ≤ T → HDigC S1 P1 ((Q : Int) - 10000) (v / 10 ^ Q % 10)) (d2 : ∀ Q : Nat, Q ≤ T → HDigC S2 P2 ((Q : Int) - 10000) (u / 10 ^ Q % 10))
    (hv : v < 10 ^ T) (hu : u < 10 ^ T) (ev : v % 10 ^ E = 0) (eu : u % 10 ^ E = 0) (hE : (E : Int) - 10000 = L1) (hT : (T : Int) - 10000 = P1) (hET : E ≤ T) (hT2 : T ≤ 100000) (hP : ¬ P1 < P2) (hL : ¬ L2 < L1) :
    Calls Tryd.prog 34 #[.agg #[.string S1, .int .i64 P1], .agg #[.string S2, .int .i64 P2]] w fun e w' => e = .returned (.int .i64 (ordN v u)) ∧ Below w.heap.size w w' := by
  have e1 : S1.toList.isEmpty = false := empty_no S1 h1
  have e2 : S2.toList.isEmpty = false := empty_no S2 h2
  have HF : Hid (v / 10 ^ (T + 1) = u / 10 ^ (T + 1)) := cmp_first hv hu
  have HM : Hid (v % 10 ^ E = 0 ∧ u % 10 ^ E = 0) := ⟨ev, eu⟩
  clear h1 h2 hv hu ev eu
  obtain ⟨W2, hW2⟩ : ∃ W2, (w.alloc (.cells #[.string S1, .int .i64 P1] 23)).alloc (.cells #[.string S2, .int .i64 P2] 23) = W2 := ⟨_, rfl⟩
  have bA : BoxD W2 w.heap.size (.string S1) (.int .i64 P1) := by rw [← hW2]; simp [BoxD, go_sem]
  have bB : BoxD W2 (w.heap.size + 1) (.string S2) (.int .i64 P2) := by rw [← hW2]; simp [BoxD, go_sem]
  have hbW : Below w.heap.size w W2 := by rw [← hW2]; go_grown
  obtain ⟨a0, a1, -, -⟩ := id bA
  obtain ⟨b0, b1, -, -⟩ := id bB
  have c0 : ∀ x : Cl W2, x.w.cell? ⟨w.heap.size, 0, none⟩ = some (.string S1) := fun x => x.cell a0
  have c1 : ∀ x : Cl W2, x.w.cell? ⟨w.heap.size, 1, none⟩ = some (.int .i64 P1) := fun x => x.cell a1
  have c2 : ∀ x : Cl W2, x.w.cell? ⟨w.heap.size + 1, 0, none⟩ = some (.string S2) := fun x => x.cell b0
  have c3 : ∀ x : Cl W2, x.w.cell? ⟨w.heap.size + 1, 1, none⟩ = some (.int .i64 P2) := fun x => x.cell b1
  have HE : Hid ((E : Int) - 10000 = L1) := hE
  have HT : Hid ((T : Int) - 10000 = P1) := hT
  clear hE hT
  go_enter Tryd.func34, Tryd.ntmps34
  go_wp2
  refine wp_region_above W2 (Below.refl _ _) (by kernel_rfl) (by kernel_rfl) ?_
  intro hCl
  repeat (go_big_quiet_step ((go_at_call_of 43 S1; exact Cl.call (l1 _))))
  refine wpQuiet_nil ?_
  intro _ hw'
  obtain ⟨y, hx⟩ := hw'
  subst hx
  go_wp2_with (go_at_call_of 43 S2; refine (Cl.go (l2 _)).mono ?_; rintro e w9 ⟨y, rfl, rfl⟩)
  go_loopg [7] (T + 1 - E) (fun g pv wr => ∃ (Q : Nat) (y : Cl W2), pv = .int .i64 ((Q : Int) - 10001) ∧ wr = y.w ∧ Q = g + E ∧ Q ≤ T + 1 ∧ Hid (v / 10 ^ Q = u / 10 ^ Q))
  case atStart => exact ⟨T + 1, _, by have := HT.out; go_num, rfl, by omega, Nat.le_refl _, HF⟩
  case round =>
    obtain ⟨Q, y2, rfl, rfl, hQg, hQT, HQ⟩ := hrel
    by_cases hgo : E < Q
    · obtain ⟨R, rfl⟩ : ∃ R, Q = R + 1 := ⟨Q - 1, by omega⟩
      have hgI : L1 ≤ ((R + 1 : Nat) : Int) - 10001 := by have := HE.out; omega
      have ep : ((R + 1 : Nat) : Int) - 10001 = (R : Int) - 10000 := by omega
      have k1 := d1 R (by omega)
      have k2 := d2 R (by omega)
      have HLT : Hid (v / 10 ^ R % 10 < u / 10 ^ R % 10 → ordN v u = -1) := fun h => ordN_lt (place_lt HQ.out h)
      have HGT : Hid (u / 10 ^ R % 10 < v / 10 ^ R % 10 → ordN v u = 1) := fun h => ordN_gt (place_lt HQ.out.symm h)
      have HEQ : Hid (v / 10 ^ R % 10 = u / 10 ^ R % 10 → v / 10 ^ R = u / 10 ^ R) := fun h => place_eq HQ.out h
      have hx9 : v / 10 ^ R % 10 < 10 := Nat.mod_lt _ (by decide)
      have hy9 : u / 10 ^ R % 10 < 10 := Nat.mod_lt _ (by decide)
      rw [ep] at hgI ⊢
      clear HQ ep
      generalize v / 10 ^ R % 10 = x at *
      generalize u / 10 ^ R % 10 = y at *
      have hR1 : (R : Int) ≤ 100000 := by omega
      have hR0 : 0 ≤ (R : Int) := by omega
      go_wp2
      refine wp_region_above W2 y2.below (by kernel_rfl) (by kernel_rfl) ?_
      intro hCl2
      repeat (go_big_quiet_step ((first | (go_at_call_of 44 S1; exact Cl.call (k1 _)) | (go_at_call_of 44 S2; exact Cl.call (k2 _)))))
      refine wpQuiet_nil ?_
      intro _ hw'
      obtain ⟨y3, hx⟩ := hw'
      subst hx
      by_cases hlt : x < y
      · have hltI : (x : Int) < y := by omega
        have HO : Hid (ordN v u = -1) := HLT.out hlt
        clear HLT HGT HEQ
        go_wp2
        go_ret
        rw [HO.out]
        exact ⟨rfl, bel_call hbW y3.below (Nat.le_refl _)⟩
      · have hltI : ¬ (x : Int) < y := by omega
        by_cases hgt : y < x
        · have hgtI : (y : Int) < x := by omega
          have HO : Hid (ordN v u = 1) := HGT.out hgt
          clear HLT HGT HEQ
          go_wp2
          go_ret
          rw [HO.out]
          exact ⟨rfl, bel_call hbW y3.below (Nat.le_refl _)⟩
        · have hgtI : ¬ (y : Int) < x := by omega
          have HN : Hid (v / 10 ^ R = u / 10 ^ R) := HEQ.out (by omega)
          clear HLT HGT HEQ
          go_wp2
          go_roundg (gk - 1)
          case measure => omega
          case rel => exact ⟨R, y3, by go_num, rfl, by omega, by omega, HN⟩
    · have hgI : ¬ L1 ≤ (Q : Int) - 10001 := by have := HE.out; omega
      have HO : Hid (ordN v u = 0) := by
        have h1 := HQ.out
        rw [show Q = E by omega] at h1
        exact ordN_eq (place_end HM.out.1 HM.out.2 h1)
      clear HQ
      go_wp2
      go_ret
      rw [HO.out]
      exact ⟨rfl, bel_call hbW y2.below (Nat.le_refl _)⟩
set_option maxRecDepth 1000000 in
set_option maxHeartbeats 1600000 in
theorem hcmp_b {S1 S2 : ByteArray} {P1 P2 L1 L2 : Int} {v u T E : Nat} (w : World) (h1 : 0 < S1.size) (h2 : 0 < S2.size) (l1 : HLowC S1 P1 L1) (l2 : HLowC S2 P2 L2)
    (d1 : ∀ Q : Nat, Q ≤ T → HDigC S1 P1 ((Q : Int) - 10000) (v / 10 ^ Q % 10)) (d2 : ∀ Q : Nat, Q ≤ T → HDigC S2 P2 ((Q : Int) - 10000) (u / 10 ^ Q % 10))
    (hv : v < 10 ^ T) (hu : u < 10 ^ T) (ev : v % 10 ^ E = 0) (eu : u % 10 ^ E = 0) (hE : (E : Int) - 10000 = L2) (hT : (T : Int) - 10000 = P1) (hET : E ≤ T) (hT2 : T ≤ 100000) (hP : ¬ P1 < P2) (hL : L2 < L1) :
    Calls Tryd.prog 34 #[.agg #[.string S1, .int .i64 P1], .agg #[.string S2, .int .i64 P2]] w fun e w' => e = .returned (.int .i64 (ordN v u)) ∧ Below w.heap.size w w' := by
  have e1 : S1.toList.isEmpty = false := empty_no S1 h1
  have e2 : S2.toList.isEmpty = false := empty_no S2 h2
  have HF : Hid (v / 10 ^ (T + 1) = u / 10 ^ (T + 1)) := cmp_first hv hu
  have HM : Hid (v % 10 ^ E = 0 ∧ u % 10 ^ E = 0) := ⟨ev, eu⟩
  clear h1 h2 hv hu ev eu
  obtain ⟨W2, hW2⟩ : ∃ W2, (w.alloc (.cells #[.string S1, .int .i64 P1] 23)).alloc (.cells #[.string S2, .int .i64 P2] 23) = W2 := ⟨_, rfl⟩
  have bA : BoxD W2 w.heap.size (.string S1) (.int .i64 P1) := by rw [← hW2]; simp [BoxD, go_sem]
  have bB : BoxD W2 (w.heap.size + 1) (.string S2) (.int .i64 P2) := by rw [← hW2]; simp [BoxD, go_sem]
  have hbW : Below w.heap.size w W2 := by rw [← hW2]; go_grown
  obtain ⟨a0, a1, -, -⟩ := id bA
  obtain ⟨b0, b1, -, -⟩ := id bB
  have c0 : ∀ x : Cl W2, x.w.cell? ⟨w.heap.size, 0, none⟩ = some (.string S1) := fun x => x.cell a0
  have c1 : ∀ x : Cl W2, x.w.cell? ⟨w.heap.size, 1, none⟩ = some (.int .i64 P1) := fun x => x.cell a1
  have c2 : ∀ x : Cl W2, x.w.cell? ⟨w.heap.size + 1, 0, none⟩ = some (.string S2) := fun x => x.cell b0
  have c3 : ∀ x : Cl W2, x.w.cell? ⟨w.heap.size + 1, 1, none⟩ = some (.int .i64 P2) := fun x => x.cell b1
  have HE : Hid ((E : Int) - 10000 = L2) := hE
  have HT : Hid ((T : Int) - 10000 = P1) := hT
  clear hE hT
  go_enter Tryd.func34, Tryd.ntmps34
  go_wp2
  refine wp_region_above W2 (Below.refl _ _) (by kernel_rfl) (by kernel_rfl) ?_
  intro hCl
  repeat (go_big_quiet_step ((go_at_call_of 43 S1; exact Cl.call (l1 _))))
  refine wpQuiet_nil ?_
  intro _ hw'
  obtain ⟨y, hx⟩ := hw'
  subst hx
  go_wp2_with (go_at_call_of 43 S2; refine (Cl.go (l2 _)).mono ?_; rintro e w9 ⟨y, rfl, rfl⟩)
  go_loopg [7] (T + 1 - E) (fun g pv wr => ∃ (Q : Nat) (y : Cl W2), pv = .int .i64 ((Q : Int) - 10001) ∧ wr = y.w ∧ Q = g + E ∧ Q ≤ T + 1 ∧ Hid (v / 10 ^ Q = u / 10 ^ Q))
  case atStart => exact ⟨T + 1, _, by have := HT.out; go_num, rfl, by omega, Nat.le_refl _, HF⟩
  case round =>
    obtain ⟨Q, y2, rfl, rfl, hQg, hQT, HQ⟩ := hrel
    by_cases hgo : E < Q
    · obtain ⟨R, rfl⟩ : ∃ R, Q = R + 1 := ⟨Q - 1, by omega⟩
      have hgI : L2 ≤ ((R + 1 : Nat) : Int) - 10001 := by have := HE.out; omega
      have ep : ((R + 1 : Nat) : Int) - 10001 = (R : Int) - 10000 := by omega
      have k1 := d1 R (by omega)
      have k2 := d2 R (by omega)
      have HLT : Hid (v / 10 ^ R % 10 < u / 10 ^ R % 10 → ordN v u = -1) := fun h => ordN_lt (place_lt HQ.out h)
      have HGT : Hid (u / 10 ^ R % 10 < v / 10 ^ R % 10 → ordN v u = 1) := fun h => ordN_gt (place_lt HQ.out.symm h)
      have HEQ : Hid (v / 10 ^ R % 10 = u / 10 ^ R % 10 → v / 10 ^ R = u / 10 ^ R) := fun h => place_eq HQ.out h
      have hx9 : v / 10 ^ R % 10 < 10 := Nat.mod_lt _ (by decide)
      have hy9 : u / 10 ^ R % 10 < 10 := Nat.mod_lt _ (by decide)
      rw [ep] at hgI ⊢
      clear HQ ep
      generalize v / 10 ^ R % 10 = x at *
      generalize u / 10 ^ R % 10 = y at *
      have hR1 : (R : Int) ≤ 100000 := by omega
      have hR0 : 0 ≤ (R : Int) := by omega
      go_wp2
      refine wp_region_above W2 y2.below (by kernel_rfl) (by kernel_rfl) ?_
      intro hCl2
      repeat (go_big_quiet_step ((first | (go_at_call_of 44 S1; exact Cl.call (k1 _)) | (go_at_call_of 44 S2; exact Cl.call (k2 _)))))
      refine wpQuiet_nil ?_
      intro _ hw'
      obtain ⟨y3, hx⟩ := hw'
      subst hx
      by_cases hlt : x < y
      · have hltI : (x : Int) < y := by omega
        have HO : Hid (ordN v u = -1) := HLT.out hlt
        clear HLT HGT HEQ
        go_wp2
        go_ret
        rw [HO.out]
        exact ⟨rfl, bel_call hbW y3.below (Nat.le_refl _)⟩
      · have hltI : ¬ (x : Int) < y := by omega
        by_cases hgt : y < x
        · have hgtI : (y : Int) < x := by omega
          have HO : Hid (ordN v u = 1) := HGT.out hgt
          clear HLT HGT HEQ
          go_wp2
          go_ret
          rw [HO.out]
          exact ⟨rfl, bel_call hbW y3.below (Nat.le_refl _)⟩
        · have hgtI : ¬ (y : Int) < x := by omega
          have HN : Hid (v / 10 ^ R = u / 10 ^ R) := HEQ.out (by omega)
          clear HLT HGT HEQ
          go_wp2
          go_roundg (gk - 1)
          case measure => omega
          case rel => exact ⟨R, y3, by go_num, rfl, by omega, by omega, HN⟩
    · have hgI : ¬ L2 ≤ (Q : Int) - 10001 := by have := HE.out; omega
      have HO : Hid (ordN v u = 0) := by
        have h1 := HQ.out
        rw [show Q = E by omega] at h1
        exact ordN_eq (place_end HM.out.1 HM.out.2 h1)
      clear HQ
      go_wp2
      go_ret
      rw [HO.out]
      exact ⟨rfl, bel_call hbW y2.below (Nat.le_refl _)⟩
set_option maxRecDepth 1000000 in
set_option maxHeartbeats 1600000 in
theorem hcmp_c {S1 S2 : ByteArray} {P1 P2 L1 L2 : Int} {v u T E : Nat} (w : World) (h1 : 0 < S1.size) (h2 : 0 < S2.size) (l1 : HLowC S1 P1 L1) (l2 : HLowC S2 P2 L2)
    (d1 : ∀ Q : Nat, Q ≤ T → HDigC S1 P1 ((Q : Int) - 10000) (v / 10 ^ Q % 10)) (d2 : ∀ Q : Nat, Q ≤ T → HDigC S2 P2 ((Q : Int) - 10000) (u / 10 ^ Q % 10))
    (hv : v < 10 ^ T) (hu : u < 10 ^ T) (ev : v % 10 ^ E = 0) (eu : u % 10 ^ E = 0) (hE : (E : Int) - 10000 = L1) (hT : (T : Int) - 10000 = P2) (hET : E ≤ T) (hT2 : T ≤ 100000) (hP : P1 < P2) (hL : ¬ L2 < L1) :
    Calls Tryd.prog 34 #[.agg #[.string S1, .int .i64 P1], .agg #[.string S2, .int .i64 P2]] w fun e w' => e = .returned (.int .i64 (ordN v u)) ∧ Below w.heap.size w w' := by
  have e1 : S1.toList.isEmpty = false := empty_no S1 h1
  have e2 : S2.toList.isEmpty = false := empty_no S2 h2
  have HF : Hid (v / 10 ^ (T + 1) = u / 10 ^ (T + 1)) := cmp_first hv hu
  have HM : Hid (v % 10 ^ E = 0 ∧ u % 10 ^ E = 0) := ⟨ev, eu⟩
  clear h1 h2 hv hu ev eu
  obtain ⟨W2, hW2⟩ : ∃ W2, (w.alloc (.cells #[.string S1, .int .i64 P1] 23)).alloc (.cells #[.string S2, .int .i64 P2] 23) = W2 := ⟨_, rfl⟩
  have bA : BoxD W2 w.heap.size (.string S1) (.int .i64 P1) := by rw [← hW2]; simp [BoxD, go_sem]
  have bB : BoxD W2 (w.heap.size + 1) (.string S2) (.int .i64 P2) := by rw [← hW2]; simp [BoxD, go_sem]
  have hbW : Below w.heap.size w W2 := by rw [← hW2]; go_grown
  obtain ⟨a0, a1, -, -⟩ := id bA
  obtain ⟨b0, b1, -, -⟩ := id bB
  have c0 : ∀ x : Cl W2, x.w.cell? ⟨w.heap.size, 0, none⟩ = some (.string S1) := fun x => x.cell a0
  have c1 : ∀ x : Cl W2, x.w.cell? ⟨w.heap.size, 1, none⟩ = some (.int .i64 P1) := fun x => x.cell a1
  have c2 : ∀ x : Cl W2, x.w.cell? ⟨w.heap.size + 1, 0, none⟩ = some (.string S2) := fun x => x.cell b0
  have c3 : ∀ x : Cl W2, x.w.cell? ⟨w.heap.size + 1, 1, none⟩ = some (.int .i64 P2) := fun x => x.cell b1
  have HE : Hid ((E : Int) - 10000 = L1) := hE
  have HT : Hid ((T : Int) - 10000 = P2) := hT
  clear hE hT
  go_enter Tryd.func34, Tryd.ntmps34
  go_wp2
  refine wp_region_above W2 (Below.refl _ _) (by kernel_rfl) (by kernel_rfl) ?_
  intro hCl
  repeat (go_big_quiet_step ((go_at_call_of 43 S1; exact Cl.call (l1 _))))
  refine wpQuiet_nil ?_
  intro _ hw'
  obtain ⟨y, hx⟩ := hw'
  subst hx
  go_wp2_with (go_at_call_of 43 S2; refine (Cl.go (l2 _)).mono ?_; rintro e w9 ⟨y, rfl, rfl⟩)
  go_loopg [7] (T + 1 - E) (fun g pv wr => ∃ (Q : Nat) (y : Cl W2), pv = .int .i64 ((Q : Int) - 10001) ∧ wr = y.w ∧ Q = g + E ∧ Q ≤ T + 1 ∧ Hid (v / 10 ^ Q = u / 10 ^ Q))
  case atStart => exact ⟨T + 1, _, by have := HT.out; go_num, rfl, by omega, Nat.le_refl _, HF⟩
  case round =>
    obtain ⟨Q, y2, rfl, rfl, hQg, hQT, HQ⟩ := hrel
    by_cases hgo : E < Q
    · obtain ⟨R, rfl⟩ : ∃ R, Q = R + 1 := ⟨Q - 1, by omega⟩
      have hgI : L1 ≤ ((R + 1 : Nat) : Int) - 10001 := by have := HE.out; omega
      have ep : ((R + 1 : Nat) : Int) - 10001 = (R : Int) - 10000 := by omega
      have k1 := d1 R (by omega)
      have k2 := d2 R (by omega)
      have HLT : Hid (v / 10 ^ R % 10 < u / 10 ^ R % 10 → ordN v u = -1) := fun h => ordN_lt (place_lt HQ.out h)
      have HGT : Hid (u / 10 ^ R % 10 < v / 10 ^ R % 10 → ordN v u = 1) := fun h => ordN_gt (place_lt HQ.out.symm h)
      have HEQ : Hid (v / 10 ^ R % 10 = u / 10 ^ R % 10 → v / 10 ^ R = u / 10 ^ R) := fun h => place_eq HQ.out h
      have hx9 : v / 10 ^ R % 10 < 10 := Nat.mod_lt _ (by decide)
      have hy9 : u / 10 ^ R % 10 < 10 := Nat.mod_lt _ (by decide)
      rw [ep] at hgI ⊢
      clear HQ ep
      generalize v / 10 ^ R % 10 = x at *
      generalize u / 10 ^ R % 10 = y at *
      have hR1 : (R : Int) ≤ 100000 := by omega
      have hR0 : 0 ≤ (R : Int) := by omega
      go_wp2
      refine wp_region_above W2 y2.below (by kernel_rfl) (by kernel_rfl) ?_
      intro hCl2
      repeat (go_big_quiet_step ((first | (go_at_call_of 44 S1; exact Cl.call (k1 _)) | (go_at_call_of 44 S2; exact Cl.call (k2 _)))))
      refine wpQuiet_nil ?_
      intro _ hw'
      obtain ⟨y3, hx⟩ := hw'
      subst hx
      by_cases hlt : x < y
      · have hltI : (x : Int) < y := by omega
        have HO : Hid (ordN v u = -1) := HLT.out hlt
        clear HLT HGT HEQ
        go_wp2
        go_ret
        rw [HO.out]
        exact ⟨rfl, bel_call hbW y3.below (Nat.le_refl _)⟩
      · have hltI : ¬ (x : Int) < y := by omega
        by_cases hgt : y < x
        · have hgtI : (y : Int) < x := by omega
          have HO : Hid (ordN v u = 1) := HGT.out hgt
          clear HLT HGT HEQ
          go_wp2
          go_ret
          rw [HO.out]
          exact ⟨rfl, bel_call hbW y3.below (Nat.le_refl _)⟩
        · have hgtI : ¬ (y : Int) < x := by omega
          have HN : Hid (v / 10 ^ R = u / 10 ^ R) := HEQ.out (by omega)
          clear HLT HGT HEQ
          go_wp2
          go_roundg (gk - 1)
          case measure => omega
          case rel => exact ⟨R, y3, by go_num, rfl, by omega, by omega, HN⟩
    · have hgI : ¬ L1 ≤ (Q : Int) - 10001 := by have := HE.out; omega
      have HO : Hid (ordN v u = 0) := by
        have h1 := HQ.out
        rw [show Q = E by omega] at h1
        exact ordN_eq (place_end HM.out.1 HM.out.2 h1)
      clear HQ
      go_wp2
      go_ret
      rw [HO.out]
      exact ⟨rfl, bel_call hbW y2.below (Nat.le_refl _)⟩
set_option maxRecDepth 1000000 in
set_option maxHeartbeats 1600000 in
theorem hcmp_d {S1 S2 : ByteArray} {P1 P2 L1 L2 : Int} {v u T E : Nat} (w : World) (h1 : 0 < S1.size) (h2 : 0 < S2.size) (l1 : HLowC S1 P1 L1) (l2 : HLowC S2 P2 L2)
    (d1 : ∀ Q : Nat, Q ≤ T → HDigC S1 P1 ((Q : Int) - 10000) (v / 10 ^ Q % 10)) (d2 : ∀ Q : Nat, Q ≤ T → HDigC S2 P2 ((Q : Int) - 10000) (u / 10 ^ Q % 10))
    (hv : v < 10 ^ T) (hu : u < 10 ^ T) (ev : v % 10 ^ E = 0) (eu : u % 10 ^ E = 0) (hE : (E : Int) - 10000 = L2) (hT : (T : Int) - 10000 = P2) (hET : E ≤ T) (hT2 : T ≤ 100000) (hP : P1 < P2) (hL : L2 < L1) :
    Calls Tryd.prog 34 #[.agg #[.string S1, .int .i64 P1], .agg #[.string S2, .int .i64 P2]] w fun e w' => e = .returned (.int .i64 (ordN v u)) ∧ Below w.heap.size w w' := by
  have e1 : S1.toList.isEmpty = false := empty_no S1 h1
  have e2 : S2.toList.isEmpty = false := empty_no S2 h2
  have HF : Hid (v / 10 ^ (T + 1) = u / 10 ^ (T + 1)) := cmp_first hv hu
  have HM : Hid (v % 10 ^ E = 0 ∧ u % 10 ^ E = 0) := ⟨ev, eu⟩
  clear h1 h2 hv hu ev eu
  obtain ⟨W2, hW2⟩ : ∃ W2, (w.alloc (.cells #[.string S1, .int .i64 P1] 23)).alloc (.cells #[.string S2, .int .i64 P2] 23) = W2 := ⟨_, rfl⟩
  have bA : BoxD W2 w.heap.size (.string S1) (.int .i64 P1) := by rw [← hW2]; simp [BoxD, go_sem]
  have bB : BoxD W2 (w.heap.size + 1) (.string S2) (.int .i64 P2) := by rw [← hW2]; simp [BoxD, go_sem]
  have hbW : Below w.heap.size w W2 := by rw [← hW2]; go_grown
  obtain ⟨a0, a1, -, -⟩ := id bA
  obtain ⟨b0, b1, -, -⟩ := id bB
  have c0 : ∀ x : Cl W2, x.w.cell? ⟨w.heap.size, 0, none⟩ = some (.string S1) := fun x => x.cell a0
  have c1 : ∀ x : Cl W2, x.w.cell? ⟨w.heap.size, 1, none⟩ = some (.int .i64 P1) := fun x => x.cell a1
  have c2 : ∀ x : Cl W2, x.w.cell? ⟨w.heap.size + 1, 0, none⟩ = some (.string S2) := fun x => x.cell b0
  have c3 : ∀ x : Cl W2, x.w.cell? ⟨w.heap.size + 1, 1, none⟩ = some (.int .i64 P2) := fun x => x.cell b1
  have HE : Hid ((E : Int) - 10000 = L2) := hE
  have HT : Hid ((T : Int) - 10000 = P2) := hT
  clear hE hT
  go_enter Tryd.func34, Tryd.ntmps34
  go_wp2
  refine wp_region_above W2 (Below.refl _ _) (by kernel_rfl) (by kernel_rfl) ?_
  intro hCl
  repeat (go_big_quiet_step ((go_at_call_of 43 S1; exact Cl.call (l1 _))))
  refine wpQuiet_nil ?_
  intro _ hw'
  obtain ⟨y, hx⟩ := hw'
  subst hx
  go_wp2_with (go_at_call_of 43 S2; refine (Cl.go (l2 _)).mono ?_; rintro e w9 ⟨y, rfl, rfl⟩)
  go_loopg [7] (T + 1 - E) (fun g pv wr => ∃ (Q : Nat) (y : Cl W2), pv = .int .i64 ((Q : Int) - 10001) ∧ wr = y.w ∧ Q = g + E ∧ Q ≤ T + 1 ∧ Hid (v / 10 ^ Q = u / 10 ^ Q))
  case atStart => exact ⟨T + 1, _, by have := HT.out; go_num, rfl, by omega, Nat.le_refl _, HF⟩
  case round =>
    obtain ⟨Q, y2, rfl, rfl, hQg, hQT, HQ⟩ := hrel
    by_cases hgo : E < Q
    · obtain ⟨R, rfl⟩ : ∃ R, Q = R + 1 := ⟨Q - 1, by omega⟩
      have hgI : L2 ≤ ((R + 1 : Nat) : Int) - 10001 := by have := HE.out; omega
      have ep : ((R + 1 : Nat) : Int) - 10001 = (R : Int) - 10000 := by omega
      have k1 := d1 R (by omega)
      have k2 := d2 R (by omega)
      have HLT : Hid (v / 10 ^ R % 10 < u / 10 ^ R % 10 → ordN v u = -1) := fun h => ordN_lt (place_lt HQ.out h)
      have HGT : Hid (u / 10 ^ R % 10 < v / 10 ^ R % 10 → ordN v u = 1) := fun h => ordN_gt (place_lt HQ.out.symm h)
      have HEQ : Hid (v / 10 ^ R % 10 = u / 10 ^ R % 10 → v / 10 ^ R = u / 10 ^ R) := fun h => place_eq HQ.out h
      have hx9 : v / 10 ^ R % 10 < 10 := Nat.mod_lt _ (by decide)
      have hy9 : u / 10 ^ R % 10 < 10 := Nat.mod_lt _ (by decide)
      rw [ep] at hgI ⊢
      clear HQ ep
      generalize v / 10 ^ R % 10 = x at *
      generalize u / 10 ^ R % 10 = y at *
      have hR1 : (R : Int) ≤ 100000 := by omega
      have hR0 : 0 ≤ (R : Int) := by omega
      go_wp2
      refine wp_region_above W2 y2.below (by kernel_rfl) (by kernel_rfl) ?_
      intro hCl2
      repeat (go_big_quiet_step ((first | (go_at_call_of 44 S1; exact Cl.call (k1 _)) | (go_at_call_of 44 S2; exact Cl.call (k2 _)))))
      refine wpQuiet_nil ?_
      intro _ hw'
      obtain ⟨y3, hx⟩ := hw'
      subst hx
      by_cases hlt : x < y
      · have hltI : (x : Int) < y := by omega
        have HO : Hid (ordN v u = -1) := HLT.out hlt
        clear HLT HGT HEQ
        go_wp2
        go_ret
        rw [HO.out]
        exact ⟨rfl, bel_call hbW y3.below (Nat.le_refl _)⟩
      · have hltI : ¬ (x : Int) < y := by omega
        by_cases hgt : y < x
        · have hgtI : (y : Int) < x := by omega
          have HO : Hid (ordN v u = 1) := HGT.out hgt
          clear HLT HGT HEQ
          go_wp2
          go_ret
          rw [HO.out]
          exact ⟨rfl, bel_call hbW y3.below (Nat.le_refl _)⟩
        · have hgtI : ¬ (y : Int) < x := by omega
          have HN : Hid (v / 10 ^ R = u / 10 ^ R) := HEQ.out (by omega)
          clear HLT HGT HEQ
          go_wp2
          go_roundg (gk - 1)
          case measure => omega
          case rel => exact ⟨R, y3, by go_num, rfl, by omega, by omega, HN⟩
    · have hgI : ¬ L2 ≤ (Q : Int) - 10001 := by have := HE.out; omega
      have HO : Hid (ordN v u = 0) := by
        have h1 := HQ.out
        rw [show Q = E by omega] at h1
        exact ordN_eq (place_end HM.out.1 HM.out.2 h1)
      clear HQ
      go_wp2
      go_ret
      rw [HO.out]
      exact ⟨rfl, bel_call hbW y2.below (Nat.le_refl _)⟩
/-- What Compare answers. -/
theorem hcompare_any (v u : Nat) (w : World) (h1 : (oL v).length ≤ 20000) (h2 : (oL u).length ≤ 20000) (h3 : oP v ≤ 20000) (h4 : oP u ≤ 20000) :
    Calls Tryd.prog 34 #[.agg #[.string (oS v), .int .i64 (oP v)], .agg #[.string (oS u), .int .i64 (oP u)]] w fun e w' => e = .returned (.int .i64 (ordN v u)) ∧ Below w.heap.size w w' := by
  have z1 := oS_size v
  have z2 := oS_size u
  have k1 := o_low v
  have k2 := o_low u
  have n1 : (oS v).size = 0 ↔ v = 0 := by rw [z1, List.length_eq_zero_iff]; exact oL_nil
  have n2 : (oS u).size = 0 ↔ u = 0 := by rw [z2, List.length_eq_zero_iff]; exact oL_nil
  by_cases e1 : (oS v).size = 0
  · by_cases e2 : (oS u).size = 0
    · rw [ordN_eq (by rw [n1.1 e1, n2.1 e2])]
      exact hcmp_nn _ _ w e1 e2
    · rw [ordN_lt (by have := n1.1 e1; have := fun h => e2 (n2.2 h); omega)]
      exact hcmp_ns _ _ w e1 (by omega)
  · by_cases e2 : (oS u).size = 0
    · rw [ordN_gt (by have := n2.1 e2; have := fun h => e1 (n1.2 h); omega)]
      exact hcmp_sn _ _ w (by omega) e2
    · have l1 : HLowC (oS v) (oP v) (oP v - (oS v).size) := fun w => hlow_any (oS v) (oP v) w (by omega) (by omega) (by omega)
      have l2 : HLowC (oS u) (oP u) (oP u - (oS u).size) := fun w => hlow_any (oS u) (oP u) w (by omega) (by omega) (by omega)
      obtain ⟨T, hT⟩ : ∃ T : Nat, (T : Int) = max (oP v) (oP u) + 10000 := ⟨(max (oP v) (oP u) + 10000).toNat, by omega⟩
      obtain ⟨E, hE⟩ : ∃ E : Nat, (E : Int) = min (oP v - (oS v).size) (oP u - (oS u).size) + 10000 := ⟨(min (oP v - (oS v).size) (oP u - (oS u).size) + 10000).toNat, by omega⟩
      have d1 : ∀ Q : Nat, Q ≤ T → HDigC (oS v) (oP v) ((Q : Int) - 10000) (v / 10 ^ Q % 10) := fun Q hQ w => hdigit_any v _ Q w (by omega) (by omega) (by omega) (by omega)
      have d2 : ∀ Q : Nat, Q ≤ T → HDigC (oS u) (oP u) ((Q : Int) - 10000) (u / 10 ^ Q % 10) := fun Q hQ w => hdigit_any u _ Q w (by omega) (by omega) (by omega) (by omega)
      have hv := (o_dec v).lt (q := T) (by omega)
      have hu := (o_dec u).lt (q := T) (by omega)
      have mv := (o_dec v).mod (E := E) (by omega)
      have mu := (o_dec u).mod (E := E) (by omega)
      by_cases hp : oP v < oP u
      · by_cases hl : oP u - (oS u).size < oP v - (oS v).size
        · exact hcmp_d w (by omega) (by omega) l1 l2 d1 d2 hv hu mv mu (by omega) (by omega) (by omega) (by omega) hp hl
        · exact hcmp_c w (by omega) (by omega) l1 l2 d1 d2 hv hu mv mu (by omega) (by omega) (by omega) (by omega) hp hl
      · by_cases hl : oP u - (oS u).size < oP v - (oS v).size
        · exact hcmp_b w (by omega) (by omega) l1 l2 d1 d2 hv hu mv mu (by omega) (by omega) (by omega) (by omega) hp hl
        · exact hcmp_a w (by omega) (by omega) l1 l2 d1 d2 hv hu mv mu (by omega) (by omega) (by omega) (by omega) hp hl
end Go.Proofs.YtjfoknhoehamhaaDoor
